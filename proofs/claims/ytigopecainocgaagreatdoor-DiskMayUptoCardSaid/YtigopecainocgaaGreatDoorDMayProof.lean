/- Proved: whatever two disks and row of operations DiskMay of puncheonlaw08 is called with, the call returns true, and all reads behind it as it read before (the statement Rows.DiskMayUptoCardSaid). Condition: what came in holds at most 1048576 values and letters (the statement's own); the tables stand as the program's text lays them (the card ties them). -/
import Derived.Test.YtigopecainocgaaGreatDoorDBulk
import Derived.Test.YtigopecainocgaaGreatDoorDMay
set_option maxRecDepth 100000
set_option maxHeartbeats 32000000
namespace Go.Proofs.YtigopecainocgaaGreatDoor.DiskMayP
open Go.ChangeShapes Go.WideShapes Go.ChangeAt Go.RowKit Go.Joins Go.Deep
open Go.ChangeMaps (open_string shut_string)
theorem met (os:Os):laidMet Tryz.prog Rows.diskMayUptoRow.laid ((laidWorld os).forCall (fun _ _=>0) ⟨#[],#[zeroDisk,zeroDisk,.slice none 0 0],[]⟩).memory :=
 laid_met os _
theorem reads (os:Os) {H:Type} (enc:TypeId × Value→H):∃ places,DataW.whole enc Tryz.prog ((laidWorld os).forCall (fun _ _=>0) ⟨#[],#[zeroDisk,zeroDisk,.slice none 0 0],[]⟩).memory Tryz.f3.params.toList Rows.diskMaySpec.vars false #[zeroDisk,zeroDisk,Value.slice none 0 0].toList 8 = some ([zeroDiskD,zeroDiskD,.nil],[],places) :=
 ⟨[],by kernel_rfl⟩
theorem lifted (os:Os) (started:os.Started) (H:Type) (enc:TypeId × Value→H) (F:Stop.Interp) :
  ReturnsInHanded {} Tryz.checked os 3 .any ((Rows.OpenSpec.upto Rows.diskMaySpec).preRow enc Tryz.prog Tryz.f3 Rows.diskMayUptoRow.domain false Rows.diskMayUptoRow.laid) (((Rows.OpenSpec.upto Rows.diskMaySpec).at F).post enc Tryz.prog Tryz.f3 false true false false):=by
 obtain⟨places,hx⟩:=reads os enc
 refine returnsInHanded_of_row (C:=Tryz.checked) (s:=Rows.OpenSpec.upto Rows.diskMaySpec) own0 started (by kernel_rfl) Tryz.func3
  (witness_row_at (enc:=enc) (C:=Tryz.checked) false (laidWorld os) #[zeroDisk,zeroDisk,.slice none 0 0] rfl (by kernel_rfl) (by kernel_rfl) (by kernel_rfl)
   (OpenSpec.preRow_of_cond 8 hx (by kernel_rfl) (fun k hk=>by cases hk;kernel_rfl) (by kernel_rfl) (met os))) ?_
 intro W base args ds gs before hval0 hW _ hcond hsz0 hL hsh _
 have hval:∀ (j:Nat) t v,Tryz.f3.params[j]? = some t→args[j]? = some v→Value.okWide Tryz.prog W .any base t v:=hval0
 have hsm:Rows.uptoBulkAll (ds++gs)≤1048576:=of_decide_eq_true (hcond _ rfl)
 clear hsz0 hcond
 have hW':=hW
 obtain⟨p,q,hA0,hV,rfl,hfz,hnd⟩:=hW
 have hA:DataW.TrodAll enc Tryz.prog W 0 (fun _=>true) true Tryz.f3.params.toList args.toList ds p:=hA0
 rw [Tryz.params3] at hA hval
 obtain⟨v0,vs0,d0,ds0,p0,q0,hargs,rfl,rfl,h0,r0⟩:=trodAll_cons hA
 obtain⟨v1,vs1,d1,ds1,p1,q1,rfl,rfl,rfl,h1,r1⟩:=trodAll_cons r0
 obtain⟨v2,vs2,d2,ds2,p2,q2,rfl,rfl,rfl,h2,r2⟩:=trodAll_cons r1
 obtain⟨rfl,rfl,rfl⟩:=trodAll_nil r2
 obtain rfl:args = #[v0,v1,v2]:=by cases args;simp_all
 obtain⟨rfl,rfl⟩:=trodVars_none hV
 obtain⟨cs0,rfl⟩:=okWide_disk (hval 0 27 v0 rfl rfl)
 obtain⟨cs1,rfl⟩:=okWide_disk (hval 1 27 v1 rfl rfl)
 obtain⟨a2,n2,c2,rfl⟩:=okWide_slice Tryz.underlying25 (hval 2 25 v2 rfl rfl)
 have h0k:=h0
 obtain⟨fuel0,hf0⟩:=h0
 have h1k:=h1
 obtain⟨fuel1,hf1⟩:=h1
 have h2k:=h2
 obtain⟨fuel2,hf2⟩:=h2
 clear hA0 hval0
 simp only [List.append_nil] at hW'
 have hlt0:∀ x∈p0,x.block<W.heap.size:=fun x hx=>by simpa using hW'.lt x (by simp [hx])
 have hlt1:∀ x∈p1,x.block<W.heap.size:=fun x hx=>by simpa using hW'.lt x (by simp [hx])
 have hlt2:∀ x∈p2,x.block<W.heap.size:=fun x hx=>by simpa using hW'.lt x (by simp [hx])
 have hb0:Rows.uptoBulk d0≤1048576:=Nat.le_trans (bulk_part (by simp)) hsm
 have hb1:Rows.uptoBulk d1≤1048576:=Nat.le_trans (bulk_part (by simp)) hsm
 have hb2:Rows.uptoBulk d2≤1048576:=Nat.le_trans (bulk_part (by simp)) hsm
 obtain⟨iv0,wv0,k0,rfl,hr0,hm0,hi0,ho0⟩:=argDU_of (by simpa [Value.cells] using hf0) hlt0
 have hs0:∀ y∈k0.safe,y.path.length≤1048576:=fun y hy=>Nat.le_trans (hi0 y hy) hb0
 have ht0:∀ y∈k0.wait,y.path.length≤1048576∧y.to.length≤1048576:=fun y hy=>⟨Nat.le_trans (ho0 y hy).1 hb0,Nat.le_trans (ho0 y hy).2 hb0⟩
 have hz0:SzD k0:=⟨fun y hy=>Nat.le_trans (hs0 y hy) (by decide),fun y hy=>⟨Nat.le_trans (ht0 y hy).1 (by decide),Nat.le_trans (ht0 y hy).2 (by decide)⟩,hm0⟩
 have hs0:∀ y∈k0.safe,y.path.length≤2000000:=fun y hy=>Nat.le_trans (hs0 y hy) (by decide)
 have ht0:∀ y∈k0.wait,y.path.length≤2000000∧y.to.length≤2000000:=fun y hy=>⟨Nat.le_trans (ht0 y hy).1 (by decide),Nat.le_trans (ht0 y hy).2 (by decide)⟩
 obtain⟨iv1,wv1,k1,rfl,hr1,hm1,hi1,ho1⟩:=argDU_of (by simpa [Value.cells] using hf1) hlt1
 have hs1:∀ y∈k1.safe,y.path.length≤1048576:=fun y hy=>Nat.le_trans (hi1 y hy) hb1
 have ht1:∀ y∈k1.wait,y.path.length≤1048576∧y.to.length≤1048576:=fun y hy=>⟨Nat.le_trans (ho1 y hy).1 hb1,Nat.le_trans (ho1 y hy).2 hb1⟩
 have hz1:SzD k1:=⟨fun y hy=>Nat.le_trans (hs1 y hy) (by decide),fun y hy=>⟨Nat.le_trans (ht1 y hy).1 (by decide),Nat.le_trans (ht1 y hy).2 (by decide)⟩,hm1⟩
 have hs1:∀ y∈k1.safe,y.path.length≤2000000:=fun y hy=>Nat.le_trans (hs1 y hy) (by decide)
 have ht1:∀ y∈k1.wait,y.path.length≤2000000∧y.to.length≤2000000:=fun y hy=>⟨Nat.le_trans (ht1 y hy).1 (by decide),Nat.le_trans (ht1 y hy).2 (by decide)⟩
 obtain⟨l2,hr2,hw2'⟩:=argOU_of (by simpa [Value.cells] using hf2) hlt2
 refine (may8_any k0 k1 iv0 wv0 iv1 wv1 _ l2 W hr0 hr1 hr2 hz0 hz1 hs0 hs1 ht0 ht1 (tabs hL hsh)).mono fun e W' ⟨he,hb⟩=>?_
 subst he
 exact⟨_,rfl,_,_,_,[],_,[],hW',(trodAll_cons_mk (shut_bool Tryz.underlying4 _) trodAll_mk0),(trodAll_cons_mk (Below.trod laidOut (by kernel_rfl) (of_decide_eq_true (by kernel_rfl)) h0k hb hlt0) (trodAll_cons_mk (Below.trod laidOut (by kernel_rfl) (of_decide_eq_true (by kernel_rfl)) h1k hb hlt1) (trodAll_cons_mk (Below.trod laidOut (by kernel_rfl) (of_decide_eq_true (by kernel_rfl)) h2k hb hlt2) trodAll_mk0))),rfl,hb.frame _,fun h=>by cases h⟩
theorem said:Rows.DiskMayUptoSaid :=
 OpenClaim.holds_of_cond 3 Tryz.f3 rfl rfl rfl rfl rfl rfl rfl ⟨rfl,rfl,rfl,rfl,rfl⟩ rfl rfl rfl rfl rfl (by kernel_rfl) Tryz.func3 (by kernel_rfl)
  (of_decide_eq_true (by kernel_rfl)) (by unfold Func.isWrapper;first | (rw [if_pos (by decide +kernel)];kernel_rfl) | (rw [if_neg (by decide +kernel)];exact⟨rfl,rfl⟩))
  (fun os started H enc _ F=>by rw [OpenClaim.pre_eq_preRow];exact lifted os started H enc F)
theorem plain (f:FuncId) (fn:Func) (hf:Tryz.pinned.checked.prog.funcNamed "puncheon/puncheonlaw08.DiskMay" = some f) (hfn:Tryz.pinned.checked.prog.funcs[f]? = some fn) :
  false = Tryz.pinned.checked.prog.looks []∧∀ (j:Nat) t,fn.params[j]? = some t→Tryz.pinned.checked.prog.wantsStandIn t = false:=by
 obtain rfl:f = 3:=Option.some.inj ((show Tryz.prog.funcNamed "puncheon/puncheonlaw08.DiskMay" = some 3 by kernel_rfl).symm.trans hf) |>.symm
 obtain rfl:fn = Tryz.f3:=(Option.some.inj (Tryz.func3.symm.trans hfn)).symm
 refine⟨by kernel_rfl,fun j t ht=>?_⟩
 rw [Tryz.params3] at ht
 have hm:t∈[27,27,25]:=by simpa using Array.mem_of_getElem? ht
 have hall:([27,27,25].all fun u=>!Tryz.prog.wantsStandIn u) = true:=by kernel_rfl
 exact (show Tryz.prog.wantsStandIn t = false by simpa using List.all_eq_true.1 hall t hm)
end Go.Proofs.YtigopecainocgaaGreatDoor.DiskMayP
namespace Go.Proofs.YtigopecainocgaaGreatDoor
theorem diskMay_upto_card:Rows.DiskMayUptoCardSaid :=
 Claim7.holds_tied_plain_at .later [] _ _ _ _ DiskMayP.said (fun _ h=>by cases h) (by kernel_rfl) (fun _ h=>by cases h) diskMayUpto_row_tie rfl ⟨rfl,rfl⟩ (by kernel_rfl) rfl DiskMayP.plain (by kernel_rfl)
#print axioms diskMay_upto_card
end Go.Proofs.YtigopecainocgaaGreatDoor
