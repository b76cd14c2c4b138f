/- Proved here: kinds of package tree: which method does what kind of operation. -/
import Derived.Test.YtigopecainocgaaGreatDoorOChk
import Derived.Maps.OwnSet
import Derived.Maps.OwnOps
import Derived.Maps.Views
set_option maxRecDepth 100000
set_option maxHeartbeats 32000000
namespace Go.Proofs.YtigopecainocgaaGreatDoor
open Go.RowKit Go.Shelf Go.Maps
def RV (v : Value) : Option (DataW Value × List MemPlace):=some (.held v,[])
theorem wpList_insert_held (w : World) {ops : Array Oper} {rest : List Oper} {o : Oper} {a : Act} {Q : Exit → Act → World → Prop}
  (hg : o.guard = none) (m x v : Operand) (t : TypeId) (hop : o.op = Op.insert t m x v)
  (k e : TypeId) (K : Keyed Tryz.prog k) (ht : Tryz.prog.underlying t = some (.map k e)) (b n : Nat) (D : DataW Value)
  (hm : a.eval m = .map (some b)) (hown : w.ownsMap Tryz.prog k RV b n D) (hn : n < maxLen) (key val : Value) (kl : Lit) (hx : a.eval x = key) (hv : a.eval v = val) (hkey : keyOf Tryz.prog k key = some kl)
  (hK : ∀ w',w'.ownsMap Tryz.prog k RV b (n + 1) (D.put kl (.held val)) → w.grownBy w' (some b) → wpList Tryz.prog ops Q rest (a.put o.dst undef) w') :
  wpList Tryz.prog ops Q (o :: rest) a w:=by
 refine wpList_plain hg fun K' hK' => ?_
 obtain ⟨w',hrun,r1,r2⟩:=hown.update K ht hn hkey (show RV val = some (.held val,[]) from rfl)
 unfold Oper.wp
 simp [execOp,hop,hm,hx,hv,hrun,Result.andThen]
 exact hK' _ _ (hK w' r1 r2)
theorem law3 : Keyed Tryz.prog 3:=int_keyed Tryz.underlying3
def methV (b k : Nat) : Value:=.func (.func (62 + k)) #[.pointer (some ⟨b,0,none⟩)] #[]
def kindsD (b : Nat) : DataW Value:=((((((((DataW.map []).put (.int .i64 1) (.held (methV b 1))).put (.int .i64 2) (.held (methV b 2))).put (.int .i64 3) (.held (methV b 3))).put (.int .i64 4) (.held (methV b 4))).put (.int .i64 5) (.held (methV b 5))).put (.int .i64 6) (.held (methV b 6))).put (.int .i64 7) (.held (methV b 7)))
theorem run_makeMap (w : World) : (Instr.makeMap 79 none).run Tryz.prog w = .ok (.map (some w.heap.size)) (w.alloc (.map #[] 0)):=by
 simp [Instr.makeMap,Result.andThen]
theorem gr_below {B mb : Nat} {a w w' : World} (h : Below B a w) (hg : w.grownBy w' (some mb)) (hm : B ≤ mb) (ha : B ≤ w.heap.size:=by exact (‹Below _ _ _›).size) : Below B a w' :=
 ⟨hg.os.trans h.os,hg.tape.trans h.tape,hg.output.trans h.output,Nat.le_trans h.size hg.size,fun k hk => (hg.block k (Nat.lt_of_lt_of_le hk ha) (fun e => by injection e with e; omega)).trans (h.block k hk)⟩
theorem kinds_any (b : Nat) (w : World) : Calls Tryz.prog 46 #[.pointer (some ⟨b,0,none⟩)] w fun e w' => ∃ mb n,e = .returned (.map (some mb)) ∧ w.heap.size ≤ mb ∧ w'.ownsMap Tryz.prog 3 RV mb n (kindsD b) ∧ Below w.heap.size w w':=by
 have hmk:=run_makeMap w
 obtain ⟨mb,hmb⟩:=nmq (w.heap.size)
 obtain ⟨w1,hw1⟩:=nmq (w.alloc (.map #[] 0))
 have HM : Hid (w1.ownsMap Tryz.prog 3 RV mb 0 (.map [])):=hyq (by rw [hw1,hmb]; exact World.ownsMap_made w Tryz.prog 3 RV)
 have HB : Hid (Below w.heap.size w w1):=hyq (by rw [hw1]; exact below_new _ _)
 have HMB2 : Hid (w.heap.size ≤ mb):=hyq (by rw [hmb]; exact Nat.le_refl _)
 rw [← hmb,← hw1] at hmk
 clear hmb hw1
 go_enter Tryz.func46,Tryz.ntmps46
 go_wp2_with (first | (refine wpList_insert_held _ rfl _ _ _ 79 rfl 3 81 law3 Tryz.underlying79 mb _ _ rfl HM.out (by unfold maxLen; omega) (.int .i64 1) (methV b 1) (.int .i64 1) rfl rfl (by kernel_rfl) ?_; intro w' hm hg; have HB:=hyq (gr_below HB.out hg HMB2.out); have HM:=hyq hm; clear hm hg) | (refine wpList_insert_held _ rfl _ _ _ 79 rfl 3 81 law3 Tryz.underlying79 mb _ _ rfl HM.out (by unfold maxLen; omega) (.int .i64 2) (methV b 2) (.int .i64 2) rfl rfl (by kernel_rfl) ?_; intro w' hm hg; have HB:=hyq (gr_below HB.out hg HMB2.out); have HM:=hyq hm; clear hm hg) | (refine wpList_insert_held _ rfl _ _ _ 79 rfl 3 81 law3 Tryz.underlying79 mb _ _ rfl HM.out (by unfold maxLen; omega) (.int .i64 3) (methV b 3) (.int .i64 3) rfl rfl (by kernel_rfl) ?_; intro w' hm hg; have HB:=hyq (gr_below HB.out hg HMB2.out); have HM:=hyq hm; clear hm hg) | (refine wpList_insert_held _ rfl _ _ _ 79 rfl 3 81 law3 Tryz.underlying79 mb _ _ rfl HM.out (by unfold maxLen; omega) (.int .i64 4) (methV b 4) (.int .i64 4) rfl rfl (by kernel_rfl) ?_; intro w' hm hg; have HB:=hyq (gr_below HB.out hg HMB2.out); have HM:=hyq hm; clear hm hg) | (refine wpList_insert_held _ rfl _ _ _ 79 rfl 3 81 law3 Tryz.underlying79 mb _ _ rfl HM.out (by unfold maxLen; omega) (.int .i64 5) (methV b 5) (.int .i64 5) rfl rfl (by kernel_rfl) ?_; intro w' hm hg; have HB:=hyq (gr_below HB.out hg HMB2.out); have HM:=hyq hm; clear hm hg) | (refine wpList_insert_held _ rfl _ _ _ 79 rfl 3 81 law3 Tryz.underlying79 mb _ _ rfl HM.out (by unfold maxLen; omega) (.int .i64 6) (methV b 6) (.int .i64 6) rfl rfl (by kernel_rfl) ?_; intro w' hm hg; have HB:=hyq (gr_below HB.out hg HMB2.out); have HM:=hyq hm; clear hm hg) | (refine wpList_insert_held _ rfl _ _ _ 79 rfl 3 81 law3 Tryz.underlying79 mb _ _ rfl HM.out (by unfold maxLen; omega) (.int .i64 7) (methV b 7) (.int .i64 7) rfl rfl (by kernel_rfl) ?_; intro w' hm hg; have HB:=hyq (gr_below HB.out hg HMB2.out); have HM:=hyq hm; clear hm hg))
 go_ret
 exact ⟨mb,_,rfl,HMB2.out,HM.out,HB.out⟩
end Go.Proofs.YtigopecainocgaaGreatDoor
