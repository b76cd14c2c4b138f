/- Proved here: full, open and add of package tree. -/
import Derived.Test.YtigopecainocgaaGreatDoorTK
import Derived.Test.YtigopecainocgaaGreatDoorOGrow
set_option maxRecDepth 100000
set_option maxHeartbeats 32000000
namespace Go.Proofs.YtigopecainocgaaGreatDoor
open Go.RowKit Go.Shelf
def CutG (vs : World) (y : It) (is : Bool) (pa pf : Value) (wx : World) : Prop:=∃ b7,pa = .pointer (some ⟨b7,0,none⟩) ∧ pf = .bool is ∧ Hid (Box wx b7 59 y.arr) ∧ Hid (Below vs.heap.size vs wx) ∧ Hid (vs.heap.size ≤ b7)
theorem wp_store_if {P : Program} {op : Oper} {a : Act} {w : World} {K : Act → World → Prop} {Q : Exit → Act → World → Prop} {ops : Array Oper} (hw : Region.wanted op (yielded ops a.tmps) = true) (ty : TypeId) (x y : Operand) (ho : op.op = .store ty x y)
  (g t : Nat) (old cells : Array Value) (hx : a.eval x = .pointer (some ⟨g,0,none⟩)) (hy : a.eval y = .agg cells) (hg : Box w g t old) (hi : (P.info? ty).map (·.size) = some cells.size) (hsz : old.size = cells.size) (h1 : cells.all (·.oneCell') = true)
  (h : K (a.put op.dst undef) (w.setRow g cells)) : if Region.wanted op (yielded ops a.tmps) = true then op.wp P a w K Q else K (a.put op.dst undef) w:=by
 rw [if_pos hw]
 exact Go.wp_store_row ty x y ho g cells hx hy t old hg hi hsz h1 h
theorem Nxt.kept {b : Nat} {v v' : Value} {w w' : World} {B : Nat} {l : List It} (h : Nxt b v v' w w') (hG : Gr w B b v l) {x : Nat} (hx : x < B) : w'.heap[x]? = w.heap[x]?:=by
 have hlt:=hG.box.lt
 refine h.block x (Nat.lt_of_lt_of_le hx (Nat.le_trans hG.low (Nat.le_of_lt hlt))) (by have:=hG.low; omega) fun e => ?_
 rcases own_form hG.own with ⟨_,q⟩ | ⟨r,c,_,hr,_,q,_⟩
 ·rw [q] at e; cases e
 ·rw [q] at e; cases e; omega
theorem tree_sz {l : List It} (h : TreeOk l) : ∀ x ∈ l,x.path.length ≤ 140737488355328:=fun x hx => Nat.le_trans (valid_len x.path (h.kid x hx).1.1) (by decide)
theorem srt_of {l : List It} (h : TreeOk l) : Srt l:=h.sorted
def openO : Option It → Int
 | none => 4
 | some d => if d.kind = 1 then 0 else 161
theorem open_o (l : List It) (p : Str) : openM l p = openO (getI l (upL p)):=by
 unfold openM openO
 cases getI l (upL p) <;> rfl
def resO (l : List It) : Except Int (List It) → List It × Int
 | .error z => (l,z)
 | .ok l' => (l',0)
def GrR (B b : Nat) (v : Value) (l : List It) (r : Except Int (List It)) (w : World) (e : Ending) (w' : World) : Prop:=∃ v',e = .returned (.int .i64 (resO l r).2) ∧ Gr w' B b v' (resO l r).1 ∧ Nxt b v v' w w'
theorem GrR.no {B b : Nat} {v : Value} {l : List It} {w w' : World} {z : Int} {r : Except Int (List It)} (hr : r = .error z) (hG : Gr w B b v l) (hb : Below w.heap.size w w') : GrR B b v l r w (.returned (.int .i64 z)) w':=by
 subst hr; exact ⟨v,rfl,hG.on hb,Nxt.below hb b v⟩
theorem GrR.yes {B b : Nat} {v v' : Value} {l l' : List It} {w w' : World} {r : Except Int (List It)} (hr : r = .ok l') (hG : Gr w' B b v' l') (hb : Nxt b v v' w w') : GrR B b v l r w (.returned (.int .i64 0)) w':=by
 subst hr; exact ⟨v',rfl,hG,hb⟩
theorem full_any (B b : Nat) (v : Value) (l : List It) (w : World) (hG : Gr w B b v l) : Calls Tryz.prog 87 #[.pointer (some ⟨b,0,none⟩)] w fun e w' => e = .returned (.bool (decide (l.length = 2000))) ∧ w = w':=by
 obtain ⟨a,c,rfl,_⟩:=own_slice hG.own
 obtain ⟨n,hn⟩:=nmq (l.length)
 rw [← hn] at hG ⊢
 have p0 : w.cell? ⟨b,0,none⟩ = some (.slice a n c):=hG.box.cell (k:=0) rfl
 clear hG hn
 go_enter Tryz.func87,Tryz.ntmps87
 go_wp2_with fail
 go_ret
 refine ⟨retb ?_,rfl⟩
 rw [Bool.eq_iff_iff]
 simp
 try omega
theorem open_any (B b : Nat) (v : Value) (l : List It) (p : Str) (w : World) (hG : Gr w B b v l) (hs : Srt l) (hn2 : l.length ≤ 2000) (hx : ∀ x ∈ l,x.path.length ≤ 140737488355328) (hp : validB p = true) (hT : Tabs w) :
  Calls Tryz.prog 86 #[.pointer (some ⟨b,0,none⟩),.string ⟨p.toArray⟩] w fun e w' => e = .returned (.int .i64 (openM l p)) ∧ Below w.heap.size w w':=by
 obtain ⟨a,c,rfl,_⟩:=own_slice hG.own
 obtain ⟨o,ho⟩ : ∃ o,getI l (upL p) = o:=⟨_,rfl⟩
 obtain ⟨y,hy⟩:=nmq (o.getD .nil)
 obtain ⟨is,his⟩:=nmq (o.isSome)
 have hpl : p.length ≤ 140737488355328:=Nat.le_trans (valid_len p hp) (by decide)
 have hul : (upL p).length ≤ 140737488355328:=Nat.le_trans (valid_len _ (up_valid p hp).1) (by decide)
 obtain ⟨v0,hv0⟩:=nmq (World.drew w)
 obtain ⟨vs,hvs⟩:=nmq (World.drew w)
 have HG : Hid (Gr vs B b (.slice a l.length c) l):=hyq (by rw [hvs]; exact hG.drew)
 have HT : Hid (Tabs vs):=hyq (by rw [hvs]; exact hT.on ((Below.refl _ _).drew))
 have HGET : Hid (∀ W,Below vs.heap.size vs W → Calls Tryz.prog 49 #[.slice a l.length c,.string ⟨(upL p).toArray⟩] W fun e w' => e = .returned (.tuple #[.agg y.arr,.bool is]) ∧ Below W.heap.size W w'):=hyq (fun W hW => by
  have:=tget_gen l (.slice a l.length c) (upL p) W hs hn2 (HG.out.on hW).rd hx hul (HT.out.on hW)
  rw [ho] at this
  rw [hy,his]
  exact this)
 have HUP : Hid (∀ W,Calls Tryz.prog 61 #[.string ⟨p.toArray⟩] W fun e w' => e = .returned (.string ⟨(upL p).toArray⟩) ∧ Below W.heap.size W w'):=hyq (fun W => up_any ⟨p.toArray⟩ (by show p.toArray.size ≤ _; rw [List.size_toArray]; exact hpl) W)
 obtain ⟨n,hn⟩:=nmq (l.length)
 rw [← hn] at HG HGET
 have XG : Hid (Box vs b 78 #[.slice a n c]):=hyq HG.out.box
 have HV0 : Hid (Below w.heap.size w vs):=hyq (by rw [hvs]; exact (Below.refl _ _).drew)
 have HO : Hid (openM l p = openO o):=hyq (by rw [← ho]; exact open_o l p)
 have HY:=hyq hy
 have HI:=hyq his
 clear hG hs hx hT ho hy his hn
 rw [HO.out]
 go_enter Tryz.func86,Tryz.ntmps86
 go_upto_region 1 with fail
 go_cut [5,6] (CutG vs y is)
 case first =>
  rename_i J2 K2 hJ hK2
  refine wp_region_held_drew (S:=fun w' => Below vs.heap.size vs w') (by kernel_rfl) (by rw [hvs]; exact Below.refl _ _) (fun hH => ?_)
  rw [← hv0] at hH ⊢
  clear hv0 hvs
  refine tk 0 hH ?_; try go_frame
  refine tk 1 hH ?_; try go_frame
  refine tk 2 hH ?_; try go_frame
  refine tkf 3 rfl (fun w hSw => by have p0 : w.cell? ⟨b,0,none⟩ = some (.slice a n c):=(XG.out.on hSw).cell (k:=0) rfl; go_simp; try with_reducible rfl) hH ?_; try go_frame
  refine tk 4 hH ?_; try go_frame
  refine rd2 5 10 (fun K hK => ?_) (fun K hK => ?_)
  ·go_simp
   refine (HUP.out _).mono ?_
   rintro e v105 ⟨rfl,hba⟩
   refine hK.out _ _ (bch hH hba) (fun hH => ?_)
   clear hba
   try go_frame
   refine rd2 6 10 (fun K hK => ?_) (fun K hK => ?_)
   ·go_simp
    refine (HGET.out _ hH).mono ?_
    rintro e v106 ⟨rfl,hba⟩
    refine hK.out _ _ (bch hH hba) (fun hH => ?_)
    clear hba
    try go_frame
    refine tk 7 hH ?_; try go_frame
    refine tk 8 hH ?_; try go_frame
    refine tk 9 hH ?_; try go_frame
    refine rd1 10 (fun K hK => ?_)
    ·go_simp
     have hba : Below v106.heap.size v106 (v106.alloc (.cells #[.string ⟨#[]⟩,.int .i64 0,.string ⟨#[]⟩] 59)):=below_new _ _
     have Z7 : Hid (Box (v106.alloc (.cells #[.string ⟨#[]⟩,.int .i64 0,.string ⟨#[]⟩] 59)) v106.heap.size 59 It.nil.arr):=hyq box_new
     have HB7 : Hid (vs.heap.size ≤ v106.heap.size):=hyq hH.size
     obtain ⟨v110,hv9⟩:=nmq ((v106.alloc (.cells #[.string ⟨#[]⟩,.int .i64 0,.string ⟨#[]⟩] 59)))
     refine hK.out _ _ (bch hH hba) (fun hH => ?_)
     clear hba
     rw [← hv9] at Z7 hH ⊢
     clear hv9
     obtain ⟨b7,hg9⟩:=nmq (v106.heap.size)
     rw [← hg9] at Z7 HB7 ⊢
     clear hg9
     try go_frame
     refine rd1 11 (fun K hK => ?_)
     ·refine wp_store_if (by rfl) 59 (.tmp 5) (.tmp 15) rfl b7 59 It.nil.arr y.arr rfl rfl Z7.out (info35 _) rfl (iarr_one _) ?_
      have Z8 : Hid (Box (v110.setRow b7 y.arr) b7 59 y.arr):=hyq (Z7.out.row _)
      refine hK.out _ _ (below_row hH HB7.out _) (fun hH => ?_)
      clear Z7
      (try simp only [Act.put])
      refine tk 12 hH ?_; try go_frame
      refine wpAnyH_done (by kernel_rfl) ?_ _
      first | refine hK2 _ _ (Met.intro (hJ _ _ ?_)) | refine Met.intro (hJ _ _ ?_)
      (repeat apply Exists.intro)
      refine ⟨?_,rfl⟩
      exact ⟨_,rfl,rfl,Z8,hyq hH,HB7⟩
   ·go_simp
    have hba : Below v105.heap.size v105 (v105.alloc (.cells #[.string ⟨#[]⟩,.int .i64 0,.string ⟨#[]⟩] 59)):=below_new _ _
    have Z7 : Hid (Box (v105.alloc (.cells #[.string ⟨#[]⟩,.int .i64 0,.string ⟨#[]⟩] 59)) v105.heap.size 59 It.nil.arr):=hyq box_new
    have HB7 : Hid (vs.heap.size ≤ v105.heap.size):=hyq hH.size
    obtain ⟨v110,hv9⟩:=nmq ((v105.alloc (.cells #[.string ⟨#[]⟩,.int .i64 0,.string ⟨#[]⟩] 59)))
    refine hK.out _ _ (bch hH hba) (fun hH => ?_)
    clear hba
    rw [← hv9] at Z7 hH ⊢
    clear hv9
    obtain ⟨b7,hg9⟩:=nmq (v105.heap.size)
    rw [← hg9] at Z7 HB7 ⊢
    clear hg9
    try go_frame
    refine rd1 6 (fun K hK => ?_)
    ·go_simp
     refine (HGET.out _ hH).mono ?_
     rintro e v106 ⟨rfl,hba⟩
     have Z7:=hyq (Z7.out.on hba)
     refine hK.out _ _ (bch hH hba) (fun hH => ?_)
     clear hba
     try go_frame
     refine tk 7 hH ?_; try go_frame
     refine tk 8 hH ?_; try go_frame
     refine tk 9 hH ?_; try go_frame
     refine rd1 11 (fun K hK => ?_)
     ·refine wp_store_if (by rfl) 59 (.tmp 5) (.tmp 15) rfl b7 59 It.nil.arr y.arr rfl rfl Z7.out (info35 _) rfl (iarr_one _) ?_
      have Z8 : Hid (Box (v106.setRow b7 y.arr) b7 59 y.arr):=hyq (Z7.out.row _)
      refine hK.out _ _ (below_row hH HB7.out _) (fun hH => ?_)
      clear Z7
      (try simp only [Act.put])
      refine tk 12 hH ?_; try go_frame
      refine wpAnyH_done (by kernel_rfl) ?_ _
      first | refine hK2 _ _ (Met.intro (hJ _ _ ?_)) | refine Met.intro (hJ _ _ ?_)
      (repeat apply Exists.intro)
      refine ⟨?_,rfl⟩
      exact ⟨_,rfl,rfl,Z8,hyq hH,HB7⟩
  ·go_simp
   have hba : Below v0.heap.size v0 (v0.alloc (.cells #[.string ⟨#[]⟩,.int .i64 0,.string ⟨#[]⟩] 59)):=below_new _ _
   have Z7 : Hid (Box (v0.alloc (.cells #[.string ⟨#[]⟩,.int .i64 0,.string ⟨#[]⟩] 59)) v0.heap.size 59 It.nil.arr):=hyq box_new
   have HB7 : Hid (vs.heap.size ≤ v0.heap.size):=hyq hH.size
   obtain ⟨v110,hv9⟩:=nmq ((v0.alloc (.cells #[.string ⟨#[]⟩,.int .i64 0,.string ⟨#[]⟩] 59)))
   refine hK.out _ _ (bch hH hba) (fun hH => ?_)
   clear hba
   rw [← hv9] at Z7 hH ⊢
   clear hv9
   obtain ⟨b7,hg9⟩:=nmq (v0.heap.size)
   rw [← hg9] at Z7 HB7 ⊢
   clear hg9
   try go_frame
   refine rd1 5 (fun K hK => ?_)
   ·go_simp
    refine (HUP.out _).mono ?_
    rintro e v105 ⟨rfl,hba⟩
    have Z7:=hyq (Z7.out.on hba)
    refine hK.out _ _ (bch hH hba) (fun hH => ?_)
    clear hba
    try go_frame
    refine rd1 6 (fun K hK => ?_)
    ·go_simp
     refine (HGET.out _ hH).mono ?_
     rintro e v106 ⟨rfl,hba⟩
     have Z7:=hyq (Z7.out.on hba)
     refine hK.out _ _ (bch hH hba) (fun hH => ?_)
     clear hba
     try go_frame
     refine tk 7 hH ?_; try go_frame
     refine tk 8 hH ?_; try go_frame
     refine tk 9 hH ?_; try go_frame
     refine rd1 11 (fun K hK => ?_)
     ·refine wp_store_if (by rfl) 59 (.tmp 5) (.tmp 15) rfl b7 59 It.nil.arr y.arr rfl rfl Z7.out (info35 _) rfl (iarr_one _) ?_
      have Z8 : Hid (Box (v106.setRow b7 y.arr) b7 59 y.arr):=hyq (Z7.out.row _)
      refine hK.out _ _ (below_row hH HB7.out _) (fun hH => ?_)
      clear Z7
      (try simp only [Act.put])
      refine tk 12 hH ?_; try go_frame
      refine wpAnyH_done (by kernel_rfl) ?_ _
      first | refine hK2 _ _ (Met.intro (hJ _ _ ?_)) | refine Met.intro (hJ _ _ ?_)
      (repeat apply Exists.intro)
      refine ⟨?_,rfl⟩
      exact ⟨_,rfl,rfl,Z8,hyq hH,HB7⟩
 case rest =>
  obtain ⟨b7,rfl,rfl,Z7,HB,_⟩:=hcut
  obtain ⟨w2,hw2⟩:=nmq (wc)
  rw [← hw2] at Z7 HB ⊢
  have HB2:=hyq (bch HV0.out HB.out)
  obtain ⟨c0,c1,c2⟩:=Z7.out.it
  clear hw2 HG XG HGET HUP HT HB
  cases o with
  | none =>
   obtain rfl : is = false:=HI.out
   go_wp2_with fail
   go_ret
   exact ⟨rfl,HB2.out⟩
  | some z =>
   obtain rfl : is = true:=HI.out
   obtain rfl : y = z:=HY.out
   by_cases hk : y.kind = 1
   ·have t1 : (y.kind == 1) = true:=by simp [hk]
    have t2 : (y.kind != 1) = false:=by simp [hk]
    have HK : Hid (openO (some y) = 0):=hyq (if_pos hk)
    clear hk
    go_wp2_with fail
    go_ret
    exact ⟨by rw [HK.out]; rfl,HB2.out⟩
   ·have t1 : (y.kind == 1) = false:=by simp [hk]
    have t2 : (y.kind != 1) = true:=by simp [hk]
    have HK : Hid (openO (some y) = 161):=hyq (if_neg hk)
    clear hk
    go_wp2_with fail
    go_ret
    exact ⟨by rw [HK.out]; rfl,HB2.out⟩
end Go.Proofs.YtigopecainocgaaGreatDoor
