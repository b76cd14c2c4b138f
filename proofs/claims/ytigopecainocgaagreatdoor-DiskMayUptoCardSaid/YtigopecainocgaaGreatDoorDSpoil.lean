/- Proved here: spoil of puncheonlaw08 on a disk with items of its own and nothing that waits. -/
import Derived.Test.YtigopecainocgaaGreatDoorNA
import Derived.Laws.OwnMore
set_option maxRecDepth 100000
set_option maxHeartbeats 32000000
namespace Go.Proofs.YtigopecainocgaaGreatDoor
open Go.RowKit Go.Shelf
def Kinds (n : Nat) (xs : List Value) : Prop:=∀ j,j < n → ∃ k,xs[j * 3 + 1]? = some (.int .i64 k)
theorem kinds_flat (l : List It) : Kinds l.length (flatI l):=fun j hj => ⟨(l[j]).kind,by
 rw [flat3 l j 1 (by omega),List.getElem?_eq_getElem hj]; rfl⟩
theorem Kinds.put {n : Nat} {xs : List Value} (h : Kinds n xs) (hx : xs.length = n * 3) (k : Nat) (z : Int) : Kinds n (xs.set (k * 3 + 1) (.int .i64 z)):=fun j hj => by
 obtain ⟨y,hy⟩:=h j hj
 by_cases e : k = j
 ·subst e; exact ⟨z,by rw [List.getElem?_set_self (by omega)]⟩
 ·exact ⟨y,by rw [List.getElem?_set_ne (by omega)]; exact hy⟩
theorem spoil_any (n : Nat) (xs : List Value) (hk : Kinds n xs) (g ci : Nat) (a : Option Addr) (c B : Nat) (r : Int) (w : World) (h : w.ownsRow B 59 3 (.slice (some ⟨g,0,none⟩) n ci) n xs) (hB : B ≤ w.heap.size) :
  Calls Tryz.prog 18 #[.agg #[.slice (some ⟨g,0,none⟩) n ci,.slice a 0 c,.int .i64 r]] w fun e w' => e = .returned (.tuple #[]) ∧ Below B w w':=by
 obtain ⟨bd,hbd⟩:=nmq (w.heap.size)
 obtain ⟨w1,hw1⟩:=nmq (w.alloc (.cells #[.slice (some ⟨g,0,none⟩) n ci,.slice a 0 c,.int .i64 r] 27))
 have X : Box w1 bd 27 #[.slice (some ⟨g,0,none⟩) n ci,.slice a 0 c,.int .i64 r]:=by rw [hw1,hbd]; exact box_new
 have HO : w1.ownsRow B 59 3 (.slice (some ⟨g,0,none⟩) n ci) n xs:=by rw [hw1]; exact h.alloc _
 have HB : Below B w w1:=by rw [hw1]; exact (below_new _ _).mono hB
 have HL:=h.lt g rfl
 have HG : Hid (B ≤ g ∧ g < bd):=hyq (by rw [hbd]; exact HL)
 have HC : Hid (n ≤ ci ∧ ci ≤ maxLen):=hyq (by
  rcases h.2 with ⟨e,_⟩ | ⟨g',cap,cur,e,_,_,q1,q2,_⟩
  ·simp at e
  ·simp only [Value.slice.injEq] at e; obtain ⟨_,_,rfl⟩:=e; exact ⟨q1,q2⟩)
 have I : Hid (∃ ys,Kinds n ys ∧ w1.ownsRow B 59 3 (.slice (some ⟨g,0,none⟩) n ci) n ys):=hyq ⟨xs,hk,HO⟩
 have HB:=hyq HB
 have HX:=hyq X
 have p0:=X.cell (k:=0) rfl
 have HNL : Hid (n ≤ 9223372036854775807):=hyq (by have:=HC.out; unfold maxLen at this; omega)
 clear HO HL h hk X hB
 go_enter Tryz.func18,Tryz.ntmps18
 go_upto_region 1 with fail
 rw [← hw1]
 clear hw1
 rw [← hbd]
 clear hbd
 go_wp2_with fail
 go_loopw [8] (fun i wr => ∃ k : Nat,k ≤ n ∧ i = .int .i64 k ∧ Hid (∃ ys,Kinds n ys ∧ wr.ownsRow B 59 3 (.slice (some ⟨g,0,none⟩) n ci) n ys) ∧ Hid (Below B w wr) ∧ Hid (Box wr bd 27 #[.slice (some ⟨g,0,none⟩) n ci,.slice a 0 c,.int .i64 r])) (fun i _ => n - (intOf i).toNat)
 case atStart => exact ⟨0,Nat.zero_le _,rfl,I,HB,HX⟩
 case round =>
  obtain ⟨k,hk,rfl,I,HB,HX⟩:=hrel
  have p0:=HX.out.cell (k:=0) rfl
  have p1:=HX.out.cell (k:=1) rfl
  have hNL:=HNL.out
  by_cases hlt : k < n
  ·obtain ⟨ys,hy,ho⟩:=I.out
   obtain ⟨z,hz⟩:=hy k hlt
   have cz : wr.cell? ⟨g,k * 3 + 1,none⟩ = some (.int .i64 z):=(ho.cellAt _ (by omega)).trans hz
   have fz:=ho.frozenAt (k * 3 + 1)
   have HY:=hyq hy
   have HO:=hyq ho
   have hci:=HC.out.1
   have hcm:=HC.out.2
   unfold maxLen at hcm
   clear hy hz ho
   go_wp2_with fail
   refine ⟨⟨k + 1,hlt,by go_num,hyq ⟨_,HY.out.put HO.out.1 k _,(HO.out.stored _ _).1⟩,hyq (HB.out.setCell HG.out.1 _),hyq (HX.out.far (by have:=HG.out.2; simp; omega) _)⟩,?_⟩
   simp [intOf]; omega
  ·have hkn : k = n:=by omega
   subst hkn
   clear hlt
   go_wp2_with fail
   go_loopw [25] (fun i wz => i = .int .i64 0 ∧ wz = wr) (fun _ _ => 0)
   case atStart => exact ⟨rfl,rfl⟩
   case round =>
    obtain ⟨rfl,rfl⟩:=hrel
    go_wp2_with fail
    exact bodyPost_end (results_none rfl _ _ _) rfl ⟨rfl,HB.out⟩
theorem spoil_nil (x a : Option Addr) (ci c B : Nat) (r : Int) (w : World) (hB : B ≤ w.heap.size) :
  Calls Tryz.prog 18 #[.agg #[.slice x 0 ci,.slice a 0 c,.int .i64 r]] w fun e w' => e = .returned (.tuple #[]) ∧ Below B w w':=by
 obtain ⟨bd,hbd⟩:=nmq (w.heap.size)
 obtain ⟨w1,hw1⟩:=nmq (w.alloc (.cells #[.slice x 0 ci,.slice a 0 c,.int .i64 r] 27))
 have X : Box w1 bd 27 #[.slice x 0 ci,.slice a 0 c,.int .i64 r]:=by rw [hw1,hbd]; exact box_new
 have HB : Hid (Below B w w1):=hyq (by rw [hw1]; exact (below_new _ _).mono hB)
 have p0:=X.cell (k:=0) rfl
 have p1:=X.cell (k:=1) rfl
 clear X hB
 go_enter Tryz.func18,Tryz.ntmps18
 go_upto_region 1 with fail
 rw [← hw1,← hbd]
 clear hw1 hbd
 go_wp2_with fail
 go_loopw [8] (fun i wz => i = .int .i64 0 ∧ wz = w1) (fun _ _ => 0)
 case atStart => exact ⟨rfl,rfl⟩
 case round =>
  obtain ⟨rfl,rfl⟩:=hrel
  go_wp2_with fail
  go_loopw [25] (fun i wz => i = .int .i64 0 ∧ wz = wr) (fun _ _ => 0)
  case atStart => exact ⟨rfl,rfl⟩
  case round =>
   obtain ⟨rfl,rfl⟩:=hrel
   go_wp2_with fail
   exact bodyPost_end (results_none rfl _ _ _) rfl ⟨rfl,HB.out⟩
theorem spoil_is (l : List It) (v : Value) (a : Option Addr) (c B : Nat) (r : Int) (w : World) (h : w.ownsRow B 59 3 v l.length (flatI l)) (hB : B ≤ w.heap.size) :
  Calls Tryz.prog 18 #[.agg #[v,.slice a 0 c,.int .i64 r]] w fun e w' => e = .returned (.tuple #[]) ∧ Below B w w':=by
 have h':=h
 rcases h.2 with ⟨e,hx⟩ | ⟨g,cap,cur,e,_⟩
 ·rw [e]
  exact spoil_nil none a _ c B r w hB
 ·subst e
  exact spoil_any l.length (flatI l) (kinds_flat l) g cap a c B r w h' hB
end Go.Proofs.YtigopecainocgaaGreatDoor
