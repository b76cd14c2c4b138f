/- Proved here: beneath and busy of package tree. -/
import Derived.Test.YtigopecainocgaaGreatDoorOBen
import Derived.Test.YtigopecainocgaaGreatDoorNA
set_option maxRecDepth 100000
set_option maxHeartbeats 32000000
namespace Go.Proofs.YtigopecainocgaaGreatDoor
open Go.RowKit Go.Shelf
attribute [local go_sem] Oper.semAt_some
theorem ben_any (a : Option Addr) (n c : Nat) (p : Str) (w : World) : Calls Tryz.prog 104 #[.slice a n c,.string ⟨p.toArray⟩] w fun e w' => e = .returned (.func (.func 120) #[] #[.pointer (some ⟨w.heap.size,0,none⟩),.pointer (some ⟨w.heap.size + 1,0,none⟩)]) ∧ (w.alloc (.cells #[.slice a n c] 22)).alloc (.cells #[.string ⟨p.toArray⟩] 9) = w':=by
 go_enter Tryz.func104,Tryz.ntmps104
 go_wp2
 go_ret
 exact ⟨rfl,rfl⟩
theorem lowk_put {S : Nat → Prop} (W : World) (l : Nat) (o : Obj) (h : ¬ S l) : LowK S W (W.putObj l o):=fun _ hk => World.putObj_heap_other (fun e => h (e ▸ hk))
def bI (w : World) {l : List It} {p : Str} (pre : List (Ben l p)) (W : World) : Prop:=pre = [] ∧ Boxed W w.heap.size 4 (.bool false) ∧ Below w.heap.size w W
def bX (w : World) {l : List It} {p : Str} (c : Code) (pre : List (Ben l p)) (W : World) : Prop:=(c = .ret ∧ pre ≠ []) ∧ Boxed W w.heap.size 4 (.bool true) ∧ Below w.heap.size w W
theorem bI_own (w : World) (l : List It) (p : Str) (B : Nat) (hB : w.heap.size ≤ B) : OwnFrom B (bI w (l:=l) (p:=p)) :=
 OwnFrom.and (ownFrom_pure _ fun pre : List (Ben l p) => pre = []) (OwnFrom.and (Own.from (boxed_own _ _ fun _ => _) _) (ownFrom_below (Nat.le_refl _) hB))
theorem bX_own (w : World) (l : List It) (p : Str) (B : Nat) (hB : w.heap.size ≤ B) (c : Code) : OwnFrom B (bX w (l:=l) (p:=p) c) :=
 OwnFrom.and (ownFrom_pure _ fun pre : List (Ben l p) => c = .ret ∧ pre ≠ []) (OwnFrom.and (Own.from (boxed_own _ _ fun _ => _) _) (ownFrom_below (Nat.le_refl _) hB))
theorem busy_any (B b : Nat) (v : Value) (l : List It) (p : Str) (w : World) (hG : Gr w B b v l) (hs : Srt l) (hn2 : l.length ≤ 2000) (hx : ∀ x ∈ l,x.path.length ≤ 140737488355328) (hp : p.length ≤ 140737488355328) :
  Calls Tryz.prog 92 #[.pointer (some ⟨b,0,none⟩),.string ⟨p.toArray⟩] w fun e w' => e = .returned (.bool (decide (belowL l p ≠ []))) ∧ Below w.heap.size w w':=by
 refine (callsIn_wide (n:=5)).1 ?_
 obtain ⟨a,n,c,rfl⟩:=own_any hG.own
 obtain ⟨w1,hw1⟩:=nmq (w.alloc (.cells #[.bool false] 4))
 have hB1 : Below w.heap.size w w1:=by rw [hw1]; exact below_new _ _
 have hG1 : Gr w1 B b (.slice a n c) l:=hG.on hB1
 have c0 : (w.alloc (.cells #[.bool false] 4)).cell? ⟨b,0,none⟩ = some (.slice a n c):=by rw [← hw1]; exact hG1.box.cell (k:=0) rfl
 have hsz : w1.heap.size = w.heap.size + 1:=by rw [hw1]; simp
 obtain ⟨w2,hw2⟩:=nmq ((w1.alloc (.cells #[.slice a n c] 22)).alloc (.cells #[.string ⟨p.toArray⟩] 9))
 have hB2 : Below w1.heap.size w1 w2:=by rw [hw2]; exact bch (below_new _ _) (below_new _ _)
 have b0 : Boxed w2 w.heap.size 4 (.bool false):=by rw [hw2,hw1]; exact ((Boxed.new w 4 (.bool false)).alloc _).alloc _
 have X2 : Box w2 w1.heap.size 22 #[.slice a n c]:=by rw [hw2]; exact box_new.alloc _
 have X3 : Box w2 (w1.heap.size + 1) 9 #[.string ⟨p.toArray⟩]:=by rw [hw2,show w1.heap.size + 1 = (w1.alloc (.cells #[.slice a n c] 22)).heap.size from by simp]; exact box_new
 have hv2 : RdI w2 (.slice a n c) l:=(hG1.on hB2).rd
 have hBB : Below w.heap.size w w2:=bch hB1 hB2
 have HSG : Hid (∀ g o n' c',Value.slice a n c = .slice (some ⟨g,o,none⟩) n' c' → g < w2.heap.size):=hyq (fun g o n' c' e => by
  have hO:=(hG1.on hB2).own
  rw [e] at hO
  exact (hO.lt g rfl).2)
 have HBE:=hyq (ben_any a n c p w1)
 have HW1:=hyq hw1
 have HW2:=hyq hw2
 have HSZ:=hyq hsz
 have hle : w.heap.size ≤ w2.heap.size:=hBB.size
 clear hG hG1 hw2 hsz hB2 hw1
 refine callsIn_of_wp_marks Tryz.func92 rfl trivial ?_ rfl
 simp only [Tryz.ntmps92,List.size_toArray,List.length_cons,List.length_nil,Nat.reduceAdd,Nat.reduceSub,Array.replicate_succ,Array.replicate_zero,List.push_toArray,List.append_toArray,List.nil_append,List.cons_append]
 gi_wp2_with (first | (refine ⟨trivial,?_⟩; gi_at_call 104; rw [← HW1.out]; refine (callsIn_wide.2 HBE.out).mono ?_; rintro e w' ⟨rfl,hw'⟩; rw [← HW2.out] at hw'; subst hw'))
 refine wpIn_rangeFunc_ownG rfl (by omega) (gf:=120) (lb:=#[.pointer (some ⟨w1.heap.size,0,none⟩),.pointer (some ⟨w1.heap.size + 1,0,none⟩)]) rfl trivial (enters_of Tryz.func120 (by kernel_rfl) rfl)
  (ben1_stops _ (by omega) w1.heap.size (w1.heap.size + 1) l (.slice a n c) p w2 X2 X3 hv2 hs hn2 hx hp (· < w2.heap.size) (fun _ h => h) X2.lt X3.lt (fun g o n' c' e => HSG.out g o n' c' e)) (fun h k => h.trans k) (fun W l o o' hl _ _ _ => lowk_put W l o' (by omega)) (Below.refl _ _) (fun _ => rfl)
  (bI w) (bX w) (bI_own w l p _ hle) (bX_own w l p _ hle) ⟨rfl,b0,hBB⟩
  (fun x => { tmps:=#[.pointer (some ⟨b,0,none⟩),.string ⟨p.toArray⟩,undef,undef,.pointer (some ⟨w.heap.size,0,none⟩),.pointer (some ⟨b,0,none⟩),.pointer (some ⟨b,0,none⟩),.pointer (some ⟨b,0,none⟩),.slice a n c,.string ⟨p.toArray⟩,.func (.func 120) #[] #[.pointer (some ⟨w1.heap.size,0,none⟩),.pointer (some ⟨w1.heap.size + 1,0,none⟩)],.agg x.1.arr],defers:=[] }) ?assign ?body ?done ?stop
 case assign =>
  intro q x W K hK
  gi_wp2
  simp
  exact hK
 case body =>
  rintro q pre x W ⟨rfl,hb0,hB⟩ _
  have hc0:=hb0.cell
  have hf0:=hb0.frozen
  gi_wp2
  exact ⟨(KeepsOthers.setCell _ _ _).from _,⟨rfl,by simp⟩,hb0.set _,hB.setCell (p:=⟨w.heap.size,0,none⟩) (Nat.le_refl _) _⟩
 case done =>
  rintro D xs W hD rfl ⟨he,hb0,hB⟩ hK
  have hc0:=hb0.cell
  have hf0:=hb0.frozen
  have HE:=hyq he
  clear he
  gi_wp2
  have hK':=(KeepsOthers.setCell W ⟨w.heap.size,0,none⟩ (.bool false)).same D _ hK rfl
  refine ⟨by simp,.inl ⟨_,_,rfl,run_takeDeferred hK',?_⟩⟩
  have hc5:=cell_kept (World.cell?_setCell_same' W ⟨w.heap.size,0,none⟩ (.bool false) (by rw [hc0]; rfl)) (grownBy_putObj' _ D (.deferred none)) (fun r e => by cases e; exact ⟨_,hK',rfl⟩)
  refine ⟨.bool false,?_,by rw [List.attach_eq_nil_iff.1 HE.out]; rfl,?_⟩
  ·simp [results,Tryz.f92,go_sem,hc5]
  ·exact (hB.setCell (p:=⟨w.heap.size,0,none⟩) (Nat.le_refl _) _).trans (belowK_b (w:=w) (Nat.le_refl _) _ D _ _ (by first | omega | (simp; omega)) hK' rfl rfl)
 case stop =>
  rintro D c pre W hD hpre ⟨⟨rfl,hne⟩,hb0,hB⟩ hK
  have hc0:=hb0.cell
  have hf0:=hb0.frozen
  have HE : Hid (decide (belowL l p ≠ []) = true):=hyq (decide_eq_true fun e => by
   obtain ⟨y,hy⟩:=List.exists_mem_of_ne_nil _ hne
   obtain ⟨y,hm⟩:=y
   rw [e] at hm
   cases hm)
  clear hne hpre
  gi_wp2
  refine ⟨by simp,.inl ⟨_,_,rfl,run_takeDeferred hK,?_⟩⟩
  have hc5:=cell_kept hc0 (grownBy_putObj' _ D (.deferred none)) (fun r e => by cases e; exact ⟨_,hK,rfl⟩)
  refine ⟨.bool true,?_,by rw [HE.out],?_⟩
  ·simp [results,Tryz.f92,go_sem,hc5]
  ·exact hB.trans (belowK_b (w:=w) (Nat.le_refl _) _ D _ _ (by omega) hK rfl rfl)
end Go.Proofs.YtigopecainocgaaGreatDoor
