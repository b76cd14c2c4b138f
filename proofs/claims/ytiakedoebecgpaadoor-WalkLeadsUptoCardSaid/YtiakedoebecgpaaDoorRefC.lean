/- Proved here: Names of puncheonref01 for every text of at most a million bytes. -/
import Derived.Test.YtiakedoebecgpaaDoorRefB
namespace Go.Proofs.YtiakedoebecgpaaDoor
open Go.RowKit Go.Shelf

/-- The slice reads as these texts. -/
def RdS (w : World) (v : Value) (l : List Str) : Prop :=
  ∃ (a : Option Addr) (cap : Nat), v = .slice a l.length cap ∧ l.length ≤ cap ∧ cap ≤ maxLen ∧ (0 < l.length → ∃ g o, a = some ⟨g, o, none⟩ ∧ g < w.heap.size ∧ ∀ j x, l[j]? = some x → w.cell? ⟨g, o + j, none⟩ = some (encS x))

theorem RdS.nil (w : World) : RdS w (.slice none 0 0) [] := ⟨none, 0, rfl, Nat.le_refl _, Nat.zero_le _, fun h => absurd h (Nat.lt_irrefl _)⟩
theorem RdS.below {w w' : World} {v : Value} {l : List Str} (h : RdS w v l) (hb : Below w.heap.size w w') : RdS w' v l := by
  obtain ⟨a, cap, h1, h2, h3, h4⟩ := h
  refine ⟨a, cap, h1, h2, h3, fun h0 => ?_⟩
  obtain ⟨g, o, e, hg, hc⟩ := h4 h0
  exact ⟨g, o, e, Nat.lt_of_lt_of_le hg hb.size, fun j x hx => (hb.cell (p := ⟨g, o + j, none⟩) hg).trans (hc j x hx)⟩
theorem RdS.drewN {w : World} {v : Value} {l : List Str} (h : RdS w v l) (n : Nat) : RdS (w.drewN n) v l := h
theorem RdS.of_own {w : World} {B : Nat} {v : Value} {l : List Str} (h : w.ownsRow B 9 1 v l.length (l.map encS)) : RdS w v l := by
  rcases h.2 with ⟨rfl, h0⟩ | ⟨g, cap, cur, rfl, _, _, h2, h3, _⟩
  · exact ⟨none, 0, by rw [h0], by omega, Nat.zero_le _, fun k => by omega⟩
  · exact ⟨_, cap, rfl, h2, h3, fun _ => ⟨g, 0, rfl, (h.lt g rfl).2, fun j x hx => by rw [Nat.zero_add]; exact own_cell h j (encS x) (by rw [List.getElem?_map, hx]; rfl)⟩⟩
theorem RdS.slice {w : World} {v : Value} {l : List Str} (h : RdS w v l) : ∃ a cap, v = .slice a l.length cap ∧ l.length ≤ cap ∧ cap ≤ maxLen := by
  obtain ⟨a, cap, h1, h2, h3, _⟩ := h
  exact ⟨a, cap, h1, h2, h3⟩

theorem vcut (p h : Str) (t : List Str) (e : cutP p = h :: t) (hp : p ≠ [47]) :
    validB p = (decide (h = []) && decide (1 ≤ t.length ∧ t.length ≤ 40) && t.all nameB) ∧ (h = [] → namesL p = t ∨ t = []) := by
  cases p with
  | nil =>
    simp [cutP] at e
    obtain ⟨rfl, rfl⟩ := e
    exact ⟨by simp [validB], fun _ => .inr rfl⟩
  | cons c r =>
    rw [cutP_cons] at e
    by_cases hc : c = 47
    · subst hc
      rw [if_pos rfl] at e
      obtain ⟨rfl, rfl⟩ := List.cons.inj e
      have hr : r ≠ [] := fun k => hp (by rw [k])
      have h1 : 1 ≤ (cutP r).length := List.length_pos_iff.2 (cutP_ne r)
      refine ⟨?_, fun _ => .inl ?_⟩
      · rw [validB_slash r hr]
        unfold partsB
        simp [h1]
      · show splitL r = _
        rw [splitL, if_neg hr]
    · rw [if_neg hc] at e
      have hh : h ≠ [] := by
        cases k : cutP r with
        | nil => exact absurd k (cutP_ne r)
        | cons a b =>
          rw [k] at e
          obtain ⟨rfl, _⟩ := List.cons.inj e
          simp
      refine ⟨?_, fun k => absurd k hh⟩
      simp [validB, hc, hh]

def RNo (w : World) (e : Ending) (w' : World) : Prop := e = .returned (.tuple #[.slice none 0 0, .bool false]) ∧ Below w.heap.size w w'
def RYes (l : List Str) (w : World) (e : Ending) (w' : World) : Prop := ∃ v, e = .returned (.tuple #[v, .bool true]) ∧ RdS w' v l ∧ Below w.heap.size w w'

set_option maxHeartbeats 2000000 in
theorem rnames_root (w : World) : Calls Tryd.prog 78 #[.string ⟨#[47]⟩] w (RYes [] w) := by
  have f1 : ((⟨#[47]⟩ : ByteArray).toList == [47]) = true := by rw [Lib.toList_data]; rfl
  go_enter Tryd.func78, Tryd.ntmps78
  go_wp2
  go_ret2
  exact ⟨_, rfl, RdS.nil _, Below.refl _ _⟩

set_option maxRecDepth 100000 in
set_option maxHeartbeats 2000000 in
theorem rnames_bad (p : ByteArray) (hp : p.size ≤ 2000000) (hr : p.data.toList ≠ [47]) (h : Str) (t : List Str) (e : cutP p.data.toList = h :: t) (m : Nat) (y : Str) (hy : t[m]? = some y) (hbad : nameB y = false) (w : World) : Calls Tryd.prog 78 #[.string p] w (RNo w) := by
  have f1 : (p.toList == [47]) = false := by rw [Lib.toList_data]; simp [hr]
  have HE := Lib.hid e
  have HY := Lib.hid hy
  have HBAD := Lib.hid hbad
  have hmt : m < t.length := (List.getElem?_eq_some_iff.1 hy).1
  have hps : p.data.toList.length = p.size := rfl
  have hlen : (cutP p.data.toList).length ≤ 2000001 := by have := cutP_len p.data.toList; omega
  obtain ⟨tn, htn⟩ : ∃ tn, t.length = tn := ⟨_, rfl⟩
  have HTN := Lib.hid htn
  have hn : (cutP p.data.toList).length = tn + 1 := by rw [e, ← htn]; rfl
  have HPL := Lib.hid (part_len p.data.toList)
  have htb : tn ≤ 2000000 := by omega
  clear hr e hps htn hy hbad
  go_enter Tryd.func78, Tryd.ntmps78
  go_wp2_with fail
  refine (rcut_any p hp _).mono ?_
  rintro e w1 ⟨v, rfl, hrow, hb⟩
  obtain ⟨g, cap, rfl, hgB, hglt⟩ := hrow.form (by omega)
  have hcap : tn + 1 ≤ cap ∧ cap ≤ maxLen := by
    rcases hrow.2 with ⟨k, _⟩ | ⟨g', cap', cur, hv, _, _, hnc, hcm, _⟩
    · cases k
    · injection hv with _ _ h3; subst h3; exact ⟨by omega, hcm⟩
  have HCM := Lib.hid hcap
  have hcells : ∀ k x, t[k]? = some x → w1.cell? ⟨g, 1 + k, none⟩ = some (.string ⟨x.toArray⟩) := fun k x hx => by
    have := own_cell hrow (1 + k) (encS x) (by rw [HE.out, List.getElem?_map, Nat.add_comm, List.getElem?_cons_succ, hx]; rfl)
    exact this
  have hcell0 := own_cell hrow 0 (encS h) (by rw [HE.out]; rfl)
  have HC := Lib.hid hcells
  have HC0 := Lib.hid hcell0
  rw [hn]
  have hb1 : w.heap.size ≤ w1.heap.size := hb.size
  have hmt2 : m < tn := by have := HTN.out; omega
  have hc1 : ¬ cap = 1 := by omega
  have c1 : (1 : Int) ≤ (tn : Int) + 1 := by omega
  have c2 : (tn : Int) + 1 ≤ (cap : Int) := by omega
  clear hrow hn hlen hcells hcell0 hcap
  go_wp2
  go_loop [14] (fun i => ∃ k : Nat, k ≤ m ∧ i = .int .i64 k) (fun i => tn - (intOf i).toNat)
  case atStart => exact ⟨0, Nat.zero_le _, rfl⟩
  case round =>
    obtain ⟨k, hk, rfl⟩ := hrel
    have hlt : k < tn := by omega
    obtain ⟨x, hx⟩ : ∃ x, t[k]? = some x := ⟨_, List.getElem?_eq_getElem (by have := HTN.out; omega)⟩
    have hcx := HC.out k x hx
    have hxs : x.length ≤ 2000000 := Nat.le_trans (HPL.out x (by rw [HE.out]; exact List.mem_cons_of_mem _ (List.mem_of_getElem? hx))) hp
    have HX := Lib.hid hx
    clear hx
    by_cases hnx : nameB x = true
    · have HK : Hid (k ≠ m) := fun e => by
        subst e
        have h1 := HX.out
        rw [HY.out] at h1
        cases h1
        rw [HBAD.out] at hnx
        cases hnx
      have HNX := Lib.hid hnx
      clear hnx
      go_wp2_with (go_at_call 81; refine (rname_any ⟨x.toArray⟩ (show x.length ≤ _ by omega) _).mono ?_; rintro e w' ⟨rfl, rfl⟩; rw [show nameB (⟨x.toArray⟩ : ByteArray).data.toList = true from HNX.out])
      go_round
      case rel => exact ⟨k + 1, by have := HK.out; omega, by go_num⟩
      case measure => simp [intOf]; omega
    · have HNX := Lib.hid (Bool.eq_false_iff.2 hnx)
      clear hnx
      go_wp2_with (go_at_call 81; refine (rname_any ⟨x.toArray⟩ (show x.length ≤ _ by omega) _).mono ?_; rintro e w' ⟨rfl, rfl⟩; rw [show nameB (⟨x.toArray⟩ : ByteArray).data.toList = false from HNX.out])
      go_ret2
      exact ⟨rfl, hb⟩

set_option maxRecDepth 100000 in
set_option maxHeartbeats 2000000 in
theorem rnames_good (p : ByteArray) (hp : p.size ≤ 2000000) (hr : p.data.toList ≠ [47]) (t : List Str) (e : cutP p.data.toList = [] :: t) (hall : ∀ x ∈ t, nameB x = true) (h1 : 1 ≤ t.length) (h2 : t.length ≤ 40) (w : World) : Calls Tryd.prog 78 #[.string p] w (RYes t w) := by
  obtain ⟨h, hh⟩ : ∃ h : Str, h = [] := ⟨_, rfl⟩
  rw [← hh] at e
  have f1 : (p.toList == [47]) = false := by rw [Lib.toList_data]; simp [hr]
  have HE := Lib.hid e
  have HALL := Lib.hid hall
  have HH := Lib.hid hh
  have hps : p.data.toList.length = p.size := rfl
  have hlen : (cutP p.data.toList).length ≤ 2000001 := by have := cutP_len p.data.toList; omega
  obtain ⟨tn, htn⟩ : ∃ tn, t.length = tn := ⟨_, rfl⟩
  have HTN := Lib.hid htn
  have hn : (cutP p.data.toList).length = tn + 1 := by rw [e, ← htn]; rfl
  have HPL := Lib.hid (part_len p.data.toList)
  have htb : tn ≤ 2000000 := by omega
  clear hr e hps htn hh hall
  go_enter Tryd.func78, Tryd.ntmps78
  go_wp2_with fail
  refine (rcut_any p hp _).mono ?_
  rintro e w1 ⟨v, rfl, hrow, hb⟩
  obtain ⟨g, cap, rfl, hgB, hglt⟩ := hrow.form (by omega)
  have hcap : tn + 1 ≤ cap ∧ cap ≤ maxLen := by
    rcases hrow.2 with ⟨k, _⟩ | ⟨g', cap', cur, hv, _, _, hnc, hcm, _⟩
    · cases k
    · injection hv with _ _ h3; subst h3; exact ⟨by omega, hcm⟩
  have HCM := Lib.hid hcap
  have hcells : ∀ k x, t[k]? = some x → w1.cell? ⟨g, 1 + k, none⟩ = some (.string ⟨x.toArray⟩) := fun k x hx => by
    have := own_cell hrow (1 + k) (encS x) (by rw [HE.out, List.getElem?_map, Nat.add_comm, List.getElem?_cons_succ, hx]; rfl)
    exact this
  have hcell0 := own_cell hrow 0 (encS h) (by rw [HE.out]; rfl)
  have HC := Lib.hid hcells
  have HC0 := Lib.hid hcell0
  rw [hn]
  have hb1 : w.heap.size ≤ w1.heap.size := hb.size
  have ht1 : 1 ≤ tn := by have := HTN.out; omega
  have ht2 : tn ≤ 40 := by have := HTN.out; omega
  have hc1 : ¬ cap = 1 := by omega
  have c1 : (1 : Int) ≤ (tn : Int) + 1 := by omega
  have c2 : (tn : Int) + 1 ≤ (cap : Int) := by omega
  have c3 : ¬ (tn : Int) + 1 < 2 := by omega
  have c4 : ¬ (41 : Int) < (tn : Int) + 1 := by omega
  have d3 : decide ((tn : Int) + 1 < 2) = false := decide_eq_false c3
  have d4 : decide ((41 : Int) < (tn : Int) + 1) = false := decide_eq_false c4
  clear hrow hn hlen hcells hcell0 hcap h1 h2
  go_wp2
  go_loop [14] (fun i => ∃ k : Nat, k ≤ tn ∧ i = .int .i64 k) (fun i => tn - (intOf i).toNat)
  case atStart => exact ⟨0, Nat.zero_le _, rfl⟩
  case round =>
    obtain ⟨k, hk, rfl⟩ := hrel
    by_cases hlt : k < tn
    · obtain ⟨x, hx⟩ : ∃ x, t[k]? = some x := ⟨_, List.getElem?_eq_getElem (by have := HTN.out; omega)⟩
      have hcx := HC.out k x hx
      have hxs : x.length ≤ 2000000 := Nat.le_trans (HPL.out x (by rw [HE.out]; exact List.mem_cons_of_mem _ (List.mem_of_getElem? hx))) hp
      have HNX := Lib.hid (HALL.out x (List.mem_of_getElem? hx))
      clear hx
      go_wp2_with (go_at_call 81; refine (rname_any ⟨x.toArray⟩ (show x.length ≤ _ by omega) _).mono ?_; rintro e w' ⟨rfl, rfl⟩; rw [show nameB (⟨x.toArray⟩ : ByteArray).data.toList = true from HNX.out])
      go_round
      case rel => exact ⟨k + 1, hlt, by go_num⟩
      case measure => simp [intOf]; omega
    · have hcx := HC0.out
      unfold encS at hcx
      rw [HH.out] at hcx
      go_wp2
      go_ret2
      exact ⟨_, rfl, ⟨some ⟨g, 1, none⟩, cap - 1, by rw [HTN.out]; rfl, by have := HTN.out; omega, by have := HCM.out.2; omega, fun _ => ⟨g, 1, rfl, hglt, fun j x hx => HC.out j x hx⟩⟩, hb⟩

set_option maxRecDepth 100000 in
set_option maxHeartbeats 2000000 in
theorem rnames_head (p : ByteArray) (hp : p.size ≤ 2000000) (hr : p.data.toList ≠ [47]) (h : Str) (t : List Str) (e : cutP p.data.toList = h :: t) (hall : ∀ x ∈ t, nameB x = true) (hne : h ≠ []) (w : World) : Calls Tryd.prog 78 #[.string p] w (RNo w) := by
  have f1 : (p.toList == [47]) = false := by rw [Lib.toList_data]; simp [hr]
  have HE := Lib.hid e
  have HALL := Lib.hid hall
  have hps : p.data.toList.length = p.size := rfl
  have hlen : (cutP p.data.toList).length ≤ 2000001 := by have := cutP_len p.data.toList; omega
  obtain ⟨tn, htn⟩ : ∃ tn, t.length = tn := ⟨_, rfl⟩
  have HTN := Lib.hid htn
  have hn : (cutP p.data.toList).length = tn + 1 := by rw [e, ← htn]; rfl
  have HPL := Lib.hid (part_len p.data.toList)
  have htb : tn ≤ 2000000 := by omega
  clear hr e hps htn hall
  go_enter Tryd.func78, Tryd.ntmps78
  go_wp2_with fail
  refine (rcut_any p hp _).mono ?_
  rintro e w1 ⟨v, rfl, hrow, hb⟩
  obtain ⟨g, cap, rfl, hgB, hglt⟩ := hrow.form (by omega)
  have hcap : tn + 1 ≤ cap ∧ cap ≤ maxLen := by
    rcases hrow.2 with ⟨k, _⟩ | ⟨g', cap', cur, hv, _, _, hnc, hcm, _⟩
    · cases k
    · injection hv with _ _ h3; subst h3; exact ⟨by omega, hcm⟩
  have HCM := Lib.hid hcap
  have hcells : ∀ k x, t[k]? = some x → w1.cell? ⟨g, 1 + k, none⟩ = some (.string ⟨x.toArray⟩) := fun k x hx => by
    have := own_cell hrow (1 + k) (encS x) (by rw [HE.out, List.getElem?_map, Nat.add_comm, List.getElem?_cons_succ, hx]; rfl)
    exact this
  have hcell0 := own_cell hrow 0 (encS h) (by rw [HE.out]; rfl)
  have HC := Lib.hid hcells
  have HC0 := Lib.hid hcell0
  rw [hn]
  have hb1 : w.heap.size ≤ w1.heap.size := hb.size
  have n1 : h.isEmpty = false := isEmpty_no hne
  have n2 : (!h.isEmpty) = true := by rw [n1]; rfl
  have c1 : (1 : Int) ≤ (tn : Int) + 1 := by omega
  have c2 : (tn : Int) + 1 ≤ (cap : Int) := by omega
  clear hrow hn hlen hcells hcell0
  by_cases hc1 : cap = 1
  · have htn0 : tn = 0 := by omega
    subst htn0
    subst hc1
    clear hcap hne
    go_wp2
    go_loop [14] (fun i => i = .int .i64 0) (fun _ => 0)
    case atStart => rfl
    case round =>
      obtain rfl := hrel
      have hcx := HC0.out
      unfold encS at hcx
      go_wp2
      go_ret2
      exact ⟨rfl, hb⟩
  · clear hcap hne
    go_wp2
    go_loop [14] (fun i => ∃ k : Nat, k ≤ tn ∧ i = .int .i64 k) (fun i => tn - (intOf i).toNat)
    case atStart => exact ⟨0, Nat.zero_le _, rfl⟩
    case round =>
      obtain ⟨k, hk, rfl⟩ := hrel
      by_cases hlt : k < tn
      · obtain ⟨x, hx⟩ : ∃ x, t[k]? = some x := ⟨_, List.getElem?_eq_getElem (by have := HTN.out; omega)⟩
        have hcx := HC.out k x hx
        have hxs : x.length ≤ 2000000 := Nat.le_trans (HPL.out x (by rw [HE.out]; exact List.mem_cons_of_mem _ (List.mem_of_getElem? hx))) hp
        have HNX := Lib.hid (HALL.out x (List.mem_of_getElem? hx))
        clear hx
        go_wp2_with (go_at_call 81; refine (rname_any ⟨x.toArray⟩ (show x.length ≤ _ by omega) _).mono ?_; rintro e w' ⟨rfl, rfl⟩; rw [show nameB (⟨x.toArray⟩ : ByteArray).data.toList = true from HNX.out])
        go_round
        case rel => exact ⟨k + 1, hlt, by go_num⟩
        case measure => simp [intOf]; omega
      · have hcx := HC0.out
        unfold encS at hcx
        go_wp2
        go_ret2
        exact ⟨rfl, hb⟩

set_option maxRecDepth 100000 in
set_option maxHeartbeats 2000000 in
theorem rnames_len (p : ByteArray) (hp : p.size ≤ 2000000) (hr : p.data.toList ≠ [47]) (t : List Str) (e : cutP p.data.toList = [] :: t) (hall : ∀ x ∈ t, nameB x = true) (h2 : t.length = 0 ∨ 40 < t.length) (w : World) : Calls Tryd.prog 78 #[.string p] w (RNo w) := by
  obtain ⟨h, hh⟩ : ∃ h : Str, h = [] := ⟨_, rfl⟩
  rw [← hh] at e
  have f1 : (p.toList == [47]) = false := by rw [Lib.toList_data]; simp [hr]
  have HE := Lib.hid e
  have HALL := Lib.hid hall
  have HH := Lib.hid hh
  have hps : p.data.toList.length = p.size := rfl
  have hlen : (cutP p.data.toList).length ≤ 2000001 := by have := cutP_len p.data.toList; omega
  obtain ⟨tn, htn⟩ : ∃ tn, t.length = tn := ⟨_, rfl⟩
  have HTN := Lib.hid htn
  have hn : (cutP p.data.toList).length = tn + 1 := by rw [e, ← htn]; rfl
  have HPL := Lib.hid (part_len p.data.toList)
  have htb : tn ≤ 2000000 := by omega
  clear hr e hps htn hh hall
  go_enter Tryd.func78, Tryd.ntmps78
  go_wp2_with fail
  refine (rcut_any p hp _).mono ?_
  rintro e w1 ⟨v, rfl, hrow, hb⟩
  obtain ⟨g, cap, rfl, hgB, hglt⟩ := hrow.form (by omega)
  have hcap : tn + 1 ≤ cap ∧ cap ≤ maxLen := by
    rcases hrow.2 with ⟨k, _⟩ | ⟨g', cap', cur, hv, _, _, hnc, hcm, _⟩
    · cases k
    · injection hv with _ _ h3; subst h3; exact ⟨by omega, hcm⟩
  have HCM := Lib.hid hcap
  have hcells : ∀ k x, t[k]? = some x → w1.cell? ⟨g, 1 + k, none⟩ = some (.string ⟨x.toArray⟩) := fun k x hx => by
    have := own_cell hrow (1 + k) (encS x) (by rw [HE.out, List.getElem?_map, Nat.add_comm, List.getElem?_cons_succ, hx]; rfl)
    exact this
  have hcell0 := own_cell hrow 0 (encS h) (by rw [HE.out]; rfl)
  have HC := Lib.hid hcells
  have HC0 := Lib.hid hcell0
  rw [hn]
  have hb1 : w.heap.size ≤ w1.heap.size := hb.size
  have h3 : tn = 0 ∨ 40 < tn := by have := HTN.out; omega
  have c1 : (1 : Int) ≤ (tn : Int) + 1 := by omega
  have c2 : (tn : Int) + 1 ≤ (cap : Int) := by omega
  clear hrow hn hlen hcells hcell0 h2
  rcases h3 with h3 | h3
  · subst h3
    clear c1
    by_cases hc1 : cap = 1
    · subst hc1
      clear hcap
      go_wp2
      go_loop [14] (fun i => i = .int .i64 0) (fun _ => 0)
      case atStart => rfl
      case round =>
        obtain rfl := hrel
        have hcx := HC0.out
        unfold encS at hcx
        rw [HH.out] at hcx
        go_wp2
        go_ret2
        exact ⟨rfl, hb⟩
    · clear hcap
      go_wp2
      go_loop [14] (fun i => i = .int .i64 0) (fun _ => 0)
      case atStart => rfl
      case round =>
        obtain rfl := hrel
        have hcx := HC0.out
        unfold encS at hcx
        rw [HH.out] at hcx
        go_wp2
        go_ret2
        exact ⟨rfl, hb⟩
  · have hc1 : ¬ cap = 1 := by omega
    have c3 : ¬ (tn : Int) + 1 < 2 := by omega
    have c4 : (41 : Int) < (tn : Int) + 1 := by omega
    have d3 : decide ((tn : Int) + 1 < 2) = false := decide_eq_false c3
    have d4 : decide ((41 : Int) < (tn : Int) + 1) = true := decide_eq_true c4
    clear hcap
    go_wp2
    go_loop [14] (fun i => ∃ k : Nat, k ≤ tn ∧ i = .int .i64 k) (fun i => tn - (intOf i).toNat)
    case atStart => exact ⟨0, Nat.zero_le _, rfl⟩
    case round =>
      obtain ⟨k, hk, rfl⟩ := hrel
      by_cases hlt : k < tn
      · obtain ⟨x, hx⟩ : ∃ x, t[k]? = some x := ⟨_, List.getElem?_eq_getElem (by have := HTN.out; omega)⟩
        have hcx := HC.out k x hx
        have hxs : x.length ≤ 2000000 := Nat.le_trans (HPL.out x (by rw [HE.out]; exact List.mem_cons_of_mem _ (List.mem_of_getElem? hx))) hp
        have HNX := Lib.hid (HALL.out x (List.mem_of_getElem? hx))
        clear hx
        go_wp2_with (go_at_call 81; refine (rname_any ⟨x.toArray⟩ (show x.length ≤ _ by omega) _).mono ?_; rintro e w' ⟨rfl, rfl⟩; rw [show nameB (⟨x.toArray⟩ : ByteArray).data.toList = true from HNX.out])
        go_round
        case rel => exact ⟨k + 1, hlt, by go_num⟩
        case measure => simp [intOf]; omega
      · have hcx := HC0.out
        unfold encS at hcx
        rw [HH.out] at hcx
        go_wp2
        go_ret2
        exact ⟨rfl, hb⟩

theorem rnames_any (p : ByteArray) (hp : p.size ≤ 2000000) (w : World) :
    (validB p.data.toList = true → Calls Tryd.prog 78 #[.string p] w (RYes (namesL p.data.toList) w)) ∧ (validB p.data.toList = false → Calls Tryd.prog 78 #[.string p] w (RNo w)) := by
  by_cases hr : p.data.toList = [47]
  · have e : p = ⟨#[47]⟩ := ba_eq p [47] hr
    subst e
    exact ⟨fun _ => rnames_root w, fun h => by rw [show validB (⟨#[47]⟩ : ByteArray).data.toList = true from validB_root] at h; cases h⟩
  · obtain ⟨h, t, e⟩ : ∃ h t, cutP p.data.toList = h :: t := by
      cases k : cutP p.data.toList with
      | nil => exact absurd k (cutP_ne _)
      | cons h t => exact ⟨h, t, rfl⟩
    have hv := vcut _ h t e hr
    by_cases hall : t.all nameB = true
    · have hall' := List.all_eq_true.1 hall
      by_cases hh : h = []
      · subst hh
        by_cases hl : 1 ≤ t.length ∧ t.length ≤ 40
        · have hn : namesL p.data.toList = t := by
            rcases hv.2 rfl with k | k
            · exact k
            · subst k; simp at hl
          refine ⟨fun _ => by rw [hn]; exact rnames_good p hp hr t e hall' hl.1 hl.2 w, fun k => ?_⟩
          rw [hv.1, hall, decide_eq_true hl] at k
          simp at k
        · refine ⟨fun k => ?_, fun _ => rnames_len p hp hr t e hall' (by omega) w⟩
          rw [hv.1, decide_eq_false hl] at k
          simp at k
      · refine ⟨fun k => ?_, fun _ => rnames_head p hp hr h t e hall' hh w⟩
        rw [hv.1] at k
        simp [hh] at k
    · obtain ⟨y, hy, hb⟩ : ∃ y ∈ t, nameB y = false := by
        have := List.all_eq_false.1 (Bool.eq_false_iff.2 hall)
        obtain ⟨y, hy, hb⟩ := this
        exact ⟨y, hy, Bool.eq_false_iff.2 hb⟩
      obtain ⟨m, hm⟩ := List.getElem?_of_mem hy
      refine ⟨fun k => ?_, fun _ => rnames_bad p hp hr h t e m y hm hb w⟩
      rw [hv.1, Bool.eq_false_iff.2 hall, Bool.and_false] at k
      cases k
end Go.Proofs.YtiakedoebecgpaaDoor
