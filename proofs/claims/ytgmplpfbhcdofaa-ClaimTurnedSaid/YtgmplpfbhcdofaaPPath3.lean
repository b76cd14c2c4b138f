/- Proved here: cutLast, Up, Base and behind of package path for every text. -/
import Derived.Test.YtgmplpfbhcdofaaPPath2
namespace Go.Proofs.Ytgmplpfbhcdofaa.Pt
open Go.RowKit Go.Shelf

theorem tup2 {a a' b b' : ByteArray} (h1 : a = a') (h2 : b = b') : Ending.returned (.tuple #[.string a, .string b]) = .returned (.tuple #[.string a', .string b']) := by rw [h1, h2]
theorem ext_to (p : ByteArray) (k : Nat) : (p.extract 0 k).data.toList = p.data.toList.take k := by rw [Lib.extract_data, List.drop_zero]; rfl

theorem cutlast_any (p : ByteArray) (hp : p.size ≤ 140737488355328) (w : World) :
    Calls Try.prog 101 #[.string p] w fun e w' => e = .returned (.tuple #[.string ⟨(upL p.data.toList).toArray⟩, .string ⟨(baseL p.data.toList).toArray⟩]) ∧ Below w.heap.size w w' := by
  by_cases hv : validB p.data.toList = true
  · by_cases hr : p.data.toList = [47]
    · have hk := last_of p [] [] hr (by simp)
      rw [hr, up_root, base_root]
      refine (cutlast_zero p hp hv hk w).mono fun _ _ ⟨he, hb⟩ => ⟨?_, hb⟩
      rw [he]
      exact tup2 (ba_eq _ _ (by rw [ext_to, hr]; rfl)) (ba_eq _ _ (by rw [drop1, hr]; rfl))
    · obtain ⟨li, x, hn, hpe, hx, hli, hx47⟩ := valid_last _ hv hr
      have hk := last_of p (flat li) x hpe hx47
      have hsz : p.size = (flat li).length + (x.length + 1) := by
        have : p.data.toList.length = p.size := rfl
        rw [← this, hpe]; simp
      rw [up_last _ _ li x hv hn rfl, base_last _ li x hv hn]
      have hdr : p.data.toList.drop ((flat li).length + 1) = x := by
        rw [hpe, ← List.drop_drop, List.drop_left]; rfl
      by_cases hl : li = []
      · subst hl
        rw [if_pos rfl]
        refine (cutlast_zero p hp hv hk w).mono fun _ _ ⟨he, hb⟩ => ⟨?_, hb⟩
        rw [he]
        refine tup2 (ba_eq _ _ ?_) (ba_eq _ _ ?_)
        · rw [ext_to, hpe]; rfl
        · rw [drop1]; exact hdr
      · rw [if_neg hl]
        have h1 : 1 ≤ (flat li).length := by
          have : (flat li).length ≠ 0 := fun e => hl ((flat_zero li).1 e)
          omega
        refine (cutlast_pos p hp hv (flat li).length h1 (by omega) hk w).mono fun _ _ ⟨he, hb⟩ => ⟨?_, hb⟩
        rw [he]
        refine tup2 (ba_eq _ _ ?_) (ba_eq _ _ ?_)
        · rw [ext_to, hpe, List.take_left]
        · rw [Lib.extract_to_end]; exact hdr
  · have hv' : validB p.data.toList = false := Bool.eq_false_iff.2 hv
    rw [up_bad _ hv', base_bad _ hv']
    exact cutlast_no p hp hv' w

set_option maxHeartbeats 400000 in
theorem up_any (p : ByteArray) (hp : p.size ≤ 140737488355328) (w : World) : Calls Try.prog 86 #[.string p] w fun e w' => e = .returned (.string ⟨(upL p.data.toList).toArray⟩) ∧ Below w.heap.size w w' := by
  go_enter Try.func86, Try.ntmps86
  go_wp2_with (go_at_call 101; refine (cutlast_any p hp _).mono ?_; rintro e w' ⟨rfl, hb⟩)
  go_ret
  exact ⟨rfl, hb⟩

/-! ### behind -/
theorem cutp_hit (p d : ByteArray) (h : Lib.hasPrefix p.data.toList d.data.toList = true) (rest : Str) (e : p.data.toList = d.data.toList ++ rest) (w : World) :
    Calls Try.prog 41 #[.string p, .string d] w fun e w' => e = .returned (.tuple #[.string ⟨rest.toArray⟩, .bool true]) ∧ w = w' :=
  (Try.strings_CutPrefix p d w).mono fun _ _ ⟨he, hw⟩ => ⟨by
    rw [he, h, Lib.trimPrefix, if_pos h]
    congr 3
    rw [e, List.drop_left], hw.symm⟩
theorem cutp_miss (p d : ByteArray) (h : Lib.hasPrefix p.data.toList d.data.toList = false) (w : World) :
    Calls Try.prog 41 #[.string p, .string d] w fun e w' => e = .returned (.tuple #[.string p, .bool false]) ∧ w = w' :=
  (Try.strings_CutPrefix p d w).mono fun _ _ ⟨he, hw⟩ => ⟨by
    rw [he, h, Lib.trimPrefix, if_neg (by simp [h])], hw.symm⟩
theorem trimp_slash (r : Str) (w : World) : Calls Try.prog 47 #[.string ⟨(47 :: r).toArray⟩, .string ⟨#[47]⟩] w fun e w' => e = .returned (.string ⟨r.toArray⟩) ∧ w = w' :=
  (Try.strings_TrimPrefix ⟨(47 :: r).toArray⟩ ⟨#[47]⟩ w).mono fun _ _ ⟨he, hw⟩ => ⟨he, hw.symm⟩
theorem trimp_nil (w : World) : Calls Try.prog 47 #[.string ⟨#[]⟩, .string ⟨#[47]⟩] w fun e w' => e = .returned (.string ⟨#[]⟩) ∧ w = w' :=
  (Try.strings_TrimPrefix ⟨#[]⟩ ⟨#[47]⟩ w).mono fun _ _ ⟨he, hw⟩ => ⟨he, hw.symm⟩

def BehindNo (w : World) (e : Ending) (w' : World) : Prop := e = .returned (.tuple #[.string ⟨#[]⟩, .bool false]) ∧ Below w.heap.size w w'

set_option maxHeartbeats 1000000 in
theorem behind_bad1 (p d : ByteArray) (hp : p.size ≤ 140737488355328) (hv : validB p.data.toList = false) (w : World) : Calls Try.prog 30 #[.string p, .string d] w (BehindNo w) := by
  have HB := Lib.hid hv
  clear hv
  go_enter Try.func30, Try.ntmps30
  go_wp2_with (go_at_call 27; refine (valid_is p hp _ HB.out _).mono ?_; rintro e w' ⟨rfl, hb⟩)
  go_ret2
  exact ⟨rfl, hb⟩
set_option maxHeartbeats 1000000 in
theorem behind_bad2 (p d : ByteArray) (hp : p.size ≤ 140737488355328) (hd : d.size ≤ 140737488355328) (hv : validB p.data.toList = true) (hv2 : validB d.data.toList = false) (w : World) : Calls Try.prog 30 #[.string p, .string d] w (BehindNo w) := by
  have HB := Lib.hid hv
  have HD := Lib.hid hv2
  clear hv hv2
  go_enter Try.func30, Try.ntmps30
  go_wp2_with fail
  refine (valid_is p hp _ HB.out _).mono ?_
  rintro e w1 ⟨rfl, hb⟩
  go_wp2_with fail
  refine (valid_is d hd _ HD.out _).mono ?_
  rintro e w2 ⟨rfl, hb2⟩
  go_wp2_with fail
  go_ret2
  exact ⟨rfl, hb.trans (hb2.mono hb.size)⟩

def BehindYes (p d : Str) (w : World) (e : Ending) (w' : World) : Prop := ∃ t : Str, e = .returned (.tuple #[.string ⟨t.toArray⟩, .bool true]) ∧ splitL t = (namesL p).drop (namesL d).length ∧ t.length ≤ p.length ∧ Below w.heap.size w w'

set_option maxHeartbeats 1000000 in
theorem behind_root (p : ByteArray) (hp : p.size ≤ 140737488355328) (hv : validB p.data.toList = true) (w : World) : Calls Try.prog 30 #[.string p, .string ⟨#[47]⟩] w (BehindYes p.data.toList [47] w) := by
  have HB := Lib.hid hv
  have HD := Lib.hid validB_root
  have f1 : ((⟨#[47]⟩ : ByteArray).toList == [47]) = true := by rw [Lib.toList_data]; rfl
  have h1 := size_pos p hv
  clear hv
  go_enter Try.func30, Try.ntmps30
  go_wp2_with fail
  refine (valid_is p hp _ HB.out _).mono ?_
  rintro e w1 ⟨rfl, hb⟩
  go_wp2_with fail
  refine (valid_is ⟨#[47]⟩ (by simp [ByteArray.size]) _ HD.out _).mono ?_
  rintro e w2 ⟨rfl, hb2⟩
  go_wp2_with fail
  go_ret2
  refine ⟨p.data.toList.drop 1, ?_, rfl, by rw [List.length_drop]; omega, hb.trans (hb2.mono hb.size)⟩
  rw [ba_eq (p.extract 1 p.size) _ (drop1 p)]
  rfl
set_option maxHeartbeats 1000000 in
theorem behind_miss (p d : ByteArray) (hp : p.size ≤ 140737488355328) (hd : d.size ≤ 140737488355328) (hv : validB p.data.toList = true) (hv2 : validB d.data.toList = true) (hr : d.data.toList ≠ [47])
    (hm : Lib.hasPrefix p.data.toList d.data.toList = false) (w : World) : Calls Try.prog 30 #[.string p, .string d] w (BehindNo w) := by
  have HB := Lib.hid hv
  have HD := Lib.hid hv2
  have HM := Lib.hid hm
  have f1 : (d.toList == [47]) = false := by rw [Lib.toList_data]; simp [hr]
  clear hv hv2 hm hr
  go_enter Try.func30, Try.ntmps30
  go_wp2_with fail
  refine (valid_is p hp _ HB.out _).mono ?_
  rintro e w1 ⟨rfl, hb⟩
  go_wp2_with fail
  refine (valid_is d hd _ HD.out _).mono ?_
  rintro e w2 ⟨rfl, hb2⟩
  go_wp2_with fail
  refine (cutp_miss p d HM.out _).mono ?_
  rintro e w3 ⟨rfl, rfl⟩
  go_wp2_with fail
  go_ret2
  exact ⟨rfl, hb.trans (hb2.mono hb.size)⟩
set_option maxHeartbeats 1000000 in
theorem behind_half (p d : ByteArray) (hp : p.size ≤ 140737488355328) (hd : d.size ≤ 140737488355328) (hv : validB p.data.toList = true) (hv2 : validB d.data.toList = true) (hr : d.data.toList ≠ [47])
    (hm : Lib.hasPrefix p.data.toList d.data.toList = true) (c : UInt8) (r : Str) (e : p.data.toList = d.data.toList ++ c :: r) (hc : c ≠ 47) (w : World) : Calls Try.prog 30 #[.string p, .string d] w (BehindNo w) := by
  have HB := Lib.hid hv
  have HD := Lib.hid hv2
  have HM := Lib.hid hm
  have HE := Lib.hid e
  have f1 : (d.toList == [47]) = false := by rw [Lib.toList_data]; simp [hr]
  have hz : 0 < (⟨(c :: r).toArray⟩ : ByteArray).size := by simp [ByteArray.size]
  have f2 : ((((⟨(c :: r).toArray⟩ : ByteArray)[0]'hz).toNat : Int) != 47) = true := by
    show ((c.toNat : Int) != 47) = true
    rw [bne_iff_ne]
    intro h
    apply hc
    apply UInt8.toNat_inj.1
    show c.toNat = 47
    omega
  clear hv hv2 hm hr e hc
  go_enter Try.func30, Try.ntmps30
  go_wp2_with fail
  refine (valid_is p hp _ HB.out _).mono ?_
  rintro e w1 ⟨rfl, hb⟩
  go_wp2_with fail
  refine (valid_is d hd _ HD.out _).mono ?_
  rintro e w2 ⟨rfl, hb2⟩
  go_wp2_with fail
  refine (cutp_hit p d HM.out _ HE.out _).mono ?_
  rintro e w3 ⟨rfl, rfl⟩
  go_wp2_with fail
  go_ret2
  exact ⟨rfl, hb.trans (hb2.mono hb.size)⟩
set_option maxHeartbeats 1000000 in
theorem behind_slash (p d : ByteArray) (hp : p.size ≤ 140737488355328) (hd : d.size ≤ 140737488355328) (hv : validB p.data.toList = true) (hv2 : validB d.data.toList = true) (hr : d.data.toList ≠ [47])
    (hm : Lib.hasPrefix p.data.toList d.data.toList = true) (r : Str) (e : p.data.toList = d.data.toList ++ 47 :: r) (w : World) : Calls Try.prog 30 #[.string p, .string d] w fun e w' => e = .returned (.tuple #[.string ⟨r.toArray⟩, .bool true]) ∧ Below w.heap.size w w' := by
  have HB := Lib.hid hv
  have HD := Lib.hid hv2
  have HM := Lib.hid hm
  have HE := Lib.hid e
  have f1 : (d.toList == [47]) = false := by rw [Lib.toList_data]; simp [hr]
  clear hv hv2 hm hr e
  go_enter Try.func30, Try.ntmps30
  go_wp2_with fail
  refine (valid_is p hp _ HB.out _).mono ?_
  rintro e w1 ⟨rfl, hb⟩
  go_wp2_with fail
  refine (valid_is d hd _ HD.out _).mono ?_
  rintro e w2 ⟨rfl, hb2⟩
  go_wp2_with fail
  refine (cutp_hit p d HM.out _ HE.out _).mono ?_
  rintro e w3 ⟨rfl, rfl⟩
  go_wp2_with (go_at_call 47; refine (trimp_slash r _).mono ?_; rintro e w3 ⟨rfl, rfl⟩)
  go_ret2
  exact ⟨rfl, hb.trans (hb2.mono hb.size)⟩
set_option maxHeartbeats 1000000 in
theorem behind_same (p d : ByteArray) (hp : p.size ≤ 140737488355328) (hd : d.size ≤ 140737488355328) (hv : validB p.data.toList = true) (hv2 : validB d.data.toList = true) (hr : d.data.toList ≠ [47])
    (hm : Lib.hasPrefix p.data.toList d.data.toList = true) (e : p.data.toList = d.data.toList ++ []) (w : World) : Calls Try.prog 30 #[.string p, .string d] w fun e w' => e = .returned (.tuple #[.string ⟨#[]⟩, .bool true]) ∧ Below w.heap.size w w' := by
  have HB := Lib.hid hv
  have HD := Lib.hid hv2
  have HM := Lib.hid hm
  have HE := Lib.hid e
  have f1 : (d.toList == [47]) = false := by rw [Lib.toList_data]; simp [hr]
  clear hv hv2 hm hr e
  go_enter Try.func30, Try.ntmps30
  go_wp2_with fail
  refine (valid_is p hp _ HB.out _).mono ?_
  rintro e w1 ⟨rfl, hb⟩
  go_wp2_with fail
  refine (valid_is d hd _ HD.out _).mono ?_
  rintro e w2 ⟨rfl, hb2⟩
  go_wp2_with fail
  refine (cutp_hit p d HM.out _ HE.out _).mono ?_
  rintro e w3 ⟨rfl, rfl⟩
  go_wp2_with (go_at_call 47; refine (trimp_nil _).mono ?_; rintro e w3 ⟨rfl, rfl⟩)
  go_ret2
  exact ⟨rfl, hb.trans (hb2.mono hb.size)⟩

theorem underB_no1 (p d : Str) (h : validB p = false) : underB p d = false := by simp [underB, h]
theorem underB_no2 (p d : Str) (h : validB d = false) : underB p d = false := by simp [underB, h]
theorem underB_is (p d : Str) (hp : validB p = true) (hd : validB d = true) : underB p d = true ↔ namesL d <+: namesL p := by
  simp [underB, hp, hd, List.isPrefixOf_iff_prefix]

theorem behind_any (p d : ByteArray) (hp : p.size ≤ 140737488355328) (hd : d.size ≤ 140737488355328) (w : World) :
    (underB p.data.toList d.data.toList = true → Calls Try.prog 30 #[.string p, .string d] w (BehindYes p.data.toList d.data.toList w)) ∧
    (underB p.data.toList d.data.toList = false → Calls Try.prog 30 #[.string p, .string d] w (BehindNo w)) := by
  by_cases hv : validB p.data.toList = true
  · by_cases hv2 : validB d.data.toList = true
    · by_cases hr : d.data.toList = [47]
      · have e : d = ⟨#[47]⟩ := ba_eq d [47] hr
        subst e
        refine ⟨fun _ => behind_root p hp hv w, fun h => ?_⟩
        have := (underB_is p.data.toList [47] hv validB_root).2 (by show [] <+: _; exact List.nil_prefix)
        have h' : underB p.data.toList [47] = false := h
        rw [this] at h'; cases h'
      · by_cases hm : Lib.hasPrefix p.data.toList d.data.toList = true
        · have hm' := hm
          unfold Lib.hasPrefix at hm'
          rw [List.isPrefixOf_iff_prefix] at hm'
          obtain ⟨rest, e⟩ := hm'
          have e' := e.symm
          cases rest with
          | nil =>
            have hy := behind_yes _ _ [] hv hv2 hr e' (.inl rfl)
            refine ⟨fun _ => (behind_same p d hp hd hv hv2 hr hm e' w).mono fun _ _ ⟨he, hb⟩ => ⟨[], he, hy.2, Nat.zero_le _, hb⟩, fun h => ?_⟩
            rw [(underB_is _ _ hv hv2).2 hy.1] at h; cases h
          | cons c r =>
            by_cases hc : c = 47
            · subst hc
              have hy := behind_yes _ _ (47 :: r) hv hv2 hr e' (.inr rfl)
              refine ⟨fun _ => (behind_slash p d hp hd hv hv2 hr hm r e' w).mono fun _ _ ⟨he, hb⟩ => ⟨r, he, hy.2, by rw [e']; simp; omega, hb⟩, fun h => ?_⟩
              rw [(underB_is _ _ hv hv2).2 hy.1] at h; cases h
            · refine ⟨fun h => ?_, fun _ => behind_half p d hp hd hv hv2 hr hm c r e' hc w⟩
              obtain ⟨rest', e2, h2⟩ := behind_no _ _ hv hv2 hr ((underB_is _ _ hv hv2).1 h)
              rw [e'] at e2
              have := List.append_cancel_left e2
              subst this
              rcases h2 with h2 | h2
              · cases h2
              · simp at h2; exact absurd h2 hc
        · have hm2 : Lib.hasPrefix p.data.toList d.data.toList = false := Bool.eq_false_iff.2 hm
          refine ⟨fun h => ?_, fun _ => behind_miss p d hp hd hv hv2 hr hm2 w⟩
          obtain ⟨rest', e2, _⟩ := behind_no _ _ hv hv2 hr ((underB_is _ _ hv hv2).1 h)
          exfalso
          apply hm
          unfold Lib.hasPrefix
          rw [List.isPrefixOf_iff_prefix]
          exact ⟨rest', e2.symm⟩
    · have hv2' : validB d.data.toList = false := Bool.eq_false_iff.2 hv2
      exact ⟨(fun h => by rw [underB_no2 _ _ hv2'] at h; cases h), fun _ => behind_bad2 p d hp hd hv hv2' w⟩
  · have hv' : validB p.data.toList = false := Bool.eq_false_iff.2 hv
    exact ⟨(fun h => by rw [underB_no1 _ _ hv'] at h; cases h), fun _ => behind_bad1 p d hp hv' w⟩

end Go.Proofs.Ytgmplpfbhcdofaa.Pt
