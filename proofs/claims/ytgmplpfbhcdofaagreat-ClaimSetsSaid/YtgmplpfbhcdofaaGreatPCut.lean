/- Proved here: strings.Cut, and what it calls, at a slash: what each hands back for every text of at most 2^47 bytes. -/
import Derived.Test.YtgmplpfbhcdofaaGreatPName
import Derived.Test.YtgmplpfbhcdofaaGreatShelf
import Derived.Deep.QuietTactic
import Derived.BigQuiet
import Derived.IntWalk
import Derived.ShutString
import Derived.Lib.IndexBytes
namespace Go.Proofs.YtgmplpfbhcdofaaGreat.Pt
open Go.RowKit

theorem index_none (l : Str) (h : 47 ∉ l) : Lib.indexByte l 47 = -1 := by
  induction l with
  | nil => rfl
  | cons c s ih =>
    simp only [List.mem_cons, not_or] at h
    unfold Lib.indexByte
    have : (c == 47) = false := by simp; exact fun e => h.1 e.symm
    rw [this, ih h.2]; rfl
theorem index_some (l : Str) (h : 47 ∈ l) : Lib.indexByte l 47 = ((l.takeWhile (· != 47)).length : Int) := by
  induction l with
  | nil => simp at h
  | cons c s ih =>
    by_cases hc : c = 47
    · simp [hc, Lib.indexByte]
    · have h' : 47 ∈ s := by
        rcases List.mem_cons.1 h with h | h
        · exact absurd h.symm hc
        · exact h
      unfold Lib.indexByte
      have e : (c == 47) = false := by simp; exact hc
      rw [e, ih h', List.takeWhile_cons]
      have e2 : (((s.takeWhile (· != 47)).length : Int) == -1) = false := by rw [beq_eq_false_iff_ne]; omega
      simp [hc, e2]

theorem ba_eq (s : ByteArray) (l : Str) (h : s.data.toList = l) : s = ⟨l.toArray⟩ := by
  subst h; rfl

set_option maxHeartbeats 1000000 in
theorem index_any (s : ByteArray) (w : World) : Calls Tryz.prog 161 #[.string s, .string ⟨#[47]⟩] w fun e w' => e = .returned (.int .i64 (Lib.indexByte s.data.toList 47)) ∧ w = w' := by
  by_cases h : ([47] == s.toList) = true
  · have hs : s.data.toList = [47] := by rw [← Lib.toList_data]; exact (beq_iff_eq.1 h).symm
    have e : Lib.indexByte s.data.toList 47 = 0 := by rw [hs]; rfl
    rw [e]
    clear e hs
    go_enter Tryz.func161, Tryz.ntmps161
    go_wp2
    go_ret
    exact ⟨rfl, rfl⟩
  · have h' : ([47] == s.toList) = false := by simpa using h
    clear h
    go_enter Tryz.func161, Tryz.ntmps161
    go_wp2_with (go_at_call 164; refine (Tryz.stringslite_IndexByte _ _ _).mono ?_; rintro e w' ⟨rfl, rfl⟩)
    go_ret
    exact ⟨rfl, rfl⟩

theorem tup3 {a a' b b' : ByteArray} {c : Bool} (h1 : a = a') (h2 : b = b') : Ending.returned (.tuple #[.string a, .string b, .bool c]) = .returned (.tuple #[.string a', .string b', .bool c]) := by rw [h1, h2]

set_option maxHeartbeats 1000000 in
theorem scut_any (s : ByteArray) (w : World) (hs : s.size ≤ 140737488355328) : Calls Tryz.prog 152 #[.string s, .string ⟨#[47]⟩] w fun e w' => e = .returned (.tuple #[.string ⟨(cut1 s.data.toList).1.toArray⟩, .string ⟨(cut1 s.data.toList).2.1.toArray⟩, .bool (cut1 s.data.toList).2.2]) ∧ ∃ n, w' = w.drewN n := by
  have hl : s.data.toList.length = s.size := rfl
  by_cases h : 47 ∈ s.data.toList
  · have hi := index_some _ h
    have hlt := take_while_lt _ h
    have e1 := take_while_len s.data.toList
    have e2 := drop_while_len s.data.toList
    rw [cut1_yes _ h]
    dsimp only
    obtain ⟨k, hk⟩ : ∃ k, k = (s.data.toList.takeWhile (· != 47)).length := ⟨_, rfl⟩
    rw [← hk] at e1 e2 hi hlt
    rw [← e1, ← e2]
    have c1 : (0 : Int) ≤ ↑k := by omega
    have c2 : (↑k : Int) ≤ ↑s.size := by omega
    have c3 : (0 : Int) ≤ ↑k + 1 := by omega
    have c4 : (↑k + 1 : Int) ≤ ↑s.size := by omega
    have HI := Lib.hid hi
    have HL := Lib.hid hl
    have c5 : IntKind.i64.wrap (↑k + 1) = (↑k + 1 : Int) := IntWalk.i64_in _ (by omega)
    have c6 : ((k : Int) + 1).toNat = k + 1 := by omega
    clear h hi hlt e1 e2 hk hl
    go_enter Tryz.func152, Tryz.ntmps152
    go_wp2_with (go_at_call 161; refine (index_any _ _).mono ?_; rintro e w' ⟨rfl, rfl⟩; rw [HI.out])
    go_region
    go_wp2
    go_ret3
    refine ⟨tup3 (ba_eq _ _ ?_) (ba_eq _ _ ?_), 1, rfl⟩
    · rw [Lib.extract_data, List.drop_zero]; rfl
    · rw [Lib.extract_to_end, List.drop_drop]
  · have hi := index_none _ h
    have HI := Lib.hid hi
    rw [cut1_no _ h]
    clear h hi hl
    go_enter Tryz.func152, Tryz.ntmps152
    go_wp2_with (go_at_call 161; refine (index_any _ _).mono ?_; rintro e w' ⟨rfl, rfl⟩; rw [HI.out])
    go_ret3
    exact ⟨tup3 rfl rfl, 0, rfl⟩

set_option maxHeartbeats 1000000 in
theorem cut_any (s : ByteArray) (w : World) (hs : s.size ≤ 140737488355328) : Calls Tryz.prog 125 #[.string s, .string ⟨#[47]⟩] w fun e w' => e = .returned (.tuple #[.string ⟨(cut1 s.data.toList).1.toArray⟩, .string ⟨(cut1 s.data.toList).2.1.toArray⟩, .bool (cut1 s.data.toList).2.2]) ∧ ∃ n, w' = w.drewN n := by
  go_enter Tryz.func125, Tryz.ntmps125
  go_wp2_with (go_at_call 152; refine (scut_any _ _ hs).mono ?_; rintro e w' ⟨rfl, n, rfl⟩)
  go_ret3
  exact ⟨rfl, n, rfl⟩
end Go.Proofs.YtgmplpfbhcdofaaGreat.Pt
