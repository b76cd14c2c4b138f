/- Proved here: strings.Split of package strings at a slash, in plain words, wherever the tables stand. -/
import Derived.Test.YtiakedoebecgpaaDoorWWay1
import Derived.Lib.SplitLaws
import Derived.Lib.CountLaws
import Derived.Lib.CutLaws
namespace Go.Proofs.YtiakedoebecgpaaDoor
open Go.RowKit Go.Shelf

def slash : ByteArray := ⟨#[47]⟩
theorem index_slash (s : ByteArray) : Lib.indexB s slash = Lib.indexByte s.data.toList 47 := Lib.one s slash rfl
theorem pieces_slash (n : Nat) : ∀ s : ByteArray, Lib.countB s slash = n → (Lib.splitB slash 0 n s).map (·.data.toList) = cutP s.data.toList := by
  induction n with
  | zero =>
    intro s hs
    rw [Lib.splitB_zero]
    by_cases h : 47 ∈ s.data.toList
    · have h1 : Lib.indexB s slash = ((s.data.toList.takeWhile (· != 47)).length : Int) := by rw [index_slash, index_some _ h]
      have := Lib.countB_hit s slash _ (by decide) h1
      omega
    · rw [cutP_last _ h]; rfl
  | succ n ih =>
    intro s hs
    by_cases h : 47 ∈ s.data.toList
    · have h1 : Lib.indexB s slash = ((s.data.toList.takeWhile (· != 47)).length : Int) := by rw [index_slash, index_some _ h]
      have h2 := Lib.countB_hit s slash _ (by decide) h1
      rw [Lib.splitB_hit slash 0 n s _ h1, List.map_cons, cutP_step _ h]
      have h3 : slash.size = 1 := rfl
      rw [h3] at h2 ⊢
      rw [ih _ (by omega), ext_to, Nat.add_zero, take_while_len, Lib.extract_to_end, ← List.drop_drop, drop_while_len]
    · have h1 : Lib.indexB s slash = -1 := by rw [index_slash, index_none _ h]
      have := Lib.countB_miss s slash h1
      omega
def SplitR (l : List Str) (w : World) (e : Ending) (w' : World) : Prop :=
  e = .returned (.slice (some ⟨w.heap.size, 0, none⟩) l.length l.length) ∧ w' = w.alloc (.cells (l.map encS).toArray 9)
theorem ssplit_any (s : ByteArray) (w : World) (hT : Tabs w) (hs : s.size ≤ 2000) : Calls Tryd.prog 105 #[.string s, .string ⟨#[47]⟩] w (SplitR (cutP s.data.toList) w) := by
  obtain ⟨m, hm⟩ := hT.max
  have c := Any.strings_Split { Tryd.laysM146 with } Tryd.laysM146.i9 s slash m w (by omega) hm (by decide)
  refine c.mono fun e w' ⟨he, hw⟩ => ?_
  have hp := pieces_slash _ s rfl
  have hl := congrArg List.length hp
  rw [List.length_map, Lib.splitB_all slash (by decide) 0 _ s rfl] at hl
  refine ⟨by rw [he, hl], ?_⟩
  rw [hw]
  have e2 : (Lib.splitB slash 0 (Lib.countB s slash) s).map Value.string = (cutP s.data.toList).map encS := by
    rw [← hp, List.map_map]
    rfl
  rw [e2]
  rfl
end Go.Proofs.YtiakedoebecgpaaDoor
