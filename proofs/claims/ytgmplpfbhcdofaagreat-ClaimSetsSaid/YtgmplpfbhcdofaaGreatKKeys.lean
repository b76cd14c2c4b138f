/- Proved here: slices.SortedFunc of the keys of a map of claims: the paths, in order. -/
import Derived.Test.YtgmplpfbhcdofaaGreatKSort
namespace Go.Proofs.YtgmplpfbhcdofaaGreat
open Go.RowKit Go.Shelf Go.Lib
attribute [local go_sem] Oper.semAt_some

theorem keys_perm {w : World} {b n : Nat} {s : List Pl} {V : Bs → Value} {D : DataW Value} (hD : w.ownsMap Tryz.prog 9 RV b n D) (hS : MapS D s V) : (pathsS s).Perm (strKeys D) :=
  Collected.perm (left := fun _ => false) ⟨riseP_nodup (pathsS_rise s), fun x => by rw [pathsS_mem, hS.1]; simp⟩ hD law9 Tryz.underlying9 (fun _ => rfl)
theorem size_of_perm {D : DataW Value} (hD : Maps.IsMap D) : (strKeys D).length = Maps.size D := by
  obtain ⟨es, rfl⟩ := hD
  show (es.map _).length = es.length
  simp
theorem keysmake_any (mb : Option Nat) (w : World) : Calls Tryz.prog 67 #[.map mb] w fun e w' => e = .returned (.func (.func 88) #[] #[.pointer (some ⟨w.heap.size, 0, none⟩)]) ∧ w' = w.alloc (.cells #[.map mb] 91) := by
  have h := AnyZ.keys_in Tryz.keysMake Fence.wide 4 trivial rfl mb w
  exact callsIn_wide.1 h
def KeysR (s : List Pl) (w : World) (e : Ending) (w' : World) : Prop := ∃ (v : Value) (ss : List Bs), e = .returned v ∧ ss.Perm (pathsS s) ∧ w'.ownsRow w.heap.size 9 1 v ss.length (ss.map encStr) ∧ Below w.heap.size w w'
theorem keysrow_any (Bm B b : Nat) (s : List Pl) (V : Bs → Value) (w : World) (hm : Box w Bm 91 #[.map (some b)]) (hO : Owned w B b s V) (hl : s.length ≤ 1000000) :
    Calls Tryz.prog 120 #[.slice none 0 0, .func (.func 88) #[] #[.pointer (some ⟨Bm, 0, none⟩)]] w (KeysR s w) := by
  obtain ⟨D, hD, hS⟩ := hO.map
  have hp := keys_perm hD hS
  have hsz : Maps.size D ≤ 1000000 := by
    rw [← size_of_perm hD.isMap, ← hp.length_eq]
    have := pathsS_len s
    omega
  have hg := AnyZ.keys_gives Tryz.keysGo Fence.wide 3 trivial rfl (by omega) Bm b s.length D w hm.lt (hm.cell (k := 0) rfl) hD
  have h := AnyZ.appendSeq_in Tryz.strsSeq Fence.wide 4 trivial rfl (by omega) 88 #[.pointer (some ⟨Bm, 0, none⟩)] trivial (enters_of Tryz.func88 (by kernel_rfl) rfl) (fun ss => ss.Perm (strKeys D)) (Maps.size D) (by unfold maxLen; omega) (by omega) w hg
  refine (callsIn_wide.1 h).mono ?_
  rintro e w' ⟨v, ss, rfl, hs, ho, _, hb⟩
  exact ⟨v, ss, rfl, hs.trans hp.symm, ho, hb⟩
set_option maxRecDepth 100000 in
set_option maxHeartbeats 2000000 in
theorem keyscoll_any (Bm B b : Nat) (s : List Pl) (V : Bs → Value) (w : World) (hm : Box w Bm 91 #[.map (some b)]) (hO : Owned w B b s V) (hl : s.length ≤ 1000000) :
    Calls Tryz.prog 86 #[.func (.func 88) #[] #[.pointer (some ⟨Bm, 0, none⟩)]] w (KeysR s w) := by
  have HA := Lib.hid (keysrow_any Bm B b s V w hm hO hl)
  clear hm hO hl
  go_enter Tryz.func86, Tryz.ntmps86
  go_wp2_with fail
  refine HA.out.mono ?_
  rintro e w1 ⟨v, ss, rfl, hp, ho, hb⟩
  have HO := Lib.hid ho
  have HB := Lib.hid hb
  have HP := Lib.hid hp
  clear ho hb hp
  go_wp2_with fail
  go_ret
  exact ⟨v, ss, rfl, HP.out, HO.out, HB.out⟩
/-- In order, and each once: they are the paths. -/
theorem sorted_paths {s : List Pl} {S : List Bs} (hp : S.Perm (pathsS s)) (hs : S.Pairwise fun a b => ¬ Pt.cmpL b a < 0) : S = pathsS s := by
  refine pathsS_eq ?_ (fun p => ?_)
  · have hn : S.Nodup := hp.nodup_iff.2 (riseP_nodup (pathsS_rise s))
    refine List.Pairwise.imp₂ ?_ hs hn
    intro a b h1 h2
    have a1 := Pt.cl_anti a b
    have a2 : Pt.cmpL a b ≠ 0 := fun e => h2 ((Pt.cl_zero a b).1 e)
    omega
  · rw [hp.mem_iff, pathsS_mem]
def SortedR (s : List Pl) (w : World) (e : Ending) (w' : World) : Prop := ∃ v, e = .returned v ∧ w'.ownsRow w.heap.size 9 1 v (pathsS s).length ((pathsS s).map encStr) ∧ Below w.heap.size w w'
set_option maxRecDepth 100000 in
set_option maxHeartbeats 2000000 in
theorem sorted_any (Bm B b : Nat) (s : List Pl) (V : Bs → Value) (w : World) (hm : Box w Bm 91 #[.map (some b)]) (hO : Owned w B b s V) (hl : s.length ≤ 1000000) (hx : ∀ p ∈ pathsS s, p.length ≤ 140737488355328) :
    Calls Tryz.prog 66 #[.func (.func 88) #[] #[.pointer (some ⟨Bm, 0, none⟩)], .func (.func 68) #[] #[]] w (SortedR s w) := by
  have HA := Lib.hid (keyscoll_any Bm B b s V w hm hO hl)
  have HX := Lib.hid hx
  have HL : Hid ((pathsS s).length ≤ 1000000) := Lib.hid (Nat.le_trans (pathsS_len s) hl)
  clear hm hO hl hx
  go_enter Tryz.func66, Tryz.ntmps66
  go_upto_region 2 with (go_at_call 86; refine HA.out.mono ?_; rintro e w1 ⟨v, ss, rfl, hp, ho, hb⟩; have HO := Lib.hid ho; have HB := Lib.hid hb; have HP := Lib.hid hp; clear ho hb hp)
  obtain ⟨a, c, rfl⟩ := own_slice HO.out
  have HS := Lib.hid (psort_any ss w.heap.size _ w1 HO.out (fun p hp => HX.out p (HP.out.mem_iff.1 hp)) (by rw [HP.out.length_eq]; exact HL.out) HB.out.size)
  have HE : Hid (ss.length = (pathsS s).length) := Lib.hid HP.out.length_eq
  obtain ⟨n, hn⟩ : ∃ n, n = ss.length := ⟨_, rfl⟩
  rw [← hn] at HS HE ⊢
  clear HO hn
  go_wp2_with (go_at_call 87; refine HS.out.mono ?_; rintro e w2 ⟨rfl, S, hp, hs, ho, hb⟩; have HO2 := Lib.hid ho; have HB2 := Lib.hid hb; have HP2 := Lib.hid (sorted_paths (hp.trans HP.out) hs); clear ho hb hp hs)
  go_ret
  refine ⟨_, rfl, ?_, HB.out.trans HB2.out⟩
  have := HO2.out
  rw [HP2.out, HP.out.length_eq] at this
  exact this
end Go.Proofs.YtgmplpfbhcdofaaGreat
