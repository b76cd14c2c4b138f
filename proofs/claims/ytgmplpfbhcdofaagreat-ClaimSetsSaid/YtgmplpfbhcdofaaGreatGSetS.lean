/- Proved here: The contracts of the library's sort and Compact of texts, laid at this program's numbers: each is one application of the guide's own theorem. slices.Grow of nil, slices.Concat, of texts. Union of package claim, of texts. Meet and Less of package claim, of texts. -/
import Derived.Shelf.LaysM
import Derived.Shelf.Sort.Plain
import Derived.Shelf.Slices.In.SortNone
import Derived.Shelf.Slices.CompactS
import Derived.Shelf.Slices.Empties2
import Derived.Test.YtgmplpfbhcdofaaGreatProg
import Derived.Test.YtgmplpfbhcdofaaGreatKCat
import Derived.Test.YtgmplpfbhcdofaaGreatKUni
import Derived.Test.YtgmplpfbhcdofaaGreatGSet
import Derived.Shelf.Spec.SearchS
namespace Go.Proofs
open Go.Shelf
def Tryz.lays190_ren : Go.Shelf.Ren := ⟨fun | 125 => 72 | 128 => 101 | 129 => 102 | 190 => 53 | 258 => 77 | 302 => 104 | 303 => 105 | 304 => 106 | 305 => 107 | 306 => 108 | 307 => 109 | 308 => 110 | 309 => 111 | 310 => 112 | 329 => 129 | 330 => 130 | 333 => 134 | 334 => 135 | 335 => 136 | 336 => 137 | 344 => 155 | n => n, fun | 0 => 0 | 3 => 3 | 4 => 4 | 5 => 5 | 9 => 9 | 31 => 23 | 46 => 101 | 51 => 123 | 53 => 125 | 131 => 41 | 182 => 115 | 183 => 116 | 218 => 144 | 222 => 148 | 228 => 159 | 229 => 160 | n => n, fun | n => n⟩
theorem Tryz.lays190 : Go.Proofs.Lays.n190 Tryz.prog Tryz.lays190_ren := {
  mixed := by kernel_rfl
  f125 := Tryz.func72.trans (congrArg some (by kernel_rfl))
  f128 := Tryz.func101.trans (congrArg some (by kernel_rfl))
  f129 := Tryz.func102.trans (congrArg some (by kernel_rfl))
  f190 := Tryz.func53.trans (congrArg some (by kernel_rfl))
  f258 := Tryz.func77.trans (congrArg some (by kernel_rfl))
  f302 := Tryz.func104.trans (congrArg some (by kernel_rfl))
  f303 := Tryz.func105.trans (congrArg some (by kernel_rfl))
  f304 := Tryz.func106.trans (congrArg some (by kernel_rfl))
  f305 := Tryz.func107.trans (congrArg some (by kernel_rfl))
  f306 := Tryz.func108.trans (congrArg some (by kernel_rfl))
  f307 := Tryz.func109.trans (congrArg some (by kernel_rfl))
  f308 := Tryz.func110.trans (congrArg some (by kernel_rfl))
  f309 := Tryz.func111.trans (congrArg some (by kernel_rfl))
  f310 := Tryz.func112.trans (congrArg some (by kernel_rfl))
  f329 := Tryz.func129.trans (congrArg some (by kernel_rfl))
  f330 := Tryz.func130.trans (congrArg some (by kernel_rfl))
  f333 := Tryz.func134.trans (congrArg some (by kernel_rfl))
  f334 := Tryz.func135.trans (congrArg some (by kernel_rfl))
  f335 := Tryz.func136.trans (congrArg some (by kernel_rfl))
  f336 := Tryz.func137.trans (congrArg some (by kernel_rfl))
  f344 := Tryz.func155.trans (congrArg some (by kernel_rfl))
  t0 := Tryz.underlying0
  a0 := Tryz.isAgg0
  z0 := Tryz.sizeOf0
  v0 := Tryz.zeroValue0
  t3 := Tryz.underlying3
  a3 := Tryz.isAgg3
  z3 := Tryz.sizeOf3
  v3 := Tryz.zeroValue3
  t4 := Tryz.underlying4
  a4 := Tryz.isAgg4
  z4 := Tryz.sizeOf4
  v4 := Tryz.zeroValue4
  t5 := Tryz.underlying5
  a5 := Tryz.isAgg5
  z5 := Tryz.sizeOf5
  v5 := Tryz.zeroValue5
  t9 := Tryz.underlying9
  a9 := Tryz.isAgg9
  z9 := Tryz.sizeOf9
  v9 := Tryz.zeroValue9
  t31 := Tryz.underlying23
  a31 := Tryz.isAgg23
  z31 := Tryz.sizeOf23
  v31 := Tryz.zeroValue23
  t46 := Tryz.underlying101
  a46 := Tryz.isAgg101
  z46 := Tryz.sizeOf101
  v46 := Tryz.zeroValue101
  t51 := Tryz.underlying123
  a51 := Tryz.isAgg123
  z51 := Tryz.sizeOf123
  v51 := Tryz.zeroValue123
  t53 := Tryz.underlying125
  a53 := Tryz.isAgg125
  z53 := Tryz.sizeOf125
  v53 := Tryz.zeroValue125
  t131 := Tryz.underlying41
  a131 := Tryz.isAgg41
  z131 := Tryz.sizeOf41
  v131 := Tryz.zeroValue41
  t182 := Tryz.underlying115
  a182 := Tryz.isAgg115
  z182 := Tryz.sizeOf115
  v182 := Tryz.zeroValue115
  t183 := Tryz.underlying116
  a183 := Tryz.isAgg116
  z183 := Tryz.sizeOf116
  v183 := Tryz.zeroValue116
  t218 := Tryz.underlying144
  a218 := Tryz.isAgg144
  z218 := Tryz.sizeOf144
  v218 := Tryz.zeroValue144
  t222 := Tryz.underlying148
  a222 := Tryz.isAgg148
  z222 := Tryz.sizeOf148
  v222 := Tryz.zeroValue148
  t228 := Tryz.underlying159
  a228 := Tryz.isAgg159
  z228 := Tryz.sizeOf159
  v228 := Tryz.zeroValue159
  t229 := Tryz.underlying160
  a229 := Tryz.isAgg160
  z229 := Tryz.sizeOf160
  v229 := Tryz.zeroValue160 }
def Tryz.lays194_ren : Go.Shelf.Ren := ⟨fun | 194 => 54 | n => n, fun | 0 => 0 | 3 => 3 | 4 => 4 | 9 => 9 | 31 => 23 | n => n, fun | n => n⟩
theorem Tryz.lays194 : Go.Proofs.Lays.n194 Tryz.prog Tryz.lays194_ren := {
  mixed := by kernel_rfl
  f194 := Tryz.func54.trans (congrArg some (by kernel_rfl))
  t0 := Tryz.underlying0
  a0 := Tryz.isAgg0
  z0 := Tryz.sizeOf0
  v0 := Tryz.zeroValue0
  t3 := Tryz.underlying3
  a3 := Tryz.isAgg3
  z3 := Tryz.sizeOf3
  v3 := Tryz.zeroValue3
  t4 := Tryz.underlying4
  a4 := Tryz.isAgg4
  z4 := Tryz.sizeOf4
  v4 := Tryz.zeroValue4
  t9 := Tryz.underlying9
  a9 := Tryz.isAgg9
  z9 := Tryz.sizeOf9
  v9 := Tryz.zeroValue9
  t31 := Tryz.underlying23
  a31 := Tryz.isAgg23
  z31 := Tryz.sizeOf23
  v31 := Tryz.zeroValue23 }
open Go.RowKit Go.Lib Go.Sort in
theorem Tryz.slices_Sort_string (blk off cap : Nat) (ss : List (List UInt8)) (w : World) (hH : Holds encStr w blk off ss.toArray) (hblk : blk < w.heap.size) (hsz : ss.length < 4611686018427387904) :
    Calls Tryz.prog 53 #[.slice (some ⟨blk, off, none⟩) ss.length cap] w fun e w' =>
      e = .returned (.tuple #[]) ∧ ∃ n os, w' = grow (putRow encStr (Sort.ahead w n) blk off (ss.mergeSort fun x y => decide (x ≤ y)).toArray) os := Any.slices_Sort_string Tryz.lays190 blk off cap ss w hH hblk hsz
open Go.RowKit Go.Lib Go.Sort in
theorem Tryz.slices_Sort_string_none (p : Option Addr) (cap : Nat) (w : World) :
    Calls Tryz.prog 53 #[.slice p 0 cap] w fun e w' => e = .returned (.tuple #[]) ∧ w' = w := Any.slices_Sort_string_none Tryz.lays190 p cap w
open Go.RowKit Go.Lib Go.Sort in
theorem Tryz.slices_Compact_string (blk off cap : Nat) (zs : List (List UInt8)) (w : World) (hH : Holds encStr w blk off zs.toArray) (hsz : zs.length ≤ 9223372036854775807) (hcap : zs.length ≤ cap) :
    Calls Tryz.prog 54 #[.slice (some ⟨blk, off, none⟩) zs.length cap] w fun e w' => e = .returned (.slice (some ⟨blk, off, none⟩) (Lib.compact zs).length cap) ∧ ∃ q, w' = putRow encStr (Sort.ahead w q) blk off (Lib.compact zs ++ List.replicate (zs.length - (Lib.compact zs).length) []).toArray := Any.slices_Compact_string Tryz.lays194 blk off cap zs w hH hsz hcap
open Go.RowKit Go.Lib Go.Sort in
theorem Tryz.slices_Compact_string_empty (a : Option Addr) (cap : Nat) (w : World) :
    Calls Tryz.prog 54 #[.slice a 0 cap] w fun e w' => e = .returned (.slice a 0 cap) ∧ w' = w := Any.slices_Compact_string_empty Tryz.lays194 a cap w
end Go.Proofs

namespace Go.Proofs.YtgmplpfbhcdofaaGreat
open Go.RowKit Go.Shelf

def Tryz.growS_ren : Go.Shelf.Ren := ⟨fun | 4 => 76 | n => n, fun | 0 => 0 | 3 => 3 | 4 => 4 | 9 => 9 | 20 => 20 | 22 => 23 | 25 => 9 | n => n, fun | n => n⟩
theorem Tryz.growS_lays : Go.Proofs.Lays8.n4 Tryz.prog Tryz.growS_ren := {
  mixed := by kernel_rfl
  f4 := ⟨"slices.Grow[[]string,string]", by decide, Tryz.func76.trans (congrArg some (by kernel_rfl))⟩
  t0 := Tryz.underlying0
  a0 := Tryz.isAgg0
  z0 := Tryz.sizeOf0
  v0 := Tryz.zeroValue0
  t3 := Tryz.underlying3
  a3 := Tryz.isAgg3
  z3 := Tryz.sizeOf3
  v3 := Tryz.zeroValue3
  t4 := Tryz.underlying4
  a4 := Tryz.isAgg4
  z4 := Tryz.sizeOf4
  v4 := Tryz.zeroValue4
  t9 := Tryz.underlying9
  a9 := Tryz.isAgg9
  z9 := Tryz.sizeOf9
  v9 := Tryz.zeroValue9
  t20 := Tryz.underlying20
  a20 := Tryz.isAgg20
  z20 := Tryz.sizeOf20
  v20 := Tryz.zeroValue20
  t22 := Tryz.underlying23
  a22 := Tryz.isAgg23
  z22 := Tryz.sizeOf23
  v22 := Tryz.zeroValue23 }
theorem infoC9 : (Tryz.prog.info? 9).map (fun i => (i.zero, i.size, i.bytes)) = some (some (.string ⟨#[]⟩), 1, 16) := by kernel_rfl

theorem growS_nil (n : Nat) (hn : n * 16 ≤ 140737488355328) (w : World) : Calls Tryz.prog 76 #[.slice none 0 0, .int .i64 (n : Int)] w fun e w' => ∃ v, e = .returned v ∧ w'.ownsRow w.heap.size 9 1 v 0 [] ∧ Below w.heap.size w w' := by
  obtain ⟨i0, hi, hz0, hz1, hz2⟩ := info_parts infoC9
  by_cases h0 : n = 0
  · subst h0
    refine (Any8.slices_Grow_room Tryz.growS_lays none 0 0 0 w (Nat.le_refl _) (by omega) (by omega) (Nat.le_refl _)).mono ?_
    rintro e w' ⟨rfl, rfl⟩
    exact ⟨_, rfl, World.ownsRow_nil _ _ _ _, Below.refl _ _⟩
  · refine (Any8.slices_Grow_grow Tryz.growS_lays i0 (.string ⟨#[]⟩) hi hz0 (by omega) none 0 0 n [] w (Nat.le_refl _) (by omega) (by rw [hz2]; omega) (by omega) (by simp) (fun _ => rfl) (fun a h => by cases h)).mono ?_
    rintro e w' ⟨rfl, rfl⟩
    have g1 := grownCap_ge w (0 + n) 0 9
    have g2 := grownCap_le_maxLen w (0 + n) 0 9 (by unfold maxLen; omega)
    refine ⟨_, rfl, ⟨by simp, .inr ⟨_, _, _, rfl, Nat.le_refl _, heap_alloc_new w.drew _, by omega, g2, ?_, by simp⟩⟩, (Below.refl _ w).drew.alloc (Nat.le_refl _) _⟩
    show (#[] ++ Builtin.zeroCells (.string ⟨#[]⟩ : Value).cells (0 + n - 0) ++ Builtin.zeroCells (.string ⟨#[]⟩ : Value).cells (grownCap w (0 + n) 0 9 - (0 + n))).size = grownCap w (0 + n) 0 9 * 1
    rw [Array.size_append, Array.size_append, zero_cells _ rfl, zero_cells _ rfl]
    obtain ⟨G, hG⟩ : ∃ G, G = grownCap w (0 + n) 0 9 := ⟨_, rfl⟩
    rw [← hG] at g1 ⊢
    simp
    omega

def CatS (w : World) (rows : List (List Value)) (e : Ending) (w' : World) : Prop := ∃ v', e = .returned v' ∧ w'.ownsRow w.heap.size 9 1 v' rows.flatten.length rows.flatten ∧ Below w.heap.size w w'

set_option maxRecDepth 100000 in
set_option maxHeartbeats 2000000 in
theorem concatS_any (rows : List (List Value)) (v : Value) (w : World) (hv : RdR w v rows) (h1 : ∀ r ∈ rows, ∀ y ∈ r, y.oneCell' = true) (hl : rows.flatten.length * 16 ≤ 140737488355328) : Calls Tryz.prog 52 #[v] w (CatS w rows) := by
  obtain ⟨vs, ⟨a, cap, rfl, hlc, hcm, hnil, hcell⟩, hlen, hrow⟩ := hv
  unfold maxLen at hcm
  obtain ⟨n, hn⟩ : ∃ n, n = vs.length := ⟨_, rfl⟩
  rw [← hn] at hlc hcell hlen ⊢
  have HN := Lib.hid hn
  have HC := Lib.hid hcell
  have HR := Lib.hid hrow
  have HL := Lib.hid hlen
  have H1 := Lib.hid h1
  have HT := Lib.hid hl
  clear hn hcell hrow hlen h1 hl hnil
  go_enter Tryz.func52, Tryz.ntmps52
  go_wp2
  go_loop [3, 5, 11, 12, 13, 14, 15, 16, 17, 18, 19, 20, 22] (fun s _ i _ _ _ _ _ _ _ _ _ _ => ∃ k : Nat, k ≤ n ∧ i = .int .i64 k ∧ s = .int .i64 ((rows.take k).flatten.length : Nat)) (fun _ _ i _ _ _ _ _ _ _ _ _ _ => n - (Lib.intOf i).toNat)
  case atStart => exact ⟨0, Nat.zero_le _, rfl, rfl⟩
  case round =>
    obtain ⟨k, hk, rfl, rfl⟩ := hrel
    by_cases hlt : k < n
    · obtain ⟨x, hx⟩ : ∃ x, vs[k]? = some x := ⟨_, List.getElem?_eq_getElem (by have := HN.out; omega)⟩
      obtain ⟨r, hr⟩ : ∃ r, rows[k]? = some r := ⟨_, List.getElem?_eq_getElem (by have := HL.out; omega)⟩
      obtain ⟨g, o, rfl, hg, hc⟩ := HC.out (by omega)
      have c1 := hc k x hx
      obtain ⟨a2, cap2, rfl, hc21, hc22, _, _⟩ := HR.out k x r hx hr
      unfold maxLen at hc22
      obtain ⟨m, hm⟩ : ∃ m, m = r.length := ⟨_, rfl⟩
      rw [← hm] at c1 hc21
      obtain ⟨q, hq⟩ : ∃ q, q = (rows.take k).flatten.length := ⟨_, rfl⟩
      have hq2 : (rows.take (k + 1)).flatten.length = q + m := by rw [flat_take hr, List.length_append, hq, hm]
      have hb : q + m ≤ 140737488355328 := by
        have := flat_le rows (k + 1)
        have := HT.out
        omega
      rw [← hq]
      have HQ2 := Lib.hid hq2
      clear hx hr hc hq hq2 hm
      go_wp2
      all_goals first
        | (exfalso; omega)
        | (go_round
           case rel => exact ⟨k + 1, hlt, by go_num, by rw [HQ2.out]; go_num⟩
           case measure => simp [Lib.intOf]; omega)
    · have hkn : ¬ ((k : Int) < (n : Int)) := by omega
      have hq : (rows.take k).flatten = rows.flatten := by rw [List.take_of_length_le (by have := HL.out; omega)]
      rw [hq]
      obtain ⟨q, hq2⟩ : ∃ q, q = rows.flatten.length := ⟨_, rfl⟩
      rw [← hq2]
      have HQ := Lib.hid hq2
      have hb : q ≤ 140737488355328 := by have := HT.out; omega
      clear hq hq2
      go_wp2_with fail
      refine (growS_nil q (by have := HT.out; have := HQ.out; omega) _).mono ?_
      rintro e w1 ⟨v1, rfl, hown, hb1⟩
      have HO := Lib.hid hown
      clear hown
      go_wp2_with fail
      go_loopw [6, 8, 27, 28, 29, 30, 31, 32, 33, 34] (fun v2 _ i _ _ _ _ _ _ _ wr => ∃ j : Nat, j ≤ n ∧ i = .int .i64 j ∧ Hid (wr.ownsRow w.heap.size 9 1 v2 (rows.take j).flatten.length (rows.take j).flatten) ∧ Below w.heap.size w wr) (fun _ _ i _ _ _ _ _ _ _ _ => n - (Lib.intOf i).toNat)
      case atStart => exact ⟨0, Nat.zero_le _, rfl, HO, hb1⟩
      case round =>
        obtain ⟨j, hj, rfl, HW, hB⟩ := hrel
        by_cases hlt2 : j < n
        · obtain ⟨x, hx⟩ : ∃ x, vs[j]? = some x := ⟨_, List.getElem?_eq_getElem (by have := HN.out; omega)⟩
          obtain ⟨r, hr⟩ : ∃ r, rows[j]? = some r := ⟨_, List.getElem?_eq_getElem (by have := HL.out; omega)⟩
          obtain ⟨g, o, rfl, hg, hc⟩ := HC.out (by omega)
          have c1 := (hB.cell (p := ⟨g, _, none⟩) hg).trans (hc j x hx)
          have HS := Lib.hid ((HR.out j x r hx hr).on hB)
          have HF := Lib.hid (flat_take hr)
          have HM := Lib.hid (H1.out r (List.mem_of_getElem? hr))
          have HZ := Lib.hid (flat_le rows (j + 1))
          clear hx hr hc
          go_wp2_with (at_builtin; refine wpList_append_rd rfl (.tmp 31) (.tmp 32) 23 9 (.string ⟨#[]⟩) 16 rfl Tryz.underlying23 infoC9 rfl w.heap.size _ x (rows.take j).flatten r rfl HW.out rfl HS.out HM.out hB.size (by have := HZ.out; rw [HF.out, List.length_append] at this; have := HT.out; omega) (by decide) ?_; intro v' w2 hown' hb2; have HO' := Lib.hid hown'; clear hown')
          go_roundw
          case rel => exact ⟨j + 1, hlt2, by go_num, by rw [HF.out]; exact HO', hB.trans hb2⟩
          case measure => simp [Lib.intOf]; omega
        · have hjn : ¬ ((j : Int) < (n : Int)) := by omega
          have HE : Hid (rows.take j = rows) := Lib.hid (List.take_of_length_le (by have := HL.out; omega))
          go_wp2_with fail
          go_ret
          exact ⟨_, rfl, by have := HW.out; rw [HE.out] at this; exact this, hB⟩
end Go.Proofs.YtgmplpfbhcdofaaGreat

namespace Go.Proofs.YtgmplpfbhcdofaaGreat
open Go.RowKit Go.Shelf Go.Lib
open Go.Sort hiding Below
attribute [local go_sem] Oper.semAt_some

def strsV (l : List Bs) : List Value := l.map encStr
theorem strsV_len (l : List Bs) : (strsV l).length = l.length := by simp [strsV]
theorem strsV_one (l : List Bs) : ∀ y ∈ strsV l, y.oneCell' = true := by
  intro y hy
  obtain ⟨x, _, rfl⟩ := List.mem_map.1 hy
  rfl
theorem strsV_flat (ls : List (List Bs)) : (ls.map strsV).flatten = strsV ls.flatten := by
  simp [strsV, List.map_flatten]
  rfl
def leS : Bs → Bs → Bool := fun x y => decide (x ≤ y)
theorem ordS : Ordr leS where
  trans := fun a b c h1 h2 => by simp only [leS, decide_eq_true_eq] at *; exact List.le_trans h1 h2
  total := fun a b => by simp only [leS, Bool.or_eq_true, decide_eq_true_eq]; exact List.le_total a b
  anti := fun a b h1 h2 => by simp only [leS, decide_eq_true_eq] at *; exact List.le_antisymm h1 h2
def sortS (l : List Bs) : List Bs := l.mergeSort fun x y => decide (x ≤ y)
/-- In order, each once. -/
def uniS (l : List Bs) : List Bs := Lib.compact (sortS l)
theorem sortS_len (l : List Bs) : (sortS l).length = l.length := List.length_mergeSort _
theorem compactS_len (l : List Bs) : (Lib.compact l).length ≤ l.length := by
  unfold Lib.compact Lib.compactUpTo
  rw [List.length_map]
  have := List.length_filter_le (Lib.keeps l.toArray) (List.range l.length)
  simpa using this
theorem sort_str (l : List Bs) (B : Nat) (v : Value) (w : World) (ho : w.ownsRow B 9 1 v l.length (strsV l)) (hl : l.length ≤ 1000000) (hB : B ≤ w.heap.size) :
    Calls Tryz.prog 53 #[v] w fun e w' => e = .returned (.tuple #[]) ∧ w'.ownsRow B 9 1 v l.length (strsV (sortS l)) ∧ Below B w w' := by
  obtain ⟨a, c, rfl⟩ := own_slice ho
  rcases own_addr ho with ⟨rfl, h0, rfl⟩ | ⟨g, rfl, hg1, hg2⟩
  · have e0 : l = [] := List.eq_nil_of_length_eq_zero h0
    subst e0
    exact (Tryz.slices_Sort_string_none none 0 w).mono fun e w' ⟨h1, h2⟩ => ⟨h1, by rw [h2, show sortS [] = [] from by simp [sortS]]; exact ho, by rw [h2]; exact Below.refl _ _⟩
  · refine (Tryz.slices_Sort_string g 0 c l w (own_holds (enc := encStr) (d := l.toArray) (n := l.length) (by simp) ho) hg2 (by omega)).mono ?_
    rintro e w' ⟨rfl, n, os, rfl⟩
    refine ⟨rfl, ?_, below_put _ hg1 hB⟩
    exact own_put (enc := encStr) (m := n) (os := os) (sortS l).toArray (by simp [sortS]) ho
theorem compact_str (l : List Bs) (B : Nat) (v : Value) (w : World) (ho : w.ownsRow B 9 1 v l.length (strsV l)) (hl : l.length ≤ 1000000) (hB : B ≤ w.heap.size) :
    Calls Tryz.prog 54 #[v] w fun e w' => ∃ v', e = .returned v' ∧ w'.ownsRow B 9 1 v' (Lib.compact l).length (strsV (Lib.compact l)) ∧ Below B w w' := by
  obtain ⟨a, c, rfl⟩ := own_slice ho
  rcases own_addr ho with ⟨rfl, h0, rfl⟩ | ⟨g, rfl, hg1, hg2⟩
  · have e0 : l = [] := List.eq_nil_of_length_eq_zero h0
    subst e0
    refine (Tryz.slices_Compact_string_empty none 0 w).mono ?_
    rintro e w' ⟨rfl, rfl⟩
    exact ⟨_, rfl, World.ownsRow_nil _ _ _ _, Below.refl _ _⟩
  · have hc : l.length ≤ c := by
      rcases ho.2 with ⟨h, _⟩ | ⟨g', c', cur, h, _, _, h3, _⟩
      · cases h
      · cases h; exact h3
    refine (Tryz.slices_Compact_string g 0 c l w (own_holds (enc := encStr) (d := l.toArray) (n := l.length) (by simp) ho) (by omega) hc).mono ?_
    rintro e w' ⟨rfl, q, rfl⟩
    have hle := compactS_len l
    have h1 := own_put (enc := encStr) (m := q) (os := #[]) (Lib.compact l ++ List.replicate (l.length - (Lib.compact l).length) ([] : Bs)).toArray (by simp; omega) ho
    rw [grow_empty] at h1
    have h2 := own_cut h1 hle
    have h3 := below_put (enc := encStr) (m := q) (os := #[]) (Lib.compact l ++ List.replicate (l.length - (Lib.compact l).length) ([] : Bs)).toArray hg1 hB
    rw [grow_empty] at h3
    refine ⟨_, rfl, ?_, h3⟩
    simpa [strsV] using h2
set_option maxRecDepth 100000 in
set_option maxHeartbeats 2000000 in
theorem unionS_any (ls : List (List Bs)) (v : Value) (w : World) (hv : RdR w v (ls.map strsV)) (hl : ls.flatten.length ≤ 1000000) :
    Calls Tryz.prog 30 #[v] w fun e w' => ∃ v', e = .returned v' ∧ w'.ownsRow w.heap.size 9 1 v' (uniS ls.flatten).length (strsV (uniS ls.flatten)) ∧ Below w.heap.size w w' := by
  have HC := Lib.hid (concatS_any (ls.map strsV) v w hv (fun r hr y hy => by obtain ⟨x, _, rfl⟩ := List.mem_map.1 hr; exact strsV_one x y hy) (by rw [strsV_flat, strsV_len]; omega))
  have HL := Lib.hid hl
  obtain ⟨vs, ⟨a, cap, rfl, _⟩, _⟩ := hv
  obtain ⟨n, hn⟩ : ∃ n, n = vs.length := ⟨_, rfl⟩
  rw [← hn] at HC ⊢
  clear hl hn
  obtain ⟨L, hL⟩ : ∃ L, L = ls.flatten := ⟨_, rfl⟩
  have HF : Hid ((ls.map strsV).flatten = strsV L) := Lib.hid (by rw [strsV_flat, hL])
  rw [← hL] at HL ⊢
  clear hL
  go_enter Tryz.func30, Tryz.ntmps30
  go_upto_region 2 with (go_at_call 52; refine HC.out.mono ?_; rintro e w1 ⟨v1, rfl, ho, hb⟩; have HO1 : Hid (w1.ownsRow w.heap.size 9 1 v1 L.length (strsV L)) := Lib.hid (by rw [HF.out, strsV_len] at ho; exact ho); have HB1 := Lib.hid hb; clear ho hb; obtain ⟨a1, c1, rfl⟩ := own_slice HO1.out)
  have HS := Lib.hid (sort_str L w.heap.size _ w1 HO1.out HL.out HB1.out.size)
  obtain ⟨n1, hn1⟩ : ∃ n, n = L.length := ⟨_, rfl⟩
  rw [← hn1] at HS ⊢
  have HN1 := Lib.hid hn1
  clear hn1 HO1
  go_upto_region 3 with (go_at_call 53; refine HS.out.mono ?_; rintro e w2 ⟨rfl, ho, hb⟩; have HO2 : Hid (w2.ownsRow w.heap.size 9 1 (.slice a1 n1 c1) (sortS L).length (strsV (sortS L))) := Lib.hid (by rw [sortS_len, ← HN1.out]; exact ho); have HB2 := Lib.hid (HB1.out.trans hb); clear ho hb)
  have HP := Lib.hid (compact_str (sortS L) w.heap.size _ w2 HO2.out (by rw [sortS_len]; exact HL.out) HB2.out.size)
  clear HO2 HS
  go_wp2_with (go_at_call 54; refine HP.out.mono ?_; rintro e w3 ⟨v3, rfl, ho, hb⟩; have HO3 := Lib.hid ho; have HB3 := Lib.hid (HB2.out.trans hb); clear ho hb)
  go_ret
  exact ⟨v3, rfl, HO3.out, HB3.out⟩
end Go.Proofs.YtgmplpfbhcdofaaGreat

namespace Go.Proofs
open Go.Shelf
def Tryz.laysNm226_ren : Go.Shelf.Ren := ⟨fun | 26 => 79 | 33 => 110 | 34 => 113 | 38 => 137 | n => n, fun | 0 => 0 | 3 => 3 | 4 => 4 | 9 => 9 | 24 => 23 | 40 => 101 | n => n, fun | n => n⟩
theorem Tryz.laysNm226 : Go.Proofs.Lays2.n26 Tryz.prog Tryz.laysNm226_ren := {
  mixed := by kernel_rfl
  f26 := Tryz.func79.trans (congrArg some (by kernel_rfl))
  f33 := Tryz.func110.trans (congrArg some (by kernel_rfl))
  f34 := Tryz.func113.trans (congrArg some (by kernel_rfl))
  f38 := Tryz.func137.trans (congrArg some (by kernel_rfl))
  t0 := Tryz.underlying0
  a0 := Tryz.isAgg0
  z0 := Tryz.sizeOf0
  v0 := Tryz.zeroValue0
  t3 := Tryz.underlying3
  a3 := Tryz.isAgg3
  z3 := Tryz.sizeOf3
  v3 := Tryz.zeroValue3
  t4 := Tryz.underlying4
  a4 := Tryz.isAgg4
  z4 := Tryz.sizeOf4
  v4 := Tryz.zeroValue4
  t9 := Tryz.underlying9
  a9 := Tryz.isAgg9
  z9 := Tryz.sizeOf9
  v9 := Tryz.zeroValue9
  t24 := Tryz.underlying23
  a24 := Tryz.isAgg23
  z24 := Tryz.sizeOf23
  v24 := Tryz.zeroValue23
  t40 := Tryz.underlying101
  a40 := Tryz.isAgg101
  z40 := Tryz.sizeOf101
  v40 := Tryz.zeroValue101 }
def Tryz.laysH10s_ren : Go.Shelf.Ren := ⟨fun | 6 => 80 | 10 => 56 | n => n, fun | 0 => 0 | 3 => 3 | 4 => 4 | 22 => 23 | 23 => 9 | 25 => 81 | n => n, fun | n => n⟩
theorem Tryz.laysH10s : Go.Proofs.SlLaysH.n10 Tryz.prog Tryz.laysH10s_ren := {
  mixed := by kernel_rfl
  f6 := ⟨Tryz.f80.name, by decide, Tryz.func80.trans (congrArg some (by kernel_rfl))⟩
  f10 := ⟨Tryz.f56.name, by decide, Tryz.func56.trans (congrArg some (by kernel_rfl))⟩
  t0 := Tryz.underlying0
  a0 := Tryz.isAgg0
  z0 := Tryz.sizeOf0
  v0 := Tryz.zeroValue0
  t3 := Tryz.underlying3
  a3 := Tryz.isAgg3
  z3 := Tryz.sizeOf3
  v3 := Tryz.zeroValue3
  t4 := Tryz.underlying4
  a4 := Tryz.isAgg4
  z4 := Tryz.sizeOf4
  v4 := Tryz.zeroValue4
  t22 := Tryz.underlying23
  a22 := Tryz.isAgg23
  z22 := Tryz.sizeOf23
  v22 := Tryz.zeroValue23
  a23 := Tryz.isAgg9
  z23 := Tryz.sizeOf9
  t25 := Tryz.underlying81
  a25 := Tryz.isAgg81
  z25 := Tryz.sizeOf81
  v25 := Tryz.zeroValue81 }
end Go.Proofs
namespace Go.Proofs.YtgmplpfbhcdofaaGreat
open Go.RowKit Go.Shelf Go.Lib
open Go.Sort hiding Below
attribute [local go_sem] Oper.semAt_some

theorem uniS_mem (l : List Bs) (x : Bs) : x ∈ uniS l ↔ x ∈ l := setOf_mem ordS l x
theorem uniS_up (l : List Bs) : UpS leS (uniS l) := setOf_up ordS l
theorem uniS_le (l : List Bs) : (uniS l).Pairwise (· ≤ ·) := (uniS_up l).imp (fun {a b} h => by simpa [leS] using h.1)
theorem uniS_len (l : List Bs) : (uniS l).length ≤ l.length := setOf_len ordS l
/-- It is in the set. -/
def hasT (l : List Bs) (x : Bs) : Bool := l.contains x
theorem hasT_iff (l : List Bs) (x : Bs) : hasT l x = true ↔ x ∈ l := by unfold hasT; simp
def meetS (a b : List Bs) : List Bs := (uniS a).filter fun x => hasT (uniS b) x
def lessS (a b : List Bs) : List Bs := (uniS a).filter fun x => !hasT (uniS b) x

/-! ### within's closure -/
/-- Where a set lies that is asked. -/
structure SetAtS (W : World) (g : Nat) (R : List Bs) : Prop where
  ex : ∃ vr, W.cell? ⟨g, 0, none⟩ = some vr ∧ Rd W vr (strsV R)
theorem getT {R : List Bs} {j : Nat} {x : Bs} (h : j < R.length) : R.getD j x = R[j] := by simp [h]
theorem bl_self (x : Bs) : Op.bytesLess x x = false := by rw [bytesLess_eq]; exact decide_eq_false (List.lt_irrefl x)
def sxOf (R : List Bs) (x : Bs) (j : Nat) : ByteArray := ⟨(R.getD j x).toArray⟩
theorem sx_list (R : List Bs) (x : Bs) (j : Nat) : (sxOf R x j).toList = R.getD j x := by rw [Lib.toList_data]; rfl
theorem has_at {R : List Bs} (hs : R.Pairwise (· ≤ ·)) (x : Bs) :
    Lib.bsGo (fun t => Op.bytesLess (sxOf R x t).toList x) R.length 0 R.length = (R.takeWhile fun y => decide (y < x)).length ∧ ((R.takeWhile fun y => decide (y < x)).length < R.length ∧ sxOf R x (R.takeWhile fun y => decide (y < x)).length = ⟨x.toArray⟩ ↔ x ∈ R) := by
  obtain ⟨T, hT⟩ : ∃ T, T = R.takeWhile fun y => decide (y < x) := ⟨_, rfl⟩
  obtain ⟨D, hD⟩ : ∃ D, D = R.dropWhile fun y => decide (y < x) := ⟨_, rfl⟩
  have e : R = T ++ D := by rw [hT, hD]; exact List.takeWhile_append_dropWhile.symm
  have h1 : ∀ y ∈ T, y < x := fun y hy => by
    rw [hT] at hy
    have := tw_mem hy
    simpa using this
  have hlen : R.length = T.length + D.length := by rw [e, List.length_append]
  have hhead : ∀ z r, D = z :: r → ¬ z < x := fun z r hz => by
    have := List.head?_dropWhile_not (fun y => decide (y < x)) R
    rw [← hD, hz] at this
    simpa using this
  have h2 : ∀ y ∈ D, ¬ y < x := fun y hy => by
    cases hz : D with
    | nil => rw [hz] at hy; cases hy
    | cons z r =>
      have h3 := hhead z r hz
      rw [hz] at hy
      rcases List.mem_cons.1 hy with rfl | hy
      · exact h3
      · have h4 : z ≤ y := by
          have hs' := hs
          rw [e, hz] at hs'
          exact (List.pairwise_cons.1 (List.pairwise_append.1 hs').2.1).1 y hy
        intro h5
        exact h3 (List.lt_of_le_of_lt h4 h5)
  rw [← hT]
  constructor
  · refine Lib.bsGo_spec _ T.length (fun t ht => ?_) (fun t ht => ?_) _ _ _ (by omega) (Nat.zero_le _) (by omega)
    · rw [sx_list, getT (show t < R.length by omega), bytesLess_eq]
      refine decide_eq_true (h1 _ ?_)
      have : R[t]'(by omega) = T[t] := by simp only [e]; exact List.getElem_append_left ht
      rw [this]
      exact List.getElem_mem _
    · rcases Nat.lt_or_ge t R.length with h | h
      · rw [sx_list, getT h, bytesLess_eq]
        refine decide_eq_false (h2 _ ?_)
        have : R[t] = D[t - T.length]'(by omega) := by simp only [e]; exact List.getElem_append_right ht
        rw [this]
        exact List.getElem_mem _
      · rw [sx_list, show R.getD t x = x from by simp [List.getElem?_eq_none h]]
        exact bl_self x
  · constructor
    · rintro ⟨h, hx⟩
      have h3 := sx_list R x T.length
      rw [hx, getT h, Lib.toList_data] at h3
      have h4 : x = R[T.length] := h3
      rw [h4]
      exact List.getElem_mem _
    · intro hm
      have hmD : x ∈ D := by
        rw [e] at hm
        rcases List.mem_append.1 hm with h | h
        · exact absurd (h1 x h) (List.lt_irrefl x)
        · exact h
      cases hz : D with
      | nil => rw [hz] at hmD; cases hmD
      | cons z r =>
        have hlt : T.length < R.length := by rw [hlen, hz]; simp
        refine ⟨hlt, ?_⟩
        have hzx : z ≤ x := by
          rw [hz] at hmD
          rcases List.mem_cons.1 hmD with rfl | h
          · exact List.le_refl _
          · have hs' := hs
            rw [e, hz] at hs'
            exact (List.pairwise_cons.1 (List.pairwise_append.1 hs').2.1).1 x h
        have hxz : z = x := List.le_antisymm hzx (List.not_lt.1 (hhead z r hz))
        have h4 : R[T.length] = z := by simp only [e, hz]; simp
        unfold sxOf
        rw [getT hlt, h4, hxz]
set_option maxRecDepth 100000 in
set_option maxHeartbeats 2000000 in
theorem inS_any (R : List Bs) (g : Nat) (x : Bs) (W : World) (h : SetAtS W g R) (hs : R.Pairwise (· ≤ ·)) (hl : R.length ≤ 1000000) :
    FnGives Tryz.prog 78 #[.pointer (some ⟨g, 0, none⟩)] #[encStr x] (.bool (hasT R x)) W := by
  show Calls Tryz.prog 78 #[.string ⟨x.toArray⟩, .pointer (some ⟨g, 0, none⟩)] W _
  obtain ⟨vr, c0, hr⟩ := h.ex
  have HC : Hid (Calls Tryz.prog 79 #[vr, .string ⟨x.toArray⟩] W fun e w' => ∃ k, e = .returned (.tuple #[.int .i64 k, .bool (hasT R x)]) ∧ ∃ q, w' = W.drewN q) := Lib.hid (by
    obtain ⟨a, c, rfl, hc⟩ := hr.open'
    rw [strsV_len] at hc ⊢
    rcases Nat.eq_zero_or_pos R.length with h0 | h0
    · have e0 : R = [] := List.eq_nil_of_length_eq_zero h0
      subst e0
      refine (Any2.slices_BinarySearch_string_empty Tryz.laysNm226 a c _ W).mono ?_
      rintro e w' ⟨rfl, rfl⟩
      exact ⟨0, by simp [hasT], 0, rfl⟩
    · obtain ⟨b, o, rfl, hcc⟩ := hc h0
      refine (Any2.slices_BinarySearch_string Tryz.laysNm226 b o R.length c (sxOf R x) ⟨x.toArray⟩ W (by omega) (fun j hj => ?_)).mono ?_
      · exact hcc j _ (by unfold strsV sxOf; rw [List.getElem?_map, List.getElem?_eq_getElem hj, getT hj]; rfl)
      · rintro e w' ⟨rfl, q, rfl⟩
        have e1 : (⟨x.toArray⟩ : ByteArray).toList = x := by rw [Lib.toList_data]
        obtain ⟨h1, h2⟩ := has_at hs x
        have h3 : decide ((R.takeWhile fun y => decide (y < x)).length < R.length ∧ sxOf R x (R.takeWhile fun y => decide (y < x)).length = ⟨x.toArray⟩) = hasT R x := by
          rw [Bool.eq_iff_iff, decide_eq_true_iff, hasT_iff]
          exact h2
        refine ⟨((R.takeWhile fun y => decide (y < x)).length : Nat), ?_, q, rfl⟩
        rw [e1, h1, h3])
  obtain ⟨a, c, rfl, _⟩ := hr.open'
  clear hr h
  go_enter Tryz.func78, Tryz.ntmps78
  go_wp2_with (go_at_call 79; refine HC.out.mono ?_; rintro e w' ⟨k, rfl, q, rfl⟩; have q0 : (W.drewN q).cell? ⟨g, 0, none⟩ = some (.slice a (strsV R).length c) := c0)
  go_ret
  exact ⟨rfl, _, rfl⟩
/-- Meet's closure: not in the set. -/
structure NotAtS (W : World) (g2 g : Nat) (R : List Bs) : Prop where
  c : W.cell? ⟨g2, 0, none⟩ = some (.func (.func 78) #[] #[.pointer (some ⟨g, 0, none⟩)])
  s : SetAtS W g R
set_option maxRecDepth 100000 in
set_option maxHeartbeats 2000000 in
theorem notinS_any (R : List Bs) (g2 g : Nat) (x : Bs) (W : World) (h : NotAtS W g2 g R) (hs : R.Pairwise (· ≤ ·)) (hl : R.length ≤ 1000000) :
    FnGives Tryz.prog 57 #[.pointer (some ⟨g2, 0, none⟩)] #[encStr x] (.bool (!hasT R x)) W := by
  show Calls Tryz.prog 57 #[.string ⟨x.toArray⟩, .pointer (some ⟨g2, 0, none⟩)] W _
  have c0 := h.c
  have HC := Lib.hid (inS_any R g x W h.s hs hl)
  clear h
  go_enter Tryz.func57, Tryz.ntmps57
  go_wp2_with (go_at_call 78; refine HC.out.mono ?_; rintro e w' ⟨rfl, q, rfl⟩)
  go_ret
  exact ⟨rfl, _, rfl⟩

theorem rdrS_one {w : World} {v : Value} {b : List Bs} (h : Rd w v (strsV b)) : RdR (w.alloc (.cells #[v] 23)) (.slice (some ⟨w.heap.size, 0, none⟩) 1 1) ([b].map strsV) := by
  refine ⟨[v], rd_val (t := 23) box_new, rfl, fun i x r hx hr => ?_⟩
  match i, hx, hr with
  | 0, hx, hr =>
    simp at hx hr
    subst hx hr
    exact h.on (below_new _ _)
theorem flatS_one (b : List Bs) : [b].flatten = b := by simp
/-- A set that is asked, in memory of its own. -/
structure SetInS (W : World) (B g : Nat) (vr : Value) (R : List Bs) : Prop where
  c : W.cell? ⟨g, 0, none⟩ = some vr
  lo : B ≤ g
  lt : g < W.heap.size
  far : ∀ h, vr.ownBlock = some h → h ≠ g
  own : W.ownsRow B 9 1 vr R.length (strsV R)
theorem SetInS.at_ {W : World} {B g : Nat} {vr : Value} {R : List Bs} (h : SetInS W B g vr R) : SetAtS W g R := ⟨vr, h.c, Rd.of_own h.own⟩
theorem SetInS.on {W W' : World} {B g : Nat} {vr : Value} {R : List Bs} (h : SetInS W B g vr R) (hb : Below W.heap.size W W') : SetInS W' B g vr R :=
  ⟨(hb.cell (p := ⟨g, 0, none⟩) h.lt).trans h.c, h.lo, Nat.lt_of_lt_of_le h.lt hb.size, h.far, own_on h.own hb⟩
set_option maxRecDepth 100000 in
set_option maxHeartbeats 2000000 in
theorem withinS_any (b : List Bs) (v : Value) (w : World) (hv : Rd w v (strsV b)) (hl : b.length ≤ 1000000) :
    Calls Tryz.prog 55 #[v] w fun e w' => ∃ g vr, e = .returned (.func (.func 78) #[] #[.pointer (some ⟨g, 0, none⟩)]) ∧ SetInS w' w.heap.size g vr (uniS b) ∧ Below w.heap.size w w' := by
  have HU := Lib.hid (unionS_any [b] _ _ (rdrS_one hv) (by rw [flatS_one]; exact hl))
  rw [flatS_one] at HU
  obtain ⟨a, c, rfl, _⟩ := hv.open'
  rw [strsV_len] at HU ⊢
  obtain ⟨n, hn⟩ : ∃ n, n = b.length := ⟨_, rfl⟩
  rw [← hn] at HU ⊢
  clear hv hl hn
  go_enter Tryz.func55, Tryz.ntmps55
  go_upto_region 2 with (go_at_call 30; refine HU.out.mono ?_; rintro e w1 ⟨v1, rfl, ho, hb⟩; have HO := Lib.hid ho; have HB1 := Lib.hid hb; obtain ⟨a1, c1, rfl⟩ := own_slice ho; clear ho hb)
  obtain ⟨R, hR⟩ : ∃ R, R = uniS b := ⟨_, rfl⟩
  rw [← hR] at HO ⊢
  have HR := Lib.hid hR
  clear hR
  have hsz : w.heap.size ≤ w1.heap.size := Nat.le_trans (below_new w (.cells #[.slice a n c] 23)).size HB1.out.size
  have HBF : Hid (Below w.heap.size w (w1.alloc (.cells #[.slice a1 R.length c1] 23))) := Lib.hid (bch (bch (below_new _ _) HB1.out) (below_new _ _))
  have HS : Hid (SetInS (w1.alloc (.cells #[.slice a1 R.length c1] 23)) w.heap.size w1.heap.size (.slice a1 R.length c1) R) := Lib.hid (by
    have hX : Box (w1.alloc (.cells #[.slice a1 R.length c1] 23)) w1.heap.size 23 #[.slice a1 R.length c1] := box_new
    exact ⟨hX.cell (k := 0) rfl, hsz, hX.lt, fun h e => Nat.ne_of_lt (HO.out.lt h e).2, own_low (own_on HO.out (below_new _ _)) (below_new w (.cells #[.slice a n c] 23)).size⟩)
  go_wp2_with fail
  go_ret
  exact ⟨_, _, rfl, by rw [← HR.out]; exact HS.out, HBF.out⟩

/-! ### DeleteFunc -/
theorem deleteS_nil (c : Nat) (fv : Value) (w : World) : Calls Tryz.prog 56 #[.slice none 0 c, fv] w fun e w' => e = .returned (.slice none 0 c) ∧ w' = w := by
  have HE := Lib.hid (AnyE.slices_IndexFunc_empty (P := Tryz.prog) (ρ := Tryz.laysH10s_ren) { Tryz.laysH10s with } none c fv w)
  go_enter Tryz.func56, Tryz.ntmps56
  go_wp2_with (go_at_call 80; refine HE.out.mono ?_; rintro e w' ⟨rfl, rfl⟩)
  go_ret
  exact ⟨rfl, rfl⟩
theorem deleteS_any (l : List Bs) (p : Bs → Bool) (v : Value) (w : World) (B g : Nat) (lb : Array Value) (ho : w.ownsRow B 9 1 v l.length (strsV l)) (hl : l.length ≤ 1000000) (hB : B ≤ w.heap.size)
    (eg : ∀ args w, (callFunc g args).run Tryz.prog w = .ok (.enter g args) w) (hp : PredAt Tryz.prog g lb (encStr) p w) (hpo : ∀ blk, v.ownBlock = some blk → PredOver Tryz.prog g lb (encStr) p blk 0 l.length w) :
    Calls Tryz.prog 56 #[v, .func (.func g) #[] lb] w fun e w' => ∃ v', e = .returned v' ∧ w'.ownsRow B 9 1 v' (l.filter fun x => !p x).length (strsV (l.filter fun x => !p x)) ∧ Below B w w' := by
  obtain ⟨a, c, rfl⟩ := own_slice ho
  rcases own_addr ho with ⟨rfl, h0, rfl⟩ | ⟨b, rfl, hg1, hg2⟩
  · have e0 : l = [] := List.eq_nil_of_length_eq_zero h0
    subst e0
    refine (deleteS_nil 0 _ w).mono ?_
    rintro e w' ⟨rfl, rfl⟩
    exact ⟨_, rfl, World.ownsRow_nil _ _ _ _, Below.refl _ _⟩
  · have hc : l.length ≤ c := by
      rcases ho.2 with ⟨h, _⟩ | ⟨g', c', cur, h, _, _, h3, _⟩
      · cases h
      · cases h; exact h3
    have hd := AnyE.slices_DeleteFunc Tryz.laysH10s (encStr) (fun _ => rfl) p g lb eg ([] : Bs) Tryz.zeroValue9 b 0 c l.toArray w hp (by simpa using hpo b rfl) (own_holds (enc := encStr) (d := l.toArray) (n := l.length) (by simp) ho) (by simp; omega) (by simpa using hc)
    simp only [List.size_toArray] at hd
    refine hd.mono ?_
    rintro e w' ⟨rfl, q, rfl⟩
    have hle : (l.filter fun x => !p x).length ≤ l.length := List.length_filter_le _ _
    have h1 := own_put (enc := encStr) (m := q) (os := #[]) ((l.filter fun x => !p x) ++ List.replicate (l.length - (l.filter fun x => !p x).length) ([] : Bs)).toArray (by simp; omega) ho
    rw [grow_empty] at h1
    have h2 := own_cut h1 hle
    have h3 := below_put (enc := encStr) (m := q) (os := #[]) ((l.filter fun x => !p x) ++ List.replicate (l.length - (l.filter fun x => !p x).length) ([] : Bs)).toArray hg1 hB
    rw [grow_empty] at h3
    refine ⟨_, rfl, ?_, h3⟩
    simpa [strsV] using h2

/-! ### Less and Meet -/
theorem cellS_sw {w : World} {blk n : Nat} {d : Array Bs} {os : Array Obj} {g : Nat} {v : Value} (hlt : g < w.heap.size) (hne : g ≠ blk) (h : w.cell? ⟨g, 0, none⟩ = some v) : (sortWorld (encStr) w blk 0 n d os).cell? ⟨g, 0, none⟩ = some v := by
  unfold sortWorld
  rw [cell?_grow _ _ _ (by show g < (putRow _ _ _ _ _).heap.size; rw [size_putRow]; exact hlt), cell?_putRow_other _ _ blk 0 _ _ (Or.inl hne)]
  exact h
theorem SetInS.sw {W : World} {B g : Nat} {vr : Value} {R : List Bs} (h : SetInS W B g vr R) {blk n : Nat} {d : Array Bs} {os : Array Obj} (hg : g ≠ blk) (hr : ∀ r, vr.ownBlock = some r → r ≠ blk) : SetAtS (sortWorld (encStr) W blk 0 n d os) g R :=
  ⟨vr, cellS_sw h.lt hg h.c, (Rd.of_own h.own).sw (encStr) (fun r hr' => (h.own.lt r (own_blk1 h.own hr')).2) (fun r hr' => hr r (own_blk1 h.own hr'))⟩
theorem e78 : ∀ args w, (callFunc 78 args).run Tryz.prog w = .ok (.enter 78 args) w := enters_of Tryz.func78 (by kernel_rfl) rfl
theorem e57 : ∀ args w, (callFunc 57 args).run Tryz.prog w = .ok (.enter 57 args) w := enters_of Tryz.func57 (by kernel_rfl) rfl
def OwnS (w : World) (B : Nat) (e : Ending) (w' : World) (r : List Bs) : Prop := ∃ v, e = .returned v ∧ w'.ownsRow B 9 1 v r.length (strsV r) ∧ Below B w w'
/-- Less's last call. -/
theorem lessS_del (A R : List Bs) (v vr : Value) (w : World) (B C g : Nat) (hs : R.Pairwise (· ≤ ·)) (hR : R.length ≤ 1000000) (ho : w.ownsRow B 9 1 v A.length (strsV A)) (hl : A.length ≤ 1000000) (hB : B ≤ w.heap.size) (hS : SetInS w C g vr R)
    (hA : ∀ k, v.ownBlock = some k → k < C) : Calls Tryz.prog 56 #[v, .func (.func 78) #[] #[.pointer (some ⟨g, 0, none⟩)]] w fun e w' => OwnS w B e w' (A.filter fun x => !hasT R x) :=
  deleteS_any A (hasT R) v w B 78 _ ho hl hB e78 (fun W x hb => inS_any R g x W (hS.on hb).at_ hs hR)
    (fun blk hk n os dk x _ => inS_any R g x _ (hS.sw (by have := hA blk hk; have := hS.lo; omega) (fun r hr => by have := hA blk hk; have := (hS.own.lt r hr).1; omega)) hs hR)
/-- Meet's last call. -/
theorem meetS_del (A R : List Bs) (v vr : Value) (w : World) (B C g g2 : Nat) (hs : R.Pairwise (· ≤ ·)) (hR : R.length ≤ 1000000) (ho : w.ownsRow B 9 1 v A.length (strsV A)) (hl : A.length ≤ 1000000) (hB : B ≤ w.heap.size) (hS : SetInS w C g vr R)
    (hc : w.cell? ⟨g2, 0, none⟩ = some (.func (.func 78) #[] #[.pointer (some ⟨g, 0, none⟩)])) (hgB : g < B) (hg2 : g2 < B) (hvr : ∀ r, vr.ownBlock = some r → r < B) :
    Calls Tryz.prog 56 #[v, .func (.func 57) #[] #[.pointer (some ⟨g2, 0, none⟩)]] w fun e w' => OwnS w B e w' (A.filter fun x => hasT R x) := by
  have h := deleteS_any A (fun x => !hasT R x) v w B 57 #[.pointer (some ⟨g2, 0, none⟩)] ho hl hB e57
    (fun W x hb => notinS_any R g2 g x W ⟨(hb.cell (p := ⟨g2, 0, none⟩) (by show g2 < w.heap.size; omega)).trans hc, (hS.on hb).at_⟩ hs hR)
    (fun blk hk n os dk x _ => by
      have hb := (ho.lt blk hk).1
      exact notinS_any R g2 g x _ ⟨cellS_sw (by omega) (by omega) hc, hS.sw (by omega) (fun r hr => by have := hvr r hr; omega)⟩ hs hR)
  refine h.mono ?_
  rintro e w' ⟨v', h1, h2, h3⟩
  have e2 : (A.filter fun x => !(fun x => !hasT R x) x) = A.filter fun x => hasT R x := by
    congr 1
    funext x
    simp
  rw [e2] at h2
  exact ⟨v', h1, h2, h3⟩
set_option maxRecDepth 100000 in
set_option maxHeartbeats 2000000 in
theorem lessS_any (a b : List Bs) (v1 v2 : Value) (w : World) (h1 : Rd w v1 (strsV a)) (h2 : Rd w v2 (strsV b)) (ha : a.length ≤ 1000000) (hb : b.length ≤ 1000000) :
    Calls Tryz.prog 33 #[v1, v2] w fun e w' => OwnS w w.heap.size e w' (lessS a b) := by
  have HU := Lib.hid (unionS_any [a] _ _ (rdrS_one h1) (by rw [flatS_one]; exact ha))
  rw [flatS_one] at HU
  have H2 := Lib.hid h2
  have HLB := Lib.hid hb
  have HLA : Hid ((uniS a).length ≤ 1000000) := Lib.hid (by have := uniS_len a; omega)
  have HLR : Hid ((uniS b).length ≤ 1000000) := Lib.hid (by have := uniS_len b; omega)
  obtain ⟨a1, c1, rfl, _⟩ := h1.open'
  obtain ⟨a2, c2, rfl, _⟩ := h2.open'
  rw [strsV_len] at HU H2 ⊢
  rw [strsV_len] at ⊢
  obtain ⟨n1, hn1⟩ : ∃ n, n = a.length := ⟨_, rfl⟩
  obtain ⟨n2, hn2⟩ : ∃ n, n = b.length := ⟨_, rfl⟩
  rw [← hn1] at HU ⊢
  rw [← hn2] at H2 ⊢
  have HRES : Hid (lessS a b = (uniS a).filter fun x => !hasT (uniS b) x) := Lib.hid rfl
  have HPW := Lib.hid (uniS_le b)
  obtain ⟨A, hA⟩ : ∃ A, A = uniS a := ⟨_, rfl⟩
  rw [← hA] at HU HLA HRES
  have HW := Lib.hid (fun W (hW : Rd W (.slice a2 n2 c2) (strsV b)) => withinS_any b _ W hW HLB.out)
  obtain ⟨R, hR⟩ : ∃ R, R = uniS b := ⟨_, rfl⟩
  rw [← hR] at HLR HRES HPW HW
  have hb0 := below_new w (.cells #[.slice a1 n1 c1] 23)
  have HB0 := Lib.hid hb0
  clear h1 h2 hn1 hn2 hA hR ha hb hb0
  go_enter Tryz.func33, Tryz.ntmps33
  go_wp2_with (first
    | (go_at_call 30; refine HU.out.mono ?_; rintro e w1 ⟨v1, rfl, ho, hb⟩; have HO := Lib.hid ho; have HB1 := Lib.hid (bch HB0.out hb); have HBS1 := Lib.hid (Nat.le_trans HB0.out.size hb.size); have HBZ := Lib.hid hb.size; obtain ⟨a3, c3, rfl⟩ := own_slice ho; clear ho hb)
    | (go_at_call 55; refine (HW.out w1 (H2.out.on HB1.out)).mono ?_; rintro e w2 ⟨g, vr, rfl, hS, hb⟩; have HS := Lib.hid hS; have HB2 := Lib.hid hb; clear hS hb)
    | (go_at_call 56; refine (lessS_del A R _ vr w2 _ _ g HPW.out HLR.out (own_on HO.out HB2.out) HLA.out (Nat.le_trans HBZ.out HB2.out.size) HS.out (fun k hk => (HO.out.lt k hk).2)).mono ?_; rintro e w3 ⟨v3, rfl, ho, hb⟩; have HO3 := Lib.hid (own_low ho HB0.out.size); have HB3 : Hid (Below w.heap.size w w3) := Lib.hid ((bch HB1.out HB2.out).trans (hb.mono HB0.out.size)); obtain ⟨a4, c4, rfl⟩ := own_slice ho; clear ho hb))
  go_ret
  exact ⟨_, rfl, by rw [HRES.out]; exact HO3.out, HB3.out⟩
set_option maxRecDepth 100000 in
set_option maxHeartbeats 2000000 in
theorem meetS_any (a b : List Bs) (v1 v2 : Value) (w : World) (h1 : Rd w v1 (strsV a)) (h2 : Rd w v2 (strsV b)) (ha : a.length ≤ 1000000) (hb : b.length ≤ 1000000) :
    Calls Tryz.prog 31 #[v1, v2] w fun e w' => OwnS w w.heap.size e w' (meetS a b) := by
  have HU := Lib.hid (fun W (hW : Rd W v1 (strsV a)) => unionS_any [a] _ _ (rdrS_one hW) (by rw [flatS_one]; exact ha))
  rw [flatS_one] at HU
  have H1 := Lib.hid h1
  have HLA : Hid ((uniS a).length ≤ 1000000) := Lib.hid (by have := uniS_len a; omega)
  have HLR : Hid ((uniS b).length ≤ 1000000) := Lib.hid (by have := uniS_len b; omega)
  have HW := Lib.hid (withinS_any b _ w h2 hb)
  obtain ⟨a1, c1, rfl, _⟩ := h1.open'
  obtain ⟨a2, c2, rfl, _⟩ := h2.open'
  rw [strsV_len] at HU H1 HW ⊢
  rw [strsV_len] at ⊢
  have HRES : Hid (meetS a b = (uniS a).filter fun x => hasT (uniS b) x) := Lib.hid rfl
  have HPW := Lib.hid (uniS_le b)
  obtain ⟨A, hA⟩ : ∃ A, A = uniS a := ⟨_, rfl⟩
  rw [← hA] at HU HLA HRES
  obtain ⟨R, hR⟩ : ∃ R, R = uniS b := ⟨_, rfl⟩
  rw [← hR] at HLR HRES HPW HW
  obtain ⟨n1, hn1⟩ : ∃ n, n = a.length := ⟨_, rfl⟩
  obtain ⟨n2, hn2⟩ : ∃ n, n = b.length := ⟨_, rfl⟩
  rw [← hn1] at HU H1 ⊢
  rw [← hn2] at HW ⊢
  clear h1 h2 hn1 hn2 hA hR ha hb
  go_enter Tryz.func31, Tryz.ntmps31
  go_upto_region 2 with (go_at_call 55; refine HW.out.mono ?_; rintro e w1 ⟨g, vr, rfl, hS, hb⟩; have HS := Lib.hid hS; have HB1 := Lib.hid hb; clear hS hb)
  obtain ⟨w2, hw2⟩ : ∃ z, z = w1.alloc (.cells #[.func (.func 78) #[] #[.pointer (some ⟨g, 0, none⟩)]] 81) := ⟨_, rfl⟩
  have hX2 : Box w2 w1.heap.size 81 #[.func (.func 78) #[] #[.pointer (some ⟨g, 0, none⟩)]] := by rw [hw2]; exact box_new
  have hb2 : Below w1.heap.size w1 w2 := by rw [hw2]; exact below_new _ _
  obtain ⟨w3, hw3⟩ : ∃ z, z = w2.alloc (.cells #[.slice a1 n1 c1] 23) := ⟨_, rfl⟩
  have hb3 : Below w2.heap.size w2 w3 := by rw [hw3]; exact below_new _ _
  have HU2 := Lib.hid (HU.out w2 (H1.out.on (bch HB1.out hb2)))
  rw [← hw3] at HU2
  have HS3 := Lib.hid ((HS.out.on hb2).on hb3)
  have HC3 : Hid (w3.cell? ⟨w1.heap.size, 0, none⟩ = some (.func (.func 78) #[] #[.pointer (some ⟨g, 0, none⟩)])) := Lib.hid ((hX2.on hb3).cell (k := 0) rfl)
  have HLT : Hid (w1.heap.size < w3.heap.size ∧ g < w3.heap.size ∧ w.heap.size ≤ w3.heap.size ∧ ∀ r, vr.ownBlock = some r → r < w3.heap.size) := Lib.hid ⟨Nat.lt_of_lt_of_le hX2.lt hb3.size, HS3.out.lt, Nat.le_trans HB1.out.size (Nat.le_trans hb2.size hb3.size), fun r hr => (HS3.out.own.lt r hr).2⟩
  have HB3 : Hid (Below w.heap.size w w3) := Lib.hid (bch (bch HB1.out hb2) hb3)
  obtain ⟨g2, hg2⟩ : ∃ z, z = w1.heap.size := ⟨_, rfl⟩
  rw [← hw2]
  rw [← hg2] at HC3 HLT ⊢
  have HW3 := Lib.hid hw3
  clear hw2 hX2 hb2 hb3 hg2 HU HW HS hw3
  go_wp2_with (first
    | (go_at_call 30; rw [← HW3.out]; refine HU2.out.mono ?_; rintro e w4 ⟨v4, rfl, ho, hb⟩; have HO := Lib.hid ho; have HB4 := Lib.hid hb; obtain ⟨a3, c3, rfl⟩ := own_slice ho; clear ho hb)
    | (go_at_call 56; refine (meetS_del A R _ vr w4 _ _ g g2 HPW.out HLR.out HO.out HLA.out HB4.out.size (HS3.out.on HB4.out) ((HB4.out.cell (p := ⟨g2, 0, none⟩) HLT.out.1).trans HC3.out) HLT.out.2.1 HLT.out.1 HLT.out.2.2.2).mono ?_; rintro e w5 ⟨v5, rfl, ho, hb⟩; have HO5 := Lib.hid (own_low ho HLT.out.2.2.1); have HB5 : Hid (Below w.heap.size w w5) := Lib.hid ((bch HB3.out HB4.out).trans (hb.mono HLT.out.2.2.1)); obtain ⟨a4, c4, rfl⟩ := own_slice ho; clear ho hb))
  go_ret
  exact ⟨_, rfl, by rw [HRES.out]; exact HO5.out, HB5.out⟩

/-! ### Plain words -/
theorem upSS_filter (l : List Bs) (p : Bs → Bool) : UpS leS ((uniS l).filter p) := List.Pairwise.sublist List.filter_sublist (uniS_up l)
theorem meetS_up (a b : List Bs) : UpS leS (meetS a b) := upSS_filter a _
theorem lessS_up (a b : List Bs) : UpS leS (lessS a b) := upSS_filter a _
theorem meetS_mem (a b : List Bs) (x : Bs) : x ∈ meetS a b ↔ x ∈ a ∧ x ∈ b := by
  unfold meetS
  rw [List.mem_filter, uniS_mem, hasT_iff, uniS_mem]
theorem lessS_mem (a b : List Bs) (x : Bs) : x ∈ lessS a b ↔ x ∈ a ∧ x ∉ b := by
  unfold lessS
  rw [List.mem_filter, uniS_mem, Bool.not_eq_true', ← Bool.not_eq_true, hasT_iff, uniS_mem]
theorem upS_one {a b : List Bs} (ha : UpS leS a) (hb : UpS leS b) (hm : ∀ x, x ∈ a ↔ x ∈ b) : a = b := UpS.one ordS ha hb hm
/-! ### Rows of rows -/
theorem rdrS_pair {w : World} {v1 v2 : Value} {a b : List Bs} (h1 : Rd w v1 (strsV a)) (h2 : Rd w v2 (strsV b)) : RdR (w.alloc (.cells #[v1, v2] 23)) (.slice (some ⟨w.heap.size, 0, none⟩) 2 2) ([a, b].map strsV) := by
  refine ⟨[v1, v2], rd_vals (t := 23) box_new, rfl, fun i x r hx hr => ?_⟩
  match i, hx, hr with
  | 0, hx, hr => simp at hx hr; subst hx hr; exact h1.on (below_new _ _)
  | 1, hx, hr => simp at hx hr; subst hx hr; exact h2.on (below_new _ _)
theorem Rd.cutS {w : World} {a : Option Addr} {n c m : Nat} {l : List Bs} (h : Rd w (.slice a n c) (strsV l)) (hm : m ≤ n) : Rd w (.slice a m c) (strsV (l.take m)) := by
  obtain ⟨a', c', e, h1, h2, hn, h3⟩ := h
  cases e
  rw [strsV_len] at h1 h3 hm
  have el : (l.take m).length = m := by rw [List.length_take]; omega
  refine ⟨a, c, by rw [strsV_len, el], by rw [strsV_len, el]; omega, h2, fun e => ?_, fun h0 => ?_⟩
  · obtain ⟨e1, e2⟩ := hn e
    have : l = [] := by
      cases l with
      | nil => rfl
      | cons x t => simp [strsV] at e1
    rw [this]
    exact ⟨by simp [strsV], e2⟩
  · rw [strsV_len, el] at h0
    obtain ⟨g, o, e, hg, hc⟩ := h3 (by omega)
    refine ⟨g, o, e, hg, fun j u hu => hc j u ?_⟩
    have e3 : strsV (l.take m) = (strsV l).take m := by simp [strsV, List.map_take]
    rw [e3] at hu
    have hj := (List.getElem?_eq_some_iff.1 hu).1
    rw [List.length_take] at hj
    rwa [List.getElem?_take_of_lt (by omega)] at hu
theorem str_at3 {w : World} {a : Option Addr} {n c : Nat} {l : List Bs} (h : Rd w (.slice a n c) (strsV l)) (j : Nat) (hj : j < l.length) : ∃ g o, a = some ⟨g, o, none⟩ ∧ w.cell? ⟨g, o + j, none⟩ = some (encStr (l[j])) := by
  obtain ⟨a', cap, e, h1, h2, h3, h4⟩ := h
  cases e
  obtain ⟨g, o, e, hg, hc⟩ := h4 (by rw [strsV_len]; omega)
  exact ⟨g, o, e, hc j _ (by unfold strsV; rw [List.getElem?_map, List.getElem?_eq_getElem hj]; rfl)⟩
end Go.Proofs.YtgmplpfbhcdofaaGreat
