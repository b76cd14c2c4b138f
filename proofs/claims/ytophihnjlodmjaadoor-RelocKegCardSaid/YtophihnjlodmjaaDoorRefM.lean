/- Proved here: Move of puncheonref14. -/
import Derived.Test.YtophihnjlodmjaaDoorZeros
import Derived.Test.YtophihnjlodmjaaDoorMath4
import Derived.Test.YtophihnjlodmjaaDoorSmall
import Derived.Deep.DeepCutAuto
import Derived.Deep.CutBlock
namespace Go.Proofs.YtophihnjlodmjaaDoor
open Go.RowKit Go.Shelf

/-- Two blocks of cells of other types are two. -/
theorem own_apart {w : World} {B B' s s' n n' : Nat} {e e' : TypeId} {v v' : Value} {xs xs' : List Value} (h : w.ownsRow B e s v n xs) (h' : w.ownsRow B' e' s' v' n' xs') (he : e ≠ e') : ∀ g, v.ownBlock = some g → v'.ownBlock ≠ some g := by
  intro g hg
  rcases h.2 with ⟨rfl, _⟩ | ⟨g1, c, cs, rfl, _, h1, _⟩
  · cases hg
  · cases hg
    rcases h'.2 with ⟨rfl, _⟩ | ⟨g2, c2, cs2, rfl, _, h2, _⟩
    · intro e; cases e
    · intro e
      cases e
      rw [h1] at h2
      cases h2
      exact he rfl
/-- What the loop over the places of one run keeps. -/
structure L6 (w wX : World) (o : Bs) (al : List Nat) (v11 v12 v17 : Value) (pa : List Nat) (W : World) : Prop where
  out : W.ownsRow w.heap.size 5 1 v11 o.length (bytesV o)
  all : W.ownsRow w.heap.size 3 1 v12 al.length (natsV al)
  row : W.ownsRow wX.heap.size 3 1 v17 pa.length (natsV pa)
  apart : ∀ g, v12.ownBlock = some g → v17.ownBlock ≠ some g
  low : Below w.heap.size w W
theorem L6.on {w wX W W' : World} {o : Bs} {al pa : List Nat} {v11 v12 v17 : Value} (h : L6 w wX o al v11 v12 v17 pa W) (hb : Below W.heap.size W W') : L6 w wX o al v11 v12 v17 pa W' :=
  ⟨owns_on h.out hb, owns_on h.all hb, owns_on h.row hb, h.apart, bch h.low hb⟩
theorem L6.more {w wX W W' : World} {o : Bs} {al al' pa : List Nat} {v11 v12 v12' v17 : Value} (h : L6 w wX o al v11 v12 v17 pa W) (hw : W'.ownsRow w.heap.size 3 1 v12' al'.length (natsV al')) (hg : W.grownBy W' v12.ownBlock) (hat : v12'.ownBlock = v12.ownBlock ∨ v12'.ownBlock = some W.heap.size) : L6 w wX o al' v11 v12' v17 pa W' := by
  refine ⟨owns_grown h.out hg fun r e e2 => own_apart h.out h.all (by decide) r e2 e, hw, owns_grown h.row hg fun r e => h.apart r e, fun g e e2 => ?_, h.low.grown hg h.low.size fun k e => (own_in h.all e).1⟩
  rcases hat with hat | hat
  · exact h.apart g (by rw [← hat]; exact e) e2
  · rw [hat] at e
    cases e
    have := (own_in h.row e2).2
    omega

theorem nz_no {l : Bs} {q : Nat} (h : q < l.length) (h0 : l[q] ≠ 0) : ((((⟨l.toArray⟩ : ByteArray)[q]'h).toNat : Int) == 0) = false := by
  show (((l[q]'h).toNat : Int) == 0) = false
  rw [beq_eq_false_iff_ne]
  intro e
  exact h0 (UInt8.toNat_inj.1 (by simp; omega))
theorem nz_ne {l : Bs} {q : Nat} (h : q < l.length) (h0 : l[q] ≠ 0) : ((((⟨l.toArray⟩ : ByteArray)[q]'h).toNat : Int) != 0) = true := by rw [bne, nz_no h h0]; rfl
theorem zz_eq {l : Bs} {q : Nat} (h : q < l.length) (h0 : l[q] = 0) : ((((⟨l.toArray⟩ : ByteArray)[q]'h).toNat : Int) == 0) = true := by
  show (((l[q]'h).toNat : Int) == 0) = true
  rw [h0]; rfl
theorem zz_no {l : Bs} {q : Nat} (h : q < l.length) (h0 : l[q] = 0) : ((((⟨l.toArray⟩ : ByteArray)[q]'h).toNat : Int) != 0) = false := by rw [bne, zz_eq h h0]; rfl

def RMoveR (fr tt l : Bs) (w : World) (e : Ending) (w' : World) : Prop :=
  ((∃ o a v, movL fr tt l = some (o, a) ∧ e = .returned (.tuple #[.string ⟨o.toArray⟩, v, .bool true]) ∧ w'.ownsRow w.heap.size 3 1 v a.length (natsV a)) ∨
    (movL fr tt l = none ∧ e = .returned (.tuple #[.string ⟨#[]⟩, .slice none 0 0, .bool false]))) ∧ Below w.heap.size w w'

set_option maxRecDepth 100000 in
set_option maxHeartbeats 4000000 in
theorem rmove_any (l fr tt : Bs) (hf : 1 ≤ fr.length) (hl : l.length ≤ 1000000) (hf2 : fr.length ≤ 1000) (ht2 : tt.length ≤ 1000) (w : World) : Calls Tryd.prog 19 #[.string ⟨l.toArray⟩, .string ⟨fr.toArray⟩, .string ⟨tt.toArray⟩] w (RMoveR fr tt l w) := by
  have HB0 := Lib.hid (rbin_any l (by omega) w)
  by_cases hbin : 0 ∈ l
  · have hb1 : binB l = true := decide_eq_true hbin
    have HML : Hid (movL fr tt l = movB fr tt l) := Lib.hid (by unfold movL; rw [if_pos hbin])
    rw [hb1] at HB0
    clear hbin hb1
    go_enter Tryd.func19, Tryd.ntmps19
    go_wp2_with (go_at_call 15; refine HB0.out.mono ?_; rintro e w' ⟨rfl, rfl⟩)
    go_loopw [11, 12, 13] (fun v11 v12 i wr => ∃ (a : Nat) (o : Bs) (al : List Nat), i = .int .i64 (a : Int) ∧ a ≤ l.length ∧ Hid (movF fr tt (segs l) ([], []) = movF fr tt (segs (l.drop a)) (o, al)) ∧ Hid (o.length = a) ∧ Hid (al.length ≤ a) ∧ Hid (wr.ownsRow w.heap.size 5 1 v11 o.length (bytesV o)) ∧ Hid (wr.ownsRow w.heap.size 3 1 v12 al.length (natsV al)) ∧ Hid (Below w.heap.size w wr)) (fun _ _ i _ => l.length - (Lib.intOf i).toNat)
    case atStart =>
      exact ⟨0, [], [], rfl, Nat.zero_le _, Lib.hid (by rw [List.drop_zero]), Lib.hid rfl, Lib.hid (Nat.le_refl _), Lib.hid ⟨rfl, .inr ⟨_, _, _, rfl, Nat.le_refl _, heap_alloc_new w _, by simp, by unfold maxLen; omega, rfl, rfl⟩⟩, Lib.hid (World.ownsRow_nil _ _ _ _), Lib.hid (below_new _ _)⟩
    case round =>
      obtain ⟨a, o, al, rfl, ha, HX, HOL, HAL, HO, HA, HB⟩ := hrel
      by_cases hlt : a < l.length
      · obtain ⟨rn, zn, HR⟩ := run_at l a hlt
        have HR := Lib.hid HR
        obtain ⟨jr, hjr⟩ : ∃ jr, jr = a + rn := ⟨_, rfl⟩
        obtain ⟨kr, hkr⟩ : ∃ kr, kr = a + rn + zn := ⟨_, rfl⟩
        have hj1 : a ≤ jr := by omega
        have hj2 : jr ≤ kr := by omega
        have hj3 : kr ≤ l.length := by have := HR.out.fits; omega
        have hj4 : a + 1 ≤ kr := by have := HR.out.some1; omega
        have HRUN : Hid (∀ q, a ≤ q → q < jr → ∃ h : q < l.length, ((((⟨l.toArray⟩ : ByteArray)[q]'h).toNat : Int) != 0) = true) := Lib.hid (fun q h1 h2 => by
          obtain ⟨h3, h4⟩ := HR.out.run (q - a) (by omega)
          obtain ⟨d, rfl⟩ : ∃ d, q = a + d := ⟨q - a, by omega⟩
          have e : a + d - a = d := by omega
          simp only [e] at h3 h4
          exact ⟨h3, nz_ne h3 h4⟩)
        have HZRO : Hid (∀ q, jr ≤ q → q < kr → ∃ h : q < l.length, ((((⟨l.toArray⟩ : ByteArray)[q]'h).toNat : Int) == 0) = true) := Lib.hid (fun q h1 h2 => by
          obtain ⟨h3, h4⟩ := HR.out.zero (q - jr) (by omega)
          obtain ⟨d, rfl⟩ : ∃ d, q = a + rn + d := ⟨q - (a + rn), by omega⟩
          have e : a + rn + d - jr = d := by omega
          simp only [e] at h3 h4
          exact ⟨h3, zz_eq h3 h4⟩)
        have HSTO : Hid (∀ h : jr < l.length, ((((⟨l.toArray⟩ : ByteArray)[jr]'h).toNat : Int) != 0) = false) := Lib.hid (fun h => by
          subst hjr
          exact zz_no h (HR.out.stop h))
        have HMOR : Hid (∀ h : kr < l.length, ((((⟨l.toArray⟩ : ByteArray)[kr]'h).toNat : Int) == 0) = false) := Lib.hid (fun h => by
          subst hkr
          exact nz_no h (HR.out.more h))
        have HJR := Lib.hid hjr
        have HKR := Lib.hid hkr
        clear hjr hkr
        go_upto_block 2 with fail
        go_cut [14] (fun j wx => j = .int .i64 (jr : Int) ∧ wx = wr)
        case first =>
          rename_i J2 K2 hJ hK2
          go_wp2_with fail
          go_loop [14] (fun j => ∃ q : Nat, j = .int .i64 (q : Int) ∧ a ≤ q ∧ q ≤ jr) (fun j => l.length - (Lib.intOf j).toNat)
          case atStart => exact ⟨a, rfl, Nat.le_refl _, hj1⟩
          case round =>
            obtain ⟨q, rfl, hq1, hq2⟩ := hrel
            by_cases hq : q < jr
            · obtain ⟨h1, h2⟩ := HRUN.out q hq1 hq
              go_wp2_with fail
              go_round
              case rel => exact ⟨q + 1, by go_num, by omega, hq⟩
              case measure => simp [Lib.intOf]; omega
            · obtain rfl : q = jr := by omega
              by_cases hq3 : q < l.length
              · have h2 := HSTO.out hq3
                go_wp2_with fail
                (first | refine hK2 _ _ (Met.intro (hJ _ _ ?_)) | refine Met.intro (hJ _ _ ?_))
                (repeat apply Exists.intro)
                exact ⟨⟨rfl, rfl⟩, rfl⟩
              · go_wp2_with fail
                (first | refine hK2 _ _ (Met.intro (hJ _ _ ?_)) | refine Met.intro (hJ _ _ ?_))
                (repeat apply Exists.intro)
                exact ⟨⟨rfl, rfl⟩, rfl⟩
        case rest =>
        obtain ⟨rfl, rfl⟩ := hcut
        go_upto_block 4 with fail
        go_cut [15] (fun j wx => j = .int .i64 (kr : Int) ∧ wx = wc)
        case first =>
          rename_i J2 K2 hJ hK2
          go_wp2_with fail
          go_loop [15] (fun j => ∃ q : Nat, j = .int .i64 (q : Int) ∧ jr ≤ q ∧ q ≤ kr) (fun j => l.length - (Lib.intOf j).toNat)
          case atStart => exact ⟨jr, rfl, Nat.le_refl _, hj2⟩
          case round =>
            obtain ⟨q, rfl, hq1, hq2⟩ := hrel
            by_cases hq : q < kr
            · obtain ⟨h1, h2⟩ := HZRO.out q hq1 hq
              go_wp2_with fail
              go_round
              case rel => exact ⟨q + 1, by go_num, by omega, hq⟩
              case measure => simp [Lib.intOf]; omega
            · obtain rfl : q = kr := by omega
              by_cases hq3 : q < l.length
              · have h2 := HMOR.out hq3
                go_wp2_with fail
                (first | refine hK2 _ _ (Met.intro (hJ _ _ ?_)) | refine Met.intro (hJ _ _ ?_))
                (repeat apply Exists.intro)
                exact ⟨⟨rfl, rfl⟩, rfl⟩
              · go_wp2_with fail
                (first | refine hK2 _ _ (Met.intro (hJ _ _ ?_)) | refine Met.intro (hJ _ _ ?_))
                (repeat apply Exists.intro)
                exact ⟨⟨rfl, rfl⟩, rfl⟩
        case rest =>
        obtain ⟨rfl, hwc⟩ := hcut
        subst hwc
        obtain ⟨wX, hwX⟩ : ∃ q, q = wc := ⟨_, rfl⟩
        subst hwX
        obtain ⟨a11, c11, rfl⟩ := own_slice HO.out
        obtain ⟨r, hr⟩ : ∃ r, r = (l.drop a).take rn := ⟨_, rfl⟩
        have hrl : r.length = rn := by rw [hr, List.length_take, List.length_drop]; have := HR.out.fits; omega
        have hrn : rn ≤ 1000000 := by have := HR.out.fits; omega
        have he : (⟨l.toArray⟩ : ByteArray).extract a jr = ⟨r.toArray⟩ := by rw [ext_eq, hr, HJR.out, Nat.add_sub_cancel_left]
        have HP := Lib.hid (rput_any r fr tt hf (by omega) hf2 ht2 wX)
        have HSEG : Hid (segs (l.drop a) = (r, zn) :: segs (l.drop kr)) := Lib.hid (by rw [HR.out.segs, ← hr, HKR.out])
        have HPA : Hid ((putA fr tt r).length ≤ 1000000) := Lib.hid (by rw [putA_len]; have := plcs_count fr r hf; omega)
        have HPO : Hid ((putO fr tt r).length ≤ 1001000000) := Lib.hid (by
          have h1 := putO_len fr tt r
          have h2 := plcs_count fr r hf
          have h3 : (plcs fr r).length * tt.length ≤ 1000000 * 1000 := Nat.mul_le_mul (by omega) ht2
          omega)
        obtain ⟨rO, hrO⟩ : ∃ rO, rO = putO fr tt r := ⟨_, rfl⟩
        obtain ⟨pa, hpa⟩ : ∃ pa, pa = putA fr tt r := ⟨_, rfl⟩
        have HRO := Lib.hid hrO
        have HPLE : Hid (∀ i ∈ pa, i ≤ rO.length) := Lib.hid (by rw [hrO, hpa]; exact putA_le fr tt r)
        have HPAR : Hid (pa.length ≤ rn) := Lib.hid (by rw [hpa, putA_len, ← hrl]; exact plcs_count fr r hf)
        have HPAE := Lib.hid hpa
        rw [← hrO] at HPO
        rw [← hpa] at HPA
        obtain ⟨sN, hsN⟩ : ∃ sN, sN = rn + zn := ⟨_, rfl⟩
        have HSN := Lib.hid hsN
        have w4 : IntKind.i64.wrap ((kr : Int) - (a : Int)) = (sN : Int) := by rw [IntWalk.i64_in _ (by omega), hsN, HKR.out]; omega
        have c1 : (a : Int) ≤ (jr : Int) := by omega
        have c2 : (jr : Int) ≤ (l.length : Int) := by omega
        have hsb : sN ≤ 1000000 := by have := HKR.out; omega
        have HRL := Lib.hid hrl
        clear hr hrO hpa hsN hrl
        go_wp2_with fail
        refine HP.out.mono ?_
        rintro e w3 ⟨v17, rfl, ho3, hb3⟩
        rw [← HPAE.out] at ho3
        have HO3 := Lib.hid ho3
        have HB3 := Lib.hid hb3
        obtain ⟨a17, c17, rfl⟩ := own_slice ho3
        clear ho3 hb3
        rw [← HRO.out]
        obtain ⟨rl, hrl⟩ : ∃ rl, rl = rO.length := ⟨_, rfl⟩
        have HRLE := Lib.hid hrl
        rw [← hrl] at HPO
        have hrb := HPO.out
        by_cases hfit : rl + (if kr = l.length then 0 else 1) ≤ sN
        · obtain ⟨z, hz⟩ : ∃ z, z = sN - rl := ⟨_, rfl⟩
          have hle : rl ≤ sN := by omega
          have w5 : IntKind.i64.wrap ((sN : Int) - (rO.length : Int)) = (z : Int) := by rw [← hrl, IntWalk.i64_in _ (by omega), hz]; omega
          have t1 : ((z : Int) < 0) = False := by simp
          have hend : z = 0 → kr = l.length := fun h0 => by
            by_cases hk : kr = l.length
            · exact hk
            · rw [if_neg hk] at hfit; omega
          have hzb : z ≤ 1000000 := by omega
          have HEND := Lib.hid hend
          have HST : Hid (movF fr tt (segs l) ([], []) = movF fr tt (segs (l.drop kr)) (o ++ rO ++ zer z, al ++ pa.map (o.length + ·))) := Lib.hid (by
            rw [HX.out, HSEG.out, movF, ← HRO.out, HRL.out, ← HSN.out, ← HRLE.out]
            have e : (segs (l.drop kr) = []) ↔ kr = l.length := by rw [segs_empty, List.drop_eq_nil_iff]; omega
            simp only [e]
            rw [if_pos hfit, ← HPAE.out, hz])
          have HZ : Hid (rl + z = sN) := Lib.hid (by omega)
          have HFIT := Lib.hid hfit
          clear hz hend hfit hrl
          go_upto_region 16 with fail
          go_cut [91] (fun b wx => b = .bool false ∧ wx = w3)
          case first =>
            rename_i J2 K2 hJ hK2
            by_cases h0 : z = 0
            · have hk := HEND.out h0
              subst h0
              have t2 : decide (kr < l.length) = false := decide_eq_false (by omega)
              have t3 : decide ((kr : Int) < (l.length : Int)) = false := decide_eq_false (by omega)
              clear hk
              go_wp2_with fail
              (first | refine hK2 _ _ (Met.intro (hJ _ _ ?_)) | refine Met.intro (hJ _ _ ?_))
              (repeat apply Exists.intro)
              exact ⟨⟨rfl, rfl⟩, rfl⟩
            · have t2 : ((z : Int) == 0) = false := by rw [beq_eq_false_iff_ne]; omega
              clear h0
              go_wp2_with fail
              (first | refine hK2 _ _ (Met.intro (hJ _ _ ?_)) | refine Met.intro (hJ _ _ ?_))
              (repeat apply Exists.intro)
              exact ⟨⟨rfl, rfl⟩, rfl⟩
          case rest =>
          obtain ⟨rfl, hwx⟩ := hcut
          subst hwx
          have HL0 : Hid (L6 w wX o al (.slice a11 o.length c11) u12 (.slice a17 pa.length c17) pa wc) := Lib.hid ⟨owns_on HO.out HB3.out, owns_on HA.out HB3.out, HO3.out, fun g e e2 => by have := (own_in HA.out e).2; have := (own_in HO3.out e2).1; omega, bch HB.out HB3.out⟩
          obtain ⟨m, hm⟩ : ∃ m, m = pa.length := ⟨_, rfl⟩
          have HM := Lib.hid hm
          have hmb : m ≤ 1000000 := by rw [hm]; exact HPA.out
          rw [← hm] at HL0
          have HON := HOL.out
          obtain ⟨on, hon⟩ : ∃ on, on = o.length := ⟨_, rfl⟩
          have HOE := Lib.hid hon
          rw [← hon] at HL0 HON
          have honb : on ≤ 1000000 := by omega
          rw [← hm, ← hon]
          clear hm hon HON HO HA HB HO3 HB3
          go_wp2_with fail
          go_loopw [12, 94] (fun v12 i wr => ∃ q : Nat, i = .int .i64 (q : Int) ∧ q ≤ m ∧ Hid (L6 w wX o (al ++ (pa.take q).map (o.length + ·)) (.slice a11 on c11) v12 (.slice a17 m c17) pa wr)) (fun _ i _ => m - (Lib.intOf i).toNat)
          case atStart => exact ⟨0, rfl, Nat.zero_le _, by simpa using HL0⟩
          case round =>
            obtain ⟨q, rfl, hqm, HL⟩ := hrel
            by_cases hq : q < m
            · have hqp : q < pa.length := by rw [← HM.out]; exact hq
              obtain ⟨x, hx⟩ : ∃ x, x = pa[q] := ⟨_, rfl⟩
              have hxb : x ≤ 1001000000 := by
                have := HPLE.out x (by rw [hx]; exact List.getElem_mem hqp)
                have := HRLE.out
                omega
              obtain ⟨g1, o1, hg17, hg1, e1⟩ := (Rd.of_own HL.out.row).numAt hqp
              cases hg17
              rw [← hx] at e1
              obtain ⟨y, hy⟩ : ∃ y, y = on + x := ⟨_, rfl⟩
              have w6 : IntKind.i64.wrap ((on : Int) + (x : Int)) = (y : Int) := by rw [hy]; exact IntWalk.i64_in _ (by omega)
              have HTK : Hid ((pa.take (q + 1)).map (o.length + ·) = (pa.take q).map (o.length + ·) ++ [y]) := Lib.hid (by
                rw [List.take_succ_eq_append_getElem hqp, List.map_append, hy, hx, HOE.out]; rfl)
              obtain ⟨L, hL⟩ : ∃ L, L = al ++ (pa.take q).map (o.length + ·) := ⟨_, rfl⟩
              have HLE : Hid (L = al ++ (pa.take q).map (o.length + ·)) := Lib.hid hL
              rw [← hL] at HL
              obtain ⟨nL, hnL⟩ : ∃ nL, nL = L.length := ⟨_, rfl⟩
              have HNL := Lib.hid hnL
              have HNB : Hid (nL ≤ 2000000) := Lib.hid (by
                rw [hnL, hL, List.length_append, List.length_map, List.length_take]
                have := HAL.out
                omega)
              obtain ⟨a12, c12, rfl⟩ := own_slice HL.out.all
              rw [← hnL] at HL ⊢
              have HSZ : Hid (w.heap.size ≤ (wr.alloc (.cells #[.int .i64 (y : Int)] 3)).heap.size) := Lib.hid (by have := HL.out.low.size; simp; omega)
              have HLW := Lib.hid (HL.out.on (below_new wr (.cells #[.int .i64 (y : Int)] 3)))
              have HRD : Hid (Rd (wr.alloc (.cells #[.int .i64 (y : Int)] 3)) (.slice (some ⟨wr.heap.size, 0, none⟩) 1 1) [i64 y]) := Lib.hid (rd_one wr 3 _)
              clear hx hxb hy hL hnL hqp
              go_wp2_with (at_builtin; go_loud (refine wpList_append_at rfl (.tmp 98) (.tmp 103) 27 3 (.int .i64 0) 8 rfl Tryd.underlying27 info3 rfl w.heap.size _ _ (natsV L) [i64 y] rfl (own_len HLW.out.all) rfl HRD.out (by simp [Value.oneCell']) HSZ.out (by rw [natsV_len, ← HNL.out]; have := HNB.out; simp only [List.length_cons, List.length_nil]; omega) (by decide) ?_; intro v' w' hown' hg' hat'; have HL2 := Lib.hid (HLW.out.more (al' := L ++ [y]) (by rw [natsV_app, List.length_append]; rw [List.length_append, natsV_len] at hown'; exact hown') hg' hat'); clear hown' hg' hat'; refine Hid.out ?_))
              refine Lib.hid ?_
              go_wp2
              go_roundw
              case rel => exact ⟨q + 1, by go_num, hq, by rw [HTK.out, ← List.append_assoc, ← HLE.out]; exact HL2⟩
              case measure => simp [Lib.intOf]; omega
            · obtain rfl : q = m := by omega
              have HTA : Hid (al ++ (pa.take q).map (o.length + ·) = al ++ pa.map (o.length + ·)) := Lib.hid (by rw [HM.out, List.take_length])
              rw [HTA.out] at HL
              clear HTA
              have HOUT : Hid (wr.ownsRow w.heap.size 5 1 (.slice a11 on c11) o.length (bytesV o)) := Lib.hid HL.out.out
              have hzz : (z : Int) ≤ 1000000 := by omega
              go_wp2_with (first
                | (at_builtin; refine wpList_append_text rfl (.tmp 106) (.tmp 107) rfl w.heap.size _ o rO rfl HOUT.out rfl (by rw [← HOE.out, ← HRLE.out]; omega) HL.out.low.size ?_; intro v5 w5 hown5 hg5; have HO5 := Lib.hid hown5; have HA5 := Lib.hid (owns_grown HL.out.all hg5 fun r e e2 => own_apart HL.out.all HOUT.out (by decide) r e2 e); have HB5 := Lib.hid (HL.out.low.grown hg5 HL.out.low.size fun k e => (own_in HOUT.out e).1); clear hown5 hg5)
                | (at_builtin; go_loud (refine wpList_append_zeros rfl (.tmp 108) (.tmp 109) rfl w.heap.size _ (o ++ rO) rfl HO5.out z rfl hzb (by rw [List.length_append, ← HOE.out, ← HRLE.out]; omega) HB5.out.size ?_; intro v7 w7 hown7 hg7; have HO7 := Lib.hid hown7; have HA7 := Lib.hid (owns_grown HA5.out hg7 fun r e e2 => own_apart HA5.out HO5.out (by decide) r e2 e); have HB7 := Lib.hid (HB5.out.grown hg7 HB5.out.size fun k e => (own_in HO5.out e).1); clear hown7 hg7; refine Hid.out ?_)))
              refine Lib.hid ?_
              go_wp2
              go_roundw
              case rel =>
                refine ⟨kr, o ++ rO ++ zer z, al ++ pa.map (o.length + ·), rfl, hj3, HST, Lib.hid ?_, Lib.hid ?_, HO7, HA7, HB7⟩
                · rw [List.length_append, List.length_append, zer_len, ← HRLE.out, HOL.out]
                  have := HZ.out; have := HSN.out; have := HKR.out
                  omega
                · rw [List.length_append, List.length_map]
                  have := HAL.out; have := HPAR.out; have := HKR.out
                  omega
              case measure => simp [Lib.intOf]; omega
        · have HNO : Hid (movL fr tt l = none) := Lib.hid (by
            rw [HML.out]
            unfold movB
            rw [HX.out, HSEG.out, movF, ← HRO.out, HRL.out, ← HSN.out, ← HRLE.out]
            have e : (segs (l.drop kr) = []) ↔ kr = l.length := by rw [segs_empty, List.drop_eq_nil_iff]; omega
            simp only [e]
            rw [if_neg hfit])
          by_cases hneg : sN < rl
          · obtain ⟨z, hz⟩ : ∃ z : Int, z = (sN : Int) - (rl : Int) := ⟨_, rfl⟩
            have w5 : IntKind.i64.wrap ((sN : Int) - (rO.length : Int)) = z := by rw [← hrl, IntWalk.i64_in _ (by omega), hz]
            have t1 : decide (z < 0) = true := decide_eq_true (by omega)
            clear hfit hz hneg hrl
            go_wp2
            go_ret3
            exact ⟨.inr ⟨HNO.out, rfl⟩, bch HB.out HB3.out⟩
          · have hk : kr < l.length := by
              by_cases hk : kr = l.length
              · rw [if_pos hk] at hfit; omega
              · omega
            rw [if_neg (by omega)] at hfit
            have w5 : IntKind.i64.wrap ((sN : Int) - (rO.length : Int)) = 0 := by rw [← hrl, IntWalk.i64_in _ (by omega)]; omega
            have t3 : decide (kr < l.length) = true := decide_eq_true hk
            clear hfit hneg hrl
            go_wp2
            go_ret3
            exact ⟨.inr ⟨HNO.out, rfl⟩, bch HB.out HB3.out⟩
      · obtain rfl : a = l.length := by omega
        have HXE : Hid (movF fr tt (segs l) ([], []) = some (o, al)) := Lib.hid (by
          rw [HX.out, List.drop_eq_nil_of_le (Nat.le_refl _)]; rfl)
        obtain ⟨a11, c11, rfl⟩ := own_slice HO.out
        have hcv := text_of (Rd.of_own HO.out)
        have HBO := Lib.hid (rbin_any o (by rw [HOL.out]; omega) wr)
        by_cases hbo : 0 ∈ o
        · have HMV : Hid (movL fr tt l = some (o, al)) := Lib.hid (by rw [HML.out]; unfold movB; rw [HXE.out]; simp only; rw [if_pos hbo])
          have e : binB o = true := decide_eq_true hbo
          rw [e] at HBO
          clear hbo e
          go_wp2_with (go_at_call 15; refine HBO.out.mono ?_; rintro e w' ⟨rfl, rfl⟩)
          go_ret3
          exact ⟨.inl ⟨_, _, _, HMV.out, rfl, HA.out⟩, HB.out⟩
        · have HMV : Hid (movL fr tt l = none) := Lib.hid (by rw [HML.out]; unfold movB; rw [HXE.out]; simp only; rw [if_neg hbo])
          have e : binB o = false := decide_eq_false hbo
          rw [e] at HBO
          clear hbo e
          go_wp2_with (go_at_call 15; refine HBO.out.mono ?_; rintro e w' ⟨rfl, rfl⟩)
          go_ret3
          exact ⟨.inr ⟨HMV.out, rfl⟩, HB.out⟩
  · have hb1 : binB l = false := decide_eq_false hbin
    have HML : Hid (movL fr tt l = some (putO fr tt l, putA fr tt l)) := Lib.hid (by unfold movL; rw [if_neg hbin])
    rw [hb1] at HB0
    have HP := Lib.hid (rput_any l fr tt hf hl hf2 ht2 w)
    clear hbin hb1
    go_enter Tryd.func19, Tryd.ntmps19
    go_wp2_with (first
      | (go_at_call 15; refine HB0.out.mono ?_; rintro e w' ⟨rfl, rfl⟩)
      | (go_at_call 36; refine HP.out.mono ?_; rintro e w' ⟨v, rfl, ho, hb⟩; have HO := Lib.hid ho; have HB := Lib.hid hb; clear ho hb))
    go_ret3
    exact ⟨.inl ⟨_, _, _, HML.out, rfl, HO.out⟩, HB.out⟩
end Go.Proofs.YtophihnjlodmjaaDoor
