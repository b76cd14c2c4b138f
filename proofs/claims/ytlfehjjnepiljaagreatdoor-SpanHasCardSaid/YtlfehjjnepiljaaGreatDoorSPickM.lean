/- Plain words on what Pick of package span picks: rows of versions without those that are not had, without the second one of two neighbours that are one, turned round. Nothing of the program's steps stands here. -/
import Derived.Test.YtlfehjjnepiljaaGreatDoorM7
namespace Go.Proofs.YtlfehjjnepiljaaGreatDoor

/-- One more, unless it is what stands last. -/
def ddF (acc : List Ver) (v : Ver) : List Ver := if acc.getLast? = some v then acc else acc ++ [v]
/-- Of neighbours that are one, the first. -/
def dd (l : List Ver) : List Ver := l.foldl ddF []
theorem dd_nil : dd [] = [] := rfl
theorem dd_snoc (l : List Ver) (v : Ver) : dd (l ++ [v]) = ddF (dd l) v := by
  unfold dd
  rw [List.foldl_append]
  rfl
theorem ddF_last (acc : List Ver) (v : Ver) : (ddF acc v).getLast? = some v := by
  unfold ddF
  split
  · assumption
  · simp
theorem take_last {l : List Ver} {k : Nat} {v : Ver} (h : l[k]? = some v) : l.take (k + 1) = l.take k ++ [v] := by
  rw [List.take_add_one, h]
  rfl
theorem dd_take {l : List Ver} {k : Nat} {u v : Ver} (hu : l[k]? = some u) (hv : l[k + 1]? = some v) : dd (l.take (k + 2)) = if u = v then dd (l.take (k + 1)) else dd (l.take (k + 1)) ++ [v] := by
  rw [take_last hv, dd_snoc, ddF]
  have : (dd (l.take (k + 1))).getLast? = some u := by rw [take_last hu, dd_snoc]; exact ddF_last _ _
  rw [this]
  by_cases e : u = v
  · subst e
    simp
  · rw [if_neg e, if_neg (fun h => e (Option.some.inj h))]
theorem dd_len (l : List Ver) : (dd l).length ≤ l.length := by
  have key : ∀ (l acc : List Ver), (l.foldl ddF acc).length ≤ acc.length + l.length := by
    intro l
    induction l with
    | nil => intro acc; simp
    | cons v l ih =>
      intro acc
      refine Nat.le_trans (ih (ddF acc v)) ?_
      have : (ddF acc v).length ≤ acc.length + 1 := by
        unfold ddF
        split <;> simp
      simp
      omega
  have := key l []
  simpa [dd] using this
theorem dd_len_take (l : List Ver) (k : Nat) : (dd (l.take k)).length ≤ k := Nat.le_trans (dd_len _) (by rw [List.length_take]; omega)
theorem dd_mem (l : List Ver) (v : Ver) : v ∈ dd l ↔ v ∈ l := by
  have key : ∀ (l acc : List Ver), v ∈ l.foldl ddF acc ↔ v ∈ acc ∨ v ∈ l := by
    intro l
    induction l with
    | nil => intro acc; simp
    | cons u l ih =>
      intro acc
      rw [List.foldl_cons, ih, List.mem_cons]
      have : v ∈ ddF acc u ↔ v ∈ acc ∨ v = u := by
        unfold ddF
        split
        · rename_i h
          constructor
          · exact .inl
          · rintro (h1 | rfl)
            · exact h1
            · exact List.mem_of_getLast? h
        · simp
      rw [this]
      constructor
      · rintro ((h | h) | h)
        · exact .inl h
        · exact .inr (.inl h)
        · exact .inr (.inr h)
      · rintro (h | h | h)
        · exact .inl (.inl h)
        · exact .inl (.inr h)
        · exact .inr h
  simpa [dd] using key l []
/-- Each stands ahead of those behind it. -/
def RiseP (l : List Ver) : Prop := l.Pairwise fun a b => cmpV a b < 0
/-- Each stands behind those that come later. -/
def FallP (l : List Ver) : Prop := l.Pairwise fun a b => cmpV b a < 0
theorem cmpV_lt_trans {a b d : Ver} (h1 : cmpV a b < 0) (h2 : cmpV b d < 0) : cmpV a d < 0 := by
  have := good_cmpV.tr a b d (by omega) (by omega)
  omega
theorem cmpV_self (a : Ver) : cmpV a a = 0 := good_cmpV.zero a
theorem dd_rise {l : List Ver} (h : SortedP l) : RiseP (dd l) := by
  have key : ∀ (l acc : List Ver), RiseP acc → (∀ a ∈ acc, ∀ b ∈ l, cmpV a b ≤ 0) → SortedP l → RiseP (l.foldl ddF acc) := by
    intro l
    induction l with
    | nil => intro acc ha _ _; exact ha
    | cons v l ih =>
      intro acc ha hb hs
      obtain ⟨h1, h2⟩ := List.pairwise_cons.1 hs
      refine ih (ddF acc v) ?_ ?_ h2
      · unfold ddF
        split
        · exact ha
        · rename_i hn
          refine List.pairwise_append.2 ⟨ha, List.pairwise_singleton _ _, fun a hm b hb' => ?_⟩
          rw [List.mem_singleton] at hb'
          subst hb'
          have h3 := hb a hm b (List.mem_cons_self ..)
          by_cases e : cmpV a b = 0
          · -- a is v: then it stands last
            exfalso
            have e := cmpV_zero e
            subst e
            have hne : acc ≠ [] := fun h => by rw [h] at hm; cases hm
            have hl := List.getLast?_eq_some_getLast hne
            have hmem := List.getLast_mem hne
            by_cases e2 : acc.getLast hne = a
            · exact hn (by rw [hl, e2])
            · have hs2 := List.dropLast_concat_getLast hne
              have hm2 : a ∈ acc.dropLast := by
                rw [← hs2] at hm
                rcases List.mem_append.1 hm with h | h
                · exact h
                · exact absurd (List.mem_singleton.1 h).symm e2
              unfold RiseP at ha
              rw [← hs2] at ha
              have h5 := (List.pairwise_append.1 ha).2.2 a hm2 _ (List.mem_singleton.2 rfl)
              have h6 := hb _ hmem a (List.mem_cons_self ..)
              have h7 := good_cmpV.anti a (acc.getLast hne)
              omega
          · omega
      · intro a hm b hb'
        have hm' : a ∈ acc ∨ a = v := by
          unfold ddF at hm
          split at hm
          · exact .inl hm
          · simpa using hm
        rcases hm' with hm' | rfl
        · exact hb a hm' b (List.mem_cons_of_mem _ hb')
        · exact h1 b hb'
  exact key l [] List.Pairwise.nil (fun a ha => by cases ha) h
theorem rise_turned {l : List Ver} (h : RiseP l) : FallP l.reverse := by
  unfold FallP
  rw [List.pairwise_reverse]
  exact h
theorem fall_nodup {l : List Ver} (h : FallP l) : l.Nodup := by
  refine h.imp fun {a b} hab => ?_
  rintro rfl
  rw [cmpV_self] at hab
  omega
/-- Two rows that fall, and have the same, are one. -/
theorem fall_unique : ∀ {a b : List Ver}, FallP a → FallP b → (∀ v, v ∈ a ↔ v ∈ b) → a = b
  | [], [], _, _, _ => rfl
  | [], y :: b, _, _, h => absurd ((h y).2 (List.mem_cons_self ..)) (by simp)
  | x :: a, [], _, _, h => absurd ((h x).1 (List.mem_cons_self ..)) (by simp)
  | x :: a, y :: b, ha, hb, h => by
    obtain ⟨a1, a2⟩ := List.pairwise_cons.1 ha
    obtain ⟨b1, b2⟩ := List.pairwise_cons.1 hb
    have e : x = y := by
      have h1 := (h x).1 (List.mem_cons_self ..)
      have h2 := (h y).2 (List.mem_cons_self ..)
      rcases List.mem_cons.1 h1 with h1 | h1
      · exact h1
      rcases List.mem_cons.1 h2 with h2 | h2
      · exact h2.symm
      have h3 := b1 x h1
      have h4 := a1 y h2
      have h5 := good_cmpV.anti x y
      omega
    subst e
    have hx1 : x ∉ a := fun hm => by have := a1 x hm; rw [cmpV_self] at this; omega
    have hx2 : x ∉ b := fun hm => by have := b1 x hm; rw [cmpV_self] at this; omega
    rw [fall_unique a2 b2 fun v => ⟨fun hv => (List.mem_cons.1 ((h v).1 (List.mem_cons_of_mem _ hv))).resolve_left (fun e => hx1 (e ▸ hv)), fun hv => (List.mem_cons.1 ((h v).2 (List.mem_cons_of_mem _ hv))).resolve_left (fun e => hx2 (e ▸ hv))⟩]
theorem sorted_filter {l : List Ver} (h : SortedP l) (p : Ver → Bool) : SortedP (l.filter p) := List.Pairwise.filter p h
/-- What is picked out of a sorted row. -/
def pickL (ls : List (List Bd)) (r : List Ver) : List Ver := (dd (r.filter fun v => hasL ls v)).reverse
theorem pick_fall {ls : List (List Bd)} {r : List Ver} (h : SortedP r) : FallP (pickL ls r) := rise_turned (dd_rise (sorted_filter h _))
theorem pick_mem {ls : List (List Bd)} {l r : List Ver} (hp : r.Perm (okV l)) (ho : spanOk ls = true) (v : Ver) : v ∈ pickL ls r ↔ v ∈ l ∧ hasS ls v = true := by
  unfold pickL
  rw [List.mem_reverse, dd_mem, List.mem_filter, hp.mem_iff]
  unfold okV hasS
  rw [List.mem_filter, ho]
  cases v.ok <;> cases hasL ls v <;> simp
end Go.Proofs.YtlfehjjnepiljaaGreatDoor
