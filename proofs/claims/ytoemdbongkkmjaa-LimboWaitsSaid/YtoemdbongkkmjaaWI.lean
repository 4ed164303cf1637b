/- Slots that wait, each once: the statement about numbers. -/
namespace Go.LimboWait
theorem php : ∀ (m : Nat) (f : Nat → Nat), (∀ a, a ≤ m → f a < m) → ∃ a b, a < b ∧ b ≤ m ∧ f a = f b := by
  intro m
  induction m with
  | zero =>
    intro f h
    have := h 0 (Nat.le_refl _)
    omega
  | succ m ih =>
    intro f h
    by_cases hx : ∃ a, a ≤ m ∧ f a = f (m + 1)
    · obtain ⟨a, h1, h2⟩ := hx
      exact ⟨a, m + 1, by omega, Nat.le_refl _, h2⟩
    · have hne : ∀ a, a ≤ m → f a ≠ f (m + 1) := fun a ha e => hx ⟨a, ha, e⟩
      have hv := h (m + 1) (Nat.le_refl _)
      obtain ⟨a, b, h1, h2, h3⟩ := ih (fun a => if f (m + 1) < f a then f a - 1 else f a) (fun a ha => by
        have h1 := h a (by omega)
        have h2 := hne a ha
        try dsimp only
        split <;> omega)
      refine ⟨a, b, h1, by omega, ?_⟩
      have n1 := hne a (by omega)
      have n2 := hne b h2
      try dsimp only at h3
      split at h3 <;> split at h3 <;> omega
structure Wt (n : Nat) (at' : Int) (s e S : Nat → Int) : Prop where
  slot : ∀ a, a < n → 0 ≤ s a ∧ s a ≤ 11
  since : ∀ a, a < n → S (s a).toNat = e a
  ep : ∀ a, a < n → 0 ≤ e a ∧ e a ≤ at' ∧ at' ≤ e a + 2
  apart : ∀ a b, a < b → b < n → s a ≠ s b
  sorted : ∀ a b, a ≤ b → b < n → e a ≤ e b
theorem Wt.congr {n : Nat} {t : Int} {s e S s' e' S' : Nat → Int} (h : Wt n t s e S) (hs : ∀ a, a < n → s' a = s a) (he : ∀ a, a < n → e' a = e a) (hS : ∀ j, j < 12 → S' j = S j) : Wt n t s' e' S' := by
  refine ⟨fun a ha => by rw [hs a ha]; exact h.slot a ha, fun a ha => ?_, fun a ha => by rw [he a ha]; exact h.ep a ha, fun a b h1 h2 => by rw [hs a (by omega), hs b h2]; exact h.apart a b h1 h2, fun a b h1 h2 => by rw [he a (by omega), he b h2]; exact h.sorted a b h1 h2⟩
  have := h.slot a ha
  rw [hs a ha, he a ha, hS _ (by omega)]
  exact h.since a ha
theorem Wt.none (t : Int) (s e S : Nat → Int) : Wt 0 t s e S := ⟨fun _ h => absurd h (Nat.not_lt_zero _), fun _ h => absurd h (Nat.not_lt_zero _), fun _ h => absurd h (Nat.not_lt_zero _), fun _ _ _ h => absurd h (Nat.not_lt_zero _), fun _ _ _ h => absurd h (Nat.not_lt_zero _)⟩
/-- a slot that does not wait has a place -/
theorem Wt.room {n : Nat} {t : Int} {s e S : Nat → Int} (h : Wt n t s e S) (hn : n ≤ 12) {x : Int} (hx : 0 ≤ x ∧ x ≤ 11) (hS : S x.toNat < 0) : n < 12 := by
  rcases Nat.lt_or_ge n 12 with h1 | h1
  · exact h1
  obtain rfl : n = 12 := by omega
  exfalso
  obtain ⟨a, b, h1, h2, h3⟩ := php 12 (fun a => if a < 12 then (s a).toNat else x.toNat) (fun a _ => by
    try dsimp only
    split
    · rename_i h1
      have := h.slot a h1
      omega
    · omega)
  try dsimp only at h3
  rw [if_pos (by omega)] at h3
  have ha := h.slot a (by omega)
  by_cases hb : b < 12
  · rw [if_pos hb] at h3
    have := h.slot b hb
    exact h.apart a b h1 hb (by omega)
  · rw [if_neg hb] at h3
    have h4 := h.since a (by omega)
    have h5 := h.ep a (by omega)
    rw [h3] at h4
    omega
/-- how many are ripe: the first ones -/
theorem Wt.ripe {n : Nat} {t : Int} {s e S : Nat → Int} (h : Wt n t s e S) (u : Int) : ∃ k, k ≤ n ∧ (∀ a, a < k → 3 ≤ u - e a) ∧ ∀ a, k ≤ a → a < n → u - e a ≤ 2 := by
  have key : ∀ m, m ≤ n → ∃ k, k ≤ m ∧ (∀ a, a < k → 3 ≤ u - e a) ∧ ∀ a, k ≤ a → a < m → u - e a ≤ 2 := by
    intro m
    induction m with
    | zero => intro _; exact ⟨0, Nat.le_refl _, fun _ h => absurd h (Nat.not_lt_zero _), fun _ _ h => absurd h (Nat.not_lt_zero _)⟩
    | succ m ih =>
      intro hm
      obtain ⟨k, h1, h2, h3⟩ := ih (by omega)
      by_cases hu : 3 ≤ u - e m
      · refine ⟨m + 1, Nat.le_refl _, fun a ha => ?_, fun a h4 h5 => absurd h5 (by omega)⟩
        have := h.sorted a m (by omega) (by omega)
        omega
      · refine ⟨k, by omega, h2, fun a h4 h5 => ?_⟩
        rcases Nat.lt_or_ge a m with h6 | h6
        · exact h3 a h4 h6
        · obtain rfl : a = m := by omega
          omega
  exact key n (Nat.le_refl _)
def sW (n k : Nat) (x : Int) (s : Nat → Int) (a : Nat) : Int := if a < n - k then s (a + k) else x
/-- the slots that go are written over, ahead of that what comes -/
def SW (s : Nat → Int) (S : Nat → Int) : Nat → Nat → Int
  | 0, j => S j
  | k + 1, j => if s k = (j : Int) then -1 else SW s S k j
theorem SW_not {s S : Nat → Int} : ∀ {k j : Nat}, (∀ a, a < k → s a ≠ (j : Int)) → SW s S k j = S j
  | 0, _, _ => rfl
  | k + 1, j, h => by
    show (if s k = (j : Int) then -1 else SW s S k j) = S j
    rw [if_neg (h k (by omega))]
    exact SW_not fun a ha => h a (by omega)
/-- the others wait on -/
theorem Wt.take {n k : Nat} {t u : Int} {s e S : Nat → Int} (h : Wt n t s e S) (hk : k ≤ n) (h1 : t ≤ u) (h3 : ∀ a, k ≤ a → a < n → u - e a ≤ 2) (x y : Int) : Wt (n - k) u (sW n k x s) (sW n k y e) (SW s S k) := by
  have es : ∀ a, a < n - k → sW n k x s a = s (a + k) := fun a ha => if_pos ha
  have ee : ∀ a, a < n - k → sW n k y e a = e (a + k) := fun a ha => if_pos ha
  refine ⟨fun a ha => by rw [es a ha]; exact h.slot _ (by omega), fun a ha => ?_, fun a ha => ?_, fun a b p q => by rw [es a (by omega), es b q]; exact h.apart _ _ (by omega) (by omega), fun a b p q => by rw [ee a (by omega), ee b q]; exact h.sorted _ _ (by omega) (by omega)⟩
  · rw [es a ha, ee a ha]
    have h4 := h.slot (a + k) (by omega)
    rw [SW_not fun b hb e' => h.apart b (a + k) (by omega) (by omega) (by rw [e']; omega)]
    exact h.since _ (by omega)
  · rw [ee a ha]
    have h4 := h.ep (a + k) (by omega)
    have h5 := h3 (a + k) (by omega) (by omega)
    omega
theorem Wt.add {n k : Nat} {t u x : Int} {s e S : Nat → Int} (h : Wt n t s e S) (hk : k ≤ n) (h0 : 0 ≤ u) (h1 : t ≤ u) (h3 : ∀ a, k ≤ a → a < n → u - e a ≤ 2) (hx : 0 ≤ x ∧ x ≤ 11) (hS : S x.toNat < 0) :
    Wt (n - k + 1) u (sW n k x s) (sW n k u e) (SW s (fun j => if x = (j : Int) then u else S j) k) := by
  have hxs : ∀ a, a < n → s a ≠ x := fun a ha e' => by
    have h4 := h.since a ha
    have h5 := h.ep a ha
    rw [e'] at h4
    omega
  have T := h.take hk h1 h3 x u
  have es : ∀ a, a < n - k → sW n k x s a = s (a + k) := fun a ha => if_pos ha
  have ee : ∀ a, a < n - k → sW n k u e a = e (a + k) := fun a ha => if_pos ha
  have el : sW n k x s (n - k) = x := if_neg (Nat.lt_irrefl _)
  have ef : sW n k u e (n - k) = u := if_neg (Nat.lt_irrefl _)
  have last : ∀ a, a < n - k + 1 → a < n - k ∨ a = n - k := fun a h => by omega
  refine ⟨fun a ha => ?_, fun a ha => ?_, fun a ha => ?_, fun a b p q => ?_, fun a b p q => ?_⟩
  · rcases last a ha with g | rfl
    · exact T.slot a g
    · rw [el]; exact hx
  · rcases last a ha with g | rfl
    · have h4 := h.slot (a + k) (by omega)
      rw [es a g, ee a g, SW_not fun b hb e' => h.apart b (a + k) (by omega) (by omega) (by rw [e']; omega), if_neg (fun e' => hxs (a + k) (by omega) (by omega))]
      exact h.since _ (by omega)
    · rw [el, ef, SW_not fun b hb e' => hxs b (by omega) (by omega), if_pos (by omega)]
  · rcases last a ha with g | rfl
    · exact T.ep a g
    · rw [ef]; omega
  · rcases last b q with g | rfl
    · exact T.apart a b p g
    · rw [el, es a p]
      exact hxs _ (by omega)
  · rcases last b q with g | rfl
    · exact T.sorted a b p g
    · rw [ef]
      rcases last a (by omega) with g' | rfl
      · exact (T.ep a g').2.1
      · rw [ef]; omega
/- the numbers as one list -/
def pairsL (n : Nat) (s e : Nat → Int) : List Int := (List.range n).flatMap fun a => [s a, e a]
def lay (n : Nat) (t : Int) (s e S : Nat → Int) : List Int := t :: (pairsL n s e ++ (List.range 12).map S)
theorem pairsL_succ (n : Nat) (s e : Nat → Int) : pairsL (n + 1) s e = pairsL n s e ++ [s n, e n] := by
  unfold pairsL
  rw [List.range_succ, List.flatMap_append]
  rfl
theorem pairsL_len (n : Nat) (s e : Nat → Int) : (pairsL n s e).length = 2 * n := by
  induction n with
  | zero => rfl
  | succ n ih => rw [pairsL_succ, List.length_append, ih]; simp; omega
theorem pairsL_at (n : Nat) (s e : Nat → Int) : ∀ a, a < n → (pairsL n s e).getD (2 * a) 0 = s a ∧ (pairsL n s e).getD (2 * a + 1) 0 = e a := by
  induction n with
  | zero => intro a h; exact absurd h (Nat.not_lt_zero _)
  | succ n ih =>
    intro a ha
    have hl := pairsL_len n s e
    rw [pairsL_succ, List.getD_eq_getElem?_getD, List.getD_eq_getElem?_getD]
    rcases Nat.lt_or_ge a n with h | h
    · obtain ⟨h1, h2⟩ := ih a h
      rw [List.getD_eq_getElem?_getD] at h1 h2
      rw [List.getElem?_append_left (by omega), List.getElem?_append_left (by omega)]
      exact ⟨h1, h2⟩
    · obtain rfl : a = n := by omega
      rw [List.getElem?_append_right (by omega), List.getElem?_append_right (by omega), hl, Nat.sub_self, Nat.add_sub_cancel_left]
      exact ⟨rfl, rfl⟩
/-- what holds of such a list -/
def Waits (xs : List Int) : Prop := ∃ n, n ≤ 12 ∧ xs.length = 2 * n + 13 ∧ Wt n (xs.getD 0 0) (fun a => xs.getD (1 + 2 * a) 0) (fun a => xs.getD (2 + 2 * a) 0) (fun j => xs.getD (1 + 2 * n + j) 0)
theorem lay_at (n : Nat) (t : Int) (s e S : Nat → Int) : (lay n t s e S).length = 2 * n + 13 ∧ (lay n t s e S).getD 0 0 = t ∧ (∀ a, a < n → (lay n t s e S).getD (1 + 2 * a) 0 = s a ∧ (lay n t s e S).getD (2 + 2 * a) 0 = e a) ∧ ∀ j, j < 12 → (lay n t s e S).getD (1 + 2 * n + j) 0 = S j := by
  have hl := pairsL_len n s e
  refine ⟨?_, rfl, fun a ha => ?_, fun j hj => ?_⟩
  · show ((pairsL n s e ++ (List.range 12).map S).length + 1) = _
    rw [List.length_append, hl, List.length_map, List.length_range]
  · obtain ⟨h1, h2⟩ := pairsL_at n s e a ha
    rw [List.getD_eq_getElem?_getD] at h1 h2
    rw [List.getD_eq_getElem?_getD, List.getD_eq_getElem?_getD, show 1 + 2 * a = 2 * a + 1 by omega, show 2 + 2 * a = (2 * a + 1) + 1 by omega]
    show ((pairsL n s e ++ _)[2 * a]?.getD 0 = _) ∧ ((pairsL n s e ++ _)[2 * a + 1]?.getD 0 = _)
    rw [List.getElem?_append_left (by omega), List.getElem?_append_left (by omega)]
    exact ⟨h1, h2⟩
  · rw [List.getD_eq_getElem?_getD, show 1 + 2 * n + j = (2 * n + j) + 1 by omega]
    show (pairsL n s e ++ _)[2 * n + j]?.getD 0 = _
    rw [List.getElem?_append_right (by omega), hl, Nat.add_sub_cancel_left, List.getElem?_map, List.getElem?_range hj]
    rfl
theorem waits_lay {n : Nat} {t : Int} {s e S : Nat → Int} (hn : n ≤ 12) : Waits (lay n t s e S) ↔ Wt n t s e S := by
  obtain ⟨h1, h2, h3, h4⟩ := lay_at n t s e S
  constructor
  · rintro ⟨m, _, hm, hw⟩
    obtain rfl : m = n := by omega
    rw [h2] at hw
    exact hw.congr (fun a ha => (h3 a ha).1.symm) (fun a ha => (h3 a ha).2.symm) (fun j hj => (h4 j hj).symm)
  · intro h
    refine ⟨n, hn, h1, ?_⟩
    rw [h2]
    exact h.congr (fun a ha => (h3 a ha).1) (fun a ha => (h3 a ha).2) (fun j hj => h4 j hj)
end Go.LimboWait
