/- A row of slots that wait, an epoch: what the unknown functions stand for. -/
namespace Go.LimboNum
/-- slots and epochs, in turn -/
def slotN (N : List Int) (i : Nat) : Int := N.getD (2 * i) 0
def epochN (N : List Int) (i : Nat) : Int := N.getD (2 * i + 1) 0
def many (N : List Int) : Nat := N.length / 2
def ripeN (N : List Int) (ep : Int) (i : Nat) : Bool := decide (3 ≤ ep - epochN N i)
def mayN (N : List Int) (i : Nat) : Bool := decide (0 ≤ slotN N i ∧ slotN N i ≤ 11 ∧ 0 ≤ epochN N i ∧ epochN N i ≤ 1073741823)
/-- those that are ripe among the first; the others -/
def ripes (N : List Int) (ep : Int) (n : Nat) : List Nat := (List.range n).filter (ripeN N ep)
def rests (N : List Int) (ep : Int) (n : Nat) : List Nat := (List.range n).filter fun i => !ripeN N ep i
def slotsOf (N : List Int) (l : List Nat) : List Int := l.map (slotN N)
def pairsOf (N : List Int) (l : List Nat) : List Int := l.flatMap fun i => [slotN N i, epochN N i]
/-- how many may be, from the first on -/
def goods (N : List Int) : Nat → Nat
  | 0 => 0
  | n + 1 => if goods N n = n ∧ mayN N n = true then n + 1 else goods N n
def rowFn (l : List Int) : List Int → Int
  | [] => l.length
  | j :: _ => l.getD j.toNat 0
def fz (N : List Int) (ep : Int) (f : Nat) (xs : List Int) : Int :=
  if f = 1000001 then rowFn N xs
  else if f = 1000002 then rowFn (slotsOf N (ripes N ep (many N))) xs
  else if f = 1000003 then rowFn (pairsOf N (rests N ep (many N))) xs
  else if f = 1101 then (ripes N ep (xs.headD 0).toNat).length
  else if f = 1102 then (rests N ep (xs.headD 0).toNat).length
  else if f = 1103 then goods N (many N)
  else if f = 1104 then ep
  else if f = 1105 then many N
  else if f = 1106 then (ripes N ep (many N)).length
  else if f = 1107 then (rests N ep (many N)).length
  else 0
theorem ripes_succ {N : List Int} {ep : Int} {n : Nat} : ripes N ep (n + 1) = ripes N ep n ++ (if ripeN N ep n = true then [n] else []) := by
  unfold ripes
  rw [List.range_succ, List.filter_append]
  cases h : ripeN N ep n <;> simp [h]
theorem rests_succ {N : List Int} {ep : Int} {n : Nat} : rests N ep (n + 1) = rests N ep n ++ (if ripeN N ep n = true then [] else [n]) := by
  unfold rests
  rw [List.range_succ, List.filter_append]
  cases h : ripeN N ep n <;> simp [h]
theorem ripes_pre {N : List Int} {ep : Int} {n m : Nat} (h : n ≤ m) : ∃ l, ripes N ep m = ripes N ep n ++ l := by
  induction m with
  | zero => exact ⟨[], by rw [show n = 0 by omega]; simp⟩
  | succ m ih =>
    by_cases hn : n ≤ m
    · obtain ⟨l, hl⟩ := ih hn
      exact ⟨l ++ _, by rw [ripes_succ, hl, List.append_assoc]⟩
    · exact ⟨[], by rw [show n = m + 1 by omega]; simp⟩
theorem rests_pre {N : List Int} {ep : Int} {n m : Nat} (h : n ≤ m) : ∃ l, rests N ep m = rests N ep n ++ l := by
  induction m with
  | zero => exact ⟨[], by rw [show n = 0 by omega]; simp⟩
  | succ m ih =>
    by_cases hn : n ≤ m
    · obtain ⟨l, hl⟩ := ih hn
      exact ⟨l ++ _, by rw [rests_succ, hl, List.append_assoc]⟩
    · exact ⟨[], by rw [show n = m + 1 by omega]; simp⟩
/-- the next one that is ripe stands where it is told -/
theorem ripe_at {N : List Int} {ep : Int} {i m : Nat} (h : i < m) (hr : ripeN N ep i = true) : (slotsOf N (ripes N ep m)).getD (ripes N ep i).length 0 = slotN N i := by
  obtain ⟨l, hl⟩ := ripes_pre (N := N) (ep := ep) (n := i + 1) (m := m) h
  rw [hl, ripes_succ, if_pos hr]
  unfold slotsOf
  simp [List.getD_eq_getElem?_getD]
theorem pairs_len {N : List Int} (l : List Nat) : (pairsOf N l).length = 2 * l.length := by
  induction l with
  | nil => rfl
  | cons x r ih =>
    show ([slotN N x, epochN N x] ++ pairsOf N r).length = _
    rw [List.length_append, ih]
    simp; omega
theorem pairs_app {N : List Int} (a b : List Nat) : pairsOf N (a ++ b) = pairsOf N a ++ pairsOf N b := by
  unfold pairsOf
  rw [List.flatMap_append]
theorem rest_at {N : List Int} {ep : Int} {i m : Nat} (h : i < m) (hr : ripeN N ep i = false) : (pairsOf N (rests N ep m)).getD (2 * (rests N ep i).length) 0 = slotN N i ∧ (pairsOf N (rests N ep m)).getD (2 * (rests N ep i).length + 1) 0 = epochN N i := by
  obtain ⟨l, hl⟩ := rests_pre (N := N) (ep := ep) (n := i + 1) (m := m) h
  rw [hl, rests_succ, if_neg (by rw [hr]; exact Bool.false_ne_true), pairs_app, pairs_app]
  have e : pairsOf N [i] = [slotN N i, epochN N i] := rfl
  rw [e, ← pairs_len (N := N) (rests N ep i), List.append_assoc]
  constructor
  · rw [List.getD_eq_getElem?_getD, List.getElem?_append_right (Nat.le_refl _), Nat.sub_self]; rfl
  · rw [List.getD_eq_getElem?_getD, List.getElem?_append_right (by omega), Nat.add_sub_cancel_left]; rfl
theorem goods_le {N : List Int} : ∀ n, goods N n ≤ n
  | 0 => Nat.le_refl _
  | n + 1 => by
    have := goods_le (N := N) n
    unfold goods
    split <;> omega
theorem goods_stay {N : List Int} {n m : Nat} (h : goods N n < n) (hm : n ≤ m) : goods N m = goods N n := by
  induction m with
  | zero => omega
  | succ m ih =>
    by_cases hn : n ≤ m
    · have := ih hn
      have e : goods N (m + 1) = if goods N m = m ∧ mayN N m = true then m + 1 else goods N m := rfl
      rw [e, if_neg (by omega), this]
    · rw [show n = m + 1 by omega]
theorem goods_bad {N : List Int} {i m : Nat} (h : i < m) (hb : mayN N i = false) : goods N m ≤ i := by
  have h1 : goods N (i + 1) < i + 1 := by
    have := goods_le (N := N) i
    unfold goods
    rw [if_neg (by rw [hb]; simp)]
    omega
  rw [goods_stay h1 h]
  omega
theorem goods_good {N : List Int} {i m : Nat} (h : i < m) (hg : i < goods N m) : mayN N i = true := by
  cases hb : mayN N i with
  | true => rfl
  | false =>
    have := goods_bad h hb
    omega
/-- one that may be behind so many that may be is counted -/
theorem goods_at {N : List Int} {i m : Nat} (h : i < m) (hg : mayN N i = true) (hi : i ≤ goods N m) : i + 1 ≤ goods N m := by
  by_cases hn : goods N i = i
  · have e : goods N (i + 1) = i + 1 := by
      have e : goods N (i + 1) = if goods N i = i ∧ mayN N i = true then i + 1 else goods N i := rfl
      rw [e, if_pos ⟨hn, hg⟩]
    have mono : ∀ k, goods N (i + 1) ≤ goods N (i + 1 + k) := fun k => by
      induction k with
      | zero => exact Nat.le_refl _
      | succ k ih =>
        have e2 : goods N (i + 1 + k + 1) = if goods N (i + 1 + k) = i + 1 + k ∧ mayN N (i + 1 + k) = true then i + 1 + k + 1 else goods N (i + 1 + k) := rfl
        show goods N (i + 1) ≤ goods N (i + 1 + k + 1)
        rw [e2]
        split <;> omega
    have := mono (m - (i + 1))
    rw [show i + 1 + (m - (i + 1)) = m by omega] at this
    omega
  · have h1 := goods_le (N := N) i
    have h2 : goods N m = goods N i := goods_stay (by omega) (by omega)
    omega
end Go.LimboNum
