/- words of values, descriptors, the entries of a view: what the unknown functions stand for. -/
namespace Go.DescNum
def maxValue : Int := 1099511627775
def isV (x : Int) : Bool := decide (0 ≤ x ∧ x % 4 = 0 ∧ x / 4 ≤ maxValue)
def numOf (x : Int) : Int := if isV x then x / 4 else 0
theorem numOf_in (x : Int) : 0 ≤ numOf x ∧ numOf x ≤ maxValue := by
  unfold numOf
  cases h : isV x with
  | false => rw [if_neg Bool.false_ne_true]; unfold maxValue; omega
  | true =>
    rw [if_pos rfl]
    unfold isV at h
    have := of_decide_eq_true h
    omega
/- a view: sixteen flags, what was, what is to be -/
def known (V : List Int) (i : Nat) : Bool := decide (V.getD i 0 ≠ 0)
def wasV (V : List Int) (i : Nat) : Int := V.getD (16 + i) 0
def nowV (V : List Int) (i : Nat) : Int := V.getD (32 + i) 0
def knowns (V : List Int) (n : Nat) : List Nat := (List.range n).filter (known V)
def cnt (V : List Int) (n : Nat) : Nat := (knowns V n).length
def entsL (V : List Int) (l : List Nat) : List Int := l.flatMap fun (i : Nat) => [(i : Int), wasV V i, nowV V i]
theorem knowns_succ {V : List Int} {n : Nat} : knowns V (n + 1) = knowns V n ++ (if known V n = true then [n] else []) := by
  unfold knowns
  rw [List.range_succ, List.filter_append]
  cases h : known V n <;> simp [h]
theorem cnt_succ {V : List Int} {n : Nat} : cnt V (n + 1) = cnt V n + (if known V n = true then 1 else 0) := by
  unfold cnt
  rw [knowns_succ, List.length_append]
  split <;> rfl
theorem cnt_le {V : List Int} : ∀ n, cnt V n ≤ n
  | 0 => Nat.le_refl _
  | n + 1 => by
    have := cnt_le (V := V) n
    rw [cnt_succ]
    split <;> omega
theorem cnt_mono {V : List Int} {n m : Nat} (h : n ≤ m) : cnt V n ≤ cnt V m := by
  induction m with
  | zero => rw [show n = 0 by omega]; exact Nat.le_refl _
  | succ m ih =>
    by_cases hn : n ≤ m
    · have := ih hn
      rw [cnt_succ]
      omega
    · rw [show n = m + 1 by omega]
      exact Nat.le_refl _
theorem knowns_pre {V : List Int} {n m : Nat} (h : n ≤ m) : ∃ l, knowns V m = knowns V n ++ l := by
  induction m with
  | zero => exact ⟨[], by rw [show n = 0 by omega]; simp⟩
  | succ m ih =>
    by_cases hn : n ≤ m
    · obtain ⟨l, hl⟩ := ih hn
      exact ⟨l ++ _, by rw [knowns_succ, hl, List.append_assoc]⟩
    · exact ⟨[], by rw [show n = m + 1 by omega]; simp⟩
theorem entsL_len {V : List Int} (l : List Nat) : (entsL V l).length = 3 * l.length := by
  induction l with
  | nil => rfl
  | cons x r ih =>
    show ([(x : Int), wasV V x, nowV V x] ++ entsL V r).length = _
    rw [List.length_append, ih]
    simp; omega
theorem entsL_app {V : List Int} (a b : List Nat) : entsL V (a ++ b) = entsL V a ++ entsL V b := by
  unfold entsL
  rw [List.flatMap_append]
/-- the next one that is known stands where it is told -/
theorem ents_at {V : List Int} {i m : Nat} (h : i < m) (hk : known V i = true) : (entsL V (knowns V m)).getD (3 * cnt V i) 0 = i ∧ (entsL V (knowns V m)).getD (3 * cnt V i + 1) 0 = wasV V i ∧ (entsL V (knowns V m)).getD (3 * cnt V i + 2) 0 = nowV V i := by
  obtain ⟨l, hl⟩ := knowns_pre (V := V) (n := i + 1) (m := m) h
  have e : entsL V [i] = [(i : Int), wasV V i, nowV V i] := rfl
  have hlen : (entsL V (knowns V i)).length = 3 * cnt V i := entsL_len _
  rw [hl, knowns_succ, if_pos hk, entsL_app, entsL_app, e, List.append_assoc, ← hlen]
  refine ⟨?_, ?_, ?_⟩
  · rw [List.getD_eq_getElem?_getD, List.getElem?_append_right (Nat.le_refl _), Nat.sub_self]; rfl
  · rw [List.getD_eq_getElem?_getD, List.getElem?_append_right (by omega), Nat.add_sub_cancel_left]; rfl
  · rw [List.getD_eq_getElem?_getD, List.getElem?_append_right (by omega), Nat.add_sub_cancel_left]; rfl
/- fifty words: a descriptor? -/
def valN (w : List Int) (j : Nat) : Int := numOf (w.getD j 0)
def isN (w : List Int) (j : Nat) : Bool := isV (w.getD j 0)
/-- may the first so many entries be -/
def entOK (w : List Int) : Nat → Bool
  | 0 => true
  | n + 1 => entOK w n && (isN w (2 + 3 * n) && (isN w (3 + 3 * n) && (isN w (4 + 3 * n) && (decide (valN w (2 + 3 * n) ≤ 15) && (decide (n = 0) || decide (valN w (3 * n - 1) < valN w (2 + 3 * n)))))))
/-- may a first word be -/
def hdOK (x : Int) : Bool := isV x && decide (numOf x / 4 ≤ 65535 ∧ numOf x % 4 ≤ 2)
def descOK (w : List Int) : Bool := isN w 0 && (isN w 1 && (decide (valN w 0 % 4 ≤ 2) && (decide (valN w 0 / 4 ≤ 65535) && (decide (valN w 1 ≤ 16) && entOK w (valN w 1).toNat))))
theorem descOK_hd {w : List Int} (h : descOK w = true) : hdOK (w.getD 0 0) = true := by
  unfold descOK at h
  simp only [Bool.and_eq_true, decide_eq_true_eq] at h
  obtain ⟨d1, _, d3, d4, _⟩ := h
  unfold isN at d1
  unfold valN at d3 d4
  unfold hdOK
  rw [d1]
  exact decide_eq_true ⟨d4, d3⟩
/- numbers of entries, three each: may they be -/
def swOK (w : List Int) : Nat → Bool
  | 0 => true
  | n + 1 => swOK w n && (decide (0 ≤ w.getD (3 * n) 0 ∧ w.getD (3 * n) 0 ≤ 15) && (decide (0 ≤ w.getD (3 * n + 1) 0 ∧ w.getD (3 * n + 1) 0 ≤ maxValue) && (decide (0 ≤ w.getD (3 * n + 2) 0 ∧ w.getD (3 * n + 2) 0 ≤ maxValue) && (decide (n = 0) || decide (w.getD (3 * n - 3) 0 < w.getD (3 * n) 0)))))
theorem swOK_at {w : List Int} : ∀ {n : Nat}, swOK w n = true → ∀ i, i < n → (0 ≤ w.getD (3 * i) 0 ∧ w.getD (3 * i) 0 ≤ 15) ∧ (0 ≤ w.getD (3 * i + 1) 0 ∧ w.getD (3 * i + 1) 0 ≤ maxValue) ∧ (0 ≤ w.getD (3 * i + 2) 0 ∧ w.getD (3 * i + 2) 0 ≤ maxValue) ∧ (i = 0 ∨ w.getD (3 * i - 3) 0 < w.getD (3 * i) 0)
  | 0, _, i, hi => absurd hi (Nat.not_lt_zero _)
  | n + 1, h, i, hi => by
    unfold swOK at h
    simp only [Bool.and_eq_true, Bool.or_eq_true, decide_eq_true_eq] at h
    obtain ⟨h1, h2, h3, h4, h5⟩ := h
    rcases Nat.lt_or_ge i n with g | g
    · exact swOK_at h1 i g
    · obtain rfl : i = n := by omega
      exact ⟨h2, h3, h4, h5⟩
def wasL (V : List Int) : List Int := (List.range 16).map (wasV V)
def nowL (V : List Int) : List Int := (List.range 16).map (nowV V)
def rowFn (l : List Int) : List Int → Int
  | [] => l.length
  | j :: _ => l.getD j.toNat 0
def fz (V : List Int) (f : Nat) (xs : List Int) : Int :=
  if f = 715 then (if isV (xs.headD 0) then 1 else 0)
  else if f = 716 then numOf (xs.headD 0)
  else if f = 820 then (if descOK xs then 1 else 0)
  else if f = 821 then (if hdOK (xs.headD 0) then 1 else 0)
  else if f = 830 then (if swOK xs (xs.length / 3) then 1 else 0)
  else if f = 1000003 then rowFn (entsL V (knowns V 16)) xs
  else if f = 1000004 then rowFn (wasL V) xs
  else if f = 1000005 then rowFn (nowL V) xs
  else if f = 1101 then cnt V (xs.headD 0).toNat
  else if f = 1106 then cnt V 16
  else if f = 1110 then (if known V (xs.headD 0).toNat then 1 else 0)
  else 0
end Go.DescNum
