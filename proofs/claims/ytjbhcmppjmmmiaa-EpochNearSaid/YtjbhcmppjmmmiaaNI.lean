/- The epoch is near each region: numbers alone, each step. -/
import Derived.Test.YtjbhcmppjmmmiaaF
namespace Go.EpochInv
theorem near_enter {o n : List Int} {t : Nat} (h : Near o) (hX : n.getD 0 0 = o.getD 0 0)
  (hoth : ∀ j, j < 3 → j ≠ t → n.getD (1 + j) 0 = o.getD (1 + j) 0 ∧ n.getD (4 + j) 0 = o.getD (4 + j) 0 ∧ n.getD (7 + j) 0 = o.getD (7 + j) 0 ∧ n.getD (10 + j) 0 = o.getD (10 + j) 0)
  (hab : ∀ i, i < 3 → n.getD (13 + i) 0 = o.getD (13 + i) 0 ∧ n.getD (16 + i) 0 = o.getD (16 + i) 0)
  (hs : (n.getD (4 + t) 0 = -1 ∧ n.getD (7 + t) 0 = 0) ∨ (n.getD (4 + t) 0 = -1 ∧ n.getD (7 + t) 0 = 1 ∧ n.getD (10 + t) 0 = o.getD 0 0) ∨
   (n.getD (4 + t) 0 = o.getD (4 + t) 0 ∧ o.getD (7 + t) 0 = 1 ∧ n.getD (7 + t) 0 = 2 ∧ n.getD (10 + t) 0 = o.getD (10 + t) 0 ∧ n.getD (1 + t) 0 = n.getD (10 + t) 0 + 1) ∨
   (o.getD (7 + t) 0 = 2 ∧ n.getD (7 + t) 0 = 0 ∧ n.getD (4 + t) 0 = o.getD (10 + t) 0 ∧ o.getD (10 + t) 0 = o.getD 0 0 ∧ n.getD (1 + t) 0 = o.getD (1 + t) 0)) : Near n := by
 obtain ⟨h0, hj⟩ := h
 refine ⟨by rw [hX]; exact h0, fun j hj3 => ?_⟩
 obtain ⟨ga, gd⟩ := hj j hj3
 by_cases hjt : j = t
 ·subst hjt
  refine ⟨?_, fun i hi => ?_⟩
  ·unfold GA at ga ⊢
   rw [hX]
   omega
  ·have g := gd i hi
   obtain ⟨e1, e2⟩ := hab i hi
   unfold GA at ga
   unfold GD at g ⊢
   rw [hX, e1, e2]
   omega
 ·obtain ⟨e1, e2, e3, e4⟩ := hoth j hj3 hjt
  refine ⟨by rw [hX, e1, e2, e3, e4]; exact ga, fun i hi => ?_⟩
  obtain ⟨f1, f2⟩ := hab i hi
  rw [hX, e2, f1, f2]
  exact gd i hi
theorem near_adv {o n : List Int} {k : Nat} (hk : k < 3) (h : Near o)
  (hoth : ∀ j, j < 3 → n.getD (1 + j) 0 = o.getD (1 + j) 0 ∧ n.getD (4 + j) 0 = o.getD (4 + j) 0 ∧ n.getD (7 + j) 0 = o.getD (7 + j) 0 ∧ n.getD (10 + j) 0 = o.getD (10 + j) 0)
  (hab : ∀ i, i < 3 → i ≠ k → n.getD (13 + i) 0 = o.getD (13 + i) 0 ∧ n.getD (16 + i) 0 = o.getD (16 + i) 0)
  (hs : (n.getD 0 0 = o.getD 0 0 ∧ (n.getD (13 + k) 0 = 0 ∨ (n.getD (13 + k) 0 = 1 ∧ n.getD (16 + k) 0 = o.getD 0 0) ∨
    (n.getD (16 + k) 0 = o.getD (16 + k) 0 ∧ ∃ p : Nat, p < 3 ∧ o.getD (13 + k) 0 = p + 1 ∧ n.getD (13 + k) 0 = p + 2 ∧ (o.getD (1 + p) 0 = 0 ∨ o.getD (1 + p) 0 = o.getD (16 + k) 0 + 1)))) ∨
   (n.getD 0 0 = o.getD 0 0 + 1 ∧ o.getD (13 + k) 0 = 4 ∧ o.getD (16 + k) 0 = o.getD 0 0 ∧ n.getD (13 + k) 0 = 0)) : Near n := by
 obtain ⟨h0, hj⟩ := h
 refine ⟨by omega, fun j hj3 => ?_⟩
 obtain ⟨ga, gd⟩ := hj j hj3
 obtain ⟨e1, e2, e3, e4⟩ := hoth j hj3
 rw [e1, e2, e3, e4]
 have gk := gd k hk
 rcases hs with ⟨hX, hs⟩ | ⟨hX, s1, s2, s3⟩
 ·rw [hX]
  refine ⟨ga, fun i hi => ?_⟩
  by_cases hik : i = k
  ·subst hik
   rcases hs with hs | hs | ⟨hs, p, hp, p1, p2, p3⟩
   ·exact .inl hs
   ·unfold GD
    omega
   ·unfold GA at ga
    unfold GD at gk ⊢
    rw [hs]
    by_cases hpj : p = j
    ·subst hpj
     omega
    ·omega
  ·obtain ⟨f1, f2⟩ := hab i hi hik
   rw [f1, f2]
   exact gd i hi
 ·refine ⟨?_, fun i hi => ?_⟩
  ·unfold GA at ga ⊢
   unfold GD at gk
   omega
  ·by_cases hik : i = k
   ·subst hik
    exact .inl s3
   ·obtain ⟨f1, f2⟩ := hab i hi hik
    have g := gd i hi
    unfold GD at g ⊢
    rw [f1, f2]
    omega
end Go.EpochInv
