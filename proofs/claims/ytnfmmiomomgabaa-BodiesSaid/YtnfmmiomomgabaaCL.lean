/- which operations there are. -/
import Derived.Test.YtnfmmiomomgabaaCa
import Derived.Test.YtnfmmiomomgabaaCb
namespace Go.Proofs.Ytnfmmiomomgabaa
open Go.Sx Go
set_option maxRecDepth 100000
theorem may_cases {k a b x : Int} (h : mayZ k a b x = 1) : ((k = 0 ∨ k = 2 ∨ k = 3) ∧ 0 ≤ a ∧ a ≤ 3 ∧ b = 0 ∧ 0 ≤ x ∧ x ≤ 1048575) ∨ (k = 1 ∧ 0 ≤ a ∧ a ≤ 3 ∧ b = 0 ∧ x = 0) ∨ (k = 4 ∧ 0 ≤ a ∧ a ≤ 3 ∧ 0 ≤ b ∧ b ≤ 3 ∧ 0 ≤ x ∧ x ≤ 1048575) ∨ ((k = 5 ∨ k = 9) ∧ a = 0 ∧ b = 0 ∧ x = 0) ∨
  (k = 6 ∧ 0 ≤ a ∧ a ≤ 4 ∧ b = 0 ∧ 0 ≤ x ∧ x ≤ 1) ∨ ((k = 7 ∨ k = 8) ∧ 0 ≤ a ∧ a ≤ 4 ∧ b = 0 ∧ x = 0) ∨ (k = 10 ∧ 0 ≤ a ∧ a ≤ 4 ∧ 0 ≤ b ∧ b ≤ 4 ∧ x = 0) := by
 unfold mayZ at h
 split at h
 ·assumption
 ·cases h
theorem may_S {k a b x : Int} (h : mayZ k a b x = 1) (hk : 6 ≤ k) : (k = 6 ∧ (a = 0 ∨ a = 1 ∨ a = 2 ∨ a = 3 ∨ a = 4) ∧ b = 0 ∧ (x = 0 ∨ x = 1)) ∨ (k = 7 ∧ (a = 0 ∨ a = 1 ∨ a = 2 ∨ a = 3 ∨ a = 4) ∧ b = 0 ∧ x = 0) ∨ (k = 8 ∧ (a = 0 ∨ a = 1 ∨ a = 2 ∨ a = 3 ∨ a = 4) ∧ b = 0 ∧ x = 0) ∨ (k = 9 ∧ a = 0 ∧ b = 0 ∧ x = 0) ∨ (k = 10 ∧ (a = 0 ∨ a = 1 ∨ a = 2 ∨ a = 3 ∨ a = 4) ∧ (b = 0 ∨ b = 1 ∨ b = 2 ∨ b = 3 ∨ b = 4) ∧ x = 0) := by
 have hd := may_cases h
 rcases hd with ⟨_, _⟩ | ⟨_, _⟩ | ⟨_, _⟩ | ⟨h1 | h1, h2, h3, h4⟩ | ⟨h1, h2, h3, h4, h5, h6⟩ | ⟨h1 | h1, h2, h3, h4, h5⟩ | ⟨h1, h2, h3, h4, h5, h6⟩
 ·omega
 ·omega
 ·omega
 ·omega
 ·exact .inr (.inr (.inr (.inl ⟨h1, h2, h3, h4⟩)))
 ·exact .inl ⟨h1, by omega, h4, by omega⟩
 ·exact .inr (.inl ⟨h1, by omega, h4, h5⟩)
 ·exact .inr (.inr (.inl ⟨h1, by omega, h4, h5⟩))
 ·exact .inr (.inr (.inr (.inr ⟨h1, by omega, by omega, h6⟩)))
theorem may_B {k a b x : Int} (h : mayZ k a b x = 1) (hk : k ≤ 5) : ((k = 0 ∨ k = 2 ∨ k = 3) ∧ (a = 0 ∨ a = 1 ∨ a = 2 ∨ a = 3) ∧ b = 0) ∨ (k = 1 ∧ (a = 0 ∨ a = 1 ∨ a = 2 ∨ a = 3) ∧ b = 0 ∧ x = 0) ∨ (k = 4 ∧ (a = 0 ∨ a = 1 ∨ a = 2 ∨ a = 3) ∧ (b = 0 ∨ b = 1 ∨ b = 2 ∨ b = 3)) ∨ (k = 5 ∧ a = 0 ∧ b = 0 ∧ x = 0) := by
 have hd := may_cases h
 rcases hd with ⟨h1, h2, h3, h4, _⟩ | ⟨h1, h2, h3, h4, h5⟩ | ⟨h1, h2, h3, h4, h5, _⟩ | ⟨h1 | h1, h2, h3, h4⟩ | ⟨h1, _⟩ | ⟨h1 | h1, _⟩ | ⟨h1, _⟩
 ·exact .inl ⟨h1, by omega, h4⟩
 ·exact .inr (.inl ⟨h1, by omega, h4, h5⟩)
 ·exact .inr (.inr (.inl ⟨h1, by omega, by omega⟩))
 ·exact .inr (.inr (.inr ⟨h1, h2, h3, h4⟩))
 all_goals omega
end Go.Proofs.Ytnfmmiomomgabaa
