/- words of values; what the unknown functions stand for. -/
namespace Go.EpochInv
def maxValue : Int := 1099511627775
def isV (x : Int) : Bool := decide (0 ≤ x ∧ x % 4 = 0 ∧ x / 4 ≤ maxValue)
def numOf (x : Int) : Int := if isV x then x / 4 else 0
theorem numOf_in (x : Int) : 0 ≤ numOf x ∧ numOf x ≤ maxValue := by
  unfold numOf
  cases h : isV x with
  | false => rw [if_neg Bool.false_ne_true]; unfold maxValue; omega
  | true =>
    rw [if_pos rfl]
    unfold isV at h
    have := of_decide_eq_true h
    omega

/-- a thread: the epoch, what it says, the region that it is in (-1: none), its enter (0: none, 1: it says next, 2: it looks next) and that one's epoch -/
def GA (X S n m e : Int) : Prop := (n = -1 ∨ (0 ≤ n ∧ S = n + 1 ∧ (X = n ∨ X = n + 1) ∧ m = 0)) ∧ (m = 0 ∨ m = 1 ∨ m = 2) ∧ (m ≠ 0 → 0 ≤ e ∧ e ≤ X) ∧ (m = 2 → S = e + 1)
/-- an advance (0: none, else how many accesses it made) beside a thread -/
def GD (j : Nat) (X n a b : Int) : Prop := a = 0 ∨ (1 ≤ a ∧ a ≤ 4 ∧ 0 ≤ b ∧ b ≤ X ∧ (b = X → (j : Int) + 2 ≤ a → n = -1 ∨ n = X))
/-- the epoch is near each region: three threads, three advances -/
def Near (xs : List Int) : Prop := 0 ≤ xs.getD 0 0 ∧ ∀ j < 3, GA (xs.getD 0 0) (xs.getD (1 + j) 0) (xs.getD (4 + j) 0) (xs.getD (7 + j) 0) (xs.getD (10 + j) 0) ∧ ∀ i < 3, GD j (xs.getD 0 0) (xs.getD (4 + j) 0) (xs.getD (13 + i) 0) (xs.getD (16 + i) 0)
noncomputable def fz (f : Nat) (xs : List Int) : Int :=
  if f = 715 then (if isV (xs.headD 0) then 1 else 0)
  else if f = 716 then numOf (xs.headD 0)
  else if f = 760 then @ite Int (Near xs) (Classical.propDecidable _) 1 0
  else 0
end Go.EpochInv
