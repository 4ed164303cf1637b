/- what an operation upon a state comes to: its numbers, as functions of what the state and the operation hold. -/
import Derived.KernelRfl
import Derived.Test.YtpgnpdejefpdbaaTab
import Derived.Test.YtpgnpdejefpdbaaE5
namespace Go.Proofs.Ytpgnpdejefpdbaa
open Go.Sx Go
set_option maxRecDepth 100000
noncomputable def bE (i : Int) : IE := .sel 1 (.lit i)
noncomputable def kE (j : Int) : IE := .bv (20 + j.toNat)
noncomputable def xE : IE := .var 9
noncomputable def eqE (e : IE) (z : Int) (x y : IE) : IE := .ite false e (.lit z) x y
noncomputable def plusE (a : Int) : IE := norm (.add (bE a) xE)
noncomputable def lessE (a : Int) : IE := norm (.sub (bE a) xE)
noncomputable def overE (b : Int) (x y : IE) : IE := .ite true (.lit 1048575) (plusE b) x y
noncomputable def shortE (a : Int) (x y : IE) : IE := .ite true (bE a) xE x y
noncomputable def pow2 (y : Int) : Int := .ofNat (2 ^ y.toNat)
noncomputable def anyK (d r : IE) : List Int → IE
 | [] => r
 | j :: l => eqE (kE j) 1 d (anyK d r l)
noncomputable def leastK : List Int → IE
 | [] => .lit 0
 | j :: l => eqE (kE j) 1 (.lit j) (leastK l)
noncomputable def bitsK (a b : Int) : List Int → Int → IE
 | [], acc => .lit acc
 | j :: l, acc => if a ≤ j ∧ j ≤ b then eqE (kE j) 1 (bitsK a b l (acc + pow2 j)) (bitsK a b l acc) else bitsK a b l acc
noncomputable def sumK : List Int → IE → IE
 | [], acc => acc
 | i :: r, acc => eqE (bE i) (-1) (sumK r acc) (sumK r (norm (.add acc (bE i))))
noncomputable def endM (k a b : Int) (r : Int → IE) (d : IE) : IE :=
 if k = 0 then eqE (bE a) (-1) d (r 1)
 else if k = 1 then eqE (bE a) (-1) (r 2) d
 else if k = 2 then eqE (bE a) (-1) (r 2) (overE a (r 4) d)
 else if k = 3 then eqE (bE a) (-1) (r 2) (shortE a (r 3) d)
 else if k = 4 then eqE (bE a) (-1) (r 2) (if a = b then shortE a (r 3) d else eqE (bE b) (-1) (r 2) (shortE a (r 3) (overE b (r 4) d)))
 else if k = 6 then eqE (kE a) 1 (r 1) d
 else if k = 7 then eqE (kE a) 1 d (r 2)
 else if k = 9 then anyK d (r 2) [0, 1, 2, 3, 4]
 else d
noncomputable def codeM (k a b : Int) : IE := endM k a b (fun z => .lit z) (.lit 0)
noncomputable def numM (k a b : Int) : IE := endM k a b (fun _ => .lit 0)
 (if k = 0 then xE else if k = 1 then bE a else if k = 2 then plusE a else if k = 3 then lessE a else if k = 4 then (if a = b then bE a else lessE a)
  else if k = 5 then sumK [0, 1, 2, 3] (.lit 0) else if k = 8 then kE a else if k = 9 then leastK [0, 1, 2, 3, 4] else if k = 10 then bitsK a b [0, 1, 2, 3, 4] 0 else .lit a)
noncomputable def balM (i k a b : Int) : IE :=
 if k ≤ 3 ∧ i = a then endM k a b (fun _ => bE i) (if k = 0 then xE else if k = 1 then .lit (-1) else if k = 2 then plusE a else lessE a)
 else if k = 4 ∧ a ≠ b ∧ i = a then endM k a b (fun _ => bE i) (lessE a)
 else if k = 4 ∧ a ≠ b ∧ i = b then endM k a b (fun _ => bE i) (plusE b)
 else bE i
noncomputable def keyM (j k a b : Int) : IE :=
 if k = 6 ∧ j = a then endM k a b (fun _ => kE j) (.lit 1) else if k = 7 ∧ j = a then endM k a b (fun _ => kE j) (.lit 0) else kE j
noncomputable def quant (i : Nat) (k a b : Int) : IE :=
 if i = 0 then codeM k a b else if i = 1 then numM k a b else if i ≤ 5 then balM ((i : Int) - 2) k a b else keyM ((i : Int) - 6) k a b
noncomputable def clampZ (z : Int) : Int := if lo64 ≤ z ∧ z ≤ hi64 then z else 0
noncomputable def Gz : Gf := fun _ _ => 0
noncomputable def envT (xs : List Int) : Env := { i := fun j => if j = 9 then xs.getD 12 0 else 0, b := fun j => decide (xs.getD (j - 16) 0 = 1), l := fun r => if r = 1 then xs else [], base := fun _ => 0, o := fun _ => 0, v := fun _ => .tuple #[], f := Gz }
noncomputable def mayZ (k a b x : Int) : Int :=
 if ((k = 0 ∨ k = 2 ∨ k = 3) ∧ 0 ≤ a ∧ a ≤ 3 ∧ b = 0 ∧ 0 ≤ x ∧ x ≤ 1048575) ∨ (k = 1 ∧ 0 ≤ a ∧ a ≤ 3 ∧ b = 0 ∧ x = 0) ∨ (k = 4 ∧ 0 ≤ a ∧ a ≤ 3 ∧ 0 ≤ b ∧ b ≤ 3 ∧ 0 ≤ x ∧ x ≤ 1048575) ∨ ((k = 5 ∨ k = 9) ∧ a = 0 ∧ b = 0 ∧ x = 0) ∨
  (k = 6 ∧ 0 ≤ a ∧ a ≤ 4 ∧ b = 0 ∧ 0 ≤ x ∧ x ≤ 1) ∨ ((k = 7 ∨ k = 8) ∧ 0 ≤ a ∧ a ≤ 4 ∧ b = 0 ∧ x = 0) ∨ (k = 10 ∧ 0 ≤ a ∧ a ≤ 4 ∧ 0 ≤ b ∧ b ≤ 4 ∧ x = 0) then 1 else 0
noncomputable def tellZ (i : Nat) (xs : List Int) : Int := ev (envT xs) (quant i (xs.getD 9 0) (xs.getD 10 0) (xs.getD 11 0))
noncomputable def G0 : Gf := fun f xs =>
 if 300 ≤ f ∧ f ≤ 305 then clampZ (tellZ (f - 300) xs)
 else if 306 ≤ f ∧ f ≤ 310 then (if tellZ (f - 300) xs = 1 then 1 else 0)
 else if f = 230 then mayZ (xs.getD 0 0) (xs.getD 1 0) (xs.getD 2 0) (xs.getD 3 0) else 0
theorem clampZ_in (z : Int) : in64 (clampZ z) := by
 unfold clampZ
 split
 ·assumption
 ·constructor <;> decide
theorem G0_in (f : Nat) (xs : List Int) : in64 (G0 f xs) := by
 unfold G0
 split
 ·exact clampZ_in _
 ·split
  ·split <;> (constructor <;> decide)
  ·split
   ·unfold mayZ; split <;> (constructor <;> decide)
   ·constructor <;> decide
noncomputable def combos : List (Int × Int × Int) :=
 [(0, 0, 0), (0, 1, 0), (0, 2, 0), (0, 3, 0), (1, 0, 0), (1, 1, 0), (1, 2, 0), (1, 3, 0), (2, 0, 0), (2, 1, 0), (2, 2, 0), (2, 3, 0), (3, 0, 0), (3, 1, 0), (3, 2, 0), (3, 3, 0),
  (4, 0, 0), (4, 0, 1), (4, 0, 2), (4, 0, 3), (4, 1, 0), (4, 1, 1), (4, 1, 2), (4, 1, 3), (4, 2, 0), (4, 2, 1), (4, 2, 2), (4, 2, 3), (4, 3, 0), (4, 3, 1), (4, 3, 2), (4, 3, 3), (5, 0, 0),
  (6, 0, 0), (6, 1, 0), (6, 2, 0), (6, 3, 0), (6, 4, 0), (7, 0, 0), (7, 1, 0), (7, 2, 0), (7, 3, 0), (7, 4, 0), (8, 0, 0), (8, 1, 0), (8, 2, 0), (8, 3, 0), (8, 4, 0), (9, 0, 0),
  (10, 0, 0), (10, 0, 1), (10, 0, 2), (10, 0, 3), (10, 0, 4), (10, 1, 0), (10, 1, 1), (10, 1, 2), (10, 1, 3), (10, 1, 4), (10, 2, 0), (10, 2, 1), (10, 2, 2), (10, 2, 3), (10, 2, 4),
  (10, 3, 0), (10, 3, 1), (10, 3, 2), (10, 3, 3), (10, 3, 4), (10, 4, 0), (10, 4, 1), (10, 4, 2), (10, 4, 3), (10, 4, 4)]
theorem in4 {a : Int} (h0 : 0 ≤ a) (h1 : a ≤ 3) : a = 0 ∨ a = 1 ∨ a = 2 ∨ a = 3 := by omega
theorem in5 {a : Int} (h0 : 0 ≤ a) (h1 : a ≤ 4) : a = 0 ∨ a = 1 ∨ a = 2 ∨ a = 3 ∨ a = 4 := by omega
theorem combo_mem {k a b x : Int} (h : mayZ k a b x = 1) : (k, a, b) ∈ combos := by
 unfold mayZ at h
 split at h
 case isFalse => cases h
 rename_i hc
 rcases hc with ⟨hk, a0, a1, rfl, _, _⟩ | ⟨rfl, a0, a1, rfl, _⟩ | ⟨rfl, a0, a1, b0, b1, _, _⟩ | ⟨hk, rfl, rfl, _⟩ | ⟨rfl, a0, a1, rfl, _, _⟩ | ⟨hk, a0, a1, rfl, _⟩ | ⟨rfl, a0, a1, b0, b1, _⟩
 ·rcases hk with rfl | rfl | rfl <;> rcases in4 a0 a1 with rfl | rfl | rfl | rfl <;> decide
 ·rcases in4 a0 a1 with rfl | rfl | rfl | rfl <;> decide
 ·rcases in4 a0 a1 with rfl | rfl | rfl | rfl <;> rcases in4 b0 b1 with rfl | rfl | rfl | rfl <;> decide
 ·rcases hk with rfl | rfl <;> decide
 ·rcases in5 a0 a1 with rfl | rfl | rfl | rfl | rfl <;> decide
 ·rcases hk with rfl | rfl <;> rcases in5 a0 a1 with rfl | rfl | rfl | rfl | rfl <;> decide
 ·rcases in5 a0 a1 with rfl | rfl | rfl | rfl | rfl <;> rcases in5 b0 b1 with rfl | rfl | rfl | rfl | rfl <;> decide
noncomputable def limX (k : Int) : Int := if k = 0 ∨ k = 2 ∨ k = 3 ∨ k = 4 then 1048575 else if k = 6 then 1 else 0
theorem may_x {k a b x : Int} (h : mayZ k a b x = 1) : 0 ≤ x ∧ x ≤ limX k := by
 unfold mayZ at h
 split at h
 case isFalse => cases h
 rename_i hc
 unfold limX
 rcases hc with ⟨hk, a0, a1, rfl, _, _⟩ | ⟨rfl, a0, a1, rfl, _⟩ | ⟨rfl, a0, a1, b0, b1, _, _⟩ | ⟨hk, rfl, rfl, _⟩ | ⟨rfl, a0, a1, rfl, _, _⟩ | ⟨hk, a0, a1, rfl, _⟩ | ⟨rfl, a0, a1, b0, b1, _⟩
 ·rw [if_pos (by omega)]; omega
 ·rw [if_neg (by omega), if_neg (by omega)]; omega
 ·rw [if_pos (by omega)]; omega
 ·rw [if_neg (by omega), if_neg (by omega)]; omega
 ·rw [if_neg (by omega), if_pos (by omega)]; omega
 ·rw [if_neg (by omega), if_neg (by omega)]; omega
 ·rw [if_neg (by omega), if_neg (by omega)]; omega
end Go.Proofs.Ytpgnpdejefpdbaa
