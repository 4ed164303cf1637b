/- what an operation upon a state comes to: its numbers, as functions of what the state and the operation hold. -/
import Derived.KernelRfl
import Derived.Test.YtojpmbkbeoolcaaTab
import Derived.Test.YtojpmbkbeoolcaaE5
namespace Go.Proofs.Ytojpmbkbeoolcaa
open Go.Sx Go
set_option maxRecDepth 100000
noncomputable def bE (i : Int) : IE := .sel 1 (.lit i)
noncomputable def kE (j : Int) : IE := .bv (20 + j.toNat)
noncomputable def xE : IE := .var 9
noncomputable def eqE (e : IE) (z : Int) (x y : IE) : IE := .ite false e (.lit z) x y
section
variable (bl : Int → IE)
noncomputable def plusE (a : Int) : IE := norm (.add (bl a) xE)
noncomputable def lessE (a : Int) : IE := norm (.sub (bl a) xE)
noncomputable def overE (b : Int) (x y : IE) : IE := .ite true (.lit 1048575) (plusE bl b) x y
noncomputable def shortE (a : Int) (x y : IE) : IE := .ite true (bl a) xE x y
noncomputable def pow2 (y : Int) : Int := .ofNat (2 ^ y.toNat)
noncomputable def anyK (d r : IE) : List Int → IE
 | [] => r
 | j :: l => eqE (kE j) 1 d (anyK d r l)
noncomputable def leastK : List Int → IE
 | [] => .lit 0
 | j :: l => eqE (kE j) 1 (.lit j) (leastK l)
noncomputable def bitsK (a b : Int) : List Int → Int → IE
 | [], acc => .lit acc
 | j :: l, acc => if a ≤ j ∧ j ≤ b then eqE (kE j) 1 (bitsK a b l (acc + pow2 j)) (bitsK a b l acc) else bitsK a b l acc
noncomputable def sumK : List Int → IE → IE
 | [], acc => acc
 | i :: r, acc => eqE (bl i) (-1) (sumK r acc) (sumK r (norm (.add acc (bl i))))
noncomputable def endM (k a b : Int) (r : Int → IE) (d : IE) : IE :=
 if k = 0 then eqE (bl a) (-1) d (r 1)
 else if k = 1 then eqE (bl a) (-1) (r 2) d
 else if k = 2 then eqE (bl a) (-1) (r 2) (overE bl a (r 4) d)
 else if k = 3 then eqE (bl a) (-1) (r 2) (shortE bl a (r 3) d)
 else if k = 4 then eqE (bl a) (-1) (r 2) (if a = b then shortE bl a (r 3) d else eqE (bl b) (-1) (r 2) (shortE bl a (r 3) (overE bl b (r 4) d)))
 else if k = 6 then eqE (kE a) 1 (r 1) d
 else if k = 7 then eqE (kE a) 1 d (r 2)
 else if k = 9 then anyK d (r 2) [0, 1, 2, 3, 4]
 else d
noncomputable def codeM (k a b : Int) : IE := endM bl k a b (fun z => .lit z) (.lit 0)
noncomputable def numM (k a b : Int) : IE := endM bl k a b (fun _ => .lit 0)
 (if k = 0 then xE else if k = 1 then bl a else if k = 2 then plusE bl a else if k = 3 then lessE bl a else if k = 4 then (if a = b then bl a else lessE bl a)
  else if k = 5 then sumK bl [0, 1, 2, 3] (.lit 0) else if k = 8 then kE a else if k = 9 then leastK [0, 1, 2, 3, 4] else if k = 10 then bitsK a b [0, 1, 2, 3, 4] 0 else .lit a)
noncomputable def balM (i k a b : Int) : IE :=
 if k ≤ 3 ∧ i = a then endM bl k a b (fun _ => bl i) (if k = 0 then xE else if k = 1 then .lit (-1) else if k = 2 then plusE bl a else lessE bl a)
 else if k = 4 ∧ a ≠ b ∧ i = a then endM bl k a b (fun _ => bl i) (lessE bl a)
 else if k = 4 ∧ a ≠ b ∧ i = b then endM bl k a b (fun _ => bl i) (plusE bl b)
 else bl i
noncomputable def keyM (j k a b : Int) : IE :=
 if k = 6 ∧ j = a then endM bl k a b (fun _ => kE j) (.lit 1) else if k = 7 ∧ j = a then endM bl k a b (fun _ => kE j) (.lit 0) else kE j
noncomputable def quantG (i : Nat) (k a b : Int) : IE :=
 if i = 0 then codeM bl k a b else if i = 1 then numM bl k a b else if i ≤ 5 then balM bl ((i : Int) - 2) k a b else keyM bl ((i : Int) - 6) k a b
end
noncomputable def quant (i : Nat) (k a b : Int) : IE := quantG bE i k a b
section
variable (B K : Int → Int) (x : Int)
noncomputable def anyZ (d r : Int) : List Int → Int
 | [] => r
 | j :: l => if K j = 1 then d else anyZ d r l
noncomputable def leastZ : List Int → Int
 | [] => 0
 | j :: l => if K j = 1 then j else leastZ l
noncomputable def bitsZ (a b : Int) : List Int → Int → Int
 | [], acc => acc
 | j :: l, acc => if a ≤ j ∧ j ≤ b then (if K j = 1 then bitsZ a b l (acc + pow2 j) else bitsZ a b l acc) else bitsZ a b l acc
noncomputable def sumZZ : List Int → Int → Int
 | [], acc => acc
 | i :: r, acc => if B i = -1 then sumZZ r acc else sumZZ r (acc + B i)
noncomputable def endZ (k a b : Int) (r : Int → Int) (d : Int) : Int :=
 if k = 0 then (if B a = -1 then d else r 1)
 else if k = 1 then (if B a = -1 then r 2 else d)
 else if k = 2 then (if B a = -1 then r 2 else if 1048575 < B a + x then r 4 else d)
 else if k = 3 then (if B a = -1 then r 2 else if B a < x then r 3 else d)
 else if k = 4 then (if B a = -1 then r 2 else if a = b then (if B a < x then r 3 else d) else if B b = -1 then r 2 else if B a < x then r 3 else if 1048575 < B b + x then r 4 else d)
 else if k = 6 then (if K a = 1 then r 1 else d)
 else if k = 7 then (if K a = 1 then d else r 2)
 else if k = 9 then anyZ K d (r 2) [0, 1, 2, 3, 4]
 else d
noncomputable def numZ (k a b : Int) : Int := endZ B K x k a b (fun _ => 0)
 (if k = 0 then x else if k = 1 then B a else if k = 2 then B a + x else if k = 3 then B a - x else if k = 4 then (if a = b then B a else B a - x)
  else if k = 5 then sumZZ B [0, 1, 2, 3] 0 else if k = 8 then K a else if k = 9 then leastZ K [0, 1, 2, 3, 4] else if k = 10 then bitsZ K a b [0, 1, 2, 3, 4] 0 else a)
noncomputable def balZ (i k a b : Int) : Int :=
 if k ≤ 3 ∧ i = a then endZ B K x k a b (fun _ => B i) (if k = 0 then x else if k = 1 then -1 else if k = 2 then B a + x else B a - x)
 else if k = 4 ∧ a ≠ b ∧ i = a then endZ B K x k a b (fun _ => B i) (B a - x)
 else if k = 4 ∧ a ≠ b ∧ i = b then endZ B K x k a b (fun _ => B i) (B b + x)
 else B i
noncomputable def keyZ (j k a b : Int) : Int :=
 if k = 6 ∧ j = a then endZ B K x k a b (fun _ => K j) 1 else if k = 7 ∧ j = a then endZ B K x k a b (fun _ => K j) 0 else K j
noncomputable def quantZ (i : Nat) (k a b : Int) : Int :=
 if i = 0 then endZ B K x k a b (fun z => z) 0 else if i = 1 then numZ B K x k a b else if i ≤ 5 then balZ B K x ((i : Int) - 2) k a b else keyZ B K x ((i : Int) - 6) k a b
end
section
variable {E : Env} {bl : Int → IE}
theorem ev_eqE (e : IE) (z : Int) (x y : IE) : ev E (eqE e z x y) = if ev E e = z then ev E x else ev E y := by
 unfold eqE
 rw [ev_ite, ev_lit]
 simp only [Bool.false_eq_true, if_false, decide_eq_true_eq]
theorem ev_lt (p q x y : IE) : ev E (.ite true p q x y) = if ev E p < ev E q then ev E x else ev E y := by
 rw [ev_ite]
 simp only [if_true, decide_eq_true_eq]
noncomputable abbrev BZ (E : Env) (bl : Int → IE) : Int → Int := fun i => ev E (bl i)
noncomputable abbrev KZ (E : Env) : Int → Int := fun j => ev E (kE j)
theorem ev_plus (a : Int) : ev E (plusE bl a) = ev E (bl a) + E.i 9 := by unfold plusE; rw [norm_ok, ev_add]; rfl
theorem ev_less (a : Int) : ev E (lessE bl a) = ev E (bl a) - E.i 9 := by unfold lessE; rw [norm_ok, ev_sub]; rfl
theorem ev_over (b : Int) (x y : IE) : ev E (overE bl b x y) = if 1048575 < ev E (bl b) + E.i 9 then ev E x else ev E y := by unfold overE; rw [ev_lt, ev_plus]; rfl
theorem ev_short (a : Int) (x y : IE) : ev E (shortE bl a x y) = if ev E (bl a) < E.i 9 then ev E x else ev E y := by unfold shortE; rw [ev_lt]; rfl
theorem ev_any (d r : IE) : ∀ l, ev E (anyK d r l) = anyZ (KZ E) (ev E d) (ev E r) l
 | [] => rfl
 | j :: l => by unfold anyK anyZ; rw [ev_eqE, ev_any d r l]
theorem ev_least : ∀ l, ev E (leastK l) = leastZ (KZ E) l
 | [] => rfl
 | j :: l => by unfold leastK leastZ; rw [ev_eqE, ev_least l]; rfl
theorem ev_bits (a b : Int) : ∀ l acc, ev E (bitsK a b l acc) = bitsZ (KZ E) a b l acc
 | [], _ => rfl
 | j :: l, acc => by
  unfold bitsK bitsZ
  split
  ·rw [ev_eqE, ev_bits a b l, ev_bits a b l]
  ·exact ev_bits a b l acc
theorem ev_sum : ∀ l acc, ev E (sumK bl l acc) = sumZZ (BZ E bl) l (ev E acc)
 | [], _ => rfl
 | j :: l, acc => by unfold sumK sumZZ; rw [ev_eqE, ev_sum l, ev_sum l, norm_ok, ev_add]
theorem ev_end {k a b : Int} {r : Int → IE} {d : IE} : ev E (endM bl k a b r d) = endZ (BZ E bl) (KZ E) (E.i 9) k a b (fun z => ev E (r z)) (ev E d) := by
 unfold endM endZ
 simp only [apply_ite (ev E), ev_eqE, ev_over, ev_short, ev_any]
theorem ev_num {k a b : Int} : ev E (numM bl k a b) = numZ (BZ E bl) (KZ E) (E.i 9) k a b := by
 unfold numM numZ
 rw [ev_end]
 simp only [apply_ite (ev E), ev_plus, ev_less, ev_sum, ev_least, ev_bits, ev_lit]
 rfl
theorem ev_bal {i k a b : Int} : ev E (balM bl i k a b) = balZ (BZ E bl) (KZ E) (E.i 9) i k a b := by
 unfold balM balZ
 simp only [apply_ite (ev E), ev_end, ev_plus, ev_less, ev_lit]
 rfl
theorem ev_key {j k a b : Int} : ev E (keyM bl j k a b) = keyZ (BZ E bl) (KZ E) (E.i 9) j k a b := by
 unfold keyM keyZ
 simp only [apply_ite (ev E), ev_end, ev_lit]
theorem ev_quant {i : Nat} {k a b : Int} : ev E (quantG bl i k a b) = quantZ (BZ E bl) (KZ E) (E.i 9) i k a b := by
 unfold quantG quantZ codeM
 simp only [apply_ite (ev E), ev_end, ev_num, ev_bal, ev_key, ev_lit]
end
noncomputable def nextZ (n a : Int) : Int := if n ≤ a ∧ a ≤ 4 then a else 5
noncomputable def inRow (xs : List Int) (lv x : Int) : Bool := zEq x (-1) || (zEq (xs.getD x.toNat 0) 1 && (zEq lv 0 || zEq (xs.getD (5 + x.toNat) 0) 1))
noncomputable def nextK (xs : List Int) (lv : Int) : Nat → Int → Int
 | 0, _ => 0
 | n + 1, y => if inRow xs lv y then y + 1 else nextK xs lv n (y + 1)
noncomputable def linkAt (xs : List Int) (lv x : Int) : Int := if inRow xs lv x then nextK xs lv (4 - x).toNat (x + 1) else 0
noncomputable def linkZ (xs : List Int) (c : Nat) : Int := linkAt xs ((c % 2 : Nat) : Int) (((c / 2 : Nat) : Int) - 1)
noncomputable def nrm (xs : List Int) : List Int := xs.take 5 ++ (List.range 5).map fun j => if xs.getD j 0 = 1 then xs.getD (5 + j) 0 else 0
noncomputable def highZ (xs : List Int) (j : Int) : Int :=
 if xs.getD 10 0 = 6 ∧ j = xs.getD 11 0 then (if xs.getD j.toNat 0 = 1 then xs.getD (5 + j.toNat) 0 else xs.getD 13 0)
 else if xs.getD 10 0 = 7 ∧ j = xs.getD 11 0 then (if xs.getD j.toNat 0 = 1 then 0 else xs.getD (5 + j.toNat) 0)
 else xs.getD (5 + j.toNat) 0
noncomputable def clampZ (z : Int) : Int := if lo64 ≤ z ∧ z ≤ hi64 then z else 0
noncomputable def Gz : Gf := fun _ _ => 0
noncomputable def envT (xs : List Int) : Env := { i := fun j => if j = 9 then xs.getD 12 0 else 0, b := fun j => decide (xs.getD (j - 16) 0 = 1), l := fun r => if r = 1 then xs else [], base := fun _ => 0, o := fun _ => 0, v := fun _ => .tuple #[], f := Gz }
noncomputable def mayZ (k a b x : Int) : Int :=
 if ((k = 0 ∨ k = 2 ∨ k = 3) ∧ 0 ≤ a ∧ a ≤ 3 ∧ b = 0 ∧ 0 ≤ x ∧ x ≤ 1048575) ∨ (k = 1 ∧ 0 ≤ a ∧ a ≤ 3 ∧ b = 0 ∧ x = 0) ∨ (k = 4 ∧ 0 ≤ a ∧ a ≤ 3 ∧ 0 ≤ b ∧ b ≤ 3 ∧ 0 ≤ x ∧ x ≤ 1048575) ∨ ((k = 5 ∨ k = 9) ∧ a = 0 ∧ b = 0 ∧ x = 0) ∨
  (k = 6 ∧ 0 ≤ a ∧ a ≤ 4 ∧ b = 0 ∧ 0 ≤ x ∧ x ≤ 1) ∨ ((k = 7 ∨ k = 8) ∧ 0 ≤ a ∧ a ≤ 4 ∧ b = 0 ∧ x = 0) ∨ (k = 10 ∧ 0 ≤ a ∧ a ≤ 4 ∧ 0 ≤ b ∧ b ≤ 4 ∧ x = 0) then 1 else 0
noncomputable def tellZ (i : Nat) (xs : List Int) : Int := ev (envT xs) (quant i (xs.getD 9 0) (xs.getD 10 0) (xs.getD 11 0))
noncomputable def linksZ (xs : List Int) : List Int := (List.range 12).map (linkZ xs)
noncomputable def stZ : List (Int × Int) := [(0, 0), (1, 0), (1, 1)]
noncomputable def cfgs : List (List Int) := stZ.flatMap fun p0 => stZ.flatMap fun p1 => stZ.flatMap fun p2 => stZ.flatMap fun p3 => stZ.map fun p4 => [p0.1, p1.1, p2.1, p3.1, p4.1, p0.2, p1.2, p2.2, p3.2, p4.2]
noncomputable def eqL : List Int → List Int → Bool
 | [], [] => true
 | a :: r, b :: s => zEq a b && eqL r s
 | _, _ => false
noncomputable def imgOf (N : List Int) : Option (List Int) := if (∀ z ∈ N.take 4, 0 ≤ z ∧ z ≤ 1048576) then cfgs.find? fun xs => eqL (linksZ xs) (N.drop 4) else none
noncomputable def getZ (i : Nat) (N : List Int) : Int := match imgOf N with
 | some xs => if i = 0 then 0 else if i ≤ 4 then N.getD (i - 1) 0 - 1 else xs.getD (i - 5) 0
 | none => if i = 0 then 900 else 0
noncomputable def walkGo (L : List Int) : Nat → Int → List Int
 | 0, _ => []
 | n + 1, x => if x + 2 ≤ L.getD (x + 1).toNat 0 ∧ L.getD (x + 1).toNat 0 ≤ 5 then (L.getD (x + 1).toNat 0 - 1) :: walkGo L n (L.getD (x + 1).toNat 0 - 1) else []
noncomputable def hasZ (j : Int) : List Int → Bool
 | [] => false
 | z :: r => zEq z j || hasZ j r
noncomputable def walkZ (j : Nat) (L : List Int) : Int := if hasZ j (walkGo L 6 (-1)) then 1 else 0
noncomputable def putZ (l : List Int) : Int := if (∀ z ∈ l.take 4, -1 ≤ z ∧ z ≤ 1048575) ∧ 0 ≤ l.getD 4 0 ∧ l.getD 4 0 ≤ 31 then 1 else 0
noncomputable def G0 : Gf := fun f xs =>
 if 100 ≤ f ∧ f ≤ 105 then nextZ ((f : Int) - 100) (xs.getD 0 0) else
 if 300 ≤ f ∧ f ≤ 305 then clampZ (tellZ (f - 300) xs)
 else if 306 ≤ f ∧ f ≤ 310 then (if tellZ (f - 300) xs = 1 then 1 else 0)
 else if 430 ≤ f ∧ f ≤ 441 then clampZ (linkZ (nrm xs) (f - 430))
 else if 460 ≤ f ∧ f ≤ 464 then (if highZ (nrm (xs.take 10) ++ xs.drop 10) ((f : Int) - 460) = 1 then 1 else 0)
 else if f = 230 then mayZ (xs.getD 0 0) (xs.getD 1 0) (xs.getD 2 0) (xs.getD 3 0)
 else if 520 ≤ f ∧ f ≤ 529 then clampZ (getZ (f - 520) xs)
 else if f = 530 then putZ xs
 else if 540 ≤ f ∧ f ≤ 544 then walkZ (f - 540) xs else 0
theorem clampZ_in (z : Int) : in64 (clampZ z) := by
 unfold clampZ
 split
 ·assumption
 ·constructor <;> decide
theorem G0_in (f : Nat) (xs : List Int) : in64 (G0 f xs) := by
 unfold G0
 split
 ·unfold nextZ; split <;> (constructor <;> simp only [lo64, hi64] <;> omega)
 split
 ·exact clampZ_in _
 ·split
  ·split <;> (constructor <;> decide)
  ·split
   ·exact clampZ_in _
   ·split
    ·split <;> (constructor <;> decide)
    ·split
     ·unfold mayZ; split <;> (constructor <;> decide)
     ·split
      ·exact clampZ_in _
      ·split
       ·unfold putZ; split <;> (constructor <;> decide)
       ·split
        ·unfold walkZ; split <;> (constructor <;> decide)
        ·constructor <;> decide
noncomputable def combos : List (Int × Int × Int) :=
 [(0, 0, 0), (0, 1, 0), (0, 2, 0), (0, 3, 0), (1, 0, 0), (1, 1, 0), (1, 2, 0), (1, 3, 0), (2, 0, 0), (2, 1, 0), (2, 2, 0), (2, 3, 0), (3, 0, 0), (3, 1, 0), (3, 2, 0), (3, 3, 0),
  (4, 0, 0), (4, 0, 1), (4, 0, 2), (4, 0, 3), (4, 1, 0), (4, 1, 1), (4, 1, 2), (4, 1, 3), (4, 2, 0), (4, 2, 1), (4, 2, 2), (4, 2, 3), (4, 3, 0), (4, 3, 1), (4, 3, 2), (4, 3, 3), (5, 0, 0),
  (6, 0, 0), (6, 1, 0), (6, 2, 0), (6, 3, 0), (6, 4, 0), (7, 0, 0), (7, 1, 0), (7, 2, 0), (7, 3, 0), (7, 4, 0), (8, 0, 0), (8, 1, 0), (8, 2, 0), (8, 3, 0), (8, 4, 0), (9, 0, 0),
  (10, 0, 0), (10, 0, 1), (10, 0, 2), (10, 0, 3), (10, 0, 4), (10, 1, 0), (10, 1, 1), (10, 1, 2), (10, 1, 3), (10, 1, 4), (10, 2, 0), (10, 2, 1), (10, 2, 2), (10, 2, 3), (10, 2, 4),
  (10, 3, 0), (10, 3, 1), (10, 3, 2), (10, 3, 3), (10, 3, 4), (10, 4, 0), (10, 4, 1), (10, 4, 2), (10, 4, 3), (10, 4, 4)]
theorem in4 {a : Int} (h0 : 0 ≤ a) (h1 : a ≤ 3) : a = 0 ∨ a = 1 ∨ a = 2 ∨ a = 3 := by omega
theorem in5 {a : Int} (h0 : 0 ≤ a) (h1 : a ≤ 4) : a = 0 ∨ a = 1 ∨ a = 2 ∨ a = 3 ∨ a = 4 := by omega
theorem combo_mem {k a b x : Int} (h : mayZ k a b x = 1) : (k, a, b) ∈ combos := by
 unfold mayZ at h
 split at h
 case isFalse => cases h
 rename_i hc
 rcases hc with ⟨hk, a0, a1, rfl, _, _⟩ | ⟨rfl, a0, a1, rfl, _⟩ | ⟨rfl, a0, a1, b0, b1, _, _⟩ | ⟨hk, rfl, rfl, _⟩ | ⟨rfl, a0, a1, rfl, _, _⟩ | ⟨hk, a0, a1, rfl, _⟩ | ⟨rfl, a0, a1, b0, b1, _⟩
 ·rcases hk with rfl | rfl | rfl <;> rcases in4 a0 a1 with rfl | rfl | rfl | rfl <;> decide
 ·rcases in4 a0 a1 with rfl | rfl | rfl | rfl <;> decide
 ·rcases in4 a0 a1 with rfl | rfl | rfl | rfl <;> rcases in4 b0 b1 with rfl | rfl | rfl | rfl <;> decide
 ·rcases hk with rfl | rfl <;> decide
 ·rcases in5 a0 a1 with rfl | rfl | rfl | rfl | rfl <;> decide
 ·rcases hk with rfl | rfl <;> rcases in5 a0 a1 with rfl | rfl | rfl | rfl | rfl <;> decide
 ·rcases in5 a0 a1 with rfl | rfl | rfl | rfl | rfl <;> rcases in5 b0 b1 with rfl | rfl | rfl | rfl | rfl <;> decide
noncomputable def limX (k : Int) : Int := if k = 0 ∨ k = 2 ∨ k = 3 ∨ k = 4 then 1048575 else if k = 6 then 1 else 0
theorem may_x {k a b x : Int} (h : mayZ k a b x = 1) : 0 ≤ x ∧ x ≤ limX k := by
 unfold mayZ at h
 split at h
 case isFalse => cases h
 rename_i hc
 unfold limX
 rcases hc with ⟨hk, a0, a1, rfl, _, _⟩ | ⟨rfl, a0, a1, rfl, _⟩ | ⟨rfl, a0, a1, b0, b1, _, _⟩ | ⟨hk, rfl, rfl, _⟩ | ⟨rfl, a0, a1, rfl, _, _⟩ | ⟨hk, a0, a1, rfl, _⟩ | ⟨rfl, a0, a1, b0, b1, _⟩
 ·rw [if_pos (by omega)]; omega
 ·rw [if_neg (by omega), if_neg (by omega)]; omega
 ·rw [if_pos (by omega)]; omega
 ·rw [if_neg (by omega), if_neg (by omega)]; omega
 ·rw [if_neg (by omega), if_pos (by omega)]; omega
 ·rw [if_neg (by omega), if_neg (by omega)]; omega
 ·rw [if_neg (by omega), if_neg (by omega)]; omega
end Go.Proofs.Ytojpmbkbeoolcaa
