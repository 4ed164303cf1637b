/- what an operation upon a view comes to: its numbers, as functions of what the view and the operation hold. -/
import Derived.KernelRfl
import Derived.Test.YtnfmmiomomgabaaE4
namespace Go.Proofs.Ytnfmmiomomgabaa
open Go.Sx Go
set_option maxRecDepth 100000
noncomputable def appN (n : Nat) (a : IE) : IE := .app (100 + n) (.arg a .noarg)
noncomputable def cellN (x lv : Int) : Nat := (4 + 2 * (x + 1) + lv).toNat
noncomputable def linkE (x lv : Int) : IE := .add (.sel 7 (.lit (cellN x lv))) (.lit (-1))
noncomputable def rawE (x lv : Int) : IE := .sel 7 (.lit (cellN x lv))
noncomputable def nxE (x lv : Int) : IE := cond (decide (x = 4)) (.lit 5) (appN (x + 1).toNat (linkE x lv))
noncomputable def ndT (x lv : Int) (t : IE) : IE := .ite false (.bv (20 + cellN x lv)) (.lit 1) t (.lit (cellN x lv))
noncomputable def ndI (_ _ : Int) (t : IE) : IE := t
noncomputable def ladder (e : IE) (f : Int → IE) : Nat → Int → IE
 | 0, y => f y
 | n + 1, y => .ite false e (.lit y) (f y) (ladder e f n (y + 1))
noncomputable def walkT (a lv : Int) (nd : Int → Int → IE → IE) (k : Int → IE) : Nat → Int → IE
 | 0, _ => .lit 0
 | n + 1, x => nd x lv (cond (decide (x + 1 < a)) (.ite true (nxE x lv) (.lit a) (ladder (nxE x lv) (walkT a lv nd k n) (a - x - 2).toNat (x + 1)) (k x)) (k x))
noncomputable def spotT (a : Int) (nd : Int → Int → IE → IE) (k : Int → Int → IE) : IE :=
 walkT a 1 nd (fun h => walkT a 0 nd (fun l => k h l) 6 h) 6 (-1)
noncomputable def pow2 (y : Int) : Int := .ofNat (2 ^ y.toNat)
noncomputable def spanT (a b : Int) (nd : Int → Int → IE → IE) (k : Int → IE) : Nat → Int → Int → IE
 | 0, _, _ => .lit 0
 | n + 1, x, bits => (fun lo : Int => cond (decide (lo ≤ b)) (.ite true (nxE x 0) (.lit (b + 1)) (ladder (nxE x 0) (fun y => nd y 0 (spanT a b nd k n y (bits + pow2 y))) (b - lo).toNat lo) (k bits)) (k bits)) (cond (decide (x + 1 < a)) a (x + 1))
noncomputable def eqE (e : IE) (z : Int) (x y : IE) : IE := .ite false e (.lit z) x y
noncomputable def no1 : IE := .lit (-1)
noncomputable def needS (k a b x : Int) : IE :=
 if k = 8 then spotT a ndT fun _ _ => no1
 else if k = 9 then ndT (-1) 0 no1
 else if k = 6 then spotT a ndT fun _ l => eqE (nxE l 0) a no1 (ndT a 0 (if x = 1 then ndT a 1 no1 else no1))
 else if k = 7 then spotT a ndT fun h l => eqE (nxE l 0) a (ndT a 0 (eqE (nxE h 1) a (ndT a 1 no1) no1)) no1
 else spotT a ndT fun _ l => spanT a b ndT (fun _ => no1) 6 l 0
noncomputable def codeS (k a _b _x : Int) : IE :=
 if k = 9 then eqE (nxE (-1) 0) 5 (.lit 2) (.lit 0)
 else if k = 6 then spotT a ndI fun _ l => eqE (nxE l 0) a (.lit 1) (.lit 0)
 else if k = 7 then spotT a ndI fun _ l => eqE (nxE l 0) a (.lit 0) (.lit 2)
 else .lit 0
noncomputable def numS (k a b _x : Int) : IE :=
 if k = 8 then spotT a ndI fun _ l => eqE (nxE l 0) a (.lit 1) (.lit 0)
 else if k = 9 then eqE (nxE (-1) 0) 5 (.lit 0) (nxE (-1) 0)
 else if k = 6 then spotT a ndI fun _ l => eqE (nxE l 0) a (.lit 0) (.lit a)
 else if k = 7 then spotT a ndI fun _ l => eqE (nxE l 0) a (.lit a) (.lit 0)
 else spotT a ndI fun _ l => spanT a b ndI (fun z => .lit z) 6 l 0
noncomputable def lowT (k a y : Int) : IE :=
 if k = 6 then spotT a ndI fun _ l => if y = a then eqE (nxE l 0) a (rawE a 0) (rawE l 0) else if l = y then eqE (nxE l 0) a (rawE y 0) (.lit (a + 1)) else rawE y 0
 else spotT a ndI fun _ l => if y = a then eqE (nxE l 0) a (.lit 0) (rawE a 0) else if l = y then eqE (nxE l 0) a (rawE a 0) (rawE y 0) else rawE y 0
noncomputable def highT (k a y : Int) : IE :=
 if k = 6 then spotT a ndI fun h l => if y = a then eqE (nxE l 0) a (rawE a 1) (rawE h 1) else if h = y then eqE (nxE l 0) a (rawE y 1) (.lit (a + 1)) else rawE y 1
 else spotT a ndI fun h l => if y = a then eqE (nxE l 0) a (eqE (nxE h 1) a (.lit 0) (rawE a 1)) (rawE a 1) else if h = y then eqE (nxE l 0) a (eqE (nxE h 1) a (rawE a 1) (rawE y 1)) (rawE y 1) else rawE y 1
noncomputable def cellsT (k a x : Int) : Nat → Int → SV
 | 0, _ => .nil
 | n + 1, y => .wr (.lit (cellN y 0)) (lowT k a y) (cond (decide (k = 6) && decide (x = 0)) (cellsT k a x n (y + 1)) (.wr (.lit (cellN y 1)) (highT k a y) (cellsT k a x n (y + 1))))
noncomputable def rowS (k a x : Int) : SV := if k = 6 ∨ k = 7 then cellsT k a x (a + 2).toNat (-1) else .nil
noncomputable def cE (a : Int) : IE := .sel 7 (.lit a)
noncomputable def sumE (a : IE) (z : Int) (x : Int) : IE := norm (if x = 0 then .add a (.lit z) else if x = 1 then .add (.add a (.lit z)) (.var 9) else .add (.sub a (.var 9)) (.lit z))
noncomputable def ndB (a : Int) (t : IE) : IE := .ite false (.bv (20 + a.toNat)) (.lit 1) t (.lit a)
noncomputable def overE (b : Int) (x y : IE) : IE := .ite true (.lit 1048575) (sumE (cE b) (-1) 1) x y
noncomputable def shortE (a : Int) (x y : IE) : IE := .ite true (sumE (cE a) (-1) 0) (.var 9) x y
noncomputable def needB (k a b : Int) : IE :=
 if k = 5 then ndB 0 (ndB 1 (ndB 2 (ndB 3 no1))) else if k = 4 then ndB a (if a = b then no1 else ndB b no1) else ndB a no1
noncomputable def endB (k a b : Int) (r : Int → IE) (d : IE) : IE :=
 if k = 0 then .ite true (.lit 0) (cE a) (r 1) d
 else if k = 1 then eqE (cE a) 0 (r 2) d
 else if k = 2 then eqE (cE a) 0 (r 2) (overE a (r 4) d)
 else if k = 3 then eqE (cE a) 0 (r 2) (shortE a (r 3) d)
 else if k = 4 then eqE (cE a) 0 (r 2) (if a = b then shortE a (r 3) d else eqE (cE b) 0 (r 2) (shortE a (r 3) (overE b (r 4) d)))
 else d
noncomputable def sumT : List Int → IE → IE
 | [], acc => acc
 | i :: r, acc => eqE (cE i) 0 (sumT r acc) (sumT r (norm (.add acc (.add (cE i) (.lit (-1))))))
noncomputable def codeB (k a b : Int) : IE := endB k a b (fun z => .lit z) (.lit 0)
noncomputable def numB (k a b : Int) : IE :=
 if k = 5 then sumT [0, 1, 2, 3] (.lit 0) else endB k a b (fun _ => .lit 0) (if k = 0 then .var 9 else if k = 1 then sumE (cE a) (-1) 0 else if k = 2 then sumE (cE a) (-1) 1 else if k = 3 then sumE (cE a) (-1) (-1) else if a = b then sumE (cE a) (-1) 0 else sumE (cE a) (-1) (-1))
noncomputable def rowB (k a b : Int) : SV :=
 if k = 5 then .nil else if k = 4 then (if a = b then .nil else .wr (.lit a) (endB k a b (fun _ => cE a) (sumE (cE a) 0 (-1))) (.wr (.lit b) (endB k a b (fun _ => cE b) (sumE (cE b) 0 1)) .nil))
 else .wr (.lit a) (endB k a b (fun _ => cE a) (if k = 0 then norm (.add (.var 9) (.lit 1)) else if k = 1 then .lit 0 else if k = 2 then sumE (cE a) 0 1 else sumE (cE a) 0 (-1))) .nil
noncomputable def needT (k a b x : Int) : IE := if k ≤ 5 then needB k a b else needS k a b x
noncomputable def codeT (k a b x : Int) : IE := if k ≤ 5 then codeB k a b else codeS k a b x
noncomputable def numT (k a b x : Int) : IE := if k ≤ 5 then numB k a b else numS k a b x
noncomputable def rowT (k a b x : Int) : SV := if k ≤ 5 then rowB k a b else rowS k a x
noncomputable def nextZ (n a : Int) : Int := if n ≤ a ∧ a ≤ 4 then a else 5
noncomputable def quant (i : Nat) (k a b x : Int) : IE :=
 if i = 0 then needT k a b x else if i = 1 then codeT k a b x else if i = 2 then numT k a b x
 else match litWk 7 (i - 3) (rowT k a b x) with | some e => e | none => .lit 0
noncomputable def clampZ (z : Int) : Int := if lo64 ≤ z ∧ z ≤ hi64 then z else 0
noncomputable def Gn : Gf := fun f xs => match xs with
 | [a] => if 100 ≤ f ∧ f ≤ 105 then nextZ ((f : Int) - 100) a else 0
 | _ => 0
noncomputable def envN (xs fl : List Int) : Env := { i := fun j => if j = 9 then xs.getD 19 0 else 0, b := fun j => decide (fl.getD (j - 20) 0 = 1), l := fun r => if r = 7 then xs else [], base := fun _ => 0, o := fun _ => 0, v := fun _ => .tuple #[], f := Gn }
noncomputable def mayZ (k a b x : Int) : Int :=
 if ((k = 0 ∨ k = 2 ∨ k = 3) ∧ 0 ≤ a ∧ a ≤ 3 ∧ b = 0 ∧ 0 ≤ x ∧ x ≤ 1048575) ∨ (k = 1 ∧ 0 ≤ a ∧ a ≤ 3 ∧ b = 0 ∧ x = 0) ∨ (k = 4 ∧ 0 ≤ a ∧ a ≤ 3 ∧ 0 ≤ b ∧ b ≤ 3 ∧ 0 ≤ x ∧ x ≤ 1048575) ∨ ((k = 5 ∨ k = 9) ∧ a = 0 ∧ b = 0 ∧ x = 0) ∨
  (k = 6 ∧ 0 ≤ a ∧ a ≤ 4 ∧ b = 0 ∧ 0 ≤ x ∧ x ≤ 1) ∨ ((k = 7 ∨ k = 8) ∧ 0 ≤ a ∧ a ≤ 4 ∧ b = 0 ∧ x = 0) ∨ (k = 10 ∧ 0 ≤ a ∧ a ≤ 4 ∧ 0 ≤ b ∧ b ≤ 4 ∧ x = 0) then 1 else 0
noncomputable def G0 : Gf := fun f xs => match xs with
 | [a] => if 100 ≤ f ∧ f ≤ 105 then nextZ ((f : Int) - 100) a else 0
 | xs => if 200 ≤ f ∧ f ≤ 218 then clampZ (ev (envN xs (xs.drop 20)) (quant (f - 200) (xs.getD 16 0) (xs.getD 17 0) (xs.getD 18 0) (xs.getD 19 0)))
  else if f = 230 then mayZ (xs.getD 0 0) (xs.getD 1 0) (xs.getD 2 0) (xs.getD 3 0) else 0
theorem clampZ_in (z : Int) : in64 (clampZ z) := by
 unfold clampZ
 split
 ·assumption
 ·constructor <;> decide
theorem G0_in (f : Nat) (xs : List Int) : in64 (G0 f xs) := by
 unfold G0
 split
 ·split
  ·unfold nextZ; split <;> (constructor <;> simp only [lo64, hi64] <;> omega)
  ·constructor <;> decide
 ·split
  ·exact clampZ_in _
  ·split
   ·unfold mayZ; split <;> (constructor <;> decide)
   ·constructor <;> decide
theorem G0_next {n : Nat} (hn : n ≤ 5) (a : Int) : G0 (100 + n) [a] = nextZ n a := by
 show (if 100 ≤ 100 + n ∧ 100 + n ≤ 105 then nextZ (((100 + n : Nat) : Int) - 100) a else 0) = _
 rw [if_pos (by omega)]
 congr 1
 omega
noncomputable def pureT (B : Bool) : IE → Bool
 | .lit _ => true
 | .sel r (.lit (.ofNat c)) => Nat.beq r 7 && Nat.ble c 15
 | .bv j => B && (Nat.ble 20 j && Nat.ble j 35)
 | .var j => Nat.beq j 9
 | .add a b => pureT B a && pureT B b
 | .sub a b => pureT B a && pureT B b
 | .mul a b => pureT B a && pureT B b
 | .ite _ a b x y => pureT B a && pureT B b && pureT B x && pureT B y
 | .app f (.arg a .noarg) => Nat.ble 100 f && Nat.ble f 105 && pureT B a
 | _ => false
structure SameT (B : Bool) (E E' : Env) : Prop where
 b : B = true → ∀ j, 20 ≤ j → j ≤ 35 → E.b j = E'.b j
 l : ∀ c : Nat, c ≤ 15 → (E.row 7).getD c 0 = (E'.row 7).getD c 0
 i : E.i 9 = E'.i 9
 f : ∀ (f : Nat) (a : Int), 100 ≤ f → f ≤ 105 → E.f f [a] = E'.f f [a]
theorem pureT_ev {B : Bool} {E E' : Env} (h : SameT B E E') : ∀ e : IE, pureT B e = true → ev E e = ev E' e
 | .lit _, _ => rfl
 | .sel r (.lit (.ofNat c)), hp => by
  simp only [pureT, Bool.and_eq_true] at hp
  have h1 := Nat.eq_of_beq_eq_true hp.1
  subst h1
  rw [ev_sel, ev_sel]
  exact h.l c (Nat.le_of_ble_eq_true hp.2)
 | .bv j, hp => by
  simp only [pureT, Bool.and_eq_true] at hp
  rw [ev_bv, ev_bv, h.b hp.1 j (Nat.le_of_ble_eq_true hp.2.1) (Nat.le_of_ble_eq_true hp.2.2)]
 | .var j, hp => by
  have h1 := Nat.eq_of_beq_eq_true (show Nat.beq j 9 = true from hp)
  subst h1
  exact h.i
 | .add a b, hp => by
  simp only [pureT, Bool.and_eq_true] at hp
  rw [ev_add, ev_add, pureT_ev h a hp.1, pureT_ev h b hp.2]
 | .sub a b, hp => by
  simp only [pureT, Bool.and_eq_true] at hp
  rw [ev_sub, ev_sub, pureT_ev h a hp.1, pureT_ev h b hp.2]
 | .mul a b, hp => by
  simp only [pureT, Bool.and_eq_true] at hp
  rw [ev_mul, ev_mul, pureT_ev h a hp.1, pureT_ev h b hp.2]
 | .ite k a b x y, hp => by
  simp only [pureT, Bool.and_eq_true] at hp
  rw [ev_ite, ev_ite, pureT_ev h a hp.1.1.1, pureT_ev h b hp.1.1.2, pureT_ev h x hp.1.2, pureT_ev h y hp.2]
 | .app f (.arg a .noarg), hp => by
  simp only [pureT, Bool.and_eq_true] at hp
  rw [ev_app, ev_app, evA_arg, evA_arg, evA_no, evA_no, pureT_ev h a hp.2]
  exact h.f f _ (Nat.le_of_ble_eq_true hp.1.1) (Nat.le_of_ble_eq_true hp.1.2)
end Go.Proofs.Ytnfmmiomomgabaa
