/- what a key's operation upon a view comes to, as trees of tests. -/
import Derived.Test.YtojpmbkbeoolcaaM
import Derived.Test.YtojpmbkbeoolcaaE5
namespace Go.Proofs.Ytojpmbkbeoolcaa.K
open Go.Sx Go
set_option maxRecDepth 100000
noncomputable def appN (n : Nat) (a : IE) : IE := .app (100 + n) (.arg a .noarg)
noncomputable def cellN (x lv : Int) : Nat := (4 + 2 * (x + 1) + lv).toNat
noncomputable def linkE (x lv : Int) : IE := .add (.sel 7 (.lit (cellN x lv))) (.lit (-1))
noncomputable def rawE (x lv : Int) : IE := .sel 7 (.lit (cellN x lv))
noncomputable def nxE (x lv : Int) : IE := cond (decide (x = 4)) (.lit 5) (appN (x + 1).toNat (linkE x lv))
noncomputable def ndT (x lv : Int) (t : IE) : IE := .ite false (.bv (20 + cellN x lv)) (.lit 1) t (.lit (cellN x lv))
noncomputable def ndI (_ _ : Int) (t : IE) : IE := t
noncomputable def ladder (e : IE) (f : Int → IE) : Nat → Int → IE
 | 0, y => f y
 | n + 1, y => .ite false e (.lit y) (f y) (ladder e f n (y + 1))
noncomputable def walkT (a lv : Int) (nd : Int → Int → IE → IE) (k : Int → IE) : Nat → Int → IE
 | 0, _ => .lit 0
 | n + 1, x => nd x lv (cond (decide (x + 1 < a)) (.ite true (nxE x lv) (.lit a) (ladder (nxE x lv) (walkT a lv nd k n) (a - x - 2).toNat (x + 1)) (k x)) (k x))
noncomputable def spotT (a : Int) (nd : Int → Int → IE → IE) (k : Int → Int → IE) : IE :=
 walkT a 1 nd (fun h => walkT a 0 nd (fun l => k h l) 6 h) 6 (-1)
noncomputable def pow2 (y : Int) : Int := .ofNat (2 ^ y.toNat)
noncomputable def spanT (a b : Int) (nd : Int → Int → IE → IE) (k : Int → IE) : Nat → Int → Int → IE
 | 0, _, _ => .lit 0
 | n + 1, x, bits => (fun lo : Int => cond (decide (lo ≤ b)) (.ite true (nxE x 0) (.lit (b + 1)) (ladder (nxE x 0) (fun y => nd y 0 (spanT a b nd k n y (bits + pow2 y))) (b - lo).toNat lo) (k bits)) (k bits)) (cond (decide (x + 1 < a)) a (x + 1))
noncomputable def eqE (e : IE) (z : Int) (x y : IE) : IE := .ite false e (.lit z) x y
noncomputable def no1 : IE := .lit (-1)
noncomputable def needS (k a b x : Int) : IE :=
 if k = 8 then spotT a ndT fun _ _ => no1
 else if k = 9 then ndT (-1) 0 no1
 else if k = 6 then spotT a ndT fun _ l => eqE (nxE l 0) a no1 (ndT a 0 (if x = 1 then ndT a 1 no1 else no1))
 else if k = 7 then spotT a ndT fun h l => eqE (nxE l 0) a (ndT a 0 (eqE (nxE h 1) a (ndT a 1 no1) no1)) no1
 else spotT a ndT fun _ l => spanT a b ndT (fun _ => no1) 6 l 0
noncomputable def codeS (k a _b _x : Int) : IE :=
 if k = 9 then eqE (nxE (-1) 0) 5 (.lit 2) (.lit 0)
 else if k = 6 then spotT a ndI fun _ l => eqE (nxE l 0) a (.lit 1) (.lit 0)
 else if k = 7 then spotT a ndI fun _ l => eqE (nxE l 0) a (.lit 0) (.lit 2)
 else .lit 0
noncomputable def numS (k a b _x : Int) : IE :=
 if k = 8 then spotT a ndI fun _ l => eqE (nxE l 0) a (.lit 1) (.lit 0)
 else if k = 9 then eqE (nxE (-1) 0) 5 (.lit 0) (nxE (-1) 0)
 else if k = 6 then spotT a ndI fun _ l => eqE (nxE l 0) a (.lit 0) (.lit a)
 else if k = 7 then spotT a ndI fun _ l => eqE (nxE l 0) a (.lit a) (.lit 0)
 else spotT a ndI fun _ l => spanT a b ndI (fun z => .lit z) 6 l 0
noncomputable def lowT (k a y : Int) : IE :=
 if k = 6 then spotT a ndI fun _ l => if y = a then eqE (nxE l 0) a (rawE a 0) (rawE l 0) else if l = y then eqE (nxE l 0) a (rawE y 0) (.lit (a + 1)) else rawE y 0
 else spotT a ndI fun _ l => if y = a then eqE (nxE l 0) a (.lit 0) (rawE a 0) else if l = y then eqE (nxE l 0) a (rawE a 0) (rawE y 0) else rawE y 0
noncomputable def highT (k a y : Int) : IE :=
 if k = 6 then spotT a ndI fun h l => if y = a then eqE (nxE l 0) a (rawE a 1) (rawE h 1) else if h = y then eqE (nxE l 0) a (rawE y 1) (.lit (a + 1)) else rawE y 1
 else spotT a ndI fun h l => if y = a then eqE (nxE l 0) a (eqE (nxE h 1) a (.lit 0) (rawE a 1)) (rawE a 1) else if h = y then eqE (nxE l 0) a (eqE (nxE h 1) a (rawE a 1) (rawE y 1)) (rawE y 1) else rawE y 1
noncomputable def cellsT (k a x : Int) : Nat → Int → SV
 | 0, _ => .nil
 | n + 1, y => .wr (.lit (cellN y 0)) (lowT k a y) (cond (decide (k = 6) && decide (x = 0)) (cellsT k a x n (y + 1)) (.wr (.lit (cellN y 1)) (highT k a y) (cellsT k a x n (y + 1))))
noncomputable def rowS (k a x : Int) : SV := if k = 6 ∨ k = 7 then cellsT k a x (a + 2).toNat (-1) else .nil
noncomputable def cE (a : Int) : IE := .sel 7 (.lit a)
noncomputable def sumE (a : IE) (z : Int) (x : Int) : IE := norm (if x = 0 then .add a (.lit z) else if x = 1 then .add (.add a (.lit z)) (.var 9) else .add (.sub a (.var 9)) (.lit z))
noncomputable def ndB (a : Int) (t : IE) : IE := .ite false (.bv (20 + a.toNat)) (.lit 1) t (.lit a)
noncomputable def overE (b : Int) (x y : IE) : IE := .ite true (.lit 1048575) (sumE (cE b) (-1) 1) x y
noncomputable def shortE (a : Int) (x y : IE) : IE := .ite true (sumE (cE a) (-1) 0) (.var 9) x y
noncomputable def needB (k a b : Int) : IE :=
 if k = 5 then ndB 0 (ndB 1 (ndB 2 (ndB 3 no1))) else if k = 4 then ndB a (if a = b then no1 else ndB b no1) else ndB a no1
noncomputable def endB (k a b : Int) (r : Int → IE) (d : IE) : IE :=
 if k = 0 then .ite true (.lit 0) (cE a) (r 1) d
 else if k = 1 then eqE (cE a) 0 (r 2) d
 else if k = 2 then eqE (cE a) 0 (r 2) (overE a (r 4) d)
 else if k = 3 then eqE (cE a) 0 (r 2) (shortE a (r 3) d)
 else if k = 4 then eqE (cE a) 0 (r 2) (if a = b then shortE a (r 3) d else eqE (cE b) 0 (r 2) (shortE a (r 3) (overE b (r 4) d)))
 else d
noncomputable def sumT : List Int → IE → IE
 | [], acc => acc
 | i :: r, acc => eqE (cE i) 0 (sumT r acc) (sumT r (norm (.add acc (.add (cE i) (.lit (-1))))))
noncomputable def codeB (k a b : Int) : IE := endB k a b (fun z => .lit z) (.lit 0)
noncomputable def numB (k a b : Int) : IE :=
 if k = 5 then sumT [0, 1, 2, 3] (.lit 0) else endB k a b (fun _ => .lit 0) (if k = 0 then .var 9 else if k = 1 then sumE (cE a) (-1) 0 else if k = 2 then sumE (cE a) (-1) 1 else if k = 3 then sumE (cE a) (-1) (-1) else if a = b then sumE (cE a) (-1) 0 else sumE (cE a) (-1) (-1))
noncomputable def rowB (k a b : Int) : SV :=
 if k = 5 then .nil else if k = 4 then (if a = b then .nil else .wr (.lit a) (endB k a b (fun _ => cE a) (sumE (cE a) 0 (-1))) (.wr (.lit b) (endB k a b (fun _ => cE b) (sumE (cE b) 0 1)) .nil))
 else .wr (.lit a) (endB k a b (fun _ => cE a) (if k = 0 then norm (.add (.var 9) (.lit 1)) else if k = 1 then .lit 0 else if k = 2 then sumE (cE a) 0 1 else sumE (cE a) 0 (-1))) .nil
noncomputable def needT (k a b x : Int) : IE := if k ≤ 5 then needB k a b else needS k a b x
noncomputable def codeT (k a b x : Int) : IE := if k ≤ 5 then codeB k a b else codeS k a b x
noncomputable def numT (k a b x : Int) : IE := if k ≤ 5 then numB k a b else numS k a b x
noncomputable def rowT (k a b x : Int) : SV := if k ≤ 5 then rowB k a b else rowS k a x
noncomputable def quant (i : Nat) (k a b x : Int) : IE :=
 if i = 0 then needT k a b x else if i = 1 then codeT k a b x else if i = 2 then numT k a b x
 else match litWk 7 (i - 3) (rowT k a b x) with | some e => e | none => .lit 0
theorem G0_next {n : Nat} (hn : n ≤ 5) (a : Int) : G0 (100 + n) [a] = nextZ n a := by
 unfold G0
 rw [if_pos (by omega)]
 show nextZ (((100 + n : Nat) : Int) - 100) a = _
 congr 1
 omega
end Go.Proofs.Ytojpmbkbeoolcaa.K
