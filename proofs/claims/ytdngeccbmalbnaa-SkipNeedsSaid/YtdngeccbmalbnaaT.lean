/- what an operation upon keys comes to, over any view: trees of tests. -/
import Derived.Test.YtdngeccbmalbnaaN
import Derived.Test.YtdngeccbmalbnaaB
import Derived.Test.YtdngeccbmalbnaaE4
namespace Go.Proofs.Ytdngeccbmalbnaa
open Go.Sx Go
set_option maxRecDepth 100000
noncomputable def rawE (x lv : Int) : IE := .sel 7 (.lit (cellN x lv))
noncomputable def nxE (x lv : Int) : IE := cond (decide (x = 4)) (.lit 5) (appN (x + 1).toNat (linkE x lv))
/-- must a link be known? what is needed, if it is not -/
noncomputable def ndT (x lv : Int) (t : IE) : IE := .ite false (.bv (20 + cellN x lv)) (.lit 1) t (.lit (cellN x lv))
noncomputable def ndI (_ _ : Int) (t : IE) : IE := t
noncomputable def ladder (e : IE) (f : Int → IE) : Nat → Int → IE
  | 0, y => f y
  | n + 1, y => .ite false e (.lit y) (f y) (ladder e f n (y + 1))
/-- from key x on to the last one ahead of a -/
noncomputable def walkT (a lv : Int) (nd : Int → Int → IE → IE) (k : Int → IE) : Nat → Int → IE
  | 0, _ => .lit 0
  | n + 1, x => nd x lv (cond (decide (x + 1 < a)) (.ite true (nxE x lv) (.lit a) (ladder (nxE x lv) (walkT a lv nd k n) (a - x - 2).toNat (x + 1)) (k x)) (k x))
noncomputable def spotT (a : Int) (nd : Int → Int → IE → IE) (k : Int → Int → IE) : IE :=
  walkT a 1 nd (fun h => walkT a 0 nd (fun l => k h l) 6 h) 6 (-1)
noncomputable def pow2 (y : Int) : Int := .ofNat (2 ^ y.toNat)
/-- keys from x's next on, up to b -/
noncomputable def spanT (a b : Int) (nd : Int → Int → IE → IE) (k : Int → IE) : Nat → Int → Int → IE
  | 0, _, _ => .lit 0
  | n + 1, x, bits => (fun lo : Int => cond (decide (lo ≤ b)) (.ite true (nxE x 0) (.lit (b + 1)) (ladder (nxE x 0) (fun y => nd y 0 (spanT a b nd k n y (bits + pow2 y))) (b - lo).toNat lo) (k bits)) (k bits)) (cond (decide (x + 1 < a)) a (x + 1))
noncomputable def eqE (e : IE) (z : Int) (x y : IE) : IE := .ite false e (.lit z) x y
noncomputable def no1 : IE := .lit (-1)
noncomputable def needT (k a b x : Int) : IE :=
  if k = 8 then spotT a ndT fun _ _ => no1
  else if k = 9 then ndT (-1) 0 no1
  else if k = 6 then spotT a ndT fun _ l => eqE (nxE l 0) a no1 (ndT a 0 (if x = 1 then ndT a 1 no1 else no1))
  else if k = 7 then spotT a ndT fun h l => eqE (nxE l 0) a (ndT a 0 (eqE (nxE h 1) a (ndT a 1 no1) no1)) no1
  else spotT a ndT fun _ l => spanT a b ndT (fun _ => no1) 6 l 0
noncomputable def codeT (k a _b _x : Int) : IE :=
  if k = 9 then eqE (nxE (-1) 0) 5 (.lit 2) (.lit 0)
  else if k = 6 then spotT a ndI fun _ l => eqE (nxE l 0) a (.lit 1) (.lit 0)
  else if k = 7 then spotT a ndI fun _ l => eqE (nxE l 0) a (.lit 0) (.lit 2)
  else .lit 0
noncomputable def numT (k a b _x : Int) : IE :=
  if k = 8 then spotT a ndI fun _ l => eqE (nxE l 0) a (.lit 1) (.lit 0)
  else if k = 9 then eqE (nxE (-1) 0) 5 (.lit 0) (nxE (-1) 0)
  else if k = 6 then spotT a ndI fun _ l => eqE (nxE l 0) a (.lit 0) (.lit a)
  else if k = 7 then spotT a ndI fun _ l => eqE (nxE l 0) a (.lit a) (.lit 0)
  else spotT a ndI fun _ l => spanT a b ndI (fun z => .lit z) 6 l 0
/-- a key's link at the low level, at the high level, behind the operation -/
noncomputable def lowT (k a y : Int) : IE :=
  if k = 6 then spotT a ndI fun _ l => if y = a then eqE (nxE l 0) a (rawE a 0) (rawE l 0) else if l = y then eqE (nxE l 0) a (rawE y 0) (.lit (a + 1)) else rawE y 0
  else spotT a ndI fun _ l => if y = a then eqE (nxE l 0) a (.lit 0) (rawE a 0) else if l = y then eqE (nxE l 0) a (rawE a 0) (rawE y 0) else rawE y 0
noncomputable def highT (k a y : Int) : IE :=
  if k = 6 then spotT a ndI fun h l => if y = a then eqE (nxE l 0) a (rawE a 1) (rawE h 1) else if h = y then eqE (nxE l 0) a (rawE y 1) (.lit (a + 1)) else rawE y 1
  else spotT a ndI fun h l => if y = a then eqE (nxE l 0) a (eqE (nxE h 1) a (.lit 0) (rawE a 1)) (rawE a 1) else if h = y then eqE (nxE l 0) a (eqE (nxE h 1) a (rawE a 1) (rawE y 1)) (rawE y 1) else rawE y 1
noncomputable def cellsT (k a x : Int) : Nat → Int → SV
  | 0, _ => .nil
  | n + 1, y => .wr (.lit (cellN y 0)) (lowT k a y) (cond (decide (k = 6) && decide (x = 0)) (cellsT k a x n (y + 1)) (.wr (.lit (cellN y 1)) (highT k a y) (cellsT k a x n (y + 1))))
noncomputable def rowT (k a x : Int) : SV := if k = 6 ∨ k = 7 then cellsT k a x (a + 2).toNat (-1) else .nil
noncomputable def askT (need : IE) (now rest : SV) : SV := .agg (.cons (.int .i64 need) (boolV 20 16 (.cons (.arr .i64 6 (.lit 16) .nil) (.cons (.arr .i64 7 (.lit 16) now) (.cons rest .nil)))))
noncomputable def okT (v : SV) : SV := .tup (.cons v (.cons (.int .i64 (.lit 0)) .nil))
noncomputable def memT : Mem := { know := ⟨rngs 6 16 (rngs 7 16 []), []⟩, heap := [], seg := 0, next := 0, nv := 40 }
noncomputable def oneAns : SV := .sli 40 0 (.lit 0) (.lit 1) (.lit 1)
noncomputable def cT (k a b x : Int) : SV := .cons (.int .i64 (codeT k a b x)) (.cons (.int .i64 (numT k a b x)) .nil)
/-- the program's -/
noncomputable def form8 (k a b x : Int) : FormY := { args := [viewV 20 6 7, .agg (ocL k a b x)], mem := memT, e := needT k a b x, val := okT (askT no1 (rowT k a x) oneAns), t := 48, c := cT k a b x, no := okT (askT (needT k a b x) .nil .nils) }
/-- the reference's, of an operation -/
noncomputable def form22 (k a b x : Int) : FormY := { args := [viewV 20 6 7, .agg (ocL k a b x)], mem := memT, e := needT k a b x, val := askT no1 (rowT k a x) oneAns, t := 48, c := cT k a b x, no := askT (needT k a b x) .nil .nils }
noncomputable def g48T : List SV → X SV := postHX 59 chainD (groupX (fun2 48))
theorem g48T_ok : SpecOk G0 Try.prog 48 g48T := postHX_ok (groupX_ok (fun2_ok 48)) 59 chainD_ok
noncomputable def s38T : List SV → X SV := splitX 1 (postX fin (postHX 59 chainE (pickX (g12 form38) k38)))
theorem s38T_ok : SpecOk G0 Try.prog 38 s38T := splitX_ok (postX_ok (postHX_ok (pickX_ok k38_ok (g12_ok k38_ok forms38_ok)) 59 chainE_ok) fin_ok) 1
theorem okWT : ∀ x ∈ [(38, s38T), (48, g48T)], SpecOk G0 Try.prog x.1 x.2 := cons_ok (a := (38, s38T)) s38T_ok (one_ok (a := (48, g48T)) g48T_ok)
noncomputable def s47T : List SV → X SV := litOutX (funL [(38, s38T), (48, g48T)] 47)
theorem s47T_ok : SpecOk G0 Try.prog 47 s47T := litOutX_ok (funL_ok okWT 47)
noncomputable def sp8T : List (Nat × (List SV → X SV)) := [(47, s47T), (18, v18), (38, s38T), (48, g48T)]
theorem okSp8T : ∀ x ∈ sp8T, SpecOk G0 Try.prog x.1 x.2 := cons_ok (a := (47, s47T)) s47T_ok (cons_ok (a := (18, v18)) v18_ok okWT)
noncomputable def t8 : List SV → X SV := pruneX (funL sp8T 8)
theorem t8_ok : SpecOk G0 Try.prog 8 t8 := pruneX_ok (funL_ok okSp8T 8)
noncomputable def p43T : List SV → X SV := forkOutX q43
theorem p43T_ok : SpecOk G0 Try.prog 43 p43T := forkOutX_ok q43_ok
noncomputable def p44T : List SV → X SV := litOutX (funL [(43, p43T)] 44)
theorem p44T_ok : SpecOk G0 Try.prog 44 p44T := litOutX_ok (funL_ok (one_ok (a := (43, p43T)) p43T_ok) 44)
noncomputable def sp22T : List (Nat × (List SV → X SV)) := [(44, p44T), (43, p43T)]
theorem okSp22T : ∀ x ∈ sp22T, SpecOk G0 Try.prog x.1 x.2 := cons_ok (a := (44, p44T)) p44T_ok (one_ok (a := (43, p43T)) p43T_ok)
noncomputable def t22 : List SV → X SV := pruneX (funL sp22T 22)
theorem t22_ok : SpecOk G0 Try.prog 22 t22 := pruneX_ok (funL_ok okSp22T 22)
noncomputable def bf (p : Int × Int) : Fact := (appN (p.1 + 1).toNat (linkE p.1 p.2), p.1 + 1, 5)
noncomputable def bOk (l : List (Int × Int)) : Bool := l.all fun p => decide (-1 ≤ p.1) && decide (p.1 ≤ 4)
theorem bf_ok {E : Env} (hE : E.f = G0) {l : List (Int × Int)} (h : bOk l = true) : ∀ x ∈ l.map bf, FactOk E x := by
  intro x hx
  obtain ⟨p, hp, rfl⟩ := List.mem_map.1 hx
  have := List.all_eq_true.1 h p hp
  simp only [Bool.and_eq_true, decide_eq_true_eq] at this
  have hn : (p.1 + 1).toNat ≤ 5 := by omega
  have hx : (((p.1 + 1).toNat : Nat) : Int) = p.1 + 1 := by omega
  show p.1 + 1 ≤ ev E (appN _ _) ∧ ev E (appN _ _) ≤ 5
  rw [ev_appN hE hn]
  have := nextZ_in (p.1 + 1).toNat (ev E (linkE p.1 p.2)) hn
  omega
theorem cov_T {l : List (Int × Int)} {t : CT} (h : (bOk l && t.ok (l.map bf)) = true) : ∀ E : Env, E.f = G0 → E.Ok → ∃ fs ∈ t.ways (l.map bf), ∀ x ∈ fs, FactOk E x := by
  intro E hf hE
  rw [Bool.and_eq_true] at h
  exact CT.cover hE t _ h.2 (bf_ok hf h.1)
noncomputable def nE (x lv : Int) : IE := appN (x + 1).toNat (linkE x lv)
end Go.Proofs.Ytdngeccbmalbnaa
