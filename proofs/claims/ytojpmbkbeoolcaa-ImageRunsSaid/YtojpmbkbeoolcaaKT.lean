/- what an operation upon keys comes to, over any view: trees of tests. -/
import Derived.Test.YtojpmbkbeoolcaaKA
import Derived.Test.YtojpmbkbeoolcaaE5
namespace Go.Proofs.Ytojpmbkbeoolcaa.K
open Go.Sx Go
set_option maxRecDepth 100000
noncomputable def ocL (k a b x : Int) : SV := .cons (.int .i64 (.lit k)) (.cons (.int .i64 (.lit a)) (.cons (.int .i64 (.lit b)) (.cons (.int .i64 (.lit x)) .nil)))
noncomputable def viewF (n : Nat) : Sx.Form := { args := viewP.args, mem := viewP.mem, val := .bool (.lit true), out := [], n := n }
theorem viewF_ok : formRun (fun1 55) (viewF 3) = true := by kernel_rfl
noncomputable def v18 : List SV → X SV := orX (formX (viewF 3)) (mergeX (fun1 55))
theorem v18_ok : SpecOk G0 Try.prog 55 v18 := orX_ok (formX_ok (fun1_ok 55) _ viewF_ok) (mergeX_ok (fun1_ok 55))
noncomputable def askT (need : IE) (now rest : SV) : SV := .agg (.cons (.int .i64 need) (boolV 20 16 (.cons (.arr .i64 6 (.lit 16) .nil) (.cons (.arr .i64 7 (.lit 16) now) (.cons rest .nil)))))
noncomputable def okT (v : SV) : SV := .tup (.cons v (.cons (.int .i64 (.lit 0)) .nil))
noncomputable def memT : Mem := { know := ⟨rngs 6 16 (rngs 7 16 []), []⟩, heap := [], seg := 0, next := 0, nv := 41 }
noncomputable def oneAns : SV := .sli 40 0 (.lit 0) (.lit 1) (.lit 1)
noncomputable def cT (k a b x : Int) : SV := .cons (.int .i64 (codeT k a b x)) (.cons (.int .i64 (numT k a b x)) .nil)
noncomputable def openX (k : Int) : Bool := decide (k = 0 ∨ k = 2 ∨ k = 3 ∨ k = 4)
noncomputable def ocX (k a b x : Int) : SV := .cons (.int .i64 (.lit k)) (.cons (.int .i64 (.lit a)) (.cons (.int .i64 (.lit b)) (.cons (.int .i64 (cond (openX k) (.var 9) (.lit x))) .nil)))
noncomputable def xF (k : Int) : List Fact := cond (openX k) [(.var 9, 0, 1048575)] []
noncomputable def memX (k : Int) : Mem := { memT with know := ⟨xF k ++ memT.know.facts, []⟩ }
noncomputable def form8 (k a b x : Int) : FormY := { args := [viewV 20 6 7, .agg (ocX k a b x)], mem := memX k, e := needT k a b x, val := okT (askT no1 (rowT k a b x) oneAns), t := 76, c := cT k a b x, no := okT (askT (needT k a b x) .nil .nils) }
noncomputable def g48T : List SV → X SV := postHX 110 chainD (groupX (fun2 87))
theorem g48T_ok : SpecOk G0 Try.prog 87 g48T := postHX_ok (groupX_ok (fun2_ok 87)) 110 chainD_ok
noncomputable def s38T : List SV → X SV := splitX 1 (postX fin (postHX 110 chainE (pickX (g12 form38) k38)))
theorem s38T_ok : SpecOk G0 Try.prog 85 s38T := splitX_ok (postX_ok (postHX_ok (pickX_ok k38_ok (g12_ok k38_ok forms38_ok)) 110 chainE_ok) fin_ok) 1
theorem okWT : ∀ x ∈ [(85, s38T), (87, g48T)], SpecOk G0 Try.prog x.1 x.2 := cons_ok (a := (85, s38T)) s38T_ok (one_ok (a := (87, g48T)) g48T_ok)
noncomputable def s47T : List SV → X SV := litOutX (funL [(85, s38T), (87, g48T)] 86)
theorem s47T_ok : SpecOk G0 Try.prog 86 s47T := litOutX_ok (funL_ok okWT 86)
noncomputable def sp8T : List (Nat × (List SV → X SV)) := [(86, s47T), (55, v18), (85, s38T), (87, g48T)]
theorem okSp8T : ∀ x ∈ sp8T, SpecOk G0 Try.prog x.1 x.2 := cons_ok (a := (86, s47T)) s47T_ok (cons_ok (a := (55, v18)) v18_ok okWT)
noncomputable def t8 : List SV → X SV := pruneX (funL sp8T 39)
theorem t8_ok : SpecOk G0 Try.prog 39 t8 := pruneX_ok (funL_ok okSp8T 39)
noncomputable def bf (p : Int × Int) : Fact := (appN (p.1 + 1).toNat (linkE p.1 p.2), p.1 + 1, 5)
noncomputable def bOk (l : List (Int × Int)) : Bool := l.all fun p => decide (-1 ≤ p.1) && decide (p.1 ≤ 4)
theorem bf_ok {E : Env} (hE : E.f = G0) {l : List (Int × Int)} (h : bOk l = true) : ∀ x ∈ l.map bf, FactOk E x := by
 intro x hx
 obtain ⟨p, hp, rfl⟩ := List.mem_map.1 hx
 have := List.all_eq_true.1 h p hp
 simp only [Bool.and_eq_true, decide_eq_true_eq] at this
 have hn : (p.1 + 1).toNat ≤ 5 := by omega
 have hx : (((p.1 + 1).toNat : Nat) : Int) = p.1 + 1 := by omega
 show p.1 + 1 ≤ ev E (appN _ _) ∧ ev E (appN _ _) ≤ 5
 rw [ev_appN hE hn]
 have := nextZ_in (p.1 + 1).toNat (ev E (linkE p.1 p.2)) hn
 omega
theorem cov_T {l : List (Int × Int)} {t : CT} (h : (bOk l && t.ok (l.map bf)) = true) : ∀ E : Env, E.f = G0 → E.Ok → ∃ fs ∈ t.ways (l.map bf), ∀ x ∈ fs, FactOk E x := by
 intro E hf hE
 rw [Bool.and_eq_true] at h
 exact CT.cover hE t _ h.2 (bf_ok hf h.1)
noncomputable def nE (x lv : Int) : IE := appN (x + 1).toNat (linkE x lv)
end Go.Proofs.Ytojpmbkbeoolcaa.K
