/- what is run. -/
import Derived.Test.YtojpmbkbeoolcaaKG
import Derived.Test.YtojpmbkbeoolcaaA
namespace Go.Proofs.Ytojpmbkbeoolcaa.K
open Go.Sx Go
set_option maxRecDepth 100000
theorem noSpecs : SpecsOk G0 Try.prog (spOf []) := spOf_ok (by intro x hx; cases hx)
theorem noBx : BxOk G0 Try.prog (bxOf []) := bxOf_ok (by intro x hx; cases hx)
noncomputable def fun0 (f : Nat) : List SV → X SV := callF (tabJ []) (spOf []) (bxOf []) 400 12 f
theorem fun0_ok (f : Nat) : SpecOk G0 Try.prog f (fun0 f) := callF_ok noSpecs noBx 400 12 f
noncomputable def row51 (x lv : Int) : List SV × SV × Nat := ([.int .i64 (.lit x), .int .i64 (.lit lv)], .int .i64 (.lit (4 + 2 * (x + 1) + lv)), 3)
noncomputable def cells51 : List (List SV × SV × Nat) := [row51 (-1) 0, row51 (-1) 1, row51 0 0, row51 0 1, row51 1 0, row51 1 1, row51 2 0, row51 2 1, row51 3 0, row51 3 1, row51 4 0, row51 4 1]
theorem cells51_ok : (cells51.all fun p => litRun (fun0 89) p.1 p.2.1 p.2.2) = true := by kernel_rfl
noncomputable def sp0 : Specs := spOf [(59, mapX mapC), (89, litsX (fun0 89) cells51)]
theorem sp0_ok : SpecsOk G0 Try.prog sp0 := spOf_ok (by
 intro x hx
 simp only [List.mem_cons, List.not_mem_nil, or_false] at hx
 rcases hx with rfl | rfl
 ·exact spec16
 ·exact litsX_ok (fun0_ok 89) cells51_ok)
noncomputable def fun1 (f : Nat) : List SV → X SV := callF (tabJ []) sp0 (bxOf []) 400 12 f
theorem fun1_ok (f : Nat) : SpecOk G0 Try.prog f (fun1 f) := callF_ok sp0_ok noBx 400 12 f
noncomputable def boolV (a : Nat) : Nat → SV → SV | 0, r => r | n+1, r => boolV a n (.cons (.bool (.var (a + n))) r)
noncomputable def viewV (a r1 r2 : Nat) : SV := .agg (boolV a 16 (.cons (.arr .i64 r1 (.lit 16) .nil) (.cons (.arr .i64 r2 (.lit 16) .nil) .nil)))
noncomputable def opV (a : Nat) : SV := .agg (.cons (vi a) (.cons (vi (a+1)) (.cons (vi (a+2)) (.cons (vi (a+3)) .nil))))
noncomputable def memF (fs : List Fact) : Mem := { mem0 50 with know := ⟨fs, []⟩ }
noncomputable def rngs (r : Nat) : Nat → List Fact → List Fact | 0, l => l | n+1, l => rngs r n ((.sel r (.lit n), 0, 1099511627775) :: l)
noncomputable def viewP : Sx.Make := { args := [viewV 1 1 2], mem := { mem0 20 with know := ⟨rngs 1 16 (rngs 2 16 []), []⟩ }, val := .bool (.lit true), out := none }
theorem view_ok : makeRun (fun1 55) viewP = true := by kernel_rfl
noncomputable def opL (k a b : Int) (x : Nat) : SV := .agg (.cons (.int .i64 (.lit k)) (.cons (.int .i64 (.lit a)) (.cons (.int .i64 (.lit b)) (.cons (vi x) .nil))))
noncomputable def memA (fs : List Fact) : Mem := memF (fs ++ rngs 6 16 (rngs 7 16 []))
noncomputable def spL : List (Nat × (List SV → X SV)) := [(59, mapX mapC), (89, litsX (fun0 89) cells51), (55, orX (makeX viewP) (mergeX (fun1 55)))]
noncomputable def sp1 : Specs := spOf spL
theorem sp1_ok : SpecsOk G0 Try.prog sp1 := spOf_ok (by
 intro x hx
 simp only [spL, List.mem_cons, List.not_mem_nil, or_false] at hx
 rcases hx with rfl | rfl | rfl
 ·exact spec16
 ·exact litsX_ok (fun0_ok 89) cells51_ok
 ·exact orX_ok (makeX_ok (fun1_ok 55) viewP view_ok) (mergeX_ok (fun1_ok 55)))
noncomputable def fun2 (f : Nat) : List SV → X SV := callF (tabJ []) sp1 (bxOf []) 400 12 f
theorem fun2_ok (f : Nat) : SpecOk G0 Try.prog f (fun2 f) := callF_ok sp1_ok noBx 400 12 f
noncomputable def tmpl (n : Int) (a : IE) : IE := .ite true a (.lit n) (.lit 5) (.ite false (.ite true (.lit 4) a (.lit 0) (.lit 1)) (.lit 1) a (.lit 5))
noncomputable def asNext : List SV → SV → SV × List Fact
 | [_p, .int _k (.lit x), _q], .int kd (.ite k a b c d) => cond (decide (-1 ≤ x) && decide (x ≤ 4) && ieEq (.ite k a b c d) (tmpl (x + 1) a))
   (nfI a fun a => nfN (x + 1).toNat fun n => (.int kd (appN n a), [(appN n a, (n : Int), 5)])) (.int kd (.ite k a b c d), [])
 | _, v => (v, [])
theorem ev_appN {E : Env} (hE : E.f = G0) {n : Nat} (hn : n ≤ 5) (a : IE) : ev E (appN n a) = nextZ n (ev E a) := by
 show E.f (100 + n) [ev E a] = _
 rw [hE, G0_next hn]
theorem nextZ_in (n : Nat) (a : Int) (hn : n ≤ 5) : (n : Int) ≤ nextZ n a ∧ nextZ n a ≤ 5 := by
 unfold nextZ; split <;> omega
theorem ite_lt {E : Env} (a b x y : IE) : ev E (.ite true a b x y) = if ev E a < ev E b then ev E x else ev E y := by
 rw [ev_ite]; simp only [if_true, decide_eq_true_eq]
theorem ite_eq {E : Env} (a b x y : IE) : ev E (.ite false a b x y) = if ev E a = ev E b then ev E x else ev E y := by
 rw [ev_ite]; simp only [Bool.false_eq_true, if_false, decide_eq_true_eq]
theorem asNext_ok (E : Env) (args : List SV) (v : SV) (hE : E.f = G0) (_ : E.Ok) : dv E (asNext args v).1 = dv E v ∧ ∀ x ∈ (asNext args v).2, FactOk E x := by
 unfold asNext
 split
 ·rename_i _ _ x _ kd k a b c d
  cases hc : (decide (-1 ≤ x) && decide (x ≤ 4) && ieEq (.ite k a b c d) (tmpl (x + 1) a)) with
  | false => exact ⟨rfl, fun _ h => (by cases h)⟩
  | true =>
   simp only [Bool.and_eq_true, decide_eq_true_eq] at hc
   obtain ⟨⟨h1, h2⟩, h3⟩ := hc
   have h3 := ieEq_ok h3
   dsimp only [cond]
   rw [nfI_eq, nfN_eq, h3]
   have hn : (x + 1).toNat ≤ 5 := by omega
   have hx : ((x + 1).toNat : Int) = x + 1 := by omega
   refine ⟨?_, fun f hf => ?_⟩
   ·show Value.int kd (ev E (appN _ a)) = Value.int kd (ev E (tmpl (x + 1) a))
    rw [ev_appN hE hn, hx]
    unfold tmpl nextZ
    simp only [ite_lt, ite_eq, ev_lit]
    congr 1
    repeat' split
    all_goals omega
   ·rcases List.mem_singleton.1 hf with rfl
    show _ ≤ ev E (appN _ a) ∧ ev E (appN _ a) ≤ 5
    rw [ev_appN hE hn]
    exact nextZ_in _ _ hn
 ·exact ⟨rfl, fun _ h => (by cases h)⟩
theorem spC_ok {l : List (Nat × (List SV → X SV))} (h : ∀ x ∈ l, SpecOk G0 Try.prog x.1 x.2) : SpecsOk G0 Try.prog (spOf (l ++ spL)) := spOf_ok (by
 intro x hx
 rcases List.mem_append.1 hx with hx | hx
 ·exact h x hx
 ·simp only [spL, List.mem_cons, List.not_mem_nil, or_false] at hx
  rcases hx with rfl | rfl | rfl
  ·exact spec16
  ·exact litsX_ok (fun0_ok 89) cells51_ok
  ·exact orX_ok (makeX_ok (fun1_ok 55) viewP view_ok) (mergeX_ok (fun1_ok 55)))
noncomputable def funL (l : List (Nat × (List SV → X SV))) (f : Nat) : List SV → X SV := callF (tabJ []) (spOf (l ++ spL)) (bxOf []) 400 12 f
theorem funL_ok {l : List (Nat × (List SV → X SV))} (h : ∀ x ∈ l, SpecOk G0 Try.prog x.1 x.2) (f : Nat) : SpecOk G0 Try.prog f (funL l f) := callF_ok (spC_ok h) noBx 400 12 f
theorem one_ok {a : Nat × (List SV → X SV)} (h : SpecOk G0 Try.prog a.1 a.2) : ∀ x ∈ [a], SpecOk G0 Try.prog x.1 x.2 := by
 intro x hx
 rcases List.mem_singleton.1 hx with rfl
 exact h
theorem cons_ok {a : Nat × (List SV → X SV)} {l : List (Nat × (List SV → X SV))} (h : SpecOk G0 Try.prog a.1 a.2) (hl : ∀ x ∈ l, SpecOk G0 Try.prog x.1 x.2) : ∀ x ∈ a :: l, SpecOk G0 Try.prog x.1 x.2 := by
 intro x hx
 rcases List.mem_cons.1 hx with rfl | hx
 ·exact h
 ·exact hl x hx
noncomputable def w29 : Nat × (List SV → X SV) := (28, mergeX (fun2 28))
theorem w29_ok : SpecOk G0 Try.prog w29.1 w29.2 := mergeX_ok (fun2_ok 28)
noncomputable def fun3 (f : Nat) : List SV → X SV := funL [w29] f
theorem fun3_ok (f : Nat) : SpecOk G0 Try.prog f (fun3 f) := funL_ok (one_ok w29_ok) f
noncomputable def g48 : List SV → X SV := postHX 110 chainN (groupX (fun2 87))
theorem g48_ok : SpecOk G0 Try.prog 87 g48 := postHX_ok (groupX_ok (fun2_ok 87)) 110 chainN_ok
noncomputable def funK (f : Nat) : List SV → X SV := funL [w29, (87, g48)] f
theorem funK_ok (f : Nat) : SpecOk G0 Try.prog f (funK f) := funL_ok (cons_ok w29_ok (one_ok (a := (87, g48)) g48_ok)) f
noncomputable def k38 : List SV → X SV := postX asNext (groupX (funK 85))
theorem k38_ok : SpecOk G0 Try.prog 85 k38 := postX_ok (groupX_ok (funK_ok 85)) asNext_ok
noncomputable def walkC (n : IE) : SV := boolV 20 16 (.cons (.arr .i64 6 (.lit 16) .nil) (.cons (.arr .i64 7 (.lit 16) .nil) (.cons (.int .i64 n) .nil)))
noncomputable def walkM (n : IE) (fs : List Fact) (cs : List BE) : Mem := { know := ⟨fs, cs⟩, heap := [⟨1, 0, false, 110, .lit 0, walkC n⟩], seg := 0, next := 0, nv := 50 }
noncomputable def walkA (x lv : Int) : List SV := [.ptr 1 0 (.lit 0), .int .i64 (.lit x), .int .i64 (.lit lv)]
noncomputable def factL (c : Nat) : List Fact := [(.sel 7 (.lit c), 0, 1099511627775)]
noncomputable def form38 (x lv : Int) : Sx.Form := { args := walkA x lv, mem := walkM (.var 9) (factL (cellN x lv)) [], val := .int .i64 (cond (decide (x = 4)) (.lit 5) (appN (x + 1).toNat (linkE x lv))), out := [⟨1, 0, 110, walkC (.ite false (.var 9) (.lit (-1)) (.ite false (.bv (20 + cellN x lv)) (.lit 1) (.lit (-1)) (.lit (cellN x lv))) (.var 9))⟩], n := 3 }
noncomputable def at12 (f : Int → Int → Sx.Form) : List Sx.Form := [f (-1) 0, f (-1) 1, f 0 0, f 0 1, f 1 0, f 1 1, f 2 0, f 2 1, f 3 0, f 3 1, f 4 0, f 4 1]
theorem forms38_ok : ((at12 form38).all (formRun k38)) = true := by kernel_rfl
noncomputable def finN (f : Nat) (a : IE) (k : Int → SV × List Fact) (q : SV × List Fact) : SV × List Fact := cond (Nat.ble 100 f && Nat.ble f 105) (match rng [] a with
 | (lo, hi) => cond (decide (lo = hi)) (nfZ (nextZ ((f : Int) - 100) lo) k) q) q
noncomputable def fin : List SV → SV → SV × List Fact := fun _ v => match v with
 | .int k (.app f (.arg a .noarg)) => finN f a (fun z => (.int k (.lit z), [])) (v, cond (Nat.ble 100 f && Nat.ble f 105) (nfZ ((f : Int) - 100) fun n => [(.app f (.arg a .noarg), n, 5)]) [])
 | .int k (.ite false (.app f (.arg a .noarg)) (.lit 5) (.lit (.negSucc 0)) r) => cond (ieEq r (.app f (.arg a .noarg))) (finN f a (fun z => (.int k (.lit (cond (decide (z = 5)) (-1) z)), [])) (v, cond (Nat.ble 100 f && Nat.ble f 105) (nfZ ((f : Int) - 100) fun n => [(.app f (.arg a .noarg), n, 5)]) [])) (v, [])
 | v => (v, [])
theorem app_ev {E : Env} (hE : E.f = G0) {f : Nat} (h : (Nat.ble 100 f && Nat.ble f 105) = true) (a : IE) : ev E (.app f (.arg a .noarg)) = nextZ ((f : Int) - 100) (ev E a) := by
 rw [Bool.and_eq_true] at h
 have h1 := Nat.le_of_ble_eq_true h.1
 have h2 := Nat.le_of_ble_eq_true h.2
 show E.f f [ev E a] = _
 rw [hE]
 unfold G0
 rw [if_pos ⟨h1, h2⟩]
 rfl
theorem facts_ev {E : Env} (hE : E.f = G0) (f : Nat) (a : IE) : ∀ x ∈ (cond (Nat.ble 100 f && Nat.ble f 105) (nfZ ((f : Int) - 100) fun n => [((.app f (.arg a .noarg) : IE), n, (5 : Int))]) [] : List Fact), FactOk E x := by
 intro x hx
 cases h : (Nat.ble 100 f && Nat.ble f 105) with
 | false => rw [h] at hx; cases hx
 | true =>
  rw [h] at hx
  dsimp only [cond] at hx
  rw [nfZ_eq] at hx
  rcases List.mem_singleton.1 hx with rfl
  show (f : Int) - 100 ≤ ev E (.app f (.arg a .noarg)) ∧ ev E (.app f (.arg a .noarg)) ≤ 5
  rw [app_ev hE h]
  rw [Bool.and_eq_true] at h
  have h1 := Nat.le_of_ble_eq_true h.1
  have h2 := Nat.le_of_ble_eq_true h.2
  unfold nextZ
  split <;> omega
theorem finN_ok {E : Env} (hE : E.f = G0) (hk : E.Ok) {f : Nat} {a : IE} {k : Int → SV × List Fact} {q : SV × List Fact} {d : Value}
  (h1 : ∀ z, ev E (.app f (.arg a .noarg)) = z → dv E (k z).1 = d ∧ ∀ x ∈ (k z).2, FactOk E x) (h2 : dv E q.1 = d ∧ ∀ x ∈ q.2, FactOk E x) : dv E (finN f a k q).1 = d ∧ ∀ x ∈ (finN f a k q).2, FactOk E x := by
 unfold finN
 cases h : (Nat.ble 100 f && Nat.ble f 105) with
 | false => exact h2
 | true =>
  dsimp only [cond]
  have hr := rng_ok hk (fs := []) (fun _ h => by cases h) a
  cases hc : decide ((rng [] a).1 = (rng [] a).2) with
  | false => exact h2
  | true =>
   have := of_decide_eq_true hc
   dsimp only [cond]
   rw [nfZ_eq]
   refine h1 _ ?_
   rw [app_ev hE h, show ev E a = (rng [] a).1 by omega]
theorem fin_ok (E : Env) (args : List SV) (v : SV) (hE : E.f = G0) (hk : E.Ok) : dv E (fin args v).1 = dv E v ∧ ∀ x ∈ (fin args v).2, FactOk E x := by
 unfold fin
 split
 ·rename_i k f a
  refine finN_ok hE hk (fun z hz => ⟨?_, fun _ h => (by cases h)⟩) ⟨rfl, facts_ev hE f a⟩
  show Value.int k z = Value.int k (ev E (.app f (.arg a .noarg)))
  rw [hz]
 ·rename_i k f a r
  cases hr : ieEq r (.app f (.arg a .noarg)) with
  | false => exact ⟨rfl, fun _ h => (by cases h)⟩
  | true =>
   have hr := ieEq_ok hr
   subst hr
   dsimp only [cond]
   refine finN_ok hE hk (fun z hz => ⟨?_, fun _ h => (by cases h)⟩) ⟨rfl, facts_ev hE f a⟩
   show Value.int k (cond (decide (z = 5)) (-1) z) = Value.int k (ev E (.ite false (.app f (.arg a .noarg)) (.lit 5) (.lit (-1)) (.app f (.arg a .noarg))))
   rw [ev_iteF, hz, ev_lit, ev_lit]
   by_cases h5 : z = 5
   ·rw [if_pos h5, decide_eq_true h5]; rfl
   ·rw [if_neg h5, decide_eq_false h5]; rfl
 ·exact ⟨rfl, fun _ h => (by cases h)⟩
noncomputable def g12 (f : Int → Int → Sx.Form) : List SV → Option (List SV → X SV)
 | [_p, .int _k (.lit x), .int _q (.lit lv)] => if -1 ≤ x ∧ x ≤ 4 ∧ 0 ≤ lv ∧ lv ≤ 1 then match (at12 f)[(2 * (x + 1) + lv).toNat]? with
  | some p => some (formX p)
  | none => none else none
 | _ => none
theorem g12_ok {f : Int → Int → Sx.Form} {n : Nat} {s : List SV → X SV} (hs : SpecOk G0 Try.prog n s) (h : ((at12 f).all (formRun s)) = true) : ∀ args s', g12 f args = some s' → SpecOk G0 Try.prog n s' := by
 intro args s' hg
 unfold g12 at hg
 split at hg
 ·split at hg
  ·split at hg
   ·rename_i p hp
    cases hg
    exact formX_ok hs p (List.all_eq_true.1 h p (mem_getElem hp))
   ·cases hg
  ·cases hg
 ·cases hg
noncomputable def s38 : List SV → X SV := splitX 1 (postX fin (postHX 110 chainF (pickX (g12 form38) k38)))
theorem s38_ok : SpecOk G0 Try.prog 85 s38 := splitX_ok (postX_ok (postHX_ok (pickX_ok k38_ok (g12_ok k38_ok forms38_ok)) 110 chainF_ok) fin_ok) 1
end Go.Proofs.Ytojpmbkbeoolcaa.K
