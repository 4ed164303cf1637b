/- what the laws of layer 8 are run with. -/
import Derived.Test.YtojpmbkbeoolcaaB
import Derived.Test.YtojpmbkbeoolcaaI
import Derived.Test.YtojpmbkbeoolcaaO
namespace Go.Proofs.Ytojpmbkbeoolcaa
open Go.Sx Go
set_option maxRecDepth 100000
noncomputable def opIn : List SV → Option (IE × IE × IE × IE)
 | [] => none
 | v :: r => match opOf v with
  | some p => some p
  | none => opIn r
theorem kind_in {E : Env} {k a b x : IE} (h : mayZ (ev E k) (ev E a) (ev E b) (ev E x) = 1) : FactOk E (k, 0, 10) := by
 have e : (combos.all fun p => decide (0 ≤ p.1 ∧ p.1 ≤ 10)) = true := by kernel_rfl
 have this : 0 ≤ ev E k ∧ ev E k ≤ 10 := of_decide_eq_true (List.all_eq_true.1 e _ (combo_mem h))
 exact this
noncomputable def addK (k : IE) (m : Mem) : Mem := cond (inR (rng m.know.facts k) 0 10) m { m with know := ⟨m.know.facts ++ [(k, 0, 10)], m.know.conds⟩ }
theorem addK_ok {F : Nat → Prop} {w0 w : World} {E : Env} {m : Mem} {k : IE} (h : FactOk E (k, 0, 10)) (hm : MemOk F w0 E m w) : MemOk F w0 E (addK k m) w := by
 unfold addK
 cases inR (rng m.know.facts k) 0 10 with
 | true => exact hm
 | false => exact ⟨⟨hm.know.env, fun f hf => (List.mem_append.1 hf).elim (hm.know.facts f) fun hf => by
   rcases List.mem_singleton.1 hf with rfl
   exact h, hm.know.conds⟩, hm.size, hm.ents, hm.apart, hm.mine, hm.ext, hm.seg0⟩
theorem addK_nv (k : IE) (m : Mem) : (addK k m).nv = m.nv := by
 unfold addK
 cases inR (rng m.know.facts k) 0 10 <;> rfl
noncomputable def kindX (s : List SV → X SV) : List SV → X SV := fun args m => match opIn args with
 | some (k, a, b, x) => cond (mayK m.know k a b x) (s args (addK k m)) none
 | none => none
theorem kindX_ok {f : Nat} {s : List SV → X SV} (hs : SpecOk G0 Try.prog f s) : SpecOk G0 Try.prog f (kindX s) := by
 intro F w0 E args m outs w hgf ho hm
 unfold kindX at ho
 split at ho
 case h_2 => cases ho
 rename_i k a b x _
 cases hc : mayK m.know k a b x with
 | false => rw [hc] at ho; cases ho
 | true =>
  rw [hc] at ho
  dsimp only [cond] at ho
  have := hs F w0 E args (addK k m) outs w hgf ho (addK_ok (kind_in (mayK_ok hgf hm.know hc)) hm)
  rw [addK_nv] at this
  exact this
noncomputable def isK (k : IE) : IE → Bool
 | .add x (.lit z) => ieEq k (.add x (.lit z)) || ieEq k x
 | e => ieEq k e
noncomputable def ofK (k : IE) : BE → Bool
 | .eq x y => isK k x || isK k y
 | .lt x y => isK k x || isK k y
 | .not (.eq x y) => isK k x || isK k y
 | .not (.lt x y) => isK k x || isK k y
 | _ => false
noncomputable def forgetK (k : IE) (m : Mem) : Mem := { m with know := ⟨(m.know.facts.filter fun f => !isK k f.1) ++ [(k, 0, 10)], m.know.conds.filter fun c => !ofK k c⟩ }
noncomputable def forgetX (s : List SV → X SV) : List SV → X SV := fun args m => match opIn args with
 | some (k, a, b, x) => cond (mayK m.know k a b x && k.nm m.nv) (match s args m with
  | some outs => some (nfL (fun p k => nfS p.1 fun v => nfMem p.2 fun m => k (v, m)) (outs.map fun q => (q.1, forgetK k q.2)) fun l => l)
  | none => none) none
 | none => none
theorem forgetX_ok {f : Nat} {s : List SV → X SV} (hs : SpecOk G0 Try.prog f s) : SpecOk G0 Try.prog f (forgetX s) := by
 intro F w0 E args m outs' w hgf ho hm
 unfold forgetX at ho
 split at ho
 case h_2 => cases ho
 rename_i k a b x _
 cases hc : (mayK m.know k a b x && k.nm m.nv) with
 | false => rw [hc] at ho; cases ho
 | true =>
  rw [hc] at ho
  dsimp only [cond] at ho
  rw [Bool.and_eq_true] at hc
  split at ho
  case h_2 => cases ho
  rename_i outs hr
  rw [nfL_eq (fun p k => by rw [nfS_eq, nfMem_eq])] at ho
  cases ho
  have hk := kind_in (mayK_ok hgf hm.know hc.1)
  refine (hs F w0 E args m outs w hgf hr hm).mono ?_
  rintro e w' ⟨q, hq, E', hL, rfl, hm'⟩
  refine ⟨(q.1, forgetK k q.2), List.mem_map.2 ⟨q, hq, rfl⟩, E', hL, rfl, ⟨hm'.know.env, fun f hf => ?_, fun c hc => hm'.know.conds c (List.mem_filter.1 hc).1⟩, hm'.size, hm'.ents, hm'.apart, hm'.mine, hm'.ext, hm'.seg0⟩
  rcases List.mem_append.1 hf with hf | hf
  ·exact hm'.know.facts f (List.mem_filter.1 hf).1
  ·rcases List.mem_singleton.1 hf with rfl
   unfold FactOk at hk ⊢
   rw [ev_agree hL.agree hc.2]
   exact hk
noncomputable def may27X : List SV → X SV := fun args m => match opIn args with
 | some (k, _, _, _) => (match k with
  | .lit _ => fun0 37 args m
  | _ => mayX args m)
 | none => none
theorem may27X_ok : SpecOk G0 Try.prog 37 may27X := by
 intro F w0 E args m outs w hgf ho hm
 unfold may27X at ho
 split at ho
 ·split at ho
  ·exact fun0_ok 37 F w0 E args m outs w hgf ho hm
  ·exact x27_ok F w0 E args m outs w hgf ho hm
 ·cases ho
noncomputable def w21 : List SV → X SV := kindX (fun0 32)
theorem w21_ok : SpecOk G0 Try.prog 32 w21 := kindX_ok (fun0_ok 32)
noncomputable def z0 : List SV → X SV := forgetX (letA (appT 0 0))
theorem z0_ok : SpecOk G0 Try.prog 40 z0 := forgetX_ok (letA_ok k0_ok)
noncomputable def z1 : List SV → X SV := forgetX (letA (appT 1 1))
theorem z1_ok : SpecOk G0 Try.prog 41 z1 := forgetX_ok (letA_ok k1_ok)
noncomputable def z2 : List SV → X SV := forgetX (letA (appT 2 2))
theorem z2_ok : SpecOk G0 Try.prog 42 z2 := forgetX_ok (letA_ok k2_ok)
noncomputable def z3 : List SV → X SV := forgetX (letA (appT 3 3))
theorem z3_ok : SpecOk G0 Try.prog 43 z3 := forgetX_ok (letA_ok k3_ok)
noncomputable def z4 : List SV → X SV := forgetX (letA (appT 4 4))
theorem z4_ok : SpecOk G0 Try.prog 44 z4 := forgetX_ok (letA_ok k4_ok)
noncomputable def z5 : List SV → X SV := forgetX (letA (appT 5 5))
theorem z5_ok : SpecOk G0 Try.prog 45 z5 := forgetX_ok (letA_ok k5_ok)
noncomputable def z6 : List SV → X SV := forgetX (letA (appT 6 6))
theorem z6_ok : SpecOk G0 Try.prog 46 z6 := forgetX_ok (letA_ok k6_ok)
noncomputable def z7 : List SV → X SV := forgetX (letA (appT 7 7))
theorem z7_ok : SpecOk G0 Try.prog 47 z7 := forgetX_ok (letA_ok k7_ok)
noncomputable def z8 : List SV → X SV := forgetX (letA (appT 8 8))
theorem z8_ok : SpecOk G0 Try.prog 48 z8 := forgetX_ok (letA_ok k8_ok)
noncomputable def z9 : List SV → X SV := forgetX (letA (appT 9 9))
theorem z9_ok : SpecOk G0 Try.prog 49 z9 := forgetX_ok (letA_ok k9_ok)
noncomputable def z10 : List SV → X SV := forgetX (letA (appT 10 10))
theorem z10_ok : SpecOk G0 Try.prog 50 z10 := forgetX_ok (letA_ok k10_ok)
noncomputable def spP : List (Nat × (List SV → X SV)) := [(37, may27X), (32, w21), (40, z0), (41, z1), (42, z2), (43, z3), (44, z4), (45, z5), (46, z6), (47, z7), (48, z8), (49, z9), (50, z10)]
theorem okSpP : ∀ x ∈ spP, SpecOk G0 Try.prog x.1 x.2 := cons_ok (a := (37, may27X)) may27X_ok (cons_ok (a := (32, w21)) w21_ok (cons_ok (a := (40, z0)) z0_ok (cons_ok (a := (41, z1)) z1_ok (cons_ok (a := (42, z2)) z2_ok (cons_ok (a := (43, z3)) z3_ok (cons_ok (a := (44, z4)) z4_ok (cons_ok (a := (45, z5)) z5_ok (cons_ok (a := (46, z6)) z6_ok (cons_ok (a := (47, z7)) z7_ok (cons_ok (a := (48, z8)) z8_ok (cons_ok (a := (49, z9)) z9_ok (one_ok (a := (50, z10)) z10_ok))))))))))))
end Go.Proofs.Ytojpmbkbeoolcaa
