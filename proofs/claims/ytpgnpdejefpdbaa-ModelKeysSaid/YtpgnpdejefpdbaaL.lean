/- what the laws of layer 8 are run with. -/
import Derived.Test.YtpgnpdejefpdbaaB
import Derived.Test.YtpgnpdejefpdbaaI
import Derived.Test.YtpgnpdejefpdbaaO
namespace Go.Proofs.Ytpgnpdejefpdbaa
open Go.Sx Go
set_option maxRecDepth 100000
noncomputable def awakeP : Sx.Make := { args := [], mem := mem0 1, val := .bool (.lit true), out := none }
theorem awake_run : makeRun (fun0 17) awakeP = true := by kernel_rfl
theorem awake_ok : SpecOk G0 Try.prog 17 (makeX awakeP) := makeX_ok (fun0_ok 17) awakeP awake_run
noncomputable def opIn : List SV → Option (IE × IE × IE × IE)
 | [] => none
 | v :: r => match opOf v with
  | some p => some p
  | none => opIn r
theorem kind_in {E : Env} {k a b x : IE} (h : mayZ (ev E k) (ev E a) (ev E b) (ev E x) = 1) : FactOk E (k, 0, 10) := by
 have e : (combos.all fun p => decide (0 ≤ p.1 ∧ p.1 ≤ 10)) = true := by kernel_rfl
 have this : 0 ≤ ev E k ∧ ev E k ≤ 10 := of_decide_eq_true (List.all_eq_true.1 e _ (combo_mem h))
 exact this
noncomputable def addK (k : IE) (m : Mem) : Mem := cond (inR (rng m.know.facts k) 0 10) m { m with know := ⟨m.know.facts ++ [(k, 0, 10)], m.know.conds⟩ }
theorem addK_ok {F : Nat → Prop} {w0 w : World} {E : Env} {m : Mem} {k : IE} (h : FactOk E (k, 0, 10)) (hm : MemOk F w0 E m w) : MemOk F w0 E (addK k m) w := by
 unfold addK
 cases inR (rng m.know.facts k) 0 10 with
 | true => exact hm
 | false => exact ⟨⟨hm.know.env, fun f hf => (List.mem_append.1 hf).elim (hm.know.facts f) fun hf => by
   rcases List.mem_singleton.1 hf with rfl
   exact h, hm.know.conds⟩, hm.size, hm.ents, hm.apart, hm.mine, hm.ext, hm.seg0⟩
theorem addK_nv (k : IE) (m : Mem) : (addK k m).nv = m.nv := by
 unfold addK
 cases inR (rng m.know.facts k) 0 10 <;> rfl
noncomputable def kindX (s : List SV → X SV) : List SV → X SV := fun args m => match opIn args with
 | some (k, a, b, x) => cond (mayK m.know k a b x) (s args (addK k m)) none
 | none => none
theorem kindX_ok {f : Nat} {s : List SV → X SV} (hs : SpecOk G0 Try.prog f s) : SpecOk G0 Try.prog f (kindX s) := by
 intro F w0 E args m outs w hgf ho hm
 unfold kindX at ho
 split at ho
 case h_2 => cases ho
 rename_i k a b x _
 cases hc : mayK m.know k a b x with
 | false => rw [hc] at ho; cases ho
 | true =>
  rw [hc] at ho
  dsimp only [cond] at ho
  have := hs F w0 E args (addK k m) outs w hgf ho (addK_ok (kind_in (mayK_ok hgf hm.know hc)) hm)
  rw [addK_nv] at this
  exact this
noncomputable def isK (k : IE) : IE → Bool
 | .add x (.lit z) => ieEq k (.add x (.lit z)) || ieEq k x
 | e => ieEq k e
noncomputable def ofK (k : IE) : BE → Bool
 | .eq x y => isK k x || isK k y
 | .lt x y => isK k x || isK k y
 | .not (.eq x y) => isK k x || isK k y
 | .not (.lt x y) => isK k x || isK k y
 | _ => false
noncomputable def forgetK (k : IE) (m : Mem) : Mem := { m with know := ⟨(m.know.facts.filter fun f => !isK k f.1) ++ [(k, 0, 10)], m.know.conds.filter fun c => !ofK k c⟩ }
noncomputable def forgetX (s : List SV → X SV) : List SV → X SV := fun args m => match opIn args with
 | some (k, a, b, x) => cond (mayK m.know k a b x && k.nm m.nv) (match s args m with
  | some outs => some (nfL (fun p k => nfS p.1 fun v => nfMem p.2 fun m => k (v, m)) (outs.map fun q => (q.1, forgetK k q.2)) fun l => l)
  | none => none) none
 | none => none
theorem forgetX_ok {f : Nat} {s : List SV → X SV} (hs : SpecOk G0 Try.prog f s) : SpecOk G0 Try.prog f (forgetX s) := by
 intro F w0 E args m outs' w hgf ho hm
 unfold forgetX at ho
 split at ho
 case h_2 => cases ho
 rename_i k a b x _
 cases hc : (mayK m.know k a b x && k.nm m.nv) with
 | false => rw [hc] at ho; cases ho
 | true =>
  rw [hc] at ho
  dsimp only [cond] at ho
  rw [Bool.and_eq_true] at hc
  split at ho
  case h_2 => cases ho
  rename_i outs hr
  rw [nfL_eq (fun p k => by rw [nfS_eq, nfMem_eq])] at ho
  cases ho
  have hk := kind_in (mayK_ok hgf hm.know hc.1)
  refine (hs F w0 E args m outs w hgf hr hm).mono ?_
  rintro e w' ⟨q, hq, E', hL, rfl, hm'⟩
  refine ⟨(q.1, forgetK k q.2), List.mem_map.2 ⟨q, hq, rfl⟩, E', hL, rfl, ⟨hm'.know.env, fun f hf => ?_, fun c hc => hm'.know.conds c (List.mem_filter.1 hc).1⟩, hm'.size, hm'.ents, hm'.apart, hm'.mine, hm'.ext, hm'.seg0⟩
  rcases List.mem_append.1 hf with hf | hf
  ·exact hm'.know.facts f (List.mem_filter.1 hf).1
  ·rcases List.mem_singleton.1 hf with rfl
   unfold FactOk at hk ⊢
   rw [ev_agree hL.agree hc.2]
   exact hk
noncomputable def may27X : List SV → X SV := fun args m => match opIn args with
 | some (k, _, _, _) => (match k with
  | .lit _ => fun0 27 args m
  | _ => mayX args m)
 | none => none
theorem may27X_ok : SpecOk G0 Try.prog 27 may27X := by
 intro F w0 E args m outs w hgf ho hm
 unfold may27X at ho
 split at ho
 ·split at ho
  ·exact fun0_ok 27 F w0 E args m outs w hgf ho hm
  ·exact x27_ok F w0 E args m outs w hgf ho hm
 ·cases ho
noncomputable def w21 : List SV → X SV := kindX (fun0 21)
theorem w21_ok : SpecOk G0 Try.prog 21 w21 := kindX_ok (fun0_ok 21)
noncomputable def t24 : List SV → X SV := letA (kindX (appT 0 10))
theorem t24_ok : SpecOk G0 Try.prog 24 t24 := letA_ok (kindX_ok told_ok)
noncomputable def z28 : List SV → X SV := forgetX (letA (appT 0 0))
theorem z28_ok : SpecOk G0 Try.prog 28 z28 := forgetX_ok (letA_ok k28_ok)
noncomputable def z29 : List SV → X SV := forgetX (letA (appT 1 1))
theorem z29_ok : SpecOk G0 Try.prog 29 z29 := forgetX_ok (letA_ok k29_ok)
noncomputable def z30 : List SV → X SV := forgetX (letA (appT 2 2))
theorem z30_ok : SpecOk G0 Try.prog 30 z30 := forgetX_ok (letA_ok k30_ok)
noncomputable def z31 : List SV → X SV := forgetX (letA (appT 3 3))
theorem z31_ok : SpecOk G0 Try.prog 31 z31 := forgetX_ok (letA_ok k31_ok)
noncomputable def z32 : List SV → X SV := forgetX (letA (appT 4 4))
theorem z32_ok : SpecOk G0 Try.prog 32 z32 := forgetX_ok (letA_ok k32_ok)
noncomputable def z33 : List SV → X SV := forgetX (letA (appT 5 5))
theorem z33_ok : SpecOk G0 Try.prog 33 z33 := forgetX_ok (letA_ok k33_ok)
noncomputable def z34 : List SV → X SV := forgetX (letA (appT 6 6))
theorem z34_ok : SpecOk G0 Try.prog 34 z34 := forgetX_ok (letA_ok k34_ok)
noncomputable def z35 : List SV → X SV := forgetX (letA (appT 7 7))
theorem z35_ok : SpecOk G0 Try.prog 35 z35 := forgetX_ok (letA_ok k35_ok)
noncomputable def z36 : List SV → X SV := forgetX (letA (appT 8 8))
theorem z36_ok : SpecOk G0 Try.prog 36 z36 := forgetX_ok (letA_ok k36_ok)
noncomputable def z37 : List SV → X SV := forgetX (letA (appT 9 9))
theorem z37_ok : SpecOk G0 Try.prog 37 z37 := forgetX_ok (letA_ok k37_ok)
noncomputable def z38 : List SV → X SV := forgetX (letA (appT 10 10))
theorem z38_ok : SpecOk G0 Try.prog 38 z38 := forgetX_ok (letA_ok k38_ok)
noncomputable def spP : List (Nat × (List SV → X SV)) := [(27, may27X), (23, mayX), (21, w21), (28, z28), (29, z29), (30, z30), (31, z31), (32, z32), (33, z33), (34, z34), (35, z35), (36, z36), (37, z37), (38, z38), (24, t24), (17, makeX awakeP)]
theorem okSpP : ∀ x ∈ spP, SpecOk G0 Try.prog x.1 x.2 := cons_ok (a := (27, may27X)) may27X_ok (cons_ok (a := (23, mayX)) x23_ok (cons_ok (a := (21, w21)) w21_ok (cons_ok (a := (28, z28)) z28_ok (cons_ok (a := (29, z29)) z29_ok (cons_ok (a := (30, z30)) z30_ok (cons_ok (a := (31, z31)) z31_ok
 (cons_ok (a := (32, z32)) z32_ok (cons_ok (a := (33, z33)) z33_ok (cons_ok (a := (34, z34)) z34_ok (cons_ok (a := (35, z35)) z35_ok (cons_ok (a := (36, z36)) z36_ok (cons_ok (a := (37, z37)) z37_ok (cons_ok (a := (38, z38)) z38_ok
 (cons_ok (a := (24, t24)) t24_ok (one_ok (a := (17, makeX awakeP)) awake_ok)))))))))))))))
noncomputable def funP (f : Nat) : List SV → X SV := funL spP f
theorem funP_ok (f : Nat) : SpecOk G0 Try.prog f (funP f) := funL_ok okSpP f
end Go.Proofs.Ytpgnpdejefpdbaa
