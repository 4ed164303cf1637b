/- how runs over any view are split. -/
import Derived.Test.YtnfmmiomomgabaaT
namespace Go.Proofs.Ytnfmmiomomgabaa
open Go.Sx Go
set_option maxRecDepth 100000
noncomputable def d8_6_0_0_0 : CT := .leaf
noncomputable def d8_6_0_0_1 : CT := .leaf
noncomputable def d8_6_1_0_0 : CT := .leaf
noncomputable def d8_6_1_0_1 : CT := .leaf
noncomputable def d8_6_2_0_0 : CT := .leaf
noncomputable def d8_6_2_0_1 : CT := .leaf
noncomputable def d8_6_3_0_0 : CT := (.node (nE (-1) 1) 0 2 5 .leaf .leaf)
noncomputable def d8_6_3_0_1 : CT := (.node (nE (-1) 1) 0 2 5 .leaf .leaf)
noncomputable def d8_6_4_0_0 : CT := (.node (nE (-1) 1) 0 3 5 (.node (nE (-1) 1) 0 0 3 (.node (nE 0 1) 1 3 5 .leaf .leaf) .leaf) .leaf)
noncomputable def d8_6_4_0_1 : CT := (.node (nE (-1) 1) 0 3 5 (.node (nE (-1) 1) 0 0 3 (.node (nE 0 1) 1 3 5 .leaf .leaf) .leaf) .leaf)
noncomputable def d8_7_0_0_0 : CT := .leaf
noncomputable def d8_7_1_0_0 : CT := .leaf
noncomputable def d8_7_2_0_0 : CT := .leaf
noncomputable def d8_7_3_0_0 : CT := (.node (nE (-1) 1) 0 2 5 .leaf .leaf)
noncomputable def d8_7_4_0_0 : CT := (.node (nE (-1) 1) 0 3 5 (.node (nE (-1) 1) 0 0 3 (.node (nE 0 1) 1 3 5 .leaf .leaf) .leaf) .leaf)
noncomputable def d8_8_0_0_0 : CT := .leaf
noncomputable def d8_8_1_0_0 : CT := .leaf
noncomputable def d8_8_2_0_0 : CT := .leaf
noncomputable def d8_8_3_0_0 : CT := (.node (nE (-1) 1) 0 2 5 .leaf .leaf)
noncomputable def d8_8_4_0_0 : CT := (.node (nE (-1) 1) 0 3 5 (.node (nE (-1) 1) 0 0 3 .leaf .leaf) .leaf)
noncomputable def d8_9_0_0_0 : CT := .leaf
noncomputable def d8_10_0_0_0 : CT := .leaf
noncomputable def d8_10_0_1_0 : CT := .leaf
noncomputable def d8_10_0_2_0 : CT := .leaf
noncomputable def d8_10_0_3_0 : CT := .leaf
noncomputable def d8_10_0_4_0 : CT := .leaf
noncomputable def d8_10_1_0_0 : CT := .leaf
noncomputable def d8_10_1_1_0 : CT := .leaf
noncomputable def d8_10_1_2_0 : CT := .leaf
noncomputable def d8_10_1_3_0 : CT := .leaf
noncomputable def d8_10_1_4_0 : CT := .leaf
noncomputable def d8_10_2_0_0 : CT := .leaf
noncomputable def d8_10_2_1_0 : CT := .leaf
noncomputable def d8_10_2_2_0 : CT := .leaf
noncomputable def d8_10_2_3_0 : CT := (.node (nE (-1) 1) 0 1 5 .leaf .leaf)
noncomputable def d8_10_2_4_0 : CT := (.node (nE (-1) 1) 0 1 5 .leaf .leaf)
noncomputable def d8_10_3_0_0 : CT := (.node (nE (-1) 1) 0 2 5 .leaf .leaf)
noncomputable def d8_10_3_1_0 : CT := (.node (nE (-1) 1) 0 2 5 .leaf .leaf)
noncomputable def d8_10_3_2_0 : CT := (.node (nE (-1) 1) 0 2 5 .leaf .leaf)
noncomputable def d8_10_3_3_0 : CT := (.node (nE (-1) 1) 0 2 5 .leaf .leaf)
noncomputable def d8_10_3_4_0 : CT := (.node (nE (-1) 1) 0 2 5 .leaf .leaf)
noncomputable def d8_10_4_0_0 : CT := (.node (nE (-1) 1) 0 3 5 (.node (nE (-1) 1) 0 0 3 .leaf .leaf) .leaf)
noncomputable def d8_10_4_1_0 : CT := (.node (nE (-1) 1) 0 3 5 (.node (nE (-1) 1) 0 0 3 .leaf .leaf) .leaf)
noncomputable def d8_10_4_2_0 : CT := (.node (nE (-1) 1) 0 3 5 (.node (nE (-1) 1) 0 0 3 .leaf .leaf) .leaf)
noncomputable def d8_10_4_3_0 : CT := (.node (nE (-1) 1) 0 3 5 (.node (nE (-1) 1) 0 0 3 .leaf .leaf) .leaf)
noncomputable def d8_10_4_4_0 : CT := (.node (nE (-1) 1) 0 3 5 (.node (nE (-1) 1) 0 0 3 .leaf .leaf) .leaf)
noncomputable def d22_6_0_0_0 : CT := .leaf
noncomputable def d22_6_0_0_1 : CT := .leaf
noncomputable def d22_6_1_0_0 : CT := .leaf
noncomputable def d22_6_1_0_1 : CT := .leaf
noncomputable def d22_6_2_0_0 : CT := .leaf
noncomputable def d22_6_2_0_1 : CT := .leaf
noncomputable def d22_6_3_0_0 : CT := (.node (nE (-1) 1) 0 2 5 (.node (nE (-1) 1) 0 0 2 .leaf .leaf) .leaf)
noncomputable def d22_6_3_0_1 : CT := (.node (nE (-1) 1) 0 2 5 (.node (nE (-1) 1) 0 0 2 .leaf .leaf) .leaf)
noncomputable def d22_6_4_0_0 : CT := (.node (nE (-1) 1) 0 3 5 (.node (nE (-1) 1) 0 0 3 (.node (nE 0 1) 1 3 5 (.node (nE 0 1) 1 1 3 .leaf .leaf) .leaf) (.node (nE (-1) 1) 1 1 3 .leaf .leaf)) (.node (nE (-1) 0) 0 0 5 .leaf .leaf))
noncomputable def d22_6_4_0_1 : CT := (.node (nE (-1) 1) 0 3 5 (.node (nE (-1) 1) 0 0 3 (.node (nE 0 1) 1 3 5 (.node (nE 0 1) 1 1 3 .leaf .leaf) .leaf) (.node (nE (-1) 1) 1 1 3 .leaf .leaf)) (.node (nE (-1) 0) 0 0 5 .leaf .leaf))
noncomputable def d22_7_0_0_0 : CT := .leaf
noncomputable def d22_7_1_0_0 : CT := .leaf
noncomputable def d22_7_2_0_0 : CT := .leaf
noncomputable def d22_7_3_0_0 : CT := (.node (nE (-1) 1) 0 2 5 (.node (nE (-1) 1) 0 0 2 .leaf .leaf) .leaf)
noncomputable def d22_7_4_0_0 : CT := (.node (nE (-1) 1) 0 3 5 (.node (nE (-1) 1) 0 0 3 (.node (nE 0 1) 1 3 5 (.node (nE 0 1) 1 1 3 .leaf .leaf) .leaf) (.node (nE (-1) 1) 1 1 3 .leaf .leaf)) (.node (nE (-1) 0) 0 0 5 .leaf .leaf))
noncomputable def d22_8_0_0_0 : CT := .leaf
noncomputable def d22_8_1_0_0 : CT := .leaf
noncomputable def d22_8_2_0_0 : CT := .leaf
noncomputable def d22_8_3_0_0 : CT := (.node (nE (-1) 1) 0 2 5 (.node (nE (-1) 1) 0 0 2 .leaf .leaf) .leaf)
noncomputable def d22_8_4_0_0 : CT := (.node (nE (-1) 1) 0 3 5 (.node (nE (-1) 1) 0 0 3 (.node (nE 0 1) 1 3 5 (.node (nE 0 1) 1 1 3 .leaf .leaf) .leaf) (.node (nE (-1) 1) 1 1 3 .leaf .leaf)) (.node (nE (-1) 0) 0 0 5 .leaf .leaf))
noncomputable def d22_9_0_0_0 : CT := .leaf
noncomputable def d22_10_0_0_0 : CT := .leaf
noncomputable def d22_10_0_1_0 : CT := .leaf
noncomputable def d22_10_0_2_0 : CT := .leaf
noncomputable def d22_10_0_3_0 : CT := (.node (nE (-1) 0) 0 0 5 .leaf .leaf)
noncomputable def d22_10_0_4_0 : CT := (.node (nE (-1) 0) 0 0 5 .leaf .leaf)
noncomputable def d22_10_1_0_0 : CT := .leaf
noncomputable def d22_10_1_1_0 : CT := .leaf
noncomputable def d22_10_1_2_0 : CT := .leaf
noncomputable def d22_10_1_3_0 : CT := (.node (nE (-1) 1) 0 0 5 .leaf .leaf)
noncomputable def d22_10_1_4_0 : CT := (.node (nE (-1) 1) 0 0 5 .leaf .leaf)
noncomputable def d22_10_2_0_0 : CT := .leaf
noncomputable def d22_10_2_1_0 : CT := .leaf
noncomputable def d22_10_2_2_0 : CT := .leaf
noncomputable def d22_10_2_3_0 : CT := (.node (nE (-1) 1) 0 1 5 (.node (nE (-1) 1) 0 0 1 .leaf .leaf) .leaf)
noncomputable def d22_10_2_4_0 : CT := (.node (nE (-1) 1) 0 1 5 (.node (nE (-1) 1) 0 0 1 .leaf .leaf) .leaf)
noncomputable def d22_10_3_0_0 : CT := (.node (nE (-1) 1) 0 2 5 (.node (nE (-1) 1) 0 0 2 .leaf .leaf) .leaf)
noncomputable def d22_10_3_1_0 : CT := (.node (nE (-1) 1) 0 2 5 (.node (nE (-1) 1) 0 0 2 .leaf .leaf) .leaf)
noncomputable def d22_10_3_2_0 : CT := (.node (nE (-1) 1) 0 2 5 (.node (nE (-1) 1) 0 0 2 .leaf .leaf) .leaf)
noncomputable def d22_10_3_3_0 : CT := (.node (nE (-1) 1) 0 2 5 (.node (nE (-1) 1) 0 0 2 .leaf .leaf) .leaf)
noncomputable def d22_10_3_4_0 : CT := (.node (nE (-1) 1) 0 2 5 (.node (nE (-1) 1) 0 0 2 .leaf .leaf) .leaf)
noncomputable def d22_10_4_0_0 : CT := (.node (nE (-1) 1) 0 3 5 (.node (nE (-1) 1) 0 0 3 (.node (nE 0 1) 1 3 5 (.node (nE 0 1) 1 1 3 .leaf .leaf) .leaf) (.node (nE (-1) 1) 1 1 3 .leaf .leaf)) (.node (nE (-1) 0) 0 0 5 .leaf .leaf))
noncomputable def d22_10_4_1_0 : CT := (.node (nE (-1) 1) 0 3 5 (.node (nE (-1) 1) 0 0 3 (.node (nE 0 1) 1 3 5 (.node (nE 0 1) 1 1 3 .leaf .leaf) .leaf) (.node (nE (-1) 1) 1 1 3 .leaf .leaf)) (.node (nE (-1) 0) 0 0 5 .leaf .leaf))
noncomputable def d22_10_4_2_0 : CT := (.node (nE (-1) 1) 0 3 5 (.node (nE (-1) 1) 0 0 3 (.node (nE 0 1) 1 3 5 (.node (nE 0 1) 1 1 3 .leaf .leaf) .leaf) (.node (nE (-1) 1) 1 1 3 .leaf .leaf)) (.node (nE (-1) 0) 0 0 5 .leaf .leaf))
noncomputable def d22_10_4_3_0 : CT := (.node (nE (-1) 1) 0 3 5 (.node (nE (-1) 1) 0 0 3 (.node (nE 0 1) 1 3 5 (.node (nE 0 1) 1 1 3 .leaf .leaf) .leaf) (.node (nE (-1) 1) 1 1 3 .leaf .leaf)) (.node (nE (-1) 0) 0 0 5 .leaf .leaf))
noncomputable def d22_10_4_4_0 : CT := (.node (nE (-1) 1) 0 3 5 (.node (nE (-1) 1) 0 0 3 (.node (nE 0 1) 1 3 5 (.node (nE 0 1) 1 1 3 .leaf .leaf) .leaf) (.node (nE (-1) 1) 1 1 3 .leaf .leaf)) (.node (nE (-1) 0) 0 0 5 .leaf .leaf))
noncomputable def sumL : List Int → CT
 | [] => .leaf
 | i :: r => .node (cE i) 0 1 1099511627775 (.node (cE i) 0 0 1 (sumL r) (sumL r)) (sumL r)
noncomputable def sumC : CT := sumL [0, 1, 2, 3]
noncomputable def sumF : List Fact := [(cE 0, 0, 1099511627775), (cE 1, 0, 1099511627775), (cE 2, 0, 1099511627775), (cE 3, 0, 1099511627775)]
theorem cov_S : ∀ E : Env, E.f = G0 → KnowOk E (memX 5).know → ∃ fs ∈ sumC.ways sumF, ∀ x ∈ fs, FactOk E x := fun E _ hk => CT.cover hk.env sumC _ (by kernel_rfl) (fun x hx => by
 refine hk.facts x ?_
 unfold sumF at hx
 simp only [List.mem_cons, List.not_mem_nil, or_false] at hx
 rcases hx with rfl | rfl | rfl | rfl
 ·exact List.mem_of_getElem? (i := 16) rfl
 ·exact List.mem_of_getElem? (i := 17) rfl
 ·exact List.mem_of_getElem? (i := 18) rfl
 ·exact List.mem_of_getElem? (i := 19) rfl)
theorem cov_K {k : Int} {l : List (Int × Int)} {t : CT} (h : (bOk l && t.ok (l.map bf)) = true) : ∀ E : Env, E.f = G0 → KnowOk E (memX k).know → ∃ fs ∈ t.ways (l.map bf), ∀ x ∈ fs, FactOk E x := fun E hf hk => cov_T h E hf hk.env
theorem cov_0 {k : Int} : ∀ E : Env, E.f = G0 → KnowOk E (memX k).know → ∃ fs ∈ [[]], ∀ x ∈ fs, FactOk E x := fun _ _ _ => ⟨[], List.mem_singleton_self _, fun _ h => nomatch h⟩
theorem one_f {P : List Fact → Prop} (h : P []) : ∀ fs ∈ [[]], P fs := fun fs hf => by
 rcases List.mem_singleton.1 hf with rfl
 exact h
end Go.Proofs.Ytnfmmiomomgabaa
