/- how runs over any view are split. -/
import Derived.Test.YtojpmbkbeoolcaaKP
namespace Go.Proofs.Ytojpmbkbeoolcaa.K
open Go.Sx Go
set_option maxRecDepth 100000
noncomputable def d8_6_0_0_0 : CT := .leaf
noncomputable def d8_6_0_0_1 : CT := .leaf
noncomputable def d8_6_1_0_0 : CT := .leaf
noncomputable def d8_6_1_0_1 : CT := .leaf
noncomputable def d8_6_2_0_0 : CT := .leaf
noncomputable def d8_6_2_0_1 : CT := .leaf
noncomputable def d8_6_3_0_0 : CT := (.node (nE (-1) 1) 0 2 5 .leaf .leaf)
noncomputable def d8_6_3_0_1 : CT := (.node (nE (-1) 1) 0 2 5 .leaf .leaf)
noncomputable def d8_6_4_0_0 : CT := (.node (nE (-1) 1) 0 3 5 (.node (nE (-1) 1) 0 0 3 (.node (nE 0 1) 1 3 5 .leaf .leaf) .leaf) .leaf)
noncomputable def d8_6_4_0_1 : CT := (.node (nE (-1) 1) 0 3 5 (.node (nE (-1) 1) 0 0 3 (.node (nE 0 1) 1 3 5 .leaf .leaf) .leaf) .leaf)
noncomputable def d8_7_0_0_0 : CT := .leaf
noncomputable def d8_7_1_0_0 : CT := .leaf
noncomputable def d8_7_2_0_0 : CT := .leaf
noncomputable def d8_7_3_0_0 : CT := (.node (nE (-1) 1) 0 2 5 .leaf .leaf)
noncomputable def d8_7_4_0_0 : CT := (.node (nE (-1) 1) 0 3 5 (.node (nE (-1) 1) 0 0 3 (.node (nE 0 1) 1 3 5 .leaf .leaf) .leaf) .leaf)
noncomputable def d8_8_0_0_0 : CT := .leaf
noncomputable def d8_8_1_0_0 : CT := .leaf
noncomputable def d8_8_2_0_0 : CT := .leaf
noncomputable def d8_8_3_0_0 : CT := (.node (nE (-1) 1) 0 2 5 .leaf .leaf)
noncomputable def d8_8_4_0_0 : CT := (.node (nE (-1) 1) 0 3 5 (.node (nE (-1) 1) 0 0 3 .leaf .leaf) .leaf)
noncomputable def d8_9_0_0_0 : CT := .leaf
noncomputable def d8_10_0_0_0 : CT := .leaf
noncomputable def d8_10_0_1_0 : CT := .leaf
noncomputable def d8_10_0_2_0 : CT := .leaf
noncomputable def d8_10_0_3_0 : CT := .leaf
noncomputable def d8_10_0_4_0 : CT := .leaf
noncomputable def d8_10_1_0_0 : CT := .leaf
noncomputable def d8_10_1_1_0 : CT := .leaf
noncomputable def d8_10_1_2_0 : CT := .leaf
noncomputable def d8_10_1_3_0 : CT := .leaf
noncomputable def d8_10_1_4_0 : CT := .leaf
noncomputable def d8_10_2_0_0 : CT := .leaf
noncomputable def d8_10_2_1_0 : CT := .leaf
noncomputable def d8_10_2_2_0 : CT := .leaf
noncomputable def d8_10_2_3_0 : CT := (.node (nE (-1) 1) 0 1 5 .leaf .leaf)
noncomputable def d8_10_2_4_0 : CT := (.node (nE (-1) 1) 0 1 5 .leaf .leaf)
noncomputable def d8_10_3_0_0 : CT := (.node (nE (-1) 1) 0 2 5 .leaf .leaf)
noncomputable def d8_10_3_1_0 : CT := (.node (nE (-1) 1) 0 2 5 .leaf .leaf)
noncomputable def d8_10_3_2_0 : CT := (.node (nE (-1) 1) 0 2 5 .leaf .leaf)
noncomputable def d8_10_3_3_0 : CT := (.node (nE (-1) 1) 0 2 5 .leaf .leaf)
noncomputable def d8_10_3_4_0 : CT := (.node (nE (-1) 1) 0 2 5 .leaf .leaf)
noncomputable def d8_10_4_0_0 : CT := (.node (nE (-1) 1) 0 3 5 (.node (nE (-1) 1) 0 0 3 .leaf .leaf) .leaf)
noncomputable def d8_10_4_1_0 : CT := (.node (nE (-1) 1) 0 3 5 (.node (nE (-1) 1) 0 0 3 .leaf .leaf) .leaf)
noncomputable def d8_10_4_2_0 : CT := (.node (nE (-1) 1) 0 3 5 (.node (nE (-1) 1) 0 0 3 .leaf .leaf) .leaf)
noncomputable def d8_10_4_3_0 : CT := (.node (nE (-1) 1) 0 3 5 (.node (nE (-1) 1) 0 0 3 .leaf .leaf) .leaf)
noncomputable def d8_10_4_4_0 : CT := (.node (nE (-1) 1) 0 3 5 (.node (nE (-1) 1) 0 0 3 .leaf .leaf) .leaf)
theorem cov_K {k : Int} {l : List (Int × Int)} {t : CT} (h : (bOk l && t.ok (l.map bf)) = true) : ∀ E : Env, E.f = G0 → KnowOk E (memX k).know → ∃ fs ∈ t.ways (l.map bf), ∀ x ∈ fs, FactOk E x := fun E hf hk => cov_T h E hf hk.env
end Go.Proofs.Ytojpmbkbeoolcaa.K
