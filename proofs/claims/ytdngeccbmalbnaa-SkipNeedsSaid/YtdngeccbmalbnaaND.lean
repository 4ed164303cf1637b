/- how SkipNeeds' rounds are split. -/
import Derived.Test.YtdngeccbmalbnaaU
namespace Go.Proofs.Ytdngeccbmalbnaa
open Go.Sx Go
set_option maxRecDepth 100000
noncomputable def dn_6_0_0_0 : CT := .leaf
noncomputable def dn_6_0_0_1 : CT := .leaf
noncomputable def dn_6_1_0_0 : CT := .leaf
noncomputable def dn_6_1_0_1 : CT := .leaf
noncomputable def dn_6_2_0_0 : CT := .leaf
noncomputable def dn_6_2_0_1 : CT := .leaf
noncomputable def dn_6_3_0_0 : CT := (.node (nE (-1) 1) 0 2 5 (.node (nE (-1) 1) 0 0 2 .leaf .leaf) .leaf)
noncomputable def dn_6_3_0_1 : CT := (.node (nE (-1) 1) 0 2 5 (.node (nE (-1) 1) 0 0 2 .leaf .leaf) .leaf)
noncomputable def dn_6_4_0_0 : CT := (.node (nE (-1) 1) 0 3 5 (.node (nE (-1) 1) 0 0 3 (.node (nE 0 1) 1 3 5 (.node (nE 0 1) 1 1 3 .leaf .leaf) .leaf) (.node (nE (-1) 1) 1 1 3 .leaf .leaf)) (.node (nE (-1) 0) 0 0 5 .leaf .leaf))
noncomputable def dn_6_4_0_1 : CT := (.node (nE (-1) 1) 0 3 5 (.node (nE (-1) 1) 0 0 3 (.node (nE 0 1) 1 3 5 (.node (nE 0 1) 1 1 3 .leaf .leaf) .leaf) (.node (nE (-1) 1) 1 1 3 .leaf .leaf)) (.node (nE (-1) 0) 0 0 5 .leaf .leaf))
noncomputable def dn_7_0_0_0 : CT := .leaf
noncomputable def dn_7_1_0_0 : CT := .leaf
noncomputable def dn_7_2_0_0 : CT := .leaf
noncomputable def dn_7_3_0_0 : CT := (.node (nE (-1) 1) 0 2 5 (.node (nE (-1) 1) 0 0 2 .leaf .leaf) .leaf)
noncomputable def dn_7_4_0_0 : CT := (.node (nE (-1) 1) 0 3 5 (.node (nE (-1) 1) 0 0 3 (.node (nE 0 1) 1 3 5 (.node (nE 0 1) 1 1 3 .leaf .leaf) .leaf) (.node (nE (-1) 1) 1 1 3 .leaf .leaf)) (.node (nE (-1) 0) 0 0 5 .leaf .leaf))
noncomputable def dn_8_0_0_0 : CT := .leaf
noncomputable def dn_8_1_0_0 : CT := .leaf
noncomputable def dn_8_2_0_0 : CT := .leaf
noncomputable def dn_8_3_0_0 : CT := .leaf
noncomputable def dn_8_4_0_0 : CT := .leaf
noncomputable def dn_9_0_0_0 : CT := .leaf
noncomputable def dn_10_0_0_0 : CT := .leaf
noncomputable def dn_10_0_1_0 : CT := .leaf
noncomputable def dn_10_0_2_0 : CT := .leaf
noncomputable def dn_10_0_3_0 : CT := .leaf
noncomputable def dn_10_0_4_0 : CT := .leaf
noncomputable def dn_10_1_0_0 : CT := .leaf
noncomputable def dn_10_1_1_0 : CT := .leaf
noncomputable def dn_10_1_2_0 : CT := .leaf
noncomputable def dn_10_1_3_0 : CT := .leaf
noncomputable def dn_10_1_4_0 : CT := .leaf
noncomputable def dn_10_2_0_0 : CT := .leaf
noncomputable def dn_10_2_1_0 : CT := .leaf
noncomputable def dn_10_2_2_0 : CT := .leaf
noncomputable def dn_10_2_3_0 : CT := .leaf
noncomputable def dn_10_2_4_0 : CT := .leaf
noncomputable def dn_10_3_0_0 : CT := .leaf
noncomputable def dn_10_3_1_0 : CT := .leaf
noncomputable def dn_10_3_2_0 : CT := .leaf
noncomputable def dn_10_3_3_0 : CT := .leaf
noncomputable def dn_10_3_4_0 : CT := .leaf
noncomputable def dn_10_4_0_0 : CT := .leaf
noncomputable def dn_10_4_1_0 : CT := .leaf
noncomputable def dn_10_4_2_0 : CT := .leaf
noncomputable def dn_10_4_3_0 : CT := .leaf
noncomputable def dn_10_4_4_0 : CT := .leaf
end Go.Proofs.Ytdngeccbmalbnaa
