/- SkipNeeds, by its rounds and runs. -/
import Derived.Test.YtdngeccbmalbnaaND
namespace Go.Proofs.Ytdngeccbmalbnaa
open Go.Sx Go
set_option maxRecDepth 100000
theorem n_7_4_0_0_6 : okU 7 4 0 0 (((dn_7_4_0_0).ways ([(-1, 1), (-1, 0), (0, 1)].map bf)).getD 6 []) = true := by kernel_rfl
theorem n_6_4_0_1_1 : okU 6 4 0 1 (((dn_6_4_0_1).ways ([(-1, 1), (-1, 0), (0, 1)].map bf)).getD 1 []) = true := by kernel_rfl
theorem n_6_2_0_0_0 : okU 6 2 0 0 (((dn_6_2_0_0).ways ([].map bf)).getD 0 []) = true := by kernel_rfl
theorem n_7_1_0_0_0 : okU 7 1 0 0 (((dn_7_1_0_0).ways ([].map bf)).getD 0 []) = true := by kernel_rfl
theorem n_6_1_0_1_0 : okU 6 1 0 1 (((dn_6_1_0_1).ways ([].map bf)).getD 0 []) = true := by kernel_rfl
theorem n_6_0_0_0_0 : okU 6 0 0 0 (((dn_6_0_0_0).ways ([].map bf)).getD 0 []) = true := by kernel_rfl
theorem n_10_1_2_0_0 : okU 10 1 2 0 (((dn_10_1_2_0).ways ([].map bf)).getD 0 []) = true := by kernel_rfl
theorem nb_9 : okUb (oaK 9) [] = true := by kernel_rfl
theorem ns_6_2_0_0 : okUs 6 2 0 0 = true := by kernel_rfl
theorem ns_10_4_3_0 : okUs 10 4 3 0 = true := by kernel_rfl
theorem ns_10_3_2_0 : okUs 10 3 2 0 = true := by kernel_rfl
theorem ns_10_2_1_0 : okUs 10 2 1 0 = true := by kernel_rfl
theorem ns_10_1_0_0 : okUs 10 1 0 0 = true := by kernel_rfl
end Go.Proofs.Ytdngeccbmalbnaa
