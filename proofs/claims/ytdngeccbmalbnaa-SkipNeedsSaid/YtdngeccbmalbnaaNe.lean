/- SkipNeeds, by its rounds and runs. -/
import Derived.Test.YtdngeccbmalbnaaND
namespace Go.Proofs.Ytdngeccbmalbnaa
open Go.Sx Go
set_option maxRecDepth 100000
theorem n_7_4_0_0_2 : okU 7 4 0 0 (((dn_7_4_0_0).ways ([(-1, 1), (-1, 0), (0, 1)].map bf)).getD 2 []) = true := by kernel_rfl
theorem n_6_4_0_0_4 : okU 6 4 0 0 (((dn_6_4_0_0).ways ([(-1, 1), (-1, 0), (0, 1)].map bf)).getD 4 []) = true := by kernel_rfl
theorem n_6_3_0_1_2 : okU 6 3 0 1 (((dn_6_3_0_1).ways ([(-1, 1)].map bf)).getD 2 []) = true := by kernel_rfl
theorem n_6_3_0_0_2 : okU 6 3 0 0 (((dn_6_3_0_0).ways ([(-1, 1)].map bf)).getD 2 []) = true := by kernel_rfl
theorem n_6_1_0_0_0 : okU 6 1 0 0 (((dn_6_1_0_0).ways ([].map bf)).getD 0 []) = true := by kernel_rfl
theorem n_10_1_4_0_0 : okU 10 1 4 0 (((dn_10_1_4_0).ways ([].map bf)).getD 0 []) = true := by kernel_rfl
theorem n_10_0_2_0_0 : okU 10 0 2 0 (((dn_10_0_2_0).ways ([].map bf)).getD 0 []) = true := by kernel_rfl
theorem nb_hi : okUb oaV [(.var 10, 11, hi64)] = true := by kernel_rfl
theorem ni_7_12_lo : okUi (oaK 7) [(.var 12, lo64, (-1))] = true := by kernel_rfl
theorem ni_6_13_hi : okUi (oaK 6) [(.var 13, 2, hi64)] = true := by kernel_rfl
theorem ni_10_13_lo : okUi (oaK 10) [(.var 13, lo64, (-1))] = true := by kernel_rfl
theorem ni_10_11_hi : okUi (oaK 10) [(.var 11, 5, hi64)] = true := by kernel_rfl
theorem ns_8_0_0_0 : okUs 8 0 0 0 = true := by kernel_rfl
theorem ns_7_0_0_0 : okUs 7 0 0 0 = true := by kernel_rfl
theorem ns_6_2_0_1 : okUs 6 2 0 1 = true := by kernel_rfl
theorem ns_10_4_4_0 : okUs 10 4 4 0 = true := by kernel_rfl
theorem ns_10_3_3_0 : okUs 10 3 3 0 = true := by kernel_rfl
theorem ns_10_2_2_0 : okUs 10 2 2 0 = true := by kernel_rfl
theorem ns_10_1_1_0 : okUs 10 1 1 0 = true := by kernel_rfl
theorem ns_10_0_0_0 : okUs 10 0 0 0 = true := by kernel_rfl
end Go.Proofs.Ytdngeccbmalbnaa
