/- SkipNeeds, by its rounds and runs. -/
import Derived.Test.YtdngeccbmalbnaaND
namespace Go.Proofs.Ytdngeccbmalbnaa
open Go.Sx Go
set_option maxRecDepth 100000
theorem n_6_4_0_1_6 : okU 6 4 0 1 (((dn_6_4_0_1).ways ([(-1, 1), (-1, 0), (0, 1)].map bf)).getD 6 []) = true := by kernel_rfl
theorem n_6_4_0_1_4 : okU 6 4 0 1 (((dn_6_4_0_1).ways ([(-1, 1), (-1, 0), (0, 1)].map bf)).getD 4 []) = true := by kernel_rfl
theorem n_6_4_0_0_1 : okU 6 4 0 0 (((dn_6_4_0_0).ways ([(-1, 1), (-1, 0), (0, 1)].map bf)).getD 1 []) = true := by kernel_rfl
theorem n_10_4_2_0_0 : okU 10 4 2 0 (((dn_10_4_2_0).ways ([].map bf)).getD 0 []) = true := by kernel_rfl
theorem n_10_3_0_0_0 : okU 10 3 0 0 (((dn_10_3_0_0).ways ([].map bf)).getD 0 []) = true := by kernel_rfl
theorem n_10_1_3_0_0 : okU 10 1 3 0 (((dn_10_1_3_0).ways ([].map bf)).getD 0 []) = true := by kernel_rfl
theorem n_10_0_1_0_0 : okU 10 0 1 0 (((dn_10_0_1_0).ways ([].map bf)).getD 0 []) = true := by kernel_rfl
theorem ni_lo : okUi oaV [(.var 10, lo64, 5)] = true := by kernel_rfl
theorem ni_9_13_hi : okUi (oaK 9) [(.var 13, 1, hi64)] = true := by kernel_rfl
theorem ni_9_11_lo : okUi (oaK 9) [(.var 11, lo64, (-1))] = true := by kernel_rfl
theorem ni_8_13_hi : okUi (oaK 8) [(.var 13, 1, hi64)] = true := by kernel_rfl
theorem ni_8_11_lo : okUi (oaK 8) [(.var 11, lo64, (-1))] = true := by kernel_rfl
theorem ni_7_12_hi : okUi (oaK 7) [(.var 12, 1, hi64)] = true := by kernel_rfl
theorem ni_6_12_lo : okUi (oaK 6) [(.var 12, lo64, (-1))] = true := by kernel_rfl
theorem ni_10_13_hi : okUi (oaK 10) [(.var 13, 1, hi64)] = true := by kernel_rfl
theorem ns_9_0_0_0 : okUs 9 0 0 0 = true := by kernel_rfl
theorem ns_8_2_0_0 : okUs 8 2 0 0 = true := by kernel_rfl
theorem ns_7_2_0_0 : okUs 7 2 0 0 = true := by kernel_rfl
theorem ns_6_3_0_1 : okUs 6 3 0 1 = true := by kernel_rfl
theorem ns_6_0_0_1 : okUs 6 0 0 1 = true := by kernel_rfl
theorem ns_10_4_0_0 : okUs 10 4 0 0 = true := by kernel_rfl
theorem ns_10_2_4_0 : okUs 10 2 4 0 = true := by kernel_rfl
theorem ns_10_1_3_0 : okUs 10 1 3 0 = true := by kernel_rfl
theorem ns_10_0_2_0 : okUs 10 0 2 0 = true := by kernel_rfl
end Go.Proofs.Ytdngeccbmalbnaa
