/- SkipNeeds, by its rounds and runs. -/
import Derived.Test.YtdngeccbmalbnaaND
namespace Go.Proofs.Ytdngeccbmalbnaa
open Go.Sx Go
set_option maxRecDepth 100000
theorem n_7_4_0_0_5 : okU 7 4 0 0 (((dn_7_4_0_0).ways ([(-1, 1), (-1, 0), (0, 1)].map bf)).getD 5 []) = true := by kernel_rfl
theorem n_6_4_0_1_0 : okU 6 4 0 1 (((dn_6_4_0_1).ways ([(-1, 1), (-1, 0), (0, 1)].map bf)).getD 0 []) = true := by kernel_rfl
theorem n_7_3_0_0_2 : okU 7 3 0 0 (((dn_7_3_0_0).ways ([(-1, 1)].map bf)).getD 2 []) = true := by kernel_rfl
theorem n_8_4_0_0_0 : okU 8 4 0 0 (((dn_8_4_0_0).ways ([].map bf)).getD 0 []) = true := by kernel_rfl
theorem n_10_3_3_0_0 : okU 10 3 3 0 (((dn_10_3_3_0).ways ([].map bf)).getD 0 []) = true := by kernel_rfl
theorem n_10_2_1_0_0 : okU 10 2 1 0 (((dn_10_2_1_0).ways ([].map bf)).getD 0 []) = true := by kernel_rfl
theorem n_10_0_0_0_0 : okU 10 0 0 0 (((dn_10_0_0_0).ways ([].map bf)).getD 0 []) = true := by kernel_rfl
theorem ni_9_13_lo : okUi (oaK 9) [(.var 13, lo64, (-1))] = true := by kernel_rfl
theorem ni_9_12_hi : okUi (oaK 9) [(.var 12, 1, hi64)] = true := by kernel_rfl
theorem ni_8_13_lo : okUi (oaK 8) [(.var 13, lo64, (-1))] = true := by kernel_rfl
theorem ni_8_12_hi : okUi (oaK 8) [(.var 12, 1, hi64)] = true := by kernel_rfl
theorem ni_7_13_hi : okUi (oaK 7) [(.var 13, 1, hi64)] = true := by kernel_rfl
theorem ni_6_13_lo : okUi (oaK 6) [(.var 13, lo64, (-1))] = true := by kernel_rfl
theorem ni_6_11_hi : okUi (oaK 6) [(.var 11, 5, hi64)] = true := by kernel_rfl
theorem ni_10_11_lo : okUi (oaK 10) [(.var 11, lo64, (-1))] = true := by kernel_rfl
theorem ns_8_1_0_0 : okUs 8 1 0 0 = true := by kernel_rfl
theorem ns_7_1_0_0 : okUs 7 1 0 0 = true := by kernel_rfl
theorem ns_6_3_0_0 : okUs 6 3 0 0 = true := by kernel_rfl
theorem ns_6_0_0_0 : okUs 6 0 0 0 = true := by kernel_rfl
theorem ns_10_3_4_0 : okUs 10 3 4 0 = true := by kernel_rfl
theorem ns_10_2_3_0 : okUs 10 2 3 0 = true := by kernel_rfl
theorem ns_10_1_2_0 : okUs 10 1 2 0 = true := by kernel_rfl
theorem ns_10_0_1_0 : okUs 10 0 1 0 = true := by kernel_rfl
end Go.Proofs.Ytdngeccbmalbnaa
