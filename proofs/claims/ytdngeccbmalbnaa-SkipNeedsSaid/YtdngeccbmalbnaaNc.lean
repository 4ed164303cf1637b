/- SkipNeeds, by its rounds and runs. -/
import Derived.Test.YtdngeccbmalbnaaND
namespace Go.Proofs.Ytdngeccbmalbnaa
open Go.Sx Go
set_option maxRecDepth 100000
theorem n_7_4_0_0_4 : okU 7 4 0 0 (((dn_7_4_0_0).ways ([(-1, 1), (-1, 0), (0, 1)].map bf)).getD 4 []) = true := by kernel_rfl
theorem n_6_4_0_0_6 : okU 6 4 0 0 (((dn_6_4_0_0).ways ([(-1, 1), (-1, 0), (0, 1)].map bf)).getD 6 []) = true := by kernel_rfl
theorem n_7_3_0_0_1 : okU 7 3 0 0 (((dn_7_3_0_0).ways ([(-1, 1)].map bf)).getD 1 []) = true := by kernel_rfl
theorem n_10_4_4_0_0 : okU 10 4 4 0 (((dn_10_4_4_0).ways ([].map bf)).getD 0 []) = true := by kernel_rfl
theorem n_10_3_2_0_0 : okU 10 3 2 0 (((dn_10_3_2_0).ways ([].map bf)).getD 0 []) = true := by kernel_rfl
theorem n_10_2_0_0_0 : okU 10 2 0 0 (((dn_10_2_0_0).ways ([].map bf)).getD 0 []) = true := by kernel_rfl
theorem n_9_0_0_0_0 : okU 9 0 0 0 (((dn_9_0_0_0).ways ([].map bf)).getD 0 []) = true := by kernel_rfl
theorem ni_hi : okUi oaV [(.var 10, 11, hi64)] = true := by kernel_rfl
theorem ni_9_12_lo : okUi (oaK 9) [(.var 12, lo64, (-1))] = true := by kernel_rfl
theorem ni_9_11_hi : okUi (oaK 9) [(.var 11, 1, hi64)] = true := by kernel_rfl
theorem ni_8_12_lo : okUi (oaK 8) [(.var 12, lo64, (-1))] = true := by kernel_rfl
theorem ni_8_11_hi : okUi (oaK 8) [(.var 11, 5, hi64)] = true := by kernel_rfl
theorem ni_7_11_lo : okUi (oaK 7) [(.var 11, lo64, (-1))] = true := by kernel_rfl
theorem ni_6_12_hi : okUi (oaK 6) [(.var 12, 1, hi64)] = true := by kernel_rfl
theorem ni_10_12_lo : okUi (oaK 10) [(.var 12, lo64, (-1))] = true := by kernel_rfl
theorem ns_8_4_0_0 : okUs 8 4 0 0 = true := by kernel_rfl
theorem ns_7_4_0_0 : okUs 7 4 0 0 = true := by kernel_rfl
theorem ns_6_4_0_1 : okUs 6 4 0 1 = true := by kernel_rfl
theorem ns_6_1_0_1 : okUs 6 1 0 1 = true := by kernel_rfl
theorem ns_10_4_2_0 : okUs 10 4 2 0 = true := by kernel_rfl
theorem ns_10_3_1_0 : okUs 10 3 1 0 = true := by kernel_rfl
theorem ns_10_2_0_0 : okUs 10 2 0 0 = true := by kernel_rfl
theorem ns_10_0_4_0 : okUs 10 0 4 0 = true := by kernel_rfl
end Go.Proofs.Ytdngeccbmalbnaa
