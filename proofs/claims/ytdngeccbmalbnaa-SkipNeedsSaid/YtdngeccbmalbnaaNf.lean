/- SkipNeeds, by its rounds and runs. -/
import Derived.Test.YtdngeccbmalbnaaND
namespace Go.Proofs.Ytdngeccbmalbnaa
open Go.Sx Go
set_option maxRecDepth 100000
theorem n_7_4_0_0_1 : okU 7 4 0 0 (((dn_7_4_0_0).ways ([(-1, 1), (-1, 0), (0, 1)].map bf)).getD 1 []) = true := by kernel_rfl
theorem n_6_4_0_0_3 : okU 6 4 0 0 (((dn_6_4_0_0).ways ([(-1, 1), (-1, 0), (0, 1)].map bf)).getD 3 []) = true := by kernel_rfl
theorem n_6_3_0_1_1 : okU 6 3 0 1 (((dn_6_3_0_1).ways ([(-1, 1)].map bf)).getD 1 []) = true := by kernel_rfl
theorem n_6_3_0_0_1 : okU 6 3 0 0 (((dn_6_3_0_0).ways ([(-1, 1)].map bf)).getD 1 []) = true := by kernel_rfl
theorem n_8_3_0_0_0 : okU 8 3 0 0 (((dn_8_3_0_0).ways ([].map bf)).getD 0 []) = true := by kernel_rfl
theorem n_10_2_3_0_0 : okU 10 2 3 0 (((dn_10_2_3_0).ways ([].map bf)).getD 0 []) = true := by kernel_rfl
theorem n_10_0_4_0_0 : okU 10 0 4 0 (((dn_10_0_4_0).ways ([].map bf)).getD 0 []) = true := by kernel_rfl
theorem nb_10 : okUb (oaK 10) [] = true := by kernel_rfl
end Go.Proofs.Ytdngeccbmalbnaa
