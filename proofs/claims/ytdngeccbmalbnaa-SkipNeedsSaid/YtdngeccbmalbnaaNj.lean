/- SkipNeeds, by its rounds and runs. -/
import Derived.Test.YtdngeccbmalbnaaND
namespace Go.Proofs.Ytdngeccbmalbnaa
open Go.Sx Go
set_option maxRecDepth 100000
theorem n_6_4_0_1_5 : okU 6 4 0 1 (((dn_6_4_0_1).ways ([(-1, 1), (-1, 0), (0, 1)].map bf)).getD 5 []) = true := by kernel_rfl
theorem n_6_4_0_1_3 : okU 6 4 0 1 (((dn_6_4_0_1).ways ([(-1, 1), (-1, 0), (0, 1)].map bf)).getD 3 []) = true := by kernel_rfl
theorem n_6_4_0_0_0 : okU 6 4 0 0 (((dn_6_4_0_0).ways ([(-1, 1), (-1, 0), (0, 1)].map bf)).getD 0 []) = true := by kernel_rfl
theorem n_10_4_1_0_0 : okU 10 4 1 0 (((dn_10_4_1_0).ways ([].map bf)).getD 0 []) = true := by kernel_rfl
theorem n_7_0_0_0_0 : okU 7 0 0 0 (((dn_7_0_0_0).ways ([].map bf)).getD 0 []) = true := by kernel_rfl
theorem n_8_2_0_0_0 : okU 8 2 0 0 (((dn_8_2_0_0).ways ([].map bf)).getD 0 []) = true := by kernel_rfl
theorem n_10_1_1_0_0 : okU 10 1 1 0 (((dn_10_1_1_0).ways ([].map bf)).getD 0 []) = true := by kernel_rfl
theorem nb_8 : okUb (oaK 8) [] = true := by kernel_rfl
end Go.Proofs.Ytdngeccbmalbnaa
