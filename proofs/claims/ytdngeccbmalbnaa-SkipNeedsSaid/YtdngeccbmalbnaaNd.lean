/- SkipNeeds, by its rounds and runs. -/
import Derived.Test.YtdngeccbmalbnaaND
namespace Go.Proofs.Ytdngeccbmalbnaa
open Go.Sx Go
set_option maxRecDepth 100000
theorem n_7_4_0_0_3 : okU 7 4 0 0 (((dn_7_4_0_0).ways ([(-1, 1), (-1, 0), (0, 1)].map bf)).getD 3 []) = true := by kernel_rfl
theorem n_6_4_0_0_5 : okU 6 4 0 0 (((dn_6_4_0_0).ways ([(-1, 1), (-1, 0), (0, 1)].map bf)).getD 5 []) = true := by kernel_rfl
theorem n_7_3_0_0_0 : okU 7 3 0 0 (((dn_7_3_0_0).ways ([(-1, 1)].map bf)).getD 0 []) = true := by kernel_rfl
theorem n_10_4_3_0_0 : okU 10 4 3 0 (((dn_10_4_3_0).ways ([].map bf)).getD 0 []) = true := by kernel_rfl
theorem n_10_3_1_0_0 : okU 10 3 1 0 (((dn_10_3_1_0).ways ([].map bf)).getD 0 []) = true := by kernel_rfl
theorem n_8_1_0_0_0 : okU 8 1 0 0 (((dn_8_1_0_0).ways ([].map bf)).getD 0 []) = true := by kernel_rfl
theorem n_8_0_0_0_0 : okU 8 0 0 0 (((dn_8_0_0_0).ways ([].map bf)).getD 0 []) = true := by kernel_rfl
theorem nb_7 : okUb (oaK 7) [] = true := by kernel_rfl
end Go.Proofs.Ytdngeccbmalbnaa
