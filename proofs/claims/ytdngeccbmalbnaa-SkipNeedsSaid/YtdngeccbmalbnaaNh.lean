/- SkipNeeds, by its rounds and runs. -/
import Derived.Test.YtdngeccbmalbnaaND
namespace Go.Proofs.Ytdngeccbmalbnaa
open Go.Sx Go
set_option maxRecDepth 100000
theorem n_7_2_0_0_0 : okU 7 2 0 0 (((dn_7_2_0_0).ways ([].map bf)).getD 0 []) = true := by kernel_rfl
theorem n_6_4_0_1_2 : okU 6 4 0 1 (((dn_6_4_0_1).ways ([(-1, 1), (-1, 0), (0, 1)].map bf)).getD 2 []) = true := by kernel_rfl
theorem n_6_2_0_1_0 : okU 6 2 0 1 (((dn_6_2_0_1).ways ([].map bf)).getD 0 []) = true := by kernel_rfl
theorem n_10_4_0_0_0 : okU 10 4 0 0 (((dn_10_4_0_0).ways ([].map bf)).getD 0 []) = true := by kernel_rfl
theorem n_6_0_0_1_0 : okU 6 0 0 1 (((dn_6_0_0_1).ways ([].map bf)).getD 0 []) = true := by kernel_rfl
theorem n_10_2_4_0_0 : okU 10 2 4 0 (((dn_10_2_4_0).ways ([].map bf)).getD 0 []) = true := by kernel_rfl
theorem n_10_1_0_0_0 : okU 10 1 0 0 (((dn_10_1_0_0).ways ([].map bf)).getD 0 []) = true := by kernel_rfl
theorem nb_6 : okUb (oaK 6) [] = true := by kernel_rfl
end Go.Proofs.Ytdngeccbmalbnaa
