/- SkipRaw, by its operation. -/
import Derived.Test.YtdngeccbmalbnaaR
namespace Go.Proofs.Ytdngeccbmalbnaa
open Go.Sx Go
set_option maxRecDepth 100000
theorem r_8_4_0_0 : okR (ocL 8 4 0 0) [] = true := by kernel_rfl
theorem r_8_3_0_0 : okR (ocL 8 3 0 0) [] = true := by kernel_rfl
theorem r_10_3_1_0 : okR (ocL 10 3 1 0) [] = true := by kernel_rfl
theorem r_10_2_1_0 : okR (ocL 10 2 1 0) [] = true := by kernel_rfl
theorem r_10_1_1_0 : okR (ocL 10 1 1 0) [] = true := by kernel_rfl
theorem r_10_0_2_0 : okR (ocL 10 0 2 0) [] = true := by kernel_rfl
end Go.Proofs.Ytdngeccbmalbnaa
