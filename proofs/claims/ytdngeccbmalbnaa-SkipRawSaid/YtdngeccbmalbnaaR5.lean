/- SkipRaw, by its operation. -/
import Derived.Test.YtdngeccbmalbnaaR
namespace Go.Proofs.Ytdngeccbmalbnaa
open Go.Sx Go
set_option maxRecDepth 100000
theorem r_10_4_0_0 : okR (ocL 10 4 0 0) [] = true := by kernel_rfl
theorem r_10_4_3_0 : okR (ocL 10 4 3 0) [] = true := by kernel_rfl
theorem r_6_2_0_1 : okR (ocL 6 2 0 1) [] = true := by kernel_rfl
theorem r_8_1_0_0 : okR (ocL 8 1 0 0) [] = true := by kernel_rfl
theorem r_10_1_0_0 : okR (ocL 10 1 0 0) [] = true := by kernel_rfl
theorem r_10_0_1_0 : okR (ocL 10 0 1 0) [] = true := by kernel_rfl
end Go.Proofs.Ytdngeccbmalbnaa
