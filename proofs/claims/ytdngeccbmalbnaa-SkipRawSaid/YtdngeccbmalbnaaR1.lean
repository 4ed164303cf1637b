/- SkipRaw, by its operation. -/
import Derived.Test.YtdngeccbmalbnaaR
namespace Go.Proofs.Ytdngeccbmalbnaa
open Go.Sx Go
set_option maxRecDepth 100000
theorem r_6_4_0_0 : okR (ocL 6 4 0 0) [] = true := by kernel_rfl
theorem r_7_2_0_0 : okR (ocL 7 2 0 0) [] = true := by kernel_rfl
theorem r_7_1_0_0 : okR (ocL 7 1 0 0) [] = true := by kernel_rfl
theorem r_10_2_0_0 : okR (ocL 10 2 0 0) [] = true := by kernel_rfl
theorem r_7_0_0_0 : okR (ocL 7 0 0 0) [] = true := by kernel_rfl
theorem r_8_0_0_0 : okR (ocL 8 0 0 0) [] = true := by kernel_rfl
end Go.Proofs.Ytdngeccbmalbnaa
