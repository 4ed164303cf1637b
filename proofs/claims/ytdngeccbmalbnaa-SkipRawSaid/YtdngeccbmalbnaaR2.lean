/- SkipRaw, by its operation. -/
import Derived.Test.YtdngeccbmalbnaaR
namespace Go.Proofs.Ytdngeccbmalbnaa
open Go.Sx Go
set_option maxRecDepth 100000
theorem r_6_4_0_1 : okR (ocL 6 4 0 1) [] = true := by kernel_rfl
theorem r_10_3_0_0 : okR (ocL 10 3 0 0) [] = true := by kernel_rfl
theorem r_6_2_0_0 : okR (ocL 6 2 0 0) [] = true := by kernel_rfl
theorem r_6_1_0_1 : okR (ocL 6 1 0 1) [] = true := by kernel_rfl
theorem r_6_0_0_0 : okR (ocL 6 0 0 0) [] = true := by kernel_rfl
theorem r_10_0_0_0 : okR (ocL 10 0 0 0) [] = true := by kernel_rfl
end Go.Proofs.Ytdngeccbmalbnaa
