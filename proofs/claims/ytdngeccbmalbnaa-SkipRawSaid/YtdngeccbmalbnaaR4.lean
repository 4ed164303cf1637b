/- SkipRaw, by its operation. -/
import Derived.Test.YtdngeccbmalbnaaR
namespace Go.Proofs.Ytdngeccbmalbnaa
open Go.Sx Go
set_option maxRecDepth 100000
theorem r_7_3_0_0 : okR (ocL 7 3 0 0) [] = true := by kernel_rfl
theorem r_6_3_0_1 : okR (ocL 6 3 0 1) [] = true := by kernel_rfl
theorem r_10_3_3_0 : okR (ocL 10 3 3 0) [] = true := by kernel_rfl
theorem r_10_2_4_0 : okR (ocL 10 2 4 0) [] = true := by kernel_rfl
theorem r_6_0_0_1 : okR (ocL 6 0 0 1) [] = true := by kernel_rfl
theorem r_10_0_3_0 : okR (ocL 10 0 3 0) [] = true := by kernel_rfl
end Go.Proofs.Ytdngeccbmalbnaa
