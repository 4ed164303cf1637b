/- SkipRaw, by its operation. -/
import Derived.Test.YtdngeccbmalbnaaR
namespace Go.Proofs.Ytdngeccbmalbnaa
open Go.Sx Go
set_option maxRecDepth 100000
theorem r_7_4_0_0 : okR (ocL 7 4 0 0) [] = true := by kernel_rfl
theorem r_10_3_4_0 : okR (ocL 10 3 4 0) [] = true := by kernel_rfl
theorem r_6_1_0_0 : okR (ocL 6 1 0 0) [] = true := by kernel_rfl
theorem r_10_1_2_0 : okR (ocL 10 1 2 0) [] = true := by kernel_rfl
theorem r_10_0_4_0 : okR (ocL 10 0 4 0) [] = true := by kernel_rfl
end Go.Proofs.Ytdngeccbmalbnaa
