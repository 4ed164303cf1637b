/- SkipRaw, by its operation. -/
import Derived.Test.YtdngeccbmalbnaaR
namespace Go.Proofs.Ytdngeccbmalbnaa
open Go.Sx Go
set_option maxRecDepth 100000
theorem r_10_4_2_0 : okR (ocL 10 4 2 0) [] = true := by kernel_rfl
theorem r_6_3_0_0 : okR (ocL 6 3 0 0) [] = true := by kernel_rfl
theorem r_10_3_2_0 : okR (ocL 10 3 2 0) [] = true := by kernel_rfl
theorem r_10_2_2_0 : okR (ocL 10 2 2 0) [] = true := by kernel_rfl
theorem r_10_1_3_0 : okR (ocL 10 1 3 0) [] = true := by kernel_rfl
theorem r_9_0_0_0 : okR (ocL 9 0 0 0) [] = true := by kernel_rfl
end Go.Proofs.Ytdngeccbmalbnaa
