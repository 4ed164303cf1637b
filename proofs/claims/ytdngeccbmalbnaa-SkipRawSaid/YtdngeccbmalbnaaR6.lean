/- SkipRaw, by its operation. -/
import Derived.Test.YtdngeccbmalbnaaR
namespace Go.Proofs.Ytdngeccbmalbnaa
open Go.Sx Go
set_option maxRecDepth 100000
theorem r_10_4_1_0 : okR (ocL 10 4 1 0) [] = true := by kernel_rfl
theorem r_10_4_4_0 : okR (ocL 10 4 4 0) [] = true := by kernel_rfl
theorem r_8_2_0_0 : okR (ocL 8 2 0 0) [] = true := by kernel_rfl
theorem r_10_2_3_0 : okR (ocL 10 2 3 0) [] = true := by kernel_rfl
theorem r_10_1_4_0 : okR (ocL 10 1 4 0) [] = true := by kernel_rfl
end Go.Proofs.Ytdngeccbmalbnaa
