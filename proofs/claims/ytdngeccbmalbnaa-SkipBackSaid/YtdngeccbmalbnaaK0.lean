/- SkipBack's rounds and runs for a key. -/
import Derived.Test.YtdngeccbmalbnaaK
namespace Go.Proofs.Ytdngeccbmalbnaa
open Go.Sx Go
set_option maxRecDepth 100000
theorem k_0_0 : kOk 0 ([(eRow, 0, 0)], []) = true := by kernel_rfl
theorem k_0_1 : kOk 0 ([(eRow, 1, 1)], []) = true := by kernel_rfl
theorem k_0_2 : kOk 0 ([(eRow, 2, 2)], []) = true := by kernel_rfl
theorem k_0_3 : kOk 0 ([(eRow, 3, 3)], []) = true := by kernel_rfl
theorem k_0_4 : kOk 0 ([(eRow, 4, 4)], []) = true := by kernel_rfl
theorem ks_0 : okKs 0 = true := by kernel_rfl
theorem kn_0 : okKn 0 = true := by kernel_rfl
end Go.Proofs.Ytdngeccbmalbnaa
