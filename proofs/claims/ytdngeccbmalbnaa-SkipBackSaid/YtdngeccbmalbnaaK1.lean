/- SkipBack's rounds and runs for a key. -/
import Derived.Test.YtdngeccbmalbnaaK
namespace Go.Proofs.Ytdngeccbmalbnaa
open Go.Sx Go
set_option maxRecDepth 100000
theorem k_1_0 : kOk 1 ([(eRow, 0, 0)], []) = true := by kernel_rfl
theorem k_1_1 : kOk 1 ([(eRow, 1, 1)], []) = true := by kernel_rfl
theorem k_1_2 : kOk 1 ([(eRow, 2, 2)], []) = true := by kernel_rfl
theorem k_1_3 : kOk 1 ([(eRow, 3, 3)], []) = true := by kernel_rfl
theorem k_1_4 : kOk 1 ([(eRow, 4, 4)], []) = true := by kernel_rfl
theorem ks_1 : okKs 1 = true := by kernel_rfl
theorem kn_1 : okKn 1 = true := by kernel_rfl
end Go.Proofs.Ytdngeccbmalbnaa
