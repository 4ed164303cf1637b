/- SkipBack's rounds and runs for a key. -/
import Derived.Test.YtdngeccbmalbnaaK
namespace Go.Proofs.Ytdngeccbmalbnaa
open Go.Sx Go
set_option maxRecDepth 100000
theorem k_3_0 : kOk 3 ([(eRow, 0, 0)], []) = true := by kernel_rfl
theorem k_3_1 : kOk 3 ([(eRow, 1, 1)], []) = true := by kernel_rfl
theorem k_3_2 : kOk 3 ([(eRow, 2, 2)], []) = true := by kernel_rfl
theorem k_3_3 : kOk 3 ([(eRow, 3, 3)], []) = true := by kernel_rfl
theorem k_3_4 : kOk 3 ([(eRow, 4, 4)], []) = true := by kernel_rfl
theorem ks_3 : okKs 3 = true := by kernel_rfl
theorem kn_3 : okKn 3 = true := by kernel_rfl
end Go.Proofs.Ytdngeccbmalbnaa
