/- SkipBack's rounds and runs for a key. -/
import Derived.Test.YtdngeccbmalbnaaK
namespace Go.Proofs.Ytdngeccbmalbnaa
open Go.Sx Go
set_option maxRecDepth 100000
theorem k_2_0 : kOk 2 ([(eRow, 0, 0)], []) = true := by kernel_rfl
theorem k_2_1 : kOk 2 ([(eRow, 1, 1)], []) = true := by kernel_rfl
theorem k_2_2 : kOk 2 ([(eRow, 2, 2)], []) = true := by kernel_rfl
theorem k_2_3 : kOk 2 ([(eRow, 3, 3)], []) = true := by kernel_rfl
theorem k_2_4 : kOk 2 ([(eRow, 4, 4)], []) = true := by kernel_rfl
theorem ks_2 : okKs 2 = true := by kernel_rfl
theorem kn_2 : okKn 2 = true := by kernel_rfl
end Go.Proofs.Ytdngeccbmalbnaa
