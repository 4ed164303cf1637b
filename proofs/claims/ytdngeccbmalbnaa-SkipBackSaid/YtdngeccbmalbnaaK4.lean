/- SkipBack's rounds and runs for a key. -/
import Derived.Test.YtdngeccbmalbnaaK
namespace Go.Proofs.Ytdngeccbmalbnaa
open Go.Sx Go
set_option maxRecDepth 100000
theorem k_4_0 : kOk 4 ([(eRow, 0, 0)], []) = true := by kernel_rfl
theorem k_4_1 : kOk 4 ([(eRow, 1, 1)], []) = true := by kernel_rfl
theorem k_4_2 : kOk 4 ([(eRow, 2, 2)], []) = true := by kernel_rfl
theorem k_4_3 : kOk 4 ([(eRow, 3, 3)], []) = true := by kernel_rfl
theorem k_4_4 : kOk 4 ([(eRow, 4, 4)], []) = true := by kernel_rfl
theorem ks_4 : okKs 4 = true := by kernel_rfl
theorem kn_4 : okKn 4 = true := by kernel_rfl
end Go.Proofs.Ytdngeccbmalbnaa
