/- contracts upon a view of keys, by their runs. -/
import Derived.Test.YtdngeccbmalbnaaBF
namespace Go.Proofs.Ytdngeccbmalbnaa
open Go.Sx Go
set_option maxRecDepth 100000
theorem z_insY4_0_3 : zRun b8 (f_insY4_0.more [.not (.var 20), .not (.var 30)]) = true := by kernel_rfl
theorem z_insN4_0_3 : zRun b8 (f_insN4_0.more [.not (.var 20), .not (.var 30)]) = true := by kernel_rfl
theorem z_eraseY4_3 : zRun b8 (f_eraseY4.more [.not (.var 20), .not (.var 30)]) = true := by kernel_rfl
theorem z_range_1 : zRun b8 (f_range.more [.not (.var 20)]) = true := by kernel_rfl
theorem z_insN3_1_1 : zRun b8 (f_insN3_1.more [.not (.var 20)]) = true := by kernel_rfl
theorem z_eraseN3_1 : zRun b8 (f_eraseN3.more [.not (.var 20)]) = true := by kernel_rfl
theorem z_eraseN2_0 : zRun b8 (f_eraseN2.more []) = true := by kernel_rfl
end Go.Proofs.Ytdngeccbmalbnaa
