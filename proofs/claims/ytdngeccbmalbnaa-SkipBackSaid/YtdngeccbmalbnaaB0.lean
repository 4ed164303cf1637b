/- contracts upon a view of keys, by their runs. -/
import Derived.Test.YtdngeccbmalbnaaBF
namespace Go.Proofs.Ytdngeccbmalbnaa
open Go.Sx Go
set_option maxRecDepth 100000
theorem z_insY4_1_3 : zRun b8 (f_insY4_1.more [.not (.var 20), .not (.var 30)]) = true := by kernel_rfl
theorem z_insN4_1_3 : zRun b8 (f_insN4_1.more [.not (.var 20), .not (.var 30)]) = true := by kernel_rfl
theorem z_find4_3 : zRun b8 (f_find4.more [.not (.var 20), .not (.var 30)]) = true := by kernel_rfl
theorem z_eraseN4_3 : zRun b8 (f_eraseN4.more [.not (.var 20), .not (.var 30)]) = true := by kernel_rfl
theorem z_insN3_0_1 : zRun b8 (f_insN3_0.more [.not (.var 20)]) = true := by kernel_rfl
theorem z_insY2_1_0 : zRun b8 (f_insY2_1.more []) = true := by kernel_rfl
theorem z_insY1_0_0 : zRun b8 (f_insY1_0.more []) = true := by kernel_rfl
theorem z_insY0_0_0 : zRun b8 (f_insY0_0.more []) = true := by kernel_rfl
theorem z_min_7 : zRun b8 (f_min.more [.var 20, .not (.var 21), .not (.var 22), .not (.var 23)]) = true := by kernel_rfl
theorem z_min_14 : zRun b8 (f_min.more [.not (.var 20), .not (.var 21), .not (.var 22), .var 23]) = true := by kernel_rfl
end Go.Proofs.Ytdngeccbmalbnaa
