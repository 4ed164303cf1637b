/- contracts upon a view of keys, by their runs. -/
import Derived.Test.YtdngeccbmalbnaaBF
namespace Go.Proofs.Ytdngeccbmalbnaa
open Go.Sx Go
set_option maxRecDepth 100000
theorem z_insY4_1_1 : zRun b8 (f_insY4_1.more [.var 20, .not (.var 30)]) = true := by kernel_rfl
theorem z_insN4_1_1 : zRun b8 (f_insN4_1.more [.var 20, .not (.var 30)]) = true := by kernel_rfl
theorem z_find4_1 : zRun b8 (f_find4.more [.var 20, .not (.var 30)]) = true := by kernel_rfl
theorem z_eraseN4_1 : zRun b8 (f_eraseN4.more [.var 20, .not (.var 30)]) = true := by kernel_rfl
theorem z_find3_1 : zRun b8 (f_find3.more [.not (.var 20)]) = true := by kernel_rfl
theorem z_insN2_1_0 : zRun b8 (f_insN2_1.more []) = true := by kernel_rfl
theorem z_insN1_0_0 : zRun b8 (f_insN1_0.more []) = true := by kernel_rfl
theorem z_insN0_0_0 : zRun b8 (f_insN0_0.more []) = true := by kernel_rfl
theorem z_min_5 : zRun b8 (f_min.more [.var 20, .not (.var 21), .var 22, .not (.var 23)]) = true := by kernel_rfl
theorem z_min_12 : zRun b8 (f_min.more [.not (.var 20), .not (.var 21), .var 22, .var 23]) = true := by kernel_rfl
end Go.Proofs.Ytdngeccbmalbnaa
