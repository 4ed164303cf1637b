/- contracts upon a view of keys, by their runs. -/
import Derived.Test.YtdngeccbmalbnaaBF
namespace Go.Proofs.Ytdngeccbmalbnaa
open Go.Sx Go
set_option maxRecDepth 100000
theorem z_insY4_1_0 : zRun b8 (f_insY4_1.more [.var 20, .var 30]) = true := by kernel_rfl
theorem z_insN4_1_0 : zRun b8 (f_insN4_1.more [.var 20, .var 30]) = true := by kernel_rfl
theorem z_find4_0 : zRun b8 (f_find4.more [.var 20, .var 30]) = true := by kernel_rfl
theorem z_eraseN4_0 : zRun b8 (f_eraseN4.more [.var 20, .var 30]) = true := by kernel_rfl
theorem z_find3_0 : zRun b8 (f_find3.more [.var 20]) = true := by kernel_rfl
theorem z_insN2_0_0 : zRun b8 (f_insN2_0.more []) = true := by kernel_rfl
theorem z_find1_0 : zRun b8 (f_find1.more []) = true := by kernel_rfl
theorem z_find0_0 : zRun b8 (f_find0.more []) = true := by kernel_rfl
theorem z_min_4 : zRun b8 (f_min.more [.var 20, .not (.var 21), .var 22, .var 23]) = true := by kernel_rfl
theorem z_min_11 : zRun b8 (f_min.more [.not (.var 20), .var 21, .not (.var 22), .not (.var 23)]) = true := by kernel_rfl
end Go.Proofs.Ytdngeccbmalbnaa
