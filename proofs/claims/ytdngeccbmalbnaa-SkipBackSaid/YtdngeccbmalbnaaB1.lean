/- contracts upon a view of keys, by their runs. -/
import Derived.Test.YtdngeccbmalbnaaBF
namespace Go.Proofs.Ytdngeccbmalbnaa
open Go.Sx Go
set_option maxRecDepth 100000
theorem z_insY4_1_2 : zRun b8 (f_insY4_1.more [.not (.var 20), .var 30]) = true := by kernel_rfl
theorem z_insN4_1_2 : zRun b8 (f_insN4_1.more [.not (.var 20), .var 30]) = true := by kernel_rfl
theorem z_find4_2 : zRun b8 (f_find4.more [.not (.var 20), .var 30]) = true := by kernel_rfl
theorem z_eraseN4_2 : zRun b8 (f_eraseN4.more [.not (.var 20), .var 30]) = true := by kernel_rfl
theorem z_insN3_0_0 : zRun b8 (f_insN3_0.more [.var 20]) = true := by kernel_rfl
theorem z_insY2_0_0 : zRun b8 (f_insY2_0.more []) = true := by kernel_rfl
theorem z_insN1_1_0 : zRun b8 (f_insN1_1.more []) = true := by kernel_rfl
theorem z_insN0_1_0 : zRun b8 (f_insN0_1.more []) = true := by kernel_rfl
theorem z_min_6 : zRun b8 (f_min.more [.var 20, .not (.var 21), .not (.var 22), .var 23]) = true := by kernel_rfl
theorem z_min_13 : zRun b8 (f_min.more [.not (.var 20), .not (.var 21), .var 22, .not (.var 23)]) = true := by kernel_rfl
end Go.Proofs.Ytdngeccbmalbnaa
