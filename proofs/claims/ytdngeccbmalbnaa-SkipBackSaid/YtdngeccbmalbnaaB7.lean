/- contracts upon a view of keys, by their runs. -/
import Derived.Test.YtdngeccbmalbnaaBF
namespace Go.Proofs.Ytdngeccbmalbnaa
open Go.Sx Go
set_option maxRecDepth 100000
theorem z_insY4_0_0 : zRun b8 (f_insY4_0.more [.var 20, .var 30]) = true := by kernel_rfl
theorem z_insN4_0_0 : zRun b8 (f_insN4_0.more [.var 20, .var 30]) = true := by kernel_rfl
theorem z_eraseY4_0 : zRun b8 (f_eraseY4.more [.var 20, .var 30]) = true := by kernel_rfl
theorem z_insY3_1_0 : zRun b8 (f_insY3_1.more [.var 20]) = true := by kernel_rfl
theorem z_insY3_0_0 : zRun b8 (f_insY3_0.more [.var 20]) = true := by kernel_rfl
theorem z_eraseY3_0 : zRun b8 (f_eraseY3.more [.var 20]) = true := by kernel_rfl
theorem z_eraseY2_0 : zRun b8 (f_eraseY2.more []) = true := by kernel_rfl
theorem z_eraseN1_0 : zRun b8 (f_eraseN1.more []) = true := by kernel_rfl
theorem z_min_9 : zRun b8 (f_min.more [.not (.var 20), .var 21, .var 22, .not (.var 23)]) = true := by kernel_rfl
theorem z_min_8 : zRun b8 (f_min.more [.not (.var 20), .var 21, .var 22, .var 23]) = true := by kernel_rfl
theorem z_min_15 : zRun b8 (f_min.more [.not (.var 20), .not (.var 21), .not (.var 22), .not (.var 23)]) = true := by kernel_rfl
theorem z_min_0 : zRun b8 (f_min.more [.var 20, .var 21, .var 22, .var 23]) = true := by kernel_rfl
end Go.Proofs.Ytdngeccbmalbnaa
