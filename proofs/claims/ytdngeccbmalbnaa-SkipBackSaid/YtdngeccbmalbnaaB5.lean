/- contracts upon a view of keys, by their runs. -/
import Derived.Test.YtdngeccbmalbnaaBF
namespace Go.Proofs.Ytdngeccbmalbnaa
open Go.Sx Go
set_option maxRecDepth 100000
theorem z_insY4_0_2 : zRun b8 (f_insY4_0.more [.not (.var 20), .var 30]) = true := by kernel_rfl
theorem z_insN4_0_2 : zRun b8 (f_insN4_0.more [.not (.var 20), .var 30]) = true := by kernel_rfl
theorem z_eraseY4_2 : zRun b8 (f_eraseY4.more [.not (.var 20), .var 30]) = true := by kernel_rfl
theorem z_range_0 : zRun b8 (f_range.more [.var 20]) = true := by kernel_rfl
theorem z_insN3_1_0 : zRun b8 (f_insN3_1.more [.var 20]) = true := by kernel_rfl
theorem z_eraseN3_0 : zRun b8 (f_eraseN3.more [.var 20]) = true := by kernel_rfl
theorem z_insY1_1_0 : zRun b8 (f_insY1_1.more []) = true := by kernel_rfl
theorem z_insY0_1_0 : zRun b8 (f_insY0_1.more []) = true := by kernel_rfl
theorem z_eraseY0_0 : zRun b8 (f_eraseY0.more []) = true := by kernel_rfl
theorem z_min_3 : zRun b8 (f_min.more [.var 20, .var 21, .not (.var 22), .not (.var 23)]) = true := by kernel_rfl
theorem z_min_10 : zRun b8 (f_min.more [.not (.var 20), .var 21, .not (.var 22), .var 23]) = true := by kernel_rfl
end Go.Proofs.Ytdngeccbmalbnaa
