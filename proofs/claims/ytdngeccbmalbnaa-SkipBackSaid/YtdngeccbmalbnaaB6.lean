/- contracts upon a view of keys, by their runs. -/
import Derived.Test.YtdngeccbmalbnaaBF
namespace Go.Proofs.Ytdngeccbmalbnaa
open Go.Sx Go
set_option maxRecDepth 100000
theorem z_insY4_0_1 : zRun b8 (f_insY4_0.more [.var 20, .not (.var 30)]) = true := by kernel_rfl
theorem z_insN4_0_1 : zRun b8 (f_insN4_0.more [.var 20, .not (.var 30)]) = true := by kernel_rfl
theorem z_eraseY4_1 : zRun b8 (f_eraseY4.more [.var 20, .not (.var 30)]) = true := by kernel_rfl
theorem z_insY3_1_1 : zRun b8 (f_insY3_1.more [.not (.var 20)]) = true := by kernel_rfl
theorem z_insY3_0_1 : zRun b8 (f_insY3_0.more [.not (.var 20)]) = true := by kernel_rfl
theorem z_eraseY3_1 : zRun b8 (f_eraseY3.more [.not (.var 20)]) = true := by kernel_rfl
theorem z_find2_0 : zRun b8 (f_find2.more []) = true := by kernel_rfl
theorem z_eraseY1_0 : zRun b8 (f_eraseY1.more []) = true := by kernel_rfl
theorem z_eraseN0_0 : zRun b8 (f_eraseN0.more []) = true := by kernel_rfl
theorem z_min_2 : zRun b8 (f_min.more [.var 20, .var 21, .not (.var 22), .var 23]) = true := by kernel_rfl
theorem z_min_1 : zRun b8 (f_min.more [.var 20, .var 21, .var 22, .not (.var 23)]) = true := by kernel_rfl
end Go.Proofs.Ytdngeccbmalbnaa
