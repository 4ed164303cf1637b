/- SkipRaw, operations that may not be. -/
import Derived.Test.YtdngeccbmalbnaaR
namespace Go.Proofs.Ytdngeccbmalbnaa
open Go.Sx Go
set_option maxRecDepth 100000
theorem i_lo : okR ocV [(.var 6, -9223372036854775808, 5)] = true := by kernel_rfl
theorem i_hi : okR ocV [(.var 6, 11, 9223372036854775807)] = true := by kernel_rfl
theorem i_6_7_lo : okR (ocK 6) [(.var 7, -9223372036854775808, -1)] = true := by kernel_rfl
theorem i_6_7_hi : okR (ocK 6) [(.var 7, 5, 9223372036854775807)] = true := by kernel_rfl
theorem i_6_8_lo : okR (ocK 6) [(.var 8, -9223372036854775808, -1)] = true := by kernel_rfl
theorem i_6_8_hi : okR (ocK 6) [(.var 8, 1, 9223372036854775807)] = true := by kernel_rfl
theorem i_6_9_lo : okR (ocK 6) [(.var 9, -9223372036854775808, -1)] = true := by kernel_rfl
theorem i_6_9_hi : okR (ocK 6) [(.var 9, 2, 9223372036854775807)] = true := by kernel_rfl
theorem i_7_7_lo : okR (ocK 7) [(.var 7, -9223372036854775808, -1)] = true := by kernel_rfl
theorem i_7_7_hi : okR (ocK 7) [(.var 7, 5, 9223372036854775807)] = true := by kernel_rfl
theorem i_7_8_lo : okR (ocK 7) [(.var 8, -9223372036854775808, -1)] = true := by kernel_rfl
theorem i_7_8_hi : okR (ocK 7) [(.var 8, 1, 9223372036854775807)] = true := by kernel_rfl
theorem i_7_9_lo : okR (ocK 7) [(.var 9, -9223372036854775808, -1)] = true := by kernel_rfl
theorem i_7_9_hi : okR (ocK 7) [(.var 9, 1, 9223372036854775807)] = true := by kernel_rfl
theorem i_8_7_lo : okR (ocK 8) [(.var 7, -9223372036854775808, -1)] = true := by kernel_rfl
theorem i_8_7_hi : okR (ocK 8) [(.var 7, 5, 9223372036854775807)] = true := by kernel_rfl
theorem i_8_8_lo : okR (ocK 8) [(.var 8, -9223372036854775808, -1)] = true := by kernel_rfl
theorem i_8_8_hi : okR (ocK 8) [(.var 8, 1, 9223372036854775807)] = true := by kernel_rfl
theorem i_8_9_lo : okR (ocK 8) [(.var 9, -9223372036854775808, -1)] = true := by kernel_rfl
theorem i_8_9_hi : okR (ocK 8) [(.var 9, 1, 9223372036854775807)] = true := by kernel_rfl
theorem i_9_7_lo : okR (ocK 9) [(.var 7, -9223372036854775808, -1)] = true := by kernel_rfl
theorem i_9_7_hi : okR (ocK 9) [(.var 7, 1, 9223372036854775807)] = true := by kernel_rfl
theorem i_9_8_lo : okR (ocK 9) [(.var 8, -9223372036854775808, -1)] = true := by kernel_rfl
theorem i_9_8_hi : okR (ocK 9) [(.var 8, 1, 9223372036854775807)] = true := by kernel_rfl
theorem i_9_9_lo : okR (ocK 9) [(.var 9, -9223372036854775808, -1)] = true := by kernel_rfl
theorem i_9_9_hi : okR (ocK 9) [(.var 9, 1, 9223372036854775807)] = true := by kernel_rfl
theorem i_10_7_lo : okR (ocK 10) [(.var 7, -9223372036854775808, -1)] = true := by kernel_rfl
theorem i_10_7_hi : okR (ocK 10) [(.var 7, 5, 9223372036854775807)] = true := by kernel_rfl
theorem i_10_8_lo : okR (ocK 10) [(.var 8, -9223372036854775808, -1)] = true := by kernel_rfl
theorem i_10_8_hi : okR (ocK 10) [(.var 8, 5, 9223372036854775807)] = true := by kernel_rfl
theorem i_10_9_lo : okR (ocK 10) [(.var 9, -9223372036854775808, -1)] = true := by kernel_rfl
theorem i_10_9_hi : okR (ocK 10) [(.var 9, 1, 9223372036854775807)] = true := by kernel_rfl
end Go.Proofs.Ytdngeccbmalbnaa
