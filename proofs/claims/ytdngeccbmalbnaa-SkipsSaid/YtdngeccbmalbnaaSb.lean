/- Skips, by its runs. -/
import Derived.Test.YtdngeccbmalbnaaS
namespace Go.Proofs.Ytdngeccbmalbnaa
open Go.Sx Go
set_option maxRecDepth 100000
theorem lb_8 : okSb (oaK 8) [] = true := by kernel_rfl
theorem li_lo : okSi oaV [(.var 10, lo64, 5)] = true := by kernel_rfl
theorem ls_6_3_0_1 : okS 6 3 0 1 = true := by kernel_rfl
theorem ls_6_2_0_1 : okS 6 2 0 1 = true := by kernel_rfl
theorem ls_10_4_3_0 : okS 10 4 3 0 = true := by kernel_rfl
theorem ls_10_4_0_0 : okS 10 4 0 0 = true := by kernel_rfl
theorem ls_10_3_1_0 : okS 10 3 1 0 = true := by kernel_rfl
theorem ls_6_1_0_1 : okS 6 1 0 1 = true := by kernel_rfl
theorem ls_10_2_2_0 : okS 10 2 2 0 = true := by kernel_rfl
theorem ls_8_2_0_0 : okS 8 2 0 0 = true := by kernel_rfl
theorem ls_10_1_2_0 : okS 10 1 2 0 = true := by kernel_rfl
theorem li_9_13_hi : okSi (oaK 9) [(.var 13, 1, hi64)] = true := by kernel_rfl
theorem li_9_11_hi : okSi (oaK 9) [(.var 11, 1, hi64)] = true := by kernel_rfl
theorem li_8_12_hi : okSi (oaK 8) [(.var 12, 1, hi64)] = true := by kernel_rfl
theorem li_7_13_hi : okSi (oaK 7) [(.var 13, 1, hi64)] = true := by kernel_rfl
theorem li_7_11_hi : okSi (oaK 7) [(.var 11, 5, hi64)] = true := by kernel_rfl
theorem li_6_12_hi : okSi (oaK 6) [(.var 12, 1, hi64)] = true := by kernel_rfl
theorem li_10_13_hi : okSi (oaK 10) [(.var 13, 1, hi64)] = true := by kernel_rfl
theorem li_10_11_hi : okSi (oaK 10) [(.var 11, 5, hi64)] = true := by kernel_rfl
theorem ls_7_0_0_0 : okS 7 0 0 0 = true := by kernel_rfl
theorem ls_10_0_3_0 : okS 10 0 3 0 = true := by kernel_rfl
theorem li_hi : okSi oaV [(.var 10, 11, hi64)] = true := by kernel_rfl
end Go.Proofs.Ytdngeccbmalbnaa
