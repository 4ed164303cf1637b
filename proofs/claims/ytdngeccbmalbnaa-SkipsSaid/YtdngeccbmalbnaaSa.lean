/- Skips, by its runs. -/
import Derived.Test.YtdngeccbmalbnaaS
namespace Go.Proofs.Ytdngeccbmalbnaa
open Go.Sx Go
set_option maxRecDepth 100000
theorem lb_9 : okSb (oaK 9) [] = true := by kernel_rfl
theorem lb_10 : okSb (oaK 10) [] = true := by kernel_rfl
theorem ls_10_3_4_0 : okS 10 3 4 0 = true := by kernel_rfl
theorem ls_10_3_0_0 : okS 10 3 0 0 = true := by kernel_rfl
theorem ls_6_1_0_0 : okS 6 1 0 0 = true := by kernel_rfl
theorem ls_10_2_1_0 : okS 10 2 1 0 = true := by kernel_rfl
theorem ls_10_1_4_0 : okS 10 1 4 0 = true := by kernel_rfl
theorem ls_10_1_0_0 : okS 10 1 0 0 = true := by kernel_rfl
theorem li_9_12_hi : okSi (oaK 9) [(.var 12, 1, hi64)] = true := by kernel_rfl
theorem li_8_13_hi : okSi (oaK 8) [(.var 13, 1, hi64)] = true := by kernel_rfl
theorem li_8_11_hi : okSi (oaK 8) [(.var 11, 5, hi64)] = true := by kernel_rfl
theorem li_7_12_hi : okSi (oaK 7) [(.var 12, 1, hi64)] = true := by kernel_rfl
theorem li_6_13_hi : okSi (oaK 6) [(.var 13, 2, hi64)] = true := by kernel_rfl
theorem li_6_11_hi : okSi (oaK 6) [(.var 11, 5, hi64)] = true := by kernel_rfl
theorem li_10_12_hi : okSi (oaK 10) [(.var 12, 5, hi64)] = true := by kernel_rfl
theorem ls_9_0_0_0 : okS 9 0 0 0 = true := by kernel_rfl
theorem ls_6_0_0_0 : okS 6 0 0 0 = true := by kernel_rfl
theorem ls_10_0_1_0 : okS 10 0 1 0 = true := by kernel_rfl
end Go.Proofs.Ytdngeccbmalbnaa
