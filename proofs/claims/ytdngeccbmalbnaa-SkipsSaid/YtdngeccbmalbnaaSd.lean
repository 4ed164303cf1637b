/- Skips, by its runs. -/
import Derived.Test.YtdngeccbmalbnaaS
namespace Go.Proofs.Ytdngeccbmalbnaa
open Go.Sx Go
set_option maxRecDepth 100000
theorem lb_6 : okSb (oaK 6) [] = true := by kernel_rfl
theorem lb_hi : okSb oaV [(.var 10, 11, hi64)] = true := by kernel_rfl
theorem ls_6_4_0_1 : okS 6 4 0 1 = true := by kernel_rfl
theorem ls_7_3_0_0 : okS 7 3 0 0 = true := by kernel_rfl
theorem ls_6_3_0_0 : okS 6 3 0 0 = true := by kernel_rfl
theorem ls_10_4_4_0 : okS 10 4 4 0 = true := by kernel_rfl
theorem ls_10_4_2_0 : okS 10 4 2 0 = true := by kernel_rfl
theorem ls_10_3_3_0 : okS 10 3 3 0 = true := by kernel_rfl
theorem ls_8_4_0_0 : okS 8 4 0 0 = true := by kernel_rfl
theorem ls_10_2_4_0 : okS 10 2 4 0 = true := by kernel_rfl
theorem ls_10_2_0_0 : okS 10 2 0 0 = true := by kernel_rfl
theorem ls_10_1_3_0 : okS 10 1 3 0 = true := by kernel_rfl
theorem li_9_13_lo : okSi (oaK 9) [(.var 13, lo64, (-1))] = true := by kernel_rfl
theorem li_9_11_lo : okSi (oaK 9) [(.var 11, lo64, (-1))] = true := by kernel_rfl
theorem li_8_12_lo : okSi (oaK 8) [(.var 12, lo64, (-1))] = true := by kernel_rfl
theorem li_7_13_lo : okSi (oaK 7) [(.var 13, lo64, (-1))] = true := by kernel_rfl
theorem li_7_11_lo : okSi (oaK 7) [(.var 11, lo64, (-1))] = true := by kernel_rfl
theorem li_6_12_lo : okSi (oaK 6) [(.var 12, lo64, (-1))] = true := by kernel_rfl
theorem li_10_13_lo : okSi (oaK 10) [(.var 13, lo64, (-1))] = true := by kernel_rfl
theorem li_10_11_lo : okSi (oaK 10) [(.var 11, lo64, (-1))] = true := by kernel_rfl
theorem ls_8_0_0_0 : okS 8 0 0 0 = true := by kernel_rfl
theorem ls_10_0_4_0 : okS 10 0 4 0 = true := by kernel_rfl
theorem ls_10_0_0_0 : okS 10 0 0 0 = true := by kernel_rfl
end Go.Proofs.Ytdngeccbmalbnaa
