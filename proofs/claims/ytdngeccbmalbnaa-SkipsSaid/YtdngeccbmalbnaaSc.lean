/- Skips, by its runs. -/
import Derived.Test.YtdngeccbmalbnaaS
namespace Go.Proofs.Ytdngeccbmalbnaa
open Go.Sx Go
set_option maxRecDepth 100000
theorem lb_7 : okSb (oaK 7) [] = true := by kernel_rfl
theorem lb_lo : okSb oaV [(.var 10, lo64, 5)] = true := by kernel_rfl
theorem ls_7_4_0_0 : okS 7 4 0 0 = true := by kernel_rfl
theorem ls_6_4_0_0 : okS 6 4 0 0 = true := by kernel_rfl
theorem ls_7_2_0_0 : okS 7 2 0 0 = true := by kernel_rfl
theorem ls_6_2_0_0 : okS 6 2 0 0 = true := by kernel_rfl
theorem ls_10_4_1_0 : okS 10 4 1 0 = true := by kernel_rfl
theorem ls_10_3_2_0 : okS 10 3 2 0 = true := by kernel_rfl
theorem ls_7_1_0_0 : okS 7 1 0 0 = true := by kernel_rfl
theorem ls_10_2_3_0 : okS 10 2 3 0 = true := by kernel_rfl
theorem ls_8_3_0_0 : okS 8 3 0 0 = true := by kernel_rfl
theorem ls_10_1_1_0 : okS 10 1 1 0 = true := by kernel_rfl
theorem li_9_12_lo : okSi (oaK 9) [(.var 12, lo64, (-1))] = true := by kernel_rfl
theorem li_8_13_lo : okSi (oaK 8) [(.var 13, lo64, (-1))] = true := by kernel_rfl
theorem li_8_11_lo : okSi (oaK 8) [(.var 11, lo64, (-1))] = true := by kernel_rfl
theorem li_7_12_lo : okSi (oaK 7) [(.var 12, lo64, (-1))] = true := by kernel_rfl
theorem li_6_13_lo : okSi (oaK 6) [(.var 13, lo64, (-1))] = true := by kernel_rfl
theorem li_6_11_lo : okSi (oaK 6) [(.var 11, lo64, (-1))] = true := by kernel_rfl
theorem li_10_12_lo : okSi (oaK 10) [(.var 12, lo64, (-1))] = true := by kernel_rfl
theorem ls_8_1_0_0 : okS 8 1 0 0 = true := by kernel_rfl
theorem ls_6_0_0_1 : okS 6 0 0 1 = true := by kernel_rfl
theorem ls_10_0_2_0 : okS 10 0 2 0 = true := by kernel_rfl
end Go.Proofs.Ytdngeccbmalbnaa
