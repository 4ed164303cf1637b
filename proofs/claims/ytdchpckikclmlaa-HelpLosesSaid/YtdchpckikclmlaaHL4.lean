/- HelpLoses: runs, 4. -/
import Derived.Test.YtdchpckikclmlaaLF
namespace Go.Proofs.Ytdchpckikclmlaa
open Go.Sx Go
set_option maxRecDepth 100000
theorem hl8_3 : okL 8 3 = true := by kernel_rfl
theorem hl7_5 : okL 7 5 = true := by kernel_rfl
theorem hl7_0 : okL 7 0 = true := by kernel_rfl
theorem hl6_1 : okL 6 1 = true := by kernel_rfl
theorem hl5_1 : okL 5 1 = true := by kernel_rfl
theorem hl4_0 : okL 4 0 = true := by kernel_rfl
theorem hl2_0 : okL 2 0 = true := by kernel_rfl
theorem hl0t : okL0 true = true := by kernel_rfl
theorem hl0f : okL0 false = true := by kernel_rfl
end Go.Proofs.Ytdchpckikclmlaa
