/- HelpLoses: runs, 1. -/
import Derived.Test.YtdchpckikclmlaaLF
namespace Go.Proofs.Ytdchpckikclmlaa
open Go.Sx Go
set_option maxRecDepth 100000
theorem hl8_6 : okL 8 6 = true := by kernel_rfl
theorem hl8_1 : okL 8 1 = true := by kernel_rfl
theorem hl7_3 : okL 7 3 = true := by kernel_rfl
theorem hl6_4 : okL 6 4 = true := by kernel_rfl
theorem hl5_4 : okL 5 4 = true := by kernel_rfl
theorem hl4_3 : okL 4 3 = true := by kernel_rfl
theorem hl3_1 : okL 3 1 = true := by kernel_rfl
end Go.Proofs.Ytdchpckikclmlaa
