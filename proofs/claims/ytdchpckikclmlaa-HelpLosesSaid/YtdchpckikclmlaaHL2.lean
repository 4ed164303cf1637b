/- HelpLoses: runs, 2. -/
import Derived.Test.YtdchpckikclmlaaLF
namespace Go.Proofs.Ytdchpckikclmlaa
open Go.Sx Go
set_option maxRecDepth 100000
theorem hl8_5 : okL 8 5 = true := by kernel_rfl
theorem hl8_0 : okL 8 0 = true := by kernel_rfl
theorem hl7_2 : okL 7 2 = true := by kernel_rfl
theorem hl6_3 : okL 6 3 = true := by kernel_rfl
theorem hl5_3 : okL 5 3 = true := by kernel_rfl
theorem hl4_2 : okL 4 2 = true := by kernel_rfl
theorem hl3_0 : okL 3 0 = true := by kernel_rfl
end Go.Proofs.Ytdchpckikclmlaa
