/- HelpLoses: runs, 3. -/
import Derived.Test.YtdchpckikclmlaaLF
namespace Go.Proofs.Ytdchpckikclmlaa
open Go.Sx Go
set_option maxRecDepth 100000
theorem hl8_4 : okL 8 4 = true := by kernel_rfl
theorem hl7_6 : okL 7 6 = true := by kernel_rfl
theorem hl7_1 : okL 7 1 = true := by kernel_rfl
theorem hl6_2 : okL 6 2 = true := by kernel_rfl
theorem hl5_2 : okL 5 2 = true := by kernel_rfl
theorem hl4_1 : okL 4 1 = true := by kernel_rfl
theorem hl2_1 : okL 2 1 = true := by kernel_rfl
end Go.Proofs.Ytdchpckikclmlaa
