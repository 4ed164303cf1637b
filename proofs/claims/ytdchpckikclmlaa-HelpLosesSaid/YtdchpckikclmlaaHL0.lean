/- HelpLoses: runs, 0. -/
import Derived.Test.YtdchpckikclmlaaLF
namespace Go.Proofs.Ytdchpckikclmlaa
open Go.Sx Go
set_option maxRecDepth 100000
theorem hl8_7 : okL 8 7 = true := by kernel_rfl
theorem hl8_2 : okL 8 2 = true := by kernel_rfl
theorem hl7_4 : okL 7 4 = true := by kernel_rfl
theorem hl6_5 : okL 6 5 = true := by kernel_rfl
theorem hl6_0 : okL 6 0 = true := by kernel_rfl
theorem hl5_0 : okL 5 0 = true := by kernel_rfl
theorem hl3_2 : okL 3 2 = true := by kernel_rfl
theorem hl1_0 : okL 1 0 = true := by kernel_rfl
end Go.Proofs.Ytdchpckikclmlaa
