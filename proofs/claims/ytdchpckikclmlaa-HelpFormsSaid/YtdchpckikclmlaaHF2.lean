/- HelpForms: runs, 2. -/
import Derived.Test.YtdchpckikclmlaaDF
namespace Go.Proofs.Ytdchpckikclmlaa
open Go.Sx Go
set_option maxRecDepth 100000
theorem hf0_2 : okF 0 2 = true := by kernel_rfl
theorem hf1_1 : okF 1 1 = true := by kernel_rfl
theorem hf2_0 : okF 2 0 = true := by kernel_rfl
theorem hf2_3 : okF 2 3 = true := by kernel_rfl
theorem hf3_2 : okF 3 2 = true := by kernel_rfl
theorem hf4_1 : okF 4 1 = true := by kernel_rfl
theorem hf5_0 : okF 5 0 = true := by kernel_rfl
theorem hf5_3 : okF 5 3 = true := by kernel_rfl
theorem hf6_2 : okF 6 2 = true := by kernel_rfl
end Go.Proofs.Ytdchpckikclmlaa
