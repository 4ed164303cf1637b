/- HelpForms: runs, 1. -/
import Derived.Test.YtdchpckikclmlaaDF
namespace Go.Proofs.Ytdchpckikclmlaa
open Go.Sx Go
set_option maxRecDepth 100000
theorem hf0_1 : okF 0 1 = true := by kernel_rfl
theorem hf1_0 : okF 1 0 = true := by kernel_rfl
theorem hf1_3 : okF 1 3 = true := by kernel_rfl
theorem hf2_2 : okF 2 2 = true := by kernel_rfl
theorem hf3_1 : okF 3 1 = true := by kernel_rfl
theorem hf4_0 : okF 4 0 = true := by kernel_rfl
theorem hf4_3 : okF 4 3 = true := by kernel_rfl
theorem hf5_2 : okF 5 2 = true := by kernel_rfl
theorem hf6_1 : okF 6 1 = true := by kernel_rfl
end Go.Proofs.Ytdchpckikclmlaa
