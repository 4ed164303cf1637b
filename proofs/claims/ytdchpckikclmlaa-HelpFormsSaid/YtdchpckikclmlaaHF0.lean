/- HelpForms: runs, 0. -/
import Derived.Test.YtdchpckikclmlaaDF
namespace Go.Proofs.Ytdchpckikclmlaa
open Go.Sx Go
set_option maxRecDepth 100000
theorem hf0_0 : okF 0 0 = true := by kernel_rfl
theorem hf0_3 : okF 0 3 = true := by kernel_rfl
theorem hf1_2 : okF 1 2 = true := by kernel_rfl
theorem hf2_1 : okF 2 1 = true := by kernel_rfl
theorem hf3_0 : okF 3 0 = true := by kernel_rfl
theorem hf3_3 : okF 3 3 = true := by kernel_rfl
theorem hf4_2 : okF 4 2 = true := by kernel_rfl
theorem hf5_1 : okF 5 1 = true := by kernel_rfl
theorem hf6_0 : okF 6 0 = true := by kernel_rfl
theorem hf6_3 : okF 6 3 = true := by kernel_rfl
end Go.Proofs.Ytdchpckikclmlaa
