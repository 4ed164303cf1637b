/- BodyForms, by its runs. -/
import Derived.Test.YtnfmmiomomgabaaF
namespace Go.Proofs.Ytnfmmiomomgabaa
open Go.Sx Go
set_option maxRecDepth 100000
theorem form_9 : okForm 9 = true := by kernel_rfl
theorem form_10 : okForm 10 = true := by kernel_rfl
theorem form_11 : okForm 11 = true := by kernel_rfl
theorem form_12 : okForm 12 = true := by kernel_rfl
theorem form_13 : okForm 13 = true := by kernel_rfl
theorem form_14 : okForm 14 = true := by kernel_rfl
theorem form_15 : okForm 15 = true := by kernel_rfl
theorem form_16 : okForm 16 = true := by kernel_rfl
theorem form_17 : okForm 17 = true := by kernel_rfl
end Go.Proofs.Ytnfmmiomomgabaa
