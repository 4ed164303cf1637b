/- BodyForms, by its runs. -/
import Derived.Test.YtnfmmiomomgabaaF
namespace Go.Proofs.Ytnfmmiomomgabaa
open Go.Sx Go
set_option maxRecDepth 100000
theorem form_0 : okForm 0 = true := by kernel_rfl
theorem form_1 : okForm 1 = true := by kernel_rfl
theorem form_2 : okForm 2 = true := by kernel_rfl
theorem form_3 : okForm 3 = true := by kernel_rfl
theorem form_4 : okForm 4 = true := by kernel_rfl
theorem form_5 : okForm 5 = true := by kernel_rfl
theorem form_6 : okForm 6 = true := by kernel_rfl
theorem form_7 : okForm 7 = true := by kernel_rfl
theorem form_8 : okForm 8 = true := by kernel_rfl
end Go.Proofs.Ytnfmmiomomgabaa
