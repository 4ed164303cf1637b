/- LimboEmpties, by its runs. -/
import Derived.Test.YtoemdbongkkmjaaB
namespace Go.Proofs.Ytoemdbongkkmjaa
open Go.Sx Go
set_option maxRecDepth 100000
noncomputable def okEm (n h : Int) : Bool := allOf (funB spB 7 [slW 10, vi 1] (slMem [enW 10] ((.var 12, n, h) :: faW 10) 60)) isTrue
theorem em0 : okEm 0 0 = true := by kernel_rfl
theorem em1 : okEm 1 1 = true := by kernel_rfl
theorem em2 : okEm 2 2 = true := by kernel_rfl
theorem em3 : okEm 3 3 = true := by kernel_rfl
theorem em4 : okEm 4 4 = true := by kernel_rfl
theorem em5 : okEm 5 5 = true := by kernel_rfl
theorem em6 : okEm 6 6 = true := by kernel_rfl
theorem em7 : okEm 7 7 = true := by kernel_rfl
theorem em8 : okEm 8 8 = true := by kernel_rfl
theorem em9 : okEm 9 9 = true := by kernel_rfl
theorem em10 : okEm 10 10 = true := by kernel_rfl
theorem em11 : okEm 11 11 = true := by kernel_rfl
theorem em12 : okEm 12 hi64 = true := by kernel_rfl
theorem emn : allOf (funB spB 7 [.nils, vi 1] (slMem [] [] 60)) isTrue = true := by kernel_rfl
end Go.Proofs.Ytoemdbongkkmjaa
