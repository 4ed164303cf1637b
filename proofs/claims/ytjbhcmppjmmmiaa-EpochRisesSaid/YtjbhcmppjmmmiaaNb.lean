/- EpochRises: rounds, part 2. -/
import Derived.Test.YtjbhcmppjmmmiaaN
namespace Go.Proofs.Ytjbhcmppjmmmiaa
open Go.Sx Go
set_option maxRecDepth 100000
theorem n010 : okN3 0 1 0 = true := by kernel_rfl
theorem n100 : okN3 1 0 0 = true := by kernel_rfl
theorem n102 : okN3 1 0 2 = true := by kernel_rfl
theorem n120 : okN3 1 2 0 = true := by kernel_rfl
theorem n210 : okN3 2 1 0 = true := by kernel_rfl
theorem n212 : okN3 2 1 2 = true := by kernel_rfl
theorem n300 : okN3 3 0 0 = true := by kernel_rfl
theorem n302 : okN3 3 0 2 = true := by kernel_rfl
theorem n311 : okN3 3 1 1 = true := by kernel_rfl
theorem n320 : okN3 3 2 0 = true := by kernel_rfl
theorem n410 : okN3 4 1 0 = true := by kernel_rfl
theorem n421 : okN3 4 2 1 = true := by kernel_rfl
theorem n500 : okN3 5 0 0 = true := by kernel_rfl
theorem n502 : okN3 5 0 2 = true := by kernel_rfl
theorem n520 : okN3 5 2 0 = true := by kernel_rfl
theorem n522 : okN3 5 2 2 = true := by kernel_rfl
theorem n610 : okN3 6 1 0 = true := by kernel_rfl
theorem n612 : okN3 6 1 2 = true := by kernel_rfl
theorem n621 : okN3 6 2 1 = true := by kernel_rfl
theorem n700 : okN3 7 0 0 = true := by kernel_rfl
theorem n702 : okN3 7 0 2 = true := by kernel_rfl
theorem n711 : okN3 7 1 1 = true := by kernel_rfl
theorem n720 : okN3 7 2 0 = true := by kernel_rfl
theorem n722 : okN3 7 2 2 = true := by kernel_rfl
end Go.Proofs.Ytjbhcmppjmmmiaa
