/- EpochRises: rounds, part 1. -/
import Derived.Test.YtjbhcmppjmmmiaaN
namespace Go.Proofs.Ytjbhcmppjmmmiaa
open Go.Sx Go
set_option maxRecDepth 100000
theorem n000 : okN3 0 0 0 = true := by kernel_rfl
theorem n020 : okN3 0 2 0 = true := by kernel_rfl
theorem n101 : okN3 1 0 1 = true := by kernel_rfl
theorem n110 : okN3 1 1 0 = true := by kernel_rfl
theorem n200 : okN3 2 0 0 = true := by kernel_rfl
theorem n211 : okN3 2 1 1 = true := by kernel_rfl
theorem n220 : okN3 2 2 0 = true := by kernel_rfl
theorem n301 : okN3 3 0 1 = true := by kernel_rfl
theorem n310 : okN3 3 1 0 = true := by kernel_rfl
theorem n312 : okN3 3 1 2 = true := by kernel_rfl
theorem n400 : okN3 4 0 0 = true := by kernel_rfl
theorem n420 : okN3 4 2 0 = true := by kernel_rfl
theorem n422 : okN3 4 2 2 = true := by kernel_rfl
theorem n501 : okN3 5 0 1 = true := by kernel_rfl
theorem n510 : okN3 5 1 0 = true := by kernel_rfl
theorem n521 : okN3 5 2 1 = true := by kernel_rfl
theorem n600 : okN3 6 0 0 = true := by kernel_rfl
theorem n611 : okN3 6 1 1 = true := by kernel_rfl
theorem n620 : okN3 6 2 0 = true := by kernel_rfl
theorem n622 : okN3 6 2 2 = true := by kernel_rfl
theorem n701 : okN3 7 0 1 = true := by kernel_rfl
theorem n710 : okN3 7 1 0 = true := by kernel_rfl
theorem n712 : okN3 7 1 2 = true := by kernel_rfl
theorem n721 : okN3 7 2 1 = true := by kernel_rfl
end Go.Proofs.Ytjbhcmppjmmmiaa
