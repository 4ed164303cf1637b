/- EpochBlocks: runs, part 4. -/
import Derived.Test.YtjbhcmppjmmmiaaB
namespace Go.Proofs.Ytjbhcmppjmmmiaa
open Go.Sx Go
set_option maxRecDepth 100000
theorem b33 : okB 3 3 3 = true := by kernel_rfl
theorem b22 : okB 2 2 2 = true := by kernel_rfl
theorem b11 : okB 1 1 1 = true := by kernel_rfl
theorem b00 : okB 0 0 0 = true := by kernel_rfl
theorem b04 : okB 0 4 hi64 = true := by kernel_rfl
theorem z3 : okZ 3 = true := by kernel_rfl
end Go.Proofs.Ytjbhcmppjmmmiaa
