/- EpochBlocks: runs, part 2. -/
import Derived.Test.YtjbhcmppjmmmiaaB
namespace Go.Proofs.Ytjbhcmppjmmmiaa
open Go.Sx Go
set_option maxRecDepth 100000
theorem b31 : okB 3 1 1 = true := by kernel_rfl
theorem b20 : okB 2 0 0 = true := by kernel_rfl
theorem b24 : okB 2 4 hi64 = true := by kernel_rfl
theorem b13 : okB 1 3 3 = true := by kernel_rfl
theorem b02 : okB 0 2 2 = true := by kernel_rfl
theorem z1 : okZ 1 = true := by kernel_rfl
end Go.Proofs.Ytjbhcmppjmmmiaa
