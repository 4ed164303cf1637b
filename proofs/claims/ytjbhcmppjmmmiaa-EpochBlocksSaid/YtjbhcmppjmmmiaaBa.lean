/- EpochBlocks: runs, part 1. -/
import Derived.Test.YtjbhcmppjmmmiaaB
namespace Go.Proofs.Ytjbhcmppjmmmiaa
open Go.Sx Go
set_option maxRecDepth 100000
theorem b30 : okB 3 0 0 = true := by kernel_rfl
theorem b34 : okB 3 4 hi64 = true := by kernel_rfl
theorem b23 : okB 2 3 3 = true := by kernel_rfl
theorem b12 : okB 1 2 2 = true := by kernel_rfl
theorem b01 : okB 0 1 1 = true := by kernel_rfl
theorem z0 : okZ 0 = true := by kernel_rfl
end Go.Proofs.Ytjbhcmppjmmmiaa
