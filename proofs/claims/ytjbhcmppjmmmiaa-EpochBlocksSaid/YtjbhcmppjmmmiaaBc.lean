/- EpochBlocks: runs, part 3. -/
import Derived.Test.YtjbhcmppjmmmiaaB
namespace Go.Proofs.Ytjbhcmppjmmmiaa
open Go.Sx Go
set_option maxRecDepth 100000
theorem b32 : okB 3 2 2 = true := by kernel_rfl
theorem b21 : okB 2 1 1 = true := by kernel_rfl
theorem b10 : okB 1 0 0 = true := by kernel_rfl
theorem b14 : okB 1 4 hi64 = true := by kernel_rfl
theorem b03 : okB 0 3 3 = true := by kernel_rfl
theorem z2 : okZ 2 = true := by kernel_rfl
end Go.Proofs.Ytjbhcmppjmmmiaa
