/- the shelf: all runs. -/
import Derived.Test.YtdchpckikclmlaaSQ0
import Derived.Test.YtdchpckikclmlaaSQ1
import Derived.Test.YtdchpckikclmlaaSQ2
import Derived.Test.YtdchpckikclmlaaSQ3
namespace Go.Proofs.Ytdchpckikclmlaa
open Go.Sx Go
set_option maxRecDepth 100000
theorem shAll : ∀ k, k ≤ 16 → okSh k = true := fun k hk => by
 rcases (by omega : k = 0 ∨ k = 1 ∨ k = 2 ∨ k = 3 ∨ k = 4 ∨ k = 5 ∨ k = 6 ∨ k = 7 ∨ k = 8 ∨ k = 9 ∨ k = 10 ∨ k = 11 ∨ k = 12 ∨ k = 13 ∨ k = 14 ∨ k = 15 ∨ k = 16) with rfl | rfl | rfl | rfl | rfl | rfl | rfl | rfl | rfl | rfl | rfl | rfl | rfl | rfl | rfl | rfl | rfl
 ·exact sh_0
 ·exact sh_1
 ·exact sh_2
 ·exact sh_3
 ·exact sh_4
 ·exact sh_5
 ·exact sh_6
 ·exact sh_7
 ·exact sh_8
 ·exact sh_9
 ·exact sh_10
 ·exact sh_11
 ·exact sh_12
 ·exact sh_13
 ·exact sh_14
 ·exact sh_15
 ·exact sh_16
end Go.Proofs.Ytdchpckikclmlaa
