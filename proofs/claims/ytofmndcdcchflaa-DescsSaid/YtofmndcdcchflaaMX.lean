/- may: its contract, of the program's and the reference's. -/
import Derived.Test.YtofmndcdcchflaaMY
import Derived.Test.YtofmndcdcchflaaMQa
import Derived.Test.YtofmndcdcchflaaMQb
import Derived.Test.YtofmndcdcchflaaMQc
namespace Go.Proofs.Ytofmndcdcchflaa
open Go.Sx Go Go.DescNum
set_option maxRecDepth 100000
theorem sem32 : SemMay 32 := sem_may fun k hk => by
 rcases (by omega : k = 0 ∨ k = 1 ∨ k = 2 ∨ k = 3 ∨ k = 4 ∨ k = 5 ∨ k = 6 ∨ k = 7 ∨ k = 8 ∨ k = 9 ∨ k = 10 ∨ k = 11 ∨ k = 12 ∨ k = 13 ∨ k = 14 ∨ k = 15 ∨ k = 16) with rfl | rfl | rfl | rfl | rfl | rfl | rfl | rfl | rfl | rfl | rfl | rfl | rfl | rfl | rfl | rfl | rfl
 ·exact may32_0
 ·exact may32_1
 ·exact may32_2
 ·exact may32_3
 ·exact may32_4
 ·exact may32_5
 ·exact may32_6
 ·exact may32_7
 ·exact may32_8
 ·exact may32_9
 ·exact may32_10
 ·exact may32_11
 ·exact may32_12
 ·exact may32_13
 ·exact may32_14
 ·exact may32_15
 ·exact may32_16
theorem sem35 : SemMay 35 := sem_may fun k hk => by
 rcases (by omega : k = 0 ∨ k = 1 ∨ k = 2 ∨ k = 3 ∨ k = 4 ∨ k = 5 ∨ k = 6 ∨ k = 7 ∨ k = 8 ∨ k = 9 ∨ k = 10 ∨ k = 11 ∨ k = 12 ∨ k = 13 ∨ k = 14 ∨ k = 15 ∨ k = 16) with rfl | rfl | rfl | rfl | rfl | rfl | rfl | rfl | rfl | rfl | rfl | rfl | rfl | rfl | rfl | rfl | rfl
 ·exact may35_0
 ·exact may35_1
 ·exact may35_2
 ·exact may35_3
 ·exact may35_4
 ·exact may35_5
 ·exact may35_6
 ·exact may35_7
 ·exact may35_8
 ·exact may35_9
 ·exact may35_10
 ·exact may35_11
 ·exact may35_12
 ·exact may35_13
 ·exact may35_14
 ·exact may35_15
 ·exact may35_16
end Go.Proofs.Ytofmndcdcchflaa
