/- the reference's NewWriter: its contract. -/
import Derived.Test.YtofmndcdcchflaaNQa
import Derived.Test.YtofmndcdcchflaaNQb
import Derived.Test.YtofmndcdcchflaaNQc
namespace Go.Proofs.Ytofmndcdcchflaa
open Go.Sx Go Go.DescNum
set_option maxRecDepth 100000
theorem semNw : SemNw := sem_nw fun k h1 hk => by
 rcases (by omega : k = 1 ∨ k = 2 ∨ k = 3 ∨ k = 4 ∨ k = 5 ∨ k = 6 ∨ k = 7 ∨ k = 8 ∨ k = 9 ∨ k = 10 ∨ k = 11 ∨ k = 12 ∨ k = 13 ∨ k = 14 ∨ k = 15 ∨ k = 16) with rfl | rfl | rfl | rfl | rfl | rfl | rfl | rfl | rfl | rfl | rfl | rfl | rfl | rfl | rfl | rfl
 ·exact nw_1
 ·exact nw_2
 ·exact nw_3
 ·exact nw_4
 ·exact nw_5
 ·exact nw_6
 ·exact nw_7
 ·exact nw_8
 ·exact nw_9
 ·exact nw_10
 ·exact nw_11
 ·exact nw_12
 ·exact nw_13
 ·exact nw_14
 ·exact nw_15
 ·exact nw_16
end Go.Proofs.Ytofmndcdcchflaa
