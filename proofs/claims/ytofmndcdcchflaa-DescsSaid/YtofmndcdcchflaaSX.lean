/- stores: their contract. -/
import Derived.Test.YtofmndcdcchflaaSRa
import Derived.Test.YtofmndcdcchflaaSRb
import Derived.Test.YtofmndcdcchflaaSRc
namespace Go.Proofs.Ytofmndcdcchflaa
open Go.Sx Go Go.DescNum
set_option maxRecDepth 100000
theorem semSt : SemSt := sem_st fun k h1 hk => by
 rcases (by omega : k = 1 ∨ k = 2 ∨ k = 3 ∨ k = 4 ∨ k = 5 ∨ k = 6 ∨ k = 7 ∨ k = 8 ∨ k = 9 ∨ k = 10 ∨ k = 11 ∨ k = 12 ∨ k = 13 ∨ k = 14 ∨ k = 15 ∨ k = 16) with rfl | rfl | rfl | rfl | rfl | rfl | rfl | rfl | rfl | rfl | rfl | rfl | rfl | rfl | rfl | rfl
 ·exact st_1
 ·exact st_2
 ·exact st_3
 ·exact st_4
 ·exact st_5
 ·exact st_6
 ·exact st_7
 ·exact st_8
 ·exact st_9
 ·exact st_10
 ·exact st_11
 ·exact st_12
 ·exact st_13
 ·exact st_14
 ·exact st_15
 ·exact st_16
end Go.Proofs.Ytofmndcdcchflaa
