/- DescAnew: runs, 10 9 n. -/
import Derived.Test.YtofmndcdcchflaaAN
namespace Go.Proofs.Ytofmndcdcchflaa
open Go.Sx Go Go.DescNum
set_option maxRecDepth 100000
theorem fce {x y : Option (Option Nat)} {l : List (Option (Option Nat))} (h : okA x y = true) (hl : ∀ z ∈ l, okA x z = true) : ∀ z ∈ y :: l, okA x z = true := fun z hz => by
 rcases List.mem_cons.1 hz with rfl | hz
 ·exact h
 ·exact hl z hz
theorem a10_16 : okA (ofL 10) (ofL 16) = true := by kernel_rfl
theorem a10_15 : okA (ofL 10) (ofL 15) = true := by kernel_rfl
theorem a10_14 : okA (ofL 10) (ofL 14) = true := by kernel_rfl
theorem a10_13 : okA (ofL 10) (ofL 13) = true := by kernel_rfl
theorem a10_12 : okA (ofL 10) (ofL 12) = true := by kernel_rfl
theorem a10_11 : okA (ofL 10) (ofL 11) = true := by kernel_rfl
theorem a10_10 : okA (ofL 10) (ofL 10) = true := by kernel_rfl
theorem a10_9 : okA (ofL 10) (ofL 9) = true := by kernel_rfl
theorem a10_8 : okA (ofL 10) (ofL 8) = true := by kernel_rfl
theorem a10_7 : okA (ofL 10) (ofL 7) = true := by kernel_rfl
theorem a10_6 : okA (ofL 10) (ofL 6) = true := by kernel_rfl
theorem a10_5 : okA (ofL 10) (ofL 5) = true := by kernel_rfl
theorem a10_4 : okA (ofL 10) (ofL 4) = true := by kernel_rfl
theorem a10_3 : okA (ofL 10) (ofL 3) = true := by kernel_rfl
theorem a10_2 : okA (ofL 10) (ofL 2) = true := by kernel_rfl
theorem a10_1 : okA (ofL 10) (ofL 1) = true := by kernel_rfl
theorem a10_0 : okA (ofL 10) (ofL 0) = true := by kernel_rfl
theorem a10_l : okA (ofL 10) longL = true := by kernel_rfl
theorem a10_n : okA (ofL 10) none = true := by kernel_rfl
theorem an10 : ∀ y ∈ allX, okA (ofL 10) y = true := fce a10_n (fce a10_l (fce a10_0 (fce a10_1 (fce a10_2 (fce a10_3 (fce a10_4 (fce a10_5 (fce a10_6 (fce a10_7 (fce a10_8 (fce a10_9 (fce a10_10 (fce a10_11 (fce a10_12 (fce a10_13 (fce a10_14 (fce a10_15 (fce a10_16 (fun _ h => (by cases h))))))))))))))))))))
theorem a9_16 : okA (ofL 9) (ofL 16) = true := by kernel_rfl
theorem a9_15 : okA (ofL 9) (ofL 15) = true := by kernel_rfl
theorem a9_14 : okA (ofL 9) (ofL 14) = true := by kernel_rfl
theorem a9_13 : okA (ofL 9) (ofL 13) = true := by kernel_rfl
theorem a9_12 : okA (ofL 9) (ofL 12) = true := by kernel_rfl
theorem a9_11 : okA (ofL 9) (ofL 11) = true := by kernel_rfl
theorem a9_10 : okA (ofL 9) (ofL 10) = true := by kernel_rfl
theorem a9_9 : okA (ofL 9) (ofL 9) = true := by kernel_rfl
theorem a9_8 : okA (ofL 9) (ofL 8) = true := by kernel_rfl
theorem a9_7 : okA (ofL 9) (ofL 7) = true := by kernel_rfl
theorem a9_6 : okA (ofL 9) (ofL 6) = true := by kernel_rfl
theorem a9_5 : okA (ofL 9) (ofL 5) = true := by kernel_rfl
theorem a9_4 : okA (ofL 9) (ofL 4) = true := by kernel_rfl
theorem a9_3 : okA (ofL 9) (ofL 3) = true := by kernel_rfl
theorem a9_2 : okA (ofL 9) (ofL 2) = true := by kernel_rfl
theorem a9_1 : okA (ofL 9) (ofL 1) = true := by kernel_rfl
theorem a9_0 : okA (ofL 9) (ofL 0) = true := by kernel_rfl
theorem a9_l : okA (ofL 9) longL = true := by kernel_rfl
theorem a9_n : okA (ofL 9) none = true := by kernel_rfl
theorem an9 : ∀ y ∈ allX, okA (ofL 9) y = true := fce a9_n (fce a9_l (fce a9_0 (fce a9_1 (fce a9_2 (fce a9_3 (fce a9_4 (fce a9_5 (fce a9_6 (fce a9_7 (fce a9_8 (fce a9_9 (fce a9_10 (fce a9_11 (fce a9_12 (fce a9_13 (fce a9_14 (fce a9_15 (fce a9_16 (fun _ h => (by cases h))))))))))))))))))))
theorem an_16 : okA none (ofL 16) = true := by kernel_rfl
theorem an_15 : okA none (ofL 15) = true := by kernel_rfl
theorem an_14 : okA none (ofL 14) = true := by kernel_rfl
theorem an_13 : okA none (ofL 13) = true := by kernel_rfl
theorem an_12 : okA none (ofL 12) = true := by kernel_rfl
theorem an_11 : okA none (ofL 11) = true := by kernel_rfl
theorem an_10 : okA none (ofL 10) = true := by kernel_rfl
theorem an_9 : okA none (ofL 9) = true := by kernel_rfl
theorem an_8 : okA none (ofL 8) = true := by kernel_rfl
theorem an_7 : okA none (ofL 7) = true := by kernel_rfl
theorem an_6 : okA none (ofL 6) = true := by kernel_rfl
theorem an_5 : okA none (ofL 5) = true := by kernel_rfl
theorem an_4 : okA none (ofL 4) = true := by kernel_rfl
theorem an_3 : okA none (ofL 3) = true := by kernel_rfl
theorem an_2 : okA none (ofL 2) = true := by kernel_rfl
theorem an_1 : okA none (ofL 1) = true := by kernel_rfl
theorem an_0 : okA none (ofL 0) = true := by kernel_rfl
theorem an_l : okA none longL = true := by kernel_rfl
theorem an_n : okA none none = true := by kernel_rfl
theorem ann : ∀ y ∈ allX, okA none y = true := fce an_n (fce an_l (fce an_0 (fce an_1 (fce an_2 (fce an_3 (fce an_4 (fce an_5 (fce an_6 (fce an_7 (fce an_8 (fce an_9 (fce an_10 (fce an_11 (fce an_12 (fce an_13 (fce an_14 (fce an_15 (fce an_16 (fun _ h => (by cases h))))))))))))))))))))
end Go.Proofs.Ytofmndcdcchflaa
