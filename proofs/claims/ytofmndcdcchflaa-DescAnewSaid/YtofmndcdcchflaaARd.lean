/- DescAnew: runs, 16 15. -/
import Derived.Test.YtofmndcdcchflaaAN
namespace Go.Proofs.Ytofmndcdcchflaa
open Go.Sx Go Go.DescNum
set_option maxRecDepth 100000
theorem fcd {x y : Option (Option Nat)} {l : List (Option (Option Nat))} (h : okA x y = true) (hl : ∀ z ∈ l, okA x z = true) : ∀ z ∈ y :: l, okA x z = true := fun z hz => by
 rcases List.mem_cons.1 hz with rfl | hz
 ·exact h
 ·exact hl z hz
theorem a16_16 : okA (ofL 16) (ofL 16) = true := by kernel_rfl
theorem a16_15 : okA (ofL 16) (ofL 15) = true := by kernel_rfl
theorem a16_14 : okA (ofL 16) (ofL 14) = true := by kernel_rfl
theorem a16_13 : okA (ofL 16) (ofL 13) = true := by kernel_rfl
theorem a16_12 : okA (ofL 16) (ofL 12) = true := by kernel_rfl
theorem a16_11 : okA (ofL 16) (ofL 11) = true := by kernel_rfl
theorem a16_10 : okA (ofL 16) (ofL 10) = true := by kernel_rfl
theorem a16_9 : okA (ofL 16) (ofL 9) = true := by kernel_rfl
theorem a16_8 : okA (ofL 16) (ofL 8) = true := by kernel_rfl
theorem a16_7 : okA (ofL 16) (ofL 7) = true := by kernel_rfl
theorem a16_6 : okA (ofL 16) (ofL 6) = true := by kernel_rfl
theorem a16_5 : okA (ofL 16) (ofL 5) = true := by kernel_rfl
theorem a16_4 : okA (ofL 16) (ofL 4) = true := by kernel_rfl
theorem a16_3 : okA (ofL 16) (ofL 3) = true := by kernel_rfl
theorem a16_2 : okA (ofL 16) (ofL 2) = true := by kernel_rfl
theorem a16_1 : okA (ofL 16) (ofL 1) = true := by kernel_rfl
theorem a16_0 : okA (ofL 16) (ofL 0) = true := by kernel_rfl
theorem a16_l : okA (ofL 16) longL = true := by kernel_rfl
theorem a16_n : okA (ofL 16) none = true := by kernel_rfl
theorem an16 : ∀ y ∈ allX, okA (ofL 16) y = true := fcd a16_n (fcd a16_l (fcd a16_0 (fcd a16_1 (fcd a16_2 (fcd a16_3 (fcd a16_4 (fcd a16_5 (fcd a16_6 (fcd a16_7 (fcd a16_8 (fcd a16_9 (fcd a16_10 (fcd a16_11 (fcd a16_12 (fcd a16_13 (fcd a16_14 (fcd a16_15 (fcd a16_16 (fun _ h => (by cases h))))))))))))))))))))
theorem a15_16 : okA (ofL 15) (ofL 16) = true := by kernel_rfl
theorem a15_15 : okA (ofL 15) (ofL 15) = true := by kernel_rfl
theorem a15_14 : okA (ofL 15) (ofL 14) = true := by kernel_rfl
theorem a15_13 : okA (ofL 15) (ofL 13) = true := by kernel_rfl
theorem a15_12 : okA (ofL 15) (ofL 12) = true := by kernel_rfl
theorem a15_11 : okA (ofL 15) (ofL 11) = true := by kernel_rfl
theorem a15_10 : okA (ofL 15) (ofL 10) = true := by kernel_rfl
theorem a15_9 : okA (ofL 15) (ofL 9) = true := by kernel_rfl
theorem a15_8 : okA (ofL 15) (ofL 8) = true := by kernel_rfl
theorem a15_7 : okA (ofL 15) (ofL 7) = true := by kernel_rfl
theorem a15_6 : okA (ofL 15) (ofL 6) = true := by kernel_rfl
theorem a15_5 : okA (ofL 15) (ofL 5) = true := by kernel_rfl
theorem a15_4 : okA (ofL 15) (ofL 4) = true := by kernel_rfl
theorem a15_3 : okA (ofL 15) (ofL 3) = true := by kernel_rfl
theorem a15_2 : okA (ofL 15) (ofL 2) = true := by kernel_rfl
theorem a15_1 : okA (ofL 15) (ofL 1) = true := by kernel_rfl
theorem a15_0 : okA (ofL 15) (ofL 0) = true := by kernel_rfl
theorem a15_l : okA (ofL 15) longL = true := by kernel_rfl
theorem a15_n : okA (ofL 15) none = true := by kernel_rfl
theorem an15 : ∀ y ∈ allX, okA (ofL 15) y = true := fcd a15_n (fcd a15_l (fcd a15_0 (fcd a15_1 (fcd a15_2 (fcd a15_3 (fcd a15_4 (fcd a15_5 (fcd a15_6 (fcd a15_7 (fcd a15_8 (fcd a15_9 (fcd a15_10 (fcd a15_11 (fcd a15_12 (fcd a15_13 (fcd a15_14 (fcd a15_15 (fcd a15_16 (fun _ h => (by cases h))))))))))))))))))))
end Go.Proofs.Ytofmndcdcchflaa
