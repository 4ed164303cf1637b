/- DescAnew: runs, 8 7 6. -/
import Derived.Test.YtofmndcdcchflaaAN
namespace Go.Proofs.Ytofmndcdcchflaa
open Go.Sx Go Go.DescNum
set_option maxRecDepth 100000
theorem fcc {x y : Option (Option Nat)} {l : List (Option (Option Nat))} (h : okA x y = true) (hl : ∀ z ∈ l, okA x z = true) : ∀ z ∈ y :: l, okA x z = true := fun z hz => by
 rcases List.mem_cons.1 hz with rfl | hz
 ·exact h
 ·exact hl z hz
theorem a8_16 : okA (ofL 8) (ofL 16) = true := by kernel_rfl
theorem a8_15 : okA (ofL 8) (ofL 15) = true := by kernel_rfl
theorem a8_14 : okA (ofL 8) (ofL 14) = true := by kernel_rfl
theorem a8_13 : okA (ofL 8) (ofL 13) = true := by kernel_rfl
theorem a8_12 : okA (ofL 8) (ofL 12) = true := by kernel_rfl
theorem a8_11 : okA (ofL 8) (ofL 11) = true := by kernel_rfl
theorem a8_10 : okA (ofL 8) (ofL 10) = true := by kernel_rfl
theorem a8_9 : okA (ofL 8) (ofL 9) = true := by kernel_rfl
theorem a8_8 : okA (ofL 8) (ofL 8) = true := by kernel_rfl
theorem a8_7 : okA (ofL 8) (ofL 7) = true := by kernel_rfl
theorem a8_6 : okA (ofL 8) (ofL 6) = true := by kernel_rfl
theorem a8_5 : okA (ofL 8) (ofL 5) = true := by kernel_rfl
theorem a8_4 : okA (ofL 8) (ofL 4) = true := by kernel_rfl
theorem a8_3 : okA (ofL 8) (ofL 3) = true := by kernel_rfl
theorem a8_2 : okA (ofL 8) (ofL 2) = true := by kernel_rfl
theorem a8_1 : okA (ofL 8) (ofL 1) = true := by kernel_rfl
theorem a8_0 : okA (ofL 8) (ofL 0) = true := by kernel_rfl
theorem a8_l : okA (ofL 8) longL = true := by kernel_rfl
theorem a8_n : okA (ofL 8) none = true := by kernel_rfl
theorem an8 : ∀ y ∈ allX, okA (ofL 8) y = true := fcc a8_n (fcc a8_l (fcc a8_0 (fcc a8_1 (fcc a8_2 (fcc a8_3 (fcc a8_4 (fcc a8_5 (fcc a8_6 (fcc a8_7 (fcc a8_8 (fcc a8_9 (fcc a8_10 (fcc a8_11 (fcc a8_12 (fcc a8_13 (fcc a8_14 (fcc a8_15 (fcc a8_16 (fun _ h => (by cases h))))))))))))))))))))
theorem a7_16 : okA (ofL 7) (ofL 16) = true := by kernel_rfl
theorem a7_15 : okA (ofL 7) (ofL 15) = true := by kernel_rfl
theorem a7_14 : okA (ofL 7) (ofL 14) = true := by kernel_rfl
theorem a7_13 : okA (ofL 7) (ofL 13) = true := by kernel_rfl
theorem a7_12 : okA (ofL 7) (ofL 12) = true := by kernel_rfl
theorem a7_11 : okA (ofL 7) (ofL 11) = true := by kernel_rfl
theorem a7_10 : okA (ofL 7) (ofL 10) = true := by kernel_rfl
theorem a7_9 : okA (ofL 7) (ofL 9) = true := by kernel_rfl
theorem a7_8 : okA (ofL 7) (ofL 8) = true := by kernel_rfl
theorem a7_7 : okA (ofL 7) (ofL 7) = true := by kernel_rfl
theorem a7_6 : okA (ofL 7) (ofL 6) = true := by kernel_rfl
theorem a7_5 : okA (ofL 7) (ofL 5) = true := by kernel_rfl
theorem a7_4 : okA (ofL 7) (ofL 4) = true := by kernel_rfl
theorem a7_3 : okA (ofL 7) (ofL 3) = true := by kernel_rfl
theorem a7_2 : okA (ofL 7) (ofL 2) = true := by kernel_rfl
theorem a7_1 : okA (ofL 7) (ofL 1) = true := by kernel_rfl
theorem a7_0 : okA (ofL 7) (ofL 0) = true := by kernel_rfl
theorem a7_l : okA (ofL 7) longL = true := by kernel_rfl
theorem a7_n : okA (ofL 7) none = true := by kernel_rfl
theorem an7 : ∀ y ∈ allX, okA (ofL 7) y = true := fcc a7_n (fcc a7_l (fcc a7_0 (fcc a7_1 (fcc a7_2 (fcc a7_3 (fcc a7_4 (fcc a7_5 (fcc a7_6 (fcc a7_7 (fcc a7_8 (fcc a7_9 (fcc a7_10 (fcc a7_11 (fcc a7_12 (fcc a7_13 (fcc a7_14 (fcc a7_15 (fcc a7_16 (fun _ h => (by cases h))))))))))))))))))))
theorem a6_16 : okA (ofL 6) (ofL 16) = true := by kernel_rfl
theorem a6_15 : okA (ofL 6) (ofL 15) = true := by kernel_rfl
theorem a6_14 : okA (ofL 6) (ofL 14) = true := by kernel_rfl
theorem a6_13 : okA (ofL 6) (ofL 13) = true := by kernel_rfl
theorem a6_12 : okA (ofL 6) (ofL 12) = true := by kernel_rfl
theorem a6_11 : okA (ofL 6) (ofL 11) = true := by kernel_rfl
theorem a6_10 : okA (ofL 6) (ofL 10) = true := by kernel_rfl
theorem a6_9 : okA (ofL 6) (ofL 9) = true := by kernel_rfl
theorem a6_8 : okA (ofL 6) (ofL 8) = true := by kernel_rfl
theorem a6_7 : okA (ofL 6) (ofL 7) = true := by kernel_rfl
theorem a6_6 : okA (ofL 6) (ofL 6) = true := by kernel_rfl
theorem a6_5 : okA (ofL 6) (ofL 5) = true := by kernel_rfl
theorem a6_4 : okA (ofL 6) (ofL 4) = true := by kernel_rfl
theorem a6_3 : okA (ofL 6) (ofL 3) = true := by kernel_rfl
theorem a6_2 : okA (ofL 6) (ofL 2) = true := by kernel_rfl
theorem a6_1 : okA (ofL 6) (ofL 1) = true := by kernel_rfl
theorem a6_0 : okA (ofL 6) (ofL 0) = true := by kernel_rfl
theorem a6_l : okA (ofL 6) longL = true := by kernel_rfl
theorem a6_n : okA (ofL 6) none = true := by kernel_rfl
theorem an6 : ∀ y ∈ allX, okA (ofL 6) y = true := fcc a6_n (fcc a6_l (fcc a6_0 (fcc a6_1 (fcc a6_2 (fcc a6_3 (fcc a6_4 (fcc a6_5 (fcc a6_6 (fcc a6_7 (fcc a6_8 (fcc a6_9 (fcc a6_10 (fcc a6_11 (fcc a6_12 (fcc a6_13 (fcc a6_14 (fcc a6_15 (fcc a6_16 (fun _ h => (by cases h))))))))))))))))))))
end Go.Proofs.Ytofmndcdcchflaa
