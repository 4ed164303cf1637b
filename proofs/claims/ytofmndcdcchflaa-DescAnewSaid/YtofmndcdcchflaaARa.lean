/- DescAnew: runs, 5 4 3 2 1. -/
import Derived.Test.YtofmndcdcchflaaAN
namespace Go.Proofs.Ytofmndcdcchflaa
open Go.Sx Go Go.DescNum
set_option maxRecDepth 100000
theorem fca {x y : Option (Option Nat)} {l : List (Option (Option Nat))} (h : okA x y = true) (hl : ∀ z ∈ l, okA x z = true) : ∀ z ∈ y :: l, okA x z = true := fun z hz => by
 rcases List.mem_cons.1 hz with rfl | hz
 ·exact h
 ·exact hl z hz
theorem a5_16 : okA (ofL 5) (ofL 16) = true := by kernel_rfl
theorem a5_15 : okA (ofL 5) (ofL 15) = true := by kernel_rfl
theorem a5_14 : okA (ofL 5) (ofL 14) = true := by kernel_rfl
theorem a5_13 : okA (ofL 5) (ofL 13) = true := by kernel_rfl
theorem a5_12 : okA (ofL 5) (ofL 12) = true := by kernel_rfl
theorem a5_11 : okA (ofL 5) (ofL 11) = true := by kernel_rfl
theorem a5_10 : okA (ofL 5) (ofL 10) = true := by kernel_rfl
theorem a5_9 : okA (ofL 5) (ofL 9) = true := by kernel_rfl
theorem a5_8 : okA (ofL 5) (ofL 8) = true := by kernel_rfl
theorem a5_7 : okA (ofL 5) (ofL 7) = true := by kernel_rfl
theorem a5_6 : okA (ofL 5) (ofL 6) = true := by kernel_rfl
theorem a5_5 : okA (ofL 5) (ofL 5) = true := by kernel_rfl
theorem a5_4 : okA (ofL 5) (ofL 4) = true := by kernel_rfl
theorem a5_3 : okA (ofL 5) (ofL 3) = true := by kernel_rfl
theorem a5_2 : okA (ofL 5) (ofL 2) = true := by kernel_rfl
theorem a5_1 : okA (ofL 5) (ofL 1) = true := by kernel_rfl
theorem a5_0 : okA (ofL 5) (ofL 0) = true := by kernel_rfl
theorem a5_l : okA (ofL 5) longL = true := by kernel_rfl
theorem a5_n : okA (ofL 5) none = true := by kernel_rfl
theorem an5 : ∀ y ∈ allX, okA (ofL 5) y = true := fca a5_n (fca a5_l (fca a5_0 (fca a5_1 (fca a5_2 (fca a5_3 (fca a5_4 (fca a5_5 (fca a5_6 (fca a5_7 (fca a5_8 (fca a5_9 (fca a5_10 (fca a5_11 (fca a5_12 (fca a5_13 (fca a5_14 (fca a5_15 (fca a5_16 (fun _ h => (by cases h))))))))))))))))))))
theorem a4_16 : okA (ofL 4) (ofL 16) = true := by kernel_rfl
theorem a4_15 : okA (ofL 4) (ofL 15) = true := by kernel_rfl
theorem a4_14 : okA (ofL 4) (ofL 14) = true := by kernel_rfl
theorem a4_13 : okA (ofL 4) (ofL 13) = true := by kernel_rfl
theorem a4_12 : okA (ofL 4) (ofL 12) = true := by kernel_rfl
theorem a4_11 : okA (ofL 4) (ofL 11) = true := by kernel_rfl
theorem a4_10 : okA (ofL 4) (ofL 10) = true := by kernel_rfl
theorem a4_9 : okA (ofL 4) (ofL 9) = true := by kernel_rfl
theorem a4_8 : okA (ofL 4) (ofL 8) = true := by kernel_rfl
theorem a4_7 : okA (ofL 4) (ofL 7) = true := by kernel_rfl
theorem a4_6 : okA (ofL 4) (ofL 6) = true := by kernel_rfl
theorem a4_5 : okA (ofL 4) (ofL 5) = true := by kernel_rfl
theorem a4_4 : okA (ofL 4) (ofL 4) = true := by kernel_rfl
theorem a4_3 : okA (ofL 4) (ofL 3) = true := by kernel_rfl
theorem a4_2 : okA (ofL 4) (ofL 2) = true := by kernel_rfl
theorem a4_1 : okA (ofL 4) (ofL 1) = true := by kernel_rfl
theorem a4_0 : okA (ofL 4) (ofL 0) = true := by kernel_rfl
theorem a4_l : okA (ofL 4) longL = true := by kernel_rfl
theorem a4_n : okA (ofL 4) none = true := by kernel_rfl
theorem an4 : ∀ y ∈ allX, okA (ofL 4) y = true := fca a4_n (fca a4_l (fca a4_0 (fca a4_1 (fca a4_2 (fca a4_3 (fca a4_4 (fca a4_5 (fca a4_6 (fca a4_7 (fca a4_8 (fca a4_9 (fca a4_10 (fca a4_11 (fca a4_12 (fca a4_13 (fca a4_14 (fca a4_15 (fca a4_16 (fun _ h => (by cases h))))))))))))))))))))
theorem a3_16 : okA (ofL 3) (ofL 16) = true := by kernel_rfl
theorem a3_15 : okA (ofL 3) (ofL 15) = true := by kernel_rfl
theorem a3_14 : okA (ofL 3) (ofL 14) = true := by kernel_rfl
theorem a3_13 : okA (ofL 3) (ofL 13) = true := by kernel_rfl
theorem a3_12 : okA (ofL 3) (ofL 12) = true := by kernel_rfl
theorem a3_11 : okA (ofL 3) (ofL 11) = true := by kernel_rfl
theorem a3_10 : okA (ofL 3) (ofL 10) = true := by kernel_rfl
theorem a3_9 : okA (ofL 3) (ofL 9) = true := by kernel_rfl
theorem a3_8 : okA (ofL 3) (ofL 8) = true := by kernel_rfl
theorem a3_7 : okA (ofL 3) (ofL 7) = true := by kernel_rfl
theorem a3_6 : okA (ofL 3) (ofL 6) = true := by kernel_rfl
theorem a3_5 : okA (ofL 3) (ofL 5) = true := by kernel_rfl
theorem a3_4 : okA (ofL 3) (ofL 4) = true := by kernel_rfl
theorem a3_3 : okA (ofL 3) (ofL 3) = true := by kernel_rfl
theorem a3_2 : okA (ofL 3) (ofL 2) = true := by kernel_rfl
theorem a3_1 : okA (ofL 3) (ofL 1) = true := by kernel_rfl
theorem a3_0 : okA (ofL 3) (ofL 0) = true := by kernel_rfl
theorem a3_l : okA (ofL 3) longL = true := by kernel_rfl
theorem a3_n : okA (ofL 3) none = true := by kernel_rfl
theorem an3 : ∀ y ∈ allX, okA (ofL 3) y = true := fca a3_n (fca a3_l (fca a3_0 (fca a3_1 (fca a3_2 (fca a3_3 (fca a3_4 (fca a3_5 (fca a3_6 (fca a3_7 (fca a3_8 (fca a3_9 (fca a3_10 (fca a3_11 (fca a3_12 (fca a3_13 (fca a3_14 (fca a3_15 (fca a3_16 (fun _ h => (by cases h))))))))))))))))))))
theorem a2_16 : okA (ofL 2) (ofL 16) = true := by kernel_rfl
theorem a2_15 : okA (ofL 2) (ofL 15) = true := by kernel_rfl
theorem a2_14 : okA (ofL 2) (ofL 14) = true := by kernel_rfl
theorem a2_13 : okA (ofL 2) (ofL 13) = true := by kernel_rfl
theorem a2_12 : okA (ofL 2) (ofL 12) = true := by kernel_rfl
theorem a2_11 : okA (ofL 2) (ofL 11) = true := by kernel_rfl
theorem a2_10 : okA (ofL 2) (ofL 10) = true := by kernel_rfl
theorem a2_9 : okA (ofL 2) (ofL 9) = true := by kernel_rfl
theorem a2_8 : okA (ofL 2) (ofL 8) = true := by kernel_rfl
theorem a2_7 : okA (ofL 2) (ofL 7) = true := by kernel_rfl
theorem a2_6 : okA (ofL 2) (ofL 6) = true := by kernel_rfl
theorem a2_5 : okA (ofL 2) (ofL 5) = true := by kernel_rfl
theorem a2_4 : okA (ofL 2) (ofL 4) = true := by kernel_rfl
theorem a2_3 : okA (ofL 2) (ofL 3) = true := by kernel_rfl
theorem a2_2 : okA (ofL 2) (ofL 2) = true := by kernel_rfl
theorem a2_1 : okA (ofL 2) (ofL 1) = true := by kernel_rfl
theorem a2_0 : okA (ofL 2) (ofL 0) = true := by kernel_rfl
theorem a2_l : okA (ofL 2) longL = true := by kernel_rfl
theorem a2_n : okA (ofL 2) none = true := by kernel_rfl
theorem an2 : ∀ y ∈ allX, okA (ofL 2) y = true := fca a2_n (fca a2_l (fca a2_0 (fca a2_1 (fca a2_2 (fca a2_3 (fca a2_4 (fca a2_5 (fca a2_6 (fca a2_7 (fca a2_8 (fca a2_9 (fca a2_10 (fca a2_11 (fca a2_12 (fca a2_13 (fca a2_14 (fca a2_15 (fca a2_16 (fun _ h => (by cases h))))))))))))))))))))
theorem a1_16 : okA (ofL 1) (ofL 16) = true := by kernel_rfl
theorem a1_15 : okA (ofL 1) (ofL 15) = true := by kernel_rfl
theorem a1_14 : okA (ofL 1) (ofL 14) = true := by kernel_rfl
theorem a1_13 : okA (ofL 1) (ofL 13) = true := by kernel_rfl
theorem a1_12 : okA (ofL 1) (ofL 12) = true := by kernel_rfl
theorem a1_11 : okA (ofL 1) (ofL 11) = true := by kernel_rfl
theorem a1_10 : okA (ofL 1) (ofL 10) = true := by kernel_rfl
theorem a1_9 : okA (ofL 1) (ofL 9) = true := by kernel_rfl
theorem a1_8 : okA (ofL 1) (ofL 8) = true := by kernel_rfl
theorem a1_7 : okA (ofL 1) (ofL 7) = true := by kernel_rfl
theorem a1_6 : okA (ofL 1) (ofL 6) = true := by kernel_rfl
theorem a1_5 : okA (ofL 1) (ofL 5) = true := by kernel_rfl
theorem a1_4 : okA (ofL 1) (ofL 4) = true := by kernel_rfl
theorem a1_3 : okA (ofL 1) (ofL 3) = true := by kernel_rfl
theorem a1_2 : okA (ofL 1) (ofL 2) = true := by kernel_rfl
theorem a1_1 : okA (ofL 1) (ofL 1) = true := by kernel_rfl
theorem a1_0 : okA (ofL 1) (ofL 0) = true := by kernel_rfl
theorem a1_l : okA (ofL 1) longL = true := by kernel_rfl
theorem a1_n : okA (ofL 1) none = true := by kernel_rfl
theorem an1 : ∀ y ∈ allX, okA (ofL 1) y = true := fca a1_n (fca a1_l (fca a1_0 (fca a1_1 (fca a1_2 (fca a1_3 (fca a1_4 (fca a1_5 (fca a1_6 (fca a1_7 (fca a1_8 (fca a1_9 (fca a1_10 (fca a1_11 (fca a1_12 (fca a1_13 (fca a1_14 (fca a1_15 (fca a1_16 (fun _ h => (by cases h))))))))))))))))))))
end Go.Proofs.Ytofmndcdcchflaa
