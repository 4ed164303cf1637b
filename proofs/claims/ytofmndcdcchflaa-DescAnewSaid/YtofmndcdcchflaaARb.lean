/- DescAnew: runs, 12 11 0. -/
import Derived.Test.YtofmndcdcchflaaAN
namespace Go.Proofs.Ytofmndcdcchflaa
open Go.Sx Go Go.DescNum
set_option maxRecDepth 100000
theorem fcb {x y : Option (Option Nat)} {l : List (Option (Option Nat))} (h : okA x y = true) (hl : ∀ z ∈ l, okA x z = true) : ∀ z ∈ y :: l, okA x z = true := fun z hz => by
 rcases List.mem_cons.1 hz with rfl | hz
 ·exact h
 ·exact hl z hz
theorem a12_16 : okA (ofL 12) (ofL 16) = true := by kernel_rfl
theorem a12_15 : okA (ofL 12) (ofL 15) = true := by kernel_rfl
theorem a12_14 : okA (ofL 12) (ofL 14) = true := by kernel_rfl
theorem a12_13 : okA (ofL 12) (ofL 13) = true := by kernel_rfl
theorem a12_12 : okA (ofL 12) (ofL 12) = true := by kernel_rfl
theorem a12_11 : okA (ofL 12) (ofL 11) = true := by kernel_rfl
theorem a12_10 : okA (ofL 12) (ofL 10) = true := by kernel_rfl
theorem a12_9 : okA (ofL 12) (ofL 9) = true := by kernel_rfl
theorem a12_8 : okA (ofL 12) (ofL 8) = true := by kernel_rfl
theorem a12_7 : okA (ofL 12) (ofL 7) = true := by kernel_rfl
theorem a12_6 : okA (ofL 12) (ofL 6) = true := by kernel_rfl
theorem a12_5 : okA (ofL 12) (ofL 5) = true := by kernel_rfl
theorem a12_4 : okA (ofL 12) (ofL 4) = true := by kernel_rfl
theorem a12_3 : okA (ofL 12) (ofL 3) = true := by kernel_rfl
theorem a12_2 : okA (ofL 12) (ofL 2) = true := by kernel_rfl
theorem a12_1 : okA (ofL 12) (ofL 1) = true := by kernel_rfl
theorem a12_0 : okA (ofL 12) (ofL 0) = true := by kernel_rfl
theorem a12_l : okA (ofL 12) longL = true := by kernel_rfl
theorem a12_n : okA (ofL 12) none = true := by kernel_rfl
theorem an12 : ∀ y ∈ allX, okA (ofL 12) y = true := fcb a12_n (fcb a12_l (fcb a12_0 (fcb a12_1 (fcb a12_2 (fcb a12_3 (fcb a12_4 (fcb a12_5 (fcb a12_6 (fcb a12_7 (fcb a12_8 (fcb a12_9 (fcb a12_10 (fcb a12_11 (fcb a12_12 (fcb a12_13 (fcb a12_14 (fcb a12_15 (fcb a12_16 (fun _ h => (by cases h))))))))))))))))))))
theorem a11_16 : okA (ofL 11) (ofL 16) = true := by kernel_rfl
theorem a11_15 : okA (ofL 11) (ofL 15) = true := by kernel_rfl
theorem a11_14 : okA (ofL 11) (ofL 14) = true := by kernel_rfl
theorem a11_13 : okA (ofL 11) (ofL 13) = true := by kernel_rfl
theorem a11_12 : okA (ofL 11) (ofL 12) = true := by kernel_rfl
theorem a11_11 : okA (ofL 11) (ofL 11) = true := by kernel_rfl
theorem a11_10 : okA (ofL 11) (ofL 10) = true := by kernel_rfl
theorem a11_9 : okA (ofL 11) (ofL 9) = true := by kernel_rfl
theorem a11_8 : okA (ofL 11) (ofL 8) = true := by kernel_rfl
theorem a11_7 : okA (ofL 11) (ofL 7) = true := by kernel_rfl
theorem a11_6 : okA (ofL 11) (ofL 6) = true := by kernel_rfl
theorem a11_5 : okA (ofL 11) (ofL 5) = true := by kernel_rfl
theorem a11_4 : okA (ofL 11) (ofL 4) = true := by kernel_rfl
theorem a11_3 : okA (ofL 11) (ofL 3) = true := by kernel_rfl
theorem a11_2 : okA (ofL 11) (ofL 2) = true := by kernel_rfl
theorem a11_1 : okA (ofL 11) (ofL 1) = true := by kernel_rfl
theorem a11_0 : okA (ofL 11) (ofL 0) = true := by kernel_rfl
theorem a11_l : okA (ofL 11) longL = true := by kernel_rfl
theorem a11_n : okA (ofL 11) none = true := by kernel_rfl
theorem an11 : ∀ y ∈ allX, okA (ofL 11) y = true := fcb a11_n (fcb a11_l (fcb a11_0 (fcb a11_1 (fcb a11_2 (fcb a11_3 (fcb a11_4 (fcb a11_5 (fcb a11_6 (fcb a11_7 (fcb a11_8 (fcb a11_9 (fcb a11_10 (fcb a11_11 (fcb a11_12 (fcb a11_13 (fcb a11_14 (fcb a11_15 (fcb a11_16 (fun _ h => (by cases h))))))))))))))))))))
theorem a0_16 : okA (ofL 0) (ofL 16) = true := by kernel_rfl
theorem a0_15 : okA (ofL 0) (ofL 15) = true := by kernel_rfl
theorem a0_14 : okA (ofL 0) (ofL 14) = true := by kernel_rfl
theorem a0_13 : okA (ofL 0) (ofL 13) = true := by kernel_rfl
theorem a0_12 : okA (ofL 0) (ofL 12) = true := by kernel_rfl
theorem a0_11 : okA (ofL 0) (ofL 11) = true := by kernel_rfl
theorem a0_10 : okA (ofL 0) (ofL 10) = true := by kernel_rfl
theorem a0_9 : okA (ofL 0) (ofL 9) = true := by kernel_rfl
theorem a0_8 : okA (ofL 0) (ofL 8) = true := by kernel_rfl
theorem a0_7 : okA (ofL 0) (ofL 7) = true := by kernel_rfl
theorem a0_6 : okA (ofL 0) (ofL 6) = true := by kernel_rfl
theorem a0_5 : okA (ofL 0) (ofL 5) = true := by kernel_rfl
theorem a0_4 : okA (ofL 0) (ofL 4) = true := by kernel_rfl
theorem a0_3 : okA (ofL 0) (ofL 3) = true := by kernel_rfl
theorem a0_2 : okA (ofL 0) (ofL 2) = true := by kernel_rfl
theorem a0_1 : okA (ofL 0) (ofL 1) = true := by kernel_rfl
theorem a0_0 : okA (ofL 0) (ofL 0) = true := by kernel_rfl
theorem a0_l : okA (ofL 0) longL = true := by kernel_rfl
theorem a0_n : okA (ofL 0) none = true := by kernel_rfl
theorem an0 : ∀ y ∈ allX, okA (ofL 0) y = true := fcb a0_n (fcb a0_l (fcb a0_0 (fcb a0_1 (fcb a0_2 (fcb a0_3 (fcb a0_4 (fcb a0_5 (fcb a0_6 (fcb a0_7 (fcb a0_8 (fcb a0_9 (fcb a0_10 (fcb a0_11 (fcb a0_12 (fcb a0_13 (fcb a0_14 (fcb a0_15 (fcb a0_16 (fun _ h => (by cases h))))))))))))))))))))
end Go.Proofs.Ytofmndcdcchflaa
