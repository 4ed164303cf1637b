/- DescAnew: runs, 14 13 l. -/
import Derived.Test.YtofmndcdcchflaaAN
namespace Go.Proofs.Ytofmndcdcchflaa
open Go.Sx Go Go.DescNum
set_option maxRecDepth 100000
theorem fcf {x y : Option (Option Nat)} {l : List (Option (Option Nat))} (h : okA x y = true) (hl : ∀ z ∈ l, okA x z = true) : ∀ z ∈ y :: l, okA x z = true := fun z hz => by
 rcases List.mem_cons.1 hz with rfl | hz
 ·exact h
 ·exact hl z hz
theorem a14_16 : okA (ofL 14) (ofL 16) = true := by kernel_rfl
theorem a14_15 : okA (ofL 14) (ofL 15) = true := by kernel_rfl
theorem a14_14 : okA (ofL 14) (ofL 14) = true := by kernel_rfl
theorem a14_13 : okA (ofL 14) (ofL 13) = true := by kernel_rfl
theorem a14_12 : okA (ofL 14) (ofL 12) = true := by kernel_rfl
theorem a14_11 : okA (ofL 14) (ofL 11) = true := by kernel_rfl
theorem a14_10 : okA (ofL 14) (ofL 10) = true := by kernel_rfl
theorem a14_9 : okA (ofL 14) (ofL 9) = true := by kernel_rfl
theorem a14_8 : okA (ofL 14) (ofL 8) = true := by kernel_rfl
theorem a14_7 : okA (ofL 14) (ofL 7) = true := by kernel_rfl
theorem a14_6 : okA (ofL 14) (ofL 6) = true := by kernel_rfl
theorem a14_5 : okA (ofL 14) (ofL 5) = true := by kernel_rfl
theorem a14_4 : okA (ofL 14) (ofL 4) = true := by kernel_rfl
theorem a14_3 : okA (ofL 14) (ofL 3) = true := by kernel_rfl
theorem a14_2 : okA (ofL 14) (ofL 2) = true := by kernel_rfl
theorem a14_1 : okA (ofL 14) (ofL 1) = true := by kernel_rfl
theorem a14_0 : okA (ofL 14) (ofL 0) = true := by kernel_rfl
theorem a14_l : okA (ofL 14) longL = true := by kernel_rfl
theorem a14_n : okA (ofL 14) none = true := by kernel_rfl
theorem an14 : ∀ y ∈ allX, okA (ofL 14) y = true := fcf a14_n (fcf a14_l (fcf a14_0 (fcf a14_1 (fcf a14_2 (fcf a14_3 (fcf a14_4 (fcf a14_5 (fcf a14_6 (fcf a14_7 (fcf a14_8 (fcf a14_9 (fcf a14_10 (fcf a14_11 (fcf a14_12 (fcf a14_13 (fcf a14_14 (fcf a14_15 (fcf a14_16 (fun _ h => (by cases h))))))))))))))))))))
theorem a13_16 : okA (ofL 13) (ofL 16) = true := by kernel_rfl
theorem a13_15 : okA (ofL 13) (ofL 15) = true := by kernel_rfl
theorem a13_14 : okA (ofL 13) (ofL 14) = true := by kernel_rfl
theorem a13_13 : okA (ofL 13) (ofL 13) = true := by kernel_rfl
theorem a13_12 : okA (ofL 13) (ofL 12) = true := by kernel_rfl
theorem a13_11 : okA (ofL 13) (ofL 11) = true := by kernel_rfl
theorem a13_10 : okA (ofL 13) (ofL 10) = true := by kernel_rfl
theorem a13_9 : okA (ofL 13) (ofL 9) = true := by kernel_rfl
theorem a13_8 : okA (ofL 13) (ofL 8) = true := by kernel_rfl
theorem a13_7 : okA (ofL 13) (ofL 7) = true := by kernel_rfl
theorem a13_6 : okA (ofL 13) (ofL 6) = true := by kernel_rfl
theorem a13_5 : okA (ofL 13) (ofL 5) = true := by kernel_rfl
theorem a13_4 : okA (ofL 13) (ofL 4) = true := by kernel_rfl
theorem a13_3 : okA (ofL 13) (ofL 3) = true := by kernel_rfl
theorem a13_2 : okA (ofL 13) (ofL 2) = true := by kernel_rfl
theorem a13_1 : okA (ofL 13) (ofL 1) = true := by kernel_rfl
theorem a13_0 : okA (ofL 13) (ofL 0) = true := by kernel_rfl
theorem a13_l : okA (ofL 13) longL = true := by kernel_rfl
theorem a13_n : okA (ofL 13) none = true := by kernel_rfl
theorem an13 : ∀ y ∈ allX, okA (ofL 13) y = true := fcf a13_n (fcf a13_l (fcf a13_0 (fcf a13_1 (fcf a13_2 (fcf a13_3 (fcf a13_4 (fcf a13_5 (fcf a13_6 (fcf a13_7 (fcf a13_8 (fcf a13_9 (fcf a13_10 (fcf a13_11 (fcf a13_12 (fcf a13_13 (fcf a13_14 (fcf a13_15 (fcf a13_16 (fun _ h => (by cases h))))))))))))))))))))
theorem al_16 : okA longL (ofL 16) = true := by kernel_rfl
theorem al_15 : okA longL (ofL 15) = true := by kernel_rfl
theorem al_14 : okA longL (ofL 14) = true := by kernel_rfl
theorem al_13 : okA longL (ofL 13) = true := by kernel_rfl
theorem al_12 : okA longL (ofL 12) = true := by kernel_rfl
theorem al_11 : okA longL (ofL 11) = true := by kernel_rfl
theorem al_10 : okA longL (ofL 10) = true := by kernel_rfl
theorem al_9 : okA longL (ofL 9) = true := by kernel_rfl
theorem al_8 : okA longL (ofL 8) = true := by kernel_rfl
theorem al_7 : okA longL (ofL 7) = true := by kernel_rfl
theorem al_6 : okA longL (ofL 6) = true := by kernel_rfl
theorem al_5 : okA longL (ofL 5) = true := by kernel_rfl
theorem al_4 : okA longL (ofL 4) = true := by kernel_rfl
theorem al_3 : okA longL (ofL 3) = true := by kernel_rfl
theorem al_2 : okA longL (ofL 2) = true := by kernel_rfl
theorem al_1 : okA longL (ofL 1) = true := by kernel_rfl
theorem al_0 : okA longL (ofL 0) = true := by kernel_rfl
theorem al_l : okA longL longL = true := by kernel_rfl
theorem al_n : okA longL none = true := by kernel_rfl
theorem anl : ∀ y ∈ allX, okA longL y = true := fcf al_n (fcf al_l (fcf al_0 (fcf al_1 (fcf al_2 (fcf al_3 (fcf al_4 (fcf al_5 (fcf al_6 (fcf al_7 (fcf al_8 (fcf al_9 (fcf al_10 (fcf al_11 (fcf al_12 (fcf al_13 (fcf al_14 (fcf al_15 (fcf al_16 (fun _ h => (by cases h))))))))))))))))))))
end Go.Proofs.Ytofmndcdcchflaa
