/- Images: its runs. -/
import Derived.Test.YtojpmbkbeoolcaaIC
namespace Go.Proofs.Ytojpmbkbeoolcaa
open Go.Sx Go
set_option maxRecDepth 100000
theorem im_16 : ok16 (spP1 spA) mayF = true := by kernel_rfl
theorem im_lo : okO (spP1 spA) 0 15 mayF = true := by kernel_rfl
theorem im_hi : okO (spP1 spA) 17 9223372036854775807 mayF = true := by kernel_rfl
theorem im_n : okN (spP1 spA) mayF = true := by kernel_rfl
theorem im_16_0 : ok16 spA (badF 0) = true := by kernel_rfl
theorem im_lo_0 : okO spA 0 15 (badF 0) = true := by kernel_rfl
theorem im_hi_0 : okO spA 17 9223372036854775807 (badF 0) = true := by kernel_rfl
theorem im_n_0 : okN spA (badF 0) = true := by kernel_rfl
theorem im_16_1 : ok16 spA (badF 1) = true := by kernel_rfl
theorem im_lo_1 : okO spA 0 15 (badF 1) = true := by kernel_rfl
theorem im_hi_1 : okO spA 17 9223372036854775807 (badF 1) = true := by kernel_rfl
theorem im_n_1 : okN spA (badF 1) = true := by kernel_rfl
theorem im_16_2 : ok16 spA (badF 2) = true := by kernel_rfl
theorem im_lo_2 : okO spA 0 15 (badF 2) = true := by kernel_rfl
theorem im_hi_2 : okO spA 17 9223372036854775807 (badF 2) = true := by kernel_rfl
theorem im_n_2 : okN spA (badF 2) = true := by kernel_rfl
theorem im_16_3 : ok16 spA (badF 3) = true := by kernel_rfl
theorem im_lo_3 : okO spA 0 15 (badF 3) = true := by kernel_rfl
theorem im_hi_3 : okO spA 17 9223372036854775807 (badF 3) = true := by kernel_rfl
theorem im_n_3 : okN spA (badF 3) = true := by kernel_rfl
theorem im_16_4 : ok16 spA (badF 4) = true := by kernel_rfl
theorem im_lo_4 : okO spA 0 15 (badF 4) = true := by kernel_rfl
theorem im_hi_4 : okO spA 17 9223372036854775807 (badF 4) = true := by kernel_rfl
theorem im_n_4 : okN spA (badF 4) = true := by kernel_rfl
theorem im_16_5 : ok16 spA (badF 5) = true := by kernel_rfl
theorem im_lo_5 : okO spA 0 15 (badF 5) = true := by kernel_rfl
theorem im_hi_5 : okO spA 17 9223372036854775807 (badF 5) = true := by kernel_rfl
theorem im_n_5 : okN spA (badF 5) = true := by kernel_rfl
theorem im_16_6 : ok16 spA (badF 6) = true := by kernel_rfl
theorem im_lo_6 : okO spA 0 15 (badF 6) = true := by kernel_rfl
theorem im_hi_6 : okO spA 17 9223372036854775807 (badF 6) = true := by kernel_rfl
theorem im_n_6 : okN spA (badF 6) = true := by kernel_rfl
theorem im_16_7 : ok16 spA (badF 7) = true := by kernel_rfl
theorem im_lo_7 : okO spA 0 15 (badF 7) = true := by kernel_rfl
theorem im_hi_7 : okO spA 17 9223372036854775807 (badF 7) = true := by kernel_rfl
theorem im_n_7 : okN spA (badF 7) = true := by kernel_rfl
theorem im_16_8 : ok16 spA (badF 8) = true := by kernel_rfl
theorem im_lo_8 : okO spA 0 15 (badF 8) = true := by kernel_rfl
theorem im_hi_8 : okO spA 17 9223372036854775807 (badF 8) = true := by kernel_rfl
theorem im_n_8 : okN spA (badF 8) = true := by kernel_rfl
theorem im_16_9 : ok16 spA (badF 9) = true := by kernel_rfl
theorem im_lo_9 : okO spA 0 15 (badF 9) = true := by kernel_rfl
theorem im_hi_9 : okO spA 17 9223372036854775807 (badF 9) = true := by kernel_rfl
theorem im_n_9 : okN spA (badF 9) = true := by kernel_rfl
end Go.Proofs.Ytojpmbkbeoolcaa
