/- ImageRuns: rounds from the head Q. -/
import Derived.Test.YtojpmbkbeoolcaaRH
namespace Go.Proofs.Ytojpmbkbeoolcaa
open Go.Sx Go
set_option maxRecDepth 100000
theorem rQ_f : okR headQ (finF) = true := by kernel_rfl
theorem rQ_e : okR headQ (evn 0) = true := by kernel_rfl
theorem rQ_1l : okR headQ (k1 lo64 (-1) :: evn 1) = true := by kernel_rfl
theorem rQ_1h : okR headQ (k1 11 hi64 :: evn 1) = true := by kernel_rfl
theorem rQ_2l : okR headQ (k2 lo64 (-1) :: evn 1) = true := by kernel_rfl
theorem rQ_2h : okR headQ (k2 11 hi64 :: evn 1) = true := by kernel_rfl
theorem rQ_aa : okR headQ (k1 0 5 :: k2 0 5 :: evn 1) = true := by kernel_rfl
theorem rQ_as : okR headQ (k1 0 5 :: k2 6 10 :: evn 1) = true := by kernel_rfl
theorem rQ_sa : okR headQ (k1 6 10 :: k2 0 5 :: evn 1) = true := by kernel_rfl
theorem rQ_ss : okR headQ (k1 6 10 :: k2 6 10 :: evn 1) = true := by kernel_rfl
end Go.Proofs.Ytojpmbkbeoolcaa
