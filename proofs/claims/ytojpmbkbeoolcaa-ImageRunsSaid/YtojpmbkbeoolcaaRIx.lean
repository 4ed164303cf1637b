/- ImageRuns: rounds from the head I. -/
import Derived.Test.YtojpmbkbeoolcaaRH
namespace Go.Proofs.Ytojpmbkbeoolcaa
open Go.Sx Go
set_option maxRecDepth 100000
theorem rI_f : okR headI (finF) = true := by kernel_rfl
theorem rI_e : okR headI (evn 0) = true := by kernel_rfl
theorem rI_1l : okR headI (k1 lo64 (-1) :: evn 1) = true := by kernel_rfl
theorem rI_1h : okR headI (k1 11 hi64 :: evn 1) = true := by kernel_rfl
theorem rI_2l : okR headI (k2 lo64 (-1) :: evn 1) = true := by kernel_rfl
theorem rI_2h : okR headI (k2 11 hi64 :: evn 1) = true := by kernel_rfl
theorem rI_aa : okR headI (k1 0 5 :: k2 0 5 :: evn 1) = true := by kernel_rfl
theorem rI_as : okR headI (k1 0 5 :: k2 6 10 :: evn 1) = true := by kernel_rfl
theorem rI_sa : okR headI (k1 6 10 :: k2 0 5 :: evn 1) = true := by kernel_rfl
theorem rI_ss : okR headI (k1 6 10 :: k2 6 10 :: evn 1) = true := by kernel_rfl
end Go.Proofs.Ytojpmbkbeoolcaa
