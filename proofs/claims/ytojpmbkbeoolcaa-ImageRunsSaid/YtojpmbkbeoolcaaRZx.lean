/- ImageRuns: rounds from the head Z. -/
import Derived.Test.YtojpmbkbeoolcaaRH
namespace Go.Proofs.Ytojpmbkbeoolcaa
open Go.Sx Go
set_option maxRecDepth 100000
theorem rZ_f : okR headZ (finF) = true := by kernel_rfl
theorem rZ_e : okR headZ (evn 0) = true := by kernel_rfl
theorem rZ_1l : okR headZ (k1 lo64 (-1) :: evn 1) = true := by kernel_rfl
theorem rZ_1h : okR headZ (k1 11 hi64 :: evn 1) = true := by kernel_rfl
theorem rZ_2l : okR headZ (k2 lo64 (-1) :: evn 1) = true := by kernel_rfl
theorem rZ_2h : okR headZ (k2 11 hi64 :: evn 1) = true := by kernel_rfl
theorem rZ_aa : okR headZ (k1 0 5 :: k2 0 5 :: evn 1) = true := by kernel_rfl
theorem rZ_as : okR headZ (k1 0 5 :: k2 6 10 :: evn 1) = true := by kernel_rfl
theorem rZ_sa : okR headZ (k1 6 10 :: k2 0 5 :: evn 1) = true := by kernel_rfl
theorem rZ_ss : okR headZ (k1 6 10 :: k2 6 10 :: evn 1) = true := by kernel_rfl
end Go.Proofs.Ytojpmbkbeoolcaa
