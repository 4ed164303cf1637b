/- ImageRuns: rounds from the head R. -/
import Derived.Test.YtojpmbkbeoolcaaRH
namespace Go.Proofs.Ytojpmbkbeoolcaa
open Go.Sx Go
set_option maxRecDepth 100000
theorem rR_f : okR headR (finF) = true := by kernel_rfl
theorem rR_e : okR headR (evn 0) = true := by kernel_rfl
theorem rR_1l : okR headR (k1 lo64 (-1) :: evn 1) = true := by kernel_rfl
theorem rR_1h : okR headR (k1 11 hi64 :: evn 1) = true := by kernel_rfl
theorem rR_2l : okR headR (k2 lo64 (-1) :: evn 1) = true := by kernel_rfl
theorem rR_2h : okR headR (k2 11 hi64 :: evn 1) = true := by kernel_rfl
theorem rR_aa : okR headR (k1 0 5 :: k2 0 5 :: evn 1) = true := by kernel_rfl
theorem rR_as : okR headR (k1 0 5 :: k2 6 10 :: evn 1) = true := by kernel_rfl
theorem rR_sa : okR headR (k1 6 10 :: k2 0 5 :: evn 1) = true := by kernel_rfl
theorem rR_ss : okR headR (k1 6 10 :: k2 6 10 :: evn 1) = true := by kernel_rfl
end Go.Proofs.Ytojpmbkbeoolcaa
