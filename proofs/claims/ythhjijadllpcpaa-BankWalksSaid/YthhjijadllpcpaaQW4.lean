/- a round of BankWalks, by its operation. -/
import Derived.Test.YthhjijadllpcpaaQW
namespace Go.Proofs.Ythhjijadllpcpaa
open Go.Sx Go
set_option maxRecDepth 100000
theorem w_1_0 : hOk [(eK, 1, 1), (eA, 0, 0)] = true := by kernel_rfl
theorem w_3_0 : hOk [(eK, 3, 3), (eA, 0, 0)] = true := by kernel_rfl
theorem w_4_1_0 : hOk [(eK, 4, 4), (eA, 1, 1), (eB, 0, 0)] = true := by kernel_rfl
theorem w_4_3_0 : hOk [(eK, 4, 4), (eA, 3, 3), (eB, 0, 0)] = true := by kernel_rfl
theorem w_5_nnzz : hOk [(eK, 5, 5), (.var 13, -1, -1), (.var 14, -1, -1), (.var 15, 0, 0), (.var 16, 0, 0)] = true := by kernel_rfl
theorem w_5_nzzn : hOk [(eK, 5, 5), (.var 13, -1, -1), (.var 14, 0, 0), (.var 15, 0, 0), (.var 16, -1, -1)] = true := by kernel_rfl
theorem w_5_nqnq : hOk [(eK, 5, 5), (.var 13, -1, -1), (.var 14, 1, 1550), (.var 15, -1, -1), (.var 16, 1, 1550)] = true := by kernel_rfl
theorem w_5_znnz : hOk [(eK, 5, 5), (.var 13, 0, 0), (.var 14, -1, -1), (.var 15, -1, -1), (.var 16, 0, 0)] = true := by kernel_rfl
theorem w_5_zznn : hOk [(eK, 5, 5), (.var 13, 0, 0), (.var 14, 0, 0), (.var 15, -1, -1), (.var 16, -1, -1)] = true := by kernel_rfl
theorem w_5_zzqq : hOk [(eK, 5, 5), (.var 13, 0, 0), (.var 14, 0, 0), (.var 15, 1, 1550), (.var 16, 1, 1550)] = true := by kernel_rfl
theorem w_5_zqqz : hOk [(eK, 5, 5), (.var 13, 0, 0), (.var 14, 1, 1550), (.var 15, 1, 1550), (.var 16, 0, 0)] = true := by kernel_rfl
theorem w_5_qnqn : hOk [(eK, 5, 5), (.var 13, 1, 1550), (.var 14, -1, -1), (.var 15, 1, 1550), (.var 16, -1, -1)] = true := by kernel_rfl
theorem w_5_qzzq : hOk [(eK, 5, 5), (.var 13, 1, 1550), (.var 14, 0, 0), (.var 15, 0, 0), (.var 16, 1, 1550)] = true := by kernel_rfl
theorem w_5_qqzz : hOk [(eK, 5, 5), (.var 13, 1, 1550), (.var 14, 1, 1550), (.var 15, 0, 0), (.var 16, 0, 0)] = true := by kernel_rfl
end Go.Proofs.Ythhjijadllpcpaa
