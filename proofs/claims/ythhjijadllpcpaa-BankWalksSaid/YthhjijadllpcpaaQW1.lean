/- a round of BankWalks, by its operation. -/
import Derived.Test.YthhjijadllpcpaaQW
namespace Go.Proofs.Ythhjijadllpcpaa
open Go.Sx Go
set_option maxRecDepth 100000
theorem w_0_1 : hOk [(eK, 0, 0), (eA, 1, 1)] = true := by kernel_rfl
theorem w_2_1 : hOk [(eK, 2, 2), (eA, 1, 1)] = true := by kernel_rfl
theorem w_4_0_1 : hOk [(eK, 4, 4), (eA, 0, 0), (eB, 1, 1)] = true := by kernel_rfl
theorem w_4_2_1 : hOk [(eK, 4, 4), (eA, 2, 2), (eB, 1, 1)] = true := by kernel_rfl
theorem w_5_nnnz : hOk [(eK, 5, 5), (.var 13, -1, -1), (.var 14, -1, -1), (.var 15, -1, -1), (.var 16, 0, 0)] = true := by kernel_rfl
theorem w_5_nznn : hOk [(eK, 5, 5), (.var 13, -1, -1), (.var 14, 0, 0), (.var 15, -1, -1), (.var 16, -1, -1)] = true := by kernel_rfl
theorem w_5_nzqq : hOk [(eK, 5, 5), (.var 13, -1, -1), (.var 14, 0, 0), (.var 15, 1, 1550), (.var 16, 1, 1550)] = true := by kernel_rfl
theorem w_5_nqqz : hOk [(eK, 5, 5), (.var 13, -1, -1), (.var 14, 1, 1550), (.var 15, 1, 1550), (.var 16, 0, 0)] = true := by kernel_rfl
theorem w_5_znqn : hOk [(eK, 5, 5), (.var 13, 0, 0), (.var 14, -1, -1), (.var 15, 1, 1550), (.var 16, -1, -1)] = true := by kernel_rfl
theorem w_5_zzzq : hOk [(eK, 5, 5), (.var 13, 0, 0), (.var 14, 0, 0), (.var 15, 0, 0), (.var 16, 1, 1550)] = true := by kernel_rfl
theorem w_5_zqzz : hOk [(eK, 5, 5), (.var 13, 0, 0), (.var 14, 1, 1550), (.var 15, 0, 0), (.var 16, 0, 0)] = true := by kernel_rfl
theorem w_5_qnzn : hOk [(eK, 5, 5), (.var 13, 1, 1550), (.var 14, -1, -1), (.var 15, 0, 0), (.var 16, -1, -1)] = true := by kernel_rfl
theorem w_5_qznq : hOk [(eK, 5, 5), (.var 13, 1, 1550), (.var 14, 0, 0), (.var 15, -1, -1), (.var 16, 1, 1550)] = true := by kernel_rfl
theorem w_5_qqnz : hOk [(eK, 5, 5), (.var 13, 1, 1550), (.var 14, 1, 1550), (.var 15, -1, -1), (.var 16, 0, 0)] = true := by kernel_rfl
end Go.Proofs.Ythhjijadllpcpaa
