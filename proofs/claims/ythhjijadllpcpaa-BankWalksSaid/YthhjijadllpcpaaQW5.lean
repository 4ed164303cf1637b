/- a round of BankWalks, by its operation. -/
import Derived.Test.YthhjijadllpcpaaQW
namespace Go.Proofs.Ythhjijadllpcpaa
open Go.Sx Go
set_option maxRecDepth 100000
theorem w_1_1 : hOk [(eK, 1, 1), (eA, 1, 1)] = true := by kernel_rfl
theorem w_3_1 : hOk [(eK, 3, 3), (eA, 1, 1)] = true := by kernel_rfl
theorem w_4_1_1 : hOk [(eK, 4, 4), (eA, 1, 1), (eB, 1, 1)] = true := by kernel_rfl
theorem w_4_3_1 : hOk [(eK, 4, 4), (eA, 3, 3), (eB, 1, 1)] = true := by kernel_rfl
theorem w_5_nnzq : hOk [(eK, 5, 5), (.var 13, -1, -1), (.var 14, -1, -1), (.var 15, 0, 0), (.var 16, 1, 1550)] = true := by kernel_rfl
theorem w_5_nzzz : hOk [(eK, 5, 5), (.var 13, -1, -1), (.var 14, 0, 0), (.var 15, 0, 0), (.var 16, 0, 0)] = true := by kernel_rfl
theorem w_5_nqzn : hOk [(eK, 5, 5), (.var 13, -1, -1), (.var 14, 1, 1550), (.var 15, 0, 0), (.var 16, -1, -1)] = true := by kernel_rfl
theorem w_5_znnq : hOk [(eK, 5, 5), (.var 13, 0, 0), (.var 14, -1, -1), (.var 15, -1, -1), (.var 16, 1, 1550)] = true := by kernel_rfl
theorem w_5_zznz : hOk [(eK, 5, 5), (.var 13, 0, 0), (.var 14, 0, 0), (.var 15, -1, -1), (.var 16, 0, 0)] = true := by kernel_rfl
theorem w_5_zqnn : hOk [(eK, 5, 5), (.var 13, 0, 0), (.var 14, 1, 1550), (.var 15, -1, -1), (.var 16, -1, -1)] = true := by kernel_rfl
theorem w_5_zqqq : hOk [(eK, 5, 5), (.var 13, 0, 0), (.var 14, 1, 1550), (.var 15, 1, 1550), (.var 16, 1, 1550)] = true := by kernel_rfl
theorem w_5_qnqz : hOk [(eK, 5, 5), (.var 13, 1, 1550), (.var 14, -1, -1), (.var 15, 1, 1550), (.var 16, 0, 0)] = true := by kernel_rfl
theorem w_5_qzqn : hOk [(eK, 5, 5), (.var 13, 1, 1550), (.var 14, 0, 0), (.var 15, 1, 1550), (.var 16, -1, -1)] = true := by kernel_rfl
theorem w_5_qqzq : hOk [(eK, 5, 5), (.var 13, 1, 1550), (.var 14, 1, 1550), (.var 15, 0, 0), (.var 16, 1, 1550)] = true := by kernel_rfl
end Go.Proofs.Ythhjijadllpcpaa
