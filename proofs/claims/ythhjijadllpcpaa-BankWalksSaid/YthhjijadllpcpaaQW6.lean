/- a round of BankWalks, by its operation. -/
import Derived.Test.YthhjijadllpcpaaQW
namespace Go.Proofs.Ythhjijadllpcpaa
open Go.Sx Go
set_option maxRecDepth 100000
theorem w_1_2 : hOk [(eK, 1, 1), (eA, 2, 2)] = true := by kernel_rfl
theorem w_3_2 : hOk [(eK, 3, 3), (eA, 2, 2)] = true := by kernel_rfl
theorem w_4_1_2 : hOk [(eK, 4, 4), (eA, 1, 1), (eB, 2, 2)] = true := by kernel_rfl
theorem w_4_3_2 : hOk [(eK, 4, 4), (eA, 3, 3), (eB, 2, 2)] = true := by kernel_rfl
theorem w_5_nnqn : hOk [(eK, 5, 5), (.var 13, -1, -1), (.var 14, -1, -1), (.var 15, 1, 1550), (.var 16, -1, -1)] = true := by kernel_rfl
theorem w_5_nzzq : hOk [(eK, 5, 5), (.var 13, -1, -1), (.var 14, 0, 0), (.var 15, 0, 0), (.var 16, 1, 1550)] = true := by kernel_rfl
theorem w_5_nqzz : hOk [(eK, 5, 5), (.var 13, -1, -1), (.var 14, 1, 1550), (.var 15, 0, 0), (.var 16, 0, 0)] = true := by kernel_rfl
theorem w_5_znzn : hOk [(eK, 5, 5), (.var 13, 0, 0), (.var 14, -1, -1), (.var 15, 0, 0), (.var 16, -1, -1)] = true := by kernel_rfl
theorem w_5_zznq : hOk [(eK, 5, 5), (.var 13, 0, 0), (.var 14, 0, 0), (.var 15, -1, -1), (.var 16, 1, 1550)] = true := by kernel_rfl
theorem w_5_zqnz : hOk [(eK, 5, 5), (.var 13, 0, 0), (.var 14, 1, 1550), (.var 15, -1, -1), (.var 16, 0, 0)] = true := by kernel_rfl
theorem w_5_qnnn : hOk [(eK, 5, 5), (.var 13, 1, 1550), (.var 14, -1, -1), (.var 15, -1, -1), (.var 16, -1, -1)] = true := by kernel_rfl
theorem w_5_qnqq : hOk [(eK, 5, 5), (.var 13, 1, 1550), (.var 14, -1, -1), (.var 15, 1, 1550), (.var 16, 1, 1550)] = true := by kernel_rfl
theorem w_5_qzqz : hOk [(eK, 5, 5), (.var 13, 1, 1550), (.var 14, 0, 0), (.var 15, 1, 1550), (.var 16, 0, 0)] = true := by kernel_rfl
theorem w_5_qqqn : hOk [(eK, 5, 5), (.var 13, 1, 1550), (.var 14, 1, 1550), (.var 15, 1, 1550), (.var 16, -1, -1)] = true := by kernel_rfl
end Go.Proofs.Ythhjijadllpcpaa
