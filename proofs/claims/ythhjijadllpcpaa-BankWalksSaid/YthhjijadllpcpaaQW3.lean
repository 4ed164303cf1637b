/- a round of BankWalks, by its operation. -/
import Derived.Test.YthhjijadllpcpaaQW
namespace Go.Proofs.Ythhjijadllpcpaa
open Go.Sx Go
set_option maxRecDepth 100000
theorem w_0_3 : hOk [(eK, 0, 0), (eA, 3, 3)] = true := by kernel_rfl
theorem w_2_3 : hOk [(eK, 2, 2), (eA, 3, 3)] = true := by kernel_rfl
theorem w_4_0_3 : hOk [(eK, 4, 4), (eA, 0, 0), (eB, 3, 3)] = true := by kernel_rfl
theorem w_4_2_3 : hOk [(eK, 4, 4), (eA, 2, 2), (eB, 3, 3)] = true := by kernel_rfl
theorem w_5_nnzn : hOk [(eK, 5, 5), (.var 13, -1, -1), (.var 14, -1, -1), (.var 15, 0, 0), (.var 16, -1, -1)] = true := by kernel_rfl
theorem w_5_nznq : hOk [(eK, 5, 5), (.var 13, -1, -1), (.var 14, 0, 0), (.var 15, -1, -1), (.var 16, 1, 1550)] = true := by kernel_rfl
theorem w_5_nqnz : hOk [(eK, 5, 5), (.var 13, -1, -1), (.var 14, 1, 1550), (.var 15, -1, -1), (.var 16, 0, 0)] = true := by kernel_rfl
theorem w_5_znnn : hOk [(eK, 5, 5), (.var 13, 0, 0), (.var 14, -1, -1), (.var 15, -1, -1), (.var 16, -1, -1)] = true := by kernel_rfl
theorem w_5_znqq : hOk [(eK, 5, 5), (.var 13, 0, 0), (.var 14, -1, -1), (.var 15, 1, 1550), (.var 16, 1, 1550)] = true := by kernel_rfl
theorem w_5_zzqz : hOk [(eK, 5, 5), (.var 13, 0, 0), (.var 14, 0, 0), (.var 15, 1, 1550), (.var 16, 0, 0)] = true := by kernel_rfl
theorem w_5_zqqn : hOk [(eK, 5, 5), (.var 13, 0, 0), (.var 14, 1, 1550), (.var 15, 1, 1550), (.var 16, -1, -1)] = true := by kernel_rfl
theorem w_5_qnzq : hOk [(eK, 5, 5), (.var 13, 1, 1550), (.var 14, -1, -1), (.var 15, 0, 0), (.var 16, 1, 1550)] = true := by kernel_rfl
theorem w_5_qzzz : hOk [(eK, 5, 5), (.var 13, 1, 1550), (.var 14, 0, 0), (.var 15, 0, 0), (.var 16, 0, 0)] = true := by kernel_rfl
theorem w_5_qqzn : hOk [(eK, 5, 5), (.var 13, 1, 1550), (.var 14, 1, 1550), (.var 15, 0, 0), (.var 16, -1, -1)] = true := by kernel_rfl
end Go.Proofs.Ythhjijadllpcpaa
