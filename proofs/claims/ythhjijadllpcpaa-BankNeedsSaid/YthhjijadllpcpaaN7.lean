/- the law BankNeeds, run over views that may be. -/
import Derived.Test.YthhjijadllpcpaaN
namespace Go.Proofs.Ythhjijadllpcpaa
open Go.Sx Go
set_option maxRecDepth 100000
theorem N_1ah : allOf (fun5 4 [viewV 20 6 7, opK 1, vi 9] (memC ([(.var 11, 4, hi64)] ++ rngs 6 16 (rngs 7 16 [])) [])) isTrue = true := by kernel_rfl
theorem N_3ah : allOf (fun5 4 [viewV 20 6 7, opK 3, vi 9] (memC ([(.var 11, 4, hi64)] ++ rngs 6 16 (rngs 7 16 [])) [])) isTrue = true := by kernel_rfl
theorem N_5ah : allOf (fun5 4 [viewV 20 6 7, opK 5, vi 9] (memC ([(.var 11, 1, hi64)] ++ rngs 6 16 (rngs 7 16 [])) [])) isTrue = true := by kernel_rfl
theorem N_0_1_0_0 : allOf (fun5 4 [viewV 20 6 7, opL 0 1 0 13, vi 9] (memC (rngs 6 16 (rngs 7 16 [])) [.not (.var 21)])) isTrue = true := by kernel_rfl
theorem N_1_1_0_0 : allOf (fun5 4 [viewV 20 6 7, opL 1 1 0 13, vi 9] (memC (rngs 6 16 (rngs 7 16 [])) [.not (.var 21)])) isTrue = true := by kernel_rfl
theorem N_2_1_0_0 : allOf (fun5 4 [viewV 20 6 7, opL 2 1 0 13, vi 9] (memC (rngs 6 16 (rngs 7 16 [])) [.not (.var 21)])) isTrue = true := by kernel_rfl
theorem N_3_1_0_0 : allOf (fun5 4 [viewV 20 6 7, opL 3 1 0 13, vi 9] (memC (rngs 6 16 (rngs 7 16 [])) [.not (.var 21)])) isTrue = true := by kernel_rfl
theorem N_4_0_1_11_1 : allOf (fun5 4 [viewV 20 6 7, opL 4 0 1 13, vi 9] (memC ([(.sel 7 (.lit 0), 1, 1099511627775), (.sel 7 (.lit 1), 0, 0)] ++ rngs 6 16 (rngs 7 16 [])) [.var 20, .var 21])) isTrue = true := by kernel_rfl
theorem N_4_0_1_00_0 : allOf (fun5 4 [viewV 20 6 7, opL 4 0 1 13, vi 9] (memC ([(.sel 7 (.lit 0), 0, 0)] ++ rngs 6 16 (rngs 7 16 [])) [.not (.var 20), .not (.var 21)])) isTrue = true := by kernel_rfl
theorem N_4_0_2_10_2 : allOf (fun5 4 [viewV 20 6 7, opL 4 0 2 13, vi 9] (memC ([(.sel 7 (.lit 0), 1, 1099511627775), (.sel 7 (.lit 2), 1, 1099511627775)] ++ rngs 6 16 (rngs 7 16 [])) [.var 20, .not (.var 22)])) isTrue = true := by kernel_rfl
theorem N_4_0_3_11_1 : allOf (fun5 4 [viewV 20 6 7, opL 4 0 3 13, vi 9] (memC ([(.sel 7 (.lit 0), 1, 1099511627775), (.sel 7 (.lit 3), 0, 0)] ++ rngs 6 16 (rngs 7 16 [])) [.var 20, .var 23])) isTrue = true := by kernel_rfl
theorem N_4_0_3_00_0 : allOf (fun5 4 [viewV 20 6 7, opL 4 0 3 13, vi 9] (memC ([(.sel 7 (.lit 0), 0, 0)] ++ rngs 6 16 (rngs 7 16 [])) [.not (.var 20), .not (.var 23)])) isTrue = true := by kernel_rfl
theorem N_4_1_0_10_2 : allOf (fun5 4 [viewV 20 6 7, opL 4 1 0 13, vi 9] (memC ([(.sel 7 (.lit 1), 1, 1099511627775), (.sel 7 (.lit 0), 1, 1099511627775)] ++ rngs 6 16 (rngs 7 16 [])) [.var 21, .not (.var 20)])) isTrue = true := by kernel_rfl
theorem N_4_1_1_0 : allOf (fun5 4 [viewV 20 6 7, opL 4 1 1 13, vi 9] (memC (rngs 6 16 (rngs 7 16 [])) [.not (.var 21)])) isTrue = true := by kernel_rfl
theorem N_4_1_2_01_1 : allOf (fun5 4 [viewV 20 6 7, opL 4 1 2 13, vi 9] (memC ([(.sel 7 (.lit 1), 1, 1099511627775), (.sel 7 (.lit 2), 0, 0)] ++ rngs 6 16 (rngs 7 16 [])) [.not (.var 21), .var 22])) isTrue = true := by kernel_rfl
theorem N_4_1_3_10_0 : allOf (fun5 4 [viewV 20 6 7, opL 4 1 3 13, vi 9] (memC ([(.sel 7 (.lit 1), 0, 0)] ++ rngs 6 16 (rngs 7 16 [])) [.var 21, .not (.var 23)])) isTrue = true := by kernel_rfl
theorem N_4_1_3_00_2 : allOf (fun5 4 [viewV 20 6 7, opL 4 1 3 13, vi 9] (memC ([(.sel 7 (.lit 1), 1, 1099511627775), (.sel 7 (.lit 3), 1, 1099511627775)] ++ rngs 6 16 (rngs 7 16 [])) [.not (.var 21), .not (.var 23)])) isTrue = true := by kernel_rfl
theorem N_4_2_0_01_1 : allOf (fun5 4 [viewV 20 6 7, opL 4 2 0 13, vi 9] (memC ([(.sel 7 (.lit 2), 1, 1099511627775), (.sel 7 (.lit 0), 0, 0)] ++ rngs 6 16 (rngs 7 16 [])) [.not (.var 22), .var 20])) isTrue = true := by kernel_rfl
theorem N_4_2_1_10_0 : allOf (fun5 4 [viewV 20 6 7, opL 4 2 1 13, vi 9] (memC ([(.sel 7 (.lit 2), 0, 0)] ++ rngs 6 16 (rngs 7 16 [])) [.var 22, .not (.var 21)])) isTrue = true := by kernel_rfl
theorem N_4_2_1_00_2 : allOf (fun5 4 [viewV 20 6 7, opL 4 2 1 13, vi 9] (memC ([(.sel 7 (.lit 2), 1, 1099511627775), (.sel 7 (.lit 1), 1, 1099511627775)] ++ rngs 6 16 (rngs 7 16 [])) [.not (.var 22), .not (.var 21)])) isTrue = true := by kernel_rfl
theorem N_4_2_3_10_2 : allOf (fun5 4 [viewV 20 6 7, opL 4 2 3 13, vi 9] (memC ([(.sel 7 (.lit 2), 1, 1099511627775), (.sel 7 (.lit 3), 1, 1099511627775)] ++ rngs 6 16 (rngs 7 16 [])) [.var 22, .not (.var 23)])) isTrue = true := by kernel_rfl
theorem N_4_3_0_11_1 : allOf (fun5 4 [viewV 20 6 7, opL 4 3 0 13, vi 9] (memC ([(.sel 7 (.lit 3), 1, 1099511627775), (.sel 7 (.lit 0), 0, 0)] ++ rngs 6 16 (rngs 7 16 [])) [.var 23, .var 20])) isTrue = true := by kernel_rfl
theorem N_4_3_0_00_0 : allOf (fun5 4 [viewV 20 6 7, opL 4 3 0 13, vi 9] (memC ([(.sel 7 (.lit 3), 0, 0)] ++ rngs 6 16 (rngs 7 16 [])) [.not (.var 23), .not (.var 20)])) isTrue = true := by kernel_rfl
theorem N_4_3_1_10_2 : allOf (fun5 4 [viewV 20 6 7, opL 4 3 1 13, vi 9] (memC ([(.sel 7 (.lit 3), 1, 1099511627775), (.sel 7 (.lit 1), 1, 1099511627775)] ++ rngs 6 16 (rngs 7 16 [])) [.var 23, .not (.var 21)])) isTrue = true := by kernel_rfl
theorem N_4_3_2_11_1 : allOf (fun5 4 [viewV 20 6 7, opL 4 3 2 13, vi 9] (memC ([(.sel 7 (.lit 3), 1, 1099511627775), (.sel 7 (.lit 2), 0, 0)] ++ rngs 6 16 (rngs 7 16 [])) [.var 23, .var 22])) isTrue = true := by kernel_rfl
theorem N_4_3_2_00_0 : allOf (fun5 4 [viewV 20 6 7, opL 4 3 2 13, vi 9] (memC ([(.sel 7 (.lit 3), 0, 0)] ++ rngs 6 16 (rngs 7 16 [])) [.not (.var 23), .not (.var 22)])) isTrue = true := by kernel_rfl
theorem N_5_1100 : allOf (fun5 4 [viewV 20 6 7, opS, vi 9] (memC (rngs 6 16 (rngs 7 16 [])) [.var 20, .var 21, .not (.var 22), .not (.var 23)])) isTrue = true := by kernel_rfl
theorem N_5_1101 : allOf (fun5 4 [viewV 20 6 7, opS, vi 9] (memC (rngs 6 16 (rngs 7 16 [])) [.var 20, .var 21, .not (.var 22), .var 23])) isTrue = true := by kernel_rfl
end Go.Proofs.Ythhjijadllpcpaa
