/- the law Banks, run over views that may be: by its operation. -/
import Derived.Test.YthhjijadllpcpaaV
namespace Go.Proofs.Ythhjijadllpcpaa
open Go.Sx Go
set_option maxRecDepth 100000
theorem K_0al : allOf (fun1 3 [viewV 20 6 7, opK 0] (memF ([(.var 11, lo64, -1)] ++ rngs 6 16 (rngs 7 16 [])))) isTrue = true := by kernel_rfl
theorem K_0_0_0 : allOf (fun1 3 [viewV 20 6 7, opL 0 0 0 13] (memF ([] ++ rngs 6 16 (rngs 7 16 [])))) isTrue = true := by kernel_rfl
theorem K_1al : allOf (fun1 3 [viewV 20 6 7, opK 1] (memF ([(.var 11, lo64, -1)] ++ rngs 6 16 (rngs 7 16 [])))) isTrue = true := by kernel_rfl
theorem K_1_0_0 : allOf (fun1 3 [viewV 20 6 7, opL 1 0 0 13] (memF ([] ++ rngs 6 16 (rngs 7 16 [])))) isTrue = true := by kernel_rfl
theorem K_2al : allOf (fun1 3 [viewV 20 6 7, opK 2] (memF ([(.var 11, lo64, -1)] ++ rngs 6 16 (rngs 7 16 [])))) isTrue = true := by kernel_rfl
theorem K_2_0_0 : allOf (fun1 3 [viewV 20 6 7, opL 2 0 0 13] (memF ([] ++ rngs 6 16 (rngs 7 16 [])))) isTrue = true := by kernel_rfl
theorem K_3al : allOf (fun1 3 [viewV 20 6 7, opK 3] (memF ([(.var 11, lo64, -1)] ++ rngs 6 16 (rngs 7 16 [])))) isTrue = true := by kernel_rfl
theorem K_3_0_0 : allOf (fun1 3 [viewV 20 6 7, opL 3 0 0 13] (memF ([] ++ rngs 6 16 (rngs 7 16 [])))) isTrue = true := by kernel_rfl
theorem K_4al : allOf (fun1 3 [viewV 20 6 7, opK 4] (memF ([(.var 11, lo64, -1)] ++ rngs 6 16 (rngs 7 16 [])))) isTrue = true := by kernel_rfl
theorem K_4_0_0 : allOf (fun1 3 [viewV 20 6 7, opL 4 0 0 13] (memF ([] ++ rngs 6 16 (rngs 7 16 [])))) isTrue = true := by kernel_rfl
theorem K_4_1_0 : allOf (fun1 3 [viewV 20 6 7, opL 4 1 0 13] (memF ([] ++ rngs 6 16 (rngs 7 16 [])))) isTrue = true := by kernel_rfl
theorem K_4_2_0 : allOf (fun1 3 [viewV 20 6 7, opL 4 2 0 13] (memF ([] ++ rngs 6 16 (rngs 7 16 [])))) isTrue = true := by kernel_rfl
theorem K_4_3_0 : allOf (fun1 3 [viewV 20 6 7, opL 4 3 0 13] (memF ([] ++ rngs 6 16 (rngs 7 16 [])))) isTrue = true := by kernel_rfl
end Go.Proofs.Ythhjijadllpcpaa
