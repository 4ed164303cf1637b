/- the law Banks, run over views that may be: by its operation. -/
import Derived.Test.YthhjijadllpcpaaV
namespace Go.Proofs.Ythhjijadllpcpaa
open Go.Sx Go
set_option maxRecDepth 100000
theorem K_big : allOf (fun1 3 [viewV 20 6 7, opV 10] (memF ([(.var 10, 6, hi64)] ++ rngs 6 16 (rngs 7 16 [])))) isTrue = true := by kernel_rfl
theorem K_0bl : allOf (fun1 3 [viewV 20 6 7, opK 0] (memF ([(.var 12, lo64, -1)] ++ rngs 6 16 (rngs 7 16 [])))) isTrue = true := by kernel_rfl
theorem K_0_2_0 : allOf (fun1 3 [viewV 20 6 7, opL 0 2 0 13] (memF ([] ++ rngs 6 16 (rngs 7 16 [])))) isTrue = true := by kernel_rfl
theorem K_1bl : allOf (fun1 3 [viewV 20 6 7, opK 1] (memF ([(.var 12, lo64, -1)] ++ rngs 6 16 (rngs 7 16 [])))) isTrue = true := by kernel_rfl
theorem K_1_2_0 : allOf (fun1 3 [viewV 20 6 7, opL 1 2 0 13] (memF ([] ++ rngs 6 16 (rngs 7 16 [])))) isTrue = true := by kernel_rfl
theorem K_2bl : allOf (fun1 3 [viewV 20 6 7, opK 2] (memF ([(.var 12, lo64, -1)] ++ rngs 6 16 (rngs 7 16 [])))) isTrue = true := by kernel_rfl
theorem K_2_2_0 : allOf (fun1 3 [viewV 20 6 7, opL 2 2 0 13] (memF ([] ++ rngs 6 16 (rngs 7 16 [])))) isTrue = true := by kernel_rfl
theorem K_3bl : allOf (fun1 3 [viewV 20 6 7, opK 3] (memF ([(.var 12, lo64, -1)] ++ rngs 6 16 (rngs 7 16 [])))) isTrue = true := by kernel_rfl
theorem K_3_2_0 : allOf (fun1 3 [viewV 20 6 7, opL 3 2 0 13] (memF ([] ++ rngs 6 16 (rngs 7 16 [])))) isTrue = true := by kernel_rfl
theorem K_4bl : allOf (fun1 3 [viewV 20 6 7, opK 4] (memF ([(.var 12, lo64, -1)] ++ rngs 6 16 (rngs 7 16 [])))) isTrue = true := by kernel_rfl
theorem K_4_0_2 : allOf (fun1 3 [viewV 20 6 7, opL 4 0 2 13] (memF ([] ++ rngs 6 16 (rngs 7 16 [])))) isTrue = true := by kernel_rfl
theorem K_4_1_2 : allOf (fun1 3 [viewV 20 6 7, opL 4 1 2 13] (memF ([] ++ rngs 6 16 (rngs 7 16 [])))) isTrue = true := by kernel_rfl
theorem K_4_2_2 : allOf (fun1 3 [viewV 20 6 7, opL 4 2 2 13] (memF ([] ++ rngs 6 16 (rngs 7 16 [])))) isTrue = true := by kernel_rfl
theorem K_4_3_2 : allOf (fun1 3 [viewV 20 6 7, opL 4 3 2 13] (memF ([] ++ rngs 6 16 (rngs 7 16 [])))) isTrue = true := by kernel_rfl
end Go.Proofs.Ythhjijadllpcpaa
