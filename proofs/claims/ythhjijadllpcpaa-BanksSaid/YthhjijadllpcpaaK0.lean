/- the law Banks, run over views that may be: by its operation. -/
import Derived.Test.YthhjijadllpcpaaV
namespace Go.Proofs.Ythhjijadllpcpaa
open Go.Sx Go
set_option maxRecDepth 100000
theorem K_neg : allOf (fun1 3 [viewV 20 6 7, opV 10] (memF ([(.var 10, lo64, -1)] ++ rngs 6 16 (rngs 7 16 [])))) isTrue = true := by kernel_rfl
theorem K_0ah : allOf (fun1 3 [viewV 20 6 7, opK 0] (memF ([(.var 11, 4, hi64)] ++ rngs 6 16 (rngs 7 16 [])))) isTrue = true := by kernel_rfl
theorem K_0_1_0 : allOf (fun1 3 [viewV 20 6 7, opL 0 1 0 13] (memF ([] ++ rngs 6 16 (rngs 7 16 [])))) isTrue = true := by kernel_rfl
theorem K_1ah : allOf (fun1 3 [viewV 20 6 7, opK 1] (memF ([(.var 11, 4, hi64)] ++ rngs 6 16 (rngs 7 16 [])))) isTrue = true := by kernel_rfl
theorem K_1_1_0 : allOf (fun1 3 [viewV 20 6 7, opL 1 1 0 13] (memF ([] ++ rngs 6 16 (rngs 7 16 [])))) isTrue = true := by kernel_rfl
theorem K_2ah : allOf (fun1 3 [viewV 20 6 7, opK 2] (memF ([(.var 11, 4, hi64)] ++ rngs 6 16 (rngs 7 16 [])))) isTrue = true := by kernel_rfl
theorem K_2_1_0 : allOf (fun1 3 [viewV 20 6 7, opL 2 1 0 13] (memF ([] ++ rngs 6 16 (rngs 7 16 [])))) isTrue = true := by kernel_rfl
theorem K_3ah : allOf (fun1 3 [viewV 20 6 7, opK 3] (memF ([(.var 11, 4, hi64)] ++ rngs 6 16 (rngs 7 16 [])))) isTrue = true := by kernel_rfl
theorem K_3_1_0 : allOf (fun1 3 [viewV 20 6 7, opL 3 1 0 13] (memF ([] ++ rngs 6 16 (rngs 7 16 [])))) isTrue = true := by kernel_rfl
theorem K_4ah : allOf (fun1 3 [viewV 20 6 7, opK 4] (memF ([(.var 11, 4, hi64)] ++ rngs 6 16 (rngs 7 16 [])))) isTrue = true := by kernel_rfl
theorem K_4_0_1 : allOf (fun1 3 [viewV 20 6 7, opL 4 0 1 13] (memF ([] ++ rngs 6 16 (rngs 7 16 [])))) isTrue = true := by kernel_rfl
theorem K_4_1_1 : allOf (fun1 3 [viewV 20 6 7, opL 4 1 1 13] (memF ([] ++ rngs 6 16 (rngs 7 16 [])))) isTrue = true := by kernel_rfl
theorem K_4_2_1 : allOf (fun1 3 [viewV 20 6 7, opL 4 2 1 13] (memF ([] ++ rngs 6 16 (rngs 7 16 [])))) isTrue = true := by kernel_rfl
theorem K_4_3_1 : allOf (fun1 3 [viewV 20 6 7, opL 4 3 1 13] (memF ([] ++ rngs 6 16 (rngs 7 16 [])))) isTrue = true := by kernel_rfl
end Go.Proofs.Ythhjijadllpcpaa
