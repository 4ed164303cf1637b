/- the law Banks, run over views that may be: by its operation. -/
import Derived.Test.YthhjijadllpcpaaV
namespace Go.Proofs.Ythhjijadllpcpaa
open Go.Sx Go
set_option maxRecDepth 100000
theorem K_0bh : allOf (fun1 3 [viewV 20 6 7, opK 0] (memF ([(.var 12, 1, hi64)] ++ rngs 6 16 (rngs 7 16 [])))) isTrue = true := by kernel_rfl
theorem K_0_3_0 : allOf (fun1 3 [viewV 20 6 7, opL 0 3 0 13] (memF ([] ++ rngs 6 16 (rngs 7 16 [])))) isTrue = true := by kernel_rfl
theorem K_1bh : allOf (fun1 3 [viewV 20 6 7, opK 1] (memF ([(.var 12, 1, hi64)] ++ rngs 6 16 (rngs 7 16 [])))) isTrue = true := by kernel_rfl
theorem K_1_3_0 : allOf (fun1 3 [viewV 20 6 7, opL 1 3 0 13] (memF ([] ++ rngs 6 16 (rngs 7 16 [])))) isTrue = true := by kernel_rfl
theorem K_2bh : allOf (fun1 3 [viewV 20 6 7, opK 2] (memF ([(.var 12, 1, hi64)] ++ rngs 6 16 (rngs 7 16 [])))) isTrue = true := by kernel_rfl
theorem K_2_3_0 : allOf (fun1 3 [viewV 20 6 7, opL 2 3 0 13] (memF ([] ++ rngs 6 16 (rngs 7 16 [])))) isTrue = true := by kernel_rfl
theorem K_3bh : allOf (fun1 3 [viewV 20 6 7, opK 3] (memF ([(.var 12, 1, hi64)] ++ rngs 6 16 (rngs 7 16 [])))) isTrue = true := by kernel_rfl
theorem K_3_3_0 : allOf (fun1 3 [viewV 20 6 7, opL 3 3 0 13] (memF ([] ++ rngs 6 16 (rngs 7 16 [])))) isTrue = true := by kernel_rfl
theorem K_4bh : allOf (fun1 3 [viewV 20 6 7, opK 4] (memF ([(.var 12, 4, hi64)] ++ rngs 6 16 (rngs 7 16 [])))) isTrue = true := by kernel_rfl
theorem K_4_0_3 : allOf (fun1 3 [viewV 20 6 7, opL 4 0 3 13] (memF ([] ++ rngs 6 16 (rngs 7 16 [])))) isTrue = true := by kernel_rfl
theorem K_4_1_3 : allOf (fun1 3 [viewV 20 6 7, opL 4 1 3 13] (memF ([] ++ rngs 6 16 (rngs 7 16 [])))) isTrue = true := by kernel_rfl
theorem K_4_2_3 : allOf (fun1 3 [viewV 20 6 7, opL 4 2 3 13] (memF ([] ++ rngs 6 16 (rngs 7 16 [])))) isTrue = true := by kernel_rfl
theorem K_4_3_3 : allOf (fun1 3 [viewV 20 6 7, opL 4 3 3 13] (memF ([] ++ rngs 6 16 (rngs 7 16 [])))) isTrue = true := by kernel_rfl
end Go.Proofs.Ythhjijadllpcpaa
