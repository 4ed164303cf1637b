/- The law ModelKeys: for every input the call returns true, and each argument reads afterwards as it read before; no condition. -/
import Derived.Test.YtpgnpdejefpdbaaWa
import Derived.Test.YtpgnpdejefpdbaaWb
import Derived.Test.YtpgnpdejefpdbaaWc
import Derived.Test.YtpgnpdejefpdbaaWd
import Derived.Test.YtpgnpdejefpdbaaXa
import Derived.Test.YtpgnpdejefpdbaaXb
import Derived.Test.YtpgnpdejefpdbaaXc
import Derived.Test.YtpgnpdejefpdbaaXd
import Derived.Test.YtpgnpdejefpdbaaXe
namespace Go.Proofs.Ytpgnpdejefpdbaa
open Go.Sx Go Go.ChangeShapes Go.WideShapes Go.ChangeAt Go.RowKit Go.Deep
set_option maxRecDepth 100000
theorem ys_0 : ∀ n : Nat, n < 10 → yOk [false, false, false, false, false] n = true
 | 0, _ => y_0_0
 | 1, _ => y_0_1
 | 2, _ => y_0_2
 | 3, _ => y_0_3
 | 4, _ => y_0_4
 | 5, _ => y_0_5
 | 6, _ => y_0_6
 | 7, _ => y_0_7
 | 8, _ => y_0_8
 | 9, _ => y_0_9
 | n + 10, h => absurd h (by omega)
theorem ys_1 : ∀ n : Nat, n < 10 → yOk [true, false, false, false, false] n = true
 | 0, _ => y_1_0
 | 1, _ => y_1_1
 | 2, _ => y_1_2
 | 3, _ => y_1_3
 | 4, _ => y_1_4
 | 5, _ => y_1_5
 | 6, _ => y_1_6
 | 7, _ => y_1_7
 | 8, _ => y_1_8
 | 9, _ => y_1_9
 | n + 10, h => absurd h (by omega)
theorem ys_2 : ∀ n : Nat, n < 10 → yOk [false, true, false, false, false] n = true
 | 0, _ => y_2_0
 | 1, _ => y_2_1
 | 2, _ => y_2_2
 | 3, _ => y_2_3
 | 4, _ => y_2_4
 | 5, _ => y_2_5
 | 6, _ => y_2_6
 | 7, _ => y_2_7
 | 8, _ => y_2_8
 | 9, _ => y_2_9
 | n + 10, h => absurd h (by omega)
theorem ys_3 : ∀ n : Nat, n < 10 → yOk [true, true, false, false, false] n = true
 | 0, _ => y_3_0
 | 1, _ => y_3_1
 | 2, _ => y_3_2
 | 3, _ => y_3_3
 | 4, _ => y_3_4
 | 5, _ => y_3_5
 | 6, _ => y_3_6
 | 7, _ => y_3_7
 | 8, _ => y_3_8
 | 9, _ => y_3_9
 | n + 10, h => absurd h (by omega)
theorem ys_4 : ∀ n : Nat, n < 10 → yOk [false, false, true, false, false] n = true
 | 0, _ => y_4_0
 | 1, _ => y_4_1
 | 2, _ => y_4_2
 | 3, _ => y_4_3
 | 4, _ => y_4_4
 | 5, _ => y_4_5
 | 6, _ => y_4_6
 | 7, _ => y_4_7
 | 8, _ => y_4_8
 | 9, _ => y_4_9
 | n + 10, h => absurd h (by omega)
theorem ys_5 : ∀ n : Nat, n < 10 → yOk [true, false, true, false, false] n = true
 | 0, _ => y_5_0
 | 1, _ => y_5_1
 | 2, _ => y_5_2
 | 3, _ => y_5_3
 | 4, _ => y_5_4
 | 5, _ => y_5_5
 | 6, _ => y_5_6
 | 7, _ => y_5_7
 | 8, _ => y_5_8
 | 9, _ => y_5_9
 | n + 10, h => absurd h (by omega)
theorem ys_6 : ∀ n : Nat, n < 10 → yOk [false, true, true, false, false] n = true
 | 0, _ => y_6_0
 | 1, _ => y_6_1
 | 2, _ => y_6_2
 | 3, _ => y_6_3
 | 4, _ => y_6_4
 | 5, _ => y_6_5
 | 6, _ => y_6_6
 | 7, _ => y_6_7
 | 8, _ => y_6_8
 | 9, _ => y_6_9
 | n + 10, h => absurd h (by omega)
theorem ys_7 : ∀ n : Nat, n < 10 → yOk [true, true, true, false, false] n = true
 | 0, _ => y_7_0
 | 1, _ => y_7_1
 | 2, _ => y_7_2
 | 3, _ => y_7_3
 | 4, _ => y_7_4
 | 5, _ => y_7_5
 | 6, _ => y_7_6
 | 7, _ => y_7_7
 | 8, _ => y_7_8
 | 9, _ => y_7_9
 | n + 10, h => absurd h (by omega)
theorem ys_8 : ∀ n : Nat, n < 10 → yOk [false, false, false, true, false] n = true
 | 0, _ => y_8_0
 | 1, _ => y_8_1
 | 2, _ => y_8_2
 | 3, _ => y_8_3
 | 4, _ => y_8_4
 | 5, _ => y_8_5
 | 6, _ => y_8_6
 | 7, _ => y_8_7
 | 8, _ => y_8_8
 | 9, _ => y_8_9
 | n + 10, h => absurd h (by omega)
theorem ys_9 : ∀ n : Nat, n < 10 → yOk [true, false, false, true, false] n = true
 | 0, _ => y_9_0
 | 1, _ => y_9_1
 | 2, _ => y_9_2
 | 3, _ => y_9_3
 | 4, _ => y_9_4
 | 5, _ => y_9_5
 | 6, _ => y_9_6
 | 7, _ => y_9_7
 | 8, _ => y_9_8
 | 9, _ => y_9_9
 | n + 10, h => absurd h (by omega)
theorem ys_10 : ∀ n : Nat, n < 10 → yOk [false, true, false, true, false] n = true
 | 0, _ => y_10_0
 | 1, _ => y_10_1
 | 2, _ => y_10_2
 | 3, _ => y_10_3
 | 4, _ => y_10_4
 | 5, _ => y_10_5
 | 6, _ => y_10_6
 | 7, _ => y_10_7
 | 8, _ => y_10_8
 | 9, _ => y_10_9
 | n + 10, h => absurd h (by omega)
theorem ys_11 : ∀ n : Nat, n < 10 → yOk [true, true, false, true, false] n = true
 | 0, _ => y_11_0
 | 1, _ => y_11_1
 | 2, _ => y_11_2
 | 3, _ => y_11_3
 | 4, _ => y_11_4
 | 5, _ => y_11_5
 | 6, _ => y_11_6
 | 7, _ => y_11_7
 | 8, _ => y_11_8
 | 9, _ => y_11_9
 | n + 10, h => absurd h (by omega)
theorem ys_12 : ∀ n : Nat, n < 10 → yOk [false, false, true, true, false] n = true
 | 0, _ => y_12_0
 | 1, _ => y_12_1
 | 2, _ => y_12_2
 | 3, _ => y_12_3
 | 4, _ => y_12_4
 | 5, _ => y_12_5
 | 6, _ => y_12_6
 | 7, _ => y_12_7
 | 8, _ => y_12_8
 | 9, _ => y_12_9
 | n + 10, h => absurd h (by omega)
theorem ys_13 : ∀ n : Nat, n < 10 → yOk [true, false, true, true, false] n = true
 | 0, _ => y_13_0
 | 1, _ => y_13_1
 | 2, _ => y_13_2
 | 3, _ => y_13_3
 | 4, _ => y_13_4
 | 5, _ => y_13_5
 | 6, _ => y_13_6
 | 7, _ => y_13_7
 | 8, _ => y_13_8
 | 9, _ => y_13_9
 | n + 10, h => absurd h (by omega)
theorem ys_14 : ∀ n : Nat, n < 10 → yOk [false, true, true, true, false] n = true
 | 0, _ => y_14_0
 | 1, _ => y_14_1
 | 2, _ => y_14_2
 | 3, _ => y_14_3
 | 4, _ => y_14_4
 | 5, _ => y_14_5
 | 6, _ => y_14_6
 | 7, _ => y_14_7
 | 8, _ => y_14_8
 | 9, _ => y_14_9
 | n + 10, h => absurd h (by omega)
theorem ys_15 : ∀ n : Nat, n < 10 → yOk [true, true, true, true, false] n = true
 | 0, _ => y_15_0
 | 1, _ => y_15_1
 | 2, _ => y_15_2
 | 3, _ => y_15_3
 | 4, _ => y_15_4
 | 5, _ => y_15_5
 | 6, _ => y_15_6
 | 7, _ => y_15_7
 | 8, _ => y_15_8
 | 9, _ => y_15_9
 | n + 10, h => absurd h (by omega)
theorem ys_16 : ∀ n : Nat, n < 10 → yOk [false, false, false, false, true] n = true
 | 0, _ => y_16_0
 | 1, _ => y_16_1
 | 2, _ => y_16_2
 | 3, _ => y_16_3
 | 4, _ => y_16_4
 | 5, _ => y_16_5
 | 6, _ => y_16_6
 | 7, _ => y_16_7
 | 8, _ => y_16_8
 | 9, _ => y_16_9
 | n + 10, h => absurd h (by omega)
theorem ys_17 : ∀ n : Nat, n < 10 → yOk [true, false, false, false, true] n = true
 | 0, _ => y_17_0
 | 1, _ => y_17_1
 | 2, _ => y_17_2
 | 3, _ => y_17_3
 | 4, _ => y_17_4
 | 5, _ => y_17_5
 | 6, _ => y_17_6
 | 7, _ => y_17_7
 | 8, _ => y_17_8
 | 9, _ => y_17_9
 | n + 10, h => absurd h (by omega)
theorem ys_18 : ∀ n : Nat, n < 10 → yOk [false, true, false, false, true] n = true
 | 0, _ => y_18_0
 | 1, _ => y_18_1
 | 2, _ => y_18_2
 | 3, _ => y_18_3
 | 4, _ => y_18_4
 | 5, _ => y_18_5
 | 6, _ => y_18_6
 | 7, _ => y_18_7
 | 8, _ => y_18_8
 | 9, _ => y_18_9
 | n + 10, h => absurd h (by omega)
theorem ys_19 : ∀ n : Nat, n < 10 → yOk [true, true, false, false, true] n = true
 | 0, _ => y_19_0
 | 1, _ => y_19_1
 | 2, _ => y_19_2
 | 3, _ => y_19_3
 | 4, _ => y_19_4
 | 5, _ => y_19_5
 | 6, _ => y_19_6
 | 7, _ => y_19_7
 | 8, _ => y_19_8
 | 9, _ => y_19_9
 | n + 10, h => absurd h (by omega)
theorem ys_20 : ∀ n : Nat, n < 10 → yOk [false, false, true, false, true] n = true
 | 0, _ => y_20_0
 | 1, _ => y_20_1
 | 2, _ => y_20_2
 | 3, _ => y_20_3
 | 4, _ => y_20_4
 | 5, _ => y_20_5
 | 6, _ => y_20_6
 | 7, _ => y_20_7
 | 8, _ => y_20_8
 | 9, _ => y_20_9
 | n + 10, h => absurd h (by omega)
theorem ys_21 : ∀ n : Nat, n < 10 → yOk [true, false, true, false, true] n = true
 | 0, _ => y_21_0
 | 1, _ => y_21_1
 | 2, _ => y_21_2
 | 3, _ => y_21_3
 | 4, _ => y_21_4
 | 5, _ => y_21_5
 | 6, _ => y_21_6
 | 7, _ => y_21_7
 | 8, _ => y_21_8
 | 9, _ => y_21_9
 | n + 10, h => absurd h (by omega)
theorem ys_22 : ∀ n : Nat, n < 10 → yOk [false, true, true, false, true] n = true
 | 0, _ => y_22_0
 | 1, _ => y_22_1
 | 2, _ => y_22_2
 | 3, _ => y_22_3
 | 4, _ => y_22_4
 | 5, _ => y_22_5
 | 6, _ => y_22_6
 | 7, _ => y_22_7
 | 8, _ => y_22_8
 | 9, _ => y_22_9
 | n + 10, h => absurd h (by omega)
theorem ys_23 : ∀ n : Nat, n < 10 → yOk [true, true, true, false, true] n = true
 | 0, _ => y_23_0
 | 1, _ => y_23_1
 | 2, _ => y_23_2
 | 3, _ => y_23_3
 | 4, _ => y_23_4
 | 5, _ => y_23_5
 | 6, _ => y_23_6
 | 7, _ => y_23_7
 | 8, _ => y_23_8
 | 9, _ => y_23_9
 | n + 10, h => absurd h (by omega)
theorem ys_24 : ∀ n : Nat, n < 10 → yOk [false, false, false, true, true] n = true
 | 0, _ => y_24_0
 | 1, _ => y_24_1
 | 2, _ => y_24_2
 | 3, _ => y_24_3
 | 4, _ => y_24_4
 | 5, _ => y_24_5
 | 6, _ => y_24_6
 | 7, _ => y_24_7
 | 8, _ => y_24_8
 | 9, _ => y_24_9
 | n + 10, h => absurd h (by omega)
theorem ys_25 : ∀ n : Nat, n < 10 → yOk [true, false, false, true, true] n = true
 | 0, _ => y_25_0
 | 1, _ => y_25_1
 | 2, _ => y_25_2
 | 3, _ => y_25_3
 | 4, _ => y_25_4
 | 5, _ => y_25_5
 | 6, _ => y_25_6
 | 7, _ => y_25_7
 | 8, _ => y_25_8
 | 9, _ => y_25_9
 | n + 10, h => absurd h (by omega)
theorem ys_26 : ∀ n : Nat, n < 10 → yOk [false, true, false, true, true] n = true
 | 0, _ => y_26_0
 | 1, _ => y_26_1
 | 2, _ => y_26_2
 | 3, _ => y_26_3
 | 4, _ => y_26_4
 | 5, _ => y_26_5
 | 6, _ => y_26_6
 | 7, _ => y_26_7
 | 8, _ => y_26_8
 | 9, _ => y_26_9
 | n + 10, h => absurd h (by omega)
theorem ys_27 : ∀ n : Nat, n < 10 → yOk [true, true, false, true, true] n = true
 | 0, _ => y_27_0
 | 1, _ => y_27_1
 | 2, _ => y_27_2
 | 3, _ => y_27_3
 | 4, _ => y_27_4
 | 5, _ => y_27_5
 | 6, _ => y_27_6
 | 7, _ => y_27_7
 | 8, _ => y_27_8
 | 9, _ => y_27_9
 | n + 10, h => absurd h (by omega)
theorem ys_28 : ∀ n : Nat, n < 10 → yOk [false, false, true, true, true] n = true
 | 0, _ => y_28_0
 | 1, _ => y_28_1
 | 2, _ => y_28_2
 | 3, _ => y_28_3
 | 4, _ => y_28_4
 | 5, _ => y_28_5
 | 6, _ => y_28_6
 | 7, _ => y_28_7
 | 8, _ => y_28_8
 | 9, _ => y_28_9
 | n + 10, h => absurd h (by omega)
theorem ys_29 : ∀ n : Nat, n < 10 → yOk [true, false, true, true, true] n = true
 | 0, _ => y_29_0
 | 1, _ => y_29_1
 | 2, _ => y_29_2
 | 3, _ => y_29_3
 | 4, _ => y_29_4
 | 5, _ => y_29_5
 | 6, _ => y_29_6
 | 7, _ => y_29_7
 | 8, _ => y_29_8
 | 9, _ => y_29_9
 | n + 10, h => absurd h (by omega)
theorem ys_30 : ∀ n : Nat, n < 10 → yOk [false, true, true, true, true] n = true
 | 0, _ => y_30_0
 | 1, _ => y_30_1
 | 2, _ => y_30_2
 | 3, _ => y_30_3
 | 4, _ => y_30_4
 | 5, _ => y_30_5
 | 6, _ => y_30_6
 | 7, _ => y_30_7
 | 8, _ => y_30_8
 | 9, _ => y_30_9
 | n + 10, h => absurd h (by omega)
theorem ys_31 : ∀ n : Nat, n < 10 → yOk [true, true, true, true, true] n = true
 | 0, _ => y_31_0
 | 1, _ => y_31_1
 | 2, _ => y_31_2
 | 3, _ => y_31_3
 | 4, _ => y_31_4
 | 5, _ => y_31_5
 | 6, _ => y_31_6
 | 7, _ => y_31_7
 | 8, _ => y_31_8
 | 9, _ => y_31_9
 | n + 10, h => absurd h (by omega)
noncomputable def lsK : List (List Bool) := [[false, false, false, false, false], [true, false, false, false, false], [false, true, false, false, false], [true, true, false, false, false], [false, false, true, false, false], [true, false, true, false, false], [false, true, true, false, false], [true, true, true, false, false], [false, false, false, true, false], [true, false, false, true, false], [false, true, false, true, false], [true, true, false, true, false], [false, false, true, true, false], [true, false, true, true, false], [false, true, true, true, false], [true, true, true, true, false], [false, false, false, false, true], [true, false, false, false, true], [false, true, false, false, true], [true, true, false, false, true], [false, false, true, false, true], [true, false, true, false, true], [false, true, true, false, true], [true, true, true, false, true], [false, false, false, true, true], [true, false, false, true, true], [false, true, false, true, true], [true, true, false, true, true], [false, false, true, true, true], [true, false, true, true, true], [false, true, true, true, true], [true, true, true, true, true]]
theorem lsK_eq : bools 5 = lsK := by kernel_rfl
theorem ys_all : ∀ l ∈ bools 5, ∀ n, n < 10 → yOk l n = true := by
 rw [lsK_eq]
 unfold lsK
 exact List.forall_mem_cons.2 ⟨ys_0, List.forall_mem_cons.2 ⟨ys_1, List.forall_mem_cons.2 ⟨ys_2, List.forall_mem_cons.2 ⟨ys_3, List.forall_mem_cons.2 ⟨ys_4, List.forall_mem_cons.2 ⟨ys_5, List.forall_mem_cons.2 ⟨ys_6, List.forall_mem_cons.2 ⟨ys_7, List.forall_mem_cons.2 ⟨ys_8, List.forall_mem_cons.2 ⟨ys_9, List.forall_mem_cons.2 ⟨ys_10, List.forall_mem_cons.2 ⟨ys_11, List.forall_mem_cons.2 ⟨ys_12, List.forall_mem_cons.2 ⟨ys_13, List.forall_mem_cons.2 ⟨ys_14, List.forall_mem_cons.2 ⟨ys_15, List.forall_mem_cons.2 ⟨ys_16, List.forall_mem_cons.2 ⟨ys_17, List.forall_mem_cons.2 ⟨ys_18, List.forall_mem_cons.2 ⟨ys_19, List.forall_mem_cons.2 ⟨ys_20, List.forall_mem_cons.2 ⟨ys_21, List.forall_mem_cons.2 ⟨ys_22, List.forall_mem_cons.2 ⟨ys_23, List.forall_mem_cons.2 ⟨ys_24, List.forall_mem_cons.2 ⟨ys_25, List.forall_mem_cons.2 ⟨ys_26, List.forall_mem_cons.2 ⟨ys_27, List.forall_mem_cons.2 ⟨ys_28, List.forall_mem_cons.2 ⟨ys_29, List.forall_mem_cons.2 ⟨ys_30, List.forall_mem_cons.2 ⟨ys_31, fun _ h => by cases h⟩⟩⟩⟩⟩⟩⟩⟩⟩⟩⟩⟩⟩⟩⟩⟩⟩⟩⟩⟩⟩⟩⟩⟩⟩⟩⟩⟩⟩⟩⟩⟩
theorem ft_all : ∀ a b : Nat, a < 5 → b < 5 → okFT a b = true
 | 0, 0, _, _ => ft_0_0
 | 0, 1, _, _ => ft_0_1
 | 0, 2, _, _ => ft_0_2
 | 0, 3, _, _ => ft_0_3
 | 0, 4, _, _ => ft_0_4
 | 1, 0, _, _ => ft_1_0
 | 1, 1, _, _ => ft_1_1
 | 1, 2, _, _ => ft_1_2
 | 1, 3, _, _ => ft_1_3
 | 1, 4, _, _ => ft_1_4
 | 2, 0, _, _ => ft_2_0
 | 2, 1, _, _ => ft_2_1
 | 2, 2, _, _ => ft_2_2
 | 2, 3, _, _ => ft_2_3
 | 2, 4, _, _ => ft_2_4
 | 3, 0, _, _ => ft_3_0
 | 3, 1, _, _ => ft_3_1
 | 3, 2, _, _ => ft_3_2
 | 3, 3, _, _ => ft_3_3
 | 3, 4, _, _ => ft_3_4
 | 4, 0, _, _ => ft_4_0
 | 4, 1, _, _ => ft_4_1
 | 4, 2, _, _ => ft_4_2
 | 4, 3, _, _ => ft_4_3
 | 4, 4, _, _ => ft_4_4
 | a + 5, _, h, _ => absurd h (by omega)
 | _, b + 5, _, h => absurd h (by omega)
theorem loopK_ok : LxOk G0 Try.prog (5, 0, loopK) :=
 lx_ok Try.func5 (c := bodyOf Try.f5) rfl (b := loopBody 0 (bodyOf Try.f5)) (by kernel_rfl) (keepK_ok (loopPc_ok (T := tabJ []) cxU_ok (jm := none) (fuel := 400) (noBlocks_ok _ _) (fun y hy => by
  obtain ⟨l, hl, rfl⟩ := List.mem_map.1 hy
  refine ⟨(List.range 10).map kFs, fun E hE _ => ?_, fun c hc => ?_⟩
  ·obtain ⟨n, hn, h⟩ := coverK hE
   exact ⟨_, List.mem_map.2 ⟨n, List.mem_range.2 hn, rfl⟩, h⟩
  ·obtain ⟨n, hn, rfl⟩ := List.mem_map.1 hc
   exact yOk_head hl (ys_all l hl n (List.mem_range.1 hn)))))
theorem runK_ok : SpecOk G0 Try.prog 5 runK := callF_ok (spOf_ok okSpU) (bxOf_ok (by intro y hy; simp only [List.mem_cons, List.not_mem_nil, or_false] at hy; subst hy; exact loopK_ok)) 400 12 5
section
variable {H : Type} {enc : TypeId × Value → H} {w : World} {base : Nat} {spare : Nat → Bool} {held : Bool} {r : Reach} {b0 : Nat}
theorem modelKeys_walk {v0 v1 v2 : Value} {d0 d1 d2 : DataW H} {p0 p1 p2 : List MemPlace}
  (k0 : Value.okWide Try.prog w r b0 41 v0) (h0 : DataW.Trod enc Try.prog w base spare held 41 v0 d0 p0)
  (k1 : Value.okWide Try.prog w r b0 3 v1) (h1 : DataW.Trod enc Try.prog w base spare held 3 v1 d1 p1)
  (k2 : Value.okWide Try.prog w r b0 3 v2) (h2 : DataW.Trod enc Try.prog w base spare held 3 v2 d2 p2) :
  Calls Try.prog 5 #[v0, v1, v2] w fun r w' => r = .returned (.bool true) ∧ Below w.heap.size w w' := by
 obtain ⟨a, rfl, _, _, wa⟩ := open_int Try.underlying3 k1 h1
 obtain ⟨z, rfl, _, _, wz⟩ := open_int Try.underlying3 k2 h2
 rcases open_xs k0 h0 with rfl | ⟨b, o, len, cap, zs, hx⟩
 ·have hE : (envL w [] [] [] ((6, [a]) :: (7, [z]) :: []) [] []).Ok := envL_ok (fun _ h => (by cases h)) none_in (one_in (i64_bd wa) (one_in (i64_bd wz) none_in))
  have h := key_nil
  unfold okKeyN at h
  have := law_ok (callF_ok (spOf_ok okSpU) noBx 400 12 5) h (w := w) rfl (slMem_ok 10 hE rfl rfl (fun _ h => (by cases h)) (fun _ h => (by cases h)))
  simp only [List.map_cons, List.map_nil] at this
  exact this
 ·let E := envL w [] [] [(5, zs)] ((2, [0]) :: (3, [(len : Int)]) :: (4, [(cap : Int)]) :: (6, [a]) :: (7, [z]) :: []) [(1, b)] [(1, o)]
  have hE : E.Ok := envL_ok (fun _ h => (by cases h)) (fun y hy => by
   rcases List.mem_singleton.1 hy with rfl
   exact hx.nums) (one_in zero_in (one_in (len_in (Nat.le_trans hx.room hx.max)) (one_in (len_in hx.max) (one_in (i64_bd wa) (one_in (i64_bd wz) none_in)))))
  have hN : SlArg.Named ⟨1, 2, 3, 4, 5, 1, b, o, len, cap, zs⟩ E := ⟨rfl, rfl, rfl, rfl, rfl, rfl, (by show (5 : Nat) ≠ 0; decide)⟩
  have hH := holds_of hx 1 2 3 4 5
  obtain ⟨m, n, hm, hn, hfs⟩ := coverM hE
  have h := ft_all m n hm hn
  unfold okFT okKey at h
  have := law_ok runK_ok h (E := E) (w := w) rfl (slMem_ok 10 hE rfl rfl (fun e he => by
   rcases List.mem_singleton.1 he with rfl
   exact ⟨rfl, SlArg.ent hN hH⟩) (fun f hf => (List.mem_append.1 hf).elim (hfs f) (SlArg.facts hN hH (le_hi hx.room hx.max) f)))
  simp only [List.map_cons, List.map_nil] at this
  rw [hx.val]
  exact this
end
end Go.Proofs.Ytpgnpdejefpdbaa
namespace Go.Proofs.Ytpgnpdejefpdbaa.modelKeys
open Go.ChangeShapes Go.WideShapes Go.ChangeAt Go.RowKit Go.Deep
set_option maxRecDepth 100000 in
theorem lifted (os : Os) (started : os.Started) (H : Type) (enc : TypeId × Value → H) :
  ReturnsInHanded {} Try.checked os 5 .any (Rows.modelKeysSpec.pre6 enc Try.prog Try.f5 Rows.modelKeysRow.domain false) (Rows.modelKeysSpec.post enc Try.prog Try.f5 false true false false) := by
 refine returnsInHanded_of_change (C := Try.checked) own started (by kernel_rfl) Try.func5
  (ChangeSpec.witness6 (enc := enc) (C := Try.checked) false ⟨#[], #[.slice none 0 0, .int .i64 0, .int .i64 0], []⟩ 60 (by kernel_rfl) (by kernel_rfl) (by kernel_rfl) (by kernel_rfl)) ?_
 intro W base args ds gs before hval0 hW _ _
 have hval : ∀ (j : Nat) t v, Try.f5.params[j]? = some t → args[j]? = some v → Value.okWide Try.prog W .any base t v := hval0
 have hW' := hW
 obtain ⟨p, q, hA0, hV, rfl, _, _⟩ := hW
 have hA : DataW.TrodAll enc Try.prog W 0 (fun _ => true) true Try.f5.params.toList args.toList ds p := hA0
 rw [Try.params5] at hA hval
 obtain ⟨v0, vs0, d0, ds0, p0, q0, hargs, rfl, rfl, h0, r0⟩ := trodAll_cons hA
 obtain ⟨v1, vs1, d1, ds1, p1, q1, rfl, rfl, rfl, h1, r1⟩ := trodAll_cons r0
 obtain ⟨v2, vs2, d2, ds2, p2, q2, rfl, rfl, rfl, h2, r2⟩ := trodAll_cons r1
 obtain ⟨rfl, rfl, rfl⟩ := trodAll_nil r2
 obtain rfl : args = #[v0, v1, v2] := by cases args; simp_all
 obtain ⟨rfl, rfl⟩ := trodVars_none hV
 have tl0 : ∀ x ∈ p0, x.block < W.heap.size := by obtain ⟨m, hm⟩ := h0; exact DataW.trod_lt m _ _ _ hm
 have tl1 : ∀ x ∈ p1, x.block < W.heap.size := by obtain ⟨m, hm⟩ := h1; exact DataW.trod_lt m _ _ _ hm
 have tl2 : ∀ x ∈ p2, x.block < W.heap.size := by obtain ⟨m, hm⟩ := h2; exact DataW.trod_lt m _ _ _ hm
 clear hA0 hval0
 refine (modelKeys_walk (hval 0 41 v0 rfl rfl) h0 (hval 1 3 v1 rfl rfl) h1 (hval 2 3 v2 rfl rfl) h2).mono fun e W' ⟨he, bel⟩ => ?_
 subst he
 exact ⟨_, rfl, _, _, _, [], _, [], hW', trodAll_mk1 (shut_bool Try.underlying4 _), (trodAll_cons_mk (Below.trod laidOut (by kernel_rfl) (of_decide_eq_true (by kernel_rfl)) h0 bel tl0) (trodAll_cons_mk (Below.trod laidOut (by kernel_rfl) (of_decide_eq_true (by kernel_rfl)) h1 bel tl1) (trodAll_cons_mk (Below.trod laidOut (by kernel_rfl) (of_decide_eq_true (by kernel_rfl)) h2 bel tl2) trodAll_mk0))), rfl, bel.frame _, fun h => by cases h⟩
theorem over : Rows.modelKeysRow.holds Try.pinned (OpenSpec.ofChange Rows.modelKeysSpec) :=
 OpenClaim.holds_of_wide 5 Try.f5 rfl rfl rfl rfl rfl rfl rfl ⟨rfl, rfl, rfl, rfl, rfl⟩ rfl rfl rfl rfl rfl (by kernel_rfl) Try.func5 (by kernel_rfl)
  (of_decide_eq_true (by kernel_rfl)) (by unfold Func.isWrapper; first | (rw [if_pos (by decide +kernel)]; kernel_rfl) | (rw [if_neg (by decide +kernel)]; exact ⟨rfl, rfl⟩))
  (fun os started H enc _ => lifted os started H enc)
theorem proved : Rows.ModelKeysSaid := over
#print axioms proved
end Go.Proofs.Ytpgnpdejefpdbaa.modelKeys
