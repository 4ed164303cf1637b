/- the law WordForms: its walk. -/
import Derived.Test.YtfmklmpbfahoeaaK1
import Derived.Test.YtfmklmpbfahoeaaK2
import Derived.Test.YtfmklmpbfahoeaaK3
namespace Go.Proofs.Ytfmklmpbfahoeaa
open Go.RowKit

theorem wordForms_walk (wh x : Int) (w : World) (_ : -9223372036854775808 ≤ wh) (_ : wh ≤ 9223372036854775807) (_ : -9223372036854775808 ≤ x) (_ : x ≤ 9223372036854775807) :
    Calls Try.prog 5 #[.int .i64 wh, .int .i64 x] w fun r w' => r = .returned (.bool true) ∧ Below w.heap.size w w' := by
  have hm : bits .and .i64 x 1023 = x % 1024 := and_mask 10 (by decide) x 1023 (by decide)
  obtain ⟨d, hd⟩ : ∃ d, 1 + bits .and .i64 x 1023 = d := ⟨_, rfl⟩
  have d0 : 1 ≤ d := by omega
  have d1 : d ≤ 1024 := by omega
  have hd1 : bits .and .i64 x 1023 + 1 = d := by omega
  have hd2 : IntKind.i64.wrap (1 + bits .and .i64 x 1023) = d := (IntWalk.i64_in _ (by omega)).trans hd
  obtain ⟨i0, i1⟩ := um_bd wh 18 (by decide) (by decide)
  generalize hi : wrap64 ((IntKind.u64.wrap wh).tmod 18) = i at i0 i1
  have hc : i = 0 ∨ i = 1 ∨ i = 2 ∨ i = 3 ∨ i = 4 ∨ i = 5 ∨ i = 6 ∨ i = 7 ∨ i = 8 ∨ i = 9 ∨ i = 10 ∨ i = 11 ∨ i = 12 ∨ i = 13 ∨ i = 14 ∨ i = 15 ∨ i = 16 ∨ i = 17 := by omega
  rcases hc with rfl | rfl | rfl | rfl | rfl | rfl | rfl | rfl | rfl | rfl | rfl | rfl | rfl | rfl | rfl | rfl | rfl | rfl
  · exact wordForms_0 wh x d w hd1 hd2 hd d0 d1 hi
  · exact wordForms_1 wh x d w hd1 hd2 hd d0 d1 hi
  · exact wordForms_2 wh x d w hd1 hd2 hd d0 d1 hi
  · exact wordForms_3 wh x d w hd1 hd2 hd d0 d1 hi
  · exact wordForms_4 wh x d w hd1 hd2 hd d0 d1 hi
  · exact wordForms_5 wh x d w hd1 hd2 hd d0 d1 hi
  · exact wordForms_6 wh x d w hd1 hd2 hd d0 d1 hi
  · exact wordForms_7 wh x d w hd1 hd2 hd d0 d1 hi
  · exact wordForms_8 wh x d w hd1 hd2 hd d0 d1 hi
  · exact wordForms_9 wh x d w hd1 hd2 hd d0 d1 hi
  · exact wordForms_10 wh x d w hd1 hd2 hd d0 d1 hi
  · exact wordForms_11 wh x d w hd1 hd2 hd d0 d1 hi
  · exact wordForms_12 wh x d w hd1 hd2 hd d0 d1 hi
  · exact wordForms_13 wh x d w hd1 hd2 hd d0 d1 hi
  · exact wordForms_14 wh x d w hd1 hd2 hd d0 d1 hi
  · exact wordForms_15 wh x d w hd1 hd2 hd d0 d1 hi
  · exact wordForms_16 wh x d w hd1 hd2 hd d0 d1 hi
  · exact wordForms_17 wh x d w hd1 hd2 hd d0 d1 hi
end Go.Proofs.Ytfmklmpbfahoeaa
