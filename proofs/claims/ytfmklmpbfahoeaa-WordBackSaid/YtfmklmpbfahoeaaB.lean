/- contracts of package word's calls. -/
import Derived.Test.YtfmklmpbfahoeaaA
namespace Go.Proofs.Ytfmklmpbfahoeaa
open Go.RowKit

theorem ltb {B a : Nat} {w1 w2 : World} (hb : Below B w1 w2) (h : a < w1.heap.size) : a < w2.heap.size := Nat.lt_of_lt_of_le h hb.size
theorem split0 (n : Int) (w : World) :
    Calls Try.prog 17 #[.int .i64 0, .int .i64 n] w fun r w' => r = .returned (vI n) ∧ Below w.heap.size w w' := by
  go_enter Try.func17, Try.ntmps17
  go_wp2
  go_ret
  exact ⟨rfl, Below.refl _ _⟩
theorem split2 (n : Int) (w : World) (h : 0 ≤ n) (h2 : n ≤ 9223372036854775807) :
    Calls Try.prog 17 #[.int .i64 2, .int .i64 n] w fun r w' => r = .returned (mI (n % 16) (n / 16)) ∧ Below w.heap.size w w' := by
  go_enter Try.func17, Try.ntmps17
  go_wp2_with (go_at_call 20; refine (splitM _ _ (by omega) (by omega)).mono ?_; rintro e w' ⟨rfl, hb⟩)
  go_ret
  exact ⟨rfl, hb⟩
theorem split1 (n : Int) (w : World) (h : 0 ≤ n) (h2 : n ≤ 9223372036854775807) :
    Calls Try.prog 17 #[.int .i64 1, .int .i64 n] w fun r w' => r = .returned (eI (n / 1048576 / 4 / 16 % 16) (n / 1048576 / 4 / 16 / 16) (n / 1048576 / 4 % 16) (n / 1048576 % 4) (n % 1048576)) ∧ Below w.heap.size w w' := by
  go_enter Try.func17, Try.ntmps17
  go_wp2_with (go_at_call 21; refine (splitE _ _ (by omega) (by omega)).mono ?_; rintro e w' ⟨rfl, hb⟩)
  go_ret
  exact ⟨rfl, hb⟩
theorem split3 (n : Int) (w : World) :
    Calls Try.prog 17 #[.int .i64 3, .int .i64 n] w fun r w' => r = .returned .nilIface ∧ Below w.heap.size w w' := by
  go_enter Try.func17, Try.ntmps17
  go_wp2
  go_ret
  exact ⟨rfl, Below.refl _ _⟩

theorem me_vf (x : Int) (w : World) : (method 177 50 (.agg #[.int .i64 x]) "pawl/word.fits").run Try.prog w = .ok (38, .agg #[.int .i64 x]) w := by kernel_rfl
theorem me_vn (x : Int) (w : World) : (method 177 50 (.agg #[.int .i64 x]) "pawl/word.number").run Try.prog w = .ok (39, .agg #[.int .i64 x]) w := by kernel_rfl
theorem me_mf (s g : Int) (w : World) : (method 177 52 (.agg #[.int .i64 s, .int .i64 g]) "pawl/word.fits").run Try.prog w = .ok (41, .agg #[.int .i64 s, .int .i64 g]) w := by kernel_rfl
theorem me_mn (s g : Int) (w : World) : (method 177 52 (.agg #[.int .i64 s, .int .i64 g]) "pawl/word.number").run Try.prog w = .ok (42, .agg #[.int .i64 s, .int .i64 g]) w := by kernel_rfl
theorem me_ef (s g e t q : Int) (w : World) : (method 177 54 (.agg #[.int .i64 s, .int .i64 g, .int .i64 e, .int .i64 t, .int .i64 q]) "pawl/word.fits").run Try.prog w = .ok (43, .agg #[.int .i64 s, .int .i64 g, .int .i64 e, .int .i64 t, .int .i64 q]) w := by kernel_rfl
theorem me_en (s g e t q : Int) (w : World) : (method 177 54 (.agg #[.int .i64 s, .int .i64 g, .int .i64 e, .int .i64 t, .int .i64 q]) "pawl/word.number").run Try.prog w = .ok (44, .agg #[.int .i64 s, .int .i64 g, .int .i64 e, .int .i64 t, .int .i64 q]) w := by kernel_rfl

def eqw (k v s g e t q k' v' s' g' e' t' q' : Int) : Bool := decide (k = k' ∧ v = v' ∧ s = s' ∧ g = g' ∧ e = e' ∧ t = t' ∧ q = q')
theorem eq_wd (k v s g e t q k' v' s' g' e' t' q' : Int) (w : World) : (binOp .eql 23 (wd k v s g e t q) (wd k' v' s' g' e' t' q')).run Try.prog w = .ok (.bool (eqw k v s g e t q k' v' s' g' e' t' q')) w := by
  unfold eqw
  by_cases h0 : k = k'
  case neg => simp [go_sem, h0]
  by_cases h1 : v = v'
  case neg => simp [go_sem, h0, h1]
  by_cases h2 : s = s'
  case neg => simp [go_sem, h0, h1, h2]
  by_cases h3 : g = g'
  case neg => simp [go_sem, h0, h1, h2, h3]
  by_cases h4 : e = e'
  case neg => simp [go_sem, h0, h1, h2, h3, h4]
  by_cases h5 : t = t'
  case neg => simp [go_sem, h0, h1, h2, h3, h4, h5]
  by_cases h6 : q = q'
  case neg => simp [go_sem, h0, h1, h2, h3, h4, h5, h6]
  simp [go_sem, h0, h1, h2, h3, h4, h5, h6]

theorem undrew {w1 w2 : World} (hb : Below w1.drew.heap.size w1.drew w2) : Below w1.heap.size w1 w2 := ⟨hb.os, hb.tape, hb.output, hb.size, hb.block⟩
theorem bstep {a : Nat} {w1 w2 : World} (hb : Below w1.heap.size w1 w2) (h : a < w1.heap.size) : (∀ o, w2.cell? ⟨a, o, none⟩ = w1.cell? ⟨a, o, none⟩) ∧ a < w2.heap.size :=
  ⟨fun o => hb.cell (p := ⟨a, o, none⟩) h, ltb hb h⟩




set_option maxHeartbeats 1000000 in
theorem may0t (v s g e t q : Int) (w : World) (h : within v 1099511627775 = true) :
    Calls Try.prog 13 #[wd 0 v s g e t q] w fun r w' => r = .returned (.bool (eqw 0 v 0 0 0 0 0 0 v s g e t q)) ∧ Below w.heap.size w w' := by
  have hm := me_vf v
  have hq := eq_wd 0 v 0 0 0 0 0 0 v s g e t q
  go_enter Try.func13, Try.ntmps13
  go_wp2_with (go_at_call 16; refine (partOf0 _ _ _ _ _ _ _).mono ?_; rintro e w1 ⟨rfl, hb⟩; obtain ⟨hc, hz⟩ := bstep (a := w.heap.size) hb (by simp))
  first | go_region_with (first | (go_at_call 38; refine (vfits_any _ _).mono ?_; rintro e w2 ⟨rfl, hb1⟩; obtain ⟨hc1, hz1⟩ := bstep (undrew hb1) hz) | (go_at_call 18; refine (wordOf0 _ _).mono ?_; rintro e w3 ⟨rfl, hb2⟩; obtain ⟨hc2, hz2⟩ := bstep hb2 hz1)) | fail
  all_goals
    go_wp2
    go_ret
    exact ⟨rfl, (((Below.refl _ _).alloc (Nat.le_refl _) _).trans (hb.mono (by simp))).trans (((undrew hb1).mono (by omega)).trans (hb2.mono (by omega)))⟩

set_option maxHeartbeats 1000000 in
theorem may0f (v s g e t q : Int) (w : World) (h : within v 1099511627775 = false) :
    Calls Try.prog 13 #[wd 0 v s g e t q] w fun r w' => r = .returned (.bool (false)) ∧ Below w.heap.size w w' := by
  have hm := me_vf v
  go_enter Try.func13, Try.ntmps13
  go_wp2_with (go_at_call 16; refine (partOf0 _ _ _ _ _ _ _).mono ?_; rintro e w1 ⟨rfl, hb⟩; obtain ⟨hc, hz⟩ := bstep (a := w.heap.size) hb (by simp))
  first | go_region_with (first | (go_at_call 38; refine (vfits_any _ _).mono ?_; rintro e w2 ⟨rfl, hb1⟩; obtain ⟨hc1, hz1⟩ := bstep (undrew hb1) hz)) | fail
  all_goals
    go_wp2
    go_ret
    exact ⟨rfl, (((Below.refl _ _).alloc (Nat.le_refl _) _).trans (hb.mono (by simp))).trans ((undrew hb1).mono (by omega))⟩

set_option maxHeartbeats 1000000 in
theorem may2t (v s g e t q : Int) (w : World) (h : (within s 11 && within g 65535) = true) :
    Calls Try.prog 13 #[wd 2 v s g e t q] w fun r w' => r = .returned (.bool (eqw 2 0 s g 0 0 0 2 v s g e t q)) ∧ Below w.heap.size w w' := by
  have hm := me_mf s g
  have hq := eq_wd 2 0 s g 0 0 0 2 v s g e t q
  go_enter Try.func13, Try.ntmps13
  go_wp2_with (go_at_call 16; refine (partOf2 _ _ _ _ _ _ _).mono ?_; rintro e w1 ⟨rfl, hb⟩; obtain ⟨hc, hz⟩ := bstep (a := w.heap.size) hb (by simp))
  first | go_region_with (first | (go_at_call 41; refine (mfits_any _ _ _).mono ?_; rintro e w2 ⟨rfl, hb1⟩; obtain ⟨hc1, hz1⟩ := bstep (undrew hb1) hz) | (go_at_call 18; refine (wordOf2 _ _ _).mono ?_; rintro e w3 ⟨rfl, hb2⟩; obtain ⟨hc2, hz2⟩ := bstep hb2 hz1)) | fail
  all_goals
    go_wp2
    go_ret
    exact ⟨rfl, (((Below.refl _ _).alloc (Nat.le_refl _) _).trans (hb.mono (by simp))).trans (((undrew hb1).mono (by omega)).trans (hb2.mono (by omega)))⟩

set_option maxHeartbeats 1000000 in
theorem may2f (v s g e t q : Int) (w : World) (h : (within s 11 && within g 65535) = false) :
    Calls Try.prog 13 #[wd 2 v s g e t q] w fun r w' => r = .returned (.bool (false)) ∧ Below w.heap.size w w' := by
  have hm := me_mf s g
  go_enter Try.func13, Try.ntmps13
  go_wp2_with (go_at_call 16; refine (partOf2 _ _ _ _ _ _ _).mono ?_; rintro e w1 ⟨rfl, hb⟩; obtain ⟨hc, hz⟩ := bstep (a := w.heap.size) hb (by simp))
  first | go_region_with (first | (go_at_call 41; refine (mfits_any _ _ _).mono ?_; rintro e w2 ⟨rfl, hb1⟩; obtain ⟨hc1, hz1⟩ := bstep (undrew hb1) hz)) | fail
  all_goals
    go_wp2
    go_ret
    exact ⟨rfl, (((Below.refl _ _).alloc (Nat.le_refl _) _).trans (hb.mono (by simp))).trans ((undrew hb1).mono (by omega))⟩

set_option maxHeartbeats 1000000 in
theorem may1t (v s g e t q : Int) (w : World) (h : ((((within s 11 && within g 65535) && within e 15) && within t 3) && within q 1048575) = true) :
    Calls Try.prog 13 #[wd 1 v s g e t q] w fun r w' => r = .returned (.bool (eqw 1 0 s g e t q 1 v s g e t q)) ∧ Below w.heap.size w w' := by
  have hm := me_ef s g e t q
  have hq := eq_wd 1 0 s g e t q 1 v s g e t q
  go_enter Try.func13, Try.ntmps13
  go_wp2_with (go_at_call 16; refine (partOf1 _ _ _ _ _ _ _).mono ?_; rintro e w1 ⟨rfl, hb⟩; obtain ⟨hc, hz⟩ := bstep (a := w.heap.size) hb (by simp))
  first | go_region_with (first | (go_at_call 43; refine (efits_any _ _ _ _ _ _).mono ?_; rintro e w2 ⟨rfl, hb1⟩; obtain ⟨hc1, hz1⟩ := bstep (undrew hb1) hz) | (go_at_call 18; refine (wordOf1 _ _ _ _ _ _).mono ?_; rintro e w3 ⟨rfl, hb2⟩; obtain ⟨hc2, hz2⟩ := bstep hb2 hz1)) | fail
  all_goals
    go_wp2
    go_ret
    exact ⟨rfl, (((Below.refl _ _).alloc (Nat.le_refl _) _).trans (hb.mono (by simp))).trans (((undrew hb1).mono (by omega)).trans (hb2.mono (by omega)))⟩

set_option maxHeartbeats 1000000 in
theorem may1f (v s g e t q : Int) (w : World) (h : ((((within s 11 && within g 65535) && within e 15) && within t 3) && within q 1048575) = false) :
    Calls Try.prog 13 #[wd 1 v s g e t q] w fun r w' => r = .returned (.bool (false)) ∧ Below w.heap.size w w' := by
  have hm := me_ef s g e t q
  go_enter Try.func13, Try.ntmps13
  go_wp2_with (go_at_call 16; refine (partOf1 _ _ _ _ _ _ _).mono ?_; rintro e w1 ⟨rfl, hb⟩; obtain ⟨hc, hz⟩ := bstep (a := w.heap.size) hb (by simp))
  first | go_region_with (first | (go_at_call 43; refine (efits_any _ _ _ _ _ _).mono ?_; rintro e w2 ⟨rfl, hb1⟩; obtain ⟨hc1, hz1⟩ := bstep (undrew hb1) hz)) | fail
  all_goals
    go_wp2
    go_ret
    exact ⟨rfl, (((Below.refl _ _).alloc (Nat.le_refl _) _).trans (hb.mono (by simp))).trans ((undrew hb1).mono (by omega))⟩

theorem mayN (k v s g e t q : Int) (w : World) (h0 : (k == 0) = false) (h1 : (k == 1) = false) (h2 : (k == 2) = false) :
    Calls Try.prog 13 #[wd k v s g e t q] w fun r w' => r = .returned (.bool false) ∧ Below w.heap.size w w' := by
  go_enter Try.func13, Try.ntmps13
  go_wp2_with (go_at_call 16; refine (partOfN _ _ _ _ _ _ _ _ h0 h1 h2).mono ?_; rintro e w1 ⟨rfl, hb⟩)
  first | go_region_with (fail) | fail
  all_goals
    go_wp2
    go_ret
    exact ⟨rfl, (((Below.refl _ _).alloc (Nat.le_refl _) _).trans (hb.mono (by simp))).drew⟩
end Go.Proofs.Ytfmklmpbfahoeaa
