/- contracts of package word's calls: Get. -/
import Derived.Test.YtfmklmpbfahoeaaC
namespace Go.Proofs.Ytfmklmpbfahoeaa
open Go.RowKit

theorem get_neg (x : Int) (w : World) (h : x < 0) :
    Calls Try.prog 10 #[.int .i64 x] w fun r w' => r = .returned (.tuple #[wd 0 0 0 0 0 0 0, .int .i64 100]) ∧ Below w.heap.size w w' := by
  go_enter Try.func10, Try.ntmps10
  go_wp2_with fail
  exact bodyPost_ret (v := .tuple #[wd 0 0 0 0 0 0 0, .int .i64 100]) (by simp [results, Try.results10, go_sem]) rfl ⟨rfl, by
    repeat (first | exact Below.refl _ _ | refine Below.alloc ?_ (by simp <;> omega) _ | refine Below.setCell ?_ (by simp <;> omega) _)⟩

theorem get_3 (x : Int) (w : World) (h0 : 0 ≤ x) (h1 : x ≤ 9223372036854775807) (hk : x % 4 = 3) :
    Calls Try.prog 10 #[.int .i64 x] w fun r w' => r = .returned (.tuple #[wd 0 0 0 0 0 0 0, .int .i64 100]) ∧ Below w.heap.size w w' := by
  go_enter Try.func10, Try.ntmps10
  go_wp2_with (go_at_call 17; refine (split3 _ _).mono ?_; rintro r w1 ⟨rfl, hb⟩; obtain ⟨hc, hf⟩ := bcell hb; have hz : w.heap.size < w1.heap.size := ltb hb (by simp); have hbw : Below w.heap.size w w1 := ((Below.refl _ _).alloc (Nat.le_refl _) _).trans (hb.mono (by simp)))
  exact bodyPost_ret (v := .tuple #[wd 0 0 0 0 0 0 0, .int .i64 100]) (by simp [results, Try.results10, go_sem, hc]) rfl ⟨rfl, by
    repeat (first | with_reducible exact hbw | refine Below.setCell ?_ (by simp <;> omega) _)⟩

set_option maxHeartbeats 1000000 in
theorem get0t (x : Int) (w : World) (h0 : 0 ≤ x) (h1 : x ≤ 9223372036854775807) (hk : x % 4 = 0) (h : within (x / 4) 1099511627775 = true) :
    Calls Try.prog 10 #[.int .i64 x] w fun r w' => r = .returned (.tuple #[wd 0 (x / 4) 0 0 0 0 0, .int .i64 0]) ∧ Below w.heap.size w w' := by
  have hm := me_vf (x / 4)
  go_enter Try.func10, Try.ntmps10
  go_wp2_with (first | (go_at_call 17; refine (split0 _ _).mono ?_; rintro r w1 ⟨rfl, hb⟩; obtain ⟨hc, hf⟩ := bcell hb; have hz : w.heap.size < w1.heap.size := ltb hb (by simp); have hbw : Below w.heap.size w w1 := ((Below.refl _ _).alloc (Nat.le_refl _) _).trans (hb.mono (by simp))) | (go_at_call 38; refine (vfits_any _ _).mono ?_; rintro r w2 ⟨rfl, hb1⟩; obtain ⟨hc1, hf1⟩ := bcell hb1; have hz1 : w.heap.size < w2.heap.size := ltb hb1 hz; have hbw1 : Below w.heap.size w w2 := hbw.trans (hb1.mono (by omega))) | (go_at_call 18; refine (wordOf0 _ _).mono ?_; rintro r w3 ⟨rfl, hb2⟩; obtain ⟨hc2, hf2⟩ := bcell hb2; have hz2 : w.heap.size < w3.heap.size := ltb hb2 hz1; have hbw2 : Below w.heap.size w w3 := hbw1.trans (hb2.mono (by omega))))
  exact bodyPost_ret (v := .tuple #[wd 0 (x / 4) 0 0 0 0 0, .int .i64 0]) (by simp [results, Try.results10, go_sem, hc, hc1, hc2, hz, hz1]) rfl ⟨rfl, by
    repeat (first | with_reducible exact hbw2 | refine Below.setCell ?_ (by simp <;> omega) _)⟩

set_option maxHeartbeats 1000000 in
theorem get0f (x : Int) (w : World) (h0 : 0 ≤ x) (h1 : x ≤ 9223372036854775807) (hk : x % 4 = 0) (h : within (x / 4) 1099511627775 = false) :
    Calls Try.prog 10 #[.int .i64 x] w fun r w' => r = .returned (.tuple #[wd 0 0 0 0 0 0 0, .int .i64 100]) ∧ Below w.heap.size w w' := by
  have hm := me_vf (x / 4)
  go_enter Try.func10, Try.ntmps10
  go_wp2_with (first | (go_at_call 17; refine (split0 _ _).mono ?_; rintro r w1 ⟨rfl, hb⟩; obtain ⟨hc, hf⟩ := bcell hb; have hz : w.heap.size < w1.heap.size := ltb hb (by simp); have hbw : Below w.heap.size w w1 := ((Below.refl _ _).alloc (Nat.le_refl _) _).trans (hb.mono (by simp))) | (go_at_call 38; refine (vfits_any _ _).mono ?_; rintro r w2 ⟨rfl, hb1⟩; obtain ⟨hc1, hf1⟩ := bcell hb1; have hz1 : w.heap.size < w2.heap.size := ltb hb1 hz; have hbw1 : Below w.heap.size w w2 := hbw.trans (hb1.mono (by omega))))
  exact bodyPost_ret (v := .tuple #[wd 0 0 0 0 0 0 0, .int .i64 100]) (by simp [results, Try.results10, go_sem, hc, hc1, hz]) rfl ⟨rfl, by
    repeat (first | with_reducible exact hbw1 | refine Below.setCell ?_ (by simp <;> omega) _)⟩

set_option maxHeartbeats 1000000 in
theorem get2t (x : Int) (w : World) (h0 : 0 ≤ x) (h1 : x ≤ 9223372036854775807) (hk : x % 4 = 2) (h : (within (x / 4 % 16) 11 && within (x / 4 / 16) 65535) = true) :
    Calls Try.prog 10 #[.int .i64 x] w fun r w' => r = .returned (.tuple #[wd 2 0 (x / 4 % 16) (x / 4 / 16) 0 0 0, .int .i64 0]) ∧ Below w.heap.size w w' := by
  have hm := me_mf (x / 4 % 16) (x / 4 / 16)
  go_enter Try.func10, Try.ntmps10
  go_wp2_with (first | (go_at_call 17; refine (split2 _ _ (by omega) (by omega)).mono ?_; rintro r w1 ⟨rfl, hb⟩; obtain ⟨hc, hf⟩ := bcell hb; have hz : w.heap.size < w1.heap.size := ltb hb (by simp); have hbw : Below w.heap.size w w1 := ((Below.refl _ _).alloc (Nat.le_refl _) _).trans (hb.mono (by simp))) | (go_at_call 41; refine (mfits_any _ _ _).mono ?_; rintro r w2 ⟨rfl, hb1⟩; obtain ⟨hc1, hf1⟩ := bcell hb1; have hz1 : w.heap.size < w2.heap.size := ltb hb1 hz; have hbw1 : Below w.heap.size w w2 := hbw.trans (hb1.mono (by omega))) | (go_at_call 18; refine (wordOf2 _ _ _).mono ?_; rintro r w3 ⟨rfl, hb2⟩; obtain ⟨hc2, hf2⟩ := bcell hb2; have hz2 : w.heap.size < w3.heap.size := ltb hb2 hz1; have hbw2 : Below w.heap.size w w3 := hbw1.trans (hb2.mono (by omega))))
  exact bodyPost_ret (v := .tuple #[wd 2 0 (x / 4 % 16) (x / 4 / 16) 0 0 0, .int .i64 0]) (by simp [results, Try.results10, go_sem, hc, hc1, hc2, hz, hz1]) rfl ⟨rfl, by
    repeat (first | with_reducible exact hbw2 | refine Below.setCell ?_ (by simp <;> omega) _)⟩

set_option maxHeartbeats 1000000 in
theorem get2f (x : Int) (w : World) (h0 : 0 ≤ x) (h1 : x ≤ 9223372036854775807) (hk : x % 4 = 2) (h : (within (x / 4 % 16) 11 && within (x / 4 / 16) 65535) = false) :
    Calls Try.prog 10 #[.int .i64 x] w fun r w' => r = .returned (.tuple #[wd 0 0 0 0 0 0 0, .int .i64 100]) ∧ Below w.heap.size w w' := by
  have hm := me_mf (x / 4 % 16) (x / 4 / 16)
  go_enter Try.func10, Try.ntmps10
  go_wp2_with (first | (go_at_call 17; refine (split2 _ _ (by omega) (by omega)).mono ?_; rintro r w1 ⟨rfl, hb⟩; obtain ⟨hc, hf⟩ := bcell hb; have hz : w.heap.size < w1.heap.size := ltb hb (by simp); have hbw : Below w.heap.size w w1 := ((Below.refl _ _).alloc (Nat.le_refl _) _).trans (hb.mono (by simp))) | (go_at_call 41; refine (mfits_any _ _ _).mono ?_; rintro r w2 ⟨rfl, hb1⟩; obtain ⟨hc1, hf1⟩ := bcell hb1; have hz1 : w.heap.size < w2.heap.size := ltb hb1 hz; have hbw1 : Below w.heap.size w w2 := hbw.trans (hb1.mono (by omega))))
  exact bodyPost_ret (v := .tuple #[wd 0 0 0 0 0 0 0, .int .i64 100]) (by simp [results, Try.results10, go_sem, hc, hc1, hz]) rfl ⟨rfl, by
    repeat (first | with_reducible exact hbw1 | refine Below.setCell ?_ (by simp <;> omega) _)⟩

set_option maxHeartbeats 1000000 in
theorem get1t (x : Int) (w : World) (h0 : 0 ≤ x) (h1 : x ≤ 9223372036854775807) (hk : x % 4 = 1) (h : ((((within (x / 4 / 1048576 / 4 / 16 % 16) 11 && within (x / 4 / 1048576 / 4 / 16 / 16) 65535) && within (x / 4 / 1048576 / 4 % 16) 15) && within (x / 4 / 1048576 % 4) 3) && within (x / 4 % 1048576) 1048575) = true) :
    Calls Try.prog 10 #[.int .i64 x] w fun r w' => r = .returned (.tuple #[wd 1 0 (x / 4 / 1048576 / 4 / 16 % 16) (x / 4 / 1048576 / 4 / 16 / 16) (x / 4 / 1048576 / 4 % 16) (x / 4 / 1048576 % 4) (x / 4 % 1048576), .int .i64 0]) ∧ Below w.heap.size w w' := by
  have hm := me_ef (x / 4 / 1048576 / 4 / 16 % 16) (x / 4 / 1048576 / 4 / 16 / 16) (x / 4 / 1048576 / 4 % 16) (x / 4 / 1048576 % 4) (x / 4 % 1048576)
  go_enter Try.func10, Try.ntmps10
  go_wp2_with (first | (go_at_call 17; refine (split1 _ _ (by omega) (by omega)).mono ?_; rintro r w1 ⟨rfl, hb⟩; obtain ⟨hc, hf⟩ := bcell hb; have hz : w.heap.size < w1.heap.size := ltb hb (by simp); have hbw : Below w.heap.size w w1 := ((Below.refl _ _).alloc (Nat.le_refl _) _).trans (hb.mono (by simp))) | (go_at_call 43; refine (efits_any _ _ _ _ _ _).mono ?_; rintro r w2 ⟨rfl, hb1⟩; obtain ⟨hc1, hf1⟩ := bcell hb1; have hz1 : w.heap.size < w2.heap.size := ltb hb1 hz; have hbw1 : Below w.heap.size w w2 := hbw.trans (hb1.mono (by omega))) | (go_at_call 18; refine (wordOf1 _ _ _ _ _ _).mono ?_; rintro r w3 ⟨rfl, hb2⟩; obtain ⟨hc2, hf2⟩ := bcell hb2; have hz2 : w.heap.size < w3.heap.size := ltb hb2 hz1; have hbw2 : Below w.heap.size w w3 := hbw1.trans (hb2.mono (by omega))))
  exact bodyPost_ret (v := .tuple #[wd 1 0 (x / 4 / 1048576 / 4 / 16 % 16) (x / 4 / 1048576 / 4 / 16 / 16) (x / 4 / 1048576 / 4 % 16) (x / 4 / 1048576 % 4) (x / 4 % 1048576), .int .i64 0]) (by simp [results, Try.results10, go_sem, hc, hc1, hc2, hz, hz1]) rfl ⟨rfl, by
    repeat (first | with_reducible exact hbw2 | refine Below.setCell ?_ (by simp <;> omega) _)⟩

set_option maxHeartbeats 1000000 in
theorem get1f (x : Int) (w : World) (h0 : 0 ≤ x) (h1 : x ≤ 9223372036854775807) (hk : x % 4 = 1) (h : ((((within (x / 4 / 1048576 / 4 / 16 % 16) 11 && within (x / 4 / 1048576 / 4 / 16 / 16) 65535) && within (x / 4 / 1048576 / 4 % 16) 15) && within (x / 4 / 1048576 % 4) 3) && within (x / 4 % 1048576) 1048575) = false) :
    Calls Try.prog 10 #[.int .i64 x] w fun r w' => r = .returned (.tuple #[wd 0 0 0 0 0 0 0, .int .i64 100]) ∧ Below w.heap.size w w' := by
  have hm := me_ef (x / 4 / 1048576 / 4 / 16 % 16) (x / 4 / 1048576 / 4 / 16 / 16) (x / 4 / 1048576 / 4 % 16) (x / 4 / 1048576 % 4) (x / 4 % 1048576)
  go_enter Try.func10, Try.ntmps10
  go_wp2_with (first | (go_at_call 17; refine (split1 _ _ (by omega) (by omega)).mono ?_; rintro r w1 ⟨rfl, hb⟩; obtain ⟨hc, hf⟩ := bcell hb; have hz : w.heap.size < w1.heap.size := ltb hb (by simp); have hbw : Below w.heap.size w w1 := ((Below.refl _ _).alloc (Nat.le_refl _) _).trans (hb.mono (by simp))) | (go_at_call 43; refine (efits_any _ _ _ _ _ _).mono ?_; rintro r w2 ⟨rfl, hb1⟩; obtain ⟨hc1, hf1⟩ := bcell hb1; have hz1 : w.heap.size < w2.heap.size := ltb hb1 hz; have hbw1 : Below w.heap.size w w2 := hbw.trans (hb1.mono (by omega))))
  exact bodyPost_ret (v := .tuple #[wd 0 0 0 0 0 0 0, .int .i64 100]) (by simp [results, Try.results10, go_sem, hc, hc1, hz]) rfl ⟨rfl, by
    repeat (first | with_reducible exact hbw1 | refine Below.setCell ?_ (by simp <;> omega) _)⟩

def getMay (x : Int) : Bool := decide (0 ≤ x ∧ ((x % 4 = 0 ∧ x / 4 ≤ 1099511627775) ∨ (x % 4 = 2 ∧ x / 4 % 16 ≤ 11 ∧ x / 4 / 16 ≤ 65535) ∨
  (x % 4 = 1 ∧ x / 4 / 1048576 / 4 / 16 % 16 ≤ 11 ∧ x / 4 / 1048576 / 4 / 16 / 16 ≤ 65535)))
def getW (x : Int) : Value := if x % 4 = 0 then wd 0 (x / 4) 0 0 0 0 0 else if x % 4 = 2 then wd 2 0 (x / 4 % 16) (x / 4 / 16) 0 0 0 else
  wd 1 0 (x / 4 / 1048576 / 4 / 16 % 16) (x / 4 / 1048576 / 4 / 16 / 16) (x / 4 / 1048576 / 4 % 16) (x / 4 / 1048576 % 4) (x / 4 % 1048576)

theorem get_t (x : Int) (w : World) (h1 : x ≤ 9223372036854775807) (h : getMay x = true) :
    Calls Try.prog 10 #[.int .i64 x] w fun r w' => r = .returned (.tuple #[getW x, .int .i64 0]) ∧ Below w.heap.size w w' := by
  simp only [getMay, decide_eq_true_eq] at h
  obtain ⟨h0, h⟩ := h
  rcases h with ⟨hk, a⟩ | ⟨hk, a, b⟩ | ⟨hk, a, b⟩
  · rw [show getW x = _ from if_pos hk]
    exact get0t x w h0 h1 hk (by simp [within]; omega)
  · rw [show getW x = _ from (if_neg (by omega)).trans (if_pos hk)]
    exact get2t x w h0 h1 hk (by simp [within]; omega)
  · rw [show getW x = _ from (if_neg (by omega)).trans (if_neg (by omega))]
    exact get1t x w h0 h1 hk (by simp [within]; omega)
theorem get_f (x : Int) (w : World) (h1 : x ≤ 9223372036854775807) (h : getMay x = false) :
    Calls Try.prog 10 #[.int .i64 x] w fun r w' => r = .returned (.tuple #[wd 0 0 0 0 0 0 0, .int .i64 100]) ∧ Below w.heap.size w w' := by
  by_cases h0 : 0 ≤ x
  · have hk : x % 4 = 0 ∨ x % 4 = 1 ∨ x % 4 = 2 ∨ x % 4 = 3 := by omega
    simp only [getMay, decide_eq_false_iff_not] at h
    rcases hk with hk | hk | hk | hk
    · exact get0f x w h0 h1 hk (by rw [Bool.eq_false_iff]; simp [within]; omega)
    · exact get1f x w h0 h1 hk (by rw [Bool.eq_false_iff]; simp [within]; omega)
    · exact get2f x w h0 h1 hk (by rw [Bool.eq_false_iff]; simp [within]; omega)
    · exact get_3 x w h0 h1 hk
  · exact get_neg x w (by omega)
end Go.Proofs.Ytfmklmpbfahoeaa
