/- contracts of package word's calls: Put, Get. -/
import Derived.Test.YtfmklmpbfahoeaaB
namespace Go.Proofs.Ytfmklmpbfahoeaa
open Go.RowKit

set_option maxHeartbeats 1000000 in
theorem enum_any (s g e t q : Int) (w : World) (s0 : 0 ≤ s) (s1 : s ≤ 11) (g0 : 0 ≤ g) (g1 : g ≤ 65535) (e0 : 0 ≤ e) (e1 : e ≤ 15) (t0 : 0 ≤ t) (t1 : t ≤ 3) (q0 : 0 ≤ q) (q1 : q ≤ 1048575) :
    Calls Try.prog 44 #[.agg #[.int .i64 s, .int .i64 g, .int .i64 e, .int .i64 t, .int .i64 q]] w fun r w' => r = .returned (.int .i64 ((((g * 16 + s) * 16 + e) * 4 + t) * 1048576 + q)) ∧ Below w.heap.size w w' := by
  go_enter Try.func44, Try.ntmps44
  go_wp2_with (go_at_call 42; refine (mnum_any _ _ _ (by omega) (by omega) (by omega) (by omega)).mono ?_; rintro r w1 ⟨rfl, hb⟩; obtain ⟨hc, hz⟩ := bstep (a := w.heap.size) hb (by simp))
  go_ret
  exact ⟨rfl, ((Below.refl _ _).alloc (Nat.le_refl _) _).trans (hb.mono (by simp))⟩

/-- may such a word be? -/
def mayW (k v s g e t q : Int) : Bool := decide ((k = 0 ∧ 0 ≤ v ∧ v ≤ 1099511627775 ∧ s = 0 ∧ g = 0 ∧ e = 0 ∧ t = 0 ∧ q = 0) ∨
  (k = 2 ∧ v = 0 ∧ 0 ≤ s ∧ s ≤ 11 ∧ 0 ≤ g ∧ g ≤ 65535 ∧ e = 0 ∧ t = 0 ∧ q = 0) ∨
  (k = 1 ∧ v = 0 ∧ 0 ≤ s ∧ s ≤ 11 ∧ 0 ≤ g ∧ g ≤ 65535 ∧ 0 ≤ e ∧ e ≤ 15 ∧ 0 ≤ t ∧ t ≤ 3 ∧ 0 ≤ q ∧ q ≤ 1048575))

theorem may_any (k v s g e t q : Int) (w : World) :
    Calls Try.prog 13 #[wd k v s g e t q] w fun r w' => r = .returned (.bool (mayW k v s g e t q)) ∧ Below w.heap.size w w' := by
  have conv : ∀ {b c : Bool}, b = c → (Calls Try.prog 13 #[wd k v s g e t q] w fun r w' => r = .returned (.bool b) ∧ Below w.heap.size w w') →
      Calls Try.prog 13 #[wd k v s g e t q] w fun r w' => r = .returned (.bool c) ∧ Below w.heap.size w w' := by rintro b c rfl h; exact h
  by_cases h0 : k = 0
  · subst h0
    cases h : within v 1099511627775
    · exact conv (by rw [Bool.eq_iff_iff]; simp [mayW, within] at h ⊢; omega) (may0f v s g e t q w h)
    · exact conv (by rw [Bool.eq_iff_iff]; simp [mayW, within, eqw] at h ⊢; omega) (may0t v s g e t q w h)
  by_cases h2 : k = 2
  · subst h2
    cases h : (within s 11 && within g 65535)
    · exact conv (by rw [Bool.eq_iff_iff]; simp [mayW, within] at h ⊢; omega) (may2f v s g e t q w h)
    · exact conv (by rw [Bool.eq_iff_iff]; simp [mayW, within, eqw] at h ⊢; omega) (may2t v s g e t q w h)
  by_cases h1 : k = 1
  · subst h1
    cases h : ((((within s 11 && within g 65535) && within e 15) && within t 3) && within q 1048575)
    · exact conv (by rw [Bool.eq_iff_iff]; simp [mayW, within] at h ⊢; omega) (may1f v s g e t q w h)
    · exact conv (by rw [Bool.eq_iff_iff]; simp [mayW, within, eqw] at h ⊢; omega) (may1t v s g e t q w h)
  · exact conv (by simp [mayW]; omega) (mayN k v s g e t q w (by simpa using h0) (by simpa using h1) (by simpa using h2))

theorem may_t (k v s g e t q : Int) (w : World) (h : mayW k v s g e t q = true) :
    Calls Try.prog 13 #[wd k v s g e t q] w fun r w' => r = .returned (.bool true) ∧ Below w.heap.size w w' := by
  have := may_any k v s g e t q w
  rw [h] at this
  exact this
theorem may_f (k v s g e t q : Int) (w : World) (h : mayW k v s g e t q = false) :
    Calls Try.prog 13 #[wd k v s g e t q] w fun r w' => r = .returned (.bool false) ∧ Below w.heap.size w w' := by
  have := may_any k v s g e t q w
  rw [h] at this
  exact this

set_option maxHeartbeats 1000000 in
theorem put_f (k v s g e t q : Int) (w : World) (h : mayW k v s g e t q = false) :
    Calls Try.prog 8 #[wd k v s g e t q] w fun r w' => r = .returned (.tuple #[.int .i64 0, .int .i64 100]) ∧ Below w.heap.size w w' := by
  go_enter Try.func8, Try.ntmps8
  go_wp2_with (go_at_call 13; refine (may_f _ _ _ _ _ _ _ _ h).mono ?_; rintro r w1 ⟨rfl, hb⟩)
  go_ret2
  exact ⟨rfl, ((Below.refl _ _).alloc (Nat.le_refl _) _).trans (hb.mono (by simp))⟩

set_option maxHeartbeats 2000000 in
theorem put0 (v s g e t q : Int) (w : World) (v0 : 0 ≤ v) (v1 : v ≤ 1099511627775) (h : mayW 0 v s g e t q = true) :
    Calls Try.prog 8 #[wd 0 v s g e t q] w fun r w' => r = .returned (.tuple #[.int .i64 (4 * v), .int .i64 0]) ∧ Below w.heap.size w w' := by
  have hm := me_vn v
  go_enter Try.func8, Try.ntmps8
  go_wp2_with (go_at_call 13; refine (may_t _ _ _ _ _ _ _ _ h).mono ?_; rintro r w1 ⟨rfl, hb⟩; obtain ⟨hc, hz⟩ := bstep (a := w.heap.size) hb (by simp))
  have hw1 : IntKind.i64.wrap (4 * v) = 4 * v := IntWalk.i64_in _ (by omega)
  have hw2 : IntKind.i64.wrap (4 * v) = 4 * v := IntWalk.i64_in _ (by omega)
  first | go_region_with (first | (go_at_call 16; refine (partOf0 _ _ _ _ _ _ _).mono ?_; rintro r w2 ⟨rfl, hb1⟩; obtain ⟨hc1, hz1⟩ := bstep (undrew hb1) hz) | (go_at_call 39; refine (vnum_any _ _).mono ?_; rintro r w3 ⟨rfl, hb2⟩; obtain ⟨hc2, hz2⟩ := bstep hb2 hz1)) | fail
  all_goals
    go_wp2
    go_ret2
    exact ⟨rfl, (((Below.refl _ _).alloc (Nat.le_refl _) _).trans (hb.mono (by simp))).trans (((undrew hb1).mono (by omega)).trans (hb2.mono (by omega)))⟩

set_option maxHeartbeats 2000000 in
theorem put2 (v s g e t q : Int) (w : World) (s0 : 0 ≤ s) (s1 : s ≤ 11) (g0 : 0 ≤ g) (g1 : g ≤ 65535) (h : mayW 2 v s g e t q = true) :
    Calls Try.prog 8 #[wd 2 v s g e t q] w fun r w' => r = .returned (.tuple #[.int .i64 (4 * (g * 16 + s) + 2), .int .i64 0]) ∧ Below w.heap.size w w' := by
  have hm := me_mn s g
  go_enter Try.func8, Try.ntmps8
  go_wp2_with (go_at_call 13; refine (may_t _ _ _ _ _ _ _ _ h).mono ?_; rintro r w1 ⟨rfl, hb⟩; obtain ⟨hc, hz⟩ := bstep (a := w.heap.size) hb (by simp))
  have hw1 : IntKind.i64.wrap (4 * (g * 16 + s)) = 4 * (g * 16 + s) := IntWalk.i64_in _ (by omega)
  have hw2 : IntKind.i64.wrap (4 * (g * 16 + s) + 2) = 4 * (g * 16 + s) + 2 := IntWalk.i64_in _ (by omega)
  first | go_region_with (first | (go_at_call 16; refine (partOf2 _ _ _ _ _ _ _).mono ?_; rintro r w2 ⟨rfl, hb1⟩; obtain ⟨hc1, hz1⟩ := bstep (undrew hb1) hz) | (go_at_call 42; refine (mnum_any _ _ _ (by omega) (by omega) (by omega) (by omega)).mono ?_; rintro r w3 ⟨rfl, hb2⟩; obtain ⟨hc2, hz2⟩ := bstep hb2 hz1)) | fail
  all_goals
    go_wp2
    go_ret2
    exact ⟨rfl, (((Below.refl _ _).alloc (Nat.le_refl _) _).trans (hb.mono (by simp))).trans (((undrew hb1).mono (by omega)).trans (hb2.mono (by omega)))⟩

set_option maxHeartbeats 2000000 in
theorem put1 (v s g e t q : Int) (w : World) (s0 : 0 ≤ s) (s1 : s ≤ 11) (g0 : 0 ≤ g) (g1 : g ≤ 65535) (e0 : 0 ≤ e) (e1 : e ≤ 15) (t0 : 0 ≤ t) (t1 : t ≤ 3) (q0 : 0 ≤ q) (q1 : q ≤ 1048575) (h : mayW 1 v s g e t q = true) :
    Calls Try.prog 8 #[wd 1 v s g e t q] w fun r w' => r = .returned (.tuple #[.int .i64 (4 * ((((g * 16 + s) * 16 + e) * 4 + t) * 1048576 + q) + 1), .int .i64 0]) ∧ Below w.heap.size w w' := by
  have hm := me_en s g e t q
  go_enter Try.func8, Try.ntmps8
  go_wp2_with (go_at_call 13; refine (may_t _ _ _ _ _ _ _ _ h).mono ?_; rintro r w1 ⟨rfl, hb⟩; obtain ⟨hc, hz⟩ := bstep (a := w.heap.size) hb (by simp))
  have hw1 : IntKind.i64.wrap (4 * ((((g * 16 + s) * 16 + e) * 4 + t) * 1048576 + q)) = 4 * ((((g * 16 + s) * 16 + e) * 4 + t) * 1048576 + q) := IntWalk.i64_in _ (by omega)
  have hw2 : IntKind.i64.wrap (4 * ((((g * 16 + s) * 16 + e) * 4 + t) * 1048576 + q) + 1) = 4 * ((((g * 16 + s) * 16 + e) * 4 + t) * 1048576 + q) + 1 := IntWalk.i64_in _ (by omega)
  first | go_region_with (first | (go_at_call 16; refine (partOf1 _ _ _ _ _ _ _).mono ?_; rintro r w2 ⟨rfl, hb1⟩; obtain ⟨hc1, hz1⟩ := bstep (undrew hb1) hz) | (go_at_call 44; refine (enum_any _ _ _ _ _ _ (by omega) (by omega) (by omega) (by omega) (by omega) (by omega) (by omega) (by omega) (by omega) (by omega)).mono ?_; rintro r w3 ⟨rfl, hb2⟩; obtain ⟨hc2, hz2⟩ := bstep hb2 hz1)) | fail
  all_goals
    go_wp2
    go_ret2
    exact ⟨rfl, (((Below.refl _ _).alloc (Nat.le_refl _) _).trans (hb.mono (by simp))).trans (((undrew hb1).mono (by omega)).trans (hb2.mono (by omega)))⟩

def numW (k v s g e t q : Int) : Int := if k = 0 then 4 * v else if k = 2 then 4 * (g * 16 + s) + 2 else 4 * ((((g * 16 + s) * 16 + e) * 4 + t) * 1048576 + q) + 1

theorem put_t (k v s g e t q : Int) (w : World) (h : mayW k v s g e t q = true) :
    Calls Try.prog 8 #[wd k v s g e t q] w fun r w' => r = .returned (.tuple #[.int .i64 (numW k v s g e t q), .int .i64 0]) ∧ Below w.heap.size w w' := by
  have h' := h
  simp only [mayW, decide_eq_true_eq] at h'
  rcases h' with ⟨rfl, a, b, c⟩ | ⟨rfl, c, a1, a2, a3, a4, d⟩ | ⟨rfl, c, a1, a2, a3, a4, a5, a6, a7, a8, a9, a10⟩
  · have e1 : numW 0 v s g e t q = 4 * v := by simp [numW]
    rw [e1]; exact put0 v s g e t q w a b h
  · have e1 : numW 2 v s g e t q = 4 * (g * 16 + s) + 2 := by simp [numW]
    rw [e1]; exact put2 v s g e t q w a1 a2 a3 a4 h
  · have e1 : numW 1 v s g e t q = 4 * ((((g * 16 + s) * 16 + e) * 4 + t) * 1048576 + q) + 1 := by simp [numW]
    rw [e1]; exact put1 v s g e t q w a1 a2 a3 a4 a5 a6 a7 a8 a9 a10 h
end Go.Proofs.Ytfmklmpbfahoeaa
