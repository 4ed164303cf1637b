/- contracts of the document's own answers for words. -/
import Derived.Test.YtfmklmpbfahoeaaD
namespace Go.Proofs.Ytfmklmpbfahoeaa
open Go.RowKit

theorem ret_bool {a b : Bool} (h : a = b) : Ending.returned (.bool a) = Ending.returned (.bool b) := by rw [h]

def refB (s g : Int) : Bool := decide (0 ≤ s ∧ s ≤ 11 ∧ 0 ≤ g ∧ g ≤ 65535)
set_option maxHeartbeats 1000000 in
theorem refMay_any (k v s g e t q : Int) (w : World) :
    Calls Try.prog 19 #[wd k v s g e t q] w fun r w' => r = .returned (.bool (refB s g)) ∧ Below w.heap.size w w' := by
  go_enter Try.func19, Try.ntmps19
  go_wp2
  all_goals go_ret
  all_goals exact ⟨ret_bool (by rw [Bool.eq_iff_iff]; simp [refB]; omega), (Below.refl _ _).alloc (Nat.le_refl _) _⟩

set_option maxHeartbeats 2000000 in
theorem wmay0 (v s g e t q : Int) (w : World) :
    Calls Try.prog 14 #[wd 0 v s g e t q] w fun r w' => r = .returned (.bool (mayW 0 v s g e t q)) ∧ Below w.heap.size w w' := by
  have hq := eq_wd 0 v s g e t q 0 v 0 0 0 0 0
  by_cases h : eqw 0 v s g e t q 0 v 0 0 0 0 0 = true
  case neg => 
    have h' : eqw 0 v s g e t q 0 v 0 0 0 0 0 = false := by simpa using h
    clear h
    go_enter Try.func14, Try.ntmps14
    go_wp2
    all_goals go_ret
    all_goals exact ⟨ret_bool (by rw [Bool.eq_iff_iff]; simp [mayW, eqw] at h' ⊢; omega), (Below.refl _ _).alloc (Nat.le_refl _) _⟩
  go_enter Try.func14, Try.ntmps14
  go_wp2
  all_goals go_ret
  all_goals exact ⟨ret_bool (by rw [Bool.eq_iff_iff]; simp [mayW, eqw] at h ⊢; omega), (Below.refl _ _).alloc (Nat.le_refl _) _⟩

set_option maxHeartbeats 2000000 in
theorem wmay2 (v s g e t q : Int) (w : World) :
    Calls Try.prog 14 #[wd 2 v s g e t q] w fun r w' => r = .returned (.bool (mayW 2 v s g e t q)) ∧ Below w.heap.size w w' := by
  have hq := eq_wd 2 v s g e t q 2 0 s g 0 0 0
  by_cases h : eqw 2 v s g e t q 2 0 s g 0 0 0 = true
  case neg => 
    have h' : eqw 2 v s g e t q 2 0 s g 0 0 0 = false := by simpa using h
    clear h
    go_enter Try.func14, Try.ntmps14
    go_wp2
    all_goals go_ret
    all_goals exact ⟨ret_bool (by rw [Bool.eq_iff_iff]; simp [mayW, eqw] at h' ⊢; omega), (Below.refl _ _).alloc (Nat.le_refl _) _⟩
  go_enter Try.func14, Try.ntmps14
  go_wp2_with (go_at_call 19; refine (refMay_any _ _ _ _ _ _ _ _).mono ?_; rintro r w1 ⟨rfl, hb⟩; obtain ⟨hc, hz⟩ := bstep (a := w.heap.size) hb (by simp))
  all_goals go_ret
  all_goals exact ⟨ret_bool (by rw [Bool.eq_iff_iff]; simp [mayW, eqw, refB] at h ⊢; omega), ((Below.refl _ _).alloc (Nat.le_refl _) _).trans (hb.mono (by simp))⟩

set_option maxHeartbeats 2000000 in
theorem wmay1 (v s g e t q : Int) (w : World) :
    Calls Try.prog 14 #[wd 1 v s g e t q] w fun r w' => r = .returned (.bool (mayW 1 v s g e t q)) ∧ Below w.heap.size w w' := by
  by_cases hv : v = 0
  case neg => 
    have h' : (v == 0) = false := by simpa using hv
    go_enter Try.func14, Try.ntmps14
    go_wp2
    all_goals go_ret
    all_goals exact ⟨ret_bool (by rw [Bool.eq_iff_iff]; simp [mayW]; omega), (Below.refl _ _).alloc (Nat.le_refl _) _⟩
  subst hv
  cases h : refB s g
  · go_enter Try.func14, Try.ntmps14
    go_wp2_with (go_at_call 19; refine (refMay_any _ _ _ _ _ _ _ _).mono ?_; rintro r w1 ⟨rfl, hb⟩; obtain ⟨hc, hz⟩ := bstep (a := w.heap.size) hb (by simp))
    all_goals go_ret
    all_goals exact ⟨ret_bool (by rw [Bool.eq_iff_iff]; simp [mayW, refB] at h ⊢; omega), ((Below.refl _ _).alloc (Nat.le_refl _) _).trans (hb.mono (by simp))⟩
  · go_enter Try.func14, Try.ntmps14
    go_wp2_with (go_at_call 19; refine (refMay_any _ _ _ _ _ _ _ _).mono ?_; rintro r w1 ⟨rfl, hb⟩; obtain ⟨hc, hz⟩ := bstep (a := w.heap.size) hb (by simp))
    all_goals go_ret
    all_goals exact ⟨ret_bool (by rw [Bool.eq_iff_iff]; simp [mayW, refB] at h ⊢; omega), ((Below.refl _ _).alloc (Nat.le_refl _) _).trans (hb.mono (by simp))⟩

theorem wmayN (k v s g e t q : Int) (w : World) (h0 : (k == 0) = false) (h1 : (k == 1) = false) (h2 : (k == 2) = false) :
    Calls Try.prog 14 #[wd k v s g e t q] w fun r w' => r = .returned (.bool false) ∧ Below w.heap.size w w' := by
  go_enter Try.func14, Try.ntmps14
  go_wp2
  go_ret
  exact ⟨rfl, (Below.refl _ _).alloc (Nat.le_refl _) _⟩

theorem wmay_any (k v s g e t q : Int) (w : World) :
    Calls Try.prog 14 #[wd k v s g e t q] w fun r w' => r = .returned (.bool (mayW k v s g e t q)) ∧ Below w.heap.size w w' := by
  by_cases h0 : k = 0
  · subst h0; exact wmay0 v s g e t q w
  by_cases h2 : k = 2
  · subst h2; exact wmay2 v s g e t q w
  by_cases h1 : k = 1
  · subst h1; exact wmay1 v s g e t q w
  have : mayW k v s g e t q = false := by simp [mayW]; omega
  rw [this]
  exact wmayN k v s g e t q w (by simpa using h0) (by simpa using h1) (by simpa using h2)
theorem wmay_t (k v s g e t q : Int) (w : World) (h : mayW k v s g e t q = true) :
    Calls Try.prog 14 #[wd k v s g e t q] w fun r w' => r = .returned (.bool true) ∧ Below w.heap.size w w' := by
  have := wmay_any k v s g e t q w
  rw [h] at this
  exact this
theorem wmay_f (k v s g e t q : Int) (w : World) (h : mayW k v s g e t q = false) :
    Calls Try.prog 14 #[wd k v s g e t q] w fun r w' => r = .returned (.bool false) ∧ Below w.heap.size w w' := by
  have := wmay_any k v s g e t q w
  rw [h] at this
  exact this
end Go.Proofs.Ytfmklmpbfahoeaa
