/- contracts of the document's own answers for words: PutWord, GetWord. -/
import Derived.Test.YtfmklmpbfahoeaaE
import Derived.Lib.Hide
namespace Go.Proofs.Ytfmklmpbfahoeaa
open Go.RowKit

theorem and_mask (m : Nat) (hm : m ≤ 62) (n c : Int) (hc : c = ((2 ^ m - 1 : Nat) : Int)) : bits .and .i64 n c = n % ((2 ^ m : Nat) : Int) := by
  subst hc
  have hp : (2 ^ m : Nat) ≤ 2 ^ 62 := Nat.pow_le_pow_right (by decide) hm
  have hq : 1 ≤ (2 ^ m : Nat) := Nat.one_le_two_pow
  have hd : ((2 ^ m : Nat) : Int) ∣ ((2 ^ 64 : Nat) : Int) := Int.natCast_dvd_natCast.2 (Nat.pow_dvd_pow 2 (by omega))
  have h1 : (BitVec.ofInt 64 (((2 ^ m - 1 : Nat) : Int))).toNat = 2 ^ m - 1 := by
    rw [BitVec.toNat_ofInt, Int.emod_eq_of_lt (by omega) (by have : (2 ^ 62 : Nat) < 2 ^ 64 := by decide
                                                             omega)]
    simp
  have key : (BitVec.ofInt 64 n &&& BitVec.ofInt 64 ((2 ^ m - 1 : Nat) : Int)).toNat = (n % ((2 ^ 64 : Nat) : Int)).toNat % 2 ^ m := by
    rw [BitVec.toNat_and, BitVec.toNat_ofInt, h1, Nat.and_two_pow_sub_one_eq_mod]
  show IntKind.i64.wrap ((BitVec.ofInt 64 n &&& BitVec.ofInt 64 ((2 ^ m - 1 : Nat) : Int)).toNat : Nat) = _
  rw [key]
  have h2 : (((n % ((2 ^ 64 : Nat) : Int)).toNat % 2 ^ m : Nat) : Int) = n % ((2 ^ m : Nat) : Int) := by
    rw [Int.natCast_emod, Int.toNat_of_nonneg (Int.emod_nonneg _ (by decide)), Int.emod_emod_of_dvd _ hd]
  rw [h2]
  have h3 := Int.emod_nonneg n (b := ((2 ^ m : Nat) : Int)) (by omega)
  have h4 := Int.emod_lt_of_pos n (b := ((2 ^ m : Nat) : Int)) (by omega)
  have h5 : (2 ^ 62 : Nat) = 4611686018427387904 := by decide
  exact IntWalk.i64_in _ (by omega)
theorem and3 (n : Int) : bits .and .i64 n 3 = n % 4 := and_mask 2 (by decide) n 3 (by decide)
theorem and20 (n : Int) : bits .and .i64 n 1048575 = n % 1048576 := and_mask 20 (by decide) n 1048575 (by decide)

set_option maxHeartbeats 1000000 in
theorem wput_f (k v s g e t q : Int) (w : World) (h : mayW k v s g e t q = false) :
    Calls Try.prog 9 #[wd k v s g e t q] w fun r w' => r = .returned (.tuple #[.int .i64 0, .int .i64 100]) ∧ Below w.heap.size w w' := by
  go_enter Try.func9, Try.ntmps9
  go_wp2_with (go_at_call 14; refine (wmay_f _ _ _ _ _ _ _ _ h).mono ?_; rintro r w1 ⟨rfl, hb⟩)
  go_ret2
  exact ⟨rfl, ((Below.refl _ _).alloc (Nat.le_refl _) _).trans (hb.mono (by simp))⟩

set_option maxHeartbeats 2000000 in
theorem wput_t (k v s g e t q : Int) (w : World) (h : mayW k v s g e t q = true) :
    Calls Try.prog 9 #[wd k v s g e t q] w fun r w' => r = .returned (.tuple #[.int .i64 (numW k v s g e t q), .int .i64 0]) ∧ Below w.heap.size w w' := by
  have h' := h
  simp only [mayW, decide_eq_true_eq] at h'
  rcases h' with ⟨rfl, a, b, c⟩ | ⟨rfl, c, a1, a2, a3, a4, d⟩ | ⟨rfl, c, a1, a2, a3, a4, a5, a6, a7, a8, a9, a10⟩
  · have e1 : numW 0 v s g e t q = 4 * v := by simp [numW]
    rw [e1]
    clear e1 c
    go_enter Try.func9, Try.ntmps9
    go_wp2_with (go_at_call 14; refine (wmay_t _ _ _ _ _ _ _ _ h).mono ?_; rintro r w1 ⟨rfl, hb⟩; obtain ⟨hc, hz⟩ := bstep (a := w.heap.size) hb (by simp))
    go_ret2
    exact ⟨rfl, ((Below.refl _ _).alloc (Nat.le_refl _) _).trans (hb.mono (by simp))⟩
  · have e1 : numW 2 v s g e t q = 4 * (g * 16 + s) + 2 := by simp [numW]
    rw [e1]
    clear e1 d c
    go_enter Try.func9, Try.ntmps9
    go_wp2_with (go_at_call 14; refine (wmay_t _ _ _ _ _ _ _ _ h).mono ?_; rintro r w1 ⟨rfl, hb⟩; obtain ⟨hc, hz⟩ := bstep (a := w.heap.size) hb (by simp))
    go_ret2
    exact ⟨rfl, ((Below.refl _ _).alloc (Nat.le_refl _) _).trans (hb.mono (by simp))⟩
  · have e1 : numW 1 v s g e t q = 4 * ((((g * 16 + s) * 16 + e) * 4 + t) * 1048576 + q) + 1 := by simp [numW]
    rw [e1]
    clear e1 c
    go_enter Try.func9, Try.ntmps9
    go_wp2_with (go_at_call 14; refine (wmay_t _ _ _ _ _ _ _ _ h).mono ?_; rintro r w1 ⟨rfl, hb⟩; obtain ⟨hc, hz⟩ := bstep (a := w.heap.size) hb (by simp))
    go_ret2
    exact ⟨rfl, ((Below.refl _ _).alloc (Nat.le_refl _) _).trans (hb.mono (by simp))⟩

set_option maxHeartbeats 1000000 in
theorem wget_neg (x : Int) (w : World) (h : x < 0) (h1 : -9223372036854775808 ≤ x) :
    Calls Try.prog 11 #[.int .i64 x] w fun r w' => r = .returned (.tuple #[wd 0 0 0 0 0 0 0, .int .i64 100]) ∧ Below w.heap.size w w' := by
  go_enter Try.func11, Try.ntmps11
  go_wp2_with fail
  all_goals
    exact bodyPost_ret (v := .tuple #[wd 0 0 0 0 0 0 0, .int .i64 100]) (by simp [results, Try.results11, go_sem]) rfl ⟨rfl, ((Below.refl _ _).alloc (Nat.le_refl _) _).alloc (by simp) _⟩

set_option maxHeartbeats 2000000 in
theorem wget0t (x : Int) (w : World) (h0 : 0 ≤ x) (h1 : x ≤ 9223372036854775807) (hk : x % 4 = 0) (h : mayW 0 (x / 4) 0 0 0 0 0 = true) :
    Calls Try.prog 11 #[.int .i64 x] w fun r w' => r = .returned (.tuple #[wd 0 (x / 4) 0 0 0 0 0, .int .i64 0]) ∧ Below w.heap.size w w' := by
  have a3 : bits .and .i64 x 3 = 0 := (and3 x).trans hk
  have a20 := and20 (x / 4)
  have H := Lib.hid h
  clear h
  go_enter Try.func11, Try.ntmps11
  go_wp2_with (go_at_call 14; refine (wmay_t _ _ _ _ _ _ _ _ H.out).mono ?_; rintro r w1 ⟨rfl, hb⟩; obtain ⟨hc, hf⟩ := bcell hb; obtain ⟨hd, hz⟩ := bstep (a := w.heap.size) hb (by simp <;> omega); have hbw : Below w.heap.size w w1 := (((Below.refl _ _).alloc (Nat.le_refl _) _).alloc (by simp <;> omega) _).trans (hb.mono (by simp <;> omega)))
  exact bodyPost_ret (v := .tuple #[wd 0 (x / 4) 0 0 0 0 0, .int .i64 0]) (by simp [results, Try.results11, go_sem, hd]) rfl ⟨rfl, by
    repeat (first | with_reducible exact hbw | refine Below.setCell ?_ (by simp <;> omega) _)⟩

set_option maxHeartbeats 2000000 in
theorem wget0f (x : Int) (w : World) (h0 : 0 ≤ x) (_ : x ≤ 9223372036854775807) (hk : x % 4 = 0) (h : mayW 0 (x / 4) 0 0 0 0 0 = false) :
    Calls Try.prog 11 #[.int .i64 x] w fun r w' => r = .returned (.tuple #[wd 0 0 0 0 0 0 0, .int .i64 100]) ∧ Below w.heap.size w w' := by
  have a3 : bits .and .i64 x 3 = 0 := (and3 x).trans hk
  have a20 := and20 (x / 4)
  have H := Lib.hid h
  clear h
  go_enter Try.func11, Try.ntmps11
  go_wp2_with (go_at_call 14; refine (wmay_f _ _ _ _ _ _ _ _ H.out).mono ?_; rintro r w1 ⟨rfl, hb⟩; obtain ⟨hc, hf⟩ := bcell hb; obtain ⟨hd, hz⟩ := bstep (a := w.heap.size) hb (by simp <;> omega); have hbw : Below w.heap.size w w1 := (((Below.refl _ _).alloc (Nat.le_refl _) _).alloc (by simp <;> omega) _).trans (hb.mono (by simp <;> omega)))
  exact bodyPost_ret (v := .tuple #[wd 0 0 0 0 0 0 0, .int .i64 100]) (by simp [results, Try.results11, go_sem, hd]) rfl ⟨rfl, by
    repeat (first | with_reducible exact hbw | refine Below.setCell ?_ (by simp <;> omega) _)⟩

set_option maxHeartbeats 2000000 in
theorem wget2t (x : Int) (w : World) (h0 : 0 ≤ x) (h1 : x ≤ 9223372036854775807) (hk : x % 4 = 2) (h : mayW 2 0 (x / 4 % 16) (x / 4 / 16) 0 0 0 = true) :
    Calls Try.prog 11 #[.int .i64 x] w fun r w' => r = .returned (.tuple #[wd 2 0 (x / 4 % 16) (x / 4 / 16) 0 0 0, .int .i64 0]) ∧ Below w.heap.size w w' := by
  have a3 : bits .and .i64 x 3 = 2 := (and3 x).trans hk
  have a20 := and20 (x / 4)
  have H := Lib.hid h
  clear h
  go_enter Try.func11, Try.ntmps11
  go_wp2_with (go_at_call 14; refine (wmay_t _ _ _ _ _ _ _ _ H.out).mono ?_; rintro r w1 ⟨rfl, hb⟩; obtain ⟨hc, hf⟩ := bcell hb; obtain ⟨hd, hz⟩ := bstep (a := w.heap.size) hb (by simp <;> omega); have hbw : Below w.heap.size w w1 := (((Below.refl _ _).alloc (Nat.le_refl _) _).alloc (by simp <;> omega) _).trans (hb.mono (by simp <;> omega)))
  exact bodyPost_ret (v := .tuple #[wd 2 0 (x / 4 % 16) (x / 4 / 16) 0 0 0, .int .i64 0]) (by simp [results, Try.results11, go_sem, hd]) rfl ⟨rfl, by
    repeat (first | with_reducible exact hbw | refine Below.setCell ?_ (by simp <;> omega) _)⟩

set_option maxHeartbeats 2000000 in
theorem wget2f (x : Int) (w : World) (h0 : 0 ≤ x) (h1 : x ≤ 9223372036854775807) (hk : x % 4 = 2) (h : mayW 2 0 (x / 4 % 16) (x / 4 / 16) 0 0 0 = false) :
    Calls Try.prog 11 #[.int .i64 x] w fun r w' => r = .returned (.tuple #[wd 0 0 0 0 0 0 0, .int .i64 100]) ∧ Below w.heap.size w w' := by
  have a3 : bits .and .i64 x 3 = 2 := (and3 x).trans hk
  have a20 := and20 (x / 4)
  have H := Lib.hid h
  clear h
  go_enter Try.func11, Try.ntmps11
  go_wp2_with (go_at_call 14; refine (wmay_f _ _ _ _ _ _ _ _ H.out).mono ?_; rintro r w1 ⟨rfl, hb⟩; obtain ⟨hc, hf⟩ := bcell hb; obtain ⟨hd, hz⟩ := bstep (a := w.heap.size) hb (by simp <;> omega); have hbw : Below w.heap.size w w1 := (((Below.refl _ _).alloc (Nat.le_refl _) _).alloc (by simp <;> omega) _).trans (hb.mono (by simp <;> omega)))
  exact bodyPost_ret (v := .tuple #[wd 0 0 0 0 0 0 0, .int .i64 100]) (by simp [results, Try.results11, go_sem, hd]) rfl ⟨rfl, by
    repeat (first | with_reducible exact hbw | refine Below.setCell ?_ (by simp <;> omega) _)⟩

set_option maxHeartbeats 2000000 in
theorem wget1t (x : Int) (w : World) (h0 : 0 ≤ x) (h1 : x ≤ 9223372036854775807) (hk : x % 4 = 1) (h : mayW 1 0 (x / 4 / 1048576 / 4 / 16 % 16) (x / 4 / 1048576 / 4 / 16 / 16) (x / 4 / 1048576 / 4 % 16) (x / 4 / 1048576 % 4) (x / 4 % 1048576) = true) :
    Calls Try.prog 11 #[.int .i64 x] w fun r w' => r = .returned (.tuple #[wd 1 0 (x / 4 / 1048576 / 4 / 16 % 16) (x / 4 / 1048576 / 4 / 16 / 16) (x / 4 / 1048576 / 4 % 16) (x / 4 / 1048576 % 4) (x / 4 % 1048576), .int .i64 0]) ∧ Below w.heap.size w w' := by
  have a3 : bits .and .i64 x 3 = 1 := (and3 x).trans hk
  have a20 := and20 (x / 4)
  have H := Lib.hid h
  clear h
  go_enter Try.func11, Try.ntmps11
  go_wp2_with (go_at_call 14; refine (wmay_t _ _ _ _ _ _ _ _ H.out).mono ?_; rintro r w1 ⟨rfl, hb⟩; obtain ⟨hc, hf⟩ := bcell hb; obtain ⟨hd, hz⟩ := bstep (a := w.heap.size) hb (by simp <;> omega); have hbw : Below w.heap.size w w1 := (((Below.refl _ _).alloc (Nat.le_refl _) _).alloc (by simp <;> omega) _).trans (hb.mono (by simp <;> omega)))
  exact bodyPost_ret (v := .tuple #[wd 1 0 (x / 4 / 1048576 / 4 / 16 % 16) (x / 4 / 1048576 / 4 / 16 / 16) (x / 4 / 1048576 / 4 % 16) (x / 4 / 1048576 % 4) (x / 4 % 1048576), .int .i64 0]) (by simp [results, Try.results11, go_sem, hd]) rfl ⟨rfl, by
    repeat (first | with_reducible exact hbw | refine Below.setCell ?_ (by simp <;> omega) _)⟩

set_option maxHeartbeats 2000000 in
theorem wget1f (x : Int) (w : World) (h0 : 0 ≤ x) (h1 : x ≤ 9223372036854775807) (hk : x % 4 = 1) (h : mayW 1 0 (x / 4 / 1048576 / 4 / 16 % 16) (x / 4 / 1048576 / 4 / 16 / 16) (x / 4 / 1048576 / 4 % 16) (x / 4 / 1048576 % 4) (x / 4 % 1048576) = false) :
    Calls Try.prog 11 #[.int .i64 x] w fun r w' => r = .returned (.tuple #[wd 0 0 0 0 0 0 0, .int .i64 100]) ∧ Below w.heap.size w w' := by
  have a3 : bits .and .i64 x 3 = 1 := (and3 x).trans hk
  have a20 := and20 (x / 4)
  have H := Lib.hid h
  clear h
  go_enter Try.func11, Try.ntmps11
  go_wp2_with (go_at_call 14; refine (wmay_f _ _ _ _ _ _ _ _ H.out).mono ?_; rintro r w1 ⟨rfl, hb⟩; obtain ⟨hc, hf⟩ := bcell hb; obtain ⟨hd, hz⟩ := bstep (a := w.heap.size) hb (by simp <;> omega); have hbw : Below w.heap.size w w1 := (((Below.refl _ _).alloc (Nat.le_refl _) _).alloc (by simp <;> omega) _).trans (hb.mono (by simp <;> omega)))
  exact bodyPost_ret (v := .tuple #[wd 0 0 0 0 0 0 0, .int .i64 100]) (by simp [results, Try.results11, go_sem, hd]) rfl ⟨rfl, by
    repeat (first | with_reducible exact hbw | refine Below.setCell ?_ (by simp <;> omega) _)⟩

set_option maxHeartbeats 2000000 in
theorem wget3f (x : Int) (w : World) (h0 : 0 ≤ x) (_ : x ≤ 9223372036854775807) (hk : x % 4 = 3) (h : mayW 3 0 0 0 0 0 0 = false) :
    Calls Try.prog 11 #[.int .i64 x] w fun r w' => r = .returned (.tuple #[wd 0 0 0 0 0 0 0, .int .i64 100]) ∧ Below w.heap.size w w' := by
  have a3 : bits .and .i64 x 3 = 3 := (and3 x).trans hk
  have a20 := and20 (x / 4)
  have H := Lib.hid h
  clear h
  go_enter Try.func11, Try.ntmps11
  go_wp2_with (go_at_call 14; refine (wmay_f _ _ _ _ _ _ _ _ H.out).mono ?_; rintro r w1 ⟨rfl, hb⟩; obtain ⟨hc, hf⟩ := bcell hb; obtain ⟨hd, hz⟩ := bstep (a := w.heap.size) hb (by simp <;> omega); have hbw : Below w.heap.size w w1 := (((Below.refl _ _).alloc (Nat.le_refl _) _).alloc (by simp <;> omega) _).trans (hb.mono (by simp <;> omega)))
  exact bodyPost_ret (v := .tuple #[wd 0 0 0 0 0 0 0, .int .i64 100]) (by simp [results, Try.results11, go_sem, hd]) rfl ⟨rfl, by
    repeat (first | with_reducible exact hbw | refine Below.setCell ?_ (by simp <;> omega) _)⟩

theorem wget_t (x : Int) (w : World) (h1 : x ≤ 9223372036854775807) (h : getMay x = true) :
    Calls Try.prog 11 #[.int .i64 x] w fun r w' => r = .returned (.tuple #[getW x, .int .i64 0]) ∧ Below w.heap.size w w' := by
  simp only [getMay, decide_eq_true_eq] at h
  obtain ⟨h0, h⟩ := h
  rcases h with ⟨hk, a⟩ | ⟨hk, a, b⟩ | ⟨hk, a, b⟩
  · rw [show getW x = _ from if_pos hk]
    exact wget0t x w h0 h1 hk (by simp [mayW]; omega)
  · rw [show getW x = _ from (if_neg (by omega)).trans (if_pos hk)]
    exact wget2t x w h0 h1 hk (by simp [mayW]; omega)
  · rw [show getW x = _ from (if_neg (by omega)).trans (if_neg (by omega))]
    exact wget1t x w h0 h1 hk (by simp [mayW]; omega)
theorem wget_f (x : Int) (w : World) (hm : -9223372036854775808 ≤ x) (h1 : x ≤ 9223372036854775807) (h : getMay x = false) :
    Calls Try.prog 11 #[.int .i64 x] w fun r w' => r = .returned (.tuple #[wd 0 0 0 0 0 0 0, .int .i64 100]) ∧ Below w.heap.size w w' := by
  by_cases h0 : 0 ≤ x
  · have hk : x % 4 = 0 ∨ x % 4 = 1 ∨ x % 4 = 2 ∨ x % 4 = 3 := by omega
    simp only [getMay, decide_eq_false_iff_not] at h
    rcases hk with hk | hk | hk | hk
    · exact wget0f x w h0 h1 hk (by rw [Bool.eq_false_iff]; simp [mayW]; omega)
    · exact wget1f x w h0 h1 hk (by rw [Bool.eq_false_iff]; simp [mayW]; omega)
    · exact wget2f x w h0 h1 hk (by rw [Bool.eq_false_iff]; simp [mayW]; omega)
    · exact wget3f x w h0 h1 hk (by decide)
  · exact wget_neg x w (by omega) hm
end Go.Proofs.Ytfmklmpbfahoeaa
