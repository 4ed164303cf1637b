/- contracts of package word and of the document's answers in one form each; awake. -/
import Derived.Test.YtfmklmpbfahoeaaF
namespace Go.Proofs.Ytfmklmpbfahoeaa
open Go.RowKit

def putN (k v s g e t q : Int) : Int := if mayW k v s g e t q then numW k v s g e t q else 0
def putE (k v s g e t q : Int) : Int := if mayW k v s g e t q then 0 else 100
theorem put_any (k v s g e t q : Int) (w : World) :
    Calls Try.prog 8 #[wd k v s g e t q] w fun r w' => r = .returned (.tuple #[.int .i64 (putN k v s g e t q), .int .i64 (putE k v s g e t q)]) ∧ Below w.heap.size w w' := by
  cases h : mayW k v s g e t q
  · rw [show putN k v s g e t q = 0 by simp [putN, h], show putE k v s g e t q = 100 by simp [putE, h]]; exact put_f _ _ _ _ _ _ _ _ h
  · rw [show putN k v s g e t q = numW k v s g e t q by simp [putN, h], show putE k v s g e t q = 0 by simp [putE, h]]; exact put_t _ _ _ _ _ _ _ _ h
theorem wput_any (k v s g e t q : Int) (w : World) :
    Calls Try.prog 9 #[wd k v s g e t q] w fun r w' => r = .returned (.tuple #[.int .i64 (putN k v s g e t q), .int .i64 (putE k v s g e t q)]) ∧ Below w.heap.size w w' := by
  cases h : mayW k v s g e t q
  · rw [show putN k v s g e t q = 0 by simp [putN, h], show putE k v s g e t q = 100 by simp [putE, h]]; exact wput_f _ _ _ _ _ _ _ _ h
  · rw [show putN k v s g e t q = numW k v s g e t q by simp [putN, h], show putE k v s g e t q = 0 by simp [putE, h]]; exact wput_t _ _ _ _ _ _ _ _ h

def gK (x : Int) : Int := if getMay x then x % 4 else 0
def gV (x : Int) : Int := if getMay x ∧ x % 4 = 0 then x / 4 else 0
def gS (x : Int) : Int := if getMay x then (if x % 4 = 2 then x / 4 % 16 else if x % 4 = 1 then x / 4 / 1048576 / 4 / 16 % 16 else 0) else 0
def gG (x : Int) : Int := if getMay x then (if x % 4 = 2 then x / 4 / 16 else if x % 4 = 1 then x / 4 / 1048576 / 4 / 16 / 16 else 0) else 0
def gE (x : Int) : Int := if getMay x ∧ x % 4 = 1 then x / 4 / 1048576 / 4 % 16 else 0
def gT (x : Int) : Int := if getMay x ∧ x % 4 = 1 then x / 4 / 1048576 % 4 else 0
def gQ (x : Int) : Int := if getMay x ∧ x % 4 = 1 then x / 4 % 1048576 else 0
def getE (x : Int) : Int := if getMay x then 0 else 100
theorem getW_eq (x : Int) (h : getMay x = true) : wd (gK x) (gV x) (gS x) (gG x) (gE x) (gT x) (gQ x) = getW x := by
  have h' := h
  simp only [getMay, decide_eq_true_eq] at h'
  rcases h'.2 with ⟨hk, _⟩ | ⟨hk, _⟩ | ⟨hk, _⟩ <;> simp [getW, gK, gV, gS, gG, gE, gT, gQ, h, hk]
theorem getW_no (x : Int) (h : getMay x = false) : wd (gK x) (gV x) (gS x) (gG x) (gE x) (gT x) (gQ x) = wd 0 0 0 0 0 0 0 := by
  simp [gK, gV, gS, gG, gE, gT, gQ, h]
theorem get_any (x : Int) (w : World) (h1 : x ≤ 9223372036854775807) :
    Calls Try.prog 10 #[.int .i64 x] w fun r w' => r = .returned (.tuple #[wd (gK x) (gV x) (gS x) (gG x) (gE x) (gT x) (gQ x), .int .i64 (getE x)]) ∧ Below w.heap.size w w' := by
  cases h : getMay x
  · rw [getW_no x h, show getE x = 100 by simp [getE, h]]; exact get_f x w h1 h
  · rw [getW_eq x h, show getE x = 0 by simp [getE, h]]; exact get_t x w h1 h
theorem wget_any (x : Int) (w : World) (h0 : -9223372036854775808 ≤ x) (h1 : x ≤ 9223372036854775807) :
    Calls Try.prog 11 #[.int .i64 x] w fun r w' => r = .returned (.tuple #[wd (gK x) (gV x) (gS x) (gG x) (gE x) (gT x) (gQ x), .int .i64 (getE x)]) ∧ Below w.heap.size w w' := by
  cases h : getMay x
  · rw [getW_no x h, show getE x = 100 by simp [getE, h]]; exact wget_f x w h0 h1 h
  · rw [getW_eq x h, show getE x = 0 by simp [getE, h]]; exact wget_t x w h1 h

theorem aw_put5 (w : World) : Calls Try.prog 8 #[wd 0 5 0 0 0 0 0] w fun r w' => r = .returned (.tuple #[.int .i64 20, .int .i64 0]) ∧ Below w.heap.size w w' := put_t 0 5 0 0 0 0 0 w (by decide)
theorem aw_put142 (w : World) : Calls Try.prog 8 #[wd 2 0 3 2 0 0 0] w fun r w' => r = .returned (.tuple #[.int .i64 142, .int .i64 0]) ∧ Below w.heap.size w w' := put_t 2 0 3 2 0 0 0 w (by decide)
theorem aw_putbig (w : World) : Calls Try.prog 8 #[wd 1 0 3 2 1 1 7] w fun r w' => r = .returned (.tuple #[.int .i64 9416212509, .int .i64 0]) ∧ Below w.heap.size w w' := put_t 1 0 3 2 1 1 7 w (by decide)
theorem aw_putneg (w : World) : Calls Try.prog 8 #[wd 0 (-1) 0 0 0 0 0] w fun r w' => r = .returned (.tuple #[.int .i64 0, .int .i64 100]) ∧ Below w.heap.size w w' := put_f 0 (-1) 0 0 0 0 0 w (by decide)
theorem aw_getbig (w : World) : Calls Try.prog 10 #[.int .i64 9416212509] w fun r w' => r = .returned (.tuple #[wd 1 0 3 2 1 1 7, .int .i64 0]) ∧ Below w.heap.size w w' := get_t 9416212509 w (by decide) (by decide)
theorem aw_get3 (w : World) : Calls Try.prog 10 #[.int .i64 3] w fun r w' => r = .returned (.tuple #[wd 0 0 0 0 0 0 0, .int .i64 100]) ∧ Below w.heap.size w w' := get_f 3 w (by decide) (by decide)
theorem aw_may0 (w : World) : Calls Try.prog 13 #[wd 0 0 0 0 0 0 0] w fun r w' => r = .returned (.bool true) ∧ Below w.heap.size w w' := may_t 0 0 0 0 0 0 0 w (by decide)
theorem aw_may3 (w : World) : Calls Try.prog 13 #[wd 3 0 0 0 0 0 0] w fun r w' => r = .returned (.bool false) ∧ Below w.heap.size w w' := may_f 3 0 0 0 0 0 0 w (by decide)

theorem bnext {W0 w1 w2 : World} (h : Below W0.heap.size W0 w1) (hb : Below w1.heap.size w1 w2) : Below W0.heap.size W0 w2 := h.trans (hb.mono h.size)

set_option maxHeartbeats 2000000 in
theorem awake_any (w : World) : Calls Try.prog 15 #[] w fun r w' => r = .returned (.bool true) ∧ Below w.heap.size w w' := by
  have hq : ∀ w', (binOp .eql 23 (wd 1 0 3 2 1 1 7) (wd 1 0 3 2 1 1 7)).run Try.prog w' = .ok (.bool true) w' := fun w' => (eq_wd 1 0 3 2 1 1 7 1 0 3 2 1 1 7 w').trans (by rw [show eqw 1 0 3 2 1 1 7 1 0 3 2 1 1 7 = true by decide])
  go_enter Try.func15, Try.ntmps15
  go_wp2_with (first
    | (go_at_call 12; (with_reducible refine (num_any _ _).mono ?_); rintro r wz ⟨rfl, rfl⟩)
    | (go_at_call 8; (with_reducible refine (aw_put5 _).mono ?_); rintro r w1 ⟨rfl, hb1⟩)
    | (go_at_call 8; (with_reducible refine (aw_put142 _).mono ?_); rintro r w2 ⟨rfl, hb2⟩)
    | (go_at_call 8; (with_reducible refine (aw_putbig _).mono ?_); rintro r w3 ⟨rfl, hb3⟩)
    | (go_at_call 10; (with_reducible refine (aw_getbig _).mono ?_); rintro r w4 ⟨rfl, hb4⟩)
    | (go_at_call 10; (with_reducible refine (aw_get3 _).mono ?_); rintro r w5 ⟨rfl, hb5⟩; obtain ⟨hc5, hz5⟩ := bstep (a := w4.heap.size) hb5 (by simp))
    | (go_at_call 8; (with_reducible refine (aw_putneg _).mono ?_); rintro r w6 ⟨rfl, hb6⟩; obtain ⟨hc6, hz6⟩ := bstep (a := w4.heap.size) hb6 (by simp; omega))
    | (go_at_call 13; (with_reducible refine (aw_may0 _).mono ?_); rintro r w7 ⟨rfl, hb7⟩)
    | (go_at_call 13; (with_reducible refine (aw_may3 _).mono ?_); rintro r w8 ⟨rfl, hb8⟩))
  go_ret
  have b4 := bnext (bnext (bnext hb1 hb2) hb3) hb4
  have b5 := bnext (b4.alloc b4.size _) hb5
  have b6 := bnext (b5.alloc b5.size _) hb6
  exact ⟨rfl, bnext (bnext b6 hb7) hb8⟩
end Go.Proofs.Ytfmklmpbfahoeaa
