/- the law Words: its walk. -/
import Derived.Test.YtfmklmpbfahoeaaG
namespace Go.Proofs.Ytfmklmpbfahoeaa
open Go.RowKit

theorem eqw_self (k v s g e t q : Int) : eqw k v s g e t q k v s g e t q = true := by simp [eqw]
theorem eq_self (k v s g e t q : Int) (w : World) : (binOp .eql 23 (wd k v s g e t q) (wd k v s g e t q)).run Try.prog w = .ok (.bool true) w := by
  rw [eq_wd, eqw_self]

set_option maxHeartbeats 4000000 in
theorem words_walk (k v s g e t q x : Int) (w : World) (h0 : -9223372036854775808 ≤ x) (h1 : x ≤ 9223372036854775807) :
    Calls Try.prog 3 #[wd k v s g e t q, .int .i64 x] w fun r w' => r = .returned (.bool true) ∧ Below w.heap.size w w' := by
  have hq := eq_self (gK x) (gV x) (gS x) (gG x) (gE x) (gT x) (gQ x)
  go_enter Try.func3, Try.ntmps3
  go_wp2_with (first
    | (go_at_call 8; (with_reducible refine (put_any _ _ _ _ _ _ _ _).mono ?_); rintro r w1 ⟨rfl, hb1⟩; obtain ⟨hc1, hz1⟩ := bstep (a := w.heap.size) hb1 (by simp))
    | (go_at_call 9; (with_reducible refine (wput_any _ _ _ _ _ _ _ _).mono ?_); rintro r w2 ⟨rfl, hb2⟩; obtain ⟨hc2, hz2⟩ := bstep (a := w.heap.size) hb2 hz1)
    | (go_at_call 10; (with_reducible refine (get_any _ _ h1).mono ?_); rintro r w3 ⟨rfl, hb3⟩; obtain ⟨hc3, hz3⟩ := bstep (a := w.heap.size) hb3 hz2)
    | (go_at_call 11; (with_reducible refine (wget_any _ _ h0 h1).mono ?_); rintro r w4 ⟨rfl, hb4⟩; obtain ⟨hc4, hz4⟩ := bstep (a := w.heap.size) hb4 (by simp; omega); obtain ⟨hc4', hz4'⟩ := bstep (a := w3.heap.size) hb4 (by simp)))
  first | go_region_with (first
    | (go_at_call 12; (with_reducible refine (num_any _ _).mono ?_); rintro r wz ⟨rfl, rfl⟩)
    | (go_at_call 13; (with_reducible refine (may_any _ _ _ _ _ _ _ _).mono ?_); rintro r w6 ⟨rfl, hb6⟩; obtain ⟨hc6, hz6⟩ := bstep (a := w.heap.size) (undrew hb6) (by simp; omega))
    | (go_at_call 14; (with_reducible refine (wmay_any _ _ _ _ _ _ _ _).mono ?_); rintro r w7 ⟨rfl, hb7⟩)
    | (go_at_call 15; (with_reducible refine (awake_any _).mono ?_); rintro r w8 ⟨rfl, hb8⟩)) | fail
  all_goals go_wp2
  all_goals go_ret
  all_goals
    have b1 := bnext ((Below.refl w.heap.size w).alloc (Nat.le_refl _) _) hb1
    have b3 := bnext (bnext b1 hb2) hb3
    have b4 := bnext (b3.alloc b3.size _) hb4
    have b6 := bnext (b4.alloc b4.size _).drew hb6
    exact ⟨rfl, bnext (bnext b6 hb7) hb8⟩
end Go.Proofs.Ytfmklmpbfahoeaa
