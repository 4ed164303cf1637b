/- the law WordForms: its walk, part 1. -/
import Derived.Test.YtfmklmpbfahoeaaK0
namespace Go.Proofs.Ytfmklmpbfahoeaa
open Go.RowKit

set_option maxRecDepth 100000 in
set_option maxHeartbeats 4000000 in
theorem wordForms_0 (wh x d : Int) (w : World) (_hd : bits .and .i64 x 1023 + 1 = d) (hd' : IntKind.i64.wrap (1 + bits .and .i64 x 1023) = d) (hd'' : 1 + bits .and .i64 x 1023 = d) (d0 : 1 ≤ d) (d1 : d ≤ 1024) (hi : wrap64 ((IntKind.u64.wrap wh).tmod 18) = 0) :
    Calls Try.prog 5 #[.int .i64 wh, .int .i64 x] w fun r w' => r = .returned (.bool true) ∧ Below w.heap.size w w' := by
  have hb : Hid (mayW 0 (-d) 0 0 0 0 0 = false) := (by simp [mayW]; try omega : mayW 0 (-d) 0 0 0 0 0 = false)
  have hqq := eq_wds 1 0 11 65535 15 3 1048575
  go_enter Try.func5, Try.ntmps5
  go_wp2_with (first
      | (go_at_call 12; (with_reducible refine (num_any _ _).mono ?_); rintro r wz ⟨rfl, rfl⟩)
      | (go_at_call 15; (with_reducible refine (awake_any _).mono ?_); rintro r w1 ⟨rfl, hb1⟩)
      | (go_at_call 8; (with_reducible refine (put_e _).mono ?_); rintro r w3 ⟨rfl, hb3⟩; obtain ⟨hk3, hz3⟩ := bstep (a := w1.heap.size) hb3 (by omega); obtain ⟨hk3', hz3'⟩ := bstep (a := w1.heap.size + 2) hb3 (by omega))
      | (go_at_call 8; (with_reducible refine (put_f _ _ _ _ _ _ _ _ hb.out).mono ?_); rintro r w2 ⟨rfl, hb2⟩; obtain ⟨hk2, hz2⟩ := bstep (a := w1.heap.size) hb2 (by simp <;> omega); obtain ⟨hk2', hz2'⟩ := bstep (a := w1.heap.size + 2) hb2 (by simp <;> omega))
      | (go_at_call 10; (with_reducible refine (get_e _).mono ?_); rintro r w4 ⟨rfl, hb4⟩; obtain ⟨hk4, hz4⟩ := bstep (a := w1.heap.size) hb4 (by omega); obtain ⟨hk4', hz4'⟩ := bstep (a := w1.heap.size + 2) hb4 (by omega))
      | (go_at_call 13; (with_reducible refine (may_f _ _ _ _ _ _ _ _ hb.out).mono ?_); rintro r w5 ⟨rfl, hb5⟩; obtain ⟨hk5, hz5⟩ := bstep (a := w1.heap.size) hb5 (by simp <;> omega); obtain ⟨hk5', hz5'⟩ := bstep (a := w4.heap.size) hb5 (by simp <;> omega))
      | (go_at_call 13; (with_reducible refine (may_e _).mono ?_); rintro r w6 ⟨rfl, hb6⟩; obtain ⟨hk6, hz6⟩ := bstep (a := w1.heap.size) hb6 hz5; obtain ⟨hk6', hz6'⟩ := bstep (a := w4.heap.size) hb6 hz5'))
  go_ret
  exact ⟨rfl, bnext (bnext (balloc (bnext (bnext (bnext (balloc (balloc (balloc hb1 _) _) _) hb2) hb3) hb4) _) hb5) hb6⟩

set_option maxRecDepth 100000 in
set_option maxHeartbeats 4000000 in
theorem wordForms_1 (wh x d : Int) (w : World) (_hd : bits .and .i64 x 1023 + 1 = d) (hd' : IntKind.i64.wrap (1 + bits .and .i64 x 1023) = d) (hd'' : 1 + bits .and .i64 x 1023 = d) (d0 : 1 ≤ d) (d1 : d ≤ 1024) (hi : wrap64 ((IntKind.u64.wrap wh).tmod 18) = 1) :
    Calls Try.prog 5 #[.int .i64 wh, .int .i64 x] w fun r w' => r = .returned (.bool true) ∧ Below w.heap.size w w' := by
  have hb : Hid (mayW 0 (1099511627775 + d) 0 0 0 0 0 = false) := (by simp [mayW]; try omega : mayW 0 (1099511627775 + d) 0 0 0 0 0 = false)
  have hqq := eq_wds 1 0 11 65535 15 3 1048575
  go_enter Try.func5, Try.ntmps5
  go_wp2_with (first
      | (go_at_call 12; (with_reducible refine (num_any _ _).mono ?_); rintro r wz ⟨rfl, rfl⟩)
      | (go_at_call 15; (with_reducible refine (awake_any _).mono ?_); rintro r w1 ⟨rfl, hb1⟩)
      | (go_at_call 8; (with_reducible refine (put_e _).mono ?_); rintro r w3 ⟨rfl, hb3⟩; obtain ⟨hk3, hz3⟩ := bstep (a := w1.heap.size) hb3 (by omega); obtain ⟨hk3', hz3'⟩ := bstep (a := w1.heap.size + 2) hb3 (by omega))
      | (go_at_call 8; (with_reducible refine (put_f _ _ _ _ _ _ _ _ hb.out).mono ?_); rintro r w2 ⟨rfl, hb2⟩; obtain ⟨hk2, hz2⟩ := bstep (a := w1.heap.size) hb2 (by simp <;> omega); obtain ⟨hk2', hz2'⟩ := bstep (a := w1.heap.size + 2) hb2 (by simp <;> omega))
      | (go_at_call 10; (with_reducible refine (get_e _).mono ?_); rintro r w4 ⟨rfl, hb4⟩; obtain ⟨hk4, hz4⟩ := bstep (a := w1.heap.size) hb4 (by omega); obtain ⟨hk4', hz4'⟩ := bstep (a := w1.heap.size + 2) hb4 (by omega))
      | (go_at_call 13; (with_reducible refine (may_f _ _ _ _ _ _ _ _ hb.out).mono ?_); rintro r w5 ⟨rfl, hb5⟩; obtain ⟨hk5, hz5⟩ := bstep (a := w1.heap.size) hb5 (by simp <;> omega); obtain ⟨hk5', hz5'⟩ := bstep (a := w4.heap.size) hb5 (by simp <;> omega))
      | (go_at_call 13; (with_reducible refine (may_e _).mono ?_); rintro r w6 ⟨rfl, hb6⟩; obtain ⟨hk6, hz6⟩ := bstep (a := w1.heap.size) hb6 hz5; obtain ⟨hk6', hz6'⟩ := bstep (a := w4.heap.size) hb6 hz5'))
  go_ret
  exact ⟨rfl, bnext (bnext (balloc (bnext (bnext (bnext (balloc (balloc (balloc hb1 _) _) _) hb2) hb3) hb4) _) hb5) hb6⟩

set_option maxRecDepth 100000 in
set_option maxHeartbeats 4000000 in
theorem wordForms_2 (wh x d : Int) (w : World) (_hd : bits .and .i64 x 1023 + 1 = d) (hd' : IntKind.i64.wrap (1 + bits .and .i64 x 1023) = d) (hd'' : 1 + bits .and .i64 x 1023 = d) (d0 : 1 ≤ d) (d1 : d ≤ 1024) (hi : wrap64 ((IntKind.u64.wrap wh).tmod 18) = 2) :
    Calls Try.prog 5 #[.int .i64 wh, .int .i64 x] w fun r w' => r = .returned (.bool true) ∧ Below w.heap.size w w' := by
  have hb : Hid (mayW 0 1 d 0 0 0 0 = false) := (by simp [mayW]; try omega : mayW 0 1 d 0 0 0 0 = false)
  have hqq := eq_wds 1 0 11 65535 15 3 1048575
  go_enter Try.func5, Try.ntmps5
  go_wp2_with (first
      | (go_at_call 12; (with_reducible refine (num_any _ _).mono ?_); rintro r wz ⟨rfl, rfl⟩)
      | (go_at_call 15; (with_reducible refine (awake_any _).mono ?_); rintro r w1 ⟨rfl, hb1⟩)
      | (go_at_call 8; (with_reducible refine (put_e _).mono ?_); rintro r w3 ⟨rfl, hb3⟩; obtain ⟨hk3, hz3⟩ := bstep (a := w1.heap.size) hb3 (by omega); obtain ⟨hk3', hz3'⟩ := bstep (a := w1.heap.size + 2) hb3 (by omega))
      | (go_at_call 8; (with_reducible refine (put_f _ _ _ _ _ _ _ _ hb.out).mono ?_); rintro r w2 ⟨rfl, hb2⟩; obtain ⟨hk2, hz2⟩ := bstep (a := w1.heap.size) hb2 (by simp <;> omega); obtain ⟨hk2', hz2'⟩ := bstep (a := w1.heap.size + 2) hb2 (by simp <;> omega))
      | (go_at_call 10; (with_reducible refine (get_e _).mono ?_); rintro r w4 ⟨rfl, hb4⟩; obtain ⟨hk4, hz4⟩ := bstep (a := w1.heap.size) hb4 (by omega); obtain ⟨hk4', hz4'⟩ := bstep (a := w1.heap.size + 2) hb4 (by omega))
      | (go_at_call 13; (with_reducible refine (may_f _ _ _ _ _ _ _ _ hb.out).mono ?_); rintro r w5 ⟨rfl, hb5⟩; obtain ⟨hk5, hz5⟩ := bstep (a := w1.heap.size) hb5 (by simp <;> omega); obtain ⟨hk5', hz5'⟩ := bstep (a := w4.heap.size) hb5 (by simp <;> omega))
      | (go_at_call 13; (with_reducible refine (may_e _).mono ?_); rintro r w6 ⟨rfl, hb6⟩; obtain ⟨hk6, hz6⟩ := bstep (a := w1.heap.size) hb6 hz5; obtain ⟨hk6', hz6'⟩ := bstep (a := w4.heap.size) hb6 hz5'))
  go_ret
  exact ⟨rfl, bnext (bnext (balloc (bnext (bnext (bnext (balloc (balloc (balloc hb1 _) _) _) hb2) hb3) hb4) _) hb5) hb6⟩

set_option maxRecDepth 100000 in
set_option maxHeartbeats 4000000 in
theorem wordForms_3 (wh x d : Int) (w : World) (_hd : bits .and .i64 x 1023 + 1 = d) (hd' : IntKind.i64.wrap (1 + bits .and .i64 x 1023) = d) (hd'' : 1 + bits .and .i64 x 1023 = d) (d0 : 1 ≤ d) (d1 : d ≤ 1024) (hi : wrap64 ((IntKind.u64.wrap wh).tmod 18) = 3) :
    Calls Try.prog 5 #[.int .i64 wh, .int .i64 x] w fun r w' => r = .returned (.bool true) ∧ Below w.heap.size w w' := by
  have hb : Hid (mayW 0 0 0 d 0 0 0 = false) := (by simp [mayW]; try omega : mayW 0 0 0 d 0 0 0 = false)
  have hqq := eq_wds 1 0 11 65535 15 3 1048575
  go_enter Try.func5, Try.ntmps5
  go_wp2_with (first
      | (go_at_call 12; (with_reducible refine (num_any _ _).mono ?_); rintro r wz ⟨rfl, rfl⟩)
      | (go_at_call 15; (with_reducible refine (awake_any _).mono ?_); rintro r w1 ⟨rfl, hb1⟩)
      | (go_at_call 8; (with_reducible refine (put_e _).mono ?_); rintro r w3 ⟨rfl, hb3⟩; obtain ⟨hk3, hz3⟩ := bstep (a := w1.heap.size) hb3 (by omega); obtain ⟨hk3', hz3'⟩ := bstep (a := w1.heap.size + 2) hb3 (by omega))
      | (go_at_call 8; (with_reducible refine (put_f _ _ _ _ _ _ _ _ hb.out).mono ?_); rintro r w2 ⟨rfl, hb2⟩; obtain ⟨hk2, hz2⟩ := bstep (a := w1.heap.size) hb2 (by simp <;> omega); obtain ⟨hk2', hz2'⟩ := bstep (a := w1.heap.size + 2) hb2 (by simp <;> omega))
      | (go_at_call 10; (with_reducible refine (get_e _).mono ?_); rintro r w4 ⟨rfl, hb4⟩; obtain ⟨hk4, hz4⟩ := bstep (a := w1.heap.size) hb4 (by omega); obtain ⟨hk4', hz4'⟩ := bstep (a := w1.heap.size + 2) hb4 (by omega))
      | (go_at_call 13; (with_reducible refine (may_f _ _ _ _ _ _ _ _ hb.out).mono ?_); rintro r w5 ⟨rfl, hb5⟩; obtain ⟨hk5, hz5⟩ := bstep (a := w1.heap.size) hb5 (by simp <;> omega); obtain ⟨hk5', hz5'⟩ := bstep (a := w4.heap.size) hb5 (by simp <;> omega))
      | (go_at_call 13; (with_reducible refine (may_e _).mono ?_); rintro r w6 ⟨rfl, hb6⟩; obtain ⟨hk6, hz6⟩ := bstep (a := w1.heap.size) hb6 hz5; obtain ⟨hk6', hz6'⟩ := bstep (a := w4.heap.size) hb6 hz5'))
  go_ret
  exact ⟨rfl, bnext (bnext (balloc (bnext (bnext (bnext (balloc (balloc (balloc hb1 _) _) _) hb2) hb3) hb4) _) hb5) hb6⟩

set_option maxRecDepth 100000 in
set_option maxHeartbeats 4000000 in
theorem wordForms_4 (wh x d : Int) (w : World) (_hd : bits .and .i64 x 1023 + 1 = d) (hd' : IntKind.i64.wrap (1 + bits .and .i64 x 1023) = d) (hd'' : 1 + bits .and .i64 x 1023 = d) (d0 : 1 ≤ d) (d1 : d ≤ 1024) (hi : wrap64 ((IntKind.u64.wrap wh).tmod 18) = 4) :
    Calls Try.prog 5 #[.int .i64 wh, .int .i64 x] w fun r w' => r = .returned (.bool true) ∧ Below w.heap.size w w' := by
  have hb : Hid (mayW 0 0 0 0 0 0 d = false) := (by simp [mayW]; try omega : mayW 0 0 0 0 0 0 d = false)
  have hqq := eq_wds 1 0 11 65535 15 3 1048575
  go_enter Try.func5, Try.ntmps5
  go_wp2_with (first
      | (go_at_call 12; (with_reducible refine (num_any _ _).mono ?_); rintro r wz ⟨rfl, rfl⟩)
      | (go_at_call 15; (with_reducible refine (awake_any _).mono ?_); rintro r w1 ⟨rfl, hb1⟩)
      | (go_at_call 8; (with_reducible refine (put_e _).mono ?_); rintro r w3 ⟨rfl, hb3⟩; obtain ⟨hk3, hz3⟩ := bstep (a := w1.heap.size) hb3 (by omega); obtain ⟨hk3', hz3'⟩ := bstep (a := w1.heap.size + 2) hb3 (by omega))
      | (go_at_call 8; (with_reducible refine (put_f _ _ _ _ _ _ _ _ hb.out).mono ?_); rintro r w2 ⟨rfl, hb2⟩; obtain ⟨hk2, hz2⟩ := bstep (a := w1.heap.size) hb2 (by simp <;> omega); obtain ⟨hk2', hz2'⟩ := bstep (a := w1.heap.size + 2) hb2 (by simp <;> omega))
      | (go_at_call 10; (with_reducible refine (get_e _).mono ?_); rintro r w4 ⟨rfl, hb4⟩; obtain ⟨hk4, hz4⟩ := bstep (a := w1.heap.size) hb4 (by omega); obtain ⟨hk4', hz4'⟩ := bstep (a := w1.heap.size + 2) hb4 (by omega))
      | (go_at_call 13; (with_reducible refine (may_f _ _ _ _ _ _ _ _ hb.out).mono ?_); rintro r w5 ⟨rfl, hb5⟩; obtain ⟨hk5, hz5⟩ := bstep (a := w1.heap.size) hb5 (by simp <;> omega); obtain ⟨hk5', hz5'⟩ := bstep (a := w4.heap.size) hb5 (by simp <;> omega))
      | (go_at_call 13; (with_reducible refine (may_e _).mono ?_); rintro r w6 ⟨rfl, hb6⟩; obtain ⟨hk6, hz6⟩ := bstep (a := w1.heap.size) hb6 hz5; obtain ⟨hk6', hz6'⟩ := bstep (a := w4.heap.size) hb6 hz5'))
  go_ret
  exact ⟨rfl, bnext (bnext (balloc (bnext (bnext (bnext (balloc (balloc (balloc hb1 _) _) _) hb2) hb3) hb4) _) hb5) hb6⟩

set_option maxRecDepth 100000 in
set_option maxHeartbeats 4000000 in
theorem wordForms_5 (wh x d : Int) (w : World) (_hd : bits .and .i64 x 1023 + 1 = d) (hd' : IntKind.i64.wrap (1 + bits .and .i64 x 1023) = d) (hd'' : 1 + bits .and .i64 x 1023 = d) (d0 : 1 ≤ d) (d1 : d ≤ 1024) (hi : wrap64 ((IntKind.u64.wrap wh).tmod 18) = 5) :
    Calls Try.prog 5 #[.int .i64 wh, .int .i64 x] w fun r w' => r = .returned (.bool true) ∧ Below w.heap.size w w' := by
  have hb : Hid (mayW 2 0 (11 + d) 0 0 0 0 = false) := (by simp [mayW]; try omega : mayW 2 0 (11 + d) 0 0 0 0 = false)
  have hqq := eq_wds 1 0 11 65535 15 3 1048575
  go_enter Try.func5, Try.ntmps5
  go_wp2_with (first
      | (go_at_call 12; (with_reducible refine (num_any _ _).mono ?_); rintro r wz ⟨rfl, rfl⟩)
      | (go_at_call 15; (with_reducible refine (awake_any _).mono ?_); rintro r w1 ⟨rfl, hb1⟩)
      | (go_at_call 8; (with_reducible refine (put_e _).mono ?_); rintro r w3 ⟨rfl, hb3⟩; obtain ⟨hk3, hz3⟩ := bstep (a := w1.heap.size) hb3 (by omega); obtain ⟨hk3', hz3'⟩ := bstep (a := w1.heap.size + 2) hb3 (by omega))
      | (go_at_call 8; (with_reducible refine (put_f _ _ _ _ _ _ _ _ hb.out).mono ?_); rintro r w2 ⟨rfl, hb2⟩; obtain ⟨hk2, hz2⟩ := bstep (a := w1.heap.size) hb2 (by simp <;> omega); obtain ⟨hk2', hz2'⟩ := bstep (a := w1.heap.size + 2) hb2 (by simp <;> omega))
      | (go_at_call 10; (with_reducible refine (get_e _).mono ?_); rintro r w4 ⟨rfl, hb4⟩; obtain ⟨hk4, hz4⟩ := bstep (a := w1.heap.size) hb4 (by omega); obtain ⟨hk4', hz4'⟩ := bstep (a := w1.heap.size + 2) hb4 (by omega))
      | (go_at_call 13; (with_reducible refine (may_f _ _ _ _ _ _ _ _ hb.out).mono ?_); rintro r w5 ⟨rfl, hb5⟩; obtain ⟨hk5, hz5⟩ := bstep (a := w1.heap.size) hb5 (by simp <;> omega); obtain ⟨hk5', hz5'⟩ := bstep (a := w4.heap.size) hb5 (by simp <;> omega))
      | (go_at_call 13; (with_reducible refine (may_e _).mono ?_); rintro r w6 ⟨rfl, hb6⟩; obtain ⟨hk6, hz6⟩ := bstep (a := w1.heap.size) hb6 hz5; obtain ⟨hk6', hz6'⟩ := bstep (a := w4.heap.size) hb6 hz5'))
  go_ret
  exact ⟨rfl, bnext (bnext (balloc (bnext (bnext (bnext (balloc (balloc (balloc hb1 _) _) _) hb2) hb3) hb4) _) hb5) hb6⟩
end Go.Proofs.Ytfmklmpbfahoeaa
