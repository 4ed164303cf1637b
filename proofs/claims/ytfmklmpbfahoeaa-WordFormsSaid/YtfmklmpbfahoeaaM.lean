/- the law WordUnique: its walk. -/
import Derived.Test.YtfmklmpbfahoeaaL
namespace Go.Proofs.Ytfmklmpbfahoeaa
open Go.RowKit

def numE (s g e t q : Int) : Int := 4 * ((((g * 16 + s) * 16 + e) * 4 + t) * 1048576 + q) + 1
theorem putE_at (s g e t q : Int) (w : World) (h : 0 ≤ s ∧ s ≤ 11 ∧ 0 ≤ g ∧ g ≤ 65535 ∧ 0 ≤ e ∧ e ≤ 15 ∧ 0 ≤ t ∧ t ≤ 3 ∧ 0 ≤ q ∧ q ≤ 1048575) : Calls Try.prog 8 #[wd 1 0 s g e t q] w fun r w' => r = .returned (.tuple #[.int .i64 (numE s g e t q), .int .i64 0]) ∧ Below w.heap.size w w' := by
  obtain ⟨a, b, c, d, e, f, g, h, i, j⟩ := h
  exact pute _ _ _ _ _ w a b c d e f g h i j

set_option maxHeartbeats 4000000 in
theorem wordUnique_0 (k0 v0 s0 g0 e0 t0 q0 s g e t q z wh x : Int) (w : World)
    (hs : wrap64 ((IntKind.u64.wrap s0).tmod 12) = s) (hg : bits .and .i64 g0 65535 = g) (he : bits .and .i64 e0 15 = e) (ht : bits .and .i64 t0 3 = t) (hq : bits .and .i64 q0 1048575 = q)
    (hj : (IntKind.u64.wrap wh).tmod 5 = 0) (hz : wrap64 ((IntKind.u64.wrap x).tmod 12) = z) (H1 : Hid (0 ≤ s ∧ s ≤ 11 ∧ 0 ≤ g ∧ g ≤ 65535 ∧ 0 ≤ e ∧ e ≤ 15 ∧ 0 ≤ t ∧ t ≤ 3 ∧ 0 ≤ q ∧ q ≤ 1048575)) (H2 : Hid (0 ≤ z ∧ z ≤ 11)) :
    Calls Try.prog 7 #[wd k0 v0 s0 g0 e0 t0 q0, .int .i64 wh, .int .i64 x] w fun r w' => r = .returned (.bool true) ∧ Below w.heap.size w w' := by
  obtain ⟨a, ha⟩ : ∃ a, Hid (numE s g e t q = a) := ⟨_, rfl⟩
  obtain ⟨b, hb⟩ : ∃ b, Hid (numE z g e t q = b) := ⟨_, rfl⟩
  obtain ⟨c, hc⟩ : ∃ c, Hid (eqw 1 0 s g e t q 1 0 z g e t q = c) := ⟨_, rfl⟩
  have hac : (a == b) = c := by
    rw [← ha.out, ← hb.out, ← hc.out, Bool.eq_iff_iff]
    have h1 := H1.out
    have h2 := H2.out
    simp [eqw, numE]
    omega
  have hqq : ∀ w', (binOp .eql 23 (wd 1 0 s g e t q) (wd 1 0 z g e t q)).run Try.prog w' = .ok (.bool c) w' := fun w' => by rw [eq_wd, hc.out]
  go_enter Try.func7, Try.ntmps7
  go_wp2_with (first
      | (go_at_call 12; (with_reducible refine (num_any _ _).mono ?_); rintro r wz ⟨rfl, rfl⟩)
      | (go_at_call 15; (with_reducible refine (awake_any _).mono ?_); rintro r w1 ⟨rfl, hb1⟩; obtain ⟨hk1, hz1⟩ := bstep (a := w.heap.size) hb1 (by simp); obtain ⟨hk1', hf1'⟩ := bcell hb1)
      | (go_at_call 8; (with_reducible refine (putE_at s g e t q _ H1.out).mono ?_); rintro r w2 ⟨rfl, hb2⟩; rw [ha.out]; obtain ⟨hk2, hz2⟩ := bstep (a := w.heap.size) hb2 (by simp [World.setCell]; omega); obtain ⟨hk2', hz2'⟩ := bstep (a := w1.heap.size) hb2 (by simp [World.setCell]))
      | (go_at_call 8; (with_reducible refine (putE_at z g e t q _ (by have h1 := H1.out; have h2 := H2.out; omega)).mono ?_); rintro r w3 ⟨rfl, hb3⟩; rw [hb.out]; obtain ⟨hk3, hz3⟩ := bstep (a := w.heap.size) hb3 hz2; obtain ⟨hk3', hz3'⟩ := bstep (a := w1.heap.size) hb3 hz2'))
  go_ret
  have b1 := bnext ((Below.refl w.heap.size w).alloc (Nat.le_refl _) _) hb1
  have st : ∀ (w' : World), Below w.heap.size w w' → ∀ (o : Nat) (u : Value), Below w.heap.size w (w'.setCell ⟨w.heap.size, o, none⟩ u) := fun w' h o u => h.setCell (p := ⟨w.heap.size, o, none⟩) (Nat.le_refl _) u
  have b2 := st _ (st _ (st _ (st _ (st _ (st _ (st _ b1 0 (.int .i64 1)) 1 (.int .i64 0)) 2 (.int .i64 s)) 3 (.int .i64 g)) 4 (.int .i64 e)) 5 (.int .i64 t)) 6 (.int .i64 q)
  exact ⟨rfl, bnext (bnext (b2.alloc b2.size _) hb2) hb3⟩

set_option maxHeartbeats 4000000 in
theorem wordUnique_1 (k0 v0 s0 g0 e0 t0 q0 s g e t q z wh x : Int) (w : World)
    (hs : wrap64 ((IntKind.u64.wrap s0).tmod 12) = s) (hg : bits .and .i64 g0 65535 = g) (he : bits .and .i64 e0 15 = e) (ht : bits .and .i64 t0 3 = t) (hq : bits .and .i64 q0 1048575 = q)
    (hj : (IntKind.u64.wrap wh).tmod 5 = 1) (hz : bits .and .i64 x 65535 = z) (H1 : Hid (0 ≤ s ∧ s ≤ 11 ∧ 0 ≤ g ∧ g ≤ 65535 ∧ 0 ≤ e ∧ e ≤ 15 ∧ 0 ≤ t ∧ t ≤ 3 ∧ 0 ≤ q ∧ q ≤ 1048575)) (H2 : Hid (0 ≤ z ∧ z ≤ 65535)) :
    Calls Try.prog 7 #[wd k0 v0 s0 g0 e0 t0 q0, .int .i64 wh, .int .i64 x] w fun r w' => r = .returned (.bool true) ∧ Below w.heap.size w w' := by
  obtain ⟨a, ha⟩ : ∃ a, Hid (numE s g e t q = a) := ⟨_, rfl⟩
  obtain ⟨b, hb⟩ : ∃ b, Hid (numE s z e t q = b) := ⟨_, rfl⟩
  obtain ⟨c, hc⟩ : ∃ c, Hid (eqw 1 0 s g e t q 1 0 s z e t q = c) := ⟨_, rfl⟩
  have hac : (a == b) = c := by
    rw [← ha.out, ← hb.out, ← hc.out, Bool.eq_iff_iff]
    have h1 := H1.out
    have h2 := H2.out
    simp [eqw, numE]
    omega
  have hqq : ∀ w', (binOp .eql 23 (wd 1 0 s g e t q) (wd 1 0 s z e t q)).run Try.prog w' = .ok (.bool c) w' := fun w' => by rw [eq_wd, hc.out]
  go_enter Try.func7, Try.ntmps7
  go_wp2_with (first
      | (go_at_call 12; (with_reducible refine (num_any _ _).mono ?_); rintro r wz ⟨rfl, rfl⟩)
      | (go_at_call 15; (with_reducible refine (awake_any _).mono ?_); rintro r w1 ⟨rfl, hb1⟩; obtain ⟨hk1, hz1⟩ := bstep (a := w.heap.size) hb1 (by simp); obtain ⟨hk1', hf1'⟩ := bcell hb1)
      | (go_at_call 8; (with_reducible refine (putE_at s g e t q _ H1.out).mono ?_); rintro r w2 ⟨rfl, hb2⟩; rw [ha.out]; obtain ⟨hk2, hz2⟩ := bstep (a := w.heap.size) hb2 (by simp [World.setCell]; omega); obtain ⟨hk2', hz2'⟩ := bstep (a := w1.heap.size) hb2 (by simp [World.setCell]))
      | (go_at_call 8; (with_reducible refine (putE_at s z e t q _ (by have h1 := H1.out; have h2 := H2.out; omega)).mono ?_); rintro r w3 ⟨rfl, hb3⟩; rw [hb.out]; obtain ⟨hk3, hz3⟩ := bstep (a := w.heap.size) hb3 hz2; obtain ⟨hk3', hz3'⟩ := bstep (a := w1.heap.size) hb3 hz2'))
  go_ret
  have b1 := bnext ((Below.refl w.heap.size w).alloc (Nat.le_refl _) _) hb1
  have st : ∀ (w' : World), Below w.heap.size w w' → ∀ (o : Nat) (u : Value), Below w.heap.size w (w'.setCell ⟨w.heap.size, o, none⟩ u) := fun w' h o u => h.setCell (p := ⟨w.heap.size, o, none⟩) (Nat.le_refl _) u
  have b2 := st _ (st _ (st _ (st _ (st _ (st _ (st _ b1 0 (.int .i64 1)) 1 (.int .i64 0)) 2 (.int .i64 s)) 3 (.int .i64 g)) 4 (.int .i64 e)) 5 (.int .i64 t)) 6 (.int .i64 q)
  exact ⟨rfl, bnext (bnext (b2.alloc b2.size _) hb2) hb3⟩

set_option maxHeartbeats 4000000 in
theorem wordUnique_2 (k0 v0 s0 g0 e0 t0 q0 s g e t q z wh x : Int) (w : World)
    (hs : wrap64 ((IntKind.u64.wrap s0).tmod 12) = s) (hg : bits .and .i64 g0 65535 = g) (he : bits .and .i64 e0 15 = e) (ht : bits .and .i64 t0 3 = t) (hq : bits .and .i64 q0 1048575 = q)
    (hj : (IntKind.u64.wrap wh).tmod 5 = 2) (hz : bits .and .i64 x 15 = z) (H1 : Hid (0 ≤ s ∧ s ≤ 11 ∧ 0 ≤ g ∧ g ≤ 65535 ∧ 0 ≤ e ∧ e ≤ 15 ∧ 0 ≤ t ∧ t ≤ 3 ∧ 0 ≤ q ∧ q ≤ 1048575)) (H2 : Hid (0 ≤ z ∧ z ≤ 15)) :
    Calls Try.prog 7 #[wd k0 v0 s0 g0 e0 t0 q0, .int .i64 wh, .int .i64 x] w fun r w' => r = .returned (.bool true) ∧ Below w.heap.size w w' := by
  obtain ⟨a, ha⟩ : ∃ a, Hid (numE s g e t q = a) := ⟨_, rfl⟩
  obtain ⟨b, hb⟩ : ∃ b, Hid (numE s g z t q = b) := ⟨_, rfl⟩
  obtain ⟨c, hc⟩ : ∃ c, Hid (eqw 1 0 s g e t q 1 0 s g z t q = c) := ⟨_, rfl⟩
  have hac : (a == b) = c := by
    rw [← ha.out, ← hb.out, ← hc.out, Bool.eq_iff_iff]
    have h1 := H1.out
    have h2 := H2.out
    simp [eqw, numE]
    omega
  have hqq : ∀ w', (binOp .eql 23 (wd 1 0 s g e t q) (wd 1 0 s g z t q)).run Try.prog w' = .ok (.bool c) w' := fun w' => by rw [eq_wd, hc.out]
  go_enter Try.func7, Try.ntmps7
  go_wp2_with (first
      | (go_at_call 12; (with_reducible refine (num_any _ _).mono ?_); rintro r wz ⟨rfl, rfl⟩)
      | (go_at_call 15; (with_reducible refine (awake_any _).mono ?_); rintro r w1 ⟨rfl, hb1⟩; obtain ⟨hk1, hz1⟩ := bstep (a := w.heap.size) hb1 (by simp); obtain ⟨hk1', hf1'⟩ := bcell hb1)
      | (go_at_call 8; (with_reducible refine (putE_at s g e t q _ H1.out).mono ?_); rintro r w2 ⟨rfl, hb2⟩; rw [ha.out]; obtain ⟨hk2, hz2⟩ := bstep (a := w.heap.size) hb2 (by simp [World.setCell]; omega); obtain ⟨hk2', hz2'⟩ := bstep (a := w1.heap.size) hb2 (by simp [World.setCell]))
      | (go_at_call 8; (with_reducible refine (putE_at s g z t q _ (by have h1 := H1.out; have h2 := H2.out; omega)).mono ?_); rintro r w3 ⟨rfl, hb3⟩; rw [hb.out]; obtain ⟨hk3, hz3⟩ := bstep (a := w.heap.size) hb3 hz2; obtain ⟨hk3', hz3'⟩ := bstep (a := w1.heap.size) hb3 hz2'))
  go_ret
  have b1 := bnext ((Below.refl w.heap.size w).alloc (Nat.le_refl _) _) hb1
  have st : ∀ (w' : World), Below w.heap.size w w' → ∀ (o : Nat) (u : Value), Below w.heap.size w (w'.setCell ⟨w.heap.size, o, none⟩ u) := fun w' h o u => h.setCell (p := ⟨w.heap.size, o, none⟩) (Nat.le_refl _) u
  have b2 := st _ (st _ (st _ (st _ (st _ (st _ (st _ b1 0 (.int .i64 1)) 1 (.int .i64 0)) 2 (.int .i64 s)) 3 (.int .i64 g)) 4 (.int .i64 e)) 5 (.int .i64 t)) 6 (.int .i64 q)
  exact ⟨rfl, bnext (bnext (b2.alloc b2.size _) hb2) hb3⟩

set_option maxHeartbeats 4000000 in
theorem wordUnique_3 (k0 v0 s0 g0 e0 t0 q0 s g e t q z wh x : Int) (w : World)
    (hs : wrap64 ((IntKind.u64.wrap s0).tmod 12) = s) (hg : bits .and .i64 g0 65535 = g) (he : bits .and .i64 e0 15 = e) (ht : bits .and .i64 t0 3 = t) (hq : bits .and .i64 q0 1048575 = q)
    (hj : (IntKind.u64.wrap wh).tmod 5 = 3) (hz : bits .and .i64 x 3 = z) (H1 : Hid (0 ≤ s ∧ s ≤ 11 ∧ 0 ≤ g ∧ g ≤ 65535 ∧ 0 ≤ e ∧ e ≤ 15 ∧ 0 ≤ t ∧ t ≤ 3 ∧ 0 ≤ q ∧ q ≤ 1048575)) (H2 : Hid (0 ≤ z ∧ z ≤ 3)) :
    Calls Try.prog 7 #[wd k0 v0 s0 g0 e0 t0 q0, .int .i64 wh, .int .i64 x] w fun r w' => r = .returned (.bool true) ∧ Below w.heap.size w w' := by
  obtain ⟨a, ha⟩ : ∃ a, Hid (numE s g e t q = a) := ⟨_, rfl⟩
  obtain ⟨b, hb⟩ : ∃ b, Hid (numE s g e z q = b) := ⟨_, rfl⟩
  obtain ⟨c, hc⟩ : ∃ c, Hid (eqw 1 0 s g e t q 1 0 s g e z q = c) := ⟨_, rfl⟩
  have hac : (a == b) = c := by
    rw [← ha.out, ← hb.out, ← hc.out, Bool.eq_iff_iff]
    have h1 := H1.out
    have h2 := H2.out
    simp [eqw, numE]
    omega
  have hqq : ∀ w', (binOp .eql 23 (wd 1 0 s g e t q) (wd 1 0 s g e z q)).run Try.prog w' = .ok (.bool c) w' := fun w' => by rw [eq_wd, hc.out]
  go_enter Try.func7, Try.ntmps7
  go_wp2_with (first
      | (go_at_call 12; (with_reducible refine (num_any _ _).mono ?_); rintro r wz ⟨rfl, rfl⟩)
      | (go_at_call 15; (with_reducible refine (awake_any _).mono ?_); rintro r w1 ⟨rfl, hb1⟩; obtain ⟨hk1, hz1⟩ := bstep (a := w.heap.size) hb1 (by simp); obtain ⟨hk1', hf1'⟩ := bcell hb1)
      | (go_at_call 8; (with_reducible refine (putE_at s g e t q _ H1.out).mono ?_); rintro r w2 ⟨rfl, hb2⟩; rw [ha.out]; obtain ⟨hk2, hz2⟩ := bstep (a := w.heap.size) hb2 (by simp [World.setCell]; omega); obtain ⟨hk2', hz2'⟩ := bstep (a := w1.heap.size) hb2 (by simp [World.setCell]))
      | (go_at_call 8; (with_reducible refine (putE_at s g e z q _ (by have h1 := H1.out; have h2 := H2.out; omega)).mono ?_); rintro r w3 ⟨rfl, hb3⟩; rw [hb.out]; obtain ⟨hk3, hz3⟩ := bstep (a := w.heap.size) hb3 hz2; obtain ⟨hk3', hz3'⟩ := bstep (a := w1.heap.size) hb3 hz2'))
  go_ret
  have b1 := bnext ((Below.refl w.heap.size w).alloc (Nat.le_refl _) _) hb1
  have st : ∀ (w' : World), Below w.heap.size w w' → ∀ (o : Nat) (u : Value), Below w.heap.size w (w'.setCell ⟨w.heap.size, o, none⟩ u) := fun w' h o u => h.setCell (p := ⟨w.heap.size, o, none⟩) (Nat.le_refl _) u
  have b2 := st _ (st _ (st _ (st _ (st _ (st _ (st _ b1 0 (.int .i64 1)) 1 (.int .i64 0)) 2 (.int .i64 s)) 3 (.int .i64 g)) 4 (.int .i64 e)) 5 (.int .i64 t)) 6 (.int .i64 q)
  exact ⟨rfl, bnext (bnext (b2.alloc b2.size _) hb2) hb3⟩

set_option maxHeartbeats 4000000 in
theorem wordUnique_4 (k0 v0 s0 g0 e0 t0 q0 s g e t q z wh x : Int) (w : World)
    (hs : wrap64 ((IntKind.u64.wrap s0).tmod 12) = s) (hg : bits .and .i64 g0 65535 = g) (he : bits .and .i64 e0 15 = e) (ht : bits .and .i64 t0 3 = t) (hq : bits .and .i64 q0 1048575 = q)
    (hj : (IntKind.u64.wrap wh).tmod 5 = 4) (hz : bits .and .i64 x 1048575 = z) (H1 : Hid (0 ≤ s ∧ s ≤ 11 ∧ 0 ≤ g ∧ g ≤ 65535 ∧ 0 ≤ e ∧ e ≤ 15 ∧ 0 ≤ t ∧ t ≤ 3 ∧ 0 ≤ q ∧ q ≤ 1048575)) (H2 : Hid (0 ≤ z ∧ z ≤ 1048575)) :
    Calls Try.prog 7 #[wd k0 v0 s0 g0 e0 t0 q0, .int .i64 wh, .int .i64 x] w fun r w' => r = .returned (.bool true) ∧ Below w.heap.size w w' := by
  obtain ⟨a, ha⟩ : ∃ a, Hid (numE s g e t q = a) := ⟨_, rfl⟩
  obtain ⟨b, hb⟩ : ∃ b, Hid (numE s g e t z = b) := ⟨_, rfl⟩
  obtain ⟨c, hc⟩ : ∃ c, Hid (eqw 1 0 s g e t q 1 0 s g e t z = c) := ⟨_, rfl⟩
  have hac : (a == b) = c := by
    rw [← ha.out, ← hb.out, ← hc.out, Bool.eq_iff_iff]
    have h1 := H1.out
    have h2 := H2.out
    simp [eqw, numE]
    omega
  have hqq : ∀ w', (binOp .eql 23 (wd 1 0 s g e t q) (wd 1 0 s g e t z)).run Try.prog w' = .ok (.bool c) w' := fun w' => by rw [eq_wd, hc.out]
  go_enter Try.func7, Try.ntmps7
  go_wp2_with (first
      | (go_at_call 12; (with_reducible refine (num_any _ _).mono ?_); rintro r wz ⟨rfl, rfl⟩)
      | (go_at_call 15; (with_reducible refine (awake_any _).mono ?_); rintro r w1 ⟨rfl, hb1⟩; obtain ⟨hk1, hz1⟩ := bstep (a := w.heap.size) hb1 (by simp); obtain ⟨hk1', hf1'⟩ := bcell hb1)
      | (go_at_call 8; (with_reducible refine (putE_at s g e t q _ H1.out).mono ?_); rintro r w2 ⟨rfl, hb2⟩; rw [ha.out]; obtain ⟨hk2, hz2⟩ := bstep (a := w.heap.size) hb2 (by simp [World.setCell]; omega); obtain ⟨hk2', hz2'⟩ := bstep (a := w1.heap.size) hb2 (by simp [World.setCell]))
      | (go_at_call 8; (with_reducible refine (putE_at s g e t z _ (by have h1 := H1.out; have h2 := H2.out; omega)).mono ?_); rintro r w3 ⟨rfl, hb3⟩; rw [hb.out]; obtain ⟨hk3, hz3⟩ := bstep (a := w.heap.size) hb3 hz2; obtain ⟨hk3', hz3'⟩ := bstep (a := w1.heap.size) hb3 hz2'))
  go_ret
  have b1 := bnext ((Below.refl w.heap.size w).alloc (Nat.le_refl _) _) hb1
  have st : ∀ (w' : World), Below w.heap.size w w' → ∀ (o : Nat) (u : Value), Below w.heap.size w (w'.setCell ⟨w.heap.size, o, none⟩ u) := fun w' h o u => h.setCell (p := ⟨w.heap.size, o, none⟩) (Nat.le_refl _) u
  have b2 := st _ (st _ (st _ (st _ (st _ (st _ (st _ b1 0 (.int .i64 1)) 1 (.int .i64 0)) 2 (.int .i64 s)) 3 (.int .i64 g)) 4 (.int .i64 e)) 5 (.int .i64 t)) 6 (.int .i64 q)
  exact ⟨rfl, bnext (bnext (b2.alloc b2.size _) hb2) hb3⟩

theorem wordUnique_walk (k0 v0 s0 g0 e0 t0 q0 wh x : Int) (w : World) (_ : -9223372036854775808 ≤ wh) (_ : wh ≤ 9223372036854775807) (_ : -9223372036854775808 ≤ x) (_ : x ≤ 9223372036854775807) :
    Calls Try.prog 7 #[wd k0 v0 s0 g0 e0 t0 q0, .int .i64 wh, .int .i64 x] w fun r w' => r = .returned (.bool true) ∧ Below w.heap.size w w' := by
  obtain ⟨s, hs, s1, s2⟩ : ∃ s, wrap64 ((IntKind.u64.wrap s0).tmod 12) = s ∧ 0 ≤ s ∧ s < 12 := ⟨_, rfl, um_bd s0 12 (by decide) (by decide)⟩
  obtain ⟨g, hg, g1, g2⟩ : ∃ p, bits .and .i64 g0 65535 = p ∧ 0 ≤ p ∧ p ≤ 65535 := ⟨_, rfl, by rw [and_mask 16 (by decide) g0 _ (by decide)]; omega, by rw [and_mask 16 (by decide) g0 _ (by decide)]; omega⟩
  obtain ⟨e, he, e1, e2⟩ : ∃ p, bits .and .i64 e0 15 = p ∧ 0 ≤ p ∧ p ≤ 15 := ⟨_, rfl, by rw [and_mask 4 (by decide) e0 _ (by decide)]; omega, by rw [and_mask 4 (by decide) e0 _ (by decide)]; omega⟩
  obtain ⟨t, ht, t1, t2⟩ : ∃ p, bits .and .i64 t0 3 = p ∧ 0 ≤ p ∧ p ≤ 3 := ⟨_, rfl, by rw [and3]; omega, by rw [and3]; omega⟩
  obtain ⟨q, hq, q1, q2⟩ : ∃ p, bits .and .i64 q0 1048575 = p ∧ 0 ≤ p ∧ p ≤ 1048575 := ⟨_, rfl, by rw [and20]; omega, by rw [and20]; omega⟩
  have hu : 0 ≤ IntKind.u64.wrap wh := by simp [IntKind.wrap, IntKind.bits, IntKind.signed]; omega
  have H : 0 ≤ s ∧ s ≤ 11 ∧ 0 ≤ g ∧ g ≤ 65535 ∧ 0 ≤ e ∧ e ≤ 15 ∧ 0 ≤ t ∧ t ≤ 3 ∧ 0 ≤ q ∧ q ≤ 1048575 := by omega
  have hj : (IntKind.u64.wrap wh).tmod 5 = 0 ∨ (IntKind.u64.wrap wh).tmod 5 = 1 ∨ (IntKind.u64.wrap wh).tmod 5 = 2 ∨ (IntKind.u64.wrap wh).tmod 5 = 3 ∨ (IntKind.u64.wrap wh).tmod 5 = 4 := by
    rw [Int.tmod_eq_emod_of_nonneg hu]; omega
  rcases hj with hj | hj | hj | hj | hj
  · exact wordUnique_0 k0 v0 s0 g0 e0 t0 q0 s g e t q _ wh x w hs hg he ht hq hj rfl H (by have := um_bd x 12 (by decide) (by decide); exact ⟨this.1, by omega⟩)
  · exact wordUnique_1 k0 v0 s0 g0 e0 t0 q0 s g e t q _ wh x w hs hg he ht hq hj rfl H ⟨by rw [and_mask 16 (by decide) x _ (by decide)]; omega, by rw [and_mask 16 (by decide) x _ (by decide)]; omega⟩
  · exact wordUnique_2 k0 v0 s0 g0 e0 t0 q0 s g e t q _ wh x w hs hg he ht hq hj rfl H ⟨by rw [and_mask 4 (by decide) x _ (by decide)]; omega, by rw [and_mask 4 (by decide) x _ (by decide)]; omega⟩
  · exact wordUnique_3 k0 v0 s0 g0 e0 t0 q0 s g e t q _ wh x w hs hg he ht hq hj rfl H ⟨by rw [and3]; omega, by rw [and3]; omega⟩
  · exact wordUnique_4 k0 v0 s0 g0 e0 t0 q0 s g e t q _ wh x w hs hg he ht hq hj rfl H ⟨by rw [and20]; omega, by rw [and20]; omega⟩
end Go.Proofs.Ytfmklmpbfahoeaa
