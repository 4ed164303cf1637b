/- the law WordBack: its walk, one for each way. -/
import Derived.Test.YtfmklmpbfahoeaaG
namespace Go.Proofs.Ytfmklmpbfahoeaa
open Go.RowKit

theorem neq_self (k v s g e t q : Int) (w : World) : (binOp .neq 23 (wd k v s g e t q) (wd k v s g e t q)).run Try.prog w = .ok (.bool false) w := by
  simp [go_sem]
theorem eql_self (k v s g e t q : Int) (w : World) : (binOp .eql 23 (wd k v s g e t q) (wd k v s g e t q)).run Try.prog w = .ok (.bool true) w := by
  rw [eq_wd, show eqw k v s g e t q k v s g e t q = true by simp [eqw]]
/-- what Put, Get, May answer at one argument -/
structure PutIs (x : Value) (a e : Int) : Prop where
  c : ∀ w : World, Calls Try.prog 8 #[x] w fun r w' => r = .returned (.tuple #[.int .i64 a, .int .i64 e]) ∧ Below w.heap.size w w'
structure GetIs (a : Int) (x : Value) (e : Int) : Prop where
  c : ∀ w : World, Calls Try.prog 10 #[.int .i64 a] w fun r w' => r = .returned (.tuple #[x, .int .i64 e]) ∧ Below w.heap.size w w'
structure MayIs (x : Value) (b : Bool) : Prop where
  c : ∀ w : World, Calls Try.prog 13 #[x] w fun r w' => r = .returned (.bool b) ∧ Below w.heap.size w w'
theorem balloc' {w w1 : World} (h : Below w.heap.size w w1) (o : Obj) : Below w.heap.size w (w1.alloc o) := h.alloc h.size o

set_option maxHeartbeats 4000000 in
theorem wordBack_111 (k v s g e t q k2 v2 s2 g2 e2 t2 q2 uk uv us ug ue ut uq a b _eb x : Int) (c : Bool) (w : World)
    (HPw : PutIs (wd k v s g e t q) a 0) (HPv : PutIs (wd k2 v2 s2 g2 e2 t2 q2) b 0) (HMw : MayIs (wd k v s g e t q) true) (HGa : GetIs a (wd k v s g e t q) 0) (hab : (a == b) = c) (hqv : ∀ w', (binOp .eql 23 (wd k v s g e t q) (wd k2 v2 s2 g2 e2 t2 q2)).run Try.prog w' = .ok (.bool c) w') (HGx : GetIs x (wd uk uv us ug ue ut uq) 0) (HPu : PutIs (wd uk uv us ug ue ut uq) x 0) :
    Calls Try.prog 4 #[wd k v s g e t q, wd k2 v2 s2 g2 e2 t2 q2, .int .i64 x] w fun r w' => r = .returned (.bool true) ∧ Below w.heap.size w w' := by
  have hn := neq_self k v s g e t q
  have hz := eql_self 0 0 0 0 0 0 0
  go_enter Try.func4, Try.ntmps4
  go_wp2_with (first
      | (go_at_call 12; (with_reducible refine (num_any _ _).mono ?_); rintro r wz ⟨rfl, rfl⟩)
      | (go_at_call 15; (with_reducible refine (awake_any _).mono ?_); rintro r w1 ⟨rfl, hb1⟩; obtain ⟨hk1, hz1⟩ := bstep (a := w.heap.size) hb1 (by simp <;> omega); obtain ⟨hl1, hy1⟩ := bstep (a := w.heap.size + 1) hb1 (by simp <;> omega))
      | (go_at_call 8; (with_reducible refine (HPw.c _).mono ?_); rintro r w2 ⟨rfl, hb2⟩; obtain ⟨hk2, hz2⟩ := bstep (a := w.heap.size) hb2 hz1; obtain ⟨hl2, hy2⟩ := bstep (a := w.heap.size + 1) hb2 hy1)
      | (go_at_call 8; (with_reducible refine (HPv.c _).mono ?_); rintro r w3 ⟨rfl, hb3⟩; obtain ⟨hk3, hz3⟩ := bstep (a := w.heap.size) hb3 hz2; obtain ⟨hl3, hy3⟩ := bstep (a := w.heap.size + 1) hb3 hy2))
  first | go_region_with (first
      | (go_at_call 12; (with_reducible refine (num_any _ _).mono ?_); rintro r wz ⟨rfl, rfl⟩)
      | (go_at_call 13; (with_reducible refine (HMw.c _).mono ?_); rintro r w4 ⟨rfl, hb4⟩; obtain ⟨hk4, hz4⟩ := bstep (a := w.heap.size) (undrew hb4) hz3; obtain ⟨hl4, hy4⟩ := bstep (a := w.heap.size + 1) (undrew hb4) hy3)) | fail
  all_goals
    have b4 := bnext (bnext (bnext (balloc' (balloc' (Below.refl w.heap.size w) _) _) hb1) hb2) (bnext hb3 (undrew hb4))
    go_wp2_with (first
      | (go_at_call 12; (with_reducible refine (num_any _ _).mono ?_); rintro r wz ⟨rfl, rfl⟩)
      | (go_at_call 10; (with_reducible refine (HGa.c _).mono ?_); rintro r w5 ⟨rfl, hb5⟩; obtain ⟨hk5, hz5⟩ := bstep (a := w.heap.size) hb5 hz4; obtain ⟨hl5, hy5⟩ := bstep (a := w.heap.size + 1) hb5 hy4)
      | (go_at_call 10; (with_reducible refine (HGx.c _).mono ?_); rintro r w6 ⟨rfl, hb6⟩)
      | (go_at_call 8; (with_reducible refine (HPu.c _).mono ?_); rintro r w7 ⟨rfl, hb7⟩))
    go_ret
    have b5 := balloc' (bnext b4 hb5) (.cells #[.int .i64 k, .int .i64 v, .int .i64 s, .int .i64 g, .int .i64 e, .int .i64 t, .int .i64 q] 23)
    have b6 := balloc' (bnext b5 hb6) (.cells #[.int .i64 uk, .int .i64 uv, .int .i64 us, .int .i64 ug, .int .i64 ue, .int .i64 ut, .int .i64 uq] 23)
    exact ⟨rfl, bnext b6 hb7⟩

set_option maxHeartbeats 4000000 in
theorem wordBack_110 (k v s g e t q k2 v2 s2 g2 e2 t2 q2 _uk _uv _us _ug _ue _ut _uq a b _eb x : Int) (c : Bool) (w : World)
    (HPw : PutIs (wd k v s g e t q) a 0) (HPv : PutIs (wd k2 v2 s2 g2 e2 t2 q2) b 0) (HMw : MayIs (wd k v s g e t q) true) (HGa : GetIs a (wd k v s g e t q) 0) (hab : (a == b) = c) (hqv : ∀ w', (binOp .eql 23 (wd k v s g e t q) (wd k2 v2 s2 g2 e2 t2 q2)).run Try.prog w' = .ok (.bool c) w') (HGx : GetIs x (wd 0 0 0 0 0 0 0) 100) :
    Calls Try.prog 4 #[wd k v s g e t q, wd k2 v2 s2 g2 e2 t2 q2, .int .i64 x] w fun r w' => r = .returned (.bool true) ∧ Below w.heap.size w w' := by
  have hn := neq_self k v s g e t q
  have hz := eql_self 0 0 0 0 0 0 0
  go_enter Try.func4, Try.ntmps4
  go_wp2_with (first
      | (go_at_call 12; (with_reducible refine (num_any _ _).mono ?_); rintro r wz ⟨rfl, rfl⟩)
      | (go_at_call 15; (with_reducible refine (awake_any _).mono ?_); rintro r w1 ⟨rfl, hb1⟩; obtain ⟨hk1, hz1⟩ := bstep (a := w.heap.size) hb1 (by simp <;> omega); obtain ⟨hl1, hy1⟩ := bstep (a := w.heap.size + 1) hb1 (by simp <;> omega))
      | (go_at_call 8; (with_reducible refine (HPw.c _).mono ?_); rintro r w2 ⟨rfl, hb2⟩; obtain ⟨hk2, hz2⟩ := bstep (a := w.heap.size) hb2 hz1; obtain ⟨hl2, hy2⟩ := bstep (a := w.heap.size + 1) hb2 hy1)
      | (go_at_call 8; (with_reducible refine (HPv.c _).mono ?_); rintro r w3 ⟨rfl, hb3⟩; obtain ⟨hk3, hz3⟩ := bstep (a := w.heap.size) hb3 hz2; obtain ⟨hl3, hy3⟩ := bstep (a := w.heap.size + 1) hb3 hy2))
  first | go_region_with (first
      | (go_at_call 12; (with_reducible refine (num_any _ _).mono ?_); rintro r wz ⟨rfl, rfl⟩)
      | (go_at_call 13; (with_reducible refine (HMw.c _).mono ?_); rintro r w4 ⟨rfl, hb4⟩; obtain ⟨hk4, hz4⟩ := bstep (a := w.heap.size) (undrew hb4) hz3; obtain ⟨hl4, hy4⟩ := bstep (a := w.heap.size + 1) (undrew hb4) hy3)) | fail
  all_goals
    have b4 := bnext (bnext (bnext (balloc' (balloc' (Below.refl w.heap.size w) _) _) hb1) hb2) (bnext hb3 (undrew hb4))
    go_wp2_with (first
      | (go_at_call 12; (with_reducible refine (num_any _ _).mono ?_); rintro r wz ⟨rfl, rfl⟩)
      | (go_at_call 10; (with_reducible refine (HGa.c _).mono ?_); rintro r w5 ⟨rfl, hb5⟩; obtain ⟨hk5, hz5⟩ := bstep (a := w.heap.size) hb5 hz4; obtain ⟨hl5, hy5⟩ := bstep (a := w.heap.size + 1) hb5 hy4)
      | (go_at_call 10; (with_reducible refine (HGx.c _).mono ?_); rintro r w6 ⟨rfl, hb6⟩))
    go_ret
    have b5 := balloc' (bnext b4 hb5) (.cells #[.int .i64 k, .int .i64 v, .int .i64 s, .int .i64 g, .int .i64 e, .int .i64 t, .int .i64 q] 23)
    have b6 := balloc' (bnext b5 hb6) (.cells #[.int .i64 0, .int .i64 0, .int .i64 0, .int .i64 0, .int .i64 0, .int .i64 0, .int .i64 0] 23)
    exact ⟨rfl, b6⟩

set_option maxHeartbeats 4000000 in
theorem wordBack_101 (k v s g e t q k2 v2 s2 g2 e2 t2 q2 uk uv us ug ue ut uq a b _eb x : Int) (_c : Bool) (w : World)
    (HPw : PutIs (wd k v s g e t q) a 0) (HPv : PutIs (wd k2 v2 s2 g2 e2 t2 q2) b 100) (HMw : MayIs (wd k v s g e t q) true) (HGa : GetIs a (wd k v s g e t q) 0) (HGx : GetIs x (wd uk uv us ug ue ut uq) 0) (HPu : PutIs (wd uk uv us ug ue ut uq) x 0) :
    Calls Try.prog 4 #[wd k v s g e t q, wd k2 v2 s2 g2 e2 t2 q2, .int .i64 x] w fun r w' => r = .returned (.bool true) ∧ Below w.heap.size w w' := by
  have hn := neq_self k v s g e t q
  have hz := eql_self 0 0 0 0 0 0 0
  go_enter Try.func4, Try.ntmps4
  go_wp2_with (first
      | (go_at_call 12; (with_reducible refine (num_any _ _).mono ?_); rintro r wz ⟨rfl, rfl⟩)
      | (go_at_call 15; (with_reducible refine (awake_any _).mono ?_); rintro r w1 ⟨rfl, hb1⟩; obtain ⟨hk1, hz1⟩ := bstep (a := w.heap.size) hb1 (by simp <;> omega); obtain ⟨hl1, hy1⟩ := bstep (a := w.heap.size + 1) hb1 (by simp <;> omega))
      | (go_at_call 8; (with_reducible refine (HPw.c _).mono ?_); rintro r w2 ⟨rfl, hb2⟩; obtain ⟨hk2, hz2⟩ := bstep (a := w.heap.size) hb2 hz1; obtain ⟨hl2, hy2⟩ := bstep (a := w.heap.size + 1) hb2 hy1)
      | (go_at_call 8; (with_reducible refine (HPv.c _).mono ?_); rintro r w3 ⟨rfl, hb3⟩; obtain ⟨hk3, hz3⟩ := bstep (a := w.heap.size) hb3 hz2; obtain ⟨hl3, hy3⟩ := bstep (a := w.heap.size + 1) hb3 hy2))
  first | go_region_with (first
      | (go_at_call 12; (with_reducible refine (num_any _ _).mono ?_); rintro r wz ⟨rfl, rfl⟩)
      | (go_at_call 13; (with_reducible refine (HMw.c _).mono ?_); rintro r w4 ⟨rfl, hb4⟩; obtain ⟨hk4, hz4⟩ := bstep (a := w.heap.size) (undrew hb4) hz3; obtain ⟨hl4, hy4⟩ := bstep (a := w.heap.size + 1) (undrew hb4) hy3)) | fail
  all_goals
    have b4 := bnext (bnext (bnext (balloc' (balloc' (Below.refl w.heap.size w) _) _) hb1) hb2) (bnext hb3 (undrew hb4))
    go_wp2_with (first
      | (go_at_call 12; (with_reducible refine (num_any _ _).mono ?_); rintro r wz ⟨rfl, rfl⟩)
      | (go_at_call 10; (with_reducible refine (HGa.c _).mono ?_); rintro r w5 ⟨rfl, hb5⟩; obtain ⟨hk5, hz5⟩ := bstep (a := w.heap.size) hb5 hz4; obtain ⟨hl5, hy5⟩ := bstep (a := w.heap.size + 1) hb5 hy4)
      | (go_at_call 10; (with_reducible refine (HGx.c _).mono ?_); rintro r w6 ⟨rfl, hb6⟩)
      | (go_at_call 8; (with_reducible refine (HPu.c _).mono ?_); rintro r w7 ⟨rfl, hb7⟩))
    go_ret
    have b5 := balloc' (bnext b4 hb5) (.cells #[.int .i64 k, .int .i64 v, .int .i64 s, .int .i64 g, .int .i64 e, .int .i64 t, .int .i64 q] 23)
    have b6 := balloc' (bnext b5 hb6) (.cells #[.int .i64 uk, .int .i64 uv, .int .i64 us, .int .i64 ug, .int .i64 ue, .int .i64 ut, .int .i64 uq] 23)
    exact ⟨rfl, bnext b6 hb7⟩

set_option maxHeartbeats 4000000 in
theorem wordBack_100 (k v s g e t q k2 v2 s2 g2 e2 t2 q2 _uk _uv _us _ug _ue _ut _uq a b _eb x : Int) (_c : Bool) (w : World)
    (HPw : PutIs (wd k v s g e t q) a 0) (HPv : PutIs (wd k2 v2 s2 g2 e2 t2 q2) b 100) (HMw : MayIs (wd k v s g e t q) true) (HGa : GetIs a (wd k v s g e t q) 0) (HGx : GetIs x (wd 0 0 0 0 0 0 0) 100) :
    Calls Try.prog 4 #[wd k v s g e t q, wd k2 v2 s2 g2 e2 t2 q2, .int .i64 x] w fun r w' => r = .returned (.bool true) ∧ Below w.heap.size w w' := by
  have hn := neq_self k v s g e t q
  have hz := eql_self 0 0 0 0 0 0 0
  go_enter Try.func4, Try.ntmps4
  go_wp2_with (first
      | (go_at_call 12; (with_reducible refine (num_any _ _).mono ?_); rintro r wz ⟨rfl, rfl⟩)
      | (go_at_call 15; (with_reducible refine (awake_any _).mono ?_); rintro r w1 ⟨rfl, hb1⟩; obtain ⟨hk1, hz1⟩ := bstep (a := w.heap.size) hb1 (by simp <;> omega); obtain ⟨hl1, hy1⟩ := bstep (a := w.heap.size + 1) hb1 (by simp <;> omega))
      | (go_at_call 8; (with_reducible refine (HPw.c _).mono ?_); rintro r w2 ⟨rfl, hb2⟩; obtain ⟨hk2, hz2⟩ := bstep (a := w.heap.size) hb2 hz1; obtain ⟨hl2, hy2⟩ := bstep (a := w.heap.size + 1) hb2 hy1)
      | (go_at_call 8; (with_reducible refine (HPv.c _).mono ?_); rintro r w3 ⟨rfl, hb3⟩; obtain ⟨hk3, hz3⟩ := bstep (a := w.heap.size) hb3 hz2; obtain ⟨hl3, hy3⟩ := bstep (a := w.heap.size + 1) hb3 hy2))
  first | go_region_with (first
      | (go_at_call 12; (with_reducible refine (num_any _ _).mono ?_); rintro r wz ⟨rfl, rfl⟩)
      | (go_at_call 13; (with_reducible refine (HMw.c _).mono ?_); rintro r w4 ⟨rfl, hb4⟩; obtain ⟨hk4, hz4⟩ := bstep (a := w.heap.size) (undrew hb4) hz3; obtain ⟨hl4, hy4⟩ := bstep (a := w.heap.size + 1) (undrew hb4) hy3)) | fail
  all_goals
    have b4 := bnext (bnext (bnext (balloc' (balloc' (Below.refl w.heap.size w) _) _) hb1) hb2) (bnext hb3 (undrew hb4))
    go_wp2_with (first
      | (go_at_call 12; (with_reducible refine (num_any _ _).mono ?_); rintro r wz ⟨rfl, rfl⟩)
      | (go_at_call 10; (with_reducible refine (HGa.c _).mono ?_); rintro r w5 ⟨rfl, hb5⟩; obtain ⟨hk5, hz5⟩ := bstep (a := w.heap.size) hb5 hz4; obtain ⟨hl5, hy5⟩ := bstep (a := w.heap.size + 1) hb5 hy4)
      | (go_at_call 10; (with_reducible refine (HGx.c _).mono ?_); rintro r w6 ⟨rfl, hb6⟩))
    go_ret
    have b5 := balloc' (bnext b4 hb5) (.cells #[.int .i64 k, .int .i64 v, .int .i64 s, .int .i64 g, .int .i64 e, .int .i64 t, .int .i64 q] 23)
    have b6 := balloc' (bnext b5 hb6) (.cells #[.int .i64 0, .int .i64 0, .int .i64 0, .int .i64 0, .int .i64 0, .int .i64 0, .int .i64 0] 23)
    exact ⟨rfl, b6⟩

set_option maxHeartbeats 4000000 in
theorem wordBack_001 (k v s g e t q k2 v2 s2 g2 e2 t2 q2 uk uv us ug ue ut uq _a b eb x : Int) (_c : Bool) (w : World)
    (HPw : PutIs (wd k v s g e t q) 0 100) (HPv : PutIs (wd k2 v2 s2 g2 e2 t2 q2) b eb) (HMw : MayIs (wd k v s g e t q) false) (HGx : GetIs x (wd uk uv us ug ue ut uq) 0) (HPu : PutIs (wd uk uv us ug ue ut uq) x 0) :
    Calls Try.prog 4 #[wd k v s g e t q, wd k2 v2 s2 g2 e2 t2 q2, .int .i64 x] w fun r w' => r = .returned (.bool true) ∧ Below w.heap.size w w' := by
  have hn := neq_self k v s g e t q
  have hz := eql_self 0 0 0 0 0 0 0
  go_enter Try.func4, Try.ntmps4
  go_wp2_with (first
      | (go_at_call 12; (with_reducible refine (num_any _ _).mono ?_); rintro r wz ⟨rfl, rfl⟩)
      | (go_at_call 15; (with_reducible refine (awake_any _).mono ?_); rintro r w1 ⟨rfl, hb1⟩; obtain ⟨hk1, hz1⟩ := bstep (a := w.heap.size) hb1 (by simp <;> omega); obtain ⟨hl1, hy1⟩ := bstep (a := w.heap.size + 1) hb1 (by simp <;> omega))
      | (go_at_call 8; (with_reducible refine (HPw.c _).mono ?_); rintro r w2 ⟨rfl, hb2⟩; obtain ⟨hk2, hz2⟩ := bstep (a := w.heap.size) hb2 hz1; obtain ⟨hl2, hy2⟩ := bstep (a := w.heap.size + 1) hb2 hy1)
      | (go_at_call 8; (with_reducible refine (HPv.c _).mono ?_); rintro r w3 ⟨rfl, hb3⟩; obtain ⟨hk3, hz3⟩ := bstep (a := w.heap.size) hb3 hz2; obtain ⟨hl3, hy3⟩ := bstep (a := w.heap.size + 1) hb3 hy2))
  first | go_region_with (first
      | (go_at_call 12; (with_reducible refine (num_any _ _).mono ?_); rintro r wz ⟨rfl, rfl⟩)
      | (go_at_call 13; (with_reducible refine (HMw.c _).mono ?_); rintro r w4 ⟨rfl, hb4⟩; obtain ⟨hk4, hz4⟩ := bstep (a := w.heap.size) (undrew hb4) hz3; obtain ⟨hl4, hy4⟩ := bstep (a := w.heap.size + 1) (undrew hb4) hy3)) | fail
  all_goals
    have b4 := bnext (bnext (bnext (balloc' (balloc' (Below.refl w.heap.size w) _) _) hb1) hb2) (bnext hb3 (undrew hb4))
    go_wp2_with (first
      | (go_at_call 12; (with_reducible refine (num_any _ _).mono ?_); rintro r wz ⟨rfl, rfl⟩)
      | (go_at_call 10; (with_reducible refine (HGx.c _).mono ?_); rintro r w6 ⟨rfl, hb6⟩)
      | (go_at_call 8; (with_reducible refine (HPu.c _).mono ?_); rintro r w7 ⟨rfl, hb7⟩))
    go_ret
    have b6 := balloc' (bnext b4 hb6) (.cells #[.int .i64 uk, .int .i64 uv, .int .i64 us, .int .i64 ug, .int .i64 ue, .int .i64 ut, .int .i64 uq] 23)
    exact ⟨rfl, bnext b6 hb7⟩

set_option maxHeartbeats 4000000 in
theorem wordBack_000 (k v s g e t q k2 v2 s2 g2 e2 t2 q2 _uk _uv _us _ug _ue _ut _uq _a b eb x : Int) (_c : Bool) (w : World)
    (HPw : PutIs (wd k v s g e t q) 0 100) (HPv : PutIs (wd k2 v2 s2 g2 e2 t2 q2) b eb) (HMw : MayIs (wd k v s g e t q) false) (HGx : GetIs x (wd 0 0 0 0 0 0 0) 100) :
    Calls Try.prog 4 #[wd k v s g e t q, wd k2 v2 s2 g2 e2 t2 q2, .int .i64 x] w fun r w' => r = .returned (.bool true) ∧ Below w.heap.size w w' := by
  have hn := neq_self k v s g e t q
  have hz := eql_self 0 0 0 0 0 0 0
  go_enter Try.func4, Try.ntmps4
  go_wp2_with (first
      | (go_at_call 12; (with_reducible refine (num_any _ _).mono ?_); rintro r wz ⟨rfl, rfl⟩)
      | (go_at_call 15; (with_reducible refine (awake_any _).mono ?_); rintro r w1 ⟨rfl, hb1⟩; obtain ⟨hk1, hz1⟩ := bstep (a := w.heap.size) hb1 (by simp <;> omega); obtain ⟨hl1, hy1⟩ := bstep (a := w.heap.size + 1) hb1 (by simp <;> omega))
      | (go_at_call 8; (with_reducible refine (HPw.c _).mono ?_); rintro r w2 ⟨rfl, hb2⟩; obtain ⟨hk2, hz2⟩ := bstep (a := w.heap.size) hb2 hz1; obtain ⟨hl2, hy2⟩ := bstep (a := w.heap.size + 1) hb2 hy1)
      | (go_at_call 8; (with_reducible refine (HPv.c _).mono ?_); rintro r w3 ⟨rfl, hb3⟩; obtain ⟨hk3, hz3⟩ := bstep (a := w.heap.size) hb3 hz2; obtain ⟨hl3, hy3⟩ := bstep (a := w.heap.size + 1) hb3 hy2))
  first | go_region_with (first
      | (go_at_call 12; (with_reducible refine (num_any _ _).mono ?_); rintro r wz ⟨rfl, rfl⟩)
      | (go_at_call 13; (with_reducible refine (HMw.c _).mono ?_); rintro r w4 ⟨rfl, hb4⟩; obtain ⟨hk4, hz4⟩ := bstep (a := w.heap.size) (undrew hb4) hz3; obtain ⟨hl4, hy4⟩ := bstep (a := w.heap.size + 1) (undrew hb4) hy3)) | fail
  all_goals
    have b4 := bnext (bnext (bnext (balloc' (balloc' (Below.refl w.heap.size w) _) _) hb1) hb2) (bnext hb3 (undrew hb4))
    go_wp2_with (first
      | (go_at_call 12; (with_reducible refine (num_any _ _).mono ?_); rintro r wz ⟨rfl, rfl⟩)
      | (go_at_call 10; (with_reducible refine (HGx.c _).mono ?_); rintro r w6 ⟨rfl, hb6⟩))
    go_ret
    have b6 := balloc' (bnext b4 hb6) (.cells #[.int .i64 0, .int .i64 0, .int .i64 0, .int .i64 0, .int .i64 0, .int .i64 0, .int .i64 0] 23)
    exact ⟨rfl, b6⟩
end Go.Proofs.Ytfmklmpbfahoeaa
