/- the law WordKinds: its walk; put at words that may be. -/
import Derived.Test.YtfmklmpbfahoeaaG
namespace Go.Proofs.Ytfmklmpbfahoeaa
open Go.RowKit
theorem putv (v : Int) (w : World) (h0 : 0 ≤ v) (h1 : v ≤ 1099511627775) : Calls Try.prog 8 #[wd 0 v 0 0 0 0 0] w fun r w' => r = .returned (.tuple #[.int .i64 (4 * v), .int .i64 0]) ∧ Below w.heap.size w w' :=
  put0 v 0 0 0 0 0 w h0 h1 (by simp [mayW]; omega)
theorem putm (s g : Int) (w : World) (s0 : 0 ≤ s) (s1 : s ≤ 11) (g0 : 0 ≤ g) (g1 : g ≤ 65535) : Calls Try.prog 8 #[wd 2 0 s g 0 0 0] w fun r w' => r = .returned (.tuple #[.int .i64 (4 * (g * 16 + s) + 2), .int .i64 0]) ∧ Below w.heap.size w w' :=
  put2 0 s g 0 0 0 w s0 s1 g0 g1 (by simp [mayW]; omega)
theorem pute (s g e t q : Int) (w : World) (s0 : 0 ≤ s) (s1 : s ≤ 11) (g0 : 0 ≤ g) (g1 : g ≤ 65535) (e0 : 0 ≤ e) (e1 : e ≤ 15) (t0 : 0 ≤ t) (t1 : t ≤ 3) (q0 : 0 ≤ q) (q1 : q ≤ 1048575) : Calls Try.prog 8 #[wd 1 0 s g e t q] w fun r w' => r = .returned (.tuple #[.int .i64 (4 * ((((g * 16 + s) * 16 + e) * 4 + t) * 1048576 + q) + 1), .int .i64 0]) ∧ Below w.heap.size w w' :=
  put1 0 s g e t q w s0 s1 g0 g1 e0 e1 t0 t1 q0 q1 (by simp [mayW]; omega)

theorem um_bd (sl n : Int) (h0 : 0 < n) (h1 : n ≤ 1000) : 0 ≤ wrap64 ((IntKind.u64.wrap sl).tmod n) ∧ wrap64 ((IntKind.u64.wrap sl).tmod n) < n := by
  have hu : 0 ≤ IntKind.u64.wrap sl := by simp [IntKind.wrap, IntKind.bits, IntKind.signed]; omega
  rw [Int.tmod_eq_emod_of_nonneg hu]
  have a := Int.emod_nonneg (IntKind.u64.wrap sl) (b := n) (by omega)
  have b := Int.emod_lt_of_pos (IntKind.u64.wrap sl) (b := n) h0
  rw [IntWalk.wrap64_in _ ⟨by omega, by omega⟩]
  exact ⟨a, b⟩

set_option maxHeartbeats 4000000 in
theorem wordKinds_core (p q s g a b c d x y sl gn : Int) (w : World)
    (hp : bits .and .i64 x 1099511627775 = p) (p0 : 0 ≤ p) (p1 : p ≤ 1099511627775) (hq : bits .and .i64 y 1099511627775 = q) (q0 : 0 ≤ q) (q1 : q ≤ 1099511627775)
    (hg : bits .and .i64 gn 65535 = g) (g0 : 0 ≤ g) (g1 : g ≤ 65535) (hs : wrap64 ((IntKind.u64.wrap sl).tmod 12) = s) (s0 : 0 ≤ s) (s1 : s ≤ 11)
    (ha : Hid (4 * p = a)) (hb : Hid (4 * q = b)) (hc : Hid (4 * (g * 16 + s) + 2 = c)) (hd : Hid (4 * ((((g * 16 + s) * 16 + 0) * 4 + 0) * 1048576 + 0) + 1 = d))
    (ha3 : bits .and .i64 a 3 = 0) (hc3 : bits .and .i64 c 3 = 2) (hd3 : bits .and .i64 d 3 = 1) (hac : (a != c) = true) (had : (a != d) = true) (hcd : (c != d) = true)
    (hlt : (a < b ∧ p < q) ∨ (b ≤ a ∧ q ≤ p)) :
    Calls Try.prog 6 #[.int .i64 x, .int .i64 y, .int .i64 sl, .int .i64 gn] w fun r w' => r = .returned (.bool true) ∧ Below w.heap.size w w' := by
  rcases hlt with ⟨l1, l2⟩ | ⟨l1, l2⟩
  all_goals
    go_enter Try.func6, Try.ntmps6
    go_wp2_with (first
      | (go_at_call 12; (with_reducible refine (num_any _ _).mono ?_); rintro r wz ⟨rfl, rfl⟩)
      | (go_at_call 15; (with_reducible refine (awake_any _).mono ?_); rintro r w1 ⟨rfl, hb1⟩)
      | (go_at_call 8; (with_reducible refine (putv p _ p0 p1).mono ?_); rintro r w2 ⟨rfl, hb2⟩; rw [ha.out])
      | (go_at_call 8; (with_reducible refine (putv q _ q0 q1).mono ?_); rintro r w3 ⟨rfl, hb3⟩; rw [hb.out])
      | (go_at_call 8; (with_reducible refine (putm s g _ s0 s1 g0 g1).mono ?_); rintro r w4 ⟨rfl, hb4⟩; rw [hc.out]; obtain ⟨hk4, hf4⟩ := bcell hb4; have hz4 : w3.heap.size < w4.heap.size := ltb hb4 (by simp))
      | (go_at_call 8; (with_reducible refine (pute s g 0 0 0 _ s0 s1 g0 g1 (by decide) (by decide) (by decide) (by decide) (by decide) (by decide)).mono ?_); rintro r w5 ⟨rfl, hb5⟩; rw [hd.out]))
    go_ret
    have b3 := bnext (bnext hb1 hb2) hb3
    have b4 := (bnext (b3.alloc b3.size _) hb4).setCell (p := ⟨w3.heap.size, 0, none⟩) b3.size (.int .i64 1)
    exact ⟨rfl, bnext b4 hb5⟩

theorem wordKinds_walk (x y sl gn : Int) (w : World) (_ : -9223372036854775808 ≤ x) (_ : x ≤ 9223372036854775807) (_ : -9223372036854775808 ≤ y) (_ : y ≤ 9223372036854775807)
    (_ : -9223372036854775808 ≤ sl) (_ : sl ≤ 9223372036854775807) (_ : -9223372036854775808 ≤ gn) (_ : gn ≤ 9223372036854775807) :
    Calls Try.prog 6 #[.int .i64 x, .int .i64 y, .int .i64 sl, .int .i64 gn] w fun r w' => r = .returned (.bool true) ∧ Below w.heap.size w w' := by
  obtain ⟨p, hp, p0, p1⟩ : ∃ p, bits .and .i64 x 1099511627775 = p ∧ 0 ≤ p ∧ p ≤ 1099511627775 := ⟨_, rfl, by rw [and_mask 40 (by decide) x _ (by decide)]; omega, by rw [and_mask 40 (by decide) x _ (by decide)]; omega⟩
  obtain ⟨q, hq, q0, q1⟩ : ∃ p, bits .and .i64 y 1099511627775 = p ∧ 0 ≤ p ∧ p ≤ 1099511627775 := ⟨_, rfl, by rw [and_mask 40 (by decide) y _ (by decide)]; omega, by rw [and_mask 40 (by decide) y _ (by decide)]; omega⟩
  obtain ⟨g, hg, g0, g1⟩ : ∃ p, bits .and .i64 gn 65535 = p ∧ 0 ≤ p ∧ p ≤ 65535 := ⟨_, rfl, by rw [and_mask 16 (by decide) gn _ (by decide)]; omega, by rw [and_mask 16 (by decide) gn _ (by decide)]; omega⟩
  obtain ⟨s, hs, s0, s1⟩ : ∃ s, wrap64 ((IntKind.u64.wrap sl).tmod 12) = s ∧ 0 ≤ s ∧ s < 12 := ⟨_, rfl, um_bd sl 12 (by decide) (by decide)⟩
  exact wordKinds_core p q s g (4 * p) (4 * q) (4 * (g * 16 + s) + 2) (4 * ((((g * 16 + s) * 16 + 0) * 4 + 0) * 1048576 + 0) + 1) x y sl gn w
    hp p0 p1 hq q0 q1 hg g0 g1 hs s0 (by omega) rfl rfl rfl rfl (by rw [and3]; omega) (by rw [and3]; omega) (by rw [and3]; omega)
    (by rw [bne_iff_ne]; omega) (by rw [bne_iff_ne]; omega) (by rw [bne_iff_ne]; omega) (by omega)
end Go.Proofs.Ytfmklmpbfahoeaa
