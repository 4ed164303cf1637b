/- contracts of package word's small functions. -/
import Derived.Test.YtfmklmpbfahoeaaRows
import Derived.WalkKit
import Derived.WalkSpells
import Derived.WalkLawsBesides
import Derived.BigQuiet
import Derived.Deep.QuietTactic
import Derived.Deep.RegionWith
namespace Go.Proofs.Ytfmklmpbfahoeaa
open Go.RowKit

set_option maxHeartbeats 400000 in
theorem num_any (a : Int) (w : World) :
    Calls Try.prog 12 #[.int .i64 a] w fun e w' => e = .returned (.int .i64 a) ∧ w = w' := by
  go_enter Try.func12, Try.ntmps12
  go_wp2
  go_ret
  exact ⟨rfl, rfl⟩

def within (x m : Int) : Bool := decide (0 ≤ x) && decide (x ≤ m)

set_option maxHeartbeats 400000 in
theorem within_any (x m : Int) (w : World) :
    Calls Try.prog 40 #[.int .i64 x, .int .i64 0, .int .i64 m] w fun e w' => e = .returned (.bool (within x m)) ∧ w = w' := by
  go_enter Try.func40, Try.ntmps40
  go_wp2
  all_goals go_ret
  · have h : 0 ≤ x := by assumption
    exact ⟨by simp [within, h], rfl⟩
  · have h : x < 0 := by assumption
    exact ⟨by simp [within]; omega, rfl⟩

set_option maxHeartbeats 400000 in
theorem vfits_any (x : Int) (w : World) :
    Calls Try.prog 38 #[.agg #[.int .i64 x]] w fun e w' => e = .returned (.bool (within x 1099511627775)) ∧ Below w.heap.size w w' := by
  go_enter Try.func38, Try.ntmps38
  go_wp2_with (go_at_call 40; refine (within_any _ _ _).mono ?_; rintro e w' ⟨rfl, rfl⟩)
  go_ret
  exact ⟨rfl, (Below.refl _ _).alloc (Nat.le_refl _) _⟩

set_option maxHeartbeats 400000 in
theorem vnum_any (x : Int) (w : World) :
    Calls Try.prog 39 #[.agg #[.int .i64 x]] w fun e w' => e = .returned (.int .i64 x) ∧ Below w.heap.size w w' := by
  go_enter Try.func39, Try.ntmps39
  go_wp2
  go_ret
  exact ⟨rfl, (Below.refl _ _).alloc (Nat.le_refl _) _⟩

theorem bcell {W w1 : World} (hb : Below W.heap.size W w1) : (∀ b o, b < W.heap.size → w1.cell? ⟨b, o, none⟩ = W.cell? ⟨b, o, none⟩) ∧ (∀ b o, b < W.heap.size → w1.frozen? ⟨b, o, none⟩ = W.frozen? ⟨b, o, none⟩) :=
  ⟨fun b o h => hb.cell (p := ⟨b, o, none⟩) h, fun b o h => hb.frozen (p := ⟨b, o, none⟩) h⟩

set_option maxHeartbeats 400000 in
theorem mfits_any (s g : Int) (w : World) :
    Calls Try.prog 41 #[.agg #[.int .i64 s, .int .i64 g]] w fun e w' => e = .returned (.bool (within s 11 && within g 65535)) ∧ Below w.heap.size w w' := by
  go_enter Try.func41, Try.ntmps41
  go_wp2_with (go_at_call 40; refine (within_any _ _ _).mono ?_; rintro e w' ⟨rfl, rfl⟩)
  all_goals go_ret
  all_goals exact ⟨by simp [*], (Below.refl _ _).alloc (Nat.le_refl _) _⟩

set_option maxHeartbeats 400000 in
theorem mnum_any (s g : Int) (w : World) (hs : 0 ≤ s) (hs2 : s ≤ 16) (hg : 0 ≤ g) (hg2 : g ≤ 65535) :
    Calls Try.prog 42 #[.agg #[.int .i64 s, .int .i64 g]] w fun e w' => e = .returned (.int .i64 (g * 16 + s)) ∧ Below w.heap.size w w' := by
  go_enter Try.func42, Try.ntmps42
  go_wp2
  go_ret
  exact ⟨rfl, (Below.refl _ _).alloc (Nat.le_refl _) _⟩

set_option maxHeartbeats 400000 in
theorem efits_any (s g e t q : Int) (w : World) :
    Calls Try.prog 43 #[.agg #[.int .i64 s, .int .i64 g, .int .i64 e, .int .i64 t, .int .i64 q]] w fun r w' => r = .returned (.bool (((((within s 11 && within g 65535) && within e 15) && within t 3) && within q 1048575))) ∧ Below w.heap.size w w' := by
  go_enter Try.func43, Try.ntmps43
  go_wp2_with (first | (go_at_call 40; refine (within_any _ _ _).mono ?_; rintro e w' ⟨rfl, rfl⟩) | (go_at_call 41; refine (mfits_any _ _ _).mono ?_; rintro e w' ⟨rfl, hb⟩; obtain ⟨hc, hf⟩ := bcell hb))
  all_goals go_ret
  all_goals exact ⟨by simp [*], (((Below.refl _ _).alloc (Nat.le_refl _) _).trans (hb.mono (by simp)))⟩

theorem partOf0 (v s g e t q : Int) (w : World) :
    Calls Try.prog 16 #[.agg #[.int .i64 0, .int .i64 v, .int .i64 s, .int .i64 g, .int .i64 e, .int .i64 t, .int .i64 q]] w fun r w' => r = .returned (.iface 50 (.agg #[.int .i64 v])) ∧ Below w.heap.size w w' := by
  go_enter Try.func16, Try.ntmps16
  go_wp2
  go_ret
  exact ⟨rfl, (Below.refl _ _).alloc (Nat.le_refl _) _⟩
theorem partOf2 (v s g e t q : Int) (w : World) :
    Calls Try.prog 16 #[.agg #[.int .i64 2, .int .i64 v, .int .i64 s, .int .i64 g, .int .i64 e, .int .i64 t, .int .i64 q]] w fun r w' => r = .returned (.iface 52 (.agg #[.int .i64 s, .int .i64 g])) ∧ Below w.heap.size w w' := by
  go_enter Try.func16, Try.ntmps16
  go_wp2
  go_ret
  exact ⟨rfl, (Below.refl _ _).alloc (Nat.le_refl _) _⟩
theorem partOf1 (v s g e t q : Int) (w : World) :
    Calls Try.prog 16 #[.agg #[.int .i64 1, .int .i64 v, .int .i64 s, .int .i64 g, .int .i64 e, .int .i64 t, .int .i64 q]] w fun r w' => r = .returned (.iface 54 (.agg #[.int .i64 s, .int .i64 g, .int .i64 e, .int .i64 t, .int .i64 q])) ∧ Below w.heap.size w w' := by
  go_enter Try.func16, Try.ntmps16
  go_wp2
  go_ret
  exact ⟨rfl, (Below.refl _ _).alloc (Nat.le_refl _) _⟩
theorem partOfN (k v s g e t q : Int) (w : World) (h0 : (k == 0) = false) (h1 : (k == 1) = false) (h2 : (k == 2) = false) :
    Calls Try.prog 16 #[.agg #[.int .i64 k, .int .i64 v, .int .i64 s, .int .i64 g, .int .i64 e, .int .i64 t, .int .i64 q]] w fun r w' => r = .returned .nilIface ∧ Below w.heap.size w w' := by
  go_enter Try.func16, Try.ntmps16
  go_wp2
  go_ret
  exact ⟨rfl, (Below.refl _ _).alloc (Nat.le_refl _) _⟩

abbrev vI (v : Int) : Value := .iface 50 (.agg #[.int .i64 v])
abbrev mI (s g : Int) : Value := .iface 52 (.agg #[.int .i64 s, .int .i64 g])
abbrev eI (s g e t q : Int) : Value := .iface 54 (.agg #[.int .i64 s, .int .i64 g, .int .i64 e, .int .i64 t, .int .i64 q])
abbrev wd (k v s g e t q : Int) : Value := .agg #[.int .i64 k, .int .i64 v, .int .i64 s, .int .i64 g, .int .i64 e, .int .i64 t, .int .i64 q]

theorem ta_v50 (v : Int) (w : World) : (Instr.typeAssert (.iface 50 (.agg #[.int .i64 v])) 44 50 true).run Try.prog w = .ok (.tuple #[.agg #[.int .i64 v], .bool true]) w := by kernel_rfl
theorem ta_m50 (s g : Int) (w : World) : (Instr.typeAssert (.iface 52 (.agg #[.int .i64 s, .int .i64 g])) 44 50 true).run Try.prog w = .ok (.tuple #[.agg #[.int .i64 0], .bool false]) w := by kernel_rfl
theorem ta_m52 (s g : Int) (w : World) : (Instr.typeAssert (.iface 52 (.agg #[.int .i64 s, .int .i64 g])) 44 52 true).run Try.prog w = .ok (.tuple #[.agg #[.int .i64 s, .int .i64 g], .bool true]) w := by kernel_rfl
theorem ta_e50 (s g e t q : Int) (w : World) : (Instr.typeAssert (.iface 54 (.agg #[.int .i64 s, .int .i64 g, .int .i64 e, .int .i64 t, .int .i64 q])) 44 50 true).run Try.prog w = .ok (.tuple #[.agg #[.int .i64 0], .bool false]) w := by kernel_rfl
theorem ta_e52 (s g e t q : Int) (w : World) : (Instr.typeAssert (.iface 54 (.agg #[.int .i64 s, .int .i64 g, .int .i64 e, .int .i64 t, .int .i64 q])) 44 52 true).run Try.prog w = .ok (.tuple #[.agg #[.int .i64 0, .int .i64 0], .bool false]) w := by kernel_rfl
theorem ta_e54 (s g e t q : Int) (w : World) : (Instr.typeAssert (.iface 54 (.agg #[.int .i64 s, .int .i64 g, .int .i64 e, .int .i64 t, .int .i64 q])) 44 54 true).run Try.prog w = .ok (.tuple #[.agg #[.int .i64 s, .int .i64 g, .int .i64 e, .int .i64 t, .int .i64 q], .bool true]) w := by kernel_rfl

theorem wordOf0 (v : Int) (w : World) :
    Calls Try.prog 18 #[vI v] w fun r w' => r = .returned (wd 0 v 0 0 0 0 0) ∧ Below w.heap.size w w' := by
  have ha := ta_v50 v
  go_enter Try.func18, Try.ntmps18
  go_wp2
  exact bodyPost_ret (v := wd 0 v 0 0 0 0 0) (by simp [results, Try.results18, go_sem]) rfl ⟨rfl, by
    repeat (first | exact Below.refl _ _ | refine Below.alloc ?_ (by simp <;> omega) _ | refine Below.setCell ?_ (by simp <;> omega) _)⟩

theorem wordOf2 (s g : Int) (w : World) :
    Calls Try.prog 18 #[mI s g] w fun r w' => r = .returned (wd 2 0 s g 0 0 0) ∧ Below w.heap.size w w' := by
  have ha := ta_m50 s g
  have hb := ta_m52 s g
  go_enter Try.func18, Try.ntmps18
  go_wp2
  exact bodyPost_ret (v := wd 2 0 s g 0 0 0) (by simp [results, Try.results18, go_sem]) rfl ⟨rfl, by
    repeat (first | exact Below.refl _ _ | refine Below.alloc ?_ (by simp <;> omega) _ | refine Below.setCell ?_ (by simp <;> omega) _)⟩

theorem wordOf1 (s g e t q : Int) (w : World) :
    Calls Try.prog 18 #[eI s g e t q] w fun r w' => r = .returned (wd 1 0 s g e t q) ∧ Below w.heap.size w w' := by
  have ha := ta_e50 s g e t q
  have hb := ta_e52 s g e t q
  have hc := ta_e54 s g e t q
  go_enter Try.func18, Try.ntmps18
  go_wp2
  exact bodyPost_ret (v := wd 1 0 s g e t q) (by simp [results, Try.results18, go_sem]) rfl ⟨rfl, by
    repeat (first | exact Below.refl _ _ | refine Below.alloc ?_ (by simp <;> omega) _ | refine Below.setCell ?_ (by simp <;> omega) _)⟩

theorem splitM (n : Int) (w : World) (h : 0 ≤ n) (h2 : n ≤ 9223372036854775807) :
    Calls Try.prog 20 #[.int .i64 n] w fun r w' => r = .returned (.agg #[.int .i64 (n % 16), .int .i64 (n / 16)]) ∧ Below w.heap.size w w' := by
  go_enter Try.func20, Try.ntmps20
  go_wp2
  exact bodyPost_ret (v := .agg #[.int .i64 (n % 16), .int .i64 (n / 16)]) (by simp [results, Try.results20, go_sem]) rfl ⟨rfl, by
    repeat (first | exact Below.refl _ _ | refine Below.alloc ?_ (by simp <;> omega) _ | refine Below.setCell ?_ (by simp <;> omega) _)⟩

theorem splitE (n : Int) (w : World) (h : 0 ≤ n) (h2 : n ≤ 9223372036854775807) :
    Calls Try.prog 21 #[.int .i64 n] w fun r w' => r = .returned (.agg #[.int .i64 (n / 1048576 / 4 / 16 % 16), .int .i64 (n / 1048576 / 4 / 16 / 16), .int .i64 (n / 1048576 / 4 % 16), .int .i64 (n / 1048576 % 4), .int .i64 (n % 1048576)]) ∧ Below w.heap.size w w' := by
  go_enter Try.func21, Try.ntmps21
  go_wp2_with (go_at_call 20; refine (splitM _ _ (by omega) (by omega)).mono ?_; rintro e w' ⟨rfl, hb⟩; obtain ⟨hc, hf⟩ := bcell hb)
  have hz : w.heap.size + 1 ≤ w'.heap.size := by have := hb.size; simp at this; omega
  have hbw : Below w.heap.size w w' := ((Below.refl _ _).alloc (Nat.le_refl _) _).trans (hb.mono (by simp))
  exact bodyPost_ret (v := .agg #[.int .i64 (n / 1048576 / 4 / 16 % 16), .int .i64 (n / 1048576 / 4 / 16 / 16), .int .i64 (n / 1048576 / 4 % 16), .int .i64 (n / 1048576 % 4), .int .i64 (n % 1048576)]) (by simp [results, Try.results21, go_sem, hc]) rfl ⟨rfl, by
    repeat (first | exact hbw | refine Below.setCell ?_ (by simp <;> omega) _)⟩
end Go.Proofs.Ytfmklmpbfahoeaa
