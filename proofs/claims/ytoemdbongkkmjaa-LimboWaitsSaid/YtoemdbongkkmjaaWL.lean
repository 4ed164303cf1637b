/- LimboWaits: its loop. -/
import Derived.Test.YtoemdbongkkmjaaWRa
import Derived.Test.YtoemdbongkkmjaaWRb
import Derived.Test.YtoemdbongkkmjaaWRc
import Derived.Test.YtoemdbongkkmjaaWRd
import Derived.Test.YtoemdbongkkmjaaWRe
import Derived.Test.YtoemdbongkkmjaaWRf
import Derived.Test.YtoemdbongkkmjaaD
namespace Go.Proofs.Ytoemdbongkkmjaa
open Go.Sx Go Go.LimboNum Go.ChangeShapes Go.WideShapes Go.ChangeAt Go.RowKit Go.Deep Go.LimboWait
set_option maxRecDepth 100000
theorem wl0 : okLast 0 = true := by kernel_rfl
theorem wl1 : okLast 1 = true := by kernel_rfl
theorem wl2 : okLast 2 = true := by kernel_rfl
theorem wl3 : okLast 3 = true := by kernel_rfl
theorem wl4 : okLast 4 = true := by kernel_rfl
theorem wl5 : okLast 5 = true := by kernel_rfl
theorem wl6 : okLast 6 = true := by kernel_rfl
theorem wl7 : okLast 7 = true := by kernel_rfl
theorem wl8 : okLast 8 = true := by kernel_rfl
theorem wl9 : okLast 9 = true := by kernel_rfl
theorem wl10 : okLast 10 = true := by kernel_rfl
theorem wl11 : okLast 11 = true := by kernel_rfl
theorem wl12 : okLast 12 = true := by kernel_rfl
theorem all0b {k : Nat} (hk : k ≤ 0) : okWt 0 false k = true := by
 rcases (by omega : k = 0) with rfl
 ·exact w0b0
theorem all0a {k : Nat} (hk : k ≤ 0) : okWt 0 true k = true := by
 rcases (by omega : k = 0) with rfl
 ·exact w0a0
theorem all1b {k : Nat} (hk : k ≤ 1) : okWt 1 false k = true := by
 rcases (by omega : k = 0 ∨ k = 1) with rfl | rfl
 ·exact w1b0
 ·exact w1b1
theorem all1a {k : Nat} (hk : k ≤ 1) : okWt 1 true k = true := by
 rcases (by omega : k = 0 ∨ k = 1) with rfl | rfl
 ·exact w1a0
 ·exact w1a1
theorem all2b {k : Nat} (hk : k ≤ 2) : okWt 2 false k = true := by
 rcases (by omega : k = 0 ∨ k = 1 ∨ k = 2) with rfl | rfl | rfl
 ·exact w2b0
 ·exact w2b1
 ·exact w2b2
theorem all2a {k : Nat} (hk : k ≤ 2) : okWt 2 true k = true := by
 rcases (by omega : k = 0 ∨ k = 1 ∨ k = 2) with rfl | rfl | rfl
 ·exact w2a0
 ·exact w2a1
 ·exact w2a2
theorem all3b {k : Nat} (hk : k ≤ 3) : okWt 3 false k = true := by
 rcases (by omega : k = 0 ∨ k = 1 ∨ k = 2 ∨ k = 3) with rfl | rfl | rfl | rfl
 ·exact w3b0
 ·exact w3b1
 ·exact w3b2
 ·exact w3b3
theorem all3a {k : Nat} (hk : k ≤ 3) : okWt 3 true k = true := by
 rcases (by omega : k = 0 ∨ k = 1 ∨ k = 2 ∨ k = 3) with rfl | rfl | rfl | rfl
 ·exact w3a0
 ·exact w3a1
 ·exact w3a2
 ·exact w3a3
theorem all4b {k : Nat} (hk : k ≤ 4) : okWt 4 false k = true := by
 rcases (by omega : k = 0 ∨ k = 1 ∨ k = 2 ∨ k = 3 ∨ k = 4) with rfl | rfl | rfl | rfl | rfl
 ·exact w4b0
 ·exact w4b1
 ·exact w4b2
 ·exact w4b3
 ·exact w4b4
theorem all4a {k : Nat} (hk : k ≤ 4) : okWt 4 true k = true := by
 rcases (by omega : k = 0 ∨ k = 1 ∨ k = 2 ∨ k = 3 ∨ k = 4) with rfl | rfl | rfl | rfl | rfl
 ·exact w4a0
 ·exact w4a1
 ·exact w4a2
 ·exact w4a3
 ·exact w4a4
theorem all5b {k : Nat} (hk : k ≤ 5) : okWt 5 false k = true := by
 rcases (by omega : k = 0 ∨ k = 1 ∨ k = 2 ∨ k = 3 ∨ k = 4 ∨ k = 5) with rfl | rfl | rfl | rfl | rfl | rfl
 ·exact w5b0
 ·exact w5b1
 ·exact w5b2
 ·exact w5b3
 ·exact w5b4
 ·exact w5b5
theorem all5a {k : Nat} (hk : k ≤ 5) : okWt 5 true k = true := by
 rcases (by omega : k = 0 ∨ k = 1 ∨ k = 2 ∨ k = 3 ∨ k = 4 ∨ k = 5) with rfl | rfl | rfl | rfl | rfl | rfl
 ·exact w5a0
 ·exact w5a1
 ·exact w5a2
 ·exact w5a3
 ·exact w5a4
 ·exact w5a5
theorem all6b {k : Nat} (hk : k ≤ 6) : okWt 6 false k = true := by
 rcases (by omega : k = 0 ∨ k = 1 ∨ k = 2 ∨ k = 3 ∨ k = 4 ∨ k = 5 ∨ k = 6) with rfl | rfl | rfl | rfl | rfl | rfl | rfl
 ·exact w6b0
 ·exact w6b1
 ·exact w6b2
 ·exact w6b3
 ·exact w6b4
 ·exact w6b5
 ·exact w6b6
theorem all6a {k : Nat} (hk : k ≤ 6) : okWt 6 true k = true := by
 rcases (by omega : k = 0 ∨ k = 1 ∨ k = 2 ∨ k = 3 ∨ k = 4 ∨ k = 5 ∨ k = 6) with rfl | rfl | rfl | rfl | rfl | rfl | rfl
 ·exact w6a0
 ·exact w6a1
 ·exact w6a2
 ·exact w6a3
 ·exact w6a4
 ·exact w6a5
 ·exact w6a6
theorem all7b {k : Nat} (hk : k ≤ 7) : okWt 7 false k = true := by
 rcases (by omega : k = 0 ∨ k = 1 ∨ k = 2 ∨ k = 3 ∨ k = 4 ∨ k = 5 ∨ k = 6 ∨ k = 7) with rfl | rfl | rfl | rfl | rfl | rfl | rfl | rfl
 ·exact w7b0
 ·exact w7b1
 ·exact w7b2
 ·exact w7b3
 ·exact w7b4
 ·exact w7b5
 ·exact w7b6
 ·exact w7b7
theorem all7a {k : Nat} (hk : k ≤ 7) : okWt 7 true k = true := by
 rcases (by omega : k = 0 ∨ k = 1 ∨ k = 2 ∨ k = 3 ∨ k = 4 ∨ k = 5 ∨ k = 6 ∨ k = 7) with rfl | rfl | rfl | rfl | rfl | rfl | rfl | rfl
 ·exact w7a0
 ·exact w7a1
 ·exact w7a2
 ·exact w7a3
 ·exact w7a4
 ·exact w7a5
 ·exact w7a6
 ·exact w7a7
theorem all8b {k : Nat} (hk : k ≤ 8) : okWt 8 false k = true := by
 rcases (by omega : k = 0 ∨ k = 1 ∨ k = 2 ∨ k = 3 ∨ k = 4 ∨ k = 5 ∨ k = 6 ∨ k = 7 ∨ k = 8) with rfl | rfl | rfl | rfl | rfl | rfl | rfl | rfl | rfl
 ·exact w8b0
 ·exact w8b1
 ·exact w8b2
 ·exact w8b3
 ·exact w8b4
 ·exact w8b5
 ·exact w8b6
 ·exact w8b7
 ·exact w8b8
theorem all8a {k : Nat} (hk : k ≤ 8) : okWt 8 true k = true := by
 rcases (by omega : k = 0 ∨ k = 1 ∨ k = 2 ∨ k = 3 ∨ k = 4 ∨ k = 5 ∨ k = 6 ∨ k = 7 ∨ k = 8) with rfl | rfl | rfl | rfl | rfl | rfl | rfl | rfl | rfl
 ·exact w8a0
 ·exact w8a1
 ·exact w8a2
 ·exact w8a3
 ·exact w8a4
 ·exact w8a5
 ·exact w8a6
 ·exact w8a7
 ·exact w8a8
theorem all9b {k : Nat} (hk : k ≤ 9) : okWt 9 false k = true := by
 rcases (by omega : k = 0 ∨ k = 1 ∨ k = 2 ∨ k = 3 ∨ k = 4 ∨ k = 5 ∨ k = 6 ∨ k = 7 ∨ k = 8 ∨ k = 9) with rfl | rfl | rfl | rfl | rfl | rfl | rfl | rfl | rfl | rfl
 ·exact w9b0
 ·exact w9b1
 ·exact w9b2
 ·exact w9b3
 ·exact w9b4
 ·exact w9b5
 ·exact w9b6
 ·exact w9b7
 ·exact w9b8
 ·exact w9b9
theorem all9a {k : Nat} (hk : k ≤ 9) : okWt 9 true k = true := by
 rcases (by omega : k = 0 ∨ k = 1 ∨ k = 2 ∨ k = 3 ∨ k = 4 ∨ k = 5 ∨ k = 6 ∨ k = 7 ∨ k = 8 ∨ k = 9) with rfl | rfl | rfl | rfl | rfl | rfl | rfl | rfl | rfl | rfl
 ·exact w9a0
 ·exact w9a1
 ·exact w9a2
 ·exact w9a3
 ·exact w9a4
 ·exact w9a5
 ·exact w9a6
 ·exact w9a7
 ·exact w9a8
 ·exact w9a9
theorem all10b {k : Nat} (hk : k ≤ 10) : okWt 10 false k = true := by
 rcases (by omega : k = 0 ∨ k = 1 ∨ k = 2 ∨ k = 3 ∨ k = 4 ∨ k = 5 ∨ k = 6 ∨ k = 7 ∨ k = 8 ∨ k = 9 ∨ k = 10) with rfl | rfl | rfl | rfl | rfl | rfl | rfl | rfl | rfl | rfl | rfl
 ·exact w10b0
 ·exact w10b1
 ·exact w10b2
 ·exact w10b3
 ·exact w10b4
 ·exact w10b5
 ·exact w10b6
 ·exact w10b7
 ·exact w10b8
 ·exact w10b9
 ·exact w10b10
theorem all10a {k : Nat} (hk : k ≤ 10) : okWt 10 true k = true := by
 rcases (by omega : k = 0 ∨ k = 1 ∨ k = 2 ∨ k = 3 ∨ k = 4 ∨ k = 5 ∨ k = 6 ∨ k = 7 ∨ k = 8 ∨ k = 9 ∨ k = 10) with rfl | rfl | rfl | rfl | rfl | rfl | rfl | rfl | rfl | rfl | rfl
 ·exact w10a0
 ·exact w10a1
 ·exact w10a2
 ·exact w10a3
 ·exact w10a4
 ·exact w10a5
 ·exact w10a6
 ·exact w10a7
 ·exact w10a8
 ·exact w10a9
 ·exact w10a10
theorem all11b {k : Nat} (hk : k ≤ 11) : okWt 11 false k = true := by
 rcases (by omega : k = 0 ∨ k = 1 ∨ k = 2 ∨ k = 3 ∨ k = 4 ∨ k = 5 ∨ k = 6 ∨ k = 7 ∨ k = 8 ∨ k = 9 ∨ k = 10 ∨ k = 11) with rfl | rfl | rfl | rfl | rfl | rfl | rfl | rfl | rfl | rfl | rfl | rfl
 ·exact w11b0
 ·exact w11b1
 ·exact w11b2
 ·exact w11b3
 ·exact w11b4
 ·exact w11b5
 ·exact w11b6
 ·exact w11b7
 ·exact w11b8
 ·exact w11b9
 ·exact w11b10
 ·exact w11b11
theorem all11a {k : Nat} (hk : k ≤ 11) : okWt 11 true k = true := by
 rcases (by omega : k = 0 ∨ k = 1 ∨ k = 2 ∨ k = 3 ∨ k = 4 ∨ k = 5 ∨ k = 6 ∨ k = 7 ∨ k = 8 ∨ k = 9 ∨ k = 10 ∨ k = 11) with rfl | rfl | rfl | rfl | rfl | rfl | rfl | rfl | rfl | rfl | rfl | rfl
 ·exact w11a0
 ·exact w11a1
 ·exact w11a2
 ·exact w11a3
 ·exact w11a4
 ·exact w11a5
 ·exact w11a6
 ·exact w11a7
 ·exact w11a8
 ·exact w11a9
 ·exact w11a10
 ·exact w11a11
theorem all12b {k : Nat} (hk : k ≤ 12) : okWt 12 false k = true := by
 rcases (by omega : k = 0 ∨ k = 1 ∨ k = 2 ∨ k = 3 ∨ k = 4 ∨ k = 5 ∨ k = 6 ∨ k = 7 ∨ k = 8 ∨ k = 9 ∨ k = 10 ∨ k = 11 ∨ k = 12) with rfl | rfl | rfl | rfl | rfl | rfl | rfl | rfl | rfl | rfl | rfl | rfl | rfl
 ·exact w12b0
 ·exact w12b1
 ·exact w12b2
 ·exact w12b3
 ·exact w12b4
 ·exact w12b5
 ·exact w12b6
 ·exact w12b7
 ·exact w12b8
 ·exact w12b9
 ·exact w12b10
 ·exact w12b11
 ·exact w12b12
theorem all_last {n : Nat} (hn : n ≤ 12) : okLast n = true := by
 rcases (by omega : n = 0 ∨ n = 1 ∨ n = 2 ∨ n = 3 ∨ n = 4 ∨ n = 5 ∨ n = 6 ∨ n = 7 ∨ n = 8 ∨ n = 9 ∨ n = 10 ∨ n = 11 ∨ n = 12) with rfl | rfl | rfl | rfl | rfl | rfl | rfl | rfl | rfl | rfl | rfl | rfl | rfl
 ·exact wl0
 ·exact wl1
 ·exact wl2
 ·exact wl3
 ·exact wl4
 ·exact wl5
 ·exact wl6
 ·exact wl7
 ·exact wl8
 ·exact wl9
 ·exact wl10
 ·exact wl11
 ·exact wl12
theorem all_b {n k : Nat} (hn : n ≤ 12) (hk : k ≤ n) : okWt n false k = true := by
 rcases (by omega : n = 0 ∨ n = 1 ∨ n = 2 ∨ n = 3 ∨ n = 4 ∨ n = 5 ∨ n = 6 ∨ n = 7 ∨ n = 8 ∨ n = 9 ∨ n = 10 ∨ n = 11 ∨ n = 12) with rfl | rfl | rfl | rfl | rfl | rfl | rfl | rfl | rfl | rfl | rfl | rfl | rfl
 ·exact all0b hk
 ·exact all1b hk
 ·exact all2b hk
 ·exact all3b hk
 ·exact all4b hk
 ·exact all5b hk
 ·exact all6b hk
 ·exact all7b hk
 ·exact all8b hk
 ·exact all9b hk
 ·exact all10b hk
 ·exact all11b hk
 ·exact all12b hk
theorem all_a {n k : Nat} (hn : n < 12) (hk : k ≤ n) : okWt n true k = true := by
 rcases (by omega : n = 0 ∨ n = 1 ∨ n = 2 ∨ n = 3 ∨ n = 4 ∨ n = 5 ∨ n = 6 ∨ n = 7 ∨ n = 8 ∨ n = 9 ∨ n = 10 ∨ n = 11) with rfl | rfl | rfl | rfl | rfl | rfl | rfl | rfl | rfl | rfl | rfl | rfl
 ·exact all0a hk
 ·exact all1a hk
 ·exact all2a hk
 ·exact all3a hk
 ·exact all4a hk
 ·exact all5a hk
 ·exact all6a hk
 ·exact all7a hk
 ·exact all8a hk
 ·exact all9a hk
 ·exact all10a hk
 ·exact all11a hk
noncomputable def casesWt (n : Nat) : List (List Fact × List BE) := lastWt :: ((List.range (n + 1)).map (caseWt n false) ++ cond (Nat.blt n 12) ((List.range (n + 1)).map (caseWt n true)) [])
theorem cover_facts {E : Env} {n k : Nat} {u : Int} (hW : Wt n (E.i 165) (sV E) (eV E) (SV' E)) (ht : E.i 165 ≤ 60) (hu : ev E atE = u) (hu1 : u ≤ 61) (hu2 : E.i 165 ≤ u) (h1 : ∀ a, a < k → 3 ≤ u - eV E a) (h2 : ∀ a, k ≤ a → a < n → u - eV E a ≤ 2) : ∀ f ∈ (List.range n).flatMap (factWt k), FactOk E f := fun f hf => by
 obtain ⟨a, ha, hf⟩ := List.mem_flatMap.1 hf
 have ha := List.mem_range.1 ha
 have q1 := hW.slot a ha
 have q2 := hW.since a ha
 have q3 := hW.ep a ha
 have es : ev E (sJ a) = sV E a := rfl
 have ee : ev E (eJ a) = eV E a := rfl
 have el : ev E (.sel 105 (sJ a)) = eV E a := by
  rw [ev_sel, es]
  exact q2
 unfold factWt at hf
 rcases List.mem_append.1 hf with hf | hf
 ·simp only [List.mem_cons, List.not_mem_nil, or_false] at hf
  unfold FactOk
  rcases hf with rfl | rfl | rfl
  ·dsimp only; rw [es]; exact q1
  ·dsimp only; rw [ee]; omega
  ·dsimp only; rw [el]; omega
 ·cases hb : Nat.blt a k with
  | true =>
   rw [hb] at hf
   have hak : a < k := by simpa [Nat.blt_eq] using hb
   have := h1 a hak
   simp only [cond, List.mem_cons, List.not_mem_nil, or_false] at hf
   unfold FactOk
   rcases hf with rfl | rfl
   ·dsimp only; rw [ev_sub, ee, hu]; omega
   ·dsimp only; rw [ev_sub, el, hu]; omega
  | false =>
   rw [hb] at hf
   have hak : ¬ a < k := by
    intro h
    have : Nat.blt a k = true := by simpa [Nat.blt_eq] using h
    rw [this] at hb
    cases hb
   have := h2 a (by omega) ha
   simp only [cond, List.mem_cons, List.not_mem_nil, or_false] at hf
   subst hf
   unfold FactOk
   dsimp only
   rw [ev_sub, ee, hu]
   omega
theorem cover_apart {E : Env} {n : Nat} (hW : Wt n (E.i 165) (sV E) (eV E) (SV' E)) : ∀ c ∈ apartWt n, evB E c = true := fun c hc => by
 unfold apartWt at hc
 obtain ⟨b, hb, hc⟩ := List.mem_flatMap.1 hc
 obtain ⟨a, ha, rfl⟩ := List.mem_map.1 hc
 have := hW.apart a b (List.mem_range.1 ha) (List.mem_range.1 hb)
 show (!decide (sV E a = sV E b)) = true
 rw [decide_eq_false this]
 rfl
theorem coverWt {E : Env} {n : Nat} (hn : n ≤ 12) (hE : E.Ok) (hf : ∀ f ∈ (headWt n).mem.know.facts, FactOk E f) (hw : Waits ((sysWt n).map (ev E))) : ∃ c ∈ casesWt n, (∀ f ∈ c.1, FactOk E f) ∧ ∀ b ∈ c.2, evB E b = true := by
 have hi : 0 ≤ E.i 160 ∧ E.i 160 ≤ 60 := hf (iJ, 0, 60) (by simp [headWt])
 have ht : 0 ≤ E.i 165 ∧ E.i 165 ≤ 60 := hf (tJ, 0, 60) (by simp [headWt])
 have hit : 0 ≤ ev E (minus iJ tJ) ∧ ev E (minus iJ tJ) ≤ 60 := hf (minus iJ tJ, 0, 60) (by simp [headWt])
 have hit : 0 ≤ E.i 160 - E.i 165 := by
  have e : ev E (minus iJ tJ) = E.i 160 + E.i 165 * (-1) := rfl
  rw [e] at hit
  omega
 rw [ev_sys, waits_lay hn] at hw
 by_cases h60 : E.i 160 = 60
 ·refine ⟨lastWt, List.mem_cons_self, fun f hf => ?_, fun _ h => (by cases h)⟩
  rcases List.mem_singleton.1 hf with rfl
  show 60 ≤ E.i 160 ∧ E.i 160 ≤ 60
  omega
 have hbit : 0 ≤ ev E bitJ ∧ ev E bitJ ≤ 1 := by
  unfold bitJ
  rw [ev_bit, ev_lit]
  exact and_in .i64 _ 1 (by decide) (by decide)
 have hu : ev E atE = E.i 165 + ev E bitJ := rfl
 have hx : 0 ≤ ev E sE ∧ ev E sE ≤ 11 := by
  have h := rng_ok hE (fs := []) (fun _ h => (by cases h)) sE
  rw [show rng [] sE = (0, 11) by kernel_rfl] at h
  exact h
 obtain ⟨k, hk, h1, h2⟩ := hw.ripe (ev E atE)
 have hfa := cover_facts hw ht.2 rfl (by omega) (by omega) h1 h2
 have hap := cover_apart hw
 have h64 := row_ok hE 105 (ev E sE).toNat
 unfold in64 at h64
 have hsel : ev E (.sel 105 sE) = SV' E (ev E sE).toNat := ev_sel ..
 have hsv : SV' E (ev E sE).toNat = (E.row 105).getD (ev E sE).toNat 0 := rfl
 have base : ∀ lo hi : Int, lo ≤ SV' E (ev E sE).toNat → SV' E (ev E sE).toNat ≤ hi → ∀ f ∈ (iJ, (0 : Int), (59 : Int)) :: (atE, (0 : Int), (60 : Int)) :: (IE.sel 105 sE, lo, hi) :: (List.range n).flatMap (factWt k), FactOk E f := fun lo hi g1 g2 f hf => by
  rcases List.mem_cons.1 hf with rfl | hf
  ·show 0 ≤ E.i 160 ∧ E.i 160 ≤ 59
   omega
  rcases List.mem_cons.1 hf with rfl | hf
  ·show 0 ≤ ev E atE ∧ ev E atE ≤ 60
   omega
  rcases List.mem_cons.1 hf with rfl | hf
  ·show lo ≤ ev E (.sel 105 sE) ∧ ev E (.sel 105 sE) ≤ hi
   rw [hsel]
   exact ⟨g1, g2⟩
  ·exact hfa f hf
 by_cases hneg : SV' E (ev E sE).toNat < 0
 ·have hroom := hw.room hn hx hneg
  have hb : Nat.blt n 12 = true := by simpa [Nat.blt_eq] using hroom
  refine ⟨caseWt n true k, ?_, base lo64 (-1) (by rw [hsv]; exact h64.1) (by omega), fun c hc => ?_⟩
  ·unfold casesWt
   rw [hb]
   exact List.mem_cons_of_mem _ (List.mem_append_right _ (List.mem_map.2 ⟨k, List.mem_range.2 (by omega), rfl⟩))
  ·rcases List.mem_append.1 hc with hc | hc
   ·obtain ⟨a, ha, rfl⟩ := List.mem_map.1 hc
    have ha := List.mem_range.1 ha
    show (!decide (ev E sE = sV E a)) = true
    rw [decide_eq_false (fun e => by
     have q2 := hw.since a ha
     have q3 := hw.ep a ha
     rw [← e] at q2
     omega)]
    rfl
   ·exact hap c hc
 ·refine ⟨caseWt n false k, ?_, base 0 hi64 (by omega) (by rw [hsv]; exact h64.2), fun c hc => ?_⟩
  ·unfold casesWt
   exact List.mem_cons_of_mem _ (List.mem_append_left _ (List.mem_map.2 ⟨k, List.mem_range.2 (by omega), rfl⟩))
  ·rcases List.mem_append.1 hc with hc | hc
   ·cases hc
   ·exact hap c hc
noncomputable def loopWt : Fr → X (SX × Fr) := liftB 100 (loopJ (JW GZ) 100 headsWt leavesWt)
theorem loopWt_ok : LxOk GZ Try.prog (4, 2, loopWt) := lx_ok Try.func4 (c := bodyOf Try.f4) rfl (b := bodyWt) (by kernel_rfl) (liftB_ok (loopJ_ok (JW GZ) (T := tabJ []) (cx := cxB) cxB_ok (jm := none) (fuel := 400) (noBlocks_ok _ _) (fun h hh => by
 unfold headsWt at hh
 obtain ⟨n, hn, rfl⟩ := List.mem_map.1 hh
 have hn : n ≤ 12 := by have := List.mem_range.1 hn; omega
 refine ⟨casesWt n, fun E _ hE hf hw => coverWt hn hE hf hw, fun c hc => ?_⟩
 unfold casesWt at hc
 rcases List.mem_cons.1 hc with rfl | hc
 ·exact all_last hn
 rcases List.mem_append.1 hc with hc | hc
 ·obtain ⟨k, hk, rfl⟩ := List.mem_map.1 hc
  exact all_b hn (by have := List.mem_range.1 hk; omega)
 ·cases hb : Nat.blt n 12 with
  | false => rw [hb] at hc; cases hc
  | true =>
   rw [hb] at hc
   obtain ⟨k, hk, rfl⟩ := List.mem_map.1 hc
   exact all_a (by simpa [Nat.blt_eq] using hb) (by have := List.mem_range.1 hk; omega))))
noncomputable def funWt : List SV → X SV := callF (tabJ []) (spOf spB) (bxOf [(4, 2, loopWt)]) 400 12 4
theorem funWt_ok : SpecOk GZ Try.prog 4 funWt := callF_ok (spOf_ok okSpB) (bxOf_ok (by
 intro y hy
 rcases List.mem_singleton.1 hy with rfl
 exact loopWt_ok)) 400 12 4
theorem wtRun : allOf (funWt [slW 10] (slMem [enW 10] (faW 10) 60)) isTrue = true := by kernel_rfl
theorem wtNil : allOf (funB spB 4 [.nils] (slMem [] [] 60)) isTrue = true := by kernel_rfl
end Go.Proofs.Ytoemdbongkkmjaa
