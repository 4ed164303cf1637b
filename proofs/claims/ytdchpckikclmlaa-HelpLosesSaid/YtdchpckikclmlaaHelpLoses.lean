/- The law HelpLoses: for every input the call returns true, and each argument reads afterwards as it read before; no condition. -/
import Derived.Test.YtdchpckikclmlaaHL0
import Derived.Test.YtdchpckikclmlaaHL1
import Derived.Test.YtdchpckikclmlaaHL2
import Derived.Test.YtdchpckikclmlaaHL3
import Derived.Test.YtdchpckikclmlaaHL4
import Derived.Test.YtdchpckikclmlaaSQ
import Derived.Test.YtdchpckikclmlaaD
namespace Go.Proofs.Ytdchpckikclmlaa
open Go.Sx Go Go.ChangeShapes Go.WideShapes Go.ChangeAt Go.RowKit Go.Deep
set_option maxRecDepth 100000
theorem helpLoses_walk {w : World} {r : Reach} {b0 : Nat} {v0 v1 v2 : Value} {H : Type} {enc : TypeId × Value → H} {base : Nat} {spare : Nat → Bool} {held : Bool} {d0 d1 d2 : DataW H} {p0 p1 p2 : List MemPlace}
  (k0 : Value.okWide Try.prog w r b0 23 v0) (h0 : DataW.Trod enc Try.prog w base spare held 23 v0 d0 p0)
  (k1 : Value.okWide Try.prog w r b0 3 v1) (h1 : DataW.Trod enc Try.prog w base spare held 3 v1 d1 p1)
  (k2 : Value.okWide Try.prog w r b0 3 v2) (h2 : DataW.Trod enc Try.prog w base spare held 3 v2 d2 p2) :
  Calls Try.prog 10 #[v0, v1, v2] w fun r w' => r = .returned (.bool true) ∧ Below w.heap.size w w' := by
 obtain ⟨x1, rfl, _, _, w1⟩ := open_int Try.underlying3 k1 h1
 obtain ⟨x2, rfl, _, _, w2⟩ := open_int Try.underlying3 k2 h2
 rcases open_ss k0 h0 with rfl | ⟨b1, o1, len, cap, zs, hs⟩
 ·have hE : (envL w [] [(1, [x1]), (2, [x2])] [] []).Ok := envL_ok none_in (one_in (i64_bd w1) (one_in (i64_bd w2) none_in))
  exact law_ok (funL_ok shAll) hl0f (E := envL w [] [(1, [x1]), (2, [x2])] [] []) (w := w) rfl (slMem_ok (ents := []) (fs := []) 60 hE rfl rfl (fun _ h => (by cases h)) (fun _ h => (by cases h)))
 let E := envL w [(14, zs)] ((1, [x1]) :: (2, [x2]) :: (11, [0]) :: (12, [(len : Int)]) :: (13, [(cap : Int)]) :: []) [(10, b1)] [(10, o1)]
 have hE : E.Ok := envL_ok (row_in hs.nums none_in) (one_in (i64_bd w1) (one_in (i64_bd w2) (one_in zero_in (one_in (len_in (Nat.le_trans hs.room hs.max)) (one_in (len_in hs.max) none_in)))))
 have hN : (SlArg.mk 10 11 12 13 14 3 b1 o1 len cap zs).Named E := ⟨rfl, rfl, rfl, rfl, rfl, rfl, (by show (14 : Nat) ≠ 0; decide)⟩
 have hh := holds_of hs 10 11 12 13 14
 have hv : dv E (sl3 10) = v0 := by rw [hs.val]; exact SlArg.val hN
 have hen : ∀ e ∈ [en3 10], e.ro = true ∧ EntOk E w e := fun e he => by
  rcases List.mem_singleton.1 he with rfl
  exact ⟨rfl, SlArg.ent hN hh⟩
 have hfa : ∀ n h : Int, n ≤ len → (len : Int) ≤ h → ∀ f ∈ fa3u 10 n h, FactOk E f := fun n h h1 h2 f hf => by
  unfold fa3u at hf
  rcases List.mem_cons.1 hf with rfl | hf
  ·have e2 : ev E (.var 12) = (len : Int) := hN.ln
   show n ≤ ev E (.var 12) ∧ ev E (.var 12) ≤ h
   omega
  ·exact SlArg.facts hN hh (le_hi hh.room hh.max) f hf
 have hlen : (len : Int) ≤ hi64 := le_hi hs.room hs.max
 rw [← hv]
 have fin : ∀ n k : Int, n ≤ len → (len : Int) ≤ (cond (decide (n = 8)) hi64 n) → ev E (.rem (.wrap .u64 (.var 1)) (.lit n)) = k → okL n k = true → Calls Try.prog 10 #[dv E (sl3 10), .int .i64 x1, .int .i64 x2] w fun r w' => r = .returned (.bool true) ∧ Below w.heap.size w w' := fun n k h1 h2 h3 hrun => by
  have := law_ok (funL_ok shAll) hrun (E := E) (w := w) rfl (slMem_ok (ents := [en3 10]) (fs := (.rem (.wrap .u64 (.var 1)) (.lit n), k, k) :: fa3u 10 n (cond (decide (n = 8)) hi64 n)) 60 hE rfl rfl hen (fun f hf => by
   rcases List.mem_cons.1 hf with rfl | hf
   ·show k ≤ ev E (.rem (.wrap .u64 (.var 1)) (.lit n)) ∧ ev E (.rem (.wrap .u64 (.var 1)) (.lit n)) ≤ k
    omega
   ·exact hfa _ _ h1 h2 f hf))
  simp only [List.map_cons, List.map_nil] at this
  exact this
 have rm : ∀ n : Int, 0 < n → 0 ≤ ev E (.rem (.wrap .u64 (.var 1)) (.lit n)) ∧ ev E (.rem (.wrap .u64 (.var 1)) (.lit n)) < n := fun n hn => by
  rw [ev_rem, ev_lit, ev_wrap]
  have hw := (wrap_in .u64 (ev E (.var 1))).1
  have hw : 0 ≤ IntKind.u64.wrap (ev E (.var 1)) := hw
  rw [Int.tmod_eq_emod_of_nonneg hw]
  exact ⟨Int.emod_nonneg _ (by omega), Int.emod_lt_of_pos _ hn⟩
 by_cases h8 : 8 ≤ len
 ·have := rm 8 (by omega)
  rcases (by omega : ev E (.rem (.wrap .u64 (.var 1)) (.lit 8)) = 0 ∨ ev E (.rem (.wrap .u64 (.var 1)) (.lit 8)) = 1 ∨ ev E (.rem (.wrap .u64 (.var 1)) (.lit 8)) = 2 ∨ ev E (.rem (.wrap .u64 (.var 1)) (.lit 8)) = 3 ∨ ev E (.rem (.wrap .u64 (.var 1)) (.lit 8)) = 4 ∨ ev E (.rem (.wrap .u64 (.var 1)) (.lit 8)) = 5 ∨ ev E (.rem (.wrap .u64 (.var 1)) (.lit 8)) = 6 ∨ ev E (.rem (.wrap .u64 (.var 1)) (.lit 8)) = 7) with h | h | h | h | h | h | h | h
  ·exact fin 8 0 (by omega) hlen h hl8_0
  ·exact fin 8 1 (by omega) hlen h hl8_1
  ·exact fin 8 2 (by omega) hlen h hl8_2
  ·exact fin 8 3 (by omega) hlen h hl8_3
  ·exact fin 8 4 (by omega) hlen h hl8_4
  ·exact fin 8 5 (by omega) hlen h hl8_5
  ·exact fin 8 6 (by omega) hlen h hl8_6
  ·exact fin 8 7 (by omega) hlen h hl8_7
 ·rcases (by omega : len = 0 ∨ len = 1 ∨ len = 2 ∨ len = 3 ∨ len = 4 ∨ len = 5 ∨ len = 6 ∨ len = 7) with hn | hn | hn | hn | hn | hn | hn | hn
  ·have := law_ok (funL_ok shAll) hl0t (E := E) (w := w) rfl (slMem_ok (ents := [en3 10]) (fs := fa3u 10 0 0) 60 hE rfl rfl hen (hfa 0 0 (by omega) (by omega)))
   simp only [cond, List.map_cons, List.map_nil] at this
   exact this
  ·have := rm 1 (by omega)
   rcases (by omega : ev E (.rem (.wrap .u64 (.var 1)) (.lit 1)) = 0) with h
   ·exact fin 1 0 (by omega) (by show (len : Int) ≤ 1; omega) h hl1_0
  ·have := rm 2 (by omega)
   rcases (by omega : ev E (.rem (.wrap .u64 (.var 1)) (.lit 2)) = 0 ∨ ev E (.rem (.wrap .u64 (.var 1)) (.lit 2)) = 1) with h | h
   ·exact fin 2 0 (by omega) (by show (len : Int) ≤ 2; omega) h hl2_0
   ·exact fin 2 1 (by omega) (by show (len : Int) ≤ 2; omega) h hl2_1
  ·have := rm 3 (by omega)
   rcases (by omega : ev E (.rem (.wrap .u64 (.var 1)) (.lit 3)) = 0 ∨ ev E (.rem (.wrap .u64 (.var 1)) (.lit 3)) = 1 ∨ ev E (.rem (.wrap .u64 (.var 1)) (.lit 3)) = 2) with h | h | h
   ·exact fin 3 0 (by omega) (by show (len : Int) ≤ 3; omega) h hl3_0
   ·exact fin 3 1 (by omega) (by show (len : Int) ≤ 3; omega) h hl3_1
   ·exact fin 3 2 (by omega) (by show (len : Int) ≤ 3; omega) h hl3_2
  ·have := rm 4 (by omega)
   rcases (by omega : ev E (.rem (.wrap .u64 (.var 1)) (.lit 4)) = 0 ∨ ev E (.rem (.wrap .u64 (.var 1)) (.lit 4)) = 1 ∨ ev E (.rem (.wrap .u64 (.var 1)) (.lit 4)) = 2 ∨ ev E (.rem (.wrap .u64 (.var 1)) (.lit 4)) = 3) with h | h | h | h
   ·exact fin 4 0 (by omega) (by show (len : Int) ≤ 4; omega) h hl4_0
   ·exact fin 4 1 (by omega) (by show (len : Int) ≤ 4; omega) h hl4_1
   ·exact fin 4 2 (by omega) (by show (len : Int) ≤ 4; omega) h hl4_2
   ·exact fin 4 3 (by omega) (by show (len : Int) ≤ 4; omega) h hl4_3
  ·have := rm 5 (by omega)
   rcases (by omega : ev E (.rem (.wrap .u64 (.var 1)) (.lit 5)) = 0 ∨ ev E (.rem (.wrap .u64 (.var 1)) (.lit 5)) = 1 ∨ ev E (.rem (.wrap .u64 (.var 1)) (.lit 5)) = 2 ∨ ev E (.rem (.wrap .u64 (.var 1)) (.lit 5)) = 3 ∨ ev E (.rem (.wrap .u64 (.var 1)) (.lit 5)) = 4) with h | h | h | h | h
   ·exact fin 5 0 (by omega) (by show (len : Int) ≤ 5; omega) h hl5_0
   ·exact fin 5 1 (by omega) (by show (len : Int) ≤ 5; omega) h hl5_1
   ·exact fin 5 2 (by omega) (by show (len : Int) ≤ 5; omega) h hl5_2
   ·exact fin 5 3 (by omega) (by show (len : Int) ≤ 5; omega) h hl5_3
   ·exact fin 5 4 (by omega) (by show (len : Int) ≤ 5; omega) h hl5_4
  ·have := rm 6 (by omega)
   rcases (by omega : ev E (.rem (.wrap .u64 (.var 1)) (.lit 6)) = 0 ∨ ev E (.rem (.wrap .u64 (.var 1)) (.lit 6)) = 1 ∨ ev E (.rem (.wrap .u64 (.var 1)) (.lit 6)) = 2 ∨ ev E (.rem (.wrap .u64 (.var 1)) (.lit 6)) = 3 ∨ ev E (.rem (.wrap .u64 (.var 1)) (.lit 6)) = 4 ∨ ev E (.rem (.wrap .u64 (.var 1)) (.lit 6)) = 5) with h | h | h | h | h | h
   ·exact fin 6 0 (by omega) (by show (len : Int) ≤ 6; omega) h hl6_0
   ·exact fin 6 1 (by omega) (by show (len : Int) ≤ 6; omega) h hl6_1
   ·exact fin 6 2 (by omega) (by show (len : Int) ≤ 6; omega) h hl6_2
   ·exact fin 6 3 (by omega) (by show (len : Int) ≤ 6; omega) h hl6_3
   ·exact fin 6 4 (by omega) (by show (len : Int) ≤ 6; omega) h hl6_4
   ·exact fin 6 5 (by omega) (by show (len : Int) ≤ 6; omega) h hl6_5
  ·have := rm 7 (by omega)
   rcases (by omega : ev E (.rem (.wrap .u64 (.var 1)) (.lit 7)) = 0 ∨ ev E (.rem (.wrap .u64 (.var 1)) (.lit 7)) = 1 ∨ ev E (.rem (.wrap .u64 (.var 1)) (.lit 7)) = 2 ∨ ev E (.rem (.wrap .u64 (.var 1)) (.lit 7)) = 3 ∨ ev E (.rem (.wrap .u64 (.var 1)) (.lit 7)) = 4 ∨ ev E (.rem (.wrap .u64 (.var 1)) (.lit 7)) = 5 ∨ ev E (.rem (.wrap .u64 (.var 1)) (.lit 7)) = 6) with h | h | h | h | h | h | h
   ·exact fin 7 0 (by omega) (by show (len : Int) ≤ 7; omega) h hl7_0
   ·exact fin 7 1 (by omega) (by show (len : Int) ≤ 7; omega) h hl7_1
   ·exact fin 7 2 (by omega) (by show (len : Int) ≤ 7; omega) h hl7_2
   ·exact fin 7 3 (by omega) (by show (len : Int) ≤ 7; omega) h hl7_3
   ·exact fin 7 4 (by omega) (by show (len : Int) ≤ 7; omega) h hl7_4
   ·exact fin 7 5 (by omega) (by show (len : Int) ≤ 7; omega) h hl7_5
   ·exact fin 7 6 (by omega) (by show (len : Int) ≤ 7; omega) h hl7_6
end Go.Proofs.Ytdchpckikclmlaa
namespace Go.Proofs.Ytdchpckikclmlaa.helpLoses
open Go.ChangeShapes Go.WideShapes Go.ChangeAt Go.RowKit Go.Deep
set_option maxRecDepth 100000 in
theorem lifted (os : Os) (started : os.Started) (H : Type) (enc : TypeId × Value → H) :
  ReturnsInHanded {} Try.checked os 10 .any (Rows.helpLosesSpec.pre6 enc Try.prog Try.f10 Rows.helpLosesRow.domain false) (Rows.helpLosesSpec.post enc Try.prog Try.f10 false true false false) := by
 refine returnsInHanded_of_change (C := Try.checked) own started (by kernel_rfl) Try.func10
  (ChangeSpec.witness6 (enc := enc) (C := Try.checked) false ⟨#[], #[.slice none 0 0, .int .i64 0, .int .i64 0], []⟩ 60 (by kernel_rfl) (by kernel_rfl) (by kernel_rfl) (by kernel_rfl)) ?_
 intro W base args ds gs before hval0 hW _ _
 have hval : ∀ (j : Nat) t v, Try.f10.params[j]? = some t → args[j]? = some v → Value.okWide Try.prog W .any base t v := hval0
 have hW' := hW
 obtain ⟨p, q, hA0, hV, rfl, _, _⟩ := hW
 have hA : DataW.TrodAll enc Try.prog W 0 (fun _ => true) true Try.f10.params.toList args.toList ds p := hA0
 rw [Try.params10] at hA hval
 obtain ⟨v0, vs0, d0, ds0, p0, q0, hargs, rfl, rfl, h0, r0⟩ := trodAll_cons hA
 obtain ⟨v1, vs1, d1, ds1, p1, q1, rfl, rfl, rfl, h1, r1⟩ := trodAll_cons r0
 obtain ⟨v2, vs2, d2, ds2, p2, q2, rfl, rfl, rfl, h2, r2⟩ := trodAll_cons r1
 obtain ⟨rfl, rfl, rfl⟩ := trodAll_nil r2
 obtain rfl : args = #[v0, v1, v2] := by cases args; simp_all
 obtain ⟨rfl, rfl⟩ := trodVars_none hV
 have tl0 : ∀ x ∈ p0, x.block < W.heap.size := by obtain ⟨m, hm⟩ := h0; exact DataW.trod_lt m _ _ _ hm
 have tl1 : ∀ x ∈ p1, x.block < W.heap.size := by obtain ⟨m, hm⟩ := h1; exact DataW.trod_lt m _ _ _ hm
 have tl2 : ∀ x ∈ p2, x.block < W.heap.size := by obtain ⟨m, hm⟩ := h2; exact DataW.trod_lt m _ _ _ hm
 clear hA0 hval0
 refine (helpLoses_walk (hval 0 23 v0 rfl rfl) h0 (hval 1 3 v1 rfl rfl) h1 (hval 2 3 v2 rfl rfl) h2).mono fun e W' ⟨he, bel⟩ => ?_
 subst he
 exact ⟨_, rfl, _, _, _, [], _, [], hW', trodAll_mk1 (shut_bool Try.underlying4 _), (trodAll_cons_mk (Below.trod laidOut (by kernel_rfl) (of_decide_eq_true (by kernel_rfl)) h0 bel tl0) (trodAll_cons_mk (Below.trod laidOut (by kernel_rfl) (of_decide_eq_true (by kernel_rfl)) h1 bel tl1) (trodAll_cons_mk (Below.trod laidOut (by kernel_rfl) (of_decide_eq_true (by kernel_rfl)) h2 bel tl2) trodAll_mk0))), rfl, bel.frame _, fun h => by cases h⟩
theorem over : Rows.helpLosesRow.holds Try.pinned (OpenSpec.ofChange Rows.helpLosesSpec) :=
 OpenClaim.holds_of_wide 10 Try.f10 rfl rfl rfl rfl rfl rfl rfl ⟨rfl, rfl, rfl, rfl, rfl⟩ rfl rfl rfl rfl rfl (by kernel_rfl) Try.func10 (by kernel_rfl)
  (of_decide_eq_true (by kernel_rfl)) (by unfold Func.isWrapper; first | (rw [if_pos (by decide +kernel)]; kernel_rfl) | (rw [if_neg (by decide +kernel)]; exact ⟨rfl, rfl⟩))
  (fun os started H enc _ => lifted os started H enc)
theorem proved : Rows.HelpLosesSaid := over
#print axioms proved
end Go.Proofs.Ytdchpckikclmlaa.helpLoses
