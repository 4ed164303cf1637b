/- The law DescBack: for every input the call returns true, and each argument reads afterwards as it read before; no condition. -/
import Derived.Test.YtofmndcdcchflaaBRa
import Derived.Test.YtofmndcdcchflaaBRb
import Derived.Test.YtofmndcdcchflaaBRc
import Derived.Test.YtofmndcdcchflaaD
namespace Go.Proofs.Ytofmndcdcchflaa
open Go.Sx Go Go.DescNum Go.ChangeShapes Go.WideShapes Go.ChangeAt Go.RowKit Go.Deep
set_option maxRecDepth 100000
theorem lb_all {k : Nat} (hk : k ≤ 16) : allB false k = true ∧ okBk false k = true := by
 rcases (by omega : k = 0 ∨ k = 1 ∨ k = 2 ∨ k = 3 ∨ k = 4 ∨ k = 5 ∨ k = 6 ∨ k = 7 ∨ k = 8 ∨ k = 9 ∨ k = 10 ∨ k = 11 ∨ k = 12 ∨ k = 13 ∨ k = 14 ∨ k = 15 ∨ k = 16) with rfl | rfl | rfl | rfl | rfl | rfl | rfl | rfl | rfl | rfl | rfl | rfl | rfl | rfl | rfl | rfl | rfl
 ·exact ⟨lb_0, bk_0⟩
 ·exact ⟨lb_1, bk_1⟩
 ·exact ⟨lb_2, bk_2⟩
 ·exact ⟨lb_3, bk_3⟩
 ·exact ⟨lb_4, bk_4⟩
 ·exact ⟨lb_5, bk_5⟩
 ·exact ⟨lb_6, bk_6⟩
 ·exact ⟨lb_7, bk_7⟩
 ·exact ⟨lb_8, bk_8⟩
 ·exact ⟨lb_9, bk_9⟩
 ·exact ⟨lb_10, bk_10⟩
 ·exact ⟨lb_11, bk_11⟩
 ·exact ⟨lb_12, bk_12⟩
 ·exact ⟨lb_13, bk_13⟩
 ·exact ⟨lb_14, bk_14⟩
 ·exact ⟨lb_15, bk_15⟩
 ·exact ⟨lb_16, bk_16⟩
theorem argB_facts {E : Env} {w : World} {A : SlArg} (hN : A.Named E) (hh : A.Holds w) (ha : A.of = 11 ∧ A.ln = 12 ∧ A.cp = 13) {k h : Int} (h1 : k ≤ (A.len : Int)) (h2 : (A.len : Int) ≤ h) : ∀ f ∈ argF false k h, FactOk E f := fun f hf => by
 obtain ⟨a1, a2, a3⟩ := ha
 rcases List.mem_cons.1 hf with rfl | hf
 ·have e2 : ev E (.var A.ln) = A.len := hN.ln
  rw [a2] at e2
  exact show k ≤ ev E (.var 12) ∧ ev E (.var 12) ≤ h by omega
 ·have := SlArg.facts hN hh (le_hi hh.room hh.max) f
  rw [a1, a2, a3] at this
  exact this hf
theorem descBack_walk {w : World} {r : Reach} {b0 : Nat} {v0 v1 v2 : Value} {H : Type} {enc : TypeId × Value → H} {base : Nat} {spare : Nat → Bool} {held : Bool} {d0 d1 d2 : DataW H} {p0 p1 p2 : List MemPlace}
  (k0 : Value.okWide Try.prog w r b0 26 v0) (h0 : DataW.Trod enc Try.prog w base spare held 26 v0 d0 p0)
  (k1 : Value.okWide Try.prog w r b0 3 v1) (h1 : DataW.Trod enc Try.prog w base spare held 3 v1 d1 p1)
  (k2 : Value.okWide Try.prog w r b0 3 v2) (h2 : DataW.Trod enc Try.prog w base spare held 3 v2 d2 p2) :
  Calls Try.prog 5 #[v0, v1, v2] w fun r w' => r = .returned (.bool true) ∧ Below w.heap.size w w' := by
 obtain ⟨a, rfl, _, _, wa⟩ := open_int Try.underlying3 k1 h1
 obtain ⟨b, rfl, _, _, wb⟩ := open_int Try.underlying3 k2 h2
 rcases open_ss k0 h0 with rfl | ⟨b1, o1, len, cap, zs, hs⟩
 ·have hE : (envL [] w [] ((1, [a]) :: (2, [b]) :: []) [] []).Ok := envL_ok none_in (one_in (i64_bd wa) (one_in (i64_bd wb) none_in))
  exact law_ok (funB_ok (V := []) (Nat.zero_le _) (fun _ => rfl) lb_n) bk_n (E := envL [] w [] ((1, [a]) :: (2, [b]) :: []) [] []) (w := w) rfl (slMem_ok (ents := []) (fs := []) 60 hE rfl rfl (fun _ h => (by cases h)) (fun _ h => (by cases h)))
 let E := envL [] w [(14, zs)] ((1, [a]) :: (2, [b]) :: (11, [0]) :: (12, [(len : Int)]) :: (13, [(cap : Int)]) :: []) [(10, b1)] [(10, o1)]
 have hE : E.Ok := envL_ok (row_in hs.nums none_in) (one_in (i64_bd wa) (one_in (i64_bd wb) (one_in zero_in (one_in (len_in (Nat.le_trans hs.room hs.max)) (one_in (len_in hs.max) none_in)))))
 have hN : (SlArg.mk 10 11 12 13 14 3 b1 o1 len cap zs).Named E := ⟨rfl, rfl, rfl, rfl, rfl, rfl, (by show (14 : Nat) ≠ 0; decide)⟩
 have hh := holds_of hs 10 11 12 13 14
 have hv : dv E (sl3 10) = v0 := by rw [hs.val]; exact SlArg.val hN
 have hen : ∀ e ∈ argE false, e.ro = true ∧ EntOk E w e := fun e he => by
  rcases List.mem_singleton.1 he with rfl
  exact ⟨rfl, SlArg.ent hN hh⟩
 have fin : Calls Try.prog 5 #[dv E (sl3 10), .int .i64 a, .int .i64 b] w fun r w' => r = .returned (.bool true) ∧ Below w.heap.size w w' := by
  by_cases hk : len ≤ 16
  ·obtain ⟨r1, r2⟩ := lb_all hk
   exact law_ok (funB_ok (V := []) hk (fun h => (by cases h)) r1) r2 (E := E) (w := w) rfl (slMem_ok (ents := argE false) (fs := argF false len len) 60 hE rfl rfl hen (argB_facts hN hh ⟨rfl, rfl, rfl⟩ (Int.le_refl _) (Int.le_refl _)))
  ·exact law_ok (callF_ok (spOf_ok (okSpB (V := []))) noBx 400 12 5) bk_m (E := E) (w := w) rfl (slMem_ok (ents := argE false) (fs := argF false 17 hi64) 60 hE rfl rfl hen (argB_facts hN hh ⟨rfl, rfl, rfl⟩ (by show (17 : Int) ≤ (len : Int); omega) (le_hi hs.room hs.max)))
 rw [hv] at fin
 exact fin
end Go.Proofs.Ytofmndcdcchflaa
namespace Go.Proofs.Ytofmndcdcchflaa.descBack
open Go.ChangeShapes Go.WideShapes Go.ChangeAt Go.RowKit Go.Deep
set_option maxRecDepth 100000 in
theorem lifted (os : Os) (started : os.Started) (H : Type) (enc : TypeId × Value → H) :
  ReturnsInHanded {} Try.checked os 5 .any (Rows.descBackSpec.pre6 enc Try.prog Try.f5 Rows.descBackRow.domain false) (Rows.descBackSpec.post enc Try.prog Try.f5 false true false false) := by
 refine returnsInHanded_of_change (C := Try.checked) own started (by kernel_rfl) Try.func5
  (ChangeSpec.witness6 (enc := enc) (C := Try.checked) false ⟨#[], #[.slice none 0 0, .int .i64 0, .int .i64 0], []⟩ 60 (by kernel_rfl) (by kernel_rfl) (by kernel_rfl) (by kernel_rfl)) ?_
 intro W base args ds gs before hval0 hW _ _
 have hval : ∀ (j : Nat) t v, Try.f5.params[j]? = some t → args[j]? = some v → Value.okWide Try.prog W .any base t v := hval0
 have hW' := hW
 obtain ⟨p, q, hA0, hV, rfl, _, _⟩ := hW
 have hA : DataW.TrodAll enc Try.prog W 0 (fun _ => true) true Try.f5.params.toList args.toList ds p := hA0
 rw [Try.params5] at hA hval
 obtain ⟨v0, vs0, d0, ds0, p0, q0, hargs, rfl, rfl, h0, r0⟩ := trodAll_cons hA
 obtain ⟨v1, vs1, d1, ds1, p1, q1, rfl, rfl, rfl, h1, r1⟩ := trodAll_cons r0
 obtain ⟨v2, vs2, d2, ds2, p2, q2, rfl, rfl, rfl, h2, r2⟩ := trodAll_cons r1
 obtain ⟨rfl, rfl, rfl⟩ := trodAll_nil r2
 obtain rfl : args = #[v0, v1, v2] := by cases args; simp_all
 obtain ⟨rfl, rfl⟩ := trodVars_none hV
 have tl0 : ∀ x ∈ p0, x.block < W.heap.size := by obtain ⟨m, hm⟩ := h0; exact DataW.trod_lt m _ _ _ hm
 have tl1 : ∀ x ∈ p1, x.block < W.heap.size := by obtain ⟨m, hm⟩ := h1; exact DataW.trod_lt m _ _ _ hm
 have tl2 : ∀ x ∈ p2, x.block < W.heap.size := by obtain ⟨m, hm⟩ := h2; exact DataW.trod_lt m _ _ _ hm
 clear hA0 hval0
 refine (descBack_walk (hval 0 26 v0 rfl rfl) h0 (hval 1 3 v1 rfl rfl) h1 (hval 2 3 v2 rfl rfl) h2).mono fun e W' ⟨he, bel⟩ => ?_
 subst he
 exact ⟨_, rfl, _, _, _, [], _, [], hW', trodAll_mk1 (shut_bool Try.underlying4 _), (trodAll_cons_mk (Below.trod laidOut (by kernel_rfl) (of_decide_eq_true (by kernel_rfl)) h0 bel tl0) (trodAll_cons_mk (Below.trod laidOut (by kernel_rfl) (of_decide_eq_true (by kernel_rfl)) h1 bel tl1) (trodAll_cons_mk (Below.trod laidOut (by kernel_rfl) (of_decide_eq_true (by kernel_rfl)) h2 bel tl2) trodAll_mk0))), rfl, bel.frame _, fun h => by cases h⟩
theorem over : Rows.descBackRow.holds Try.pinned (OpenSpec.ofChange Rows.descBackSpec) :=
 OpenClaim.holds_of_wide 5 Try.f5 rfl rfl rfl rfl rfl rfl rfl ⟨rfl, rfl, rfl, rfl, rfl⟩ rfl rfl rfl rfl rfl (by kernel_rfl) Try.func5 (by kernel_rfl)
  (of_decide_eq_true (by kernel_rfl)) (by unfold Func.isWrapper; first | (rw [if_pos (by decide +kernel)]; kernel_rfl) | (rw [if_neg (by decide +kernel)]; exact ⟨rfl, rfl⟩))
  (fun os started H enc _ => lifted os started H enc)
theorem proved : Rows.DescBackSaid := over
#print axioms proved
end Go.Proofs.Ytofmndcdcchflaa.descBack
