/- The law HelpEntry: for every input the call returns true, and each argument reads afterwards as it read before; no condition. -/
import Derived.Test.YtdchpckikclmlaaHE0
import Derived.Test.YtdchpckikclmlaaHE1
import Derived.Test.YtdchpckikclmlaaD
namespace Go.Proofs.Ytdchpckikclmlaa
open Go.Sx Go Go.ChangeShapes Go.WideShapes Go.ChangeAt Go.RowKit Go.Deep
set_option maxRecDepth 100000
theorem helpEntry_walk {w : World} {r : Reach} {b0 : Nat} {v0 v1 v2 v3 v4 : Value} {H : Type} {enc : TypeId × Value → H} {base : Nat} {spare : Nat → Bool} {held : Bool} {d0 d1 d2 d3 d4 : DataW H} {p0 p1 p2 p3 p4 : List MemPlace}
  (k0 : Value.okWide Try.prog w r b0 3 v0) (h0 : DataW.Trod enc Try.prog w base spare held 3 v0 d0 p0)
  (k1 : Value.okWide Try.prog w r b0 3 v1) (h1 : DataW.Trod enc Try.prog w base spare held 3 v1 d1 p1)
  (k2 : Value.okWide Try.prog w r b0 3 v2) (h2 : DataW.Trod enc Try.prog w base spare held 3 v2 d2 p2)
  (k3 : Value.okWide Try.prog w r b0 3 v3) (h3 : DataW.Trod enc Try.prog w base spare held 3 v3 d3 p3)
  (k4 : Value.okWide Try.prog w r b0 3 v4) (h4 : DataW.Trod enc Try.prog w base spare held 3 v4 d4 p4) :
  Calls Try.prog 7 #[v0, v1, v2, v3, v4] w fun r w' => r = .returned (.bool true) ∧ Below w.heap.size w w' := by
 obtain ⟨x0, rfl, _, _, w0⟩ := open_int Try.underlying3 k0 h0
 obtain ⟨x1, rfl, _, _, w1⟩ := open_int Try.underlying3 k1 h1
 obtain ⟨x2, rfl, _, _, w2⟩ := open_int Try.underlying3 k2 h2
 obtain ⟨x3, rfl, _, _, w3⟩ := open_int Try.underlying3 k3 h3
 obtain ⟨x4, rfl, _, _, w4⟩ := open_int Try.underlying3 k4 h4
 have hE : (envL w [] [(1, [x0]), (2, [x1]), (3, [x2]), (4, [x3]), (5, [x4])] [] []).Ok := envL_ok none_in (one_in (i64_bd w0) (one_in (i64_bd w1) (one_in (i64_bd w2) (one_in (i64_bd w3) (one_in (i64_bd w4) none_in)))))
 have e0 : 0 ≤ ev (envL w [] [(1, [x0]), (2, [x1]), (3, [x2]), (4, [x3]), (5, [x4])] [] []) (.rem (.bit .and .i64 (.var 2) (.lit 1023)) (.lit 3)) ∧ ev (envL w [] [(1, [x0]), (2, [x1]), (3, [x2]), (4, [x3]), (5, [x4])] [] []) (.rem (.bit .and .i64 (.var 2) (.lit 1023)) (.lit 3)) ≤ 2 := by
  have h := rng_ok hE (fs := []) (fun _ h => (by cases h)) (.rem (.bit .and .i64 (.var 2) (.lit 1023)) (.lit 3))
  rw [show rng [] (.rem (.bit .and .i64 (.var 2) (.lit 1023)) (.lit 3)) = (0, 2) by kernel_rfl] at h
  exact h
 have e1 : 0 ≤ ev (envL w [] [(1, [x0]), (2, [x1]), (3, [x2]), (4, [x3]), (5, [x4])] [] []) (.bit .and .i64 (.var 3) (.lit 1)) ∧ ev (envL w [] [(1, [x0]), (2, [x1]), (3, [x2]), (4, [x3]), (5, [x4])] [] []) (.bit .and .i64 (.var 3) (.lit 1)) ≤ 1 := by
  have h := rng_ok hE (fs := []) (fun _ h => (by cases h)) (.bit .and .i64 (.var 3) (.lit 1))
  rw [show rng [] (.bit .and .i64 (.var 3) (.lit 1)) = (0, 1) by kernel_rfl] at h
  exact h
 have fin : ∀ z0 z1 : Int, ev (envL w [] [(1, [x0]), (2, [x1]), (3, [x2]), (4, [x3]), (5, [x4])] [] []) (.rem (.bit .and .i64 (.var 2) (.lit 1023)) (.lit 3)) = z0 → ev (envL w [] [(1, [x0]), (2, [x1]), (3, [x2]), (4, [x3]), (5, [x4])] [] []) (.bit .and .i64 (.var 3) (.lit 1)) = z1 → okE z0 z1 = true → Calls Try.prog 7 #[.int .i64 x0, .int .i64 x1, .int .i64 x2, .int .i64 x3, .int .i64 x4] w fun r w' => r = .returned (.bool true) ∧ Below w.heap.size w w' := fun z0 z1 g0 g1 hrun => by
  have := law_ok (funF_ok 7) hrun (E := (envL w [] [(1, [x0]), (2, [x1]), (3, [x2]), (4, [x3]), (5, [x4])] [] [])) (w := w) rfl (slMem_ok (ents := []) (fs := [((.rem (.bit .and .i64 (.var 2) (.lit 1023)) (.lit 3)), z0, z0), ((.bit .and .i64 (.var 3) (.lit 1)), z1, z1)]) 60 hE rfl rfl (fun _ h => (by cases h)) (fun f hf => by
   simp only [List.mem_cons, List.not_mem_nil, or_false] at hf
   unfold FactOk
   rcases hf with rfl | rfl
   ·dsimp only
    omega
   ·dsimp only
    omega))
  simp only [List.map_cons, List.map_nil] at this
  exact this
 rcases (by omega : ev (envL w [] [(1, [x0]), (2, [x1]), (3, [x2]), (4, [x3]), (5, [x4])] [] []) (.rem (.bit .and .i64 (.var 2) (.lit 1023)) (.lit 3)) = 0 ∨ ev (envL w [] [(1, [x0]), (2, [x1]), (3, [x2]), (4, [x3]), (5, [x4])] [] []) (.rem (.bit .and .i64 (.var 2) (.lit 1023)) (.lit 3)) = 1 ∨ ev (envL w [] [(1, [x0]), (2, [x1]), (3, [x2]), (4, [x3]), (5, [x4])] [] []) (.rem (.bit .and .i64 (.var 2) (.lit 1023)) (.lit 3)) = 2) with h0 | h0 | h0
 ·rcases (by omega : ev (envL w [] [(1, [x0]), (2, [x1]), (3, [x2]), (4, [x3]), (5, [x4])] [] []) (.bit .and .i64 (.var 3) (.lit 1)) = 0 ∨ ev (envL w [] [(1, [x0]), (2, [x1]), (3, [x2]), (4, [x3]), (5, [x4])] [] []) (.bit .and .i64 (.var 3) (.lit 1)) = 1) with h1 | h1
  ·exact fin 0 0 h0 h1 he0_0
  ·exact fin 0 1 h0 h1 he0_1
 ·rcases (by omega : ev (envL w [] [(1, [x0]), (2, [x1]), (3, [x2]), (4, [x3]), (5, [x4])] [] []) (.bit .and .i64 (.var 3) (.lit 1)) = 0 ∨ ev (envL w [] [(1, [x0]), (2, [x1]), (3, [x2]), (4, [x3]), (5, [x4])] [] []) (.bit .and .i64 (.var 3) (.lit 1)) = 1) with h1 | h1
  ·exact fin 1 0 h0 h1 he1_0
  ·exact fin 1 1 h0 h1 he1_1
 ·rcases (by omega : ev (envL w [] [(1, [x0]), (2, [x1]), (3, [x2]), (4, [x3]), (5, [x4])] [] []) (.bit .and .i64 (.var 3) (.lit 1)) = 0 ∨ ev (envL w [] [(1, [x0]), (2, [x1]), (3, [x2]), (4, [x3]), (5, [x4])] [] []) (.bit .and .i64 (.var 3) (.lit 1)) = 1) with h1 | h1
  ·exact fin 2 0 h0 h1 he2_0
  ·exact fin 2 1 h0 h1 he2_1
end Go.Proofs.Ytdchpckikclmlaa
namespace Go.Proofs.Ytdchpckikclmlaa.helpEntry
open Go.ChangeShapes Go.WideShapes Go.ChangeAt Go.RowKit Go.Deep
set_option maxRecDepth 100000 in
theorem lifted (os : Os) (started : os.Started) (H : Type) (enc : TypeId × Value → H) :
  ReturnsInHanded {} Try.checked os 7 .any (Rows.helpEntrySpec.pre6 enc Try.prog Try.f7 Rows.helpEntryRow.domain false) (Rows.helpEntrySpec.post enc Try.prog Try.f7 false true false false) := by
 refine returnsInHanded_of_change (C := Try.checked) own started (by kernel_rfl) Try.func7
  (ChangeSpec.witness6 (enc := enc) (C := Try.checked) false ⟨#[], #[.int .i64 0, .int .i64 0, .int .i64 0, .int .i64 0, .int .i64 0], []⟩ 60 (by kernel_rfl) (by kernel_rfl) (by kernel_rfl) (by kernel_rfl)) ?_
 intro W base args ds gs before hval0 hW _ _
 have hval : ∀ (j : Nat) t v, Try.f7.params[j]? = some t → args[j]? = some v → Value.okWide Try.prog W .any base t v := hval0
 have hW' := hW
 obtain ⟨p, q, hA0, hV, rfl, _, _⟩ := hW
 have hA : DataW.TrodAll enc Try.prog W 0 (fun _ => true) true Try.f7.params.toList args.toList ds p := hA0
 rw [Try.params7] at hA hval
 obtain ⟨v0, vs0, d0, ds0, p0, q0, hargs, rfl, rfl, h0, r0⟩ := trodAll_cons hA
 obtain ⟨v1, vs1, d1, ds1, p1, q1, rfl, rfl, rfl, h1, r1⟩ := trodAll_cons r0
 obtain ⟨v2, vs2, d2, ds2, p2, q2, rfl, rfl, rfl, h2, r2⟩ := trodAll_cons r1
 obtain ⟨v3, vs3, d3, ds3, p3, q3, rfl, rfl, rfl, h3, r3⟩ := trodAll_cons r2
 obtain ⟨v4, vs4, d4, ds4, p4, q4, rfl, rfl, rfl, h4, r4⟩ := trodAll_cons r3
 obtain ⟨rfl, rfl, rfl⟩ := trodAll_nil r4
 obtain rfl : args = #[v0, v1, v2, v3, v4] := by cases args; simp_all
 obtain ⟨rfl, rfl⟩ := trodVars_none hV
 have tl0 : ∀ x ∈ p0, x.block < W.heap.size := by obtain ⟨m, hm⟩ := h0; exact DataW.trod_lt m _ _ _ hm
 have tl1 : ∀ x ∈ p1, x.block < W.heap.size := by obtain ⟨m, hm⟩ := h1; exact DataW.trod_lt m _ _ _ hm
 have tl2 : ∀ x ∈ p2, x.block < W.heap.size := by obtain ⟨m, hm⟩ := h2; exact DataW.trod_lt m _ _ _ hm
 have tl3 : ∀ x ∈ p3, x.block < W.heap.size := by obtain ⟨m, hm⟩ := h3; exact DataW.trod_lt m _ _ _ hm
 have tl4 : ∀ x ∈ p4, x.block < W.heap.size := by obtain ⟨m, hm⟩ := h4; exact DataW.trod_lt m _ _ _ hm
 clear hA0 hval0
 refine (helpEntry_walk (hval 0 3 v0 rfl rfl) h0 (hval 1 3 v1 rfl rfl) h1 (hval 2 3 v2 rfl rfl) h2 (hval 3 3 v3 rfl rfl) h3 (hval 4 3 v4 rfl rfl) h4).mono fun e W' ⟨he, bel⟩ => ?_
 subst he
 exact ⟨_, rfl, _, _, _, [], _, [], hW', trodAll_mk1 (shut_bool Try.underlying4 _), (trodAll_cons_mk (Below.trod laidOut (by kernel_rfl) (of_decide_eq_true (by kernel_rfl)) h0 bel tl0) (trodAll_cons_mk (Below.trod laidOut (by kernel_rfl) (of_decide_eq_true (by kernel_rfl)) h1 bel tl1) (trodAll_cons_mk (Below.trod laidOut (by kernel_rfl) (of_decide_eq_true (by kernel_rfl)) h2 bel tl2) (trodAll_cons_mk (Below.trod laidOut (by kernel_rfl) (of_decide_eq_true (by kernel_rfl)) h3 bel tl3) (trodAll_cons_mk (Below.trod laidOut (by kernel_rfl) (of_decide_eq_true (by kernel_rfl)) h4 bel tl4) trodAll_mk0))))), rfl, bel.frame _, fun h => by cases h⟩
theorem over : Rows.helpEntryRow.holds Try.pinned (OpenSpec.ofChange Rows.helpEntrySpec) :=
 OpenClaim.holds_of_wide 7 Try.f7 rfl rfl rfl rfl rfl rfl rfl ⟨rfl, rfl, rfl, rfl, rfl⟩ rfl rfl rfl rfl rfl (by kernel_rfl) Try.func7 (by kernel_rfl)
  (of_decide_eq_true (by kernel_rfl)) (by unfold Func.isWrapper; first | (rw [if_pos (by decide +kernel)]; kernel_rfl) | (rw [if_neg (by decide +kernel)]; exact ⟨rfl, rfl⟩))
  (fun os started H enc _ => lifted os started H enc)
theorem proved : Rows.HelpEntrySaid := over
#print axioms proved
end Go.Proofs.Ytdchpckikclmlaa.helpEntry
