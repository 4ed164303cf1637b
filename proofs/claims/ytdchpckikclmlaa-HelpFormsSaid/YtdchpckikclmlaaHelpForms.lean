/- The law HelpForms: for every input the call returns true, and each argument reads afterwards as it read before; no condition. -/
import Derived.Test.YtdchpckikclmlaaHF0
import Derived.Test.YtdchpckikclmlaaHF1
import Derived.Test.YtdchpckikclmlaaHF2
import Derived.Test.YtdchpckikclmlaaD
namespace Go.Proofs.Ytdchpckikclmlaa
open Go.Sx Go Go.ChangeShapes Go.WideShapes Go.ChangeAt Go.RowKit Go.Deep
set_option maxRecDepth 100000
theorem helpForms_walk {w : World} {r : Reach} {b0 : Nat} {v0 v1 : Value} {H : Type} {enc : TypeId × Value → H} {base : Nat} {spare : Nat → Bool} {held : Bool} {d0 d1 : DataW H} {p0 p1 : List MemPlace}
  (k0 : Value.okWide Try.prog w r b0 3 v0) (h0 : DataW.Trod enc Try.prog w base spare held 3 v0 d0 p0)
  (k1 : Value.okWide Try.prog w r b0 3 v1) (h1 : DataW.Trod enc Try.prog w base spare held 3 v1 d1 p1) :
  Calls Try.prog 5 #[v0, v1] w fun r w' => r = .returned (.bool true) ∧ Below w.heap.size w w' := by
 obtain ⟨x0, rfl, _, _, w0⟩ := open_int Try.underlying3 k0 h0
 obtain ⟨x1, rfl, _, _, w1⟩ := open_int Try.underlying3 k1 h1
 have hE : (envL w [] [(1, [x0]), (2, [x1])] [] []).Ok := envL_ok none_in (one_in (i64_bd w0) (one_in (i64_bd w1) none_in))
 have e0 : 0 ≤ ev (envL w [] [(1, [x0]), (2, [x1])] [] []) (.rem (.wrap .u64 (.var 1)) (.lit 7)) ∧ ev (envL w [] [(1, [x0]), (2, [x1])] [] []) (.rem (.wrap .u64 (.var 1)) (.lit 7)) ≤ 6 := by
  have h := rng_ok hE (fs := []) (fun _ h => (by cases h)) (.rem (.wrap .u64 (.var 1)) (.lit 7))
  rw [show rng [] (.rem (.wrap .u64 (.var 1)) (.lit 7)) = (0, 6) by kernel_rfl] at h
  exact h
 have e1 : 0 ≤ ev (envL w [] [(1, [x0]), (2, [x1])] [] []) (.rem (.wrap .u64 (.var 1)) (.lit 4)) ∧ ev (envL w [] [(1, [x0]), (2, [x1])] [] []) (.rem (.wrap .u64 (.var 1)) (.lit 4)) ≤ 3 := by
  have h := rng_ok hE (fs := []) (fun _ h => (by cases h)) (.rem (.wrap .u64 (.var 1)) (.lit 4))
  rw [show rng [] (.rem (.wrap .u64 (.var 1)) (.lit 4)) = (0, 3) by kernel_rfl] at h
  exact h
 have fin : ∀ z0 z1 : Int, ev (envL w [] [(1, [x0]), (2, [x1])] [] []) (.rem (.wrap .u64 (.var 1)) (.lit 7)) = z0 → ev (envL w [] [(1, [x0]), (2, [x1])] [] []) (.rem (.wrap .u64 (.var 1)) (.lit 4)) = z1 → okF z0 z1 = true → Calls Try.prog 5 #[.int .i64 x0, .int .i64 x1] w fun r w' => r = .returned (.bool true) ∧ Below w.heap.size w w' := fun z0 z1 g0 g1 hrun => by
  have := law_ok (funF_ok 5) hrun (E := (envL w [] [(1, [x0]), (2, [x1])] [] [])) (w := w) rfl (slMem_ok (ents := []) (fs := [((.rem (.wrap .u64 (.var 1)) (.lit 7)), z0, z0), ((.rem (.wrap .u64 (.var 1)) (.lit 4)), z1, z1)]) 60 hE rfl rfl (fun _ h => (by cases h)) (fun f hf => by
   simp only [List.mem_cons, List.not_mem_nil, or_false] at hf
   unfold FactOk
   rcases hf with rfl | rfl
   ·dsimp only
    omega
   ·dsimp only
    omega))
  simp only [List.map_cons, List.map_nil] at this
  exact this
 rcases (by omega : ev (envL w [] [(1, [x0]), (2, [x1])] [] []) (.rem (.wrap .u64 (.var 1)) (.lit 7)) = 0 ∨ ev (envL w [] [(1, [x0]), (2, [x1])] [] []) (.rem (.wrap .u64 (.var 1)) (.lit 7)) = 1 ∨ ev (envL w [] [(1, [x0]), (2, [x1])] [] []) (.rem (.wrap .u64 (.var 1)) (.lit 7)) = 2 ∨ ev (envL w [] [(1, [x0]), (2, [x1])] [] []) (.rem (.wrap .u64 (.var 1)) (.lit 7)) = 3 ∨ ev (envL w [] [(1, [x0]), (2, [x1])] [] []) (.rem (.wrap .u64 (.var 1)) (.lit 7)) = 4 ∨ ev (envL w [] [(1, [x0]), (2, [x1])] [] []) (.rem (.wrap .u64 (.var 1)) (.lit 7)) = 5 ∨ ev (envL w [] [(1, [x0]), (2, [x1])] [] []) (.rem (.wrap .u64 (.var 1)) (.lit 7)) = 6) with h0 | h0 | h0 | h0 | h0 | h0 | h0
 ·rcases (by omega : ev (envL w [] [(1, [x0]), (2, [x1])] [] []) (.rem (.wrap .u64 (.var 1)) (.lit 4)) = 0 ∨ ev (envL w [] [(1, [x0]), (2, [x1])] [] []) (.rem (.wrap .u64 (.var 1)) (.lit 4)) = 1 ∨ ev (envL w [] [(1, [x0]), (2, [x1])] [] []) (.rem (.wrap .u64 (.var 1)) (.lit 4)) = 2 ∨ ev (envL w [] [(1, [x0]), (2, [x1])] [] []) (.rem (.wrap .u64 (.var 1)) (.lit 4)) = 3) with h1 | h1 | h1 | h1
  ·exact fin 0 0 h0 h1 hf0_0
  ·exact fin 0 1 h0 h1 hf0_1
  ·exact fin 0 2 h0 h1 hf0_2
  ·exact fin 0 3 h0 h1 hf0_3
 ·rcases (by omega : ev (envL w [] [(1, [x0]), (2, [x1])] [] []) (.rem (.wrap .u64 (.var 1)) (.lit 4)) = 0 ∨ ev (envL w [] [(1, [x0]), (2, [x1])] [] []) (.rem (.wrap .u64 (.var 1)) (.lit 4)) = 1 ∨ ev (envL w [] [(1, [x0]), (2, [x1])] [] []) (.rem (.wrap .u64 (.var 1)) (.lit 4)) = 2 ∨ ev (envL w [] [(1, [x0]), (2, [x1])] [] []) (.rem (.wrap .u64 (.var 1)) (.lit 4)) = 3) with h1 | h1 | h1 | h1
  ·exact fin 1 0 h0 h1 hf1_0
  ·exact fin 1 1 h0 h1 hf1_1
  ·exact fin 1 2 h0 h1 hf1_2
  ·exact fin 1 3 h0 h1 hf1_3
 ·rcases (by omega : ev (envL w [] [(1, [x0]), (2, [x1])] [] []) (.rem (.wrap .u64 (.var 1)) (.lit 4)) = 0 ∨ ev (envL w [] [(1, [x0]), (2, [x1])] [] []) (.rem (.wrap .u64 (.var 1)) (.lit 4)) = 1 ∨ ev (envL w [] [(1, [x0]), (2, [x1])] [] []) (.rem (.wrap .u64 (.var 1)) (.lit 4)) = 2 ∨ ev (envL w [] [(1, [x0]), (2, [x1])] [] []) (.rem (.wrap .u64 (.var 1)) (.lit 4)) = 3) with h1 | h1 | h1 | h1
  ·exact fin 2 0 h0 h1 hf2_0
  ·exact fin 2 1 h0 h1 hf2_1
  ·exact fin 2 2 h0 h1 hf2_2
  ·exact fin 2 3 h0 h1 hf2_3
 ·rcases (by omega : ev (envL w [] [(1, [x0]), (2, [x1])] [] []) (.rem (.wrap .u64 (.var 1)) (.lit 4)) = 0 ∨ ev (envL w [] [(1, [x0]), (2, [x1])] [] []) (.rem (.wrap .u64 (.var 1)) (.lit 4)) = 1 ∨ ev (envL w [] [(1, [x0]), (2, [x1])] [] []) (.rem (.wrap .u64 (.var 1)) (.lit 4)) = 2 ∨ ev (envL w [] [(1, [x0]), (2, [x1])] [] []) (.rem (.wrap .u64 (.var 1)) (.lit 4)) = 3) with h1 | h1 | h1 | h1
  ·exact fin 3 0 h0 h1 hf3_0
  ·exact fin 3 1 h0 h1 hf3_1
  ·exact fin 3 2 h0 h1 hf3_2
  ·exact fin 3 3 h0 h1 hf3_3
 ·rcases (by omega : ev (envL w [] [(1, [x0]), (2, [x1])] [] []) (.rem (.wrap .u64 (.var 1)) (.lit 4)) = 0 ∨ ev (envL w [] [(1, [x0]), (2, [x1])] [] []) (.rem (.wrap .u64 (.var 1)) (.lit 4)) = 1 ∨ ev (envL w [] [(1, [x0]), (2, [x1])] [] []) (.rem (.wrap .u64 (.var 1)) (.lit 4)) = 2 ∨ ev (envL w [] [(1, [x0]), (2, [x1])] [] []) (.rem (.wrap .u64 (.var 1)) (.lit 4)) = 3) with h1 | h1 | h1 | h1
  ·exact fin 4 0 h0 h1 hf4_0
  ·exact fin 4 1 h0 h1 hf4_1
  ·exact fin 4 2 h0 h1 hf4_2
  ·exact fin 4 3 h0 h1 hf4_3
 ·rcases (by omega : ev (envL w [] [(1, [x0]), (2, [x1])] [] []) (.rem (.wrap .u64 (.var 1)) (.lit 4)) = 0 ∨ ev (envL w [] [(1, [x0]), (2, [x1])] [] []) (.rem (.wrap .u64 (.var 1)) (.lit 4)) = 1 ∨ ev (envL w [] [(1, [x0]), (2, [x1])] [] []) (.rem (.wrap .u64 (.var 1)) (.lit 4)) = 2 ∨ ev (envL w [] [(1, [x0]), (2, [x1])] [] []) (.rem (.wrap .u64 (.var 1)) (.lit 4)) = 3) with h1 | h1 | h1 | h1
  ·exact fin 5 0 h0 h1 hf5_0
  ·exact fin 5 1 h0 h1 hf5_1
  ·exact fin 5 2 h0 h1 hf5_2
  ·exact fin 5 3 h0 h1 hf5_3
 ·rcases (by omega : ev (envL w [] [(1, [x0]), (2, [x1])] [] []) (.rem (.wrap .u64 (.var 1)) (.lit 4)) = 0 ∨ ev (envL w [] [(1, [x0]), (2, [x1])] [] []) (.rem (.wrap .u64 (.var 1)) (.lit 4)) = 1 ∨ ev (envL w [] [(1, [x0]), (2, [x1])] [] []) (.rem (.wrap .u64 (.var 1)) (.lit 4)) = 2 ∨ ev (envL w [] [(1, [x0]), (2, [x1])] [] []) (.rem (.wrap .u64 (.var 1)) (.lit 4)) = 3) with h1 | h1 | h1 | h1
  ·exact fin 6 0 h0 h1 hf6_0
  ·exact fin 6 1 h0 h1 hf6_1
  ·exact fin 6 2 h0 h1 hf6_2
  ·exact fin 6 3 h0 h1 hf6_3
end Go.Proofs.Ytdchpckikclmlaa
namespace Go.Proofs.Ytdchpckikclmlaa.helpForms
open Go.ChangeShapes Go.WideShapes Go.ChangeAt Go.RowKit Go.Deep
set_option maxRecDepth 100000 in
theorem lifted (os : Os) (started : os.Started) (H : Type) (enc : TypeId × Value → H) :
  ReturnsInHanded {} Try.checked os 5 .any (Rows.helpFormsSpec.pre6 enc Try.prog Try.f5 Rows.helpFormsRow.domain false) (Rows.helpFormsSpec.post enc Try.prog Try.f5 false true false false) := by
 refine returnsInHanded_of_change (C := Try.checked) own started (by kernel_rfl) Try.func5
  (ChangeSpec.witness6 (enc := enc) (C := Try.checked) false ⟨#[], #[.int .i64 0, .int .i64 0], []⟩ 60 (by kernel_rfl) (by kernel_rfl) (by kernel_rfl) (by kernel_rfl)) ?_
 intro W base args ds gs before hval0 hW _ _
 have hval : ∀ (j : Nat) t v, Try.f5.params[j]? = some t → args[j]? = some v → Value.okWide Try.prog W .any base t v := hval0
 have hW' := hW
 obtain ⟨p, q, hA0, hV, rfl, _, _⟩ := hW
 have hA : DataW.TrodAll enc Try.prog W 0 (fun _ => true) true Try.f5.params.toList args.toList ds p := hA0
 rw [Try.params5] at hA hval
 obtain ⟨v0, vs0, d0, ds0, p0, q0, hargs, rfl, rfl, h0, r0⟩ := trodAll_cons hA
 obtain ⟨v1, vs1, d1, ds1, p1, q1, rfl, rfl, rfl, h1, r1⟩ := trodAll_cons r0
 obtain ⟨rfl, rfl, rfl⟩ := trodAll_nil r1
 obtain rfl : args = #[v0, v1] := by cases args; simp_all
 obtain ⟨rfl, rfl⟩ := trodVars_none hV
 have tl0 : ∀ x ∈ p0, x.block < W.heap.size := by obtain ⟨m, hm⟩ := h0; exact DataW.trod_lt m _ _ _ hm
 have tl1 : ∀ x ∈ p1, x.block < W.heap.size := by obtain ⟨m, hm⟩ := h1; exact DataW.trod_lt m _ _ _ hm
 clear hA0 hval0
 refine (helpForms_walk (hval 0 3 v0 rfl rfl) h0 (hval 1 3 v1 rfl rfl) h1).mono fun e W' ⟨he, bel⟩ => ?_
 subst he
 exact ⟨_, rfl, _, _, _, [], _, [], hW', trodAll_mk1 (shut_bool Try.underlying4 _), (trodAll_cons_mk (Below.trod laidOut (by kernel_rfl) (of_decide_eq_true (by kernel_rfl)) h0 bel tl0) (trodAll_cons_mk (Below.trod laidOut (by kernel_rfl) (of_decide_eq_true (by kernel_rfl)) h1 bel tl1) trodAll_mk0)), rfl, bel.frame _, fun h => by cases h⟩
theorem over : Rows.helpFormsRow.holds Try.pinned (OpenSpec.ofChange Rows.helpFormsSpec) :=
 OpenClaim.holds_of_wide 5 Try.f5 rfl rfl rfl rfl rfl rfl rfl ⟨rfl, rfl, rfl, rfl, rfl⟩ rfl rfl rfl rfl rfl (by kernel_rfl) Try.func5 (by kernel_rfl)
  (of_decide_eq_true (by kernel_rfl)) (by unfold Func.isWrapper; first | (rw [if_pos (by decide +kernel)]; kernel_rfl) | (rw [if_neg (by decide +kernel)]; exact ⟨rfl, rfl⟩))
  (fun os started H enc _ => lifted os started H enc)
theorem proved : Rows.HelpFormsSaid := over
#print axioms proved
end Go.Proofs.Ytdchpckikclmlaa.helpForms
