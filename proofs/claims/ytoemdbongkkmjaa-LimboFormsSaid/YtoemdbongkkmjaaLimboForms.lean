/- The law LimboForms: for every input the call returns true, and each argument reads afterwards as it read before; no condition. -/
import Derived.Test.YtoemdbongkkmjaaFM
import Derived.Test.YtoemdbongkkmjaaD
namespace Go.Proofs.Ytoemdbongkkmjaa
open Go.Sx Go Go.LimboNum Go.ChangeShapes Go.WideShapes Go.ChangeAt Go.RowKit Go.Deep
set_option maxRecDepth 100000
theorem limboForms_walk {w : World} {r : Reach} {b0 : Nat} {v0 v1 : Value} {H : Type} {enc : TypeId × Value → H} {base : Nat} {spare : Nat → Bool} {held : Bool} {d0 d1 : DataW H} {p0 p1 : List MemPlace}
  (k0 : Value.okWide Try.prog w r b0 3 v0) (h0 : DataW.Trod enc Try.prog w base spare held 3 v0 d0 p0)
  (k1 : Value.okWide Try.prog w r b0 3 v1) (h1 : DataW.Trod enc Try.prog w base spare held 3 v1 d1 p1) :
  Calls Try.prog 5 #[v0, v1] w fun r w' => r = .returned (.bool true) ∧ Below w.heap.size w w' := by
 obtain ⟨a, rfl, _, _, wa⟩ := open_int Try.underlying3 k0 h0
 obtain ⟨b, rfl, _, _, wb⟩ := open_int Try.underlying3 k1 h1
 have hE : (envL w [] ((1, [a]) :: (2, [b]) :: []) [] []).Ok := envL_ok none_in (one_in (i64_bd wa) (one_in (i64_bd wb) none_in))
 have hr : 0 ≤ ev (envL w [] ((1, [a]) :: (2, [b]) :: []) [] []) (.rem (.wrap .u64 (.var 1)) (.lit 4)) ∧ ev (envL w [] ((1, [a]) :: (2, [b]) :: []) [] []) (.rem (.wrap .u64 (.var 1)) (.lit 4)) ≤ 3 := by
  have h := rng_ok hE (fs := []) (fun _ h => (by cases h)) (.rem (.wrap .u64 (.var 1)) (.lit 4))
  rw [show rng [] (.rem (.wrap .u64 (.var 1)) (.lit 4)) = (0, 3) by kernel_rfl] at h
  exact h
 have fin : ∀ k : Int, ev (envL w [] ((1, [a]) :: (2, [b]) :: []) [] []) (.rem (.wrap .u64 (.var 1)) (.lit 4)) = k → okFm k = true → Calls Try.prog 5 #[.int .i64 a, .int .i64 b] w fun r w' => r = .returned (.bool true) ∧ Below w.heap.size w w' := fun k hk hrun => by
  have := law_ok (funB_ok (G := GZ) okSpB 5) hrun (E := (envL w [] ((1, [a]) :: (2, [b]) :: []) [] [])) (w := w) rfl (slMem_ok (ents := []) (fs := [modF k]) 60 hE rfl rfl (fun _ h => (by cases h)) (fun f hf => by
   rcases List.mem_singleton.1 hf with rfl
   unfold FactOk modF
   dsimp only
   omega))
  simp only [List.map_cons, List.map_nil] at this
  exact this
 rcases (by omega : ev (envL w [] ((1, [a]) :: (2, [b]) :: []) [] []) (.rem (.wrap .u64 (.var 1)) (.lit 4)) = 0 ∨ ev (envL w [] ((1, [a]) :: (2, [b]) :: []) [] []) (.rem (.wrap .u64 (.var 1)) (.lit 4)) = 1 ∨ ev (envL w [] ((1, [a]) :: (2, [b]) :: []) [] []) (.rem (.wrap .u64 (.var 1)) (.lit 4)) = 2 ∨ ev (envL w [] ((1, [a]) :: (2, [b]) :: []) [] []) (.rem (.wrap .u64 (.var 1)) (.lit 4)) = 3) with h | h | h | h
 ·exact fin 0 h fm0
 ·exact fin 1 h fm1
 ·exact fin 2 h fm2
 ·exact fin 3 h fm3
end Go.Proofs.Ytoemdbongkkmjaa
namespace Go.Proofs.Ytoemdbongkkmjaa.limboForms
open Go.ChangeShapes Go.WideShapes Go.ChangeAt Go.RowKit Go.Deep
set_option maxRecDepth 100000 in
theorem lifted (os : Os) (started : os.Started) (H : Type) (enc : TypeId × Value → H) :
  ReturnsInHanded {} Try.checked os 5 .any (Rows.limboFormsSpec.pre6 enc Try.prog Try.f5 Rows.limboFormsRow.domain false) (Rows.limboFormsSpec.post enc Try.prog Try.f5 false true false false) := by
 refine returnsInHanded_of_change (C := Try.checked) own started (by kernel_rfl) Try.func5
  (ChangeSpec.witness6 (enc := enc) (C := Try.checked) false ⟨#[], #[.int .i64 0, .int .i64 0], []⟩ 60 (by kernel_rfl) (by kernel_rfl) (by kernel_rfl) (by kernel_rfl)) ?_
 intro W base args ds gs before hval0 hW _ _
 have hval : ∀ (j : Nat) t v, Try.f5.params[j]? = some t → args[j]? = some v → Value.okWide Try.prog W .any base t v := hval0
 have hW' := hW
 obtain ⟨p, q, hA0, hV, rfl, _, _⟩ := hW
 have hA : DataW.TrodAll enc Try.prog W 0 (fun _ => true) true Try.f5.params.toList args.toList ds p := hA0
 rw [Try.params5] at hA hval
 obtain ⟨v0, vs0, d0, ds0, p0, q0, hargs, rfl, rfl, h0, r0⟩ := trodAll_cons hA
 obtain ⟨v1, vs1, d1, ds1, p1, q1, rfl, rfl, rfl, h1, r1⟩ := trodAll_cons r0
 obtain ⟨rfl, rfl, rfl⟩ := trodAll_nil r1
 obtain rfl : args = #[v0, v1] := by cases args; simp_all
 obtain ⟨rfl, rfl⟩ := trodVars_none hV
 have tl0 : ∀ x ∈ p0, x.block < W.heap.size := by obtain ⟨m, hm⟩ := h0; exact DataW.trod_lt m _ _ _ hm
 have tl1 : ∀ x ∈ p1, x.block < W.heap.size := by obtain ⟨m, hm⟩ := h1; exact DataW.trod_lt m _ _ _ hm
 clear hA0 hval0
 refine (limboForms_walk (hval 0 3 v0 rfl rfl) h0 (hval 1 3 v1 rfl rfl) h1).mono fun e W' ⟨he, bel⟩ => ?_
 subst he
 exact ⟨_, rfl, _, _, _, [], _, [], hW', trodAll_mk1 (shut_bool Try.underlying4 _), (trodAll_cons_mk (Below.trod laidOut (by kernel_rfl) (of_decide_eq_true (by kernel_rfl)) h0 bel tl0) (trodAll_cons_mk (Below.trod laidOut (by kernel_rfl) (of_decide_eq_true (by kernel_rfl)) h1 bel tl1) trodAll_mk0)), rfl, bel.frame _, fun h => by cases h⟩
theorem over : Rows.limboFormsRow.holds Try.pinned (OpenSpec.ofChange Rows.limboFormsSpec) :=
 OpenClaim.holds_of_wide 5 Try.f5 rfl rfl rfl rfl rfl rfl rfl ⟨rfl, rfl, rfl, rfl, rfl⟩ rfl rfl rfl rfl rfl (by kernel_rfl) Try.func5 (by kernel_rfl)
  (of_decide_eq_true (by kernel_rfl)) (by unfold Func.isWrapper; first | (rw [if_pos (by decide +kernel)]; kernel_rfl) | (rw [if_neg (by decide +kernel)]; exact ⟨rfl, rfl⟩))
  (fun os started H enc _ => lifted os started H enc)
theorem proved : Rows.LimboFormsSaid := over
#print axioms proved
end Go.Proofs.Ytoemdbongkkmjaa.limboForms
