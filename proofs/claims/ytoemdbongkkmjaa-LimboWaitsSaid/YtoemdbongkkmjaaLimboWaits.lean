/- The law LimboWaits: for every input the call returns true, and each argument reads afterwards as it read before; no condition. -/
import Derived.Test.YtoemdbongkkmjaaWL
namespace Go.Proofs.Ytoemdbongkkmjaa
open Go.Sx Go Go.LimboNum Go.ChangeShapes Go.WideShapes Go.ChangeAt Go.RowKit Go.Deep
set_option maxRecDepth 100000
theorem limboWaits_walk {w : World} {r : Reach} {b0 : Nat} {v0 : Value} {H : Type} {enc : TypeId × Value → H} {base : Nat} {spare : Nat → Bool} {held : Bool} {d0 : DataW H} {p0 : List MemPlace}
  (k0 : Value.okWide Try.prog w r b0 29 v0) (h0 : DataW.Trod enc Try.prog w base spare held 29 v0 d0 p0) :
  Calls Try.prog 4 #[v0] w fun r w' => r = .returned (.bool true) ∧ Below w.heap.size w w' := by
 rcases open_a k0 h0 with rfl | ⟨a, _⟩
 ·let E := envL w [] [] [] []
  have hE : E.Ok := envL_ok none_in none_in
  have := law_ok (funB_ok (G := GZ) okSpB 4) wtNil (E := E) (w := w) rfl (slMem_ok (ents := []) (fs := []) 60 hE rfl rfl (fun _ h => (by cases h)) (fun f hf => (by cases hf)))
  exact this
 ·let E := envL w [(14, a.zs)] (a.ints 10 ++ []) [(10, a.b)] [(10, a.o)]
  have hE : E.Ok := envL_ok (row_in a.h.nums none_in) (a.ints_in 10 none_in)
  have n1 : (a.arg 10).Named E := ⟨rfl, rfl, rfl, rfl, rfl, rfl, (by show (14 : Nat) ≠ 0; decide)⟩
  have := law_ok funWt_ok wtRun (E := E) (w := w) rfl (slMem_ok (ents := [enW 10]) (fs := faW 10) 60 hE rfl rfl (fun e he => by
   rcases List.mem_singleton.1 he with rfl
   exact a.ent n1) (fun f hf => a.facts n1 f hf))
  rw [show (([slW 10] : List SV).map (dv E)).toArray = #[v0] by
   show #[dv E (slW 10)] = _
   rw [a.val n1]] at this
  exact this
end Go.Proofs.Ytoemdbongkkmjaa
namespace Go.Proofs.Ytoemdbongkkmjaa.limboWaits
open Go.ChangeShapes Go.WideShapes Go.ChangeAt Go.RowKit Go.Deep
set_option maxRecDepth 100000 in
theorem lifted (os : Os) (started : os.Started) (H : Type) (enc : TypeId × Value → H) :
  ReturnsInHanded {} Try.checked os 4 .any (Rows.limboWaitsSpec.pre6 enc Try.prog Try.f4 Rows.limboWaitsRow.domain false) (Rows.limboWaitsSpec.post enc Try.prog Try.f4 false true false false) := by
 refine returnsInHanded_of_change (C := Try.checked) own started (by kernel_rfl) Try.func4
  (ChangeSpec.witness6 (enc := enc) (C := Try.checked) false ⟨#[], #[.slice none 0 0], []⟩ 60 (by kernel_rfl) (by kernel_rfl) (by kernel_rfl) (by kernel_rfl)) ?_
 intro W base args ds gs before hval0 hW _ _
 have hval : ∀ (j : Nat) t v, Try.f4.params[j]? = some t → args[j]? = some v → Value.okWide Try.prog W .any base t v := hval0
 have hW' := hW
 obtain ⟨p, q, hA0, hV, rfl, _, _⟩ := hW
 have hA : DataW.TrodAll enc Try.prog W 0 (fun _ => true) true Try.f4.params.toList args.toList ds p := hA0
 rw [Try.params4] at hA hval
 obtain ⟨v0, vs0, d0, ds0, p0, q0, hargs, rfl, rfl, h0, r0⟩ := trodAll_cons hA
 obtain ⟨rfl, rfl, rfl⟩ := trodAll_nil r0
 obtain rfl : args = #[v0] := by cases args; simp_all
 obtain ⟨rfl, rfl⟩ := trodVars_none hV
 have tl0 : ∀ x ∈ p0, x.block < W.heap.size := by obtain ⟨m, hm⟩ := h0; exact DataW.trod_lt m _ _ _ hm
 clear hA0 hval0
 refine (limboWaits_walk (hval 0 29 v0 rfl rfl) h0).mono fun e W' ⟨he, bel⟩ => ?_
 subst he
 exact ⟨_, rfl, _, _, _, [], _, [], hW', trodAll_mk1 (shut_bool Try.underlying4 _), (trodAll_cons_mk (Below.trod laidOut (by kernel_rfl) (of_decide_eq_true (by kernel_rfl)) h0 bel tl0) trodAll_mk0), rfl, bel.frame _, fun h => by cases h⟩
theorem over : Rows.limboWaitsRow.holds Try.pinned (OpenSpec.ofChange Rows.limboWaitsSpec) :=
 OpenClaim.holds_of_wide 4 Try.f4 rfl rfl rfl rfl rfl rfl rfl ⟨rfl, rfl, rfl, rfl, rfl⟩ rfl rfl rfl rfl rfl (by kernel_rfl) Try.func4 (by kernel_rfl)
  (of_decide_eq_true (by kernel_rfl)) (by unfold Func.isWrapper; first | (rw [if_pos (by decide +kernel)]; kernel_rfl) | (rw [if_neg (by decide +kernel)]; exact ⟨rfl, rfl⟩))
  (fun os started H enc _ => lifted os started H enc)
theorem proved : Rows.LimboWaitsSaid := over
#print axioms proved
end Go.Proofs.Ytoemdbongkkmjaa.limboWaits
