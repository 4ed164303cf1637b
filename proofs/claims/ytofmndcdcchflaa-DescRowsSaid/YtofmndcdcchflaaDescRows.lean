/- The law DescRows: for every input the call returns true, and each argument reads afterwards as it read before; no condition. -/
import Derived.Test.YtofmndcdcchflaaDW
import Derived.Test.YtofmndcdcchflaaD
namespace Go.Proofs.Ytofmndcdcchflaa
open Go.Sx Go Go.DescNum Go.ChangeShapes Go.WideShapes Go.ChangeAt Go.RowKit Go.Deep
set_option maxRecDepth 100000
theorem descRows_walk {w : World} {r : Reach} {b0 : Nat} {v0 : Value} {H : Type} {enc : TypeId × Value → H} {base : Nat} {spare : Nat → Bool} {held : Bool} {d0 : DataW H} {p0 : List MemPlace}
  (k0 : Value.okWide Try.prog w r b0 25 v0) (h0 : DataW.Trod enc Try.prog w base spare held 25 v0 d0 p0) :
  Calls Try.prog 6 #[v0] w fun r w' => r = .returned (.bool true) ∧ Below w.heap.size w w' := by
 obtain ⟨cs, rfl, hc⟩ := open_view k0
 have hv := numV_view hc
 have := law_ok (callF_ok (spOf_ok (okSpD hv)) (bxOf_ok (okLxD hv)) 400 12 6) dRun (E := envZ (numV cs) w) (w := w) rfl (slMem_ok (ents := []) (fs := [(g1 1101 (.lit 0), 0, 0)]) 60 envZ_ok rfl rfl (fun _ h => (by cases h)) (fun f hf => by
  rcases List.mem_singleton.1 hf with rfl
  unfold FactOk
  dsimp only
  have e : ev (envZ (numV cs) w) (g1 1101 (.lit (0 : Nat))) = _ := ev1101 (V := numV cs) rfl 0 (by omega)
  have h0 := cnt_le (V := numV cs) 0
  have e : ev (envZ (numV cs) w) (g1 1101 (.lit 0)) = (cnt (numV cs) 0 : Nat) := e
  rw [e]
  omega))
 simp only [List.map_cons, List.map_nil] at this
 rw [view_val hc rfl] at this
 exact this
end Go.Proofs.Ytofmndcdcchflaa
namespace Go.Proofs.Ytofmndcdcchflaa.descRows
open Go.ChangeShapes Go.WideShapes Go.ChangeAt Go.RowKit Go.Deep
set_option maxRecDepth 100000 in
theorem lifted (os : Os) (started : os.Started) (H : Type) (enc : TypeId × Value → H) :
  ReturnsInHanded {} Try.checked os 6 .any (Rows.descRowsSpec.pre6 enc Try.prog Try.f6 Rows.descRowsRow.domain false) (Rows.descRowsSpec.post enc Try.prog Try.f6 false true false false) := by
 refine returnsInHanded_of_change (C := Try.checked) own started (by kernel_rfl) Try.func6
  (ChangeSpec.witness6 (enc := enc) (C := Try.checked) false ⟨#[], #[.agg (Array.replicate 16 (.bool false) ++ Array.replicate 32 (.int .i64 0))], []⟩ 60 (by kernel_rfl) (by kernel_rfl) (by kernel_rfl) (by kernel_rfl)) ?_
 intro W base args ds gs before hval0 hW _ _
 have hval : ∀ (j : Nat) t v, Try.f6.params[j]? = some t → args[j]? = some v → Value.okWide Try.prog W .any base t v := hval0
 have hW' := hW
 obtain ⟨p, q, hA0, hV, rfl, _, _⟩ := hW
 have hA : DataW.TrodAll enc Try.prog W 0 (fun _ => true) true Try.f6.params.toList args.toList ds p := hA0
 rw [Try.params6] at hA hval
 obtain ⟨v0, vs0, d0, ds0, p0, q0, hargs, rfl, rfl, h0, r0⟩ := trodAll_cons hA
 obtain ⟨rfl, rfl, rfl⟩ := trodAll_nil r0
 obtain rfl : args = #[v0] := by cases args; simp_all
 obtain ⟨rfl, rfl⟩ := trodVars_none hV
 have tl0 : ∀ x ∈ p0, x.block < W.heap.size := by obtain ⟨m, hm⟩ := h0; exact DataW.trod_lt m _ _ _ hm
 clear hA0 hval0
 refine (descRows_walk (hval 0 25 v0 rfl rfl) h0).mono fun e W' ⟨he, bel⟩ => ?_
 subst he
 exact ⟨_, rfl, _, _, _, [], _, [], hW', trodAll_mk1 (shut_bool Try.underlying4 _), (trodAll_cons_mk (Below.trod laidOut (by kernel_rfl) (of_decide_eq_true (by kernel_rfl)) h0 bel tl0) trodAll_mk0), rfl, bel.frame _, fun h => by cases h⟩
theorem over : Rows.descRowsRow.holds Try.pinned (OpenSpec.ofChange Rows.descRowsSpec) :=
 OpenClaim.holds_of_wide 6 Try.f6 rfl rfl rfl rfl rfl rfl rfl ⟨rfl, rfl, rfl, rfl, rfl⟩ rfl rfl rfl rfl rfl (by kernel_rfl) Try.func6 (by kernel_rfl)
  (of_decide_eq_true (by kernel_rfl)) (by unfold Func.isWrapper; first | (rw [if_pos (by decide +kernel)]; kernel_rfl) | (rw [if_neg (by decide +kernel)]; exact ⟨rfl, rfl⟩))
  (fun os started H enc _ => lifted os started H enc)
theorem proved : Rows.DescRowsSaid := over
#print axioms proved
end Go.Proofs.Ytofmndcdcchflaa.descRows
