/- The law BodyForms: for every input the call returns true; no condition. -/
import Derived.Test.YtnfmmiomomgabaaFa
import Derived.Test.YtnfmmiomomgabaaFb
import Derived.Test.YtnfmmiomomgabaaD
namespace Go.Proofs.Ytnfmmiomomgabaa
open Go.Sx Go Go.ChangeShapes Go.WideShapes Go.ChangeAt Go.RowKit Go.Deep
set_option maxRecDepth 100000
theorem rngW : rng [] eW = (0, 17) := by kernel_rfl
theorem forms_all (E : Env) (hE : E.Ok) : ∃ i : Int, okForm i = true ∧ ev E eW = i := by
  have hk := rng_ok hE (fs := []) (fun _ h => (by cases h)) eW
  rw [rngW] at hk
  dsimp only at hk
  rcases (by omega : ev E eW = 0 ∨ ev E eW = 1 ∨ ev E eW = 2 ∨ ev E eW = 3 ∨ ev E eW = 4 ∨ ev E eW = 5 ∨ ev E eW = 6 ∨ ev E eW = 7 ∨ ev E eW = 8 ∨ ev E eW = 9 ∨ ev E eW = 10 ∨ ev E eW = 11 ∨ ev E eW = 12 ∨ ev E eW = 13 ∨ ev E eW = 14 ∨ ev E eW = 15 ∨ ev E eW = 16 ∨ ev E eW = 17) with h | h | h | h | h | h | h | h | h | h | h | h | h | h | h | h | h | h
  · exact ⟨0, form_0, h⟩
  · exact ⟨1, form_1, h⟩
  · exact ⟨2, form_2, h⟩
  · exact ⟨3, form_3, h⟩
  · exact ⟨4, form_4, h⟩
  · exact ⟨5, form_5, h⟩
  · exact ⟨6, form_6, h⟩
  · exact ⟨7, form_7, h⟩
  · exact ⟨8, form_8, h⟩
  · exact ⟨9, form_9, h⟩
  · exact ⟨10, form_10, h⟩
  · exact ⟨11, form_11, h⟩
  · exact ⟨12, form_12, h⟩
  · exact ⟨13, form_13, h⟩
  · exact ⟨14, form_14, h⟩
  · exact ⟨15, form_15, h⟩
  · exact ⟨16, form_16, h⟩
  · exact ⟨17, form_17, h⟩
section
variable {H : Type} {enc : TypeId × Value → H} {w : World} {base : Nat} {spare : Nat → Bool} {held : Bool} {r : Reach} {b0 : Nat}
theorem bodyForms_walk {v0 v1 : Value} {d0 d1 : DataW H} {p0 p1 : List MemPlace}
    (k0 : Value.okWide Try.prog w r b0 3 v0) (h0 : DataW.Trod enc Try.prog w base spare held 3 v0 d0 p0)
    (k1 : Value.okWide Try.prog w r b0 3 v1) (h1 : DataW.Trod enc Try.prog w base spare held 3 v1 d1 p1) :
    Calls Try.prog 5 #[v0, v1] w fun r w' => r = .returned (.bool true) ∧ Below w.heap.size w w' := by
  obtain ⟨a0, rfl, _, _, w0⟩ := open_int Try.underlying3 k0 h0
  obtain ⟨a1, rfl, _, _, w1⟩ := open_int Try.underlying3 k1 h1
  have i0 : in64 a0 := i64_bd w0
  have i1 : in64 a1 := i64_bd w1
  let E : Env := { envOf w [] [] [(6, [a0]), (7, [a1])] [] [] with f := G0 }
  have hO : (envOf w [] [] [(6, [a0]), (7, [a1])] [] []).Ok := envOf_ok (fun _ h => (by cases h)) (fun _ h => (by cases h)) (fun y hy z hz => by
    simp only [List.mem_cons, List.not_mem_nil, or_false] at hy
    rcases hy with rfl | rfl <;> (simp only [List.mem_cons, List.not_mem_nil, or_false] at hz; subst hz; assumption))
  have hEok : E.Ok := ⟨hO.i, hO.l, G0_in⟩
  obtain ⟨i, hr, hi⟩ := forms_all E hEok
  unfold okForm at hr
  have := law_ok (funL_ok okSpF 5) hr (E := E) (w := w) rfl (slMem_ok 10 hEok rfl rfl (fun _ h => (by cases h)) (fun f hf => by
    rcases List.mem_singleton.1 hf with rfl
    unfold FactOk; dsimp only; omega))
  simp only [List.map_cons, List.map_nil] at this
  exact this
end
end Go.Proofs.Ytnfmmiomomgabaa
namespace Go.Proofs.Ytnfmmiomomgabaa.bodyForms
open Go.ChangeShapes Go.WideShapes Go.ChangeAt Go.RowKit Go.Deep

set_option maxRecDepth 100000 in
theorem lifted (os : Os) (started : os.Started) (H : Type) (enc : TypeId × Value → H) :
    ReturnsInHanded {} Try.checked os 5 .any (Rows.bodyFormsSpec.pre6 enc Try.prog Try.f5 Rows.bodyFormsRow.domain false) (Rows.bodyFormsSpec.post enc Try.prog Try.f5 false true false false) := by
  refine returnsInHanded_of_change (C := Try.checked) own started (by kernel_rfl) Try.func5
    (ChangeSpec.witness6 (enc := enc) (C := Try.checked) false ⟨#[], #[.int .i64 0, .int .i64 0], []⟩ 60 (by kernel_rfl) (by kernel_rfl) (by kernel_rfl) (by kernel_rfl)) ?_
  intro W base args ds gs before hval0 hW _ _
  have hval : ∀ (j : Nat) t v, Try.f5.params[j]? = some t → args[j]? = some v → Value.okWide Try.prog W .any base t v := hval0
  have hW' := hW
  obtain ⟨p, q, hA0, hV, rfl, _, _⟩ := hW
  have hA : DataW.TrodAll enc Try.prog W 0 (fun _ => true) true Try.f5.params.toList args.toList ds p := hA0
  rw [Try.params5] at hA hval
  obtain ⟨v0, vs0, d0, ds0, p0, q0, hargs, rfl, rfl, h0, r0⟩ := trodAll_cons hA
  obtain ⟨v1, vs1, d1, ds1, p1, q1, rfl, rfl, rfl, h1, r1⟩ := trodAll_cons r0
  obtain ⟨rfl, rfl, rfl⟩ := trodAll_nil r1
  obtain rfl : args = #[v0, v1] := by cases args; simp_all
  obtain ⟨rfl, rfl⟩ := trodVars_none hV
  have tl0 : ∀ x ∈ p0, x.block < W.heap.size := by obtain ⟨m, hm⟩ := h0; exact DataW.trod_lt m _ _ _ hm
  have tl1 : ∀ x ∈ p1, x.block < W.heap.size := by obtain ⟨m, hm⟩ := h1; exact DataW.trod_lt m _ _ _ hm
  clear hA0 hval0
  refine (bodyForms_walk (hval 0 3 v0 rfl rfl) h0 (hval 1 3 v1 rfl rfl) h1).mono fun e W' ⟨he, bel⟩ => ?_
  subst he
  exact ⟨_, rfl, _, _, _, [], _, [], hW', trodAll_mk1 (shut_bool Try.underlying4 _), (trodAll_cons_mk (Below.trod laidOut (by kernel_rfl) (of_decide_eq_true (by kernel_rfl)) h0 bel tl0) (trodAll_cons_mk (Below.trod laidOut (by kernel_rfl) (of_decide_eq_true (by kernel_rfl)) h1 bel tl1) trodAll_mk0)), rfl, bel.frame _, fun h => by cases h⟩

theorem over : Rows.bodyFormsRow.holds Try.pinned (OpenSpec.ofChange Rows.bodyFormsSpec) :=
  OpenClaim.holds_of_wide 5 Try.f5 rfl rfl rfl rfl rfl rfl rfl ⟨rfl, rfl, rfl, rfl, rfl⟩ rfl rfl rfl rfl rfl (by kernel_rfl) Try.func5 (by kernel_rfl)
    (of_decide_eq_true (by kernel_rfl)) (by unfold Func.isWrapper; first | (rw [if_pos (by decide +kernel)]; kernel_rfl) | (rw [if_neg (by decide +kernel)]; exact ⟨rfl, rfl⟩))
    (fun os started H enc _ => lifted os started H enc)

theorem proved : Rows.BodyFormsSaid := over
#print axioms proved
end Go.Proofs.Ytnfmmiomomgabaa.bodyForms
