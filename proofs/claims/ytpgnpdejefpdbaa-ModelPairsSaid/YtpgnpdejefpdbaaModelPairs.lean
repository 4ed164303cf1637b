/- The law ModelPairs: for every input the call returns true, and each argument reads afterwards as it read before; no condition. -/
import Derived.Test.YtpgnpdejefpdbaaPr
import Derived.Test.YtpgnpdejefpdbaaD
namespace Go.Proofs.Ytpgnpdejefpdbaa
open Go.Sx Go Go.ChangeShapes Go.WideShapes Go.ChangeAt Go.RowKit Go.Deep
set_option maxRecDepth 100000
theorem modelPairs_walk {w : World} {r : Reach} {b0 : Nat} {v0 v1 v2 : Value} {H : Type} {enc : TypeId × Value → H} {base : Nat} {spare : Nat → Bool} {held : Bool} {d0 d1 d2 : DataW H} {p0 p1 p2 : List MemPlace}
  (k0 : Value.okWide Try.prog w r b0 25 v0) (_ : DataW.Trod enc Try.prog w base spare held 25 v0 d0 p0)
  (k1 : Value.okWide Try.prog w r b0 44 v1) (_ : DataW.Trod enc Try.prog w base spare held 44 v1 d1 p1)
  (k2 : Value.okWide Try.prog w r b0 44 v2) (_ : DataW.Trod enc Try.prog w base spare held 44 v2 d2 p2) :
  Calls Try.prog 7 #[v0, v1, v2] w fun r w' => r = .returned (.bool true) ∧ Below w.heap.size w w' := by
 obtain ⟨c0, c1, c2, c3, i0, i1, i2, i3, i4, rfl, g0, g1, g2, g3⟩ := open_st k0
 obtain ⟨k, a, b, x, rfl, hk, ha, hb, hx⟩ := open_op k1
 obtain ⟨k', a', b', x', rfl, hk', ha', hb', hx'⟩ := open_op k2
 have hE : (envL w [c0, c1, c2, c3] [i0, i1, i2, i3, i4] [] (opI k a b x ((14, [k']) :: (15, [a']) :: (16, [b']) :: (17, [x']) :: [])) [] []).Ok := envL_ok (in4s g0 g1 g2 g3) none_in (opI_in hk ha hb hx (one_in hk' (one_in ha' (one_in hb' (one_in hx' none_in)))))
 have := law_ok (funP_ok 7) pairs_run (w := w) rfl (slMem_ok 50 hE rfl rfl (fun _ h => (by cases h)) (fun _ h => (by cases h)))
 simp only [List.map_cons, List.map_nil] at this
 exact this
end Go.Proofs.Ytpgnpdejefpdbaa
namespace Go.Proofs.Ytpgnpdejefpdbaa.modelPairs
open Go.ChangeShapes Go.WideShapes Go.ChangeAt Go.RowKit Go.Deep
set_option maxRecDepth 100000 in
theorem lifted (os : Os) (started : os.Started) (H : Type) (enc : TypeId × Value → H) :
  ReturnsInHanded {} Try.checked os 7 .any (Rows.modelPairsSpec.pre6 enc Try.prog Try.f7 Rows.modelPairsRow.domain false) (Rows.modelPairsSpec.post enc Try.prog Try.f7 false true false false) := by
 refine returnsInHanded_of_change (C := Try.checked) own started (by kernel_rfl) Try.func7
  (ChangeSpec.witness6 (enc := enc) (C := Try.checked) false ⟨#[], #[.agg (Array.replicate 4 (.int .i64 0) ++ Array.replicate 5 (.bool false)), .agg (Array.replicate 4 (.int .i64 0)), .agg (Array.replicate 4 (.int .i64 0))], []⟩ 60 (by kernel_rfl) (by kernel_rfl) (by kernel_rfl) (by kernel_rfl)) ?_
 intro W base args ds gs before hval0 hW _ _
 have hval : ∀ (j : Nat) t v, Try.f7.params[j]? = some t → args[j]? = some v → Value.okWide Try.prog W .any base t v := hval0
 have hW' := hW
 obtain ⟨p, q, hA0, hV, rfl, _, _⟩ := hW
 have hA : DataW.TrodAll enc Try.prog W 0 (fun _ => true) true Try.f7.params.toList args.toList ds p := hA0
 rw [Try.params7] at hA hval
 obtain ⟨v0, vs0, d0, ds0, p0, q0, hargs, rfl, rfl, h0, r0⟩ := trodAll_cons hA
 obtain ⟨v1, vs1, d1, ds1, p1, q1, rfl, rfl, rfl, h1, r1⟩ := trodAll_cons r0
 obtain ⟨v2, vs2, d2, ds2, p2, q2, rfl, rfl, rfl, h2, r2⟩ := trodAll_cons r1
 obtain ⟨rfl, rfl, rfl⟩ := trodAll_nil r2
 obtain rfl : args = #[v0, v1, v2] := by cases args; simp_all
 obtain ⟨rfl, rfl⟩ := trodVars_none hV
 have tl0 : ∀ x ∈ p0, x.block < W.heap.size := by obtain ⟨m, hm⟩ := h0; exact DataW.trod_lt m _ _ _ hm
 have tl1 : ∀ x ∈ p1, x.block < W.heap.size := by obtain ⟨m, hm⟩ := h1; exact DataW.trod_lt m _ _ _ hm
 have tl2 : ∀ x ∈ p2, x.block < W.heap.size := by obtain ⟨m, hm⟩ := h2; exact DataW.trod_lt m _ _ _ hm
 clear hA0 hval0
 refine (modelPairs_walk (hval 0 25 v0 rfl rfl) h0 (hval 1 44 v1 rfl rfl) h1 (hval 2 44 v2 rfl rfl) h2).mono fun e W' ⟨he, bel⟩ => ?_
 subst he
 exact ⟨_, rfl, _, _, _, [], _, [], hW', trodAll_mk1 (shut_bool Try.underlying4 _), (trodAll_cons_mk (Below.trod laidOut (by kernel_rfl) (of_decide_eq_true (by kernel_rfl)) h0 bel tl0) (trodAll_cons_mk (Below.trod laidOut (by kernel_rfl) (of_decide_eq_true (by kernel_rfl)) h1 bel tl1) (trodAll_cons_mk (Below.trod laidOut (by kernel_rfl) (of_decide_eq_true (by kernel_rfl)) h2 bel tl2) trodAll_mk0))), rfl, bel.frame _, fun h => by cases h⟩
theorem over : Rows.modelPairsRow.holds Try.pinned (OpenSpec.ofChange Rows.modelPairsSpec) :=
 OpenClaim.holds_of_wide 7 Try.f7 rfl rfl rfl rfl rfl rfl rfl ⟨rfl, rfl, rfl, rfl, rfl⟩ rfl rfl rfl rfl rfl (by kernel_rfl) Try.func7 (by kernel_rfl)
  (of_decide_eq_true (by kernel_rfl)) (by unfold Func.isWrapper; first | (rw [if_pos (by decide +kernel)]; kernel_rfl) | (rw [if_neg (by decide +kernel)]; exact ⟨rfl, rfl⟩))
  (fun os started H enc _ => lifted os started H enc)
theorem proved : Rows.ModelPairsSaid := over
#print axioms proved
end Go.Proofs.Ytpgnpdejefpdbaa.modelPairs
