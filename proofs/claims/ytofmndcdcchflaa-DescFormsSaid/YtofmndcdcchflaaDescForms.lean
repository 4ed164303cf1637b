/- The law DescForms: for every input the call returns true, and each argument reads afterwards as it read before; no condition. -/
import Derived.Test.YtofmndcdcchflaaDF0
import Derived.Test.YtofmndcdcchflaaDF1
import Derived.Test.YtofmndcdcchflaaDF2
import Derived.Test.YtofmndcdcchflaaDF3
import Derived.Test.YtofmndcdcchflaaD
namespace Go.Proofs.Ytofmndcdcchflaa
open Go.Sx Go Go.DescNum Go.ChangeShapes Go.WideShapes Go.ChangeAt Go.RowKit Go.Deep
set_option maxRecDepth 100000
theorem descForms_walk {w : World} {r : Reach} {b0 : Nat} {v0 v1 : Value} {H : Type} {enc : TypeId × Value → H} {base : Nat} {spare : Nat → Bool} {held : Bool} {d0 d1 : DataW H} {p0 p1 : List MemPlace}
  (k0 : Value.okWide Try.prog w r b0 3 v0) (h0 : DataW.Trod enc Try.prog w base spare held 3 v0 d0 p0)
  (k1 : Value.okWide Try.prog w r b0 3 v1) (h1 : DataW.Trod enc Try.prog w base spare held 3 v1 d1 p1) :
  Calls Try.prog 4 #[v0, v1] w fun r w' => r = .returned (.bool true) ∧ Below w.heap.size w w' := by
 obtain ⟨a, rfl, _, _, wa⟩ := open_int Try.underlying3 k0 h0
 obtain ⟨b, rfl, _, _, wb⟩ := open_int Try.underlying3 k1 h1
 have hE : (envL [] w [] ((1, [a]) :: (2, [b]) :: []) [] []).Ok := envL_ok none_in (one_in (i64_bd wa) (one_in (i64_bd wb) none_in))
 have hr : 0 ≤ ev (envL [] w [] ((1, [a]) :: (2, [b]) :: []) [] []) (.rem (.wrap .u64 (.var 1)) (.lit 11)) ∧ ev (envL [] w [] ((1, [a]) :: (2, [b]) :: []) [] []) (.rem (.wrap .u64 (.var 1)) (.lit 11)) ≤ 10 := by
  have h := rng_ok hE (fs := []) (fun _ h => (by cases h)) (.rem (.wrap .u64 (.var 1)) (.lit 11))
  rw [show rng [] (.rem (.wrap .u64 (.var 1)) (.lit 11)) = (0, 10) by kernel_rfl] at h
  exact h
 have hs : 0 ≤ ev (envL [] w [] ((1, [a]) :: (2, [b]) :: []) [] []) (.rem (.wrap .u64 (.var 1)) (.lit 4)) ∧ ev (envL [] w [] ((1, [a]) :: (2, [b]) :: []) [] []) (.rem (.wrap .u64 (.var 1)) (.lit 4)) ≤ 3 := by
  have h := rng_ok hE (fs := []) (fun _ h => (by cases h)) (.rem (.wrap .u64 (.var 1)) (.lit 4))
  rw [show rng [] (.rem (.wrap .u64 (.var 1)) (.lit 4)) = (0, 3) by kernel_rfl] at h
  exact h
 have fin : ∀ k j : Int, ev (envL [] w [] ((1, [a]) :: (2, [b]) :: []) [] []) (.rem (.wrap .u64 (.var 1)) (.lit 11)) = k → ev (envL [] w [] ((1, [a]) :: (2, [b]) :: []) [] []) (.rem (.wrap .u64 (.var 1)) (.lit 4)) = j → okF k j = true → Calls Try.prog 4 #[.int .i64 a, .int .i64 b] w fun r w' => r = .returned (.bool true) ∧ Below w.heap.size w w' := fun k j hk hj hrun => by
  have := law_ok (callF_ok (G := G0 []) (spOf_ok okSpF) noBx 400 12 4) hrun (E := (envL [] w [] ((1, [a]) :: (2, [b]) :: []) [] [])) (w := w) rfl (slMem_ok (ents := []) (fs := [modF 11 k, modF 4 j]) 60 hE rfl rfl (fun _ h => (by cases h)) (fun f hf => by
   simp only [List.mem_cons, List.not_mem_nil, or_false] at hf
   unfold FactOk
   rcases hf with rfl | rfl
   ·unfold modF
    dsimp only
    omega
   ·unfold modF
    dsimp only
    omega))
  simp only [List.map_cons, List.map_nil] at this
  exact this
 have go : ∀ k : Int, ev (envL [] w [] ((1, [a]) :: (2, [b]) :: []) [] []) (.rem (.wrap .u64 (.var 1)) (.lit 11)) = k → okF k 0 = true → okF k 1 = true → okF k 2 = true → okF k 3 = true → Calls Try.prog 4 #[.int .i64 a, .int .i64 b] w fun r w' => r = .returned (.bool true) ∧ Below w.heap.size w w' := fun k hk r0 r1 r2 r3 => by
  rcases (by omega : ev (envL [] w [] ((1, [a]) :: (2, [b]) :: []) [] []) (.rem (.wrap .u64 (.var 1)) (.lit 4)) = 0 ∨ ev (envL [] w [] ((1, [a]) :: (2, [b]) :: []) [] []) (.rem (.wrap .u64 (.var 1)) (.lit 4)) = 1 ∨ ev (envL [] w [] ((1, [a]) :: (2, [b]) :: []) [] []) (.rem (.wrap .u64 (.var 1)) (.lit 4)) = 2 ∨ ev (envL [] w [] ((1, [a]) :: (2, [b]) :: []) [] []) (.rem (.wrap .u64 (.var 1)) (.lit 4)) = 3) with h | h | h | h
  ·exact fin k 0 hk h r0
  ·exact fin k 1 hk h r1
  ·exact fin k 2 hk h r2
  ·exact fin k 3 hk h r3
 rcases (by omega : ev (envL [] w [] ((1, [a]) :: (2, [b]) :: []) [] []) (.rem (.wrap .u64 (.var 1)) (.lit 11)) = 0 ∨ ev (envL [] w [] ((1, [a]) :: (2, [b]) :: []) [] []) (.rem (.wrap .u64 (.var 1)) (.lit 11)) = 1 ∨ ev (envL [] w [] ((1, [a]) :: (2, [b]) :: []) [] []) (.rem (.wrap .u64 (.var 1)) (.lit 11)) = 2 ∨ ev (envL [] w [] ((1, [a]) :: (2, [b]) :: []) [] []) (.rem (.wrap .u64 (.var 1)) (.lit 11)) = 3 ∨ ev (envL [] w [] ((1, [a]) :: (2, [b]) :: []) [] []) (.rem (.wrap .u64 (.var 1)) (.lit 11)) = 4 ∨ ev (envL [] w [] ((1, [a]) :: (2, [b]) :: []) [] []) (.rem (.wrap .u64 (.var 1)) (.lit 11)) = 5 ∨ ev (envL [] w [] ((1, [a]) :: (2, [b]) :: []) [] []) (.rem (.wrap .u64 (.var 1)) (.lit 11)) = 6 ∨ ev (envL [] w [] ((1, [a]) :: (2, [b]) :: []) [] []) (.rem (.wrap .u64 (.var 1)) (.lit 11)) = 7 ∨ ev (envL [] w [] ((1, [a]) :: (2, [b]) :: []) [] []) (.rem (.wrap .u64 (.var 1)) (.lit 11)) = 8 ∨ ev (envL [] w [] ((1, [a]) :: (2, [b]) :: []) [] []) (.rem (.wrap .u64 (.var 1)) (.lit 11)) = 9 ∨ ev (envL [] w [] ((1, [a]) :: (2, [b]) :: []) [] []) (.rem (.wrap .u64 (.var 1)) (.lit 11)) = 10) with h | h | h | h | h | h | h | h | h | h | h
 ·exact go 0 h df0_0 df0_1 df0_2 df0_3
 ·exact go 1 h df1_0 df1_1 df1_2 df1_3
 ·exact go 2 h df2_0 df2_1 df2_2 df2_3
 ·exact go 3 h df3_0 df3_1 df3_2 df3_3
 ·exact go 4 h df4_0 df4_1 df4_2 df4_3
 ·exact go 5 h df5_0 df5_1 df5_2 df5_3
 ·exact go 6 h df6_0 df6_1 df6_2 df6_3
 ·exact go 7 h df7_0 df7_1 df7_2 df7_3
 ·exact go 8 h df8_0 df8_1 df8_2 df8_3
 ·exact go 9 h df9_0 df9_1 df9_2 df9_3
 ·exact go 10 h df10_0 df10_1 df10_2 df10_3
end Go.Proofs.Ytofmndcdcchflaa
namespace Go.Proofs.Ytofmndcdcchflaa.descForms
open Go.ChangeShapes Go.WideShapes Go.ChangeAt Go.RowKit Go.Deep
set_option maxRecDepth 100000 in
theorem lifted (os : Os) (started : os.Started) (H : Type) (enc : TypeId × Value → H) :
  ReturnsInHanded {} Try.checked os 4 .any (Rows.descFormsSpec.pre6 enc Try.prog Try.f4 Rows.descFormsRow.domain false) (Rows.descFormsSpec.post enc Try.prog Try.f4 false true false false) := by
 refine returnsInHanded_of_change (C := Try.checked) own started (by kernel_rfl) Try.func4
  (ChangeSpec.witness6 (enc := enc) (C := Try.checked) false ⟨#[], #[.int .i64 0, .int .i64 0], []⟩ 60 (by kernel_rfl) (by kernel_rfl) (by kernel_rfl) (by kernel_rfl)) ?_
 intro W base args ds gs before hval0 hW _ _
 have hval : ∀ (j : Nat) t v, Try.f4.params[j]? = some t → args[j]? = some v → Value.okWide Try.prog W .any base t v := hval0
 have hW' := hW
 obtain ⟨p, q, hA0, hV, rfl, _, _⟩ := hW
 have hA : DataW.TrodAll enc Try.prog W 0 (fun _ => true) true Try.f4.params.toList args.toList ds p := hA0
 rw [Try.params4] at hA hval
 obtain ⟨v0, vs0, d0, ds0, p0, q0, hargs, rfl, rfl, h0, r0⟩ := trodAll_cons hA
 obtain ⟨v1, vs1, d1, ds1, p1, q1, rfl, rfl, rfl, h1, r1⟩ := trodAll_cons r0
 obtain ⟨rfl, rfl, rfl⟩ := trodAll_nil r1
 obtain rfl : args = #[v0, v1] := by cases args; simp_all
 obtain ⟨rfl, rfl⟩ := trodVars_none hV
 have tl0 : ∀ x ∈ p0, x.block < W.heap.size := by obtain ⟨m, hm⟩ := h0; exact DataW.trod_lt m _ _ _ hm
 have tl1 : ∀ x ∈ p1, x.block < W.heap.size := by obtain ⟨m, hm⟩ := h1; exact DataW.trod_lt m _ _ _ hm
 clear hA0 hval0
 refine (descForms_walk (hval 0 3 v0 rfl rfl) h0 (hval 1 3 v1 rfl rfl) h1).mono fun e W' ⟨he, bel⟩ => ?_
 subst he
 exact ⟨_, rfl, _, _, _, [], _, [], hW', trodAll_mk1 (shut_bool Try.underlying4 _), (trodAll_cons_mk (Below.trod laidOut (by kernel_rfl) (of_decide_eq_true (by kernel_rfl)) h0 bel tl0) (trodAll_cons_mk (Below.trod laidOut (by kernel_rfl) (of_decide_eq_true (by kernel_rfl)) h1 bel tl1) trodAll_mk0)), rfl, bel.frame _, fun h => by cases h⟩
theorem over : Rows.descFormsRow.holds Try.pinned (OpenSpec.ofChange Rows.descFormsSpec) :=
 OpenClaim.holds_of_wide 4 Try.f4 rfl rfl rfl rfl rfl rfl rfl ⟨rfl, rfl, rfl, rfl, rfl⟩ rfl rfl rfl rfl rfl (by kernel_rfl) Try.func4 (by kernel_rfl)
  (of_decide_eq_true (by kernel_rfl)) (by unfold Func.isWrapper; first | (rw [if_pos (by decide +kernel)]; kernel_rfl) | (rw [if_neg (by decide +kernel)]; exact ⟨rfl, rfl⟩))
  (fun os started H enc _ => lifted os started H enc)
theorem proved : Rows.DescFormsSaid := over
#print axioms proved
end Go.Proofs.Ytofmndcdcchflaa.descForms
