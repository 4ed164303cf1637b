/- The law SkipBack: for every input the call returns true, and its arguments read afterwards as they read before; no condition. -/
import Derived.Test.YtdngeccbmalbnaaD
import Derived.Test.YtdngeccbmalbnaaK0
import Derived.Test.YtdngeccbmalbnaaK1
import Derived.Test.YtdngeccbmalbnaaK2
import Derived.Test.YtdngeccbmalbnaaK3
import Derived.Test.YtdngeccbmalbnaaK4
namespace Go.Proofs.Ytdngeccbmalbnaa
set_option maxRecDepth 100000
open Go.Sx Go.ChangeShapes Go.WideShapes Go.ChangeAt Go.RowKit Go.Deep
noncomputable def casesK : List (List Fact × List BE) := [([(eRow, 0, 0)], []), ([(eRow, 1, 1)], []), ([(eRow, 2, 2)], []), ([(eRow, 3, 3)], []), ([(eRow, 4, 4)], [])]
theorem rngRow : rng [] eRow = (0, 4) := by kernel_rfl
theorem rngKey : rng [] eKey = (0, 4) := by kernel_rfl
theorem oneF {E : Env} {e : IE} {z : Int} (h : ev E e = z) : ∀ f ∈ [(e, z, z)], FactOk E f := fun f hf => by
  rcases List.mem_singleton.1 hf with rfl
  unfold FactOk; dsimp only; omega
theorem casesK_all (E : Env) (hE : E.Ok) : ∃ c ∈ casesK, (∀ f ∈ c.1, FactOk E f) ∧ ∀ b ∈ c.2, evB E b = true := by
  have hk := rng_ok hE (fs := []) (fun _ h => by cases h) eRow
  rw [rngRow] at hk
  dsimp only at hk
  have nil : ∀ b ∈ ([] : List BE), evB E b = true := fun _ h => by cases h
  rcases (by omega : ev E eRow = 0 ∨ ev E eRow = 1 ∨ ev E eRow = 2 ∨ ev E eRow = 3 ∨ ev E eRow = 4) with k | k | k | k | k
  · exact ⟨_, List.mem_of_getElem? (i := 0) rfl, oneF k, nil⟩
  · exact ⟨_, List.mem_of_getElem? (i := 1) rfl, oneF k, nil⟩
  · exact ⟨_, List.mem_of_getElem? (i := 2) rfl, oneF k, nil⟩
  · exact ⟨_, List.mem_of_getElem? (i := 3) rfl, oneF k, nil⟩
  · exact ⟨_, List.mem_of_getElem? (i := 4) rfl, oneF k, nil⟩
theorem casesK_0 : ∀ c ∈ casesK, kOk 0 c = true := by
  unfold casesK
  exact List.forall_mem_cons.2 ⟨k_0_0, List.forall_mem_cons.2 ⟨k_0_1, List.forall_mem_cons.2 ⟨k_0_2, List.forall_mem_cons.2 ⟨k_0_3, List.forall_mem_cons.2 ⟨k_0_4, (fun _ h => by cases h)⟩⟩⟩⟩⟩
theorem casesK_1 : ∀ c ∈ casesK, kOk 1 c = true := by
  unfold casesK
  exact List.forall_mem_cons.2 ⟨k_1_0, List.forall_mem_cons.2 ⟨k_1_1, List.forall_mem_cons.2 ⟨k_1_2, List.forall_mem_cons.2 ⟨k_1_3, List.forall_mem_cons.2 ⟨k_1_4, (fun _ h => by cases h)⟩⟩⟩⟩⟩
theorem casesK_2 : ∀ c ∈ casesK, kOk 2 c = true := by
  unfold casesK
  exact List.forall_mem_cons.2 ⟨k_2_0, List.forall_mem_cons.2 ⟨k_2_1, List.forall_mem_cons.2 ⟨k_2_2, List.forall_mem_cons.2 ⟨k_2_3, List.forall_mem_cons.2 ⟨k_2_4, (fun _ h => by cases h)⟩⟩⟩⟩⟩
theorem casesK_3 : ∀ c ∈ casesK, kOk 3 c = true := by
  unfold casesK
  exact List.forall_mem_cons.2 ⟨k_3_0, List.forall_mem_cons.2 ⟨k_3_1, List.forall_mem_cons.2 ⟨k_3_2, List.forall_mem_cons.2 ⟨k_3_3, List.forall_mem_cons.2 ⟨k_3_4, (fun _ h => by cases h)⟩⟩⟩⟩⟩
theorem casesK_4 : ∀ c ∈ casesK, kOk 4 c = true := by
  unfold casesK
  exact List.forall_mem_cons.2 ⟨k_4_0, List.forall_mem_cons.2 ⟨k_4_1, List.forall_mem_cons.2 ⟨k_4_2, List.forall_mem_cons.2 ⟨k_4_3, List.forall_mem_cons.2 ⟨k_4_4, (fun _ h => by cases h)⟩⟩⟩⟩⟩
theorem bxK_ok {k : Nat} (h : ∀ c ∈ casesK, kOk k c = true) : BxOk G0 Try.prog (bxOf [(7, 0, loopK k)]) := bxOf_ok (by
  intro x hx
  simp only [List.mem_cons, List.not_mem_nil, or_false] at hx
  subst hx
  exact lx_ok Try.func7 (c := bodyOf Try.f7) rfl (b := loopBody 0 (bodyOf Try.f7)) (by kernel_rfl) (loopPd_ok (T := tabJ []) cxK_ok (jm := none) (fuel := 400) (noBlocks_ok _ _) (fun x hx => by
    rcases List.mem_singleton.1 hx with rfl
    exact ⟨casesK, fun E hE _ => casesK_all E hE, h⟩)))
/-- a key's runs are there -/
structure KeyOk (k : Nat) : Prop where
  c : ∀ c ∈ casesK, kOk k c = true
  s : okKs k = true
  n : okKn k = true
theorem keys_all (E : Env) (hE : E.Ok) : ∃ k : Nat, KeyOk k ∧ ev E eKey = k := by
  have hk := rng_ok hE (fs := []) (fun _ h => by cases h) eKey
  rw [rngKey] at hk
  dsimp only at hk
  rcases (by omega : ev E eKey = 0 ∨ ev E eKey = 1 ∨ ev E eKey = 2 ∨ ev E eKey = 3 ∨ ev E eKey = 4) with k | k | k | k | k
  · exact ⟨0, ⟨casesK_0, ks_0, kn_0⟩, k⟩
  · exact ⟨1, ⟨casesK_1, ks_1, kn_1⟩, k⟩
  · exact ⟨2, ⟨casesK_2, ks_2, kn_2⟩, k⟩
  · exact ⟨3, ⟨casesK_3, ks_3, kn_3⟩, k⟩
  · exact ⟨4, ⟨casesK_4, ks_4, kn_4⟩, k⟩
section
variable {H : Type} {enc : TypeId × Value → H} {w : World} {base : Nat} {spare : Nat → Bool} {held : Bool} {r : Reach} {b0 : Nat}
theorem skipBack_walk {v0 v1 v2 : Value} {d0 d1 d2 : DataW H} {p0 p1 p2 : List MemPlace}
    (k0 : Value.okWide Try.prog w r b0 43 v0) (h0 : DataW.Trod enc Try.prog w base spare held 43 v0 d0 p0)
    (k1 : Value.okWide Try.prog w r b0 3 v1) (h1 : DataW.Trod enc Try.prog w base spare held 3 v1 d1 p1)
    (k2 : Value.okWide Try.prog w r b0 3 v2) (h2 : DataW.Trod enc Try.prog w base spare held 3 v2 d2 p2) :
    Calls Try.prog 7 #[v0, v1, v2] w fun r w' => r = .returned (.bool true) ∧ Below w.heap.size w w' := by
  obtain ⟨a1, rfl, _, _, w1⟩ := open_int Try.underlying3 k1 h1
  obtain ⟨a2, rfl, _, _, w2⟩ := open_int Try.underlying3 k2 h2
  have i1 : in64 a1 := i64_bd w1
  have i2 : in64 a2 := i64_bd w2
  rcases open_int_slice (show Try.prog.underlying 43 = some (.slice 3) by kernel_rfl) (show Try.prog.underlying 3 = some (.int .i64) by kernel_rfl) (by kernel_rfl) k0 h0 with rfl | ⟨bb, o, len, cap, zs, rfl, _, hl, hm, hbk, hz, hzs, hc⟩
  · let E : Env := { envOf w [] [] [(6, [a1]), (7, [a2])] [] [] with f := G0 }
    have hO : (envOf w [] [] [(6, [a1]), (7, [a2])] [] []).Ok := envOf_ok (fun _ h => (by cases h)) (fun _ h => (by cases h)) (fun y hy z hz => by
      simp only [List.mem_cons, List.not_mem_nil, or_false] at hy
      rcases hy with rfl | rfl <;> (simp only [List.mem_cons, List.not_mem_nil, or_false] at hz; subst hz; assumption))
    have hEok : E.Ok := ⟨hO.i, hO.l, G0_in⟩
    obtain ⟨k, K, hk⟩ := keys_all E hEok
    have := law_ok (funL_ok okSpK 7) K.n (E := E) (w := w) rfl (slMem_ok 10 hEok rfl rfl (fun _ h => (by cases h)) (oneF hk))
    simp only [List.map_cons, List.map_nil] at this
    exact this
  · let S : SlArg := ⟨1, 2, 3, 4, 5, 1, bb, o, len, cap, zs⟩
    have hm' := hm
    unfold maxLen at hm'
    let E : Env := { envOf w [] [(5, zs)] [(2, [0]), (3, [(len : Int)]), (4, [(cap : Int)]), (6, [a1]), (7, [a2])] [(1, bb)] [(1, o)] with f := G0 }
    have hO : (envOf w [] [(5, zs)] [(2, [0]), (3, [(len : Int)]), (4, [(cap : Int)]), (6, [a1]), (7, [a2])] [(1, bb)] [(1, o)]).Ok := envOf_ok (fun _ h => (by cases h)) (fun x hx z hzx => by
        simp only [List.mem_cons, List.not_mem_nil, or_false] at hx; subst hx; exact hzs z hzx) (fun x hx z hzx => by
        simp only [List.mem_cons, List.not_mem_nil, or_false] at hx
        rcases hx with rfl | rfl | rfl | rfl | rfl
        · simp only [List.mem_cons, List.not_mem_nil, or_false] at hzx; subst hzx; simp [in64, lo64, hi64]
        · simp only [List.mem_cons, List.not_mem_nil, or_false] at hzx; subst hzx; simp only [in64, lo64, hi64]; omega
        · simp only [List.mem_cons, List.not_mem_nil, or_false] at hzx; subst hzx; simp only [in64, lo64, hi64]; omega
        all_goals (simp only [List.mem_cons, List.not_mem_nil, or_false] at hzx; subst hzx; assumption))
    have hEok : E.Ok := ⟨hO.i, hO.l, G0_in⟩
    have hN : S.Named E := ⟨rfl, rfl, rfl, rfl, rfl, rfl, (by show (5 : Nat) ≠ 0; decide)⟩
    have hH : S.Holds w := ⟨hbk, hl, hm, hz, hzs, hc⟩
    obtain ⟨k, K, hk⟩ := keys_all E hEok
    have := law_ok (s := runK k) (callF_ok (spC_ok okSpK) (bxK_ok K.c) 400 12 7) K.s (E := E) (w := w) rfl (slMem_ok 10 hEok rfl rfl (fun e he => by
        simp only [List.mem_cons, List.not_mem_nil, or_false] at he; subst he; exact ⟨rfl, SlArg.ent hN hH⟩)
        (fun f hf => by
          rcases List.mem_cons.1 hf with rfl | hf
          · exact oneF hk _ List.mem_cons_self
          · exact SlArg.facts hN hH (by show (len : Int) ≤ hi64; simp only [hi64]; omega) f hf))
    simp only [List.map_cons, List.map_nil] at this
    exact this
end
end Go.Proofs.Ytdngeccbmalbnaa
namespace Go.Proofs.Ytdngeccbmalbnaa.skipBack
open Go.ChangeShapes Go.WideShapes Go.ChangeAt Go.RowKit Go.Deep

set_option maxRecDepth 100000 in
theorem lifted (os : Os) (started : os.Started) (H : Type) (enc : TypeId × Value → H) :
    ReturnsInHanded {} Try.checked os 7 .any (Rows.skipBackSpec.pre6 enc Try.prog Try.f7 Rows.skipBackRow.domain false) (Rows.skipBackSpec.post enc Try.prog Try.f7 false true false false) := by
  refine returnsInHanded_of_change (C := Try.checked) own started (by kernel_rfl) Try.func7
    (ChangeSpec.witness6 (enc := enc) (C := Try.checked) false ⟨#[], #[.slice none 0 0, .int .i64 0, .int .i64 0], []⟩ 60 (by kernel_rfl) (by kernel_rfl) (by kernel_rfl) (by kernel_rfl)) ?_
  intro W base args ds gs before hval0 hW _ _
  have hval : ∀ (j : Nat) t v, Try.f7.params[j]? = some t → args[j]? = some v → Value.okWide Try.prog W .any base t v := hval0
  have hW' := hW
  obtain ⟨p, q, hA0, hV, rfl, _, _⟩ := hW
  have hA : DataW.TrodAll enc Try.prog W 0 (fun _ => true) true Try.f7.params.toList args.toList ds p := hA0
  rw [Try.params7] at hA hval
  obtain ⟨v0, vs0, d0, ds0, p0, q0, hargs, rfl, rfl, h0, r0⟩ := trodAll_cons hA
  obtain ⟨v1, vs1, d1, ds1, p1, q1, rfl, rfl, rfl, h1, r1⟩ := trodAll_cons r0
  obtain ⟨v2, vs2, d2, ds2, p2, q2, rfl, rfl, rfl, h2, r2⟩ := trodAll_cons r1
  obtain ⟨rfl, rfl, rfl⟩ := trodAll_nil r2
  obtain rfl : args = #[v0, v1, v2] := by cases args; simp_all
  obtain ⟨rfl, rfl⟩ := trodVars_none hV
  have tl0 : ∀ x ∈ p0, x.block < W.heap.size := by obtain ⟨m, hm⟩ := h0; exact DataW.trod_lt m _ _ _ hm
  have tl1 : ∀ x ∈ p1, x.block < W.heap.size := by obtain ⟨m, hm⟩ := h1; exact DataW.trod_lt m _ _ _ hm
  have tl2 : ∀ x ∈ p2, x.block < W.heap.size := by obtain ⟨m, hm⟩ := h2; exact DataW.trod_lt m _ _ _ hm
  clear hA0 hval0
  refine (skipBack_walk (hval 0 43 v0 rfl rfl) h0 (hval 1 3 v1 rfl rfl) h1 (hval 2 3 v2 rfl rfl) h2).mono fun e W' ⟨he, bel⟩ => ?_
  subst he
  exact ⟨_, rfl, _, _, _, [], _, [], hW', trodAll_mk1 (shut_bool Try.underlying4 _), (trodAll_cons_mk (Below.trod laidOut (by kernel_rfl) (of_decide_eq_true (by kernel_rfl)) h0 bel tl0) (trodAll_cons_mk (Below.trod laidOut (by kernel_rfl) (of_decide_eq_true (by kernel_rfl)) h1 bel tl1) (trodAll_cons_mk (Below.trod laidOut (by kernel_rfl) (of_decide_eq_true (by kernel_rfl)) h2 bel tl2) trodAll_mk0))), rfl, bel.frame _, fun h => by cases h⟩

theorem over : Rows.skipBackRow.holds Try.pinned (OpenSpec.ofChange Rows.skipBackSpec) :=
  OpenClaim.holds_of_wide 7 Try.f7 rfl rfl rfl rfl rfl rfl rfl ⟨rfl, rfl, rfl, rfl, rfl⟩ rfl rfl rfl rfl rfl (by kernel_rfl) Try.func7 (by kernel_rfl)
    (of_decide_eq_true (by kernel_rfl)) (by unfold Func.isWrapper; first | (rw [if_pos (by decide +kernel)]; kernel_rfl) | (rw [if_neg (by decide +kernel)]; exact ⟨rfl, rfl⟩))
    (fun os started H enc _ => lifted os started H enc)

theorem proved : Rows.SkipBackSaid := over
#print axioms proved
end Go.Proofs.Ytdngeccbmalbnaa.skipBack
