/- the law Banks over views that may be. -/
import Derived.Test.YthhjijadllpcpaaK0
import Derived.Test.YthhjijadllpcpaaK1
import Derived.Test.YthhjijadllpcpaaK2
import Derived.Test.YthhjijadllpcpaaK3
import Derived.Test.YthhjijadllpcpaaK4
import Derived.Test.YthhjijadllpcpaaK5
import Derived.Test.YthhjijadllpcpaaK6
import Derived.Test.YthhjijadllpcpaaK7
import Derived.Test.YthhjijadllpcpaaK8
namespace Go.Proofs.Ythhjijadllpcpaa
set_option maxRecDepth 100000
open Go.Sx Go.ChangeShapes Go.WideShapes Go.ChangeAt Go.RowKit Go.Deep
theorem banks_A {w : World} {cs : List Value} (hc : IsView cs) (hm : AllMay cs) {k a b x : Int} (hk : in64 k) (ha : in64 a) (hb : in64 b) (hx : in64 x) :
    Calls Try.prog 3 #[.agg cs.toArray, opVal k a b x] w fun r w' => r = .returned (.bool true) ∧ Below w.heap.size w w' := by
  have one : ∀ {e : IE} {lo hi : Int}, lo ≤ ev (envV w cs (opInts k a b x)) e → ev (envV w cs (opInts k a b x)) e ≤ hi → ∀ f ∈ [((e, lo, hi) : Fact)], FactOk (envV w cs (opInts k a b x)) f := fun h1 h2 f hf => by
    rcases List.mem_singleton.1 hf with rfl
    exact ⟨h1, h2⟩
  have nil : ∀ f ∈ ([] : List Fact), FactOk (envV w cs (opInts k a b x)) f := fun _ h => (by cases h)
  have k1 := hk.1
  have k2 := hk.2
  have a1 := ha.1
  have a2 := ha.2
  have b1 := hb.1
  have b2 := hb.2
  rcases op_cases k a b with h | h | rfl | ⟨rfl | rfl | rfl | rfl, h⟩ | ⟨rfl, h⟩
  · exact run_vo (fun1_ok 3) K_neg hc hk ha hb hx rfl (facts_A hm (one k1 h))
  · exact run_vo (fun1_ok 3) K_big hc hk ha hb hx rfl (facts_A hm (one h k2))
  · have x1 := hx.1
    have x2 := hx.2
    have none : ∀ c ∈ ([] : List BE), evB (envV w cs (opInts 5 a b x)) c = true := fun _ h => (by cases h)
    rcases (by omega : a ≤ -1 ∨ 1 ≤ a ∨ b ≤ -1 ∨ 1 ≤ b ∨ x ≤ -1 ∨ 1 ≤ x ∨ (a = 0 ∧ b = 0 ∧ x = 0)) with h | h | h | h | h | h | ⟨rfl, rfl, rfl⟩
    · exact run_vc (fun1_ok 3) K_5al hc hk ha hb hx rfl (facts_A hm (one a1 h)) none
    · exact run_vc (fun1_ok 3) K_5ah hc hk ha hb hx rfl (facts_A hm (one h a2)) none
    · exact run_vc (fun1_ok 3) K_5bl hc hk ha hb hx rfl (facts_A hm (one b1 h)) none
    · exact run_vc (fun1_ok 3) K_5bh hc hk ha hb hx rfl (facts_A hm (one h b2)) none
    · exact run_vc (fun1_ok 3) K_5xl hc hk ha hb hx rfl (facts_A hm (one x1 h)) none
    · exact run_vc (fun1_ok 3) K_5xh hc hk ha hb hx rfl (facts_A hm (one h x2)) none
    · have nilA : ∀ f ∈ rngs 6 16 (rngs 7 16 []), FactOk (envV w cs (opInts 5 0 0 0)) f := fun f h => facts_A hm (fs := []) nil f h
      rcases kn_cases (envV w cs (opInts 5 0 0 0)) with h | h | h | h | h
      · exact run_vc (fun1_ok 3) K_5u0 hc hk ha hb hx rfl nilA (kn_ok (n := 0) (c := false) (fun i hi => by
          omega) fun _ => h)
      · exact run_vc (fun1_ok 3) K_5u1 hc hk ha hb hx rfl nilA (kn_ok (n := 1) (c := false) (fun i hi => by
          rcases (by omega : i = 0) with rfl
          · exact h.1
          ) fun _ => h.2)
      · exact run_vc (fun1_ok 3) K_5u2 hc hk ha hb hx rfl nilA (kn_ok (n := 2) (c := false) (fun i hi => by
          rcases (by omega : i = 0 ∨ i = 1) with rfl | rfl
          · exact h.1
          · exact h.2.1
          ) fun _ => h.2.2)
      · exact run_vc (fun1_ok 3) K_5u3 hc hk ha hb hx rfl nilA (kn_ok (n := 3) (c := false) (fun i hi => by
          rcases (by omega : i = 0 ∨ i = 1 ∨ i = 2) with rfl | rfl | rfl
          · exact h.1
          · exact h.2.1
          · exact h.2.2.1
          ) fun _ => h.2.2.2)
      · have kn4 := kn_ok (E := envV w cs (opInts 5 0 0 0)) (n := 4) (c := true) (fun i hi => by
          rcases (by omega : i = 0 ∨ i = 1 ∨ i = 2 ∨ i = 3) with rfl | rfl | rfl | rfl
          · exact h.1
          · exact h.2.1
          · exact h.2.2.1
          · exact h.2.2.2) (fun e => by cases e)
        have cut : ∀ i : Nat, i < 16 → FactOk (envV w cs (opInts 5 0 0 0)) (.sel 7 (.lit (i : Int)), 0, 0) ∨ FactOk (envV w cs (opInts 5 0 0 0)) (.sel 7 (.lit (i : Int)), 1, 1099511627775) := fun i hi => by
          have h1 := (row_at (w := w) (cs := cs) (ints := opInts 5 0 0 0) i hi).2
          have h2 := hm (16 + i) (by omega)
          rw [show 16 + (16 + i) = 32 + i by omega] at h2
          unfold FactOk
          rw [h1]
          dsimp only
          omega
        have four : ∀ {f0 f1 f2 f3 : Fact}, FactOk (envV w cs (opInts 5 0 0 0)) f0 → FactOk (envV w cs (opInts 5 0 0 0)) f1 → FactOk (envV w cs (opInts 5 0 0 0)) f2 → FactOk (envV w cs (opInts 5 0 0 0)) f3 → ∀ f ∈ [f0, f1, f2, f3], FactOk (envV w cs (opInts 5 0 0 0)) f := fun h0 h1 h2 h3 f hf => by
          simp only [List.mem_cons, List.not_mem_nil, or_false] at hf
          rcases hf with rfl | rfl | rfl | rfl <;> assumption
        rcases cut 0 (by decide) with c0 | c0 <;> rcases cut 1 (by decide) with c1 | c1 <;> rcases cut 2 (by decide) with c2 | c2 <;> rcases cut 3 (by decide) with c3 | c3
        · exact run_vc (fun1_ok 3) K_5s0000 hc hk ha hb hx rfl (facts_A hm (four c0 c1 c2 c3)) kn4
        · exact run_vc (fun1_ok 3) K_5s0001 hc hk ha hb hx rfl (facts_A hm (four c0 c1 c2 c3)) kn4
        · exact run_vc (fun1_ok 3) K_5s0010 hc hk ha hb hx rfl (facts_A hm (four c0 c1 c2 c3)) kn4
        · exact run_vc (fun1_ok 3) K_5s0011 hc hk ha hb hx rfl (facts_A hm (four c0 c1 c2 c3)) kn4
        · exact run_vc (fun1_ok 3) K_5s0100 hc hk ha hb hx rfl (facts_A hm (four c0 c1 c2 c3)) kn4
        · exact run_vc (fun1_ok 3) K_5s0101 hc hk ha hb hx rfl (facts_A hm (four c0 c1 c2 c3)) kn4
        · exact run_vc (fun1_ok 3) K_5s0110 hc hk ha hb hx rfl (facts_A hm (four c0 c1 c2 c3)) kn4
        · exact run_vc (fun1_ok 3) K_5s0111 hc hk ha hb hx rfl (facts_A hm (four c0 c1 c2 c3)) kn4
        · exact run_vc (fun1_ok 3) K_5s1000 hc hk ha hb hx rfl (facts_A hm (four c0 c1 c2 c3)) kn4
        · exact run_vc (fun1_ok 3) K_5s1001 hc hk ha hb hx rfl (facts_A hm (four c0 c1 c2 c3)) kn4
        · exact run_vc (fun1_ok 3) K_5s1010 hc hk ha hb hx rfl (facts_A hm (four c0 c1 c2 c3)) kn4
        · exact run_vc (fun1_ok 3) K_5s1011 hc hk ha hb hx rfl (facts_A hm (four c0 c1 c2 c3)) kn4
        · exact run_vc (fun1_ok 3) K_5s1100 hc hk ha hb hx rfl (facts_A hm (four c0 c1 c2 c3)) kn4
        · exact run_vc (fun1_ok 3) K_5s1101 hc hk ha hb hx rfl (facts_A hm (four c0 c1 c2 c3)) kn4
        · exact run_vc (fun1_ok 3) K_5s1110 hc hk ha hb hx rfl (facts_A hm (four c0 c1 c2 c3)) kn4
        · have sp : ∀ {e : IE}, FactOk (envV w cs (opInts 5 0 0 0)) (e, 1, 1099511627775) → FactOk (envV w cs (opInts 5 0 0 0)) (e, 1, 1) ∨ FactOk (envV w cs (opInts 5 0 0 0)) (e, 2, 1099511627775) := fun h => by
            unfold FactOk at h ⊢
            dsimp only at h ⊢
            omega
          rcases sp c0 with c0 | c0 <;> rcases sp c1 with c1 | c1
          · exact run_vc (fun1_ok 3) K_5s1111_00 hc hk ha hb hx rfl (facts_A hm (four c0 c1 c2 c3)) kn4
          · exact run_vc (fun1_ok 3) K_5s1111_01 hc hk ha hb hx rfl (facts_A hm (four c0 c1 c2 c3)) kn4
          · exact run_vc (fun1_ok 3) K_5s1111_10 hc hk ha hb hx rfl (facts_A hm (four c0 c1 c2 c3)) kn4
          · exact run_vc (fun1_ok 3) K_5s1111_11 hc hk ha hb hx rfl (facts_A hm (four c0 c1 c2 c3)) kn4
  · rcases h with h | h | h | h | h
    · exact run_vo (fun1_ok 3) K_0al hc hk ha hb hx rfl (facts_A hm (one a1 h))
    · exact run_vo (fun1_ok 3) K_0ah hc hk ha hb hx rfl (facts_A hm (one h a2))
    · exact run_vo (fun1_ok 3) K_0bl hc hk ha hb hx rfl (facts_A hm (one b1 h))
    · exact run_vo (fun1_ok 3) K_0bh hc hk ha hb hx rfl (facts_A hm (one h b2))
    · obtain ⟨rfl | rfl | rfl | rfl, rfl⟩ := h
      · exact run_vo (fun1_ok 3) K_0_0_0 hc hk ha hb hx rfl (facts_A hm nil)
      · exact run_vo (fun1_ok 3) K_0_1_0 hc hk ha hb hx rfl (facts_A hm nil)
      · exact run_vo (fun1_ok 3) K_0_2_0 hc hk ha hb hx rfl (facts_A hm nil)
      · exact run_vo (fun1_ok 3) K_0_3_0 hc hk ha hb hx rfl (facts_A hm nil)
  · rcases h with h | h | h | h | h
    · exact run_vo (fun1_ok 3) K_1al hc hk ha hb hx rfl (facts_A hm (one a1 h))
    · exact run_vo (fun1_ok 3) K_1ah hc hk ha hb hx rfl (facts_A hm (one h a2))
    · exact run_vo (fun1_ok 3) K_1bl hc hk ha hb hx rfl (facts_A hm (one b1 h))
    · exact run_vo (fun1_ok 3) K_1bh hc hk ha hb hx rfl (facts_A hm (one h b2))
    · obtain ⟨rfl | rfl | rfl | rfl, rfl⟩ := h
      · exact run_vo (fun1_ok 3) K_1_0_0 hc hk ha hb hx rfl (facts_A hm nil)
      · exact run_vo (fun1_ok 3) K_1_1_0 hc hk ha hb hx rfl (facts_A hm nil)
      · exact run_vo (fun1_ok 3) K_1_2_0 hc hk ha hb hx rfl (facts_A hm nil)
      · exact run_vo (fun1_ok 3) K_1_3_0 hc hk ha hb hx rfl (facts_A hm nil)
  · rcases h with h | h | h | h | h
    · exact run_vo (fun1_ok 3) K_2al hc hk ha hb hx rfl (facts_A hm (one a1 h))
    · exact run_vo (fun1_ok 3) K_2ah hc hk ha hb hx rfl (facts_A hm (one h a2))
    · exact run_vo (fun1_ok 3) K_2bl hc hk ha hb hx rfl (facts_A hm (one b1 h))
    · exact run_vo (fun1_ok 3) K_2bh hc hk ha hb hx rfl (facts_A hm (one h b2))
    · obtain ⟨rfl | rfl | rfl | rfl, rfl⟩ := h
      · exact run_vo (fun1_ok 3) K_2_0_0 hc hk ha hb hx rfl (facts_A hm nil)
      · exact run_vo (fun1_ok 3) K_2_1_0 hc hk ha hb hx rfl (facts_A hm nil)
      · exact run_vo (fun1_ok 3) K_2_2_0 hc hk ha hb hx rfl (facts_A hm nil)
      · exact run_vo (fun1_ok 3) K_2_3_0 hc hk ha hb hx rfl (facts_A hm nil)
  · rcases h with h | h | h | h | h
    · exact run_vo (fun1_ok 3) K_3al hc hk ha hb hx rfl (facts_A hm (one a1 h))
    · exact run_vo (fun1_ok 3) K_3ah hc hk ha hb hx rfl (facts_A hm (one h a2))
    · exact run_vo (fun1_ok 3) K_3bl hc hk ha hb hx rfl (facts_A hm (one b1 h))
    · exact run_vo (fun1_ok 3) K_3bh hc hk ha hb hx rfl (facts_A hm (one h b2))
    · obtain ⟨rfl | rfl | rfl | rfl, rfl⟩ := h
      · exact run_vo (fun1_ok 3) K_3_0_0 hc hk ha hb hx rfl (facts_A hm nil)
      · exact run_vo (fun1_ok 3) K_3_1_0 hc hk ha hb hx rfl (facts_A hm nil)
      · exact run_vo (fun1_ok 3) K_3_2_0 hc hk ha hb hx rfl (facts_A hm nil)
      · exact run_vo (fun1_ok 3) K_3_3_0 hc hk ha hb hx rfl (facts_A hm nil)
  · rcases h with h | h | h | h | h
    · exact run_vo (fun1_ok 3) K_4al hc hk ha hb hx rfl (facts_A hm (one a1 h))
    · exact run_vo (fun1_ok 3) K_4ah hc hk ha hb hx rfl (facts_A hm (one h a2))
    · exact run_vo (fun1_ok 3) K_4bl hc hk ha hb hx rfl (facts_A hm (one b1 h))
    · exact run_vo (fun1_ok 3) K_4bh hc hk ha hb hx rfl (facts_A hm (one h b2))
    · obtain ⟨rfl | rfl | rfl | rfl, rfl | rfl | rfl | rfl⟩ := h
      · exact run_vo (fun1_ok 3) K_4_0_0 hc hk ha hb hx rfl (facts_A hm nil)
      · exact run_vo (fun1_ok 3) K_4_0_1 hc hk ha hb hx rfl (facts_A hm nil)
      · exact run_vo (fun1_ok 3) K_4_0_2 hc hk ha hb hx rfl (facts_A hm nil)
      · exact run_vo (fun1_ok 3) K_4_0_3 hc hk ha hb hx rfl (facts_A hm nil)
      · exact run_vo (fun1_ok 3) K_4_1_0 hc hk ha hb hx rfl (facts_A hm nil)
      · exact run_vo (fun1_ok 3) K_4_1_1 hc hk ha hb hx rfl (facts_A hm nil)
      · exact run_vo (fun1_ok 3) K_4_1_2 hc hk ha hb hx rfl (facts_A hm nil)
      · exact run_vo (fun1_ok 3) K_4_1_3 hc hk ha hb hx rfl (facts_A hm nil)
      · exact run_vo (fun1_ok 3) K_4_2_0 hc hk ha hb hx rfl (facts_A hm nil)
      · exact run_vo (fun1_ok 3) K_4_2_1 hc hk ha hb hx rfl (facts_A hm nil)
      · exact run_vo (fun1_ok 3) K_4_2_2 hc hk ha hb hx rfl (facts_A hm nil)
      · exact run_vo (fun1_ok 3) K_4_2_3 hc hk ha hb hx rfl (facts_A hm nil)
      · exact run_vo (fun1_ok 3) K_4_3_0 hc hk ha hb hx rfl (facts_A hm nil)
      · exact run_vo (fun1_ok 3) K_4_3_1 hc hk ha hb hx rfl (facts_A hm nil)
      · exact run_vo (fun1_ok 3) K_4_3_2 hc hk ha hb hx rfl (facts_A hm nil)
      · exact run_vo (fun1_ok 3) K_4_3_3 hc hk ha hb hx rfl (facts_A hm nil)
end Go.Proofs.Ythhjijadllpcpaa
