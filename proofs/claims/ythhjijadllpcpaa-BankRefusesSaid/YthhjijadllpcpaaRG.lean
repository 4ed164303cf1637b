/- the law BankRefuses over views that may be. -/
import Derived.Test.YthhjijadllpcpaaR0
import Derived.Test.YthhjijadllpcpaaR1
import Derived.Test.YthhjijadllpcpaaR2
import Derived.Test.YthhjijadllpcpaaR3
namespace Go.Proofs.Ythhjijadllpcpaa
set_option maxRecDepth 100000
open Go.Sx Go.ChangeShapes Go.WideShapes Go.ChangeAt Go.RowKit Go.Deep
theorem bankRefuses_A {w : World} {cs : List Value} (hc : IsView cs) (hm : AllMay cs) {k a b x : Int} (hk : in64 k) (ha : in64 a) (hb : in64 b) (hx : in64 x) :
    Calls Try.prog 7 #[.agg cs.toArray, opVal k a b x] w fun r w' => r = .returned (.bool true) ∧ Below w.heap.size w w' := by
  have one : ∀ {e : IE} {lo hi : Int}, lo ≤ ev (envV w cs (opInts k a b x)) e → ev (envV w cs (opInts k a b x)) e ≤ hi → ∀ f ∈ [((e, lo, hi) : Fact)], FactOk (envV w cs (opInts k a b x)) f := fun h1 h2 f hf => by
    rcases List.mem_singleton.1 hf with rfl
    exact ⟨h1, h2⟩
  have nil : ∀ f ∈ ([] : List Fact), FactOk (envV w cs (opInts k a b x)) f := fun _ h => (by cases h)
  have k1 := hk.1
  have k2 := hk.2
  have a1 := ha.1
  have a2 := ha.2
  have b1 := hb.1
  have b2 := hb.2
  rcases op_cases k a b with h | h | rfl | ⟨rfl | rfl | rfl | rfl, h⟩ | ⟨rfl, h⟩
  · exact run_vo (fun1_ok 7) R_neg hc hk ha hb hx rfl (facts_A hm (one k1 h))
  · exact run_vo (fun1_ok 7) R_big hc hk ha hb hx rfl (facts_A hm (one h k2))
  · exact run_vo (fun1_ok 7) R_k5 hc hk ha hb hx rfl (facts_A hm nil)
  · rcases h with h | h | h | h | h
    · exact run_vo (fun1_ok 7) R_0al hc hk ha hb hx rfl (facts_A hm (one a1 h))
    · exact run_vo (fun1_ok 7) R_0ah hc hk ha hb hx rfl (facts_A hm (one h a2))
    · exact run_vo (fun1_ok 7) R_0bl hc hk ha hb hx rfl (facts_A hm (one b1 h))
    · exact run_vo (fun1_ok 7) R_0bh hc hk ha hb hx rfl (facts_A hm (one h b2))
    · obtain ⟨rfl | rfl | rfl | rfl, rfl⟩ := h
      · exact run_vo (fun1_ok 7) R_0_0_0 hc hk ha hb hx rfl (facts_A hm nil)
      · exact run_vo (fun1_ok 7) R_0_1_0 hc hk ha hb hx rfl (facts_A hm nil)
      · exact run_vo (fun1_ok 7) R_0_2_0 hc hk ha hb hx rfl (facts_A hm nil)
      · exact run_vo (fun1_ok 7) R_0_3_0 hc hk ha hb hx rfl (facts_A hm nil)
  · rcases h with h | h | h | h | h
    · exact run_vo (fun1_ok 7) R_1al hc hk ha hb hx rfl (facts_A hm (one a1 h))
    · exact run_vo (fun1_ok 7) R_1ah hc hk ha hb hx rfl (facts_A hm (one h a2))
    · exact run_vo (fun1_ok 7) R_1bl hc hk ha hb hx rfl (facts_A hm (one b1 h))
    · exact run_vo (fun1_ok 7) R_1bh hc hk ha hb hx rfl (facts_A hm (one h b2))
    · obtain ⟨rfl | rfl | rfl | rfl, rfl⟩ := h
      · exact run_vo (fun1_ok 7) R_1_0_0 hc hk ha hb hx rfl (facts_A hm nil)
      · exact run_vo (fun1_ok 7) R_1_1_0 hc hk ha hb hx rfl (facts_A hm nil)
      · exact run_vo (fun1_ok 7) R_1_2_0 hc hk ha hb hx rfl (facts_A hm nil)
      · exact run_vo (fun1_ok 7) R_1_3_0 hc hk ha hb hx rfl (facts_A hm nil)
  · rcases h with h | h | h | h | h
    · exact run_vo (fun1_ok 7) R_2al hc hk ha hb hx rfl (facts_A hm (one a1 h))
    · exact run_vo (fun1_ok 7) R_2ah hc hk ha hb hx rfl (facts_A hm (one h a2))
    · exact run_vo (fun1_ok 7) R_2bl hc hk ha hb hx rfl (facts_A hm (one b1 h))
    · exact run_vo (fun1_ok 7) R_2bh hc hk ha hb hx rfl (facts_A hm (one h b2))
    · obtain ⟨rfl | rfl | rfl | rfl, rfl⟩ := h
      · exact run_vo (fun1_ok 7) R_2_0_0 hc hk ha hb hx rfl (facts_A hm nil)
      · exact run_vo (fun1_ok 7) R_2_1_0 hc hk ha hb hx rfl (facts_A hm nil)
      · exact run_vo (fun1_ok 7) R_2_2_0 hc hk ha hb hx rfl (facts_A hm nil)
      · exact run_vo (fun1_ok 7) R_2_3_0 hc hk ha hb hx rfl (facts_A hm nil)
  · rcases h with h | h | h | h | h
    · exact run_vo (fun1_ok 7) R_3al hc hk ha hb hx rfl (facts_A hm (one a1 h))
    · exact run_vo (fun1_ok 7) R_3ah hc hk ha hb hx rfl (facts_A hm (one h a2))
    · exact run_vo (fun1_ok 7) R_3bl hc hk ha hb hx rfl (facts_A hm (one b1 h))
    · exact run_vo (fun1_ok 7) R_3bh hc hk ha hb hx rfl (facts_A hm (one h b2))
    · obtain ⟨rfl | rfl | rfl | rfl, rfl⟩ := h
      · exact run_vo (fun1_ok 7) R_3_0_0 hc hk ha hb hx rfl (facts_A hm nil)
      · exact run_vo (fun1_ok 7) R_3_1_0 hc hk ha hb hx rfl (facts_A hm nil)
      · exact run_vo (fun1_ok 7) R_3_2_0 hc hk ha hb hx rfl (facts_A hm nil)
      · exact run_vo (fun1_ok 7) R_3_3_0 hc hk ha hb hx rfl (facts_A hm nil)
  · rcases h with h | h | h | h | h
    · exact run_vo (fun1_ok 7) R_4al hc hk ha hb hx rfl (facts_A hm (one a1 h))
    · exact run_vo (fun1_ok 7) R_4ah hc hk ha hb hx rfl (facts_A hm (one h a2))
    · exact run_vo (fun1_ok 7) R_4bl hc hk ha hb hx rfl (facts_A hm (one b1 h))
    · exact run_vo (fun1_ok 7) R_4bh hc hk ha hb hx rfl (facts_A hm (one h b2))
    · obtain ⟨rfl | rfl | rfl | rfl, rfl | rfl | rfl | rfl⟩ := h
      · exact run_vo (fun1_ok 7) R_4_0_0 hc hk ha hb hx rfl (facts_A hm nil)
      · exact run_vo (fun1_ok 7) R_4_0_1 hc hk ha hb hx rfl (facts_A hm nil)
      · exact run_vo (fun1_ok 7) R_4_0_2 hc hk ha hb hx rfl (facts_A hm nil)
      · exact run_vo (fun1_ok 7) R_4_0_3 hc hk ha hb hx rfl (facts_A hm nil)
      · exact run_vo (fun1_ok 7) R_4_1_0 hc hk ha hb hx rfl (facts_A hm nil)
      · exact run_vo (fun1_ok 7) R_4_1_1 hc hk ha hb hx rfl (facts_A hm nil)
      · exact run_vo (fun1_ok 7) R_4_1_2 hc hk ha hb hx rfl (facts_A hm nil)
      · exact run_vo (fun1_ok 7) R_4_1_3 hc hk ha hb hx rfl (facts_A hm nil)
      · exact run_vo (fun1_ok 7) R_4_2_0 hc hk ha hb hx rfl (facts_A hm nil)
      · exact run_vo (fun1_ok 7) R_4_2_1 hc hk ha hb hx rfl (facts_A hm nil)
      · exact run_vo (fun1_ok 7) R_4_2_2 hc hk ha hb hx rfl (facts_A hm nil)
      · exact run_vo (fun1_ok 7) R_4_2_3 hc hk ha hb hx rfl (facts_A hm nil)
      · exact run_vo (fun1_ok 7) R_4_3_0 hc hk ha hb hx rfl (facts_A hm nil)
      · exact run_vo (fun1_ok 7) R_4_3_1 hc hk ha hb hx rfl (facts_A hm nil)
      · exact run_vo (fun1_ok 7) R_4_3_2 hc hk ha hb hx rfl (facts_A hm nil)
      · exact run_vo (fun1_ok 7) R_4_3_3 hc hk ha hb hx rfl (facts_A hm nil)
end Go.Proofs.Ythhjijadllpcpaa
