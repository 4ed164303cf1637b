/- the law Banks, whatever comes in. -/
import Derived.Test.YthhjijadllpcpaaKB
import Derived.Test.YthhjijadllpcpaaKG
namespace Go.Proofs.Ythhjijadllpcpaa
set_option maxRecDepth 100000
open Go.Sx Go.ChangeShapes Go.WideShapes Go.ChangeAt Go.RowKit Go.Deep
section
variable {H : Type} {enc : TypeId × Value → H} {w : World} {base : Nat} {spare : Nat → Bool} {held : Bool} {r : Reach} {b0 : Nat}
theorem banks_walk {v0 v1 : Value} {d0 d1 : DataW H} {p0 p1 : List MemPlace}
    (k0 : Value.okWide Try.prog w r b0 25 v0) (_h0 : DataW.Trod enc Try.prog w base spare held 25 v0 d0 p0)
    (k1 : Value.okWide Try.prog w r b0 27 v1) (_h1 : DataW.Trod enc Try.prog w base spare held 27 v1 d1 p1) :
    Calls Try.prog 3 #[v0, v1] w fun r w' => r = .returned (.bool true) ∧ Below w.heap.size w w' := by
  obtain ⟨cs, rfl, hc⟩ := open_view k0
  obtain ⟨k, a, b, x, rfl, hk, ha, hb, hx⟩ := open_op k1
  by_cases hm : AllMay cs
  · exact banks_A hc hm hk ha hb hx
  · have k1 := hk.1
    have k2 := hk.2
    rcases (by omega : k ≤ -1 ∨ 6 ≤ k ∨ k = 0 ∨ k = 1 ∨ k = 2 ∨ k = 3 ∨ k = 4 ∨ k = 5) with h | h | rfl | rfl | rfl | rfl | rfl | rfl
    · exact run_B (fun1_ok 3) K_Bn hc hm hk ha hb hx rfl fun f hf => by
        rcases List.mem_singleton.1 hf with rfl
        exact ⟨k1, h⟩
    · exact run_B (fun1_ok 3) K_Bb hc hm hk ha hb hx rfl fun f hf => by
        rcases List.mem_singleton.1 hf with rfl
        exact ⟨h, k2⟩
    · exact run_B (fun1_ok 3) K_B0 hc hm hk ha hb hx rfl fun f hf => by cases hf
    · exact run_B (fun1_ok 3) K_B1 hc hm hk ha hb hx rfl fun f hf => by cases hf
    · exact run_B (fun1_ok 3) K_B2 hc hm hk ha hb hx rfl fun f hf => by cases hf
    · exact run_B (fun1_ok 3) K_B3 hc hm hk ha hb hx rfl fun f hf => by cases hf
    · exact run_B (fun1_ok 3) K_B4 hc hm hk ha hb hx rfl fun f hf => by cases hf
    · exact run_B (fun1_ok 3) K_B5 hc hm hk ha hb hx rfl fun f hf => by cases hf
end
end Go.Proofs.Ythhjijadllpcpaa
