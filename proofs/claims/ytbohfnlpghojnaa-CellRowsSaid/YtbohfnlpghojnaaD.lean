/- what every law's closing needs. -/
import Derived.Test.YtbohfnlpghojnaaA
import Derived.Test.YtbohfnlpghojnaaSxZa
import Derived.Test.YtbohfnlpghojnaaSxZb
namespace Go.Proofs.Ytbohfnlpghojnaa
open Go.Sx Go.ChangeShapes Go.WideShapes Go.ChangeAt Go.RowKit Go.Deep
theorem own : ownKnob Try.prog.godebug = none := by kernel_rfl
theorem laidOut : laidOutB Try.prog = true := by kernel_rfl
section
variable {H : Type} {enc : TypeId × Value → H} {w : World} {base : Nat} {spare : Nat → Bool} {held : Bool} {r : Reach} {b0 : Nat}
theorem cellRows_walk {v0 v1 v2 v3 : Value} {d0 d1 d2 d3 : DataW H} {p0 p1 p2 p3 : List MemPlace}
    (k0 : Value.okWide Try.prog w r b0 3 v0) (h0 : DataW.Trod enc Try.prog w base spare held 3 v0 d0 p0)
    (k1 : Value.okWide Try.prog w r b0 3 v1) (h1 : DataW.Trod enc Try.prog w base spare held 3 v1 d1 p1)
    (k2 : Value.okWide Try.prog w r b0 3 v2) (h2 : DataW.Trod enc Try.prog w base spare held 3 v2 d2 p2)
    (k3 : Value.okWide Try.prog w r b0 22 v3) (h3 : DataW.Trod enc Try.prog w base spare held 22 v3 d3 p3) :
    Calls Try.prog 3 #[v0, v1, v2, v3] w fun r w' => r = .returned (.bool true) ∧ Below w.heap.size w w' := by
  obtain ⟨a0, rfl, _, _, w0⟩ := open_int Try.underlying3 k0 h0
  obtain ⟨a1, rfl, _, _, w1⟩ := open_int Try.underlying3 k1 h1
  obtain ⟨a2, rfl, _, _, w2⟩ := open_int Try.underlying3 k2 h2
  have ints : ∀ x ∈ [(6, [a0]), (7, [a1]), (8, [a2])], ∀ z ∈ x.2, in64 z := by
    intro x hx z hz
    simp only [List.mem_cons, List.not_mem_nil, or_false] at hx
    rcases hx with rfl | rfl | rfl <;> (simp only [List.mem_cons, List.not_mem_nil, or_false] at hz; subst hz)
    · exact i64_bd w0
    · exact i64_bd w1
    · exact i64_bd w2
  rcases open_int_slice (show Try.prog.underlying 22 = some (.slice 3) by kernel_rfl) (show Try.prog.underlying 3 = some (.int .i64) by kernel_rfl) (by kernel_rfl) k3 h3 with rfl | ⟨b, o, len, cap, zs, rfl, _, hl, hm, hb, hz, hzs, hc⟩
  · exact law_ok (run2_ok 3) rows_nil (E := envOf w [] [] [(6, [a0]), (7, [a1]), (8, [a2])] [] []) (w := w)
      (slMem_ok 10 (envOf_ok (fun _ h => (by cases h)) (fun _ h => (by cases h)) ints) rfl rfl (fun _ h => (by cases h)) (fun _ h => (by cases h)))
  · let S : SlArg := ⟨1, 2, 3, 4, 5, 1, b, o, len, cap, zs⟩
    have hm' := hm
    unfold maxLen at hm'
    let E : Env := envOf w [] [(5, zs)] [(2, [0]), (3, [(len : Int)]), (4, [(cap : Int)]), (6, [a0]), (7, [a1]), (8, [a2])] [(1, b)] [(1, o)]
    have hE : E.Ok := envOf_ok (fun _ h => (by cases h)) (fun x hx z hzx => by
        simp only [List.mem_cons, List.not_mem_nil, or_false] at hx; subst hx; exact hzs z hzx) (fun x hx z hzx => by
        simp only [List.mem_cons, List.not_mem_nil, or_false] at hx
        rcases hx with rfl | rfl | rfl | hx
        · simp only [List.mem_cons, List.not_mem_nil, or_false] at hzx; subst hzx; simp [in64, lo64, hi64]
        · simp only [List.mem_cons, List.not_mem_nil, or_false] at hzx; subst hzx; simp only [in64, lo64, hi64]; omega
        · simp only [List.mem_cons, List.not_mem_nil, or_false] at hzx; subst hzx; simp only [in64, lo64, hi64]; omega
        · exact ints x (by simpa using hx) z hzx)
    have hN : S.Named E := ⟨rfl, rfl, rfl, rfl, rfl, rfl, (by show (5 : Nat) ≠ 0; decide)⟩
    have hH : S.Holds w := ⟨hb, hl, hm, hz, hzs, hc⟩
    have := law_ok (run2_ok 3) rows_run (E := E) (w := w) (slMem_ok 10 hE rfl rfl (fun e he => by
        simp only [List.mem_cons, List.not_mem_nil, or_false] at he; subst he; exact ⟨rfl, SlArg.ent hN hH⟩)
        (SlArg.facts hN hH (by show (len : Int) ≤ hi64; simp only [hi64]; omega)))
    simp only [List.map_cons, List.map_nil] at this
    exact this
theorem cellApart_walk {v0 : Value} {d0 : DataW H} {p0 : List MemPlace}
    (k0 : Value.okWide Try.prog w r b0 3 v0) (h0 : DataW.Trod enc Try.prog w base spare held 3 v0 d0 p0) :
    Calls Try.prog 4 #[v0] w fun r w' => r = .returned (.bool true) ∧ Below w.heap.size w w' := by
  obtain ⟨a0, rfl, _, _, w0⟩ := open_int Try.underlying3 k0 h0
  have ints : ∀ x ∈ [(6, [a0])], ∀ z ∈ x.2, in64 z := by
    intro x hx z hz
    simp only [List.mem_cons, List.not_mem_nil, or_false] at hx
    subst hx
    simp only [List.mem_cons, List.not_mem_nil, or_false] at hz
    subst hz
    exact i64_bd w0
  exact law_ok (run2_ok 4) apart_run (E := envOf w [] [] [(6, [a0])] [] []) (w := w)
      (slMem_ok 10 (envOf_ok (fun _ h => (by cases h)) (fun _ h => (by cases h)) ints) rfl rfl (fun _ h => (by cases h)) (fun _ h => (by cases h)))
end
end Go.Proofs.Ytbohfnlpghojnaa
