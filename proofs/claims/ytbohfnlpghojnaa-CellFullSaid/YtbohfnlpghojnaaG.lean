/- the law CellFull's closing. -/
import Derived.Test.YtbohfnlpghojnaaD
import Derived.Test.YtbohfnlpghojnaaF0
import Derived.Test.YtbohfnlpghojnaaF1
import Derived.Test.YtbohfnlpghojnaaF2
import Derived.Test.YtbohfnlpghojnaaF3
namespace Go.Proofs.Ytbohfnlpghojnaa
open Go.Sx Go Go.ChangeShapes Go.WideShapes Go.ChangeAt Go.RowKit Go.Deep
theorem full_run : ∀ c ∈ one 0 15 ++ [(16, hi64)], allOf (run2 5 [slV 1 2 3 4, vi 6, vi 7] (slMem [slE 1 2 3 5 1] ((.var 3, c.1, c.2) :: slF 2 3 4 hi64) 10)) isTrue = true := by
  intro c hc
  have e : one 0 15 ++ [(16, hi64)] = [(0, 0), (1, 1), (2, 2), (3, 3), (4, 4), (5, 5), (6, 6), (7, 7), (8, 8), (9, 9), (10, 10), (11, 11), (12, 12), (13, 13), (14, 14), (15, 15), (16, hi64)] := by kernel_rfl
  rw [e] at hc
  simp only [List.mem_cons, List.not_mem_nil, or_false] at hc
  rcases hc with rfl | rfl | rfl | rfl | rfl | rfl | rfl | rfl | rfl | rfl | rfl | rfl | rfl | rfl | rfl | rfl | rfl
  · exact full_0
  · exact full_1
  · exact full_2
  · exact full_3
  · exact full_4
  · exact full_5
  · exact full_6
  · exact full_7
  · exact full_8
  · exact full_9
  · exact full_10
  · exact full_11
  · exact full_12
  · exact full_13
  · exact full_14
  · exact full_15
  · exact full_16
section
variable {H : Type} {enc : TypeId × Value → H} {w : World} {base : Nat} {spare : Nat → Bool} {held : Bool} {r : Reach} {b0 : Nat}
theorem cellFull_walk {v0 v1 v2 : Value} {d0 d1 d2 : DataW H} {p0 p1 p2 : List MemPlace}
    (k0 : Value.okWide Try.prog w r b0 22 v0) (h0 : DataW.Trod enc Try.prog w base spare held 22 v0 d0 p0)
    (k1 : Value.okWide Try.prog w r b0 3 v1) (h1 : DataW.Trod enc Try.prog w base spare held 3 v1 d1 p1)
    (k2 : Value.okWide Try.prog w r b0 3 v2) (h2 : DataW.Trod enc Try.prog w base spare held 3 v2 d2 p2) :
    Calls Try.prog 5 #[v0, v1, v2] w fun r w' => r = .returned (.bool true) ∧ Below w.heap.size w w' := by
  obtain ⟨a1, rfl, _, _, w1⟩ := open_int Try.underlying3 k1 h1
  obtain ⟨a2, rfl, _, _, w2⟩ := open_int Try.underlying3 k2 h2
  have ints : ∀ x ∈ [(6, [a1]), (7, [a2])], ∀ z ∈ x.2, in64 z := by
    intro x hx z hz
    simp only [List.mem_cons, List.not_mem_nil, or_false] at hx
    rcases hx with rfl | rfl <;> (simp only [List.mem_cons, List.not_mem_nil, or_false] at hz; subst hz)
    · exact i64_bd w1
    · exact i64_bd w2
  rcases open_int_slice (show Try.prog.underlying 22 = some (.slice 3) by kernel_rfl) (show Try.prog.underlying 3 = some (.int .i64) by kernel_rfl) (by kernel_rfl) k0 h0 with rfl | ⟨b, o, len, cap, zs, rfl, _, hl, hm, hb, hz, hzs, hc⟩
  · exact law_ok (run2_ok 5) full_nil (E := envOf w [] [] [(6, [a1]), (7, [a2])] [] []) (w := w)
      (slMem_ok 10 (envOf_ok (fun _ h => (by cases h)) (fun _ h => (by cases h)) ints) rfl rfl (fun _ h => (by cases h)) (fun _ h => (by cases h)))
  · let S : SlArg := ⟨1, 2, 3, 4, 5, 1, b, o, len, cap, zs⟩
    have hm' := hm
    unfold maxLen at hm'
    let E : Env := envOf w [] [(5, zs)] [(2, [0]), (3, [(len : Int)]), (4, [(cap : Int)]), (6, [a1]), (7, [a2])] [(1, b)] [(1, o)]
    have hE : E.Ok := envOf_ok (fun _ h => (by cases h)) (fun x hx z hzx => by
        simp only [List.mem_cons, List.not_mem_nil, or_false] at hx; subst hx; exact hzs z hzx) (fun x hx z hzx => by
        simp only [List.mem_cons, List.not_mem_nil, or_false] at hx
        rcases hx with rfl | rfl | rfl | hx
        · simp only [List.mem_cons, List.not_mem_nil, or_false] at hzx; subst hzx; simp [in64, lo64, hi64]
        · simp only [List.mem_cons, List.not_mem_nil, or_false] at hzx; subst hzx; simp only [in64, lo64, hi64]; omega
        · simp only [List.mem_cons, List.not_mem_nil, or_false] at hzx; subst hzx; simp only [in64, lo64, hi64]; omega
        · exact ints x (by simpa using hx) z hzx)
    have hN : S.Named E := ⟨rfl, rfl, rfl, rfl, rfl, rfl, (by show (5 : Nat) ≠ 0; decide)⟩
    have hH : S.Holds w := ⟨hb, hl, hm, hz, hzs, hc⟩
    have hlen : (len : Int) ≤ hi64 := by simp only [hi64]; omega
    obtain ⟨c, hcm, hcl⟩ := cover_ok hlen (one 0 15 ++ [(16, hi64)]) 0 (by kernel_rfl) (by omega)
    have := law_ok (run2_ok 5) (full_run c hcm) (E := E) (w := w) (slMem_ok 10 hE rfl rfl (fun e he => by
        simp only [List.mem_cons, List.not_mem_nil, or_false] at he; subst he; exact ⟨rfl, SlArg.ent hN hH⟩)
        (fun f hf => by
          rcases List.mem_cons.1 hf with rfl | hf
          · exact hcl
          · exact SlArg.facts hN hH (by show (len : Int) ≤ hi64; exact hlen) f hf))
    simp only [List.map_cons, List.map_nil] at this
    exact this
end
end Go.Proofs.Ytbohfnlpghojnaa
