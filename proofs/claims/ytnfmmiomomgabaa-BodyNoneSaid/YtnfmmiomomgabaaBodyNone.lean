/- The law BodyNone: for every input the call returns true, and each argument reads afterwards as it read before; no condition. -/
import Derived.Test.YtnfmmiomomgabaaK
import Derived.Test.YtnfmmiomomgabaaNa
import Derived.Test.YtnfmmiomomgabaaNb
import Derived.Test.YtnfmmiomomgabaaNc
import Derived.Test.YtnfmmiomomgabaaNd
import Derived.Test.YtnfmmiomomgabaaNe
import Derived.Test.YtnfmmiomomgabaaNf
import Derived.Test.YtnfmmiomomgabaaNg
import Derived.Test.YtnfmmiomomgabaaNh
namespace Go.Proofs.Ytnfmmiomomgabaa
open Go.Sx Go Go.ChangeShapes Go.WideShapes Go.ChangeAt Go.RowKit Go.Deep
set_option maxRecDepth 100000
/-- the runs where there are numbers -/
theorem none_use {E : Env} (hE : E.Ok) {fs : List Fact} (hfs : fs ∈ kindsOf) (hf : ∀ f ∈ fs, FactOk E f) (h3 : 0 ≤ E.i 3) : ∃ gs, okN gs = true ∧ ∀ f ∈ gs, FactOk E f := by
  have v3 : ∀ {lo hi : Int}, lo ≤ E.i 3 → E.i 3 ≤ hi → FactOk E (.var 3, lo, hi) := fun h1 h2 => ⟨h1, h2⟩
  have h64 := (hE.i 3).2
  have two : ∀ {a b c : Fact}, (∀ f ∈ [a, b, c], FactOk E f) → ∀ {d : Fact}, FactOk E d → ∀ f ∈ [a, b, c, d], FactOk E f := fun h d hd f hm => by
    simp only [List.mem_cons, List.not_mem_nil, or_false] at hm
    rcases hm with rfl | rfl | rfl | rfl
    · exact h _ (by simp)
    · exact h _ (by simp)
    · exact h _ (by simp)
    · exact hd
  unfold kindsOf at hfs
  simp only [List.mem_cons, List.not_mem_nil, or_false] at hfs
  rcases hfs with rfl | rfl | rfl | rfl | rfl | rfl | rfl | rfl
  · exact ⟨_, none_0, hf⟩
  · exact ⟨_, none_3, hf⟩
  · exact ⟨_, none_1t, hf⟩
  · exact ⟨_, none_1f, hf⟩
  · rcases (by omega : E.i 3 ≤ 7 ∨ 8 ≤ E.i 3) with h | h
    · exact ⟨_, none_2tt0, two hf (v3 h3 h)⟩
    · exact ⟨_, none_2tt1, two hf (v3 h h64)⟩
  · rcases (by omega : E.i 3 ≤ 7 ∨ 8 ≤ E.i 3) with h | h
    · exact ⟨_, none_2tf0, two hf (v3 h3 h)⟩
    · exact ⟨_, none_2tf1, two hf (v3 h h64)⟩
  · rcases (by omega : E.i 3 ≤ 7 ∨ 8 ≤ E.i 3) with h | h
    · exact ⟨_, none_2ft0, two hf (v3 h3 h)⟩
    · exact ⟨_, none_2ft1, two hf (v3 h h64)⟩
  · rcases (by omega : E.i 3 ≤ 7 ∨ 8 ≤ E.i 3) with h | h
    · exact ⟨_, none_2ff0, two hf (v3 h3 h)⟩
    · exact ⟨_, none_2ff1, two hf (v3 h h64)⟩
theorem nonex_use {fs : List Fact} (hfs : fs ∈ kindsOf) : okNx fs = true := by
  unfold kindsOf at hfs
  simp only [List.mem_cons, List.not_mem_nil, or_false] at hfs
  rcases hfs with rfl | rfl | rfl | rfl | rfl | rfl | rfl | rfl
  · exact nonex_0
  · exact nonex_3
  · exact nonex_1t
  · exact nonex_1f
  · exact nonex_2tt
  · exact nonex_2tf
  · exact nonex_2ft
  · exact nonex_2ff
section
variable {H : Type} {enc : TypeId × Value → H} {w : World} {base : Nat} {spare : Nat → Bool} {held : Bool} {r : Reach} {b0 : Nat}
theorem bodyNone_walk {v0 v1 : Value} {d0 d1 : DataW H} {p0 p1 : List MemPlace}
    (k0 : Value.okWide Try.prog w r b0 45 v0) (h0 : DataW.Trod enc Try.prog w base spare held 45 v0 d0 p0)
    (k1 : Value.okWide Try.prog w r b0 26 v1) (h1 : DataW.Trod enc Try.prog w base spare held 26 v1 d1 p1) :
    Calls Try.prog 4 #[v0, v1] w fun r w' => r = .returned (.bool true) ∧ Below w.heap.size w w' := by
  rcases open_xs k0 h0 with rfl | ⟨b, o, len, cap, zs, hx⟩ <;> rcases open_ops k1 h1 with rfl | ⟨b2, o2, len2, cap2, os, ho⟩
  · have h := none_n
    unfold okNn at h
    have hE : (envS w [] [] [] [] []).Ok := envS_ok (fun _ h => (by cases h)) (fun _ h => (by cases h)) (fun _ h => (by cases h))
    have := law_ok (runN_ok 4) h (E := envS w [] [] [] [] []) (w := w) rfl (slMem_ok 20 hE rfl rfl (fun _ h => (by cases h)) (fun _ h => (by cases h)))
    simp only [List.map_cons, List.map_nil] at this
    exact this
  · let E := envS w [] os (intsO len2 cap2) [(6, b2)] [(6, o2)]
    have hE : E.Ok := envS_ok (fun _ h => (by cases h)) ho.nums (intsO_in ho.room ho.max)
    have hN : SlArg.Named ⟨6, 7, 8, 9, 10, 4, b2, o2, len2, cap2, os⟩ E := ⟨rfl, rfl, rfl, rfl, rfl, rfl, (by show (10 : Nat) ≠ 0; decide)⟩
    have hH := holds_of ho 6 7 8 9 10
    obtain ⟨fs, hfs, hf⟩ := kinds_all hE (show 0 ≤ E.i 8 from Int.natCast_nonneg len2)
    have h := nonex_use hfs
    unfold okNx at h
    have := law_ok (runN_ok 4) h (E := E) (w := w) rfl (slMem_ok 20 hE rfl rfl (fun e he => by
        simp only [List.mem_cons, List.not_mem_nil, or_false] at he; subst he; exact ⟨rfl, SlArg.ent hN hH⟩)
      (fun f hm => (List.mem_append.1 hm).elim (hf f) (SlArg.facts hN hH (le_hi ho.room ho.max) f)))
    simp only [List.map_cons, List.map_nil] at this
    rw [ho.val]
    exact this
  · let E := envS w zs [] (intsX len cap) [(1, b)] [(1, o)]
    have hE : E.Ok := envS_ok hx.nums (fun _ h => (by cases h)) (intsX_in hx.room hx.max)
    have hN : SlArg.Named ⟨1, 2, 3, 4, 5, 1, b, o, len, cap, zs⟩ E := ⟨rfl, rfl, rfl, rfl, rfl, rfl, (by show (5 : Nat) ≠ 0; decide)⟩
    have hH := holds_of hx 1 2 3 4 5
    have h := none_o
    unfold okNo at h
    have := law_ok (runN_ok 4) h (E := E) (w := w) rfl (slMem_ok 20 hE rfl rfl (fun e he => by
        simp only [List.mem_cons, List.not_mem_nil, or_false] at he; subst he; exact ⟨rfl, SlArg.ent hN hH⟩)
      (SlArg.facts hN hH (le_hi hx.room hx.max)))
    simp only [List.map_cons, List.map_nil] at this
    rw [hx.val]
    exact this
  · let E := envS w zs os (intsX len cap ++ intsO len2 cap2) [(1, b), (6, b2)] [(1, o), (6, o2)]
    have hE : E.Ok := envS_ok hx.nums ho.nums (fun y hy => (List.mem_append.1 hy).elim (intsX_in hx.room hx.max y) (intsO_in ho.room ho.max y))
    have hN : SlArg.Named ⟨1, 2, 3, 4, 5, 1, b, o, len, cap, zs⟩ E := ⟨rfl, rfl, rfl, rfl, rfl, rfl, (by show (5 : Nat) ≠ 0; decide)⟩
    have hH := holds_of hx 1 2 3 4 5
    have hN2 : SlArg.Named ⟨6, 7, 8, 9, 10, 4, b2, o2, len2, cap2, os⟩ E := ⟨rfl, rfl, rfl, rfl, rfl, rfl, (by show (10 : Nat) ≠ 0; decide)⟩
    have hH2 := holds_of ho 6 7 8 9 10
    obtain ⟨fs, hfs, hf⟩ := kinds_all hE (show 0 ≤ E.i 8 from Int.natCast_nonneg len2)
    obtain ⟨gs, h, hg⟩ := none_use hE hfs hf (show 0 ≤ E.i 3 from Int.natCast_nonneg len)
    unfold okN at h
    have := law_ok (runN_ok 4) h (E := E) (w := w) rfl (slMem_ok 20 hE rfl rfl (fun e he => by
        simp only [List.mem_cons, List.not_mem_nil, or_false] at he
        rcases he with rfl | rfl
        · exact ⟨rfl, SlArg.ent hN hH⟩
        · exact ⟨rfl, SlArg.ent hN2 hH2⟩)
      (fun f hm => (List.mem_append.1 hm).elim (hg f) fun hm => (List.mem_append.1 hm).elim (SlArg.facts hN hH (le_hi hx.room hx.max) f) (SlArg.facts hN2 hH2 (le_hi ho.room ho.max) f)))
    simp only [List.map_cons, List.map_nil] at this
    rw [hx.val, ho.val]
    exact this
end
end Go.Proofs.Ytnfmmiomomgabaa
namespace Go.Proofs.Ytnfmmiomomgabaa.bodyNone
open Go.ChangeShapes Go.WideShapes Go.ChangeAt Go.RowKit Go.Deep

set_option maxRecDepth 100000 in
theorem lifted (os : Os) (started : os.Started) (H : Type) (enc : TypeId × Value → H) :
    ReturnsInHanded {} Try.checked os 4 .any (Rows.bodyNoneSpec.pre6 enc Try.prog Try.f4 Rows.bodyNoneRow.domain false) (Rows.bodyNoneSpec.post enc Try.prog Try.f4 false true false false) := by
  refine returnsInHanded_of_change (C := Try.checked) own started (by kernel_rfl) Try.func4
    (ChangeSpec.witness6 (enc := enc) (C := Try.checked) false ⟨#[], #[.slice none 0 0, .slice none 0 0], []⟩ 60 (by kernel_rfl) (by kernel_rfl) (by kernel_rfl) (by kernel_rfl)) ?_
  intro W base args ds gs before hval0 hW _ _
  have hval : ∀ (j : Nat) t v, Try.f4.params[j]? = some t → args[j]? = some v → Value.okWide Try.prog W .any base t v := hval0
  have hW' := hW
  obtain ⟨p, q, hA0, hV, rfl, _, _⟩ := hW
  have hA : DataW.TrodAll enc Try.prog W 0 (fun _ => true) true Try.f4.params.toList args.toList ds p := hA0
  rw [Try.params4] at hA hval
  obtain ⟨v0, vs0, d0, ds0, p0, q0, hargs, rfl, rfl, h0, r0⟩ := trodAll_cons hA
  obtain ⟨v1, vs1, d1, ds1, p1, q1, rfl, rfl, rfl, h1, r1⟩ := trodAll_cons r0
  obtain ⟨rfl, rfl, rfl⟩ := trodAll_nil r1
  obtain rfl : args = #[v0, v1] := by cases args; simp_all
  obtain ⟨rfl, rfl⟩ := trodVars_none hV
  have tl0 : ∀ x ∈ p0, x.block < W.heap.size := by obtain ⟨m, hm⟩ := h0; exact DataW.trod_lt m _ _ _ hm
  have tl1 : ∀ x ∈ p1, x.block < W.heap.size := by obtain ⟨m, hm⟩ := h1; exact DataW.trod_lt m _ _ _ hm
  clear hA0 hval0
  refine (bodyNone_walk (hval 0 45 v0 rfl rfl) h0 (hval 1 26 v1 rfl rfl) h1).mono fun e W' ⟨he, bel⟩ => ?_
  subst he
  exact ⟨_, rfl, _, _, _, [], _, [], hW', trodAll_mk1 (shut_bool Try.underlying4 _), (trodAll_cons_mk (Below.trod laidOut (by kernel_rfl) (of_decide_eq_true (by kernel_rfl)) h0 bel tl0) (trodAll_cons_mk (Below.trod laidOut (by kernel_rfl) (of_decide_eq_true (by kernel_rfl)) h1 bel tl1) trodAll_mk0)), rfl, bel.frame _, fun h => by cases h⟩

theorem over : Rows.bodyNoneRow.holds Try.pinned (OpenSpec.ofChange Rows.bodyNoneSpec) :=
  OpenClaim.holds_of_wide 4 Try.f4 rfl rfl rfl rfl rfl rfl rfl ⟨rfl, rfl, rfl, rfl, rfl⟩ rfl rfl rfl rfl rfl (by kernel_rfl) Try.func4 (by kernel_rfl)
    (of_decide_eq_true (by kernel_rfl)) (by unfold Func.isWrapper; first | (rw [if_pos (by decide +kernel)]; kernel_rfl) | (rw [if_neg (by decide +kernel)]; exact ⟨rfl, rfl⟩))
    (fun os started H enc _ => lifted os started H enc)

theorem proved : Rows.BodyNoneSaid := over
#print axioms proved
end Go.Proofs.Ytnfmmiomomgabaa.bodyNone
