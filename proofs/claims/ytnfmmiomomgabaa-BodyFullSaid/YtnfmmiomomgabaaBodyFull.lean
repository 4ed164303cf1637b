/- The law BodyFull: for every input the call returns true, and each argument reads afterwards as it read before; no condition. -/
import Derived.Test.YtnfmmiomomgabaaK
import Derived.Test.YtnfmmiomomgabaaUa
import Derived.Test.YtnfmmiomomgabaaUb
import Derived.Test.YtnfmmiomomgabaaUc
import Derived.Test.YtnfmmiomomgabaaUd
import Derived.Test.YtnfmmiomomgabaaUe
import Derived.Test.YtnfmmiomomgabaaUf
import Derived.Test.YtnfmmiomomgabaaUg
import Derived.Test.YtnfmmiomomgabaaUh
import Derived.Test.YtnfmmiomomgabaaUi
import Derived.Test.YtnfmmiomomgabaaUj
import Derived.Test.YtnfmmiomomgabaaUk
import Derived.Test.YtnfmmiomomgabaaUl
import Derived.Test.YtnfmmiomomgabaaUm
import Derived.Test.YtnfmmiomomgabaaUn
import Derived.Test.YtnfmmiomomgabaaUo
import Derived.Test.YtnfmmiomomgabaaUp
import Derived.Test.YtnfmmiomomgabaaUq
import Derived.Test.YtnfmmiomomgabaaUr
import Derived.Test.YtnfmmiomomgabaaUs
import Derived.Test.YtnfmmiomomgabaaUt
namespace Go.Proofs.Ytnfmmiomomgabaa
open Go.Sx Go Go.ChangeShapes Go.WideShapes Go.ChangeAt Go.RowKit Go.Deep
set_option maxRecDepth 100000
theorem rngH : rng [] eH = (0, 15) := by kernel_rfl
theorem snoc_fact {E : Env} {fs : List Fact} {f : Fact} (h : ∀ g ∈ fs, FactOk E g) (hf : FactOk E f) : ∀ g ∈ fs ++ [f], FactOk E g := fun g hg => (List.mem_append.1 hg).elim (h g) (one_fact hf g)
/-- a case's runs are there, of numbers and of none -/
def Full (fs : List Fact) : Prop := okF fs = true ∧ okFx fs = true
theorem full_1t : ∀ g : Nat, g < 4 → Full [(.var 8, 1, 1), kindS 0 true, (eH, 4 * (g : Int), 4 * (g : Int) + 3)]
  | 0, _ => ⟨full_1t0, fullx_1t0⟩
  | 1, _ => ⟨full_1t1, fullx_1t1⟩
  | 2, _ => ⟨full_1t2, fullx_1t2⟩
  | 3, _ => ⟨full_1t3, fullx_1t3⟩
  | g + 4, h => absurd h (by omega)
theorem full_2tt : ∀ h : Nat, h < 16 → Full [(.var 8, 2, 2), kindS 0 true, kindS 4 true, (eH, (h : Int), (h : Int))]
  | 0, _ => ⟨full_2tt0, fullx_2tt0⟩
  | 1, _ => ⟨full_2tt1, fullx_2tt1⟩
  | 2, _ => ⟨full_2tt2, fullx_2tt2⟩
  | 3, _ => ⟨full_2tt3, fullx_2tt3⟩
  | 4, _ => ⟨full_2tt4, fullx_2tt4⟩
  | 5, _ => ⟨full_2tt5, fullx_2tt5⟩
  | 6, _ => ⟨full_2tt6, fullx_2tt6⟩
  | 7, _ => ⟨full_2tt7, fullx_2tt7⟩
  | 8, _ => ⟨full_2tt8, fullx_2tt8⟩
  | 9, _ => ⟨full_2tt9, fullx_2tt9⟩
  | 10, _ => ⟨full_2tt10, fullx_2tt10⟩
  | 11, _ => ⟨full_2tt11, fullx_2tt11⟩
  | 12, _ => ⟨full_2tt12, fullx_2tt12⟩
  | 13, _ => ⟨full_2tt13, fullx_2tt13⟩
  | 14, _ => ⟨full_2tt14, fullx_2tt14⟩
  | 15, _ => ⟨full_2tt15, fullx_2tt15⟩
  | h + 16, k => absurd k (by omega)
theorem full_2tf : ∀ h : Nat, h < 16 → Full [(.var 8, 2, 2), kindS 0 true, kindS 4 false, (eH, (h : Int), (h : Int))]
  | 0, _ => ⟨full_2tf0, fullx_2tf0⟩
  | 1, _ => ⟨full_2tf1, fullx_2tf1⟩
  | 2, _ => ⟨full_2tf2, fullx_2tf2⟩
  | 3, _ => ⟨full_2tf3, fullx_2tf3⟩
  | 4, _ => ⟨full_2tf4, fullx_2tf4⟩
  | 5, _ => ⟨full_2tf5, fullx_2tf5⟩
  | 6, _ => ⟨full_2tf6, fullx_2tf6⟩
  | 7, _ => ⟨full_2tf7, fullx_2tf7⟩
  | 8, _ => ⟨full_2tf8, fullx_2tf8⟩
  | 9, _ => ⟨full_2tf9, fullx_2tf9⟩
  | 10, _ => ⟨full_2tf10, fullx_2tf10⟩
  | 11, _ => ⟨full_2tf11, fullx_2tf11⟩
  | 12, _ => ⟨full_2tf12, fullx_2tf12⟩
  | 13, _ => ⟨full_2tf13, fullx_2tf13⟩
  | 14, _ => ⟨full_2tf14, fullx_2tf14⟩
  | 15, _ => ⟨full_2tf15, fullx_2tf15⟩
  | h + 16, k => absurd k (by omega)
theorem full_1f : ∀ g : Nat, g < 4 → Full [(.var 8, 1, 1), kindS 0 false, (eH, 4 * (g : Int), 4 * (g : Int) + 3)]
  | 0, _ => ⟨full_1f0, fullx_1f0⟩
  | 1, _ => ⟨full_1f1, fullx_1f1⟩
  | 2, _ => ⟨full_1f2, fullx_1f2⟩
  | 3, _ => ⟨full_1f3, fullx_1f3⟩
  | g + 4, h => absurd h (by omega)
theorem full_2ft : ∀ h : Nat, h < 16 → Full [(.var 8, 2, 2), kindS 0 false, kindS 4 true, (eH, (h : Int), (h : Int))]
  | 0, _ => ⟨full_2ft0, fullx_2ft0⟩
  | 1, _ => ⟨full_2ft1, fullx_2ft1⟩
  | 2, _ => ⟨full_2ft2, fullx_2ft2⟩
  | 3, _ => ⟨full_2ft3, fullx_2ft3⟩
  | 4, _ => ⟨full_2ft4, fullx_2ft4⟩
  | 5, _ => ⟨full_2ft5, fullx_2ft5⟩
  | 6, _ => ⟨full_2ft6, fullx_2ft6⟩
  | 7, _ => ⟨full_2ft7, fullx_2ft7⟩
  | 8, _ => ⟨full_2ft8, fullx_2ft8⟩
  | 9, _ => ⟨full_2ft9, fullx_2ft9⟩
  | 10, _ => ⟨full_2ft10, fullx_2ft10⟩
  | 11, _ => ⟨full_2ft11, fullx_2ft11⟩
  | 12, _ => ⟨full_2ft12, fullx_2ft12⟩
  | 13, _ => ⟨full_2ft13, fullx_2ft13⟩
  | 14, _ => ⟨full_2ft14, fullx_2ft14⟩
  | 15, _ => ⟨full_2ft15, fullx_2ft15⟩
  | h + 16, k => absurd k (by omega)
theorem full_2ff : ∀ h : Nat, h < 16 → Full [(.var 8, 2, 2), kindS 0 false, kindS 4 false, (eH, (h : Int), (h : Int))]
  | 0, _ => ⟨full_2ff0, fullx_2ff0⟩
  | 1, _ => ⟨full_2ff1, fullx_2ff1⟩
  | 2, _ => ⟨full_2ff2, fullx_2ff2⟩
  | 3, _ => ⟨full_2ff3, fullx_2ff3⟩
  | 4, _ => ⟨full_2ff4, fullx_2ff4⟩
  | 5, _ => ⟨full_2ff5, fullx_2ff5⟩
  | 6, _ => ⟨full_2ff6, fullx_2ff6⟩
  | 7, _ => ⟨full_2ff7, fullx_2ff7⟩
  | 8, _ => ⟨full_2ff8, fullx_2ff8⟩
  | 9, _ => ⟨full_2ff9, fullx_2ff9⟩
  | 10, _ => ⟨full_2ff10, fullx_2ff10⟩
  | 11, _ => ⟨full_2ff11, fullx_2ff11⟩
  | 12, _ => ⟨full_2ff12, fullx_2ff12⟩
  | 13, _ => ⟨full_2ff13, fullx_2ff13⟩
  | 14, _ => ⟨full_2ff14, fullx_2ff14⟩
  | 15, _ => ⟨full_2ff15, fullx_2ff15⟩
  | h + 16, k => absurd k (by omega)
theorem full_use {E : Env} (hE : E.Ok) {fs : List Fact} (hfs : fs ∈ kindsOf) (hf : ∀ f ∈ fs, FactOk E f) : ∃ gs, Full gs ∧ ∀ f ∈ gs, FactOk E f := by
  have hk := rng_ok hE (fs := []) (fun _ h => (by cases h)) eH
  rw [rngH] at hk
  dsimp only at hk
  obtain ⟨n, hn⟩ : ∃ n : Nat, ev E eH = n := ⟨(ev E eH).toNat, by omega⟩
  have hn16 : n < 16 := by omega
  have h1 : FactOk E (eH, (n : Int), (n : Int)) := by unfold FactOk; dsimp only; omega
  have h4 : FactOk E (eH, 4 * ((n / 4 : Nat) : Int), 4 * ((n / 4 : Nat) : Int) + 3) := by unfold FactOk; dsimp only; omega
  unfold kindsOf at hfs
  simp only [List.mem_cons, List.not_mem_nil, or_false] at hfs
  rcases hfs with rfl | rfl | rfl | rfl | rfl | rfl | rfl | rfl
  · exact ⟨_, ⟨full_0, fullx_0⟩, hf⟩
  · exact ⟨_, ⟨full_3, fullx_3⟩, hf⟩
  · exact ⟨_, full_1t (n / 4) (by omega), snoc_fact hf h4⟩
  · exact ⟨_, full_1f (n / 4) (by omega), snoc_fact hf h4⟩
  · exact ⟨_, full_2tt n hn16, snoc_fact hf h1⟩
  · exact ⟨_, full_2tf n hn16, snoc_fact hf h1⟩
  · exact ⟨_, full_2ft n hn16, snoc_fact hf h1⟩
  · exact ⟨_, full_2ff n hn16, snoc_fact hf h1⟩
theorem h_in {h : Int} (hh : in64 h) : ∀ y ∈ [((11, [h]) : Nat × List Int)], ∀ z ∈ y.2, in64 z := fun y hy z hz => by
  rcases List.mem_singleton.1 hy with rfl
  simp only [List.mem_cons, List.not_mem_nil, or_false] at hz; subst hz; exact hh
section
variable {H : Type} {enc : TypeId × Value → H} {w : World} {base : Nat} {spare : Nat → Bool} {held : Bool} {r : Reach} {b0 : Nat}
theorem bodyFull_walk {v0 v1 v2 : Value} {d0 d1 d2 : DataW H} {p0 p1 p2 : List MemPlace}
    (k0 : Value.okWide Try.prog w r b0 45 v0) (h0 : DataW.Trod enc Try.prog w base spare held 45 v0 d0 p0)
    (k1 : Value.okWide Try.prog w r b0 26 v1) (h1 : DataW.Trod enc Try.prog w base spare held 26 v1 d1 p1)
    (k2 : Value.okWide Try.prog w r b0 3 v2) (h2 : DataW.Trod enc Try.prog w base spare held 3 v2 d2 p2) :
    Calls Try.prog 6 #[v0, v1, v2] w fun r w' => r = .returned (.bool true) ∧ Below w.heap.size w w' := by
  obtain ⟨hide, rfl, _, _, w2⟩ := open_int Try.underlying3 k2 h2
  have ih : in64 hide := i64_bd w2
  rcases open_xs k0 h0 with rfl | ⟨b, o, len, cap, zs, hx⟩ <;> rcases open_ops k1 h1 with rfl | ⟨b2, o2, len2, cap2, os, ho⟩
  · have h := full_n
    unfold okFn at h
    have hE : (envS w [] [] [(11, [hide])] [] []).Ok := envS_ok (fun _ h => (by cases h)) (fun _ h => (by cases h)) (h_in ih)
    have := law_ok (funR_ok 6) h (E := envS w [] [] [(11, [hide])] [] []) (w := w) rfl (slMem_ok 12 hE rfl rfl (fun _ h => (by cases h)) (fun _ h => (by cases h)))
    simp only [List.map_cons, List.map_nil] at this
    exact this
  · let E := envS w [] os (intsO len2 cap2 ++ [(11, [hide])]) [(6, b2)] [(6, o2)]
    have hE : E.Ok := envS_ok (fun _ h => (by cases h)) ho.nums (fun y hy => (List.mem_append.1 hy).elim (intsO_in ho.room ho.max y) (h_in ih y))
    have hN : SlArg.Named ⟨6, 7, 8, 9, 10, 4, b2, o2, len2, cap2, os⟩ E := ⟨rfl, rfl, rfl, rfl, rfl, rfl, (by show (10 : Nat) ≠ 0; decide)⟩
    have hH := holds_of ho 6 7 8 9 10
    obtain ⟨fs, hfs, hf⟩ := kinds_all hE (show 0 ≤ E.i 8 from Int.natCast_nonneg len2)
    obtain ⟨gs, ⟨_, h⟩, hg⟩ := full_use hE hfs hf
    unfold okFx at h
    have := law_ok (funR_ok 6) h (E := E) (w := w) rfl (slMem_ok 12 hE rfl rfl (fun e he => by
        simp only [List.mem_cons, List.not_mem_nil, or_false] at he; subst he; exact ⟨rfl, SlArg.ent hN hH⟩)
      (fun f hm => (List.mem_append.1 hm).elim (hg f) (SlArg.facts hN hH (le_hi ho.room ho.max) f)))
    simp only [List.map_cons, List.map_nil] at this
    rw [ho.val]
    exact this
  · let E := envS w zs [] (intsX len cap ++ (intsO 0 0 ++ [(11, [hide])])) [(1, b)] [(1, o)]
    have hE : E.Ok := envS_ok hx.nums (fun _ h => (by cases h)) (fun y hy => (List.mem_append.1 hy).elim (intsX_in hx.room hx.max y) fun hy => (List.mem_append.1 hy).elim (intsO_in (Nat.le_refl 0) (Nat.zero_le _) y) (h_in ih y))
    have hN : SlArg.Named ⟨1, 2, 3, 4, 5, 1, b, o, len, cap, zs⟩ E := ⟨rfl, rfl, rfl, rfl, rfl, rfl, (by show (5 : Nat) ≠ 0; decide)⟩
    have hH := holds_of hx 1 2 3 4 5
    have h := full_o
    unfold okFo okYs at h
    rw [Bool.and_eq_true] at h
    have := law_ok (runY_ok h.1) h.2 (E := E) (w := w) rfl (slMem_ok 12 hE rfl rfl (fun e he => by
        simp only [List.mem_cons, List.not_mem_nil, or_false] at he; subst he; exact ⟨rfl, SlArg.ent hN hH⟩)
      (fun f hm => (List.mem_append.1 hm).elim (fun h => (by cases h)) fun hm => (List.mem_append.1 hm).elim (SlArg.facts hN hH (le_hi hx.room hx.max) f) (fun hm => by
        unfold slF at hm
        simp only [List.mem_cons, List.not_mem_nil, or_false] at hm
        rcases hm with rfl | rfl | rfl | rfl <;> exact ⟨Int.le_refl 0, by show (0 : Int) ≤ hi64; decide⟩)))
    simp only [List.map_cons, List.map_nil] at this
    rw [hx.val]
    exact this
  · let E := envS w zs os (intsX len cap ++ (intsO len2 cap2 ++ [(11, [hide])])) [(1, b), (6, b2)] [(1, o), (6, o2)]
    have hE : E.Ok := envS_ok hx.nums ho.nums (fun y hy => (List.mem_append.1 hy).elim (intsX_in hx.room hx.max y) fun hy => (List.mem_append.1 hy).elim (intsO_in ho.room ho.max y) (h_in ih y))
    have hN : SlArg.Named ⟨1, 2, 3, 4, 5, 1, b, o, len, cap, zs⟩ E := ⟨rfl, rfl, rfl, rfl, rfl, rfl, (by show (5 : Nat) ≠ 0; decide)⟩
    have hH := holds_of hx 1 2 3 4 5
    have hN2 : SlArg.Named ⟨6, 7, 8, 9, 10, 4, b2, o2, len2, cap2, os⟩ E := ⟨rfl, rfl, rfl, rfl, rfl, rfl, (by show (10 : Nat) ≠ 0; decide)⟩
    have hH2 := holds_of ho 6 7 8 9 10
    obtain ⟨fs, hfs, hf⟩ := kinds_all hE (show 0 ≤ E.i 8 from Int.natCast_nonneg len2)
    obtain ⟨gs, ⟨h, _⟩, hg⟩ := full_use hE hfs hf
    unfold okF okYs at h
    rw [Bool.and_eq_true] at h
    have := law_ok (runY_ok h.1) h.2 (E := E) (w := w) rfl (slMem_ok 12 hE rfl rfl (fun e he => by
        simp only [List.mem_cons, List.not_mem_nil, or_false] at he
        rcases he with rfl | rfl
        · exact ⟨rfl, SlArg.ent hN hH⟩
        · exact ⟨rfl, SlArg.ent hN2 hH2⟩)
      (fun f hm => (List.mem_append.1 hm).elim (hg f) fun hm => (List.mem_append.1 hm).elim (SlArg.facts hN hH (le_hi hx.room hx.max) f) (SlArg.facts hN2 hH2 (le_hi ho.room ho.max) f)))
    simp only [List.map_cons, List.map_nil] at this
    rw [hx.val, ho.val]
    exact this
end
end Go.Proofs.Ytnfmmiomomgabaa
namespace Go.Proofs.Ytnfmmiomomgabaa.bodyFull
open Go.ChangeShapes Go.WideShapes Go.ChangeAt Go.RowKit Go.Deep

set_option maxRecDepth 100000 in
theorem lifted (os : Os) (started : os.Started) (H : Type) (enc : TypeId × Value → H) :
    ReturnsInHanded {} Try.checked os 6 .any (Rows.bodyFullSpec.pre6 enc Try.prog Try.f6 Rows.bodyFullRow.domain false) (Rows.bodyFullSpec.post enc Try.prog Try.f6 false true false false) := by
  refine returnsInHanded_of_change (C := Try.checked) own started (by kernel_rfl) Try.func6
    (ChangeSpec.witness6 (enc := enc) (C := Try.checked) false ⟨#[], #[.slice none 0 0, .slice none 0 0, .int .i64 0], []⟩ 60 (by kernel_rfl) (by kernel_rfl) (by kernel_rfl) (by kernel_rfl)) ?_
  intro W base args ds gs before hval0 hW _ _
  have hval : ∀ (j : Nat) t v, Try.f6.params[j]? = some t → args[j]? = some v → Value.okWide Try.prog W .any base t v := hval0
  have hW' := hW
  obtain ⟨p, q, hA0, hV, rfl, _, _⟩ := hW
  have hA : DataW.TrodAll enc Try.prog W 0 (fun _ => true) true Try.f6.params.toList args.toList ds p := hA0
  rw [Try.params6] at hA hval
  obtain ⟨v0, vs0, d0, ds0, p0, q0, hargs, rfl, rfl, h0, r0⟩ := trodAll_cons hA
  obtain ⟨v1, vs1, d1, ds1, p1, q1, rfl, rfl, rfl, h1, r1⟩ := trodAll_cons r0
  obtain ⟨v2, vs2, d2, ds2, p2, q2, rfl, rfl, rfl, h2, r2⟩ := trodAll_cons r1
  obtain ⟨rfl, rfl, rfl⟩ := trodAll_nil r2
  obtain rfl : args = #[v0, v1, v2] := by cases args; simp_all
  obtain ⟨rfl, rfl⟩ := trodVars_none hV
  have tl0 : ∀ x ∈ p0, x.block < W.heap.size := by obtain ⟨m, hm⟩ := h0; exact DataW.trod_lt m _ _ _ hm
  have tl1 : ∀ x ∈ p1, x.block < W.heap.size := by obtain ⟨m, hm⟩ := h1; exact DataW.trod_lt m _ _ _ hm
  have tl2 : ∀ x ∈ p2, x.block < W.heap.size := by obtain ⟨m, hm⟩ := h2; exact DataW.trod_lt m _ _ _ hm
  clear hA0 hval0
  refine (bodyFull_walk (hval 0 45 v0 rfl rfl) h0 (hval 1 26 v1 rfl rfl) h1 (hval 2 3 v2 rfl rfl) h2).mono fun e W' ⟨he, bel⟩ => ?_
  subst he
  exact ⟨_, rfl, _, _, _, [], _, [], hW', trodAll_mk1 (shut_bool Try.underlying4 _), (trodAll_cons_mk (Below.trod laidOut (by kernel_rfl) (of_decide_eq_true (by kernel_rfl)) h0 bel tl0) (trodAll_cons_mk (Below.trod laidOut (by kernel_rfl) (of_decide_eq_true (by kernel_rfl)) h1 bel tl1) (trodAll_cons_mk (Below.trod laidOut (by kernel_rfl) (of_decide_eq_true (by kernel_rfl)) h2 bel tl2) trodAll_mk0))), rfl, bel.frame _, fun h => by cases h⟩

theorem over : Rows.bodyFullRow.holds Try.pinned (OpenSpec.ofChange Rows.bodyFullSpec) :=
  OpenClaim.holds_of_wide 6 Try.f6 rfl rfl rfl rfl rfl rfl rfl ⟨rfl, rfl, rfl, rfl, rfl⟩ rfl rfl rfl rfl rfl (by kernel_rfl) Try.func6 (by kernel_rfl)
    (of_decide_eq_true (by kernel_rfl)) (by unfold Func.isWrapper; first | (rw [if_pos (by decide +kernel)]; kernel_rfl) | (rw [if_neg (by decide +kernel)]; exact ⟨rfl, rfl⟩))
    (fun os started H enc _ => lifted os started H enc)

theorem proved : Rows.BodyFullSaid := over
#print axioms proved
end Go.Proofs.Ytnfmmiomomgabaa.bodyFull
