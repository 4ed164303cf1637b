/- The law LimboEmpties: for every input the call returns true, and each argument reads afterwards as it read before; no condition. -/
import Derived.Test.YtoemdbongkkmjaaEM
import Derived.Test.YtoemdbongkkmjaaD
namespace Go.Proofs.Ytoemdbongkkmjaa
open Go.Sx Go Go.LimboNum Go.ChangeShapes Go.WideShapes Go.ChangeAt Go.RowKit Go.Deep
set_option maxRecDepth 100000
theorem limboEmpties_walk {w : World} {r : Reach} {b0 : Nat} {v0 v1 : Value} {H : Type} {enc : TypeId × Value → H} {base : Nat} {spare : Nat → Bool} {held : Bool} {d0 d1 : DataW H} {p0 p1 : List MemPlace}
  (k0 : Value.okWide Try.prog w r b0 29 v0) (h0 : DataW.Trod enc Try.prog w base spare held 29 v0 d0 p0)
  (k1 : Value.okWide Try.prog w r b0 3 v1) (h1 : DataW.Trod enc Try.prog w base spare held 3 v1 d1 p1) :
  Calls Try.prog 7 #[v0, v1] w fun r w' => r = .returned (.bool true) ∧ Below w.heap.size w w' := by
 obtain ⟨x, rfl, _, _, wx⟩ := open_int Try.underlying3 k1 h1
 rcases open_a k0 h0 with rfl | ⟨a, _⟩
 ·let E := envL w [] ((1, [x]) :: []) [] []
  have hE : E.Ok := envL_ok none_in (one_in (i64_bd wx) none_in)
  have := law_ok (funB_ok (G := GZ) okSpB 7) emn (E := E) (w := w) rfl (slMem_ok (ents := []) (fs := []) 60 hE rfl rfl (fun _ h => (by cases h)) (fun f hf => (by cases hf)))
  exact this
 ·let E := envL w [(14, a.zs)] ((1, [x]) :: (a.ints 10 ++ [])) [(10, a.b)] [(10, a.o)]
  have hE : E.Ok := envL_ok (row_in a.h.nums none_in) (one_in (i64_bd wx) (a.ints_in 10 none_in))
  have n1 : (a.arg 10).Named E := ⟨rfl, rfl, rfl, rfl, rfl, rfl, (by show (14 : Nat) ≠ 0; decide)⟩
  have hlen : E.i 12 = (a.len : Int) := rfl
  have hlh : (a.len : Int) ≤ hi64 := le_hi (Nat.le_refl _) (Nat.le_trans a.h.room a.h.max)
  have fin : ∀ n h : Int, n ≤ (a.len : Int) → (a.len : Int) ≤ h → okEm n h = true → Calls Try.prog 7 #[v0, .int .i64 x] w fun r w' => r = .returned (.bool true) ∧ Below w.heap.size w w' := fun n h h1 h2 hrun => by
   have := law_ok (funB_ok (G := GZ) okSpB 7) hrun (E := E) (w := w) rfl (slMem_ok (ents := [enW 10]) (fs := (.var 12, n, h) :: faW 10) 60 hE rfl rfl (fun e he => by
    rcases List.mem_singleton.1 he with rfl
    exact a.ent n1) (fun f hf => by
    rcases List.mem_cons.1 hf with rfl | hf
    ·show n ≤ E.i 12 ∧ E.i 12 ≤ h
     rw [hlen]
     exact ⟨h1, h2⟩
    ·exact a.facts n1 f hf))
   rw [show (([slW 10, vi 1] : List SV).map (dv E)).toArray = #[v0, .int .i64 x] by
    show #[dv E (slW 10), .int .i64 x] = _
    rw [a.val n1]] at this
   exact this
  rcases (by omega : (a.len : Int) = 0 ∨ (a.len : Int) = 1 ∨ (a.len : Int) = 2 ∨ (a.len : Int) = 3 ∨ (a.len : Int) = 4 ∨ (a.len : Int) = 5 ∨ (a.len : Int) = 6 ∨ (a.len : Int) = 7 ∨ (a.len : Int) = 8 ∨ (a.len : Int) = 9 ∨ (a.len : Int) = 10 ∨ (a.len : Int) = 11 ∨ 12 ≤ (a.len : Int)) with g | g | g | g | g | g | g | g | g | g | g | g | g
  ·exact fin 0 0 (by omega) (by omega) em0
  ·exact fin 1 1 (by omega) (by omega) em1
  ·exact fin 2 2 (by omega) (by omega) em2
  ·exact fin 3 3 (by omega) (by omega) em3
  ·exact fin 4 4 (by omega) (by omega) em4
  ·exact fin 5 5 (by omega) (by omega) em5
  ·exact fin 6 6 (by omega) (by omega) em6
  ·exact fin 7 7 (by omega) (by omega) em7
  ·exact fin 8 8 (by omega) (by omega) em8
  ·exact fin 9 9 (by omega) (by omega) em9
  ·exact fin 10 10 (by omega) (by omega) em10
  ·exact fin 11 11 (by omega) (by omega) em11
  ·exact fin 12 hi64 (by omega) (by exact hlh) em12
end Go.Proofs.Ytoemdbongkkmjaa
namespace Go.Proofs.Ytoemdbongkkmjaa.limboEmpties
open Go.ChangeShapes Go.WideShapes Go.ChangeAt Go.RowKit Go.Deep
set_option maxRecDepth 100000 in
theorem lifted (os : Os) (started : os.Started) (H : Type) (enc : TypeId × Value → H) :
  ReturnsInHanded {} Try.checked os 7 .any (Rows.limboEmptiesSpec.pre6 enc Try.prog Try.f7 Rows.limboEmptiesRow.domain false) (Rows.limboEmptiesSpec.post enc Try.prog Try.f7 false true false false) := by
 refine returnsInHanded_of_change (C := Try.checked) own started (by kernel_rfl) Try.func7
  (ChangeSpec.witness6 (enc := enc) (C := Try.checked) false ⟨#[], #[.slice none 0 0, .int .i64 0], []⟩ 60 (by kernel_rfl) (by kernel_rfl) (by kernel_rfl) (by kernel_rfl)) ?_
 intro W base args ds gs before hval0 hW _ _
 have hval : ∀ (j : Nat) t v, Try.f7.params[j]? = some t → args[j]? = some v → Value.okWide Try.prog W .any base t v := hval0
 have hW' := hW
 obtain ⟨p, q, hA0, hV, rfl, _, _⟩ := hW
 have hA : DataW.TrodAll enc Try.prog W 0 (fun _ => true) true Try.f7.params.toList args.toList ds p := hA0
 rw [Try.params7] at hA hval
 obtain ⟨v0, vs0, d0, ds0, p0, q0, hargs, rfl, rfl, h0, r0⟩ := trodAll_cons hA
 obtain ⟨v1, vs1, d1, ds1, p1, q1, rfl, rfl, rfl, h1, r1⟩ := trodAll_cons r0
 obtain ⟨rfl, rfl, rfl⟩ := trodAll_nil r1
 obtain rfl : args = #[v0, v1] := by cases args; simp_all
 obtain ⟨rfl, rfl⟩ := trodVars_none hV
 have tl0 : ∀ x ∈ p0, x.block < W.heap.size := by obtain ⟨m, hm⟩ := h0; exact DataW.trod_lt m _ _ _ hm
 have tl1 : ∀ x ∈ p1, x.block < W.heap.size := by obtain ⟨m, hm⟩ := h1; exact DataW.trod_lt m _ _ _ hm
 clear hA0 hval0
 refine (limboEmpties_walk (hval 0 29 v0 rfl rfl) h0 (hval 1 3 v1 rfl rfl) h1).mono fun e W' ⟨he, bel⟩ => ?_
 subst he
 exact ⟨_, rfl, _, _, _, [], _, [], hW', trodAll_mk1 (shut_bool Try.underlying4 _), (trodAll_cons_mk (Below.trod laidOut (by kernel_rfl) (of_decide_eq_true (by kernel_rfl)) h0 bel tl0) (trodAll_cons_mk (Below.trod laidOut (by kernel_rfl) (of_decide_eq_true (by kernel_rfl)) h1 bel tl1) trodAll_mk0)), rfl, bel.frame _, fun h => by cases h⟩
theorem over : Rows.limboEmptiesRow.holds Try.pinned (OpenSpec.ofChange Rows.limboEmptiesSpec) :=
 OpenClaim.holds_of_wide 7 Try.f7 rfl rfl rfl rfl rfl rfl rfl ⟨rfl, rfl, rfl, rfl, rfl⟩ rfl rfl rfl rfl rfl (by kernel_rfl) Try.func7 (by kernel_rfl)
  (of_decide_eq_true (by kernel_rfl)) (by unfold Func.isWrapper; first | (rw [if_pos (by decide +kernel)]; kernel_rfl) | (rw [if_neg (by decide +kernel)]; exact ⟨rfl, rfl⟩))
  (fun os started H enc _ => lifted os started H enc)
theorem proved : Rows.LimboEmptiesSaid := over
#print axioms proved
end Go.Proofs.Ytoemdbongkkmjaa.limboEmpties
