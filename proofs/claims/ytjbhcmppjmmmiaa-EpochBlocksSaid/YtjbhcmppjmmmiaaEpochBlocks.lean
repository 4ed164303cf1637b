/- The law EpochBlocks: for every input the call returns true, and each argument reads afterwards as it read before; no condition. -/
import Derived.Test.YtjbhcmppjmmmiaaBa
import Derived.Test.YtjbhcmppjmmmiaaBb
import Derived.Test.YtjbhcmppjmmmiaaBc
import Derived.Test.YtjbhcmppjmmmiaaBd
import Derived.Test.YtjbhcmppjmmmiaaD
namespace Go.Proofs.Ytjbhcmppjmmmiaa
open Go.Sx Go Go.ChangeShapes Go.WideShapes Go.ChangeAt Go.RowKit Go.Deep
set_option maxRecDepth 100000
theorem epochBlocks_walk {w : World} {r : Reach} {b0 : Nat} {v0 v1 v2 : Value} {H : Type} {enc : TypeId × Value → H} {base : Nat} {spare : Nat → Bool} {held : Bool} {d0 d1 d2 : DataW H} {p0 p1 p2 : List MemPlace}
  (k0 : Value.okWide Try.prog w r b0 3 v0) (h0 : DataW.Trod enc Try.prog w base spare held 3 v0 d0 p0)
  (k1 : Value.okWide Try.prog w r b0 22 v1) (h1 : DataW.Trod enc Try.prog w base spare held 22 v1 d1 p1)
  (k2 : Value.okWide Try.prog w r b0 3 v2) (h2 : DataW.Trod enc Try.prog w base spare held 3 v2 d2 p2) :
  Calls Try.prog 6 #[v0, v1, v2] w fun r w' => r = .returned (.bool true) ∧ Below w.heap.size w w' := by
 obtain ⟨x, rfl, _, _, wx⟩ := open_int Try.underlying3 k0 h0
 obtain ⟨z, rfl, _, _, wz⟩ := open_int Try.underlying3 k2 h2
 rcases open_a k1 h1 with rfl | ⟨a, _⟩
 ·let E := envL w [] ((1, [x]) :: (2, [z]) :: []) [] []
  have hE : E.Ok := envL_ok none_in (one_in (i64_bd wx) (one_in (i64_bd wz) none_in))
  have hr : 0 ≤ ev E (.bit .and .i64 (.var 2) (.lit 3)) ∧ ev E (.bit .and .i64 (.var 2) (.lit 3)) ≤ 3 := by
   rw [ev_bit, ev_lit]
   exact and_in .i64 _ 3 (by decide) (by decide)
  have fin : ∀ k : Int, ev E (.bit .and .i64 (.var 2) (.lit 3)) = k → okZ k = true → Calls Try.prog 6 #[.int .i64 x, .slice none 0 0, .int .i64 z] w fun r w' => r = .returned (.bool true) ∧ Below w.heap.size w w' := fun k hk hrun => by
   have := law_ok funB_ok hrun (E := E) (w := w) rfl (slMem_ok (ents := []) (fs := [kF k]) 60 hE rfl rfl (fun _ h => (by cases h)) (fun f hf => by
    rcases List.mem_singleton.1 hf with rfl
    unfold FactOk kF
    dsimp only
    omega))
   exact this
  rcases (by omega : ev E (.bit .and .i64 (.var 2) (.lit 3)) = 0 ∨ ev E (.bit .and .i64 (.var 2) (.lit 3)) = 1 ∨ ev E (.bit .and .i64 (.var 2) (.lit 3)) = 2 ∨ ev E (.bit .and .i64 (.var 2) (.lit 3)) = 3) with h | h | h | h
  ·exact fin 0 h z0
  ·exact fin 1 h z1
  ·exact fin 2 h z2
  ·exact fin 3 h z3
 ·let E := envL w [(24, a.zs)] ((1, [x]) :: (2, [z]) :: (a.ints 20 ++ [])) [(20, a.b)] [(20, a.o)]
  have hE : E.Ok := envL_ok (row_in a.h.nums none_in) (one_in (i64_bd wx) (one_in (i64_bd wz) (a.ints_in 20 none_in)))
  have n1 : (a.arg 20).Named E := ⟨rfl, rfl, rfl, rfl, rfl, rfl, (by show (24 : Nat) ≠ 0; decide)⟩
  have hr : 0 ≤ ev E (.bit .and .i64 (.var 2) (.lit 3)) ∧ ev E (.bit .and .i64 (.var 2) (.lit 3)) ≤ 3 := by
   rw [ev_bit, ev_lit]
   exact and_in .i64 _ 3 (by decide) (by decide)
  have hlen : E.i 22 = (a.len : Int) := rfl
  have hlh : (a.len : Int) ≤ hi64 := le_hi (Nat.le_refl _) (Nat.le_trans a.h.room a.h.max)
  have fin : ∀ k n h : Int, ev E (.bit .and .i64 (.var 2) (.lit 3)) = k → n ≤ (a.len : Int) → (a.len : Int) ≤ h → okB k n h = true → Calls Try.prog 6 #[.int .i64 x, v1, .int .i64 z] w fun r w' => r = .returned (.bool true) ∧ Below w.heap.size w w' := fun k n h hk h1 h2 hrun => by
   have := law_ok funB_ok hrun (E := E) (w := w) rfl (slMem_ok (ents := [enW 20]) (fs := kF k :: lF n h :: faW 20) 60 hE rfl rfl (fun e he => by
    rcases List.mem_singleton.1 he with rfl
    exact a.ent n1) (fun f hf => by
    rcases List.mem_cons.1 hf with rfl | hf
    ·unfold FactOk kF
     dsimp only
     omega
    rcases List.mem_cons.1 hf with rfl | hf
    ·show n ≤ E.i 22 ∧ E.i 22 ≤ h
     rw [hlen]
     exact ⟨h1, h2⟩
    ·exact a.facts n1 f hf))
   rw [show (([vi 1, slW 20, vi 2] : List SV).map (dv E)).toArray = #[.int .i64 x, v1, .int .i64 z] by
    show #[Value.int .i64 x, dv E (slW 20), .int .i64 z] = _
    rw [a.val n1]] at this
   exact this
  rcases (by omega : ev E (.bit .and .i64 (.var 2) (.lit 3)) = 0 ∨ ev E (.bit .and .i64 (.var 2) (.lit 3)) = 1 ∨ ev E (.bit .and .i64 (.var 2) (.lit 3)) = 2 ∨ ev E (.bit .and .i64 (.var 2) (.lit 3)) = 3) with h | h | h | h <;> rcases (by omega : (a.len : Int) = 0 ∨ (a.len : Int) = 1 ∨ (a.len : Int) = 2 ∨ (a.len : Int) = 3 ∨ 4 ≤ (a.len : Int)) with g | g | g | g | g
  ·exact fin 0 0 0 h (by omega) (by omega) b00
  ·exact fin 0 1 1 h (by omega) (by omega) b01
  ·exact fin 0 2 2 h (by omega) (by omega) b02
  ·exact fin 0 3 3 h (by omega) (by omega) b03
  ·exact fin 0 4 hi64 h (by omega) (by exact hlh) b04
  ·exact fin 1 0 0 h (by omega) (by omega) b10
  ·exact fin 1 1 1 h (by omega) (by omega) b11
  ·exact fin 1 2 2 h (by omega) (by omega) b12
  ·exact fin 1 3 3 h (by omega) (by omega) b13
  ·exact fin 1 4 hi64 h (by omega) (by exact hlh) b14
  ·exact fin 2 0 0 h (by omega) (by omega) b20
  ·exact fin 2 1 1 h (by omega) (by omega) b21
  ·exact fin 2 2 2 h (by omega) (by omega) b22
  ·exact fin 2 3 3 h (by omega) (by omega) b23
  ·exact fin 2 4 hi64 h (by omega) (by exact hlh) b24
  ·exact fin 3 0 0 h (by omega) (by omega) b30
  ·exact fin 3 1 1 h (by omega) (by omega) b31
  ·exact fin 3 2 2 h (by omega) (by omega) b32
  ·exact fin 3 3 3 h (by omega) (by omega) b33
  ·exact fin 3 4 hi64 h (by omega) (by exact hlh) b34
end Go.Proofs.Ytjbhcmppjmmmiaa
namespace Go.Proofs.Ytjbhcmppjmmmiaa.epochBlocks
open Go.ChangeShapes Go.WideShapes Go.ChangeAt Go.RowKit Go.Deep
set_option maxRecDepth 100000 in
theorem lifted (os : Os) (started : os.Started) (H : Type) (enc : TypeId × Value → H) :
  ReturnsInHanded {} Try.checked os 6 .any (Rows.epochBlocksSpec.pre6 enc Try.prog Try.f6 Rows.epochBlocksRow.domain false) (Rows.epochBlocksSpec.post enc Try.prog Try.f6 false true false false) := by
 refine returnsInHanded_of_change (C := Try.checked) own started (by kernel_rfl) Try.func6
  (ChangeSpec.witness6 (enc := enc) (C := Try.checked) false ⟨#[], #[.int .i64 0, .slice none 0 0, .int .i64 0], []⟩ 60 (by kernel_rfl) (by kernel_rfl) (by kernel_rfl) (by kernel_rfl)) ?_
 intro W base args ds gs before hval0 hW _ _
 have hval : ∀ (j : Nat) t v, Try.f6.params[j]? = some t → args[j]? = some v → Value.okWide Try.prog W .any base t v := hval0
 have hW' := hW
 obtain ⟨p, q, hA0, hV, rfl, _, _⟩ := hW
 have hA : DataW.TrodAll enc Try.prog W 0 (fun _ => true) true Try.f6.params.toList args.toList ds p := hA0
 rw [Try.params6] at hA hval
 obtain ⟨v0, vs0, d0, ds0, p0, q0, hargs, rfl, rfl, h0, r0⟩ := trodAll_cons hA
 obtain ⟨v1, vs1, d1, ds1, p1, q1, rfl, rfl, rfl, h1, r1⟩ := trodAll_cons r0
 obtain ⟨v2, vs2, d2, ds2, p2, q2, rfl, rfl, rfl, h2, r2⟩ := trodAll_cons r1
 obtain ⟨rfl, rfl, rfl⟩ := trodAll_nil r2
 obtain rfl : args = #[v0, v1, v2] := by cases args; simp_all
 obtain ⟨rfl, rfl⟩ := trodVars_none hV
 have tl0 : ∀ x ∈ p0, x.block < W.heap.size := by obtain ⟨m, hm⟩ := h0; exact DataW.trod_lt m _ _ _ hm
 have tl1 : ∀ x ∈ p1, x.block < W.heap.size := by obtain ⟨m, hm⟩ := h1; exact DataW.trod_lt m _ _ _ hm
 have tl2 : ∀ x ∈ p2, x.block < W.heap.size := by obtain ⟨m, hm⟩ := h2; exact DataW.trod_lt m _ _ _ hm
 clear hA0 hval0
 refine (epochBlocks_walk (hval 0 3 v0 rfl rfl) h0 (hval 1 22 v1 rfl rfl) h1 (hval 2 3 v2 rfl rfl) h2).mono fun e W' ⟨he, bel⟩ => ?_
 subst he
 exact ⟨_, rfl, _, _, _, [], _, [], hW', trodAll_mk1 (shut_bool Try.underlying4 _), (trodAll_cons_mk (Below.trod laidOut (by kernel_rfl) (of_decide_eq_true (by kernel_rfl)) h0 bel tl0) (trodAll_cons_mk (Below.trod laidOut (by kernel_rfl) (of_decide_eq_true (by kernel_rfl)) h1 bel tl1) (trodAll_cons_mk (Below.trod laidOut (by kernel_rfl) (of_decide_eq_true (by kernel_rfl)) h2 bel tl2) trodAll_mk0))), rfl, bel.frame _, fun h => by cases h⟩
theorem over : Rows.epochBlocksRow.holds Try.pinned (OpenSpec.ofChange Rows.epochBlocksSpec) :=
 OpenClaim.holds_of_wide 6 Try.f6 rfl rfl rfl rfl rfl rfl rfl ⟨rfl, rfl, rfl, rfl, rfl⟩ rfl rfl rfl rfl rfl (by kernel_rfl) Try.func6 (by kernel_rfl)
  (of_decide_eq_true (by kernel_rfl)) (by unfold Func.isWrapper; first | (rw [if_pos (by decide +kernel)]; kernel_rfl) | (rw [if_neg (by decide +kernel)]; exact ⟨rfl, rfl⟩))
  (fun os started H enc _ => lifted os started H enc)
theorem proved : Rows.EpochBlocksSaid := over
#print axioms proved
end Go.Proofs.Ytjbhcmppjmmmiaa.epochBlocks
