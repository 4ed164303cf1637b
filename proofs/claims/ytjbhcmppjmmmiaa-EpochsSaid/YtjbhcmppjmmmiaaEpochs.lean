/- The law Epochs: for every input the call returns true, and each argument reads afterwards as it read before; no condition. -/
import Derived.Test.YtjbhcmppjmmmiaaWR
import Derived.Test.YtjbhcmppjmmmiaaD
namespace Go.Proofs.Ytjbhcmppjmmmiaa
open Go.Sx Go Go.ChangeShapes Go.WideShapes Go.ChangeAt Go.RowKit Go.Deep
set_option maxRecDepth 100000
theorem cnnn {w : World} {z : Int} (hz : in64 z) : Calls Try.prog 3 #[Value.slice none 0 0, Value.slice none 0 0, Value.int .i64 z, Value.slice none 0 0] w fun r w' => r = .returned (.bool true) ∧ Below w.heap.size w w' := by
 let E := envL w [] ((2, [z]) :: ([])) [] []
 have hE : E.Ok := envL_ok none_in (one_in hz none_in)
 have hent : ∀ e ∈ ([] : List Ent), e.ro = true ∧ EntOk E w e := fun _ h => (by cases h)
 have hfs : ∀ f ∈ ([] : List Fact), FactOk E f := fun _ h => (by cases h)
 have := law_ok (funE_ok (fun h => (by cases h))) rnnn (E := E) (w := w) rfl (slMem_ok 60 hE rfl rfl hent hfs)
 rw [show (([.nils, .nils, vi 2, .nils] : List SV).map (dv E)).toArray = #[Value.slice none 0 0, Value.slice none 0 0, Value.int .i64 z, Value.slice none 0 0] by
  show #[Value.slice none 0 0, Value.slice none 0 0, Value.int .i64 z, Value.slice none 0 0] = _
  rfl] at this
 exact this
theorem csnn {w : World} {v0 : Value} (a0 : SlA w v0) {z : Int} (hz : in64 z) : Calls Try.prog 3 #[v0, Value.slice none 0 0, Value.int .i64 z, Value.slice none 0 0] w fun r w' => r = .returned (.bool true) ∧ Below w.heap.size w w' := by
 let E := envL w [(14, a0.zs)] ((2, [z]) :: (a0.ints 10 ++ ([]))) [(10, a0.b)] [(10, a0.o)]
 have hE : E.Ok := envL_ok (row_in a0.h.nums none_in) (one_in hz (a0.ints_in 10 none_in))
 have n0 : (a0.arg 10).Named E := ⟨rfl, rfl, rfl, rfl, rfl, rfl, (by show (14 : Nat) ≠ 0; decide)⟩
 have hent : ∀ e ∈ [enW 10], e.ro = true ∧ EntOk E w e := fun e he => by
  simp only [List.mem_cons, List.not_mem_nil, or_false] at he
  rcases he with rfl
  ·exact a0.ent n0
 have hfs : ∀ f ∈ faW 10, FactOk E f := a0.facts n0
 have := law_ok (funE_ok (fun h => (by cases h))) rsnn (E := E) (w := w) rfl (slMem_ok 60 hE rfl rfl hent hfs)
 rw [show (([slW 10, .nils, vi 2, .nils] : List SV).map (dv E)).toArray = #[v0, Value.slice none 0 0, Value.int .i64 z, Value.slice none 0 0] by
  show #[dv E (slW 10), Value.slice none 0 0, Value.int .i64 z, Value.slice none 0 0] = _
  rw [a0.val n0]] at this
 exact this
theorem cnsn {w : World} {v1 : Value} (a1 : SlA w v1) {z : Int} (hz : in64 z) : Calls Try.prog 3 #[Value.slice none 0 0, v1, Value.int .i64 z, Value.slice none 0 0] w fun r w' => r = .returned (.bool true) ∧ Below w.heap.size w w' := by
 let E := envL w [(24, a1.zs)] ((2, [z]) :: (a1.ints 20 ++ ([]))) [(20, a1.b)] [(20, a1.o)]
 have hE : E.Ok := envL_ok (row_in a1.h.nums none_in) (one_in hz (a1.ints_in 20 none_in))
 have n1 : (a1.arg 20).Named E := ⟨rfl, rfl, rfl, rfl, rfl, rfl, (by show (24 : Nat) ≠ 0; decide)⟩
 have hent : ∀ e ∈ [enW 20], e.ro = true ∧ EntOk E w e := fun e he => by
  simp only [List.mem_cons, List.not_mem_nil, or_false] at he
  rcases he with rfl
  ·exact a1.ent n1
 have hfs : ∀ f ∈ faW 20, FactOk E f := a1.facts n1
 have := law_ok (funE_ok (fun h => (by cases h))) rnsn (E := E) (w := w) rfl (slMem_ok 60 hE rfl rfl hent hfs)
 rw [show (([.nils, slW 20, vi 2, .nils] : List SV).map (dv E)).toArray = #[Value.slice none 0 0, v1, Value.int .i64 z, Value.slice none 0 0] by
  show #[Value.slice none 0 0, dv E (slW 20), Value.int .i64 z, Value.slice none 0 0] = _
  rw [a1.val n1]] at this
 exact this
theorem cssn {w : World} {v0 : Value} (a0 : SlA w v0) {v1 : Value} (a1 : SlA w v1) {z : Int} (hz : in64 z) : Calls Try.prog 3 #[v0, v1, Value.int .i64 z, Value.slice none 0 0] w fun r w' => r = .returned (.bool true) ∧ Below w.heap.size w w' := by
 let E := envL w [(14, a0.zs), (24, a1.zs)] ((2, [z]) :: (a0.ints 10 ++ (a1.ints 20 ++ ([])))) [(10, a0.b), (20, a1.b)] [(10, a0.o), (20, a1.o)]
 have hE : E.Ok := envL_ok (row_in a0.h.nums (row_in a1.h.nums none_in)) (one_in hz (a0.ints_in 10 (a1.ints_in 20 none_in)))
 have n0 : (a0.arg 10).Named E := ⟨rfl, rfl, rfl, rfl, rfl, rfl, (by show (14 : Nat) ≠ 0; decide)⟩
 have n1 : (a1.arg 20).Named E := ⟨rfl, rfl, rfl, rfl, rfl, rfl, (by show (24 : Nat) ≠ 0; decide)⟩
 have hent : ∀ e ∈ [enW 10, enW 20], e.ro = true ∧ EntOk E w e := fun e he => by
  simp only [List.mem_cons, List.not_mem_nil, or_false] at he
  rcases he with rfl | rfl
  ·exact a0.ent n0
  ·exact a1.ent n1
 have hfs : ∀ f ∈ faW 10 ++ faW 20, FactOk E f := fun f hf => by
  simp only [List.mem_append] at hf
  rcases hf with hf | hf
  ·exact a0.facts n0 f hf
  ·exact a1.facts n1 f hf
 have := law_ok (funE_ok (fun _ => ok8_0)) rssn (E := E) (w := w) rfl (slMem_ok 60 hE rfl rfl hent hfs)
 rw [show (([slW 10, slW 20, vi 2, .nils] : List SV).map (dv E)).toArray = #[v0, v1, Value.int .i64 z, Value.slice none 0 0] by
  show #[dv E (slW 10), dv E (slW 20), Value.int .i64 z, Value.slice none 0 0] = _
  rw [a0.val n0, a1.val n1]] at this
 exact this
theorem cnns {w : World} {v3 : Value} (a3 : SlA w v3) {z : Int} (hz : in64 z) : Calls Try.prog 3 #[Value.slice none 0 0, Value.slice none 0 0, Value.int .i64 z, v3] w fun r w' => r = .returned (.bool true) ∧ Below w.heap.size w w' := by
 let E := envL w [(44, a3.zs)] ((2, [z]) :: (a3.ints 40 ++ ([]))) [(40, a3.b)] [(40, a3.o)]
 have hE : E.Ok := envL_ok (row_in a3.h.nums none_in) (one_in hz (a3.ints_in 40 none_in))
 have n3 : (a3.arg 40).Named E := ⟨rfl, rfl, rfl, rfl, rfl, rfl, (by show (44 : Nat) ≠ 0; decide)⟩
 have hent : ∀ e ∈ [enW 40], e.ro = true ∧ EntOk E w e := fun e he => by
  simp only [List.mem_cons, List.not_mem_nil, or_false] at he
  rcases he with rfl
  ·exact a3.ent n3
 have hfs : ∀ f ∈ faW 40, FactOk E f := a3.facts n3
 have := law_ok (funE_ok (fun h => (by cases h))) rnns (E := E) (w := w) rfl (slMem_ok 60 hE rfl rfl hent hfs)
 rw [show (([.nils, .nils, vi 2, slW 40] : List SV).map (dv E)).toArray = #[Value.slice none 0 0, Value.slice none 0 0, Value.int .i64 z, v3] by
  show #[Value.slice none 0 0, Value.slice none 0 0, Value.int .i64 z, dv E (slW 40)] = _
  rw [a3.val n3]] at this
 exact this
theorem csns {w : World} {v0 : Value} (a0 : SlA w v0) {v3 : Value} (a3 : SlA w v3) {z : Int} (hz : in64 z) : Calls Try.prog 3 #[v0, Value.slice none 0 0, Value.int .i64 z, v3] w fun r w' => r = .returned (.bool true) ∧ Below w.heap.size w w' := by
 let E := envL w [(14, a0.zs), (44, a3.zs)] ((2, [z]) :: (a0.ints 10 ++ (a3.ints 40 ++ ([])))) [(10, a0.b), (40, a3.b)] [(10, a0.o), (40, a3.o)]
 have hE : E.Ok := envL_ok (row_in a0.h.nums (row_in a3.h.nums none_in)) (one_in hz (a0.ints_in 10 (a3.ints_in 40 none_in)))
 have n0 : (a0.arg 10).Named E := ⟨rfl, rfl, rfl, rfl, rfl, rfl, (by show (14 : Nat) ≠ 0; decide)⟩
 have n3 : (a3.arg 40).Named E := ⟨rfl, rfl, rfl, rfl, rfl, rfl, (by show (44 : Nat) ≠ 0; decide)⟩
 have hent : ∀ e ∈ [enW 10, enW 40], e.ro = true ∧ EntOk E w e := fun e he => by
  simp only [List.mem_cons, List.not_mem_nil, or_false] at he
  rcases he with rfl | rfl
  ·exact a0.ent n0
  ·exact a3.ent n3
 have hfs : ∀ f ∈ faW 10 ++ faW 40, FactOk E f := fun f hf => by
  simp only [List.mem_append] at hf
  rcases hf with hf | hf
  ·exact a0.facts n0 f hf
  ·exact a3.facts n3 f hf
 have := law_ok (funE_ok (fun h => (by cases h))) rsns (E := E) (w := w) rfl (slMem_ok 60 hE rfl rfl hent hfs)
 rw [show (([slW 10, .nils, vi 2, slW 40] : List SV).map (dv E)).toArray = #[v0, Value.slice none 0 0, Value.int .i64 z, v3] by
  show #[dv E (slW 10), Value.slice none 0 0, Value.int .i64 z, dv E (slW 40)] = _
  rw [a0.val n0, a3.val n3]] at this
 exact this
theorem cnss {w : World} {v1 : Value} (a1 : SlA w v1) {v3 : Value} (a3 : SlA w v3) {z : Int} (hz : in64 z) : Calls Try.prog 3 #[Value.slice none 0 0, v1, Value.int .i64 z, v3] w fun r w' => r = .returned (.bool true) ∧ Below w.heap.size w w' := by
 let E := envL w [(24, a1.zs), (44, a3.zs)] ((2, [z]) :: (a1.ints 20 ++ (a3.ints 40 ++ ([])))) [(20, a1.b), (40, a3.b)] [(20, a1.o), (40, a3.o)]
 have hE : E.Ok := envL_ok (row_in a1.h.nums (row_in a3.h.nums none_in)) (one_in hz (a1.ints_in 20 (a3.ints_in 40 none_in)))
 have n1 : (a1.arg 20).Named E := ⟨rfl, rfl, rfl, rfl, rfl, rfl, (by show (24 : Nat) ≠ 0; decide)⟩
 have n3 : (a3.arg 40).Named E := ⟨rfl, rfl, rfl, rfl, rfl, rfl, (by show (44 : Nat) ≠ 0; decide)⟩
 have hent : ∀ e ∈ [enW 20, enW 40], e.ro = true ∧ EntOk E w e := fun e he => by
  simp only [List.mem_cons, List.not_mem_nil, or_false] at he
  rcases he with rfl | rfl
  ·exact a1.ent n1
  ·exact a3.ent n3
 have hfs : ∀ f ∈ faW 20 ++ faW 40, FactOk E f := fun f hf => by
  simp only [List.mem_append] at hf
  rcases hf with hf | hf
  ·exact a1.facts n1 f hf
  ·exact a3.facts n3 f hf
 have := law_ok (funE_ok (fun h => (by cases h))) rnss (E := E) (w := w) rfl (slMem_ok 60 hE rfl rfl hent hfs)
 rw [show (([.nils, slW 20, vi 2, slW 40] : List SV).map (dv E)).toArray = #[Value.slice none 0 0, v1, Value.int .i64 z, v3] by
  show #[Value.slice none 0 0, dv E (slW 20), Value.int .i64 z, dv E (slW 40)] = _
  rw [a1.val n1, a3.val n3]] at this
 exact this
theorem csss {w : World} {v0 : Value} (a0 : SlA w v0) {v1 : Value} (a1 : SlA w v1) {v3 : Value} (a3 : SlA w v3) {z : Int} (hz : in64 z) : Calls Try.prog 3 #[v0, v1, Value.int .i64 z, v3] w fun r w' => r = .returned (.bool true) ∧ Below w.heap.size w w' := by
 let E := envL w [(14, a0.zs), (24, a1.zs), (44, a3.zs)] ((2, [z]) :: (a0.ints 10 ++ (a1.ints 20 ++ (a3.ints 40 ++ ([]))))) [(10, a0.b), (20, a1.b), (40, a3.b)] [(10, a0.o), (20, a1.o), (40, a3.o)]
 have hE : E.Ok := envL_ok (row_in a0.h.nums (row_in a1.h.nums (row_in a3.h.nums none_in))) (one_in hz (a0.ints_in 10 (a1.ints_in 20 (a3.ints_in 40 none_in))))
 have n0 : (a0.arg 10).Named E := ⟨rfl, rfl, rfl, rfl, rfl, rfl, (by show (14 : Nat) ≠ 0; decide)⟩
 have n1 : (a1.arg 20).Named E := ⟨rfl, rfl, rfl, rfl, rfl, rfl, (by show (24 : Nat) ≠ 0; decide)⟩
 have n3 : (a3.arg 40).Named E := ⟨rfl, rfl, rfl, rfl, rfl, rfl, (by show (44 : Nat) ≠ 0; decide)⟩
 have hent : ∀ e ∈ [enW 10, enW 20, enW 40], e.ro = true ∧ EntOk E w e := fun e he => by
  simp only [List.mem_cons, List.not_mem_nil, or_false] at he
  rcases he with rfl | rfl | rfl
  ·exact a0.ent n0
  ·exact a1.ent n1
  ·exact a3.ent n3
 have hfs : ∀ f ∈ faW 10 ++ faW 20 ++ faW 40, FactOk E f := fun f hf => by
  simp only [List.mem_append, or_assoc] at hf
  rcases hf with hf | hf | hf
  ·exact a0.facts n0 f hf
  ·exact a1.facts n1 f hf
  ·exact a3.facts n3 f hf
 have := law_ok (funE_ok (fun _ => ok8_4)) rsss (E := E) (w := w) rfl (slMem_ok 60 hE rfl rfl hent hfs)
 rw [show (([slW 10, slW 20, vi 2, slW 40] : List SV).map (dv E)).toArray = #[v0, v1, Value.int .i64 z, v3] by
  show #[dv E (slW 10), dv E (slW 20), Value.int .i64 z, dv E (slW 40)] = _
  rw [a0.val n0, a1.val n1, a3.val n3]] at this
 exact this
theorem epochs_walk {w : World} {r : Reach} {b0 : Nat} {v0 v1 v2 v3 : Value} {H : Type} {enc : TypeId × Value → H} {base : Nat} {spare : Nat → Bool} {held : Bool} {d0 d1 d2 d3 : DataW H} {p0 p1 p2 p3 : List MemPlace}
  (k0 : Value.okWide Try.prog w r b0 22 v0) (h0 : DataW.Trod enc Try.prog w base spare held 22 v0 d0 p0)
  (k1 : Value.okWide Try.prog w r b0 22 v1) (h1 : DataW.Trod enc Try.prog w base spare held 22 v1 d1 p1)
  (k2 : Value.okWide Try.prog w r b0 3 v2) (h2 : DataW.Trod enc Try.prog w base spare held 3 v2 d2 p2)
  (k3 : Value.okWide Try.prog w r b0 22 v3) (h3 : DataW.Trod enc Try.prog w base spare held 22 v3 d3 p3) :
  Calls Try.prog 3 #[v0, v1, v2, v3] w fun r w' => r = .returned (.bool true) ∧ Below w.heap.size w w' := by
 obtain ⟨z, rfl, _, _, wz⟩ := open_int Try.underlying3 k2 h2
 have hz := i64_bd wz
 rcases open_a k0 h0 with rfl | ⟨a0, _⟩ <;> rcases open_a k1 h1 with rfl | ⟨a1, _⟩ <;> rcases open_a k3 h3 with rfl | ⟨a3, _⟩
 ·exact cnnn hz
 ·exact cnns a3 hz
 ·exact cnsn a1 hz
 ·exact cnss a1 a3 hz
 ·exact csnn a0 hz
 ·exact csns a0 a3 hz
 ·exact cssn a0 a1 hz
 ·exact csss a0 a1 a3 hz
end Go.Proofs.Ytjbhcmppjmmmiaa
namespace Go.Proofs.Ytjbhcmppjmmmiaa.epochs
open Go.ChangeShapes Go.WideShapes Go.ChangeAt Go.RowKit Go.Deep
set_option maxRecDepth 100000 in
theorem lifted (os : Os) (started : os.Started) (H : Type) (enc : TypeId × Value → H) :
  ReturnsInHanded {} Try.checked os 3 .any (Rows.epochsSpec.pre6 enc Try.prog Try.f3 Rows.epochsRow.domain false) (Rows.epochsSpec.post enc Try.prog Try.f3 false true false false) := by
 refine returnsInHanded_of_change (C := Try.checked) own started (by kernel_rfl) Try.func3
  (ChangeSpec.witness6 (enc := enc) (C := Try.checked) false ⟨#[], #[.slice none 0 0, .slice none 0 0, .int .i64 0, .slice none 0 0], []⟩ 60 (by kernel_rfl) (by kernel_rfl) (by kernel_rfl) (by kernel_rfl)) ?_
 intro W base args ds gs before hval0 hW _ _
 have hval : ∀ (j : Nat) t v, Try.f3.params[j]? = some t → args[j]? = some v → Value.okWide Try.prog W .any base t v := hval0
 have hW' := hW
 obtain ⟨p, q, hA0, hV, rfl, _, _⟩ := hW
 have hA : DataW.TrodAll enc Try.prog W 0 (fun _ => true) true Try.f3.params.toList args.toList ds p := hA0
 rw [Try.params3] at hA hval
 obtain ⟨v0, vs0, d0, ds0, p0, q0, hargs, rfl, rfl, h0, r0⟩ := trodAll_cons hA
 obtain ⟨v1, vs1, d1, ds1, p1, q1, rfl, rfl, rfl, h1, r1⟩ := trodAll_cons r0
 obtain ⟨v2, vs2, d2, ds2, p2, q2, rfl, rfl, rfl, h2, r2⟩ := trodAll_cons r1
 obtain ⟨v3, vs3, d3, ds3, p3, q3, rfl, rfl, rfl, h3, r3⟩ := trodAll_cons r2
 obtain ⟨rfl, rfl, rfl⟩ := trodAll_nil r3
 obtain rfl : args = #[v0, v1, v2, v3] := by cases args; simp_all
 obtain ⟨rfl, rfl⟩ := trodVars_none hV
 have tl0 : ∀ x ∈ p0, x.block < W.heap.size := by obtain ⟨m, hm⟩ := h0; exact DataW.trod_lt m _ _ _ hm
 have tl1 : ∀ x ∈ p1, x.block < W.heap.size := by obtain ⟨m, hm⟩ := h1; exact DataW.trod_lt m _ _ _ hm
 have tl2 : ∀ x ∈ p2, x.block < W.heap.size := by obtain ⟨m, hm⟩ := h2; exact DataW.trod_lt m _ _ _ hm
 have tl3 : ∀ x ∈ p3, x.block < W.heap.size := by obtain ⟨m, hm⟩ := h3; exact DataW.trod_lt m _ _ _ hm
 clear hA0 hval0
 refine (epochs_walk (hval 0 22 v0 rfl rfl) h0 (hval 1 22 v1 rfl rfl) h1 (hval 2 3 v2 rfl rfl) h2 (hval 3 22 v3 rfl rfl) h3).mono fun e W' ⟨he, bel⟩ => ?_
 subst he
 exact ⟨_, rfl, _, _, _, [], _, [], hW', trodAll_mk1 (shut_bool Try.underlying4 _), (trodAll_cons_mk (Below.trod laidOut (by kernel_rfl) (of_decide_eq_true (by kernel_rfl)) h0 bel tl0) (trodAll_cons_mk (Below.trod laidOut (by kernel_rfl) (of_decide_eq_true (by kernel_rfl)) h1 bel tl1) (trodAll_cons_mk (Below.trod laidOut (by kernel_rfl) (of_decide_eq_true (by kernel_rfl)) h2 bel tl2) (trodAll_cons_mk (Below.trod laidOut (by kernel_rfl) (of_decide_eq_true (by kernel_rfl)) h3 bel tl3) trodAll_mk0)))), rfl, bel.frame _, fun h => by cases h⟩
theorem over : Rows.epochsRow.holds Try.pinned (OpenSpec.ofChange Rows.epochsSpec) :=
 OpenClaim.holds_of_wide 3 Try.f3 rfl rfl rfl rfl rfl rfl rfl ⟨rfl, rfl, rfl, rfl, rfl⟩ rfl rfl rfl rfl rfl (by kernel_rfl) Try.func3 (by kernel_rfl)
  (of_decide_eq_true (by kernel_rfl)) (by unfold Func.isWrapper; first | (rw [if_pos (by decide +kernel)]; kernel_rfl) | (rw [if_neg (by decide +kernel)]; exact ⟨rfl, rfl⟩))
  (fun os started H enc _ => lifted os started H enc)
theorem proved : Rows.EpochsSaid := over
#print axioms proved
end Go.Proofs.Ytjbhcmppjmmmiaa.epochs
