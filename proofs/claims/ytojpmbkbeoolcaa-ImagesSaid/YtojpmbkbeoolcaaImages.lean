/- The law Images: for every input the call returns true, and each argument reads afterwards as it read before; no condition. -/
import Derived.Test.YtojpmbkbeoolcaaIR
import Derived.Test.YtojpmbkbeoolcaaD
namespace Go.Proofs.Ytojpmbkbeoolcaa
open Go.Sx Go Go.ChangeShapes Go.WideShapes Go.ChangeAt Go.RowKit Go.Deep
set_option maxRecDepth 100000
theorem bad_16 : ∀ k, k < 10 → ok16 spA (badF k) = true
 | 0, _ => im_16_0
 | 1, _ => im_16_1
 | 2, _ => im_16_2
 | 3, _ => im_16_3
 | 4, _ => im_16_4
 | 5, _ => im_16_5
 | 6, _ => im_16_6
 | 7, _ => im_16_7
 | 8, _ => im_16_8
 | 9, _ => im_16_9
 | n + 10, h => absurd h (by omega)
theorem bad_lo : ∀ k, k < 10 → okO spA 0 15 (badF k) = true
 | 0, _ => im_lo_0
 | 1, _ => im_lo_1
 | 2, _ => im_lo_2
 | 3, _ => im_lo_3
 | 4, _ => im_lo_4
 | 5, _ => im_lo_5
 | 6, _ => im_lo_6
 | 7, _ => im_lo_7
 | 8, _ => im_lo_8
 | 9, _ => im_lo_9
 | n + 10, h => absurd h (by omega)
theorem bad_hi : ∀ k, k < 10 → okO spA 17 9223372036854775807 (badF k) = true
 | 0, _ => im_hi_0
 | 1, _ => im_hi_1
 | 2, _ => im_hi_2
 | 3, _ => im_hi_3
 | 4, _ => im_hi_4
 | 5, _ => im_hi_5
 | 6, _ => im_hi_6
 | 7, _ => im_hi_7
 | 8, _ => im_hi_8
 | 9, _ => im_hi_9
 | n + 10, h => absurd h (by omega)
theorem bad_n : ∀ k, k < 10 → okN spA (badF k) = true
 | 0, _ => im_n_0
 | 1, _ => im_n_1
 | 2, _ => im_n_2
 | 3, _ => im_n_3
 | 4, _ => im_n_4
 | 5, _ => im_n_5
 | 6, _ => im_n_6
 | 7, _ => im_n_7
 | 8, _ => im_n_8
 | 9, _ => im_n_9
 | n + 10, h => absurd h (by omega)
theorem put_cases {E : Env} {c0 c1 c2 c3 a : Int} (h : E.l 1 = [c0, c1, c2, c3]) (h5 : E.i 5 = a) (g0 : in64 c0) (g1 : in64 c1) (g2 : in64 c2) (g3 : in64 c3) (ga : in64 a) : (∀ f ∈ mayF, FactOk E f) ∨ ∃ k, k < 10 ∧ ∀ f ∈ badF k, FactOk E f := by
 have s : ∀ (i : Nat) (lo hi : Int), lo ≤ ([c0, c1, c2, c3] : List Int).getD i 0 → ([c0, c1, c2, c3] : List Int).getD i 0 ≤ hi → FactOk E (.sel 1 (.lit (.ofNat i)), lo, hi) := fun i lo hi h1 h2 => by
  unfold FactOk
  rw [ev_sel, ev_lit]
  show lo ≤ (E.l 1).getD i 0 ∧ (E.l 1).getD i 0 ≤ hi
  rw [h]
  exact ⟨h1, h2⟩
 have v : ∀ (lo hi : Int), lo ≤ a → a ≤ hi → FactOk E (.var 5, lo, hi) := fun lo hi h1 h2 => by
  show lo ≤ E.i 5 ∧ E.i 5 ≤ hi
  rw [h5]
  exact ⟨h1, h2⟩
 have one : ∀ {f : Fact}, FactOk E f → ∀ g ∈ [f], FactOk E g := fun h g hg => by
  rcases List.mem_singleton.1 hg with rfl
  exact h
 unfold in64 at g0 g1 g2 g3 ga
 by_cases q0l : c0 ≤ -2
 ·exact .inr ⟨0, by omega, one (s 0 lo64 (-2) g0.1 q0l)⟩
 by_cases q0h : 1048576 ≤ c0
 ·exact .inr ⟨1, by omega, one (s 0 1048576 hi64 q0h g0.2)⟩
 by_cases q1l : c1 ≤ -2
 ·exact .inr ⟨2, by omega, one (s 1 lo64 (-2) g1.1 q1l)⟩
 by_cases q1h : 1048576 ≤ c1
 ·exact .inr ⟨3, by omega, one (s 1 1048576 hi64 q1h g1.2)⟩
 by_cases q2l : c2 ≤ -2
 ·exact .inr ⟨4, by omega, one (s 2 lo64 (-2) g2.1 q2l)⟩
 by_cases q2h : 1048576 ≤ c2
 ·exact .inr ⟨5, by omega, one (s 2 1048576 hi64 q2h g2.2)⟩
 by_cases q3l : c3 ≤ -2
 ·exact .inr ⟨6, by omega, one (s 3 lo64 (-2) g3.1 q3l)⟩
 by_cases q3h : 1048576 ≤ c3
 ·exact .inr ⟨7, by omega, one (s 3 1048576 hi64 q3h g3.2)⟩
 by_cases ql : a ≤ -1
 ·exact .inr ⟨8, by omega, one (v lo64 (-1) ga.1 ql)⟩
 by_cases qh : 32 ≤ a
 ·exact .inr ⟨9, by omega, one (v 32 hi64 qh ga.2)⟩
 refine .inl fun f hf => ?_
 unfold mayF rngB at hf
 simp only [List.mem_cons, List.not_mem_nil, or_false] at hf
 rcases hf with rfl | rfl | rfl | rfl | rfl
 ·exact v 0 31 (by omega) (by omega)
 ·exact s 0 (-1) 1048575 (by show -1 ≤ c0; omega) (by show c0 ≤ 1048575; omega)
 ·exact s 1 (-1) 1048575 (by show -1 ≤ c1; omega) (by show c1 ≤ 1048575; omega)
 ·exact s 2 (-1) 1048575 (by show -1 ≤ c2; omega) (by show c2 ≤ 1048575; omega)
 ·exact s 3 (-1) 1048575 (by show -1 ≤ c3; omega) (by show c3 ≤ 1048575; omega)
theorem run_I {s : List SV → X SV} (hs : SpecOk G0 Try.prog 3 s) {sv : SV} {ents : List Ent} {fs : List Fact} (hrun : allOf (s [sv, stV 1 20, vi 5] (slMem ents fs 60)) isTrue = true) {w : World} {E : Env} (hE : E.Ok) (hf : E.f = G0) (hb : E.base 0 = w.heap.size) (h0 : E.o 0 = 0)
  (hents : ∀ e ∈ ents, e.ro = true ∧ EntOk E w e) (hfs : ∀ f ∈ fs, FactOk E f) {v0 v1 v2 : Value} (hv : dv E sv = v0) (h1 : dv E (stV 1 20) = v1) (h2 : dv E (vi 5) = v2) : Calls Try.prog 3 #[v0, v1, v2] w fun r w' => r = .returned (.bool true) ∧ Below w.heap.size w w' := by
 have := law_ok hs hrun (E := E) (w := w) hf (slMem_ok 60 hE hb h0 hents hfs)
 rw [List.map_cons, List.map_cons, List.map_cons, List.map_nil, hv, h1, h2] at this
 exact this
abbrev slI (l c : Nat) : List (Nat × List Int) := [(47, [0]), (48, [(l : Int)]), (49, [(c : Int)])]
theorem slI_in {l c : Nat} (h : l ≤ c) (hc : c ≤ maxLen) : ∀ y ∈ slI l c, ∀ z ∈ y.2, in64 z := one_in zero_in (one_in (len_in (Nat.le_trans h hc)) (one_in (len_in hc) none_in))
theorem images_xs {w : World} {c0 c1 c2 c3 a : Int} {i0 i1 i2 i3 i4 : Bool} (g0 : in64 c0) (g1 : in64 c1) (g2 : in64 c2) (g3 : in64 c3) (ga : in64 a) {v0 : Value} {bb o len cap : Nat} {os : List Int} (ho : SlIn w 1 v0 bb o len cap os) : Calls Try.prog 3 #[v0, stVals [c0, c1, c2, c3] [i0, i1, i2, i3, i4], .int .i64 a] w fun r w' => r = .returned (.bool true) ∧ Below w.heap.size w w' := by
 let E := envL w [c0, c1, c2, c3] [i0, i1, i2, i3, i4] [(10, os)] ((5, [a]) :: slI len cap) [(46, bb)] [(46, o)]
 have hE : E.Ok := envL_ok (in4s g0 g1 g2 g3) (fun y hy => by
  rcases List.mem_singleton.1 hy with rfl
  exact ho.nums) (one_in ga (slI_in ho.room ho.max))
 have hmax := ho.max
 have hroom := ho.room
 have hsize := ho.size
 unfold maxLen at hmax
 have hput := put_cases (E := E) (c0 := c0) (c1 := c1) (c2 := c2) (c3 := c3) (a := a) rfl rfl g0 g1 g2 g3 ga
 by_cases h16 : len = 16
 ·subst h16
  have hrow : Row16 w bb o os := ⟨ho.block, by omega, fun j hj => ho.cells j (by omega)⟩
  have hent : ∀ e ∈ [ent16], e.ro = true ∧ EntOk E w e := fun e he => by
   rcases List.mem_singleton.1 he with rfl
   exact ⟨rfl, row_ent hrow rfl rfl rfl⟩
  have hcap : FactOk E (.var 49, 0, hi64) := by
   show (0 : Int) ≤ cap ∧ (cap : Int) ≤ hi64
   unfold hi64
   omega
  have h1 : dv E xs16 = v0 := by rw [ho.val]; rfl
  rcases hput with h | ⟨k, hk, h⟩
  ·exact run_I (funL_ok (okSpG1 (okSpP1 okSpA)) 3) im_16 hE rfl rfl rfl hent (cons_fact hcap h) h1 rfl rfl
  ·exact run_I (funL_ok (okSpG1 okSpA) 3) (bad_16 k hk) hE rfl rfl rfl hent (cons_fact hcap h) h1 rfl rfl
 ·have hN : SlArg.Named ⟨46, 47, 48, 49, 10, 1, bb, o, len, cap, os⟩ E := ⟨rfl, rfl, rfl, rfl, rfl, rfl, (by show (10 : Nat) ≠ 0; decide)⟩
  have hH := holds_of ho 46 47 48 49 10
  have hent : ∀ e ∈ [entO], e.ro = true ∧ EntOk E w e := fun e he => by
   rcases List.mem_singleton.1 he with rfl
   exact ⟨rfl, SlArg.ent hN hH⟩
  have hsl : ∀ f ∈ slF 47 48 49 9223372036854775807, FactOk E f := SlArg.facts hN hH (by show (len : Int) ≤ 9223372036854775807; omega)
  have h1 : dv E xsO = v0 := by rw [ho.val]; exact SlArg.val hN
  have v48 : ∀ {lo hi : Int}, lo ≤ (len : Int) → (len : Int) ≤ hi → FactOk E (.var 48, lo, hi) := fun h1 h2 => ⟨h1, h2⟩
  have both : ∀ {f : Fact} {l m : List Fact}, FactOk E f → (∀ g ∈ l, FactOk E g) → (∀ g ∈ m, FactOk E g) → ∀ g ∈ f :: l ++ m, FactOk E g := fun h1 h2 h3 g hg => (List.mem_append.1 hg).elim (cons_fact h1 h2 g) (h3 g)
  rcases (by omega : len ≤ 15 ∨ 17 ≤ len) with h | h
  ·rcases hput with h' | ⟨k, hk, h'⟩
   ·exact run_I (funL_ok (okSpP1 okSpA) 3) im_lo hE rfl rfl rfl hent (both (v48 (by omega) (by omega)) hsl h') h1 rfl rfl
   ·exact run_I (funL_ok okSpA 3) (bad_lo k hk) hE rfl rfl rfl hent (both (v48 (by omega) (by omega)) hsl h') h1 rfl rfl
  ·rcases hput with h' | ⟨k, hk, h'⟩
   ·exact run_I (funL_ok (okSpP1 okSpA) 3) im_hi hE rfl rfl rfl hent (both (v48 (by omega) (by omega)) hsl h') h1 rfl rfl
   ·exact run_I (funL_ok okSpA 3) (bad_hi k hk) hE rfl rfl rfl hent (both (v48 (by omega) (by omega)) hsl h') h1 rfl rfl
theorem images_walk {w : World} {r : Reach} {b0 : Nat} {v0 v1 v2 : Value} {H : Type} {enc : TypeId × Value → H} {base : Nat} {spare : Nat → Bool} {held : Bool} {d0 d1 d2 : DataW H} {p0 p1 p2 : List MemPlace}
  (k0 : Value.okWide Try.prog w r b0 22 v0) (h0 : DataW.Trod enc Try.prog w base spare held 22 v0 d0 p0)
  (k1 : Value.okWide Try.prog w r b0 26 v1) (_ : DataW.Trod enc Try.prog w base spare held 26 v1 d1 p1)
  (k2 : Value.okWide Try.prog w r b0 3 v2) (h2 : DataW.Trod enc Try.prog w base spare held 3 v2 d2 p2) :
  Calls Try.prog 3 #[v0, v1, v2] w fun r w' => r = .returned (.bool true) ∧ Below w.heap.size w w' := by
 obtain ⟨c0, c1, c2, c3, i0, i1, i2, i3, i4, rfl, g0, g1, g2, g3⟩ := open_st k1
 obtain ⟨a, rfl, _, _, wa⟩ := open_int Try.underlying3 k2 h2
 have ga := i64_bd wa
 rcases open_xs k0 h0 with rfl | ⟨bb, o, len, cap, os, ho⟩
 ·let E := envL w [c0, c1, c2, c3] [i0, i1, i2, i3, i4] [] ((5, [a]) :: []) [] []
  have hE : E.Ok := envL_ok (in4s g0 g1 g2 g3) none_in (one_in ga none_in)
  rcases put_cases (E := E) (c0 := c0) (c1 := c1) (c2 := c2) (c3 := c3) (a := a) rfl rfl g0 g1 g2 g3 ga with h | ⟨k, hk, h⟩
  ·exact run_I (ents := []) (funL_ok (okSpP1 okSpA) 3) im_n hE rfl rfl rfl (fun _ h => (by cases h)) h rfl rfl rfl
  ·exact run_I (ents := []) (funL_ok okSpA 3) (bad_n k hk) hE rfl rfl rfl (fun _ h => (by cases h)) h rfl rfl rfl
 ·exact images_xs g0 g1 g2 g3 ga ho
end Go.Proofs.Ytojpmbkbeoolcaa
namespace Go.Proofs.Ytojpmbkbeoolcaa.images
open Go.ChangeShapes Go.WideShapes Go.ChangeAt Go.RowKit Go.Deep
set_option maxRecDepth 100000 in
theorem lifted (os : Os) (started : os.Started) (H : Type) (enc : TypeId × Value → H) :
  ReturnsInHanded {} Try.checked os 3 .any (Rows.imagesSpec.pre6 enc Try.prog Try.f3 Rows.imagesRow.domain false) (Rows.imagesSpec.post enc Try.prog Try.f3 false true false false) := by
 refine returnsInHanded_of_change (C := Try.checked) own started (by kernel_rfl) Try.func3
  (ChangeSpec.witness6 (enc := enc) (C := Try.checked) false ⟨#[], #[.slice none 0 0, .agg (Array.replicate 4 (.int .i64 0) ++ Array.replicate 5 (.bool false)), .int .i64 0], []⟩ 60 (by kernel_rfl) (by kernel_rfl) (by kernel_rfl) (by kernel_rfl)) ?_
 intro W base args ds gs before hval0 hW _ _
 have hval : ∀ (j : Nat) t v, Try.f3.params[j]? = some t → args[j]? = some v → Value.okWide Try.prog W .any base t v := hval0
 have hW' := hW
 obtain ⟨p, q, hA0, hV, rfl, _, _⟩ := hW
 have hA : DataW.TrodAll enc Try.prog W 0 (fun _ => true) true Try.f3.params.toList args.toList ds p := hA0
 rw [Try.params3] at hA hval
 obtain ⟨v0, vs0, d0, ds0, p0, q0, hargs, rfl, rfl, h0, r0⟩ := trodAll_cons hA
 obtain ⟨v1, vs1, d1, ds1, p1, q1, rfl, rfl, rfl, h1, r1⟩ := trodAll_cons r0
 obtain ⟨v2, vs2, d2, ds2, p2, q2, rfl, rfl, rfl, h2, r2⟩ := trodAll_cons r1
 obtain ⟨rfl, rfl, rfl⟩ := trodAll_nil r2
 obtain rfl : args = #[v0, v1, v2] := by cases args; simp_all
 obtain ⟨rfl, rfl⟩ := trodVars_none hV
 have tl0 : ∀ x ∈ p0, x.block < W.heap.size := by obtain ⟨m, hm⟩ := h0; exact DataW.trod_lt m _ _ _ hm
 have tl1 : ∀ x ∈ p1, x.block < W.heap.size := by obtain ⟨m, hm⟩ := h1; exact DataW.trod_lt m _ _ _ hm
 have tl2 : ∀ x ∈ p2, x.block < W.heap.size := by obtain ⟨m, hm⟩ := h2; exact DataW.trod_lt m _ _ _ hm
 clear hA0 hval0
 refine (images_walk (hval 0 22 v0 rfl rfl) h0 (hval 1 26 v1 rfl rfl) h1 (hval 2 3 v2 rfl rfl) h2).mono fun e W' ⟨he, bel⟩ => ?_
 subst he
 exact ⟨_, rfl, _, _, _, [], _, [], hW', trodAll_mk1 (shut_bool Try.underlying4 _), (trodAll_cons_mk (Below.trod laidOut (by kernel_rfl) (of_decide_eq_true (by kernel_rfl)) h0 bel tl0) (trodAll_cons_mk (Below.trod laidOut (by kernel_rfl) (of_decide_eq_true (by kernel_rfl)) h1 bel tl1) (trodAll_cons_mk (Below.trod laidOut (by kernel_rfl) (of_decide_eq_true (by kernel_rfl)) h2 bel tl2) trodAll_mk0))), rfl, bel.frame _, fun h => by cases h⟩
theorem over : Rows.imagesRow.holds Try.pinned (OpenSpec.ofChange Rows.imagesSpec) :=
 OpenClaim.holds_of_wide 3 Try.f3 rfl rfl rfl rfl rfl rfl rfl ⟨rfl, rfl, rfl, rfl, rfl⟩ rfl rfl rfl rfl rfl (by kernel_rfl) Try.func3 (by kernel_rfl)
  (of_decide_eq_true (by kernel_rfl)) (by unfold Func.isWrapper; first | (rw [if_pos (by decide +kernel)]; kernel_rfl) | (rw [if_neg (by decide +kernel)]; exact ⟨rfl, rfl⟩))
  (fun os started H enc _ => lifted os started H enc)
theorem proved : Rows.ImagesSaid := over
#print axioms proved
end Go.Proofs.Ytojpmbkbeoolcaa.images
