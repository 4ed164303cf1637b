/- The law Descs: for every input the call returns true, and each argument reads afterwards as it read before; no condition. -/
import Derived.Test.YtofmndcdcchflaaCRa
import Derived.Test.YtofmndcdcchflaaCRb
import Derived.Test.YtofmndcdcchflaaCRc
import Derived.Test.YtofmndcdcchflaaCRd
import Derived.Test.YtofmndcdcchflaaCRe
import Derived.Test.YtofmndcdcchflaaCRf
import Derived.Test.YtofmndcdcchflaaCWa
import Derived.Test.YtofmndcdcchflaaCWb
import Derived.Test.YtofmndcdcchflaaCWc
import Derived.Test.YtofmndcdcchflaaD
namespace Go.Proofs.Ytofmndcdcchflaa
open Go.Sx Go Go.DescNum Go.ChangeShapes Go.WideShapes Go.ChangeAt Go.RowKit Go.Deep
set_option maxRecDepth 100000
theorem sw_all {k : Nat} (hk : k ≤ 16) : okW (headW k) = true := by
 rcases (by omega : k = 0 ∨ k = 1 ∨ k = 2 ∨ k = 3 ∨ k = 4 ∨ k = 5 ∨ k = 6 ∨ k = 7 ∨ k = 8 ∨ k = 9 ∨ k = 10 ∨ k = 11 ∨ k = 12 ∨ k = 13 ∨ k = 14 ∨ k = 15 ∨ k = 16) with rfl | rfl | rfl | rfl | rfl | rfl | rfl | rfl | rfl | rfl | rfl | rfl | rfl | rfl | rfl | rfl | rfl
 ·exact sw_0
 ·exact sw_1
 ·exact sw_2
 ·exact sw_3
 ·exact sw_4
 ·exact sw_5
 ·exact sw_6
 ·exact sw_7
 ·exact sw_8
 ·exact sw_9
 ·exact sw_10
 ·exact sw_11
 ·exact sw_12
 ·exact sw_13
 ·exact sw_14
 ·exact sw_15
 ·exact sw_16
theorem c_all {k : Nat} (h1 : 1 ≤ k) (hk : k ≤ 16) (a b r : Bool) : okC (manyC k) a b r = true := by
 rcases (by omega : k = 1 ∨ k = 2 ∨ k = 3 ∨ k = 4 ∨ k = 5 ∨ k = 6 ∨ k = 7 ∨ k = 8 ∨ k = 9 ∨ k = 10 ∨ k = 11 ∨ k = 12 ∨ k = 13 ∨ k = 14 ∨ k = 15 ∨ k = 16) with rfl | rfl | rfl | rfl | rfl | rfl | rfl | rfl | rfl | rfl | rfl | rfl | rfl | rfl | rfl | rfl
 ·exact c1 a b r
 ·exact c2 a b r
 ·exact c3 a b r
 ·exact c4 a b r
 ·exact c5 a b r
 ·exact c6 a b r
 ·exact c7 a b r
 ·exact c8 a b r
 ·exact c9 a b r
 ·exact c10 a b r
 ·exact c11 a b r
 ·exact c12 a b r
 ·exact c13 a b r
 ·exact c14 a b r
 ·exact c15 a b r
 ·exact c16 a b r
section
variable {H : Type} {enc : TypeId × Value → H} {w : World} {base : Nat} {spare : Nat → Bool} {held : Bool} {r : Reach} {b0 : Nat}
theorem open_sized {v : Value} {d : DataW H} {p : List MemPlace} (k : Value.okWide Try.prog w r b0 26 v) (h : DataW.Trod enc Try.prog w base spare held 26 v d p) (hw : ∀ n ∈ d.weights Try.prog 26, n ≤ reachBytes) : v = .slice none 0 0 ∨ ∃ b o len cap zs, SlIn w 3 v b o len cap zs ∧ (len : Int) ≤ 5864062014634 := by
 have hint : ∀ (j : Nat) (f : Field), (Try.prog.fieldsOf 56)[j]? = some f → Try.prog.underlying f.type = some (.int .i64) := by
  have e : (Try.prog.fieldsOf 56).all (fun f => isInt64 (Try.prog.underlying f.type)) = true := by kernel_rfl
  intro j f hj
  rw [Array.all_eq_true] at e
  obtain ⟨hj1, rfl⟩ := Array.getElem?_eq_some_iff.1 hj
  exact isInt64_eq (e j hj1)
 have hs : (Try.prog.fieldsOf 56).size = 3 := by kernel_rfl
 have hby : Try.prog.bytesOf 56 = 24 := by kernel_rfl
 have hu : Try.prog.underlying 26 = some (.slice 56) := by kernel_rfl
 rcases open_int_structs hu (show Try.prog.underlying 56 = some (.struct (Try.prog.fieldsOf 56)) by kernel_rfl) (by kernel_rfl) hint (by kernel_rfl) k h with rfl | ⟨b, o, len, cap, zs, rfl, ⟨elems, sp, rfl, hlen⟩, h1, h2, h3, h4, h5, h6⟩
 ·exact .inl rfl
 ·refine .inr ⟨b, o, len, cap, zs, ⟨rfl, h1, h2, h3, by rw [h4, hs], h5, h6⟩, ?_⟩
  have hmem : (elems.length + sp.length) * Try.prog.bytesOf 56 ∈ DataW.weights Try.prog 26 (.slice elems sp) := by
   unfold DataW.weights
   rw [hu]
   exact List.mem_cons_self
  have := hw _ hmem
  rw [hby, hlen] at this
  unfold reachBytes at this
  omega
end
structure InW (w : World) (v : Value) (a : Bool) (b o len cap : Nat) (zs : List Int) : Prop where
 nil : a = false → v = .slice none 0 0
 some : a = true → SlIn w 1 v b o len cap zs
 nums : ∀ z ∈ zs, in64 z
 len : in64 (len : Int)
 cap : in64 (cap : Int)
theorem inW_of {w : World} {r : Reach} {b0 : Nat} {v0 : Value} {H : Type} {enc : TypeId × Value → H} {base : Nat} {spare : Nat → Bool} {held : Bool} {d0 : DataW H} {p0 : List MemPlace}
  (k0 : Value.okWide Try.prog w r b0 27 v0) (h0 : DataW.Trod enc Try.prog w base spare held 27 v0 d0 p0) : ∃ (a : Bool) (b o len cap : Nat) (zs : List Int), InW w v0 a b o len cap zs := by
 rcases open_xs k0 h0 with rfl | ⟨b, o, len, cap, zs, hs⟩
 ·exact ⟨false, 0, 0, 0, 0, [], fun _ => rfl, fun h => (by cases h), fun _ h => (by cases h), zero_in, zero_in⟩
 ·exact ⟨true, b, o, len, cap, zs, fun h => (by cases h), fun _ => hs, hs.nums, len_in (Nat.le_trans hs.room hs.max), len_in hs.max⟩
theorem argW_ok {E : Env} {w : World} {v : Value} {a : Bool} {n b o len cap : Nat} {zs : List Int} (h : InW w v a b o len cap zs) (hN : (SlArg.mk n (n + 1) (n + 2) (n + 3) (n + 4) 1 b o len cap zs).Named E) :
  dv E (argW a n) = v ∧ (∀ e ∈ entW a n, e.ro = true ∧ EntOk E w e) ∧ ∀ f ∈ facW a n, FactOk E f := by
 cases a with
 | false => exact ⟨(h.nil rfl).symm, fun _ h => (by cases h), fun _ h => (by cases h)⟩
 | true =>
  have hs := h.some rfl
  have hh := holds_of hs n (n + 1) (n + 2) (n + 3) (n + 4)
  refine ⟨by rw [hs.val]; exact SlArg.val hN, fun e he => ?_, SlArg.facts hN hh (le_hi hh.room hh.max)⟩
  rcases List.mem_singleton.1 he with rfl
  exact ⟨rfl, SlArg.ent hN hh⟩
structure InC (w : World) (v : Value) (x : CA) (b o len cap : Nat) (zs : List Int) : Prop where
 runs : ∀ a b r, okC x a b r = true
 le : x.k ≤ 16
 nil : x.c = .nil → v = .slice none 0 0
 zero : x.c = .zero → v = .slice (some ⟨b, o, none⟩) 0 cap
 some : x.c = .many → SlIn w 3 v b o len cap zs ∧ x.lo ≤ (len : Int) ∧ (len : Int) ≤ x.hi
 nums : ∀ z ∈ zs, in64 z
 len : in64 (len : Int)
 cap : in64 (cap : Int)
theorem inC_of {w : World} {r : Reach} {b0 : Nat} {v0 : Value} {H : Type} {enc : TypeId × Value → H} {base : Nat} {spare : Nat → Bool} {held : Bool} {d0 : DataW H} {p0 : List MemPlace}
  (k0 : Value.okWide Try.prog w r b0 26 v0) (h0 : DataW.Trod enc Try.prog w base spare held 26 v0 d0 p0) (hw : ∀ n ∈ d0.weights Try.prog 26, n ≤ reachBytes) : ∃ (x : CA) (b o len cap : Nat) (zs : List Int), InC w v0 x b o len cap zs := by
 rcases open_sized k0 h0 hw with rfl | ⟨b, o, len, cap, zs, hs, hl⟩
 ·exact ⟨nilC, 0, 0, 0, 0, [], cn, Nat.zero_le _, fun _ => rfl, fun h => (by cases h), fun h => (by cases h), fun _ h => (by cases h), zero_in, zero_in⟩
 have l1 := len_in (Nat.le_trans hs.room hs.max)
 have l2 := len_in hs.max
 by_cases h0 : len = 0
 ·subst h0
  exact ⟨zeroC, b, o, 0, cap, zs, cz, Nat.zero_le _, fun h => (by cases h), fun _ => hs.val, fun h => (by cases h), hs.nums, l1, l2⟩
 by_cases hk : len ≤ 16
 ·exact ⟨manyC len, b, o, len, cap, zs, c_all (by omega) hk, hk, fun h => (by cases h), fun h => (by cases h), fun _ => ⟨hs, Int.le_refl _, Int.le_refl _⟩, hs.nums, l1, l2⟩
 ·exact ⟨longC, b, o, len, cap, zs, cl, Nat.zero_le _, fun h => (by cases h), fun h => (by cases h), fun _ => ⟨hs, by show (17 : Int) ≤ (len : Int); omega, hl⟩, hs.nums, l1, l2⟩
theorem argM_ok {E : Env} {w : World} {v : Value} {x : CA} {b o len cap : Nat} {zs : List Int} (h : InC w v x b o len cap zs) (hN : (SlArg.mk 30 31 32 33 34 3 b o len cap zs).Named E) :
  dv E (argM x.c) = v ∧ (∀ e ∈ entM x.c, e.ro = true ∧ EntOk E w e) ∧ ∀ f ∈ facM x.lo x.hi x.c, FactOk E f := by
 obtain ⟨k, c, lo, hi⟩ := x
 cases c with
 | nil => exact ⟨(h.nil rfl).symm, fun _ h => (by cases h), fun _ h => (by cases h)⟩
 | zero =>
  have hv := h.zero rfl
  have e1 : ev E (.var 31) = 0 := hN.of
  have e3 : ev E (.var 33) = cap := hN.cp
  have hcap := h.cap
  unfold in64 at hcap
  refine ⟨?_, fun _ h => (by cases h), fun f hf => ?_⟩
  ·rw [hv]
   show Value.slice (some (addrOf E 30 0 (.var 31))) (0 : Int).toNat (ev E (.var 33)).toNat = _
   rw [e3]
   have hb : E.base 30 = b := hN.base
   have ho : E.o 30 = o := hN.o
   simp [addrOf, e1, hb, ho]
  ·simp only [facM, List.mem_cons, List.not_mem_nil, or_false] at hf
   unfold FactOk
   rcases hf with rfl | rfl
   ·dsimp only
    rw [e1]
    exact ⟨by decide, by decide⟩
   ·dsimp only
    rw [e3]
    exact ⟨Int.natCast_nonneg _, hcap.2⟩
 | many =>
  obtain ⟨hs, h1, h2⟩ := h.some rfl
  have hh := holds_of hs 30 31 32 33 34
  refine ⟨by rw [hs.val]; exact SlArg.val hN, fun e he => ?_, fun f hf => ?_⟩
  ·rcases List.mem_singleton.1 he with rfl
   exact ⟨rfl, SlArg.ent hN hh⟩
  ·rcases List.mem_cons.1 hf with rfl | hf
   ·have e2 : ev E (.var 32) = len := hN.ln
    unfold FactOk
    dsimp only
    rw [e2]
    exact ⟨h1, h2⟩
   ·exact SlArg.facts hN hh (le_hi hh.room hh.max) f hf
theorem descs_walk {w : World} {r : Reach} {b0 : Nat} {v0 v1 v2 v3 v4 v5 : Value} {H : Type} {enc : TypeId × Value → H} {base : Nat} {spare : Nat → Bool} {held : Bool} {d0 d1 d2 d3 d4 d5 : DataW H} {p0 p1 p2 p3 p4 p5 : List MemPlace} {ts : List TypeId}
  (k0 : Value.okWide Try.prog w r b0 25 v0) (h0 : DataW.Trod enc Try.prog w base spare held 25 v0 d0 p0)
  (k1 : Value.okWide Try.prog w r b0 26 v1) (h1 : DataW.Trod enc Try.prog w base spare held 26 v1 d1 p1)
  (k2 : Value.okWide Try.prog w r b0 3 v2) (h2 : DataW.Trod enc Try.prog w base spare held 3 v2 d2 p2)
  (k3 : Value.okWide Try.prog w r b0 3 v3) (h3 : DataW.Trod enc Try.prog w base spare held 3 v3 d3 p3)
  (k4 : Value.okWide Try.prog w r b0 27 v4) (h4 : DataW.Trod enc Try.prog w base spare held 27 v4 d4 p4)
  (k5 : Value.okWide Try.prog w r b0 27 v5) (h5 : DataW.Trod enc Try.prog w base spare held 27 v5 d5 p5)
  (hsz : (DataW.weightsEach Try.prog ([25, 26, 3, 3, 27, 27] ++ ts) ([d0, d1, d2, d3, d4, d5] ++ [])).all (· ≤ reachBytes) = true) :
  Calls Try.prog 3 #[v0, v1, v2, v3, v4, v5] w fun r w' => r = .returned (.bool true) ∧ Below w.heap.size w w' := by
 obtain ⟨cs, rfl, hc⟩ := open_view k0
 have hv := numV_view hc
 obtain ⟨x2, rfl, _, _, w2⟩ := open_int Try.underlying3 k2 h2
 obtain ⟨x3, rfl, _, _, w3⟩ := open_int Try.underlying3 k3 h3
 rw [List.all_eq_true] at hsz
 have hw : ∀ n ∈ d1.weights Try.prog 26, n ≤ reachBytes := fun n hn => by
  have : n ∈ DataW.weightsEach Try.prog ([25, 26, 3, 3, 27, 27] ++ ts) ([d0, d1, d2, d3, d4, d5] ++ []) := by
   show n ∈ d0.weights Try.prog 25 ++ (d1.weights Try.prog 26 ++ _)
   exact List.mem_append_right _ (List.mem_append_left _ hn)
  exact of_decide_eq_true (hsz n this)
 obtain ⟨x, b3, o3, l3, c3, z3, i3⟩ := inC_of k1 h1 hw
 obtain ⟨a, b1, o1, l1, c1, z1, i1⟩ := inW_of k4 h4
 obtain ⟨b, b2, o2, l2, c2, z2, i2⟩ := inW_of k5 h5
 let E := envL (numV cs) w [(14, z1), (24, z2), (34, z3)] ((1, [x2]) :: (2, [x3]) :: (11, [0]) :: (12, [(l1 : Int)]) :: (13, [(c1 : Int)]) :: (21, [0]) :: (22, [(l2 : Int)]) :: (23, [(c2 : Int)]) :: (31, [0]) :: (32, [(l3 : Int)]) :: (33, [(c3 : Int)]) :: []) [(10, b1), (20, b2), (30, b3)] [(10, o1), (20, o2), (30, o3)]
 have hE : E.Ok := envL_ok (row_in i1.nums (row_in i2.nums (row_in i3.nums none_in))) (one_in (i64_bd w2) (one_in (i64_bd w3) (one_in zero_in (one_in i1.len (one_in i1.cap (one_in zero_in (one_in i2.len (one_in i2.cap (one_in zero_in (one_in i3.len (one_in i3.cap none_in)))))))))))
 have n1 : (SlArg.mk 10 11 12 13 14 1 b1 o1 l1 c1 z1).Named E := ⟨rfl, rfl, rfl, rfl, rfl, rfl, (by show (14 : Nat) ≠ 0; decide)⟩
 have n2 : (SlArg.mk 20 21 22 23 24 1 b2 o2 l2 c2 z2).Named E := ⟨rfl, rfl, rfl, rfl, rfl, rfl, (by show (24 : Nat) ≠ 0; decide)⟩
 have n3 : (SlArg.mk 30 31 32 33 34 3 b3 o3 l3 c3 z3).Named E := ⟨rfl, rfl, rfl, rfl, rfl, rfl, (by show (34 : Nat) ≠ 0; decide)⟩
 obtain ⟨q1, e1, f1⟩ := argW_ok i1 n1
 obtain ⟨q2, e2, f2⟩ := argW_ok i2 n2
 obtain ⟨q3, e3, f3⟩ := argM_ok i3 n3
 obtain ⟨rr, hr⟩ : ∃ rr : Bool, FactOk E (rowsF rr) := by
  have h6 := ev1106 (V := numV cs) (E := E) rfl
  have h16 := cnt_le (V := numV cs) 16
  by_cases h : cnt (numV cs) 16 = 0
  ·refine ⟨false, ?_⟩
   show (0 : Int) ≤ ev E (g0 1106) ∧ ev E (g0 1106) ≤ 0
   omega
  ·refine ⟨true, ?_⟩
   show (1 : Int) ≤ ev E (g0 1106) ∧ ev E (g0 1106) ≤ 16
   omega
 have fin := law_ok (funM_ok hv (sw_all i3.le) a b (isM x.c)) (i3.runs a b rr) (E := E) (w := w) rfl (slMem_ok (ents := entC x a b) (fs := facC x a b rr) 60 hE rfl rfl (fun e he => by
  rcases List.mem_append.1 he with he | he
  ·exact e1 e he
  rcases List.mem_append.1 he with he | he
  ·exact e2 e he
  ·exact e3 e he) (fun f hf => by
  rcases List.mem_cons.1 hf with rfl | hf
  ·exact hr
  rcases List.mem_append.1 hf with hf | hf
  ·exact f1 f hf
  rcases List.mem_append.1 hf with hf | hf
  ·exact f2 f hf
  ·exact f3 f hf))
 rw [show ((argsC x a b).map (dv E)).toArray = #[.agg cs.toArray, v1, .int .i64 x2, .int .i64 x3, v4, v5] by
  show #[dv E (.agg viewC), dv E (argM x.c), .int .i64 x2, .int .i64 x3, dv E (argW a 10), dv E (argW b 20)] = _
  rw [view_val hc rfl, q1, q2, q3]] at fin
 exact fin
end Go.Proofs.Ytofmndcdcchflaa
namespace Go.Proofs.Ytofmndcdcchflaa.descs
open Go.ChangeShapes Go.WideShapes Go.ChangeAt Go.RowKit Go.Deep
set_option maxRecDepth 100000 in
theorem lifted (os : Os) (started : os.Started) (H : Type) (enc : TypeId × Value → H) :
  ReturnsInHanded {} Try.checked os 3 .any (Rows.descsSpec.pre6 enc Try.prog Try.f3 Rows.descsRow.domain false) (Rows.descsSpec.post enc Try.prog Try.f3 false true false false) := by
 refine returnsInHanded_of_change_sized (C := Try.checked) own started (by kernel_rfl) Try.func3
  (ChangeSpec.witness6 (enc := enc) (C := Try.checked) false ⟨#[], #[.agg (Array.replicate 16 (.bool false) ++ Array.replicate 32 (.int .i64 0)), .slice none 0 0, .int .i64 0, .int .i64 0, .slice none 0 0, .slice none 0 0], []⟩ 60 (by kernel_rfl) (by kernel_rfl) (by kernel_rfl) (by kernel_rfl)) ?_
 intro W base args ds gs before hval0 hW _ hsz0 _
 have hval : ∀ (j : Nat) t v, Try.f3.params[j]? = some t → args[j]? = some v → Value.okWide Try.prog W .any base t v := hval0
 have hsz : (DataW.weightsEach Try.prog (Try.f3.params.toList ++ Rows.descsSpec.plain.varTypes Try.prog) (ds ++ gs)).all (· ≤ reachBytes) = true := hsz0
 have hW' := hW
 obtain ⟨p, q, hA0, hV, rfl, _, _⟩ := hW
 have hA : DataW.TrodAll enc Try.prog W 0 (fun _ => true) true Try.f3.params.toList args.toList ds p := hA0
 rw [Try.params3] at hA hval hsz
 obtain ⟨v0, vs0, d0, ds0, p0, q0, hargs, rfl, rfl, h0, r0⟩ := trodAll_cons hA
 obtain ⟨v1, vs1, d1, ds1, p1, q1, rfl, rfl, rfl, h1, r1⟩ := trodAll_cons r0
 obtain ⟨v2, vs2, d2, ds2, p2, q2, rfl, rfl, rfl, h2, r2⟩ := trodAll_cons r1
 obtain ⟨v3, vs3, d3, ds3, p3, q3, rfl, rfl, rfl, h3, r3⟩ := trodAll_cons r2
 obtain ⟨v4, vs4, d4, ds4, p4, q4, rfl, rfl, rfl, h4, r4⟩ := trodAll_cons r3
 obtain ⟨v5, vs5, d5, ds5, p5, q5, rfl, rfl, rfl, h5, r5⟩ := trodAll_cons r4
 obtain ⟨rfl, rfl, rfl⟩ := trodAll_nil r5
 obtain rfl : args = #[v0, v1, v2, v3, v4, v5] := by cases args; simp_all
 obtain ⟨rfl, rfl⟩ := trodVars_none hV
 have tl0 : ∀ x ∈ p0, x.block < W.heap.size := by obtain ⟨m, hm⟩ := h0; exact DataW.trod_lt m _ _ _ hm
 have tl1 : ∀ x ∈ p1, x.block < W.heap.size := by obtain ⟨m, hm⟩ := h1; exact DataW.trod_lt m _ _ _ hm
 have tl2 : ∀ x ∈ p2, x.block < W.heap.size := by obtain ⟨m, hm⟩ := h2; exact DataW.trod_lt m _ _ _ hm
 have tl3 : ∀ x ∈ p3, x.block < W.heap.size := by obtain ⟨m, hm⟩ := h3; exact DataW.trod_lt m _ _ _ hm
 have tl4 : ∀ x ∈ p4, x.block < W.heap.size := by obtain ⟨m, hm⟩ := h4; exact DataW.trod_lt m _ _ _ hm
 have tl5 : ∀ x ∈ p5, x.block < W.heap.size := by obtain ⟨m, hm⟩ := h5; exact DataW.trod_lt m _ _ _ hm
 clear hA0 hval0
 refine (descs_walk (hval 0 25 v0 rfl rfl) h0 (hval 1 26 v1 rfl rfl) h1 (hval 2 3 v2 rfl rfl) h2 (hval 3 3 v3 rfl rfl) h3 (hval 4 27 v4 rfl rfl) h4 (hval 5 27 v5 rfl rfl) h5 hsz).mono fun e W' ⟨he, bel⟩ => ?_
 subst he
 exact ⟨_, rfl, _, _, _, [], _, [], hW', trodAll_mk1 (shut_bool Try.underlying4 _), (trodAll_cons_mk (Below.trod laidOut (by kernel_rfl) (of_decide_eq_true (by kernel_rfl)) h0 bel tl0) (trodAll_cons_mk (Below.trod laidOut (by kernel_rfl) (of_decide_eq_true (by kernel_rfl)) h1 bel tl1) (trodAll_cons_mk (Below.trod laidOut (by kernel_rfl) (of_decide_eq_true (by kernel_rfl)) h2 bel tl2) (trodAll_cons_mk (Below.trod laidOut (by kernel_rfl) (of_decide_eq_true (by kernel_rfl)) h3 bel tl3) (trodAll_cons_mk (Below.trod laidOut (by kernel_rfl) (of_decide_eq_true (by kernel_rfl)) h4 bel tl4) (trodAll_cons_mk (Below.trod laidOut (by kernel_rfl) (of_decide_eq_true (by kernel_rfl)) h5 bel tl5) trodAll_mk0)))))), rfl, bel.frame _, fun h => by cases h⟩
theorem over : Rows.descsRow.holds Try.pinned (OpenSpec.ofChange Rows.descsSpec) :=
 OpenClaim.holds_of_wide 3 Try.f3 rfl rfl rfl rfl rfl rfl rfl ⟨rfl, rfl, rfl, rfl, rfl⟩ rfl rfl rfl rfl rfl (by kernel_rfl) Try.func3 (by kernel_rfl)
  (of_decide_eq_true (by kernel_rfl)) (by unfold Func.isWrapper; first | (rw [if_pos (by decide +kernel)]; kernel_rfl) | (rw [if_neg (by decide +kernel)]; exact ⟨rfl, rfl⟩))
  (fun os started H enc _ => lifted os started H enc)
theorem proved : Rows.DescsSaid := over
#print axioms proved
end Go.Proofs.Ytofmndcdcchflaa.descs
