/- The law DescAnew: for every input the call returns true, and each argument reads afterwards as it read before; no condition. -/
import Derived.Test.YtofmndcdcchflaaARa
import Derived.Test.YtofmndcdcchflaaARb
import Derived.Test.YtofmndcdcchflaaARc
import Derived.Test.YtofmndcdcchflaaARd
import Derived.Test.YtofmndcdcchflaaARe
import Derived.Test.YtofmndcdcchflaaARf
import Derived.Test.YtofmndcdcchflaaD
namespace Go.Proofs.Ytofmndcdcchflaa
open Go.Sx Go Go.DescNum Go.ChangeShapes Go.WideShapes Go.ChangeAt Go.RowKit Go.Deep
set_option maxRecDepth 100000
theorem an_all : ∀ x ∈ allX, ∀ y ∈ allX, okA x y = true := fa_cons (P := fun x => ∀ y ∈ allX, okA x y = true) ann (fa_cons (P := fun x => ∀ y ∈ allX, okA x y = true) anl (fa_cons (P := fun x => ∀ y ∈ allX, okA x y = true) an0 (fa_cons (P := fun x => ∀ y ∈ allX, okA x y = true) an1 (fa_cons (P := fun x => ∀ y ∈ allX, okA x y = true) an2 (fa_cons (P := fun x => ∀ y ∈ allX, okA x y = true) an3 (fa_cons (P := fun x => ∀ y ∈ allX, okA x y = true) an4 (fa_cons (P := fun x => ∀ y ∈ allX, okA x y = true) an5 (fa_cons (P := fun x => ∀ y ∈ allX, okA x y = true) an6 (fa_cons (P := fun x => ∀ y ∈ allX, okA x y = true) an7 (fa_cons (P := fun x => ∀ y ∈ allX, okA x y = true) an8 (fa_cons (P := fun x => ∀ y ∈ allX, okA x y = true) an9 (fa_cons (P := fun x => ∀ y ∈ allX, okA x y = true) an10 (fa_cons (P := fun x => ∀ y ∈ allX, okA x y = true) an11 (fa_cons (P := fun x => ∀ y ∈ allX, okA x y = true) an12 (fa_cons (P := fun x => ∀ y ∈ allX, okA x y = true) an13 (fa_cons (P := fun x => ∀ y ∈ allX, okA x y = true) an14 (fa_cons (P := fun x => ∀ y ∈ allX, okA x y = true) an15 (fa_cons (P := fun x => ∀ y ∈ allX, okA x y = true) an16 (fun _ h => (by cases h))))))))))))))))))))
structure InA (w : World) (v : Value) (x : Option (Option Nat)) (b o len cap : Nat) (zs : List Int) : Prop where
 mem : x ∈ allX
 nil : x = none → v = .slice none 0 0
 some : ∀ l, x = some l → SlIn w 3 v b o len cap zs ∧ (lenA l).1 ≤ (len : Int) ∧ (len : Int) ≤ (lenA l).2
 nums : ∀ z ∈ zs, in64 z
 len : in64 (len : Int)
 cap : in64 (cap : Int)
theorem inA_of {w : World} {r : Reach} {b0 : Nat} {v0 : Value} {H : Type} {enc : TypeId × Value → H} {base : Nat} {spare : Nat → Bool} {held : Bool} {d0 : DataW H} {p0 : List MemPlace}
  (k0 : Value.okWide Try.prog w r b0 26 v0) (h0 : DataW.Trod enc Try.prog w base spare held 26 v0 d0 p0) : ∃ (x : Option (Option Nat)) (b o len cap : Nat) (zs : List Int), InA w v0 x b o len cap zs := by
 rcases open_ss k0 h0 with rfl | ⟨b, o, len, cap, zs, hs⟩
 ·exact ⟨none, 0, 0, 0, 0, [], List.mem_cons_self .., fun _ => rfl, fun _ h => (by cases h), fun _ h => (by cases h), zero_in, zero_in⟩
 ·have l1 := len_in (Nat.le_trans hs.room hs.max)
  have l2 := len_in hs.max
  by_cases hk : len ≤ 16
  ·refine ⟨ofL len, b, o, len, cap, zs, ?_, fun h => (by cases h), fun l h => ?_, hs.nums, l1, l2⟩
   ·unfold allX
    rcases (by omega : len = 0 ∨ len = 1 ∨ len = 2 ∨ len = 3 ∨ len = 4 ∨ len = 5 ∨ len = 6 ∨ len = 7 ∨ len = 8 ∨ len = 9 ∨ len = 10 ∨ len = 11 ∨ len = 12 ∨ len = 13 ∨ len = 14 ∨ len = 15 ∨ len = 16) with rfl | rfl | rfl | rfl | rfl | rfl | rfl | rfl | rfl | rfl | rfl | rfl | rfl | rfl | rfl | rfl | rfl <;> simp
   ·cases h
    exact ⟨hs, Int.le_refl _, Int.le_refl _⟩
  ·refine ⟨longL, b, o, len, cap, zs, List.mem_cons_of_mem _ (List.mem_cons_self ..), fun h => (by cases h), fun l h => ?_, hs.nums, l1, l2⟩
   cases h
   exact ⟨hs, by show (17 : Int) ≤ (len : Int); omega, le_hi hs.room hs.max⟩
theorem argA_ok {E : Env} {w : World} {v : Value} {x : Option (Option Nat)} {n b o len cap : Nat} {zs : List Int} (h : InA w v x b o len cap zs) (hN : (SlArg.mk n (n + 1) (n + 2) (n + 3) (n + 4) 3 b o len cap zs).Named E) :
  dv E (argA n x) = v ∧ (∀ e ∈ entA n x, e.ro = true ∧ EntOk E w e) ∧ ∀ f ∈ facA n x, FactOk E f := by
 cases x with
 | none => exact ⟨(h.nil rfl).symm, fun _ h => (by cases h), fun _ h => (by cases h)⟩
 | some l =>
  obtain ⟨hs, h1, h2⟩ := h.some l rfl
  have hh := holds_of hs n (n + 1) (n + 2) (n + 3) (n + 4)
  refine ⟨by rw [hs.val]; exact SlArg.val hN, fun e he => ?_, fun f hf => ?_⟩
  ·rcases List.mem_singleton.1 he with rfl
   exact ⟨rfl, SlArg.ent hN hh⟩
  ·rcases List.mem_cons.1 hf with rfl | hf
   ·have e2 : ev E (.var (n + 2)) = len := hN.ln
    unfold FactOk
    dsimp only
    rw [e2]
    exact ⟨h1, h2⟩
   ·exact SlArg.facts hN hh (le_hi hh.room hh.max) f hf
theorem descAnew_walk {w : World} {r : Reach} {b0 : Nat} {v0 v1 v2 : Value} {H : Type} {enc : TypeId × Value → H} {base : Nat} {spare : Nat → Bool} {held : Bool} {d0 d1 d2 : DataW H} {p0 p1 p2 : List MemPlace}
  (k0 : Value.okWide Try.prog w r b0 26 v0) (h0 : DataW.Trod enc Try.prog w base spare held 26 v0 d0 p0)
  (k1 : Value.okWide Try.prog w r b0 26 v1) (h1 : DataW.Trod enc Try.prog w base spare held 26 v1 d1 p1)
  (k2 : Value.okWide Try.prog w r b0 3 v2) (h2 : DataW.Trod enc Try.prog w base spare held 3 v2 d2 p2) :
  Calls Try.prog 7 #[v0, v1, v2] w fun r w' => r = .returned (.bool true) ∧ Below w.heap.size w w' := by
 obtain ⟨a, rfl, _, _, wa⟩ := open_int Try.underlying3 k2 h2
 obtain ⟨x, b1, o1, l1, c1, z1, i1⟩ := inA_of k0 h0
 obtain ⟨y, b2, o2, l2, c2, z2, i2⟩ := inA_of k1 h1
 let E := envL [] w [(14, z1), (24, z2)] ((1, [a]) :: (11, [0]) :: (12, [(l1 : Int)]) :: (13, [(c1 : Int)]) :: (21, [0]) :: (22, [(l2 : Int)]) :: (23, [(c2 : Int)]) :: []) [(10, b1), (20, b2)] [(10, o1), (20, o2)]
 have hE : E.Ok := envL_ok (row_in i1.nums (row_in i2.nums none_in)) (one_in (i64_bd wa) (one_in zero_in (one_in i1.len (one_in i1.cap (one_in zero_in (one_in i2.len (one_in i2.cap none_in)))))))
 have n1 : (SlArg.mk 10 11 12 13 14 3 b1 o1 l1 c1 z1).Named E := ⟨rfl, rfl, rfl, rfl, rfl, rfl, (by show (14 : Nat) ≠ 0; decide)⟩
 have n2 : (SlArg.mk 20 21 22 23 24 3 b2 o2 l2 c2 z2).Named E := ⟨rfl, rfl, rfl, rfl, rfl, rfl, (by show (24 : Nat) ≠ 0; decide)⟩
 obtain ⟨d1, e1, f1⟩ := argA_ok i1 n1
 obtain ⟨d2, e2, f2⟩ := argA_ok i2 n2
 have fin := law_ok (callF_ok (spOf_ok (okSpN (V := []))) noBx 400 12 7) (an_all x i1.mem y i2.mem) (E := E) (w := w) rfl (slMem_ok (ents := entA 10 x ++ entA 20 y) (fs := facA 10 x ++ facA 20 y) 60 hE rfl rfl (fun e he => (List.mem_append.1 he).elim (e1 e) (e2 e)) (fun f hf => (List.mem_append.1 hf).elim (f1 f) (f2 f)))
 rw [show (([argA 10 x, argA 20 y, vi 1] : List SV).map (dv E)).toArray = #[v0, v1, .int .i64 a] by
  show #[dv E (argA 10 x), dv E (argA 20 y), .int .i64 a] = _
  rw [d1, d2]] at fin
 exact fin
end Go.Proofs.Ytofmndcdcchflaa
namespace Go.Proofs.Ytofmndcdcchflaa.descAnew
open Go.ChangeShapes Go.WideShapes Go.ChangeAt Go.RowKit Go.Deep
set_option maxRecDepth 100000 in
theorem lifted (os : Os) (started : os.Started) (H : Type) (enc : TypeId × Value → H) :
  ReturnsInHanded {} Try.checked os 7 .any (Rows.descAnewSpec.pre6 enc Try.prog Try.f7 Rows.descAnewRow.domain false) (Rows.descAnewSpec.post enc Try.prog Try.f7 false true false false) := by
 refine returnsInHanded_of_change (C := Try.checked) own started (by kernel_rfl) Try.func7
  (ChangeSpec.witness6 (enc := enc) (C := Try.checked) false ⟨#[], #[.slice none 0 0, .slice none 0 0, .int .i64 0], []⟩ 60 (by kernel_rfl) (by kernel_rfl) (by kernel_rfl) (by kernel_rfl)) ?_
 intro W base args ds gs before hval0 hW _ _
 have hval : ∀ (j : Nat) t v, Try.f7.params[j]? = some t → args[j]? = some v → Value.okWide Try.prog W .any base t v := hval0
 have hW' := hW
 obtain ⟨p, q, hA0, hV, rfl, _, _⟩ := hW
 have hA : DataW.TrodAll enc Try.prog W 0 (fun _ => true) true Try.f7.params.toList args.toList ds p := hA0
 rw [Try.params7] at hA hval
 obtain ⟨v0, vs0, d0, ds0, p0, q0, hargs, rfl, rfl, h0, r0⟩ := trodAll_cons hA
 obtain ⟨v1, vs1, d1, ds1, p1, q1, rfl, rfl, rfl, h1, r1⟩ := trodAll_cons r0
 obtain ⟨v2, vs2, d2, ds2, p2, q2, rfl, rfl, rfl, h2, r2⟩ := trodAll_cons r1
 obtain ⟨rfl, rfl, rfl⟩ := trodAll_nil r2
 obtain rfl : args = #[v0, v1, v2] := by cases args; simp_all
 obtain ⟨rfl, rfl⟩ := trodVars_none hV
 have tl0 : ∀ x ∈ p0, x.block < W.heap.size := by obtain ⟨m, hm⟩ := h0; exact DataW.trod_lt m _ _ _ hm
 have tl1 : ∀ x ∈ p1, x.block < W.heap.size := by obtain ⟨m, hm⟩ := h1; exact DataW.trod_lt m _ _ _ hm
 have tl2 : ∀ x ∈ p2, x.block < W.heap.size := by obtain ⟨m, hm⟩ := h2; exact DataW.trod_lt m _ _ _ hm
 clear hA0 hval0
 refine (descAnew_walk (hval 0 26 v0 rfl rfl) h0 (hval 1 26 v1 rfl rfl) h1 (hval 2 3 v2 rfl rfl) h2).mono fun e W' ⟨he, bel⟩ => ?_
 subst he
 exact ⟨_, rfl, _, _, _, [], _, [], hW', trodAll_mk1 (shut_bool Try.underlying4 _), (trodAll_cons_mk (Below.trod laidOut (by kernel_rfl) (of_decide_eq_true (by kernel_rfl)) h0 bel tl0) (trodAll_cons_mk (Below.trod laidOut (by kernel_rfl) (of_decide_eq_true (by kernel_rfl)) h1 bel tl1) (trodAll_cons_mk (Below.trod laidOut (by kernel_rfl) (of_decide_eq_true (by kernel_rfl)) h2 bel tl2) trodAll_mk0))), rfl, bel.frame _, fun h => by cases h⟩
theorem over : Rows.descAnewRow.holds Try.pinned (OpenSpec.ofChange Rows.descAnewSpec) :=
 OpenClaim.holds_of_wide 7 Try.f7 rfl rfl rfl rfl rfl rfl rfl ⟨rfl, rfl, rfl, rfl, rfl⟩ rfl rfl rfl rfl rfl (by kernel_rfl) Try.func7 (by kernel_rfl)
  (of_decide_eq_true (by kernel_rfl)) (by unfold Func.isWrapper; first | (rw [if_pos (by decide +kernel)]; kernel_rfl) | (rw [if_neg (by decide +kernel)]; exact ⟨rfl, rfl⟩))
  (fun os started H enc _ => lifted os started H enc)
theorem proved : Rows.DescAnewSaid := over
#print axioms proved
end Go.Proofs.Ytofmndcdcchflaa.descAnew
