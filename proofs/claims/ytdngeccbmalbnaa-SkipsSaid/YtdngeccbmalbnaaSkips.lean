/- The law Skips: for every input the call returns true, and each argument reads afterwards as it read before; no condition. -/
import Derived.Test.YtdngeccbmalbnaaYL
import Derived.Test.YtdngeccbmalbnaaSa
import Derived.Test.YtdngeccbmalbnaaSb
import Derived.Test.YtdngeccbmalbnaaSc
import Derived.Test.YtdngeccbmalbnaaSd
namespace Go.Proofs.Ytdngeccbmalbnaa
open Go.Sx Go Go.ChangeShapes Go.WideShapes Go.ChangeAt Go.RowKit Go.Deep
set_option maxRecDepth 100000
theorem use_s {k a b x : Int} (h : okS k a b x = true) (h8 : SpecOk G0 Try.prog 8 (yX (form8 k a b x))) (h22 : SpecOk G0 Try.prog 22 (yX (form22 k a b x))) {w : World} {cs : List Value} (hc : IsView cs) (hm : AllMay cs) (hk : in64 k) (ha : in64 a) (hb : in64 b) (hx : in64 x) : Calls Try.prog 3 #[.agg cs.toArray, opVal k a b x] w fun r w' => r = .returned (.bool true) ∧ Below w.heap.size w w' := by
  unfold okS at h
  exact run_vo (funL_ok (cons_ok (a := (8, yX (form8 k a b x))) h8 (one_ok (a := (22, yX (form22 k a b x))) h22)) 3) h hc hk ha hb hx rfl (facts_A hm fun _ h => by cases h)
theorem use_i {oa : SV} {fs : List Fact} (h : okSi oa fs = true) {w : World} {cs : List Value} {k a b x : Int} (hc : IsView cs) (hm : AllMay cs) (hk : in64 k) (ha : in64 a) (hb : in64 b) (hx : in64 x) (ho : dv (envV w cs (opInts k a b x)) oa = opVal k a b x) (hf : ∀ f ∈ fs, FactOk (envV w cs (opInts k a b x)) f) : Calls Try.prog 3 #[.agg cs.toArray, opVal k a b x] w fun r w' => r = .returned (.bool true) ∧ Below w.heap.size w w' := by
  unfold okSi at h
  exact run_vo (fun2_ok 3) h hc hk ha hb hx ho (facts_A hm hf)
theorem use_b {oa : SV} {fs : List Fact} (h : okSb oa fs = true) {w : World} {cs : List Value} {k a b x : Int} (hc : IsView cs) (hn : ¬ AllMay cs) (hk : in64 k) (ha : in64 a) (hb : in64 b) (hx : in64 x) (ho : dv (envV w cs (opInts k a b x)) oa = opVal k a b x) (hf : ∀ f ∈ fs, FactOk (envV w cs (opInts k a b x)) f) : Calls Try.prog 3 #[.agg cs.toArray, opVal k a b x] w fun r w' => r = .returned (.bool true) ∧ Below w.heap.size w w' := by
  unfold okSb at h
  exact run_B (fun2_ok 3) h hc hn hk ha hb hx ho hf
theorem skips_A {w : World} {cs : List Value} (hc : IsView cs) (hm : AllMay cs) {k a b x : Int} (hk : in64 k) (ha : in64 a) (hb : in64 b) (hx : in64 x) : Calls Try.prog 3 #[.agg cs.toArray, opVal k a b x] w fun r w' => r = .returned (.bool true) ∧ Below w.heap.size w w' := by
  have one : ∀ {e : IE} {lo hi : Int}, lo ≤ ev (envV w cs (opInts k a b x)) e → ev (envV w cs (opInts k a b x)) e ≤ hi → ∀ f ∈ [((e, lo, hi) : Fact)], FactOk (envV w cs (opInts k a b x)) f := fun h1 h2 f hf => by
    rcases List.mem_singleton.1 hf with rfl
    exact ⟨h1, h2⟩
  have k1 := hk.1
  have k2 := hk.2
  have a1 := ha.1
  have a2 := ha.2
  have b1 := hb.1
  have b2 := hb.2
  have x1 := hx.1
  have x2 := hx.2
  rcases (by omega : k ≤ 5 ∨ 11 ≤ k ∨ k = 6 ∨ k = 7 ∨ k = 8 ∨ k = 9 ∨ k = 10) with h | h | rfl | rfl | rfl | rfl | rfl
  · exact use_i li_lo hc hm hk ha hb hx rfl (one k1 h)
  · exact use_i li_hi hc hm hk ha hb hx rfl (one h k2)
  · rcases (by omega : a ≤ -1 ∨ 5 ≤ a ∨ b ≤ -1 ∨ 1 ≤ b ∨ x ≤ -1 ∨ 2 ≤ x ∨ ((a = 0 ∨ a = 1 ∨ a = 2 ∨ a = 3 ∨ a = 4) ∧ (b = 0) ∧ (x = 0 ∨ x = 1))) with h | h | h | h | h | h | ⟨ha', hb', hx'⟩
    · exact use_i li_6_11_lo hc hm hk ha hb hx rfl (one a1 h)
    · exact use_i li_6_11_hi hc hm hk ha hb hx rfl (one h a2)
    · exact use_i li_6_12_lo hc hm hk ha hb hx rfl (one b1 h)
    · exact use_i li_6_12_hi hc hm hk ha hb hx rfl (one h b2)
    · exact use_i li_6_13_lo hc hm hk ha hb hx rfl (one x1 h)
    · exact use_i li_6_13_hi hc hm hk ha hb hx rfl (one h x2)
    · rcases ha' with rfl | rfl | rfl | rfl | rfl <;> rcases hb' with rfl <;> rcases hx' with rfl | rfl
      · exact use_s ls_6_0_0_0 s8_6_0_0_0 s22_6_0_0_0 hc hm hk ha hb hx
      · exact use_s ls_6_0_0_1 s8_6_0_0_1 s22_6_0_0_1 hc hm hk ha hb hx
      · exact use_s ls_6_1_0_0 s8_6_1_0_0 s22_6_1_0_0 hc hm hk ha hb hx
      · exact use_s ls_6_1_0_1 s8_6_1_0_1 s22_6_1_0_1 hc hm hk ha hb hx
      · exact use_s ls_6_2_0_0 s8_6_2_0_0 s22_6_2_0_0 hc hm hk ha hb hx
      · exact use_s ls_6_2_0_1 s8_6_2_0_1 s22_6_2_0_1 hc hm hk ha hb hx
      · exact use_s ls_6_3_0_0 s8_6_3_0_0 s22_6_3_0_0 hc hm hk ha hb hx
      · exact use_s ls_6_3_0_1 s8_6_3_0_1 s22_6_3_0_1 hc hm hk ha hb hx
      · exact use_s ls_6_4_0_0 s8_6_4_0_0 s22_6_4_0_0 hc hm hk ha hb hx
      · exact use_s ls_6_4_0_1 s8_6_4_0_1 s22_6_4_0_1 hc hm hk ha hb hx
  · rcases (by omega : a ≤ -1 ∨ 5 ≤ a ∨ b ≤ -1 ∨ 1 ≤ b ∨ x ≤ -1 ∨ 1 ≤ x ∨ ((a = 0 ∨ a = 1 ∨ a = 2 ∨ a = 3 ∨ a = 4) ∧ (b = 0) ∧ (x = 0))) with h | h | h | h | h | h | ⟨ha', hb', hx'⟩
    · exact use_i li_7_11_lo hc hm hk ha hb hx rfl (one a1 h)
    · exact use_i li_7_11_hi hc hm hk ha hb hx rfl (one h a2)
    · exact use_i li_7_12_lo hc hm hk ha hb hx rfl (one b1 h)
    · exact use_i li_7_12_hi hc hm hk ha hb hx rfl (one h b2)
    · exact use_i li_7_13_lo hc hm hk ha hb hx rfl (one x1 h)
    · exact use_i li_7_13_hi hc hm hk ha hb hx rfl (one h x2)
    · rcases ha' with rfl | rfl | rfl | rfl | rfl <;> rcases hb' with rfl <;> rcases hx' with rfl
      · exact use_s ls_7_0_0_0 s8_7_0_0_0 s22_7_0_0_0 hc hm hk ha hb hx
      · exact use_s ls_7_1_0_0 s8_7_1_0_0 s22_7_1_0_0 hc hm hk ha hb hx
      · exact use_s ls_7_2_0_0 s8_7_2_0_0 s22_7_2_0_0 hc hm hk ha hb hx
      · exact use_s ls_7_3_0_0 s8_7_3_0_0 s22_7_3_0_0 hc hm hk ha hb hx
      · exact use_s ls_7_4_0_0 s8_7_4_0_0 s22_7_4_0_0 hc hm hk ha hb hx
  · rcases (by omega : a ≤ -1 ∨ 5 ≤ a ∨ b ≤ -1 ∨ 1 ≤ b ∨ x ≤ -1 ∨ 1 ≤ x ∨ ((a = 0 ∨ a = 1 ∨ a = 2 ∨ a = 3 ∨ a = 4) ∧ (b = 0) ∧ (x = 0))) with h | h | h | h | h | h | ⟨ha', hb', hx'⟩
    · exact use_i li_8_11_lo hc hm hk ha hb hx rfl (one a1 h)
    · exact use_i li_8_11_hi hc hm hk ha hb hx rfl (one h a2)
    · exact use_i li_8_12_lo hc hm hk ha hb hx rfl (one b1 h)
    · exact use_i li_8_12_hi hc hm hk ha hb hx rfl (one h b2)
    · exact use_i li_8_13_lo hc hm hk ha hb hx rfl (one x1 h)
    · exact use_i li_8_13_hi hc hm hk ha hb hx rfl (one h x2)
    · rcases ha' with rfl | rfl | rfl | rfl | rfl <;> rcases hb' with rfl <;> rcases hx' with rfl
      · exact use_s ls_8_0_0_0 s8_8_0_0_0 s22_8_0_0_0 hc hm hk ha hb hx
      · exact use_s ls_8_1_0_0 s8_8_1_0_0 s22_8_1_0_0 hc hm hk ha hb hx
      · exact use_s ls_8_2_0_0 s8_8_2_0_0 s22_8_2_0_0 hc hm hk ha hb hx
      · exact use_s ls_8_3_0_0 s8_8_3_0_0 s22_8_3_0_0 hc hm hk ha hb hx
      · exact use_s ls_8_4_0_0 s8_8_4_0_0 s22_8_4_0_0 hc hm hk ha hb hx
  · rcases (by omega : a ≤ -1 ∨ 1 ≤ a ∨ b ≤ -1 ∨ 1 ≤ b ∨ x ≤ -1 ∨ 1 ≤ x ∨ ((a = 0) ∧ (b = 0) ∧ (x = 0))) with h | h | h | h | h | h | ⟨ha', hb', hx'⟩
    · exact use_i li_9_11_lo hc hm hk ha hb hx rfl (one a1 h)
    · exact use_i li_9_11_hi hc hm hk ha hb hx rfl (one h a2)
    · exact use_i li_9_12_lo hc hm hk ha hb hx rfl (one b1 h)
    · exact use_i li_9_12_hi hc hm hk ha hb hx rfl (one h b2)
    · exact use_i li_9_13_lo hc hm hk ha hb hx rfl (one x1 h)
    · exact use_i li_9_13_hi hc hm hk ha hb hx rfl (one h x2)
    · rcases ha' with rfl <;> rcases hb' with rfl <;> rcases hx' with rfl
      · exact use_s ls_9_0_0_0 s8_9_0_0_0 s22_9_0_0_0 hc hm hk ha hb hx
  · rcases (by omega : a ≤ -1 ∨ 5 ≤ a ∨ b ≤ -1 ∨ 5 ≤ b ∨ x ≤ -1 ∨ 1 ≤ x ∨ ((a = 0 ∨ a = 1 ∨ a = 2 ∨ a = 3 ∨ a = 4) ∧ (b = 0 ∨ b = 1 ∨ b = 2 ∨ b = 3 ∨ b = 4) ∧ (x = 0))) with h | h | h | h | h | h | ⟨ha', hb', hx'⟩
    · exact use_i li_10_11_lo hc hm hk ha hb hx rfl (one a1 h)
    · exact use_i li_10_11_hi hc hm hk ha hb hx rfl (one h a2)
    · exact use_i li_10_12_lo hc hm hk ha hb hx rfl (one b1 h)
    · exact use_i li_10_12_hi hc hm hk ha hb hx rfl (one h b2)
    · exact use_i li_10_13_lo hc hm hk ha hb hx rfl (one x1 h)
    · exact use_i li_10_13_hi hc hm hk ha hb hx rfl (one h x2)
    · rcases ha' with rfl | rfl | rfl | rfl | rfl <;> rcases hb' with rfl | rfl | rfl | rfl | rfl <;> rcases hx' with rfl
      · exact use_s ls_10_0_0_0 s8_10_0_0_0 s22_10_0_0_0 hc hm hk ha hb hx
      · exact use_s ls_10_0_1_0 s8_10_0_1_0 s22_10_0_1_0 hc hm hk ha hb hx
      · exact use_s ls_10_0_2_0 s8_10_0_2_0 s22_10_0_2_0 hc hm hk ha hb hx
      · exact use_s ls_10_0_3_0 s8_10_0_3_0 s22_10_0_3_0 hc hm hk ha hb hx
      · exact use_s ls_10_0_4_0 s8_10_0_4_0 s22_10_0_4_0 hc hm hk ha hb hx
      · exact use_s ls_10_1_0_0 s8_10_1_0_0 s22_10_1_0_0 hc hm hk ha hb hx
      · exact use_s ls_10_1_1_0 s8_10_1_1_0 s22_10_1_1_0 hc hm hk ha hb hx
      · exact use_s ls_10_1_2_0 s8_10_1_2_0 s22_10_1_2_0 hc hm hk ha hb hx
      · exact use_s ls_10_1_3_0 s8_10_1_3_0 s22_10_1_3_0 hc hm hk ha hb hx
      · exact use_s ls_10_1_4_0 s8_10_1_4_0 s22_10_1_4_0 hc hm hk ha hb hx
      · exact use_s ls_10_2_0_0 s8_10_2_0_0 s22_10_2_0_0 hc hm hk ha hb hx
      · exact use_s ls_10_2_1_0 s8_10_2_1_0 s22_10_2_1_0 hc hm hk ha hb hx
      · exact use_s ls_10_2_2_0 s8_10_2_2_0 s22_10_2_2_0 hc hm hk ha hb hx
      · exact use_s ls_10_2_3_0 s8_10_2_3_0 s22_10_2_3_0 hc hm hk ha hb hx
      · exact use_s ls_10_2_4_0 s8_10_2_4_0 s22_10_2_4_0 hc hm hk ha hb hx
      · exact use_s ls_10_3_0_0 s8_10_3_0_0 s22_10_3_0_0 hc hm hk ha hb hx
      · exact use_s ls_10_3_1_0 s8_10_3_1_0 s22_10_3_1_0 hc hm hk ha hb hx
      · exact use_s ls_10_3_2_0 s8_10_3_2_0 s22_10_3_2_0 hc hm hk ha hb hx
      · exact use_s ls_10_3_3_0 s8_10_3_3_0 s22_10_3_3_0 hc hm hk ha hb hx
      · exact use_s ls_10_3_4_0 s8_10_3_4_0 s22_10_3_4_0 hc hm hk ha hb hx
      · exact use_s ls_10_4_0_0 s8_10_4_0_0 s22_10_4_0_0 hc hm hk ha hb hx
      · exact use_s ls_10_4_1_0 s8_10_4_1_0 s22_10_4_1_0 hc hm hk ha hb hx
      · exact use_s ls_10_4_2_0 s8_10_4_2_0 s22_10_4_2_0 hc hm hk ha hb hx
      · exact use_s ls_10_4_3_0 s8_10_4_3_0 s22_10_4_3_0 hc hm hk ha hb hx
      · exact use_s ls_10_4_4_0 s8_10_4_4_0 s22_10_4_4_0 hc hm hk ha hb hx
theorem skips_B {w : World} {cs : List Value} (hc : IsView cs) (hn : ¬ AllMay cs) {k a b x : Int} (hk : in64 k) (ha : in64 a) (hb : in64 b) (hx : in64 x) : Calls Try.prog 3 #[.agg cs.toArray, opVal k a b x] w fun r w' => r = .returned (.bool true) ∧ Below w.heap.size w w' := by
  have one : ∀ {e : IE} {lo hi : Int}, lo ≤ ev (envV w cs (opInts k a b x)) e → ev (envV w cs (opInts k a b x)) e ≤ hi → ∀ f ∈ [((e, lo, hi) : Fact)], FactOk (envV w cs (opInts k a b x)) f := fun h1 h2 f hf => by
    rcases List.mem_singleton.1 hf with rfl
    exact ⟨h1, h2⟩
  have nil : ∀ f ∈ ([] : List Fact), FactOk (envV w cs (opInts k a b x)) f := fun _ h => (by cases h)
  rcases (by omega : k ≤ 5 ∨ 11 ≤ k ∨ k = 6 ∨ k = 7 ∨ k = 8 ∨ k = 9 ∨ k = 10) with h | h | rfl | rfl | rfl | rfl | rfl
  · exact use_b lb_lo hc hn hk ha hb hx rfl (one hk.1 h)
  · exact use_b lb_hi hc hn hk ha hb hx rfl (one h hk.2)
  · exact use_b lb_6 hc hn hk ha hb hx rfl nil
  · exact use_b lb_7 hc hn hk ha hb hx rfl nil
  · exact use_b lb_8 hc hn hk ha hb hx rfl nil
  · exact use_b lb_9 hc hn hk ha hb hx rfl nil
  · exact use_b lb_10 hc hn hk ha hb hx rfl nil
section
variable {H : Type} {enc : TypeId × Value → H} {w : World} {base : Nat} {spare : Nat → Bool} {held : Bool} {r : Reach} {b0 : Nat}
theorem skips_walk {v0 v1 : Value} (k0 : Value.okWide Try.prog w r b0 25 v0) (k1 : Value.okWide Try.prog w r b0 27 v1) :
    Calls Try.prog 3 #[v0, v1] w fun r w' => r = .returned (.bool true) ∧ Below w.heap.size w w' := by
  obtain ⟨cs, rfl, hc⟩ := open_view k0
  obtain ⟨k, a, b, x, rfl, hk, ha, hb, hx⟩ := open_op k1
  by_cases hm : AllMay cs
  · exact skips_A hc hm hk ha hb hx
  · exact skips_B hc hm hk ha hb hx
end
end Go.Proofs.Ytdngeccbmalbnaa
namespace Go.Proofs.Ytdngeccbmalbnaa.skips
open Go.ChangeShapes Go.WideShapes Go.ChangeAt Go.RowKit Go.Deep

set_option maxRecDepth 100000 in
theorem lifted (os : Os) (started : os.Started) (H : Type) (enc : TypeId × Value → H) :
    ReturnsInHanded {} Try.checked os 3 .any (Rows.skipsSpec.pre6 enc Try.prog Try.f3 Rows.skipsRow.domain false) (Rows.skipsSpec.post enc Try.prog Try.f3 false true false false) := by
  refine returnsInHanded_of_change (C := Try.checked) own started (by kernel_rfl) Try.func3
    (ChangeSpec.witness6 (enc := enc) (C := Try.checked) false ⟨#[], #[.agg (Array.replicate 16 (.bool false) ++ Array.replicate 32 (.int .i64 0)), .agg (Array.replicate 4 (.int .i64 0))], []⟩ 60 (by kernel_rfl) (by kernel_rfl) (by kernel_rfl) (by kernel_rfl)) ?_
  intro W base args ds gs before hval0 hW _ _
  have hval : ∀ (j : Nat) t v, Try.f3.params[j]? = some t → args[j]? = some v → Value.okWide Try.prog W .any base t v := hval0
  have hW' := hW
  obtain ⟨p, q, hA0, hV, rfl, _, _⟩ := hW
  have hA : DataW.TrodAll enc Try.prog W 0 (fun _ => true) true Try.f3.params.toList args.toList ds p := hA0
  rw [Try.params3] at hA hval
  obtain ⟨v0, vs0, d0, ds0, p0, q0, hargs, rfl, rfl, h0, r0⟩ := trodAll_cons hA
  obtain ⟨v1, vs1, d1, ds1, p1, q1, rfl, rfl, rfl, h1, r1⟩ := trodAll_cons r0
  obtain ⟨rfl, rfl, rfl⟩ := trodAll_nil r1
  obtain rfl : args = #[v0, v1] := by cases args; simp_all
  obtain ⟨rfl, rfl⟩ := trodVars_none hV
  have tl0 : ∀ x ∈ p0, x.block < W.heap.size := by obtain ⟨m, hm⟩ := h0; exact DataW.trod_lt m _ _ _ hm
  have tl1 : ∀ x ∈ p1, x.block < W.heap.size := by obtain ⟨m, hm⟩ := h1; exact DataW.trod_lt m _ _ _ hm
  clear hA0 hval0
  refine (skips_walk (hval 0 25 v0 rfl rfl) (hval 1 27 v1 rfl rfl)).mono fun e W' ⟨he, bel⟩ => ?_
  subst he
  exact ⟨_, rfl, _, _, _, [], _, [], hW', trodAll_mk1 (shut_bool Try.underlying4 _), (trodAll_cons_mk (Below.trod laidOut (by kernel_rfl) (of_decide_eq_true (by kernel_rfl)) h0 bel tl0) (trodAll_cons_mk (Below.trod laidOut (by kernel_rfl) (of_decide_eq_true (by kernel_rfl)) h1 bel tl1) trodAll_mk0)), rfl, bel.frame _, fun h => by cases h⟩

theorem over : Rows.skipsRow.holds Try.pinned (OpenSpec.ofChange Rows.skipsSpec) :=
  OpenClaim.holds_of_wide 3 Try.f3 rfl rfl rfl rfl rfl rfl rfl ⟨rfl, rfl, rfl, rfl, rfl⟩ rfl rfl rfl rfl rfl (by kernel_rfl) Try.func3 (by kernel_rfl)
    (of_decide_eq_true (by kernel_rfl)) (by unfold Func.isWrapper; first | (rw [if_pos (by decide +kernel)]; kernel_rfl) | (rw [if_neg (by decide +kernel)]; exact ⟨rfl, rfl⟩))
    (fun os started H enc _ => lifted os started H enc)

theorem proved : Rows.SkipsSaid := over
#print axioms proved
end Go.Proofs.Ytdngeccbmalbnaa.skips
