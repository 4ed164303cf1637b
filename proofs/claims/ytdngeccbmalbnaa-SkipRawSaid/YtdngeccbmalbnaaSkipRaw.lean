/- The law SkipRaw: for every input the call returns true, and its arguments read afterwards as they read before; no condition. -/
import Derived.Test.YtdngeccbmalbnaaD
import Derived.Test.YtdngeccbmalbnaaRI
import Derived.Test.YtdngeccbmalbnaaR0
import Derived.Test.YtdngeccbmalbnaaR1
import Derived.Test.YtdngeccbmalbnaaR2
import Derived.Test.YtdngeccbmalbnaaR3
import Derived.Test.YtdngeccbmalbnaaR4
import Derived.Test.YtdngeccbmalbnaaR5
import Derived.Test.YtdngeccbmalbnaaR6
import Derived.Test.YtdngeccbmalbnaaR7
namespace Go.Proofs.Ytdngeccbmalbnaa
set_option maxRecDepth 100000
open Go.Sx Go.ChangeShapes Go.WideShapes Go.ChangeAt Go.RowKit Go.Deep
/-- an operation's runs are there -/
noncomputable def Cov (k a b x : Int) : Prop := ∃ oc fs, okR oc fs = true ∧ ∀ E : Env, E.i 6 = k → E.i 7 = a → E.i 8 = b → E.i 9 = x → dv E (.agg oc) = opVal k a b x ∧ ∀ f ∈ fs, FactOk E f
theorem cov_lit {k a b x : Int} (h : okR (ocL k a b x) [] = true) : Cov k a b x := ⟨_, _, h, fun _ _ _ _ _ => ⟨rfl, fun _ h => (by cases h)⟩⟩
theorem one_fact {E : Env} {j : Nat} {lo hi : Int} (h : lo ≤ E.i j ∧ E.i j ≤ hi) : ∀ f ∈ [((.var j : IE), lo, hi)], FactOk E f := fun f hf => by
  rcases List.mem_singleton.1 hf with rfl
  exact h
theorem cov_V {k a b x lo hi : Int} (h : okR ocV [(.var 6, lo, hi)] = true) (hk : lo ≤ k ∧ k ≤ hi) : Cov k a b x := ⟨_, _, h, fun E e1 e2 e3 e4 => ⟨by rw [← e1, ← e2, ← e3, ← e4]; rfl, one_fact (by rw [e1]; exact hk)⟩⟩
theorem cov_7 {k a b x lo hi : Int} (h : okR (ocK k) [(.var 7, lo, hi)] = true) (hk : lo ≤ a ∧ a ≤ hi) : Cov k a b x := ⟨_, _, h, fun E e1 e2 e3 e4 => ⟨by rw [← e2, ← e3, ← e4]; rfl, one_fact (by rw [e2]; exact hk)⟩⟩
theorem cov_8 {k a b x lo hi : Int} (h : okR (ocK k) [(.var 8, lo, hi)] = true) (hk : lo ≤ b ∧ b ≤ hi) : Cov k a b x := ⟨_, _, h, fun E e1 e2 e3 e4 => ⟨by rw [← e2, ← e3, ← e4]; rfl, one_fact (by rw [e3]; exact hk)⟩⟩
theorem cov_9 {k a b x lo hi : Int} (h : okR (ocK k) [(.var 9, lo, hi)] = true) (hk : lo ≤ x ∧ x ≤ hi) : Cov k a b x := ⟨_, _, h, fun E e1 e2 e3 e4 => ⟨by rw [← e2, ← e3, ← e4]; rfl, one_fact (by rw [e4]; exact hk)⟩⟩
theorem cov_all {k a b x : Int} (hk : in64 k) (ha : in64 a) (hb : in64 b) (hx : in64 x) : Cov k a b x := by
  unfold in64 lo64 hi64 at hk ha hb hx
  rcases (by omega : k ≤ 5 ∨ 11 ≤ k ∨ k = 6 ∨ k = 7 ∨ k = 8 ∨ k = 9 ∨ k = 10) with h | h | rfl | rfl | rfl | rfl | rfl
  · exact cov_V i_lo (by omega)
  · exact cov_V i_hi (by omega)
  · rcases (by omega : a ≤ -1 ∨ 5 ≤ a ∨ b ≤ -1 ∨ 1 ≤ b ∨ x ≤ -1 ∨ 2 ≤ x ∨ ((a = 0 ∨ a = 1 ∨ a = 2 ∨ a = 3 ∨ a = 4) ∧ (b = 0) ∧ (x = 0 ∨ x = 1))) with h | h | h | h | h | h | ⟨ha', hb', hx'⟩
    · exact cov_7 i_6_7_lo (by omega)
    · exact cov_7 i_6_7_hi (by omega)
    · exact cov_8 i_6_8_lo (by omega)
    · exact cov_8 i_6_8_hi (by omega)
    · exact cov_9 i_6_9_lo (by omega)
    · exact cov_9 i_6_9_hi (by omega)
    · rcases ha' with rfl | rfl | rfl | rfl | rfl <;> rcases hb' with rfl <;> rcases hx' with rfl | rfl
      · exact cov_lit r_6_0_0_0
      · exact cov_lit r_6_0_0_1
      · exact cov_lit r_6_1_0_0
      · exact cov_lit r_6_1_0_1
      · exact cov_lit r_6_2_0_0
      · exact cov_lit r_6_2_0_1
      · exact cov_lit r_6_3_0_0
      · exact cov_lit r_6_3_0_1
      · exact cov_lit r_6_4_0_0
      · exact cov_lit r_6_4_0_1
  · rcases (by omega : a ≤ -1 ∨ 5 ≤ a ∨ b ≤ -1 ∨ 1 ≤ b ∨ x ≤ -1 ∨ 1 ≤ x ∨ ((a = 0 ∨ a = 1 ∨ a = 2 ∨ a = 3 ∨ a = 4) ∧ (b = 0) ∧ (x = 0))) with h | h | h | h | h | h | ⟨ha', hb', hx'⟩
    · exact cov_7 i_7_7_lo (by omega)
    · exact cov_7 i_7_7_hi (by omega)
    · exact cov_8 i_7_8_lo (by omega)
    · exact cov_8 i_7_8_hi (by omega)
    · exact cov_9 i_7_9_lo (by omega)
    · exact cov_9 i_7_9_hi (by omega)
    · rcases ha' with rfl | rfl | rfl | rfl | rfl <;> rcases hb' with rfl <;> rcases hx' with rfl
      · exact cov_lit r_7_0_0_0
      · exact cov_lit r_7_1_0_0
      · exact cov_lit r_7_2_0_0
      · exact cov_lit r_7_3_0_0
      · exact cov_lit r_7_4_0_0
  · rcases (by omega : a ≤ -1 ∨ 5 ≤ a ∨ b ≤ -1 ∨ 1 ≤ b ∨ x ≤ -1 ∨ 1 ≤ x ∨ ((a = 0 ∨ a = 1 ∨ a = 2 ∨ a = 3 ∨ a = 4) ∧ (b = 0) ∧ (x = 0))) with h | h | h | h | h | h | ⟨ha', hb', hx'⟩
    · exact cov_7 i_8_7_lo (by omega)
    · exact cov_7 i_8_7_hi (by omega)
    · exact cov_8 i_8_8_lo (by omega)
    · exact cov_8 i_8_8_hi (by omega)
    · exact cov_9 i_8_9_lo (by omega)
    · exact cov_9 i_8_9_hi (by omega)
    · rcases ha' with rfl | rfl | rfl | rfl | rfl <;> rcases hb' with rfl <;> rcases hx' with rfl
      · exact cov_lit r_8_0_0_0
      · exact cov_lit r_8_1_0_0
      · exact cov_lit r_8_2_0_0
      · exact cov_lit r_8_3_0_0
      · exact cov_lit r_8_4_0_0
  · rcases (by omega : a ≤ -1 ∨ 1 ≤ a ∨ b ≤ -1 ∨ 1 ≤ b ∨ x ≤ -1 ∨ 1 ≤ x ∨ ((a = 0) ∧ (b = 0) ∧ (x = 0))) with h | h | h | h | h | h | ⟨ha', hb', hx'⟩
    · exact cov_7 i_9_7_lo (by omega)
    · exact cov_7 i_9_7_hi (by omega)
    · exact cov_8 i_9_8_lo (by omega)
    · exact cov_8 i_9_8_hi (by omega)
    · exact cov_9 i_9_9_lo (by omega)
    · exact cov_9 i_9_9_hi (by omega)
    · rcases ha' with rfl <;> rcases hb' with rfl <;> rcases hx' with rfl
      · exact cov_lit r_9_0_0_0
  · rcases (by omega : a ≤ -1 ∨ 5 ≤ a ∨ b ≤ -1 ∨ 5 ≤ b ∨ x ≤ -1 ∨ 1 ≤ x ∨ ((a = 0 ∨ a = 1 ∨ a = 2 ∨ a = 3 ∨ a = 4) ∧ (b = 0 ∨ b = 1 ∨ b = 2 ∨ b = 3 ∨ b = 4) ∧ (x = 0))) with h | h | h | h | h | h | ⟨ha', hb', hx'⟩
    · exact cov_7 i_10_7_lo (by omega)
    · exact cov_7 i_10_7_hi (by omega)
    · exact cov_8 i_10_8_lo (by omega)
    · exact cov_8 i_10_8_hi (by omega)
    · exact cov_9 i_10_9_lo (by omega)
    · exact cov_9 i_10_9_hi (by omega)
    · rcases ha' with rfl | rfl | rfl | rfl | rfl <;> rcases hb' with rfl | rfl | rfl | rfl | rfl <;> rcases hx' with rfl
      · exact cov_lit r_10_0_0_0
      · exact cov_lit r_10_0_1_0
      · exact cov_lit r_10_0_2_0
      · exact cov_lit r_10_0_3_0
      · exact cov_lit r_10_0_4_0
      · exact cov_lit r_10_1_0_0
      · exact cov_lit r_10_1_1_0
      · exact cov_lit r_10_1_2_0
      · exact cov_lit r_10_1_3_0
      · exact cov_lit r_10_1_4_0
      · exact cov_lit r_10_2_0_0
      · exact cov_lit r_10_2_1_0
      · exact cov_lit r_10_2_2_0
      · exact cov_lit r_10_2_3_0
      · exact cov_lit r_10_2_4_0
      · exact cov_lit r_10_3_0_0
      · exact cov_lit r_10_3_1_0
      · exact cov_lit r_10_3_2_0
      · exact cov_lit r_10_3_3_0
      · exact cov_lit r_10_3_4_0
      · exact cov_lit r_10_4_0_0
      · exact cov_lit r_10_4_1_0
      · exact cov_lit r_10_4_2_0
      · exact cov_lit r_10_4_3_0
      · exact cov_lit r_10_4_4_0
section
variable {H : Type} {enc : TypeId × Value → H} {w : World} {base : Nat} {spare : Nat → Bool} {held : Bool} {r : Reach} {b0 : Nat}
theorem skipRaw_walk {v0 v1 : Value} {d0 d1 : DataW H} {p0 p1 : List MemPlace}
    (k0 : Value.okWide Try.prog w r b0 43 v0) (h0 : DataW.Trod enc Try.prog w base spare held 43 v0 d0 p0)
    (k1 : Value.okWide Try.prog w r b0 27 v1) (_h1 : DataW.Trod enc Try.prog w base spare held 27 v1 d1 p1) :
    Calls Try.prog 6 #[v0, v1] w fun r w' => r = .returned (.bool true) ∧ Below w.heap.size w w' := by
  obtain ⟨k, a, b, x, rfl, hk, ha, hb, hx⟩ := open_op k1
  obtain ⟨oc, fs, hok, hE⟩ := cov_all hk ha hb hx
  simp only [okR, Bool.and_eq_true] at hok
  obtain ⟨⟨hh, hs⟩, hn⟩ := hok
  rcases open_int_slice (show Try.prog.underlying 43 = some (.slice 3) by kernel_rfl) (show Try.prog.underlying 3 = some (.int .i64) by kernel_rfl) (by kernel_rfl) k0 h0 with rfl | ⟨bb, o, len, cap, zs, rfl, _, hl, hm, hbk, hz, hzs, hc⟩
  · let E : Env := { envOf w [] [] [(6, [k]), (7, [a]), (8, [b]), (9, [x])] [] [] with f := G0 }
    have h1 : (envOf w [] [] [(6, [k]), (7, [a]), (8, [b]), (9, [x])] [] []).Ok := envOf_ok (fun _ h => (by cases h)) (fun _ h => (by cases h)) (fun y hy z hz => by
      simp only [List.mem_cons, List.not_mem_nil, or_false] at hy
      rcases hy with rfl | rfl | rfl | rfl <;> (simp only [List.mem_cons, List.not_mem_nil, or_false] at hz; subst hz; assumption))
    have hEok : E.Ok := ⟨h1.i, h1.l, G0_in⟩
    obtain ⟨e1, e2⟩ := hE E rfl rfl rfl rfl
    have := law_ok (funL_ok okR8 6) hn (E := E) (w := w) rfl (slMem_ok 10 hEok rfl rfl (fun _ h => (by cases h)) e2)
    simp only [List.map_cons, List.map_nil] at this
    rw [e1] at this
    exact this
  · let S : SlArg := ⟨1, 2, 3, 4, 5, 1, bb, o, len, cap, zs⟩
    have hm' := hm
    unfold maxLen at hm'
    let E : Env := { envOf w [] [(5, zs)] [(2, [0]), (3, [(len : Int)]), (4, [(cap : Int)]), (6, [k]), (7, [a]), (8, [b]), (9, [x])] [(1, bb)] [(1, o)] with f := G0 }
    have h1 : (envOf w [] [(5, zs)] [(2, [0]), (3, [(len : Int)]), (4, [(cap : Int)]), (6, [k]), (7, [a]), (8, [b]), (9, [x])] [(1, bb)] [(1, o)]).Ok := envOf_ok (fun _ h => (by cases h)) (fun x hx z hzx => by
        simp only [List.mem_cons, List.not_mem_nil, or_false] at hx; subst hx; exact hzs z hzx) (fun x hx z hzx => by
        simp only [List.mem_cons, List.not_mem_nil, or_false] at hx
        rcases hx with rfl | rfl | rfl | rfl | rfl | rfl | rfl
        · simp only [List.mem_cons, List.not_mem_nil, or_false] at hzx; subst hzx; simp [in64, lo64, hi64]
        · simp only [List.mem_cons, List.not_mem_nil, or_false] at hzx; subst hzx; simp only [in64, lo64, hi64]; omega
        · simp only [List.mem_cons, List.not_mem_nil, or_false] at hzx; subst hzx; simp only [in64, lo64, hi64]; omega
        all_goals (simp only [List.mem_cons, List.not_mem_nil, or_false] at hzx; subst hzx; assumption))
    have hEok : E.Ok := ⟨h1.i, h1.l, G0_in⟩
    have hN : S.Named E := ⟨rfl, rfl, rfl, rfl, rfl, rfl, (by show (5 : Nat) ≠ 0; decide)⟩
    have hH : S.Holds w := ⟨hbk, hl, hm, hz, hzs, hc⟩
    obtain ⟨e1, e2⟩ := hE E rfl rfl rfl rfl
    have := law_ok (runR_ok hh) hs (E := E) (w := w) rfl (slMem_ok 10 hEok rfl rfl (fun e he => by
        simp only [List.mem_cons, List.not_mem_nil, or_false] at he; subst he; exact ⟨rfl, SlArg.ent hN hH⟩)
        (fun f hf => by
          rcases List.mem_append.1 hf with hf | hf
          · exact e2 f hf
          · exact SlArg.facts hN hH (by show (len : Int) ≤ hi64; simp only [hi64]; omega) f hf))
    simp only [List.map_cons, List.map_nil] at this
    rw [e1] at this
    exact this
end
end Go.Proofs.Ytdngeccbmalbnaa
namespace Go.Proofs.Ytdngeccbmalbnaa.skipRaw
open Go.ChangeShapes Go.WideShapes Go.ChangeAt Go.RowKit Go.Deep

set_option maxRecDepth 100000 in
theorem lifted (os : Os) (started : os.Started) (H : Type) (enc : TypeId × Value → H) :
    ReturnsInHanded {} Try.checked os 6 .any (Rows.skipRawSpec.pre6 enc Try.prog Try.f6 Rows.skipRawRow.domain false) (Rows.skipRawSpec.post enc Try.prog Try.f6 false true false false) := by
  refine returnsInHanded_of_change (C := Try.checked) own started (by kernel_rfl) Try.func6
    (ChangeSpec.witness6 (enc := enc) (C := Try.checked) false ⟨#[], #[.slice none 0 0, .agg #[.int .i64 0, .int .i64 0, .int .i64 0, .int .i64 0]], []⟩ 60 (by kernel_rfl) (by kernel_rfl) (by kernel_rfl) (by kernel_rfl)) ?_
  intro W base args ds gs before hval0 hW _ _
  have hval : ∀ (j : Nat) t v, Try.f6.params[j]? = some t → args[j]? = some v → Value.okWide Try.prog W .any base t v := hval0
  have hW' := hW
  obtain ⟨p, q, hA0, hV, rfl, _, _⟩ := hW
  have hA : DataW.TrodAll enc Try.prog W 0 (fun _ => true) true Try.f6.params.toList args.toList ds p := hA0
  rw [Try.params6] at hA hval
  obtain ⟨v0, vs0, d0, ds0, p0, q0, hargs, rfl, rfl, h0, r0⟩ := trodAll_cons hA
  obtain ⟨v1, vs1, d1, ds1, p1, q1, rfl, rfl, rfl, h1, r1⟩ := trodAll_cons r0
  obtain ⟨rfl, rfl, rfl⟩ := trodAll_nil r1
  obtain rfl : args = #[v0, v1] := by cases args; simp_all
  obtain ⟨rfl, rfl⟩ := trodVars_none hV
  have tl0 : ∀ x ∈ p0, x.block < W.heap.size := by obtain ⟨m, hm⟩ := h0; exact DataW.trod_lt m _ _ _ hm
  have tl1 : ∀ x ∈ p1, x.block < W.heap.size := by obtain ⟨m, hm⟩ := h1; exact DataW.trod_lt m _ _ _ hm
  clear hA0 hval0
  refine (skipRaw_walk (hval 0 43 v0 rfl rfl) h0 (hval 1 27 v1 rfl rfl) h1).mono fun e W' ⟨he, bel⟩ => ?_
  subst he
  exact ⟨_, rfl, _, _, _, [], _, [], hW', trodAll_mk1 (shut_bool Try.underlying4 _), (trodAll_cons_mk (Below.trod laidOut (by kernel_rfl) (of_decide_eq_true (by kernel_rfl)) h0 bel tl0) (trodAll_cons_mk (Below.trod laidOut (by kernel_rfl) (of_decide_eq_true (by kernel_rfl)) h1 bel tl1) trodAll_mk0)), rfl, bel.frame _, fun h => by cases h⟩

theorem over : Rows.skipRawRow.holds Try.pinned (OpenSpec.ofChange Rows.skipRawSpec) :=
  OpenClaim.holds_of_wide 6 Try.f6 rfl rfl rfl rfl rfl rfl rfl ⟨rfl, rfl, rfl, rfl, rfl⟩ rfl rfl rfl rfl rfl (by kernel_rfl) Try.func6 (by kernel_rfl)
    (of_decide_eq_true (by kernel_rfl)) (by unfold Func.isWrapper; first | (rw [if_pos (by decide +kernel)]; kernel_rfl) | (rw [if_neg (by decide +kernel)]; exact ⟨rfl, rfl⟩))
    (fun os started H enc _ => lifted os started H enc)

theorem proved : Rows.SkipRawSaid := over
#print axioms proved
end Go.Proofs.Ytdngeccbmalbnaa.skipRaw
