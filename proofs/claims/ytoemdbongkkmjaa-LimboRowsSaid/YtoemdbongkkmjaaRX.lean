/- LimboRows: that its cases cover all; its contract; its runs. -/
import Derived.Test.YtoemdbongkkmjaaRW
namespace Go.Proofs.Ytoemdbongkkmjaa
open Go.Sx Go Go.LimboNum
set_option maxRecDepth 100000
section
variable {N : List Int} {ep : Int} (h : In N ep) {E : Env} (hE : E.f = G0 N ep)
include h hE
theorem coverW (a b : Bool) (hf : ∀ f ∈ (headW a b).mem.know.facts, FactOk E f) : ∃ c ∈ (caW a b).map (fun l => (l, ([] : List BE))), (∀ f ∈ c.1, FactOk E f) ∧ ∀ x ∈ c.2, evB E x = true := by
 have hi : 0 ≤ E.i 160 ∧ E.i 160 ≤ most := hf (iT, 0, most) (by simp [headW])
 have hn : 0 ≤ ev E (minus (.var 103) iT) ∧ ev E (minus (.var 103) iT) ≤ most := hf (minus (.var 103) iT, 0, most) (by simp [headW])
 have hm : 0 ≤ ev E (minus (.var 103) (g0 1105)) ∧ ev E (minus (.var 103) (g0 1105)) ≤ 0 := hf (minus (.var 103) (g0 1105), 0, 0) (by simp [headW])
 have hg : 0 ≤ ev E (minus (g0 1103) (g0 1105)) ∧ ev E (minus (g0 1103) (g0 1105)) ≤ 0 := hf (minus (g0 1103) (g0 1105), 0, 0) (by simp [headW])
 have hp : 0 ≤ ev E (minus (.var 150) (g0 1104)) ∧ ev E (minus (.var 150) (g0 1104)) ≤ 0 := hf (minus (.var 150) (g0 1104), 0, 0) (by simp [headW])
 have hp2 : 0 ≤ E.i 150 ∧ E.i 150 ≤ 1073741823 := hf (.var 150, 0, 1073741823) (by simp [headW])
 have hc0 : 0 ≤ ev E (minus cT (g1 1101 iT)) ∧ ev E (minus cT (g1 1101 iT)) ≤ 0 := hf (minus cT (g1 1101 iT), 0, 0) (by simp [headW])
 have hd0 : 0 ≤ ev E (minus dT (g1 1102 iT)) ∧ ev E (minus dT (g1 1102 iT)) ≤ 0 := hf (minus dT (g1 1102 iT), 0, 0) (by simp [headW])
 have ha : a = false → ev E (g0 1106) = 0 := fun e => by
  subst e
  have := hf (g0 1106, 0, 0) (by simp [headW, ssF])
  unfold FactOk at this
  dsimp only at this
  omega
 have hb : b = false → ev E (g0 1107) = 0 := fun e => by
  subst e
  have := hf (g0 1107, 0, 0) (by simp [headW, rsF])
  unfold FactOk at this
  dsimp only at this
  omega
 rw [ev_minus] at hn hm hg hp hc0 hd0
 rw [ev1105 h hE] at hm hg
 rw [ev1103 h hE] at hg
 rw [ev1104 h hE] at hp
 rw [ev1106 h hE] at ha
 rw [ev1107 h hE] at hb
 have hvi : ev E iT = E.i 160 := rfl
 have hvn : ev E (.var 103) = E.i 103 := rfl
 have hvp : ev E (.var 150) = E.i 150 := rfl
 rw [hvi, hvn] at hn
 rw [hvn] at hm
 rw [hvp] at hp
 have hlen := h.len
 generalize hI : (E.i 160).toNat = i
 have hin : i ≤ many N := by omega
 rw [ev1101 h hE (by rw [hvi, hI]; exact hin), hvi, hI] at hc0
 rw [ev1102 h hE (by rw [hvi, hI]; exact hin), hvi, hI] at hd0
 have hc : ev E cT = (ripes N ep i).length := by omega
 have hd : ev E dT = (rests N ep i).length := by omega
 have nob : ∀ x ∈ ([] : List BE), evB E x = true := fun _ h => (by cases h)
 by_cases hlt : i < many N
 case neg =>
  obtain rfl : i = many N := by omega
  refine ⟨(endW, []), by unfold caW; simp, fun f hf => ?_, nob⟩
  simp only [endW, List.mem_cons, List.not_mem_nil, or_false] at hf
  unfold FactOk
  rcases hf with rfl | rfl | rfl | rfl
  ·dsimp only; rw [ev_sub, hvi, hvn]; omega
  ·dsimp only; rw [ev_sub, hvi, hvn]; omega
  ·show 0 ≤ ev E (minus (g0 1106) cT) ∧ ev E (minus (g0 1106) cT) ≤ 0
   rw [ev_minus, hc, ev1106 h hE]; omega
  ·show 0 ≤ ev E (minus (g0 1107) dT) ∧ ev E (minus (g0 1107) dT) ≤ 0
   rw [ev_minus, hd, ev1107 h hE]; omega
 case pos =>
 have hmay := goods_good (N := N) hlt (by omega)
 unfold mayN at hmay
 have hmay := of_decide_eq_true hmay
 have he0 : ev E e0T = slotN N i := by rw [ev_e0 h hE hi.1, hI]
 have he1 : ev E e1T = epochN N i := by rw [ev_e1 h hE hi.1, hI]
 have hi1 : ev E i1 = (i : Int) + 1 := by
  show E.i 160 + 1 = _
  omega
 have c1 : ev E (g1 1101 i1) = (ripes N ep (i + 1)).length := by
  rw [ev1101 h hE (by rw [hi1]; omega), hi1, show ((i : Int) + 1).toNat = i + 1 by omega]
 have d1 : ev E (g1 1102 i1) = (rests N ep (i + 1)).length := by
  rw [ev1102 h hE (by rw [hi1]; omega), hi1, show ((i : Int) + 1).toNat = i + 1 by omega]
 have hcl := (many_le (N := N) (ep := ep) (n := i)).1
 have hdl := (many_le (N := N) (ep := ep) (n := i)).2
 have less : ∀ x y : IE, 1 ≤ ev E y - ev E x → ev E y - ev E x ≤ most → ∀ f ∈ lessF x y, FactOk E f := fun x y h1 h2 f hf => by
  simp only [lessF, List.mem_cons, List.not_mem_nil, or_false] at hf
  unfold FactOk
  rcases hf with rfl | rfl
  ·dsimp only; rw [ev_sub]; omega
  ·dsimp only; rw [ev_sub]; omega
 have eqs : ∀ x y : IE, ev E x = ev E y → ∀ f ∈ eqF x y, FactOk E f := fun x y h1 f hf => by
  simp only [eqF, List.mem_cons, List.not_mem_nil, or_false] at hf
  unfold FactOk
  rcases hf with rfl | rfl
  ·dsimp only; rw [mkSub_ok]; omega
  ·dsimp only; rw [mkSub_ok]; omega
 have inOk : ∀ f ∈ inW, FactOk E f := fun f hf => by
  unfold inW at hf
  rcases List.mem_cons.1 hf with rfl | hf
  ·show 0 ≤ ev E e0T ∧ ev E e0T ≤ 11
   rw [he0]; exact ⟨hmay.1, hmay.2.1⟩
  rcases List.mem_cons.1 hf with rfl | hf
  ·show 0 ≤ ev E e1T ∧ ev E e1T ≤ 1073741823
   rw [he1]; exact ⟨hmay.2.2.1, hmay.2.2.2⟩
  exact less _ _ (by rw [hvi, hvn]; omega) (by rw [hvi, hvn]; omega) f hf
 cases hr : ripeN N ep i with
 | true =>
  have cs : (ripes N ep (i + 1)).length = (ripes N ep i).length + 1 := by rw [ripes_succ, if_pos hr, List.length_append]; rfl
  have ds : (rests N ep (i + 1)).length = (rests N ep i).length := by rw [rests_succ, if_pos hr, List.append_nil]
  have hr' : 3 ≤ ep - epochN N i := of_decide_eq_true hr
  obtain ⟨l, hl⟩ := ripes_pre (N := N) (ep := ep) (n := i + 1) (m := many N) (by omega)
  have hll : (ripes N ep (many N)).length = (ripes N ep i).length + 1 + l.length := by rw [hl, List.length_append, cs]
  have htot := (many_le (N := N) (ep := ep) (n := many N)).1
  obtain rfl : a = true := by
   cases a with
   | true => rfl
   | false => have := ha rfl; omega
  refine ⟨(ripeW, []), by unfold caW; simp, fun f hf => ?_, nob⟩
  unfold ripeW at hf
  rcases List.mem_cons.1 hf with rfl | hf
  ·show 3 ≤ ev E (.sub (.var 150) e1T) ∧ ev E (.sub (.var 150) e1T) ≤ hi64
   rw [ev_sub, he1, hvp]
   unfold hi64
   omega
  rcases List.mem_append.1 hf with hf | hf
  ·exact eqs _ _ (by rw [he0, ev_sel, rowB h hE, hc, Int.toNat_natCast, ripe_at hlt hr]) f hf
  rcases List.mem_append.1 hf with hf | hf
  ·exact less _ _ (by rw [hc, ev1106 h hE]; omega) (by rw [hc, ev1106 h hE]; omega) f hf
  rcases List.mem_append.1 hf with hf | hf
  ·simp only [List.mem_cons, List.not_mem_nil, or_false] at hf
   rcases hf with rfl | rfl
   ·show 0 ≤ ev E (minus (.add cT (.lit 1)) (g1 1101 i1)) ∧ ev E (minus (.add cT (.lit 1)) (g1 1101 i1)) ≤ 0
    rw [ev_minus, ev_add, ev_lit, hc, c1, cs]; omega
   ·show 0 ≤ ev E (minus dT (g1 1102 i1)) ∧ ev E (minus dT (g1 1102 i1)) ≤ 0
    rw [ev_minus, hd, d1, ds]; omega
  ·exact inOk f hf
 | false =>
  have ds : (rests N ep (i + 1)).length = (rests N ep i).length + 1 := by rw [rests_succ, if_neg (by rw [hr]; exact Bool.false_ne_true), List.length_append]; rfl
  have cs : (ripes N ep (i + 1)).length = (ripes N ep i).length := by rw [ripes_succ, if_neg (by rw [hr]; exact Bool.false_ne_true), List.append_nil]
  have hr' : ¬ 3 ≤ ep - epochN N i := of_decide_eq_false hr
  obtain ⟨l, hl⟩ := rests_pre (N := N) (ep := ep) (n := i + 1) (m := many N) (by omega)
  have hll : (rests N ep (many N)).length = (rests N ep i).length + 1 + l.length := by rw [hl, List.length_append, ds]
  have htot := (many_le (N := N) (ep := ep) (n := many N)).2
  obtain ⟨ra, rb⟩ := rest_at hlt hr
  obtain rfl : b = true := by
   cases b with
   | true => rfl
   | false => have := hb rfl; omega
  have a0 : ev E (.mul dT (.lit 2)) = 2 * (rests N ep i).length := by rw [ev_mul, ev_lit, hd]; omega
  refine ⟨(unripeW, []), by unfold caW; simp, fun f hf => ?_, nob⟩
  unfold unripeW at hf
  rcases List.mem_cons.1 hf with rfl | hf
  ·show lo64 ≤ ev E (.sub (.var 150) e1T) ∧ ev E (.sub (.var 150) e1T) ≤ 2
   rw [ev_sub, he1, hvp]
   unfold lo64
   omega
  rcases List.mem_append.1 hf with hf | hf
  ·exact eqs _ _ (by rw [he0, ev_sel, rowC h hE, a0, show (2 * ((rests N ep i).length : Int)).toNat = 2 * (rests N ep i).length by omega, ra]) f hf
  rcases List.mem_append.1 hf with hf | hf
  ·exact eqs _ _ (by rw [he1, ev_sel, rowC h hE, ev_add, ev_lit, a0, show (2 * ((rests N ep i).length : Int) + 1).toNat = 2 * (rests N ep i).length + 1 by omega, rb]) f hf
  rcases List.mem_append.1 hf with hf | hf
  ·exact less _ _ (by rw [hd, ev1107 h hE]; omega) (by rw [hd, ev1107 h hE]; omega) f hf
  rcases List.mem_append.1 hf with hf | hf
  ·simp only [List.mem_cons, List.not_mem_nil, or_false] at hf
   rcases hf with rfl | rfl
   ·show 0 ≤ ev E (minus (.add dT (.lit 1)) (g1 1102 i1)) ∧ ev E (minus (.add dT (.lit 1)) (g1 1102 i1)) ≤ 0
    rw [ev_minus, ev_add, ev_lit, hd, d1, ds]; omega
   ·show 0 ≤ ev E (minus cT (g1 1101 i1)) ∧ ev E (minus cT (g1 1101 i1)) ≤ 0
    rw [ev_minus, hc, c1, cs]; omega
  ·exact inOk f hf
end
noncomputable def loopW : Fr → X (SX × Fr) := liftB 100 (loopP 100 headsW leavesW)
theorem loopW_ok {N : List Int} {ep : Int} (h : In N ep) : LxOk (G0 N ep) Try.prog (6, 0, loopW) := lx_ok Try.func6 (c := bodyOf Try.f6) rfl (b := bodyW) (by kernel_rfl) (liftB_ok (loopPe_ok (T := tabJ []) (cx := cx0) cx0_ok (jm := none) (fuel := 400) (noBlocks_ok _ _) (fun y hy => by
 have key : ∀ a b, (caW a b).all (okW a b) = true → ∃ cs : List (List Fact × List BE), (∀ E : Env, E.f = G0 N ep → E.Ok → (∀ f ∈ (headW a b).mem.know.facts, FactOk E f) → ∃ c ∈ cs, (∀ f ∈ c.1, FactOk E f) ∧ ∀ b ∈ c.2, evB E b = true) ∧ ∀ c ∈ cs, headOk (tabJ []) cx0 (fun _ => none) none 400 0 bodyW 100 headsW leavesW ((headW a b).moreC c) = true := fun a b hk =>
  ⟨(caW a b).map (fun l => (l, [])), fun E hE _ hf => coverW h hE a b hf, fun c hc => by
   obtain ⟨l, hl, rfl⟩ := List.mem_map.1 hc
   exact List.all_eq_true.1 hk l hl⟩
 unfold headsW at hy
 simp only [List.mem_cons, List.not_mem_nil, or_false] at hy
 rcases hy with rfl | rfl | rfl | rfl
 ·exact key _ _ w00
 ·exact key _ _ w10
 ·exact key _ _ w01
 ·exact key _ _ w11)))
noncomputable def funW : List SV → X SV := callF (tabJ []) (spOf spG) (bxOf [(6, 0, loopW)]) 400 12 6
theorem funW_ok {N : List Int} {ep : Int} (h : In N ep) : SpecOk (G0 N ep) Try.prog 6 funW := callF_ok (spOf_ok (okSpG h)) (bxOf_ok (by
 intro y hy
 rcases List.mem_singleton.1 hy with rfl
 exact loopW_ok h)) 400 12 6
noncomputable def okWr (b : Bool) (k : Nat) : Bool := allOf (funW [slR 20, vi 2] (slMem [enR 20] (epG k :: (goodG b ++ factG)) 60)) isTrue
theorem wr0 : ([0, 1, 2].all fun k => okWr false k) = true := by kernel_rfl
theorem wr1 : ([0, 1, 2].all fun k => okWr true k) = true := by kernel_rfl
noncomputable def okW0 (nil : Bool) : Bool := allOf (funB spB 6 [sl0 nil, vi 2] (slMem [] fa0 60)) isTrue
theorem w0n : okW0 true = true := by kernel_rfl
theorem w0s : okW0 false = true := by kernel_rfl
end Go.Proofs.Ytoemdbongkkmjaa
