/- TakeLimbo's loop: that the cases cover all. -/
import Derived.Test.YtoemdbongkkmjaaT2
namespace Go.Proofs.Ytoemdbongkkmjaa
open Go.Sx Go Go.LimboNum
set_option maxRecDepth 100000
structure In (N : List Int) (ep : Int) : Prop where
 nums : ∀ z ∈ N, in64 z
 even : N.length = 2 * many N
 len : (many N : Int) ≤ most
 ep : in64 ep
theorem row_fn {E : Env} {r : Nat} (hr : 1000000 ≤ r) {l : List Int} (hl : (l.length : Int) ≤ hi64) (h64 : ∀ z ∈ l, in64 z) (hf : ∀ xs, E.f r xs = clampZ (rowFn l xs)) : E.row r = l := by
 have h0 : E.f r [] = l.length := by
  rw [hf]
  exact clampZ_of (by unfold in64 lo64; show _ ≤ (l.length : Int) ∧ (l.length : Int) ≤ _; unfold hi64 at hl ⊢; omega)
 unfold Env.row
 rw [if_neg (by omega), if_neg (by omega), h0, Int.toNat_natCast]
 refine List.ext_getElem? fun j => ?_
 rw [List.getElem?_map]
 by_cases hj : j < l.length
 ·rw [List.getElem?_range hj, List.getElem?_eq_getElem hj]
  show some (E.f r [(j : Int)]) = _
  rw [hf]
  show some (clampZ (l.getD (j : Int).toNat 0)) = _
  rw [Int.toNat_natCast, List.getD_eq_getElem?_getD, List.getElem?_eq_getElem hj]
  show some (clampZ l[j]) = _
  rw [clampZ_of (h64 _ (List.getElem_mem hj))]
 ·rw [List.getElem?_eq_none (by simpa using hj), List.getElem?_eq_none (by omega)]
  rfl
section
variable {N : List Int} {ep : Int} (h : In N ep) {E : Env} (hE : E.f = G0 N ep)
theorem many_le {n : Nat} : (ripes N ep n).length ≤ n ∧ (rests N ep n).length ≤ n := by
 unfold ripes rests
 have h1 := List.length_filter_le (ripeN N ep) (List.range n)
 have h2 := List.length_filter_le (fun i => !ripeN N ep i) (List.range n)
 rw [List.length_range] at h1 h2
 exact ⟨h1, h2⟩
include h hE
omit h hE in
theorem nat_in {n : Nat} (hn : (n : Int) ≤ most * 2) : in64 (n : Int) := by
 unfold most at hn
 unfold in64 lo64 hi64
 omega
theorem rowA : E.row 1000001 = N := row_fn (by omega) (by
 have := h.len
 have := h.even
 unfold most at *
 unfold hi64
 omega) h.nums (fun xs => by rw [hE]; rfl)
omit hE in
theorem slot_in (i : Nat) : in64 (slotN N i) := by
 unfold slotN
 rw [List.getD_eq_getElem?_getD]
 cases hx : N[2 * i]? with
 | none => constructor <;> decide
 | some x => exact h.nums x (List.mem_of_getElem? hx)
omit hE in
theorem epoch_in (i : Nat) : in64 (epochN N i) := by
 unfold epochN
 rw [List.getD_eq_getElem?_getD]
 cases hx : N[2 * i + 1]? with
 | none => constructor <;> decide
 | some x => exact h.nums x (List.mem_of_getElem? hx)
theorem rowB : E.row 1000002 = slotsOf N (ripes N ep (many N)) := row_fn (by omega) (by
 have := h.len
 have := (many_le (N := N) (ep := ep) (n := many N)).1
 unfold most at *
 unfold slotsOf hi64
 rw [List.length_map]
 omega) (fun z hz => by
 obtain ⟨i, _, rfl⟩ := List.mem_map.1 hz
 exact slot_in h i) (fun xs => by rw [hE]; rfl)
theorem rowC : E.row 1000003 = pairsOf N (rests N ep (many N)) := row_fn (by omega) (by
 have := h.len
 have := (many_le (N := N) (ep := ep) (n := many N)).2
 rw [pairs_len]
 unfold most at *
 unfold hi64
 omega) (fun z hz => by
 obtain ⟨i, _, hz⟩ := List.mem_flatMap.1 hz
 simp only [List.mem_cons, List.not_mem_nil, or_false] at hz
 rcases hz with rfl | rfl
 ·exact slot_in h i
 ·exact epoch_in h i) (fun xs => by rw [hE]; rfl)
theorem ev1101 {e : IE} (hm : (ev E e).toNat ≤ many N) : ev E (g1 1101 e) = (ripes N ep (ev E e).toNat).length := by
 have h1 := (many_le (N := N) (ep := ep) (n := (ev E e).toNat)).1
 have h2 := h.len
 unfold g1
 rw [ev_app, evA_arg, evA_no, hE]
 exact clampZ_of (nat_in (by show ((ripes N ep (ev E e).toNat).length : Int) ≤ most * 2; unfold most at *; omega))
theorem ev1102 {e : IE} (hm : (ev E e).toNat ≤ many N) : ev E (g1 1102 e) = (rests N ep (ev E e).toNat).length := by
 have h1 := (many_le (N := N) (ep := ep) (n := (ev E e).toNat)).2
 have h2 := h.len
 unfold g1
 rw [ev_app, evA_arg, evA_no, hE]
 exact clampZ_of (nat_in (by show ((rests N ep (ev E e).toNat).length : Int) ≤ most * 2; unfold most at *; omega))
theorem ev1103 : ev E (g0 1103) = goods N (many N) := by
 have h1 := goods_le (N := N) (many N)
 have h2 := h.len
 unfold g0
 rw [ev_app, evA_no, hE]
 exact clampZ_of (nat_in (by unfold most at *; omega))
theorem ev1104 : ev E (g0 1104) = ep := by
 unfold g0
 rw [ev_app, evA_no, hE]
 exact clampZ_of h.ep
theorem ev1105 : ev E (g0 1105) = many N := by
 have h2 := h.len
 unfold g0
 rw [ev_app, evA_no, hE]
 exact clampZ_of (nat_in (by unfold most at *; omega))
theorem ev1106 : ev E (g0 1106) = (ripes N ep (many N)).length := by
 have h1 := (many_le (N := N) (ep := ep) (n := many N)).1
 have h2 := h.len
 unfold g0
 rw [ev_app, evA_no, hE]
 exact clampZ_of (nat_in (by unfold most at *; omega))
theorem ev1107 : ev E (g0 1107) = (rests N ep (many N)).length := by
 have h1 := (many_le (N := N) (ep := ep) (n := many N)).2
 have h2 := h.len
 unfold g0
 rw [ev_app, evA_no, hE]
 exact clampZ_of (nat_in (by unfold most at *; omega))
theorem ev_e0 (h0 : 0 ≤ E.i 160) : ev E e0T = slotN N (E.i 160).toNat := by
 unfold e0T
 rw [ev_sel, rowA h hE, ev_mul, ev_lit]
 show N.getD (E.i 160 * 2).toNat 0 = N.getD (2 * (E.i 160).toNat) 0
 congr 1
 omega
theorem ev_e1 (h0 : 0 ≤ E.i 160) : ev E e1T = epochN N (E.i 160).toNat := by
 unfold e1T
 rw [ev_sel, rowA h hE, ev_add, ev_mul, ev_lit, ev_lit]
 show N.getD (E.i 160 * 2 + 1).toNat 0 = N.getD (2 * (E.i 160).toNat + 1) 0
 congr 1
 omega
omit h hE in
theorem ev_minus (E : Env) (a b : IE) : ev E (minus a b) = ev E a - ev E b := by
 unfold minus
 rw [ev_add, ev_mul, ev_lit]
 omega
theorem coverT (a b : Bool) (hf : ∀ f ∈ (headTp a b).mem.know.facts, FactOk E f) : ∃ c ∈ [(ripeC a b, ([] : List BE)), (unripeC a b, []), (endC a b, [])], (∀ f ∈ c.1, FactOk E f) ∧ ∀ x ∈ c.2, evB E x = true := by
 have hi : 0 ≤ E.i 160 ∧ E.i 160 ≤ most := hf (iT, 0, most) (by simp [headTp])
 have hn : 0 ≤ ev E (minus (.var 103) iT) ∧ ev E (minus (.var 103) iT) ≤ most := hf (minus (.var 103) iT, 0, most) (by simp [headTp])
 have hm : 0 ≤ ev E (minus (.var 103) (g0 1105)) ∧ ev E (minus (.var 103) (g0 1105)) ≤ 0 := hf (minus (.var 103) (g0 1105), 0, 0) (by simp [headTp])
 have hg : 0 ≤ ev E (minus (g0 1103) (g0 1105)) ∧ ev E (minus (g0 1103) (g0 1105)) ≤ 0 := hf (minus (g0 1103) (g0 1105), 0, 0) (by simp [headTp])
 have hp : 0 ≤ ev E (minus (.var 150) (g0 1104)) ∧ ev E (minus (.var 150) (g0 1104)) ≤ 0 := hf (minus (.var 150) (g0 1104), 0, 0) (by simp [headTp])
 have hp2 : 0 ≤ E.i 150 ∧ E.i 150 ≤ 1073741823 := hf (.var 150, 0, 1073741823) (by simp [headTp])
 rw [ev_minus] at hn hm hg hp
 rw [ev1105 h hE] at hm hg
 rw [ev1103 h hE] at hg
 rw [ev1104 h hE] at hp
 have hvi : ev E iT = E.i 160 := rfl
 have hvn : ev E (.var 103) = E.i 103 := rfl
 have hvp : ev E (.var 150) = E.i 150 := rfl
 rw [hvi, hvn] at hn
 rw [hvn] at hm
 rw [hvp] at hp
 have hlen := h.len
 generalize hI : (E.i 160).toNat = i
 have hin : i ≤ many N := by omega
 have c0 : ev E (g1 1101 iT) = (ripes N ep i).length := by
  rw [ev1101 h hE (by rw [hvi, hI]; exact hin), hvi, hI]
 have d0 : ev E (g1 1102 iT) = (rests N ep i).length := by
  rw [ev1102 h hE (by rw [hvi, hI]; exact hin), hvi, hI]
 have hc : ev E (cE a) = (ripes N ep i).length := by
  cases a with
  | true =>
   have := hf (minus cT (g1 1101 iT), 0, 0) (by simp [headTp, outF])
   unfold FactOk at this
   dsimp only at this
   rw [ev_minus, c0] at this
   show ev E cT = _
   omega
  | false =>
   have := hf (g1 1101 iT, 0, 0) (by simp [headTp, outF])
   unfold FactOk at this
   dsimp only at this
   rw [c0] at this
   show (0 : Int) = _
   omega
 have hd : ev E (dE b) = (rests N ep i).length := by
  cases b with
  | true =>
   have := hf (minus dT (g1 1102 iT), 0, 0) (by simp [headTp, restF])
   unfold FactOk at this
   dsimp only at this
   rw [ev_minus, d0] at this
   show ev E dT = _
   omega
  | false =>
   have := hf (g1 1102 iT, 0, 0) (by simp [headTp, restF])
   unfold FactOk at this
   dsimp only at this
   rw [d0] at this
   show (0 : Int) = _
   omega
 have nob : ∀ x ∈ ([] : List BE), evB E x = true := fun _ h => (by cases h)
 by_cases hlt : i < many N
 case neg =>
  obtain rfl : i = many N := by omega
  refine ⟨_, List.mem_of_getElem? (i := 2) rfl, fun f hf => ?_, nob⟩
  simp only [endC, List.mem_cons, List.not_mem_nil, or_false] at hf
  unfold FactOk
  rcases hf with rfl | rfl | rfl | rfl | rfl
  ·dsimp only; rw [ev_sub, hvi, hvn]; omega
  ·dsimp only; rw [ev_sub, hvi, hvn]; omega
  ·show 0 ≤ ev E (minus (g0 1106) (cE a)) ∧ ev E (minus (g0 1106) (cE a)) ≤ 0
   rw [ev_minus, hc, ev1106 h hE]; omega
  ·show 0 ≤ ev E (minus (g0 1107) (dE b)) ∧ ev E (minus (g0 1107) (dE b)) ≤ 0
   rw [ev_minus, hd, ev1107 h hE]; omega
  ·show 0 ≤ ev E (minus (.mul (g0 1107) (.lit 2)) (.mul (dE b) (.lit 2))) ∧ ev E (minus (.mul (g0 1107) (.lit 2)) (.mul (dE b) (.lit 2))) ≤ 0
   rw [ev_minus, ev_mul, ev_mul, ev_lit, hd, ev1107 h hE]; omega
 case pos =>
 have hmay := goods_good (N := N) hlt (by omega)
 unfold mayN at hmay
 have hmay := of_decide_eq_true hmay
 have he0 : ev E e0T = slotN N i := by rw [ev_e0 h hE hi.1, hI]
 have he1 : ev E e1T = epochN N i := by rw [ev_e1 h hE hi.1, hI]
 have hi1 : ev E i1 = (i : Int) + 1 := by
  show E.i 160 + 1 = _
  omega
 have c1 : ev E (g1 1101 i1) = (ripes N ep (i + 1)).length := by
  rw [ev1101 h hE (by rw [hi1]; omega), hi1, show ((i : Int) + 1).toNat = i + 1 by omega]
 have d1 : ev E (g1 1102 i1) = (rests N ep (i + 1)).length := by
  rw [ev1102 h hE (by rw [hi1]; omega), hi1, show ((i : Int) + 1).toNat = i + 1 by omega]
 have hcl := (many_le (N := N) (ep := ep) (n := i)).1
 have hdl := (many_le (N := N) (ep := ep) (n := i)).2
 have hc1 : ev E (c1E a) = ev E (cE a) + 1 := by cases a <;> rfl
 have hd1 : ev E (d1E b) = ev E (dE b) + 1 := by cases b <;> rfl
 have inOk : ∀ f ∈ inT, FactOk E f := fun f hf => by
  simp only [inT, List.mem_cons, List.not_mem_nil, or_false] at hf
  unfold FactOk
  rcases hf with rfl | rfl | rfl | rfl
  ·dsimp only; rw [he0]; exact ⟨hmay.1, hmay.2.1⟩
  ·dsimp only; rw [he1]; exact ⟨hmay.2.2.1, hmay.2.2.2⟩
  ·dsimp only; rw [ev_sub, hvi, hvn]; omega
  ·dsimp only; rw [ev_sub, hvi, hvn]; omega
 cases hr : ripeN N ep i with
 | true =>
  have cs : (ripes N ep (i + 1)).length = (ripes N ep i).length + 1 := by rw [ripes_succ, if_pos hr, List.length_append]; rfl
  have ds : (rests N ep (i + 1)).length = (rests N ep i).length := by rw [rests_succ, if_pos hr, List.append_nil]
  have hr' : 3 ≤ ep - epochN N i := of_decide_eq_true hr
  refine ⟨_, List.mem_of_getElem? (i := 0) rfl, fun f hf => ?_, nob⟩
  simp only [ripeC, List.mem_append, List.mem_cons, List.not_mem_nil, or_false] at hf
  rcases hf with (rfl | rfl | rfl | rfl | rfl) | hf
  ·show 3 ≤ ev E (.sub (.var 150) e1T) ∧ ev E (.sub (.var 150) e1T) ≤ hi64
   rw [ev_sub, he1, hvp]
   unfold hi64
   omega
  ·show 0 ≤ ev E (mkSub e0T (.sel 1000002 (cE a))) ∧ ev E (mkSub e0T (.sel 1000002 (cE a))) ≤ 0
   rw [mkSub_ok, he0, ev_sel, rowB h hE, hc, Int.toNat_natCast, ripe_at hlt hr]
   omega
  ·show 0 ≤ ev E (minus (c1E a) (g1 1101 i1)) ∧ ev E (minus (c1E a) (g1 1101 i1)) ≤ 0
   rw [ev_minus, hc1, hc, c1, cs]
   omega
  ·unfold stayR
   cases b with
   | true =>
    show 0 ≤ ev E (minus dT (g1 1102 i1)) ∧ ev E (minus dT (g1 1102 i1)) ≤ 0
    have hd : ev E dT = (rests N ep i).length := hd
    rw [ev_minus, hd, d1, ds]
    omega
   | false =>
    show 0 ≤ ev E (g1 1102 i1) ∧ ev E (g1 1102 i1) ≤ 0
    have hd : (0 : Int) = (rests N ep i).length := hd
    rw [d1, ds]
    omega
  ·show 1 ≤ ev E (c1E a) ∧ ev E (c1E a) ≤ most
   rw [hc1, hc]
   omega
  ·exact inOk f hf
 | false =>
  have ds : (rests N ep (i + 1)).length = (rests N ep i).length + 1 := by rw [rests_succ, if_neg (by rw [hr]; exact Bool.false_ne_true), List.length_append]; rfl
  have cs : (ripes N ep (i + 1)).length = (ripes N ep i).length := by rw [ripes_succ, if_neg (by rw [hr]; exact Bool.false_ne_true), List.append_nil]
  have hr' : ¬ 3 ≤ ep - epochN N i := of_decide_eq_false hr
  obtain ⟨ra, rb⟩ := rest_at hlt hr
  have a0 : ev E (at2 b 0) = 2 * ev E (dE b) := by
   cases b with
   | true => show ev E dT * 2 = 2 * ev E dT; omega
   | false => rfl
  have a1 : ev E (at2 b 1) = 2 * ev E (dE b) + 1 := by
   cases b with
   | true => show ev E dT * 2 + 1 = 2 * ev E dT + 1; omega
   | false => rfl
  refine ⟨_, List.mem_of_getElem? (i := 1) rfl, fun f hf => ?_, nob⟩
  simp only [unripeC, List.mem_append, List.mem_cons, List.not_mem_nil, or_false] at hf
  rcases hf with (rfl | rfl | rfl | rfl | rfl | rfl) | hf
  ·show lo64 ≤ ev E (.sub (.var 150) e1T) ∧ ev E (.sub (.var 150) e1T) ≤ 2
   rw [ev_sub, he1, hvp]
   unfold lo64
   omega
  ·show 0 ≤ ev E (mkSub e0T (.sel 1000003 (at2 b 0))) ∧ ev E (mkSub e0T (.sel 1000003 (at2 b 0))) ≤ 0
   rw [mkSub_ok, he0, ev_sel, rowC h hE, a0, hd, show (2 * ((rests N ep i).length : Int)).toNat = 2 * (rests N ep i).length by omega, ra]
   omega
  ·show 0 ≤ ev E (mkSub e1T (.sel 1000003 (at2 b 1))) ∧ ev E (mkSub e1T (.sel 1000003 (at2 b 1))) ≤ 0
   rw [mkSub_ok, he1, ev_sel, rowC h hE, a1, hd, show (2 * ((rests N ep i).length : Int) + 1).toNat = 2 * (rests N ep i).length + 1 by omega, rb]
   omega
  ·show 0 ≤ ev E (minus (d1E b) (g1 1102 i1)) ∧ ev E (minus (d1E b) (g1 1102 i1)) ≤ 0
   rw [ev_minus, hd1, hd, d1, ds]
   omega
  ·unfold stayO
   cases a with
   | true =>
    show 0 ≤ ev E (minus cT (g1 1101 i1)) ∧ ev E (minus cT (g1 1101 i1)) ≤ 0
    have hc : ev E cT = (ripes N ep i).length := hc
    rw [ev_minus, hc, c1, cs]
    omega
   | false =>
    show 0 ≤ ev E (g1 1101 i1) ∧ ev E (g1 1101 i1) ≤ 0
    have hc : (0 : Int) = (ripes N ep i).length := hc
    rw [c1, cs]
    omega
  ·show 1 ≤ ev E (d1E b) ∧ ev E (d1E b) ≤ most
   rw [hd1, hd]
   omega
  ·exact inOk f hf
end
end Go.Proofs.Ytoemdbongkkmjaa
