/- sixteen cells told as a state: the document's way, over any cells: what it means. -/
import Derived.Test.YtojpmbkbeoolcaaGI
namespace Go.Proofs.Ytojpmbkbeoolcaa
open Go.Sx Go
set_option maxRecDepth 100000
theorem wrI_low (E : Env) (r : Nat) (q : Nat → IE) : ∀ (n c j : Nat), j < c → wsVal E r (wrI q n c) j = (E.row r).getD j 0
 | 0, _, _, _ => rfl
 | n + 1, c, j, h => by
  unfold wrI wsVal
  rw [ev_lit, if_neg (by
   intro e
   have : c = j := Int.ofNat.inj e
   omega)]
  exact wrI_low E r q n (c + 1) j (by omega)
theorem links_at {N xs : List Int} (hN : N.drop 4 = linksZ xs) {c : Nat} (hc : c < 12) : N.getD (4 + c) 0 = linkZ xs c := by
 have : (N.drop 4).getD c 0 = (linksZ xs).getD c 0 := by rw [hN]
 rw [List.getD_eq_getElem?_getD, List.getElem?_drop, ← List.getD_eq_getElem?_getD] at this
 rw [this]
 unfold linksZ
 rw [List.getD_eq_getElem?_getD, List.getElem?_map, List.getElem?_range hc]
 rfl
theorem cells_I {E : Env} {N xs : List Int} (h : E.l 7 = N) (hl : N.length = 16) (hN : N.drop 4 = linksZ xs) : arrCells E .i64 7 16 (wsI xs) = N.map (Value.int .i64) := by
 unfold arrCells
 have : N.map (Value.int .i64) = (List.range 16).map fun j => Value.int .i64 (N.getD j 0) := by
  rw [← range_self hl, List.map_map, range_self hl]
  rfl
 rw [this]
 refine List.map_congr_left fun j hj => ?_
 have hj := List.mem_range.1 hj
 congr 1
 unfold wsI
 by_cases h4 : j < 4
 ·rw [wrI_low E 7 _ 12 4 j h4]
  show (E.l 7).getD j 0 = _
  rw [h]
 ·rw [wrI_val E 7 _ 12 4 j (by omega) (by omega), ev_lit]
  obtain ⟨c, rfl⟩ : ∃ c, j = 4 + c := ⟨j - 4, by omega⟩
  rw [links_at hN (by omega), Nat.add_sub_cancel_left]
theorem getVal_I {N xs : List Int} (h : imgOf N = some xs) (E : Env) (hN : E.l 7 = N) : dv E (okI xs) = getVal N := by
 have b : ∀ c : Nat, c < 4 → wsVal E 0 (wrI (fun c => .add (.sel 7 (.lit (.ofNat c))) (.lit (-1))) 4 0) c = N.getD c 0 - 1 := fun c hc => by
  rw [wrI_val E 0 _ 4 0 c (by omega) (by omega), ev_add, sel7 E hN, ev_lit]
  omega
 unfold getVal getZ
 rw [h]
 show Value.tuple #[.agg (arrCells E .i64 0 4 _ ++ dl E (flV _)).toArray, .int .i64 0] = _
 rw [flV_ok]
 have e1 : arrCells E .i64 0 4 (wrI (fun c => .add (.sel 7 (.lit (.ofNat c))) (.lit (-1))) 4 0) = [.int .i64 (N.getD 0 0 - 1), .int .i64 (N.getD 1 0 - 1), .int .i64 (N.getD 2 0 - 1), .int .i64 (N.getD 3 0 - 1)] := by
  show [Value.int .i64 (wsVal E 0 _ 0), Value.int .i64 (wsVal E 0 _ 1), Value.int .i64 (wsVal E 0 _ 2), Value.int .i64 (wsVal E 0 _ 3)] = _
  rw [b 0 (by omega), b 1 (by omega), b 2 (by omega), b 3 (by omega)]
 rw [e1]
 show Value.tuple #[.agg ([Value.int .i64 (N.getD 0 0 - 1), .int .i64 (N.getD 1 0 - 1), .int .i64 (N.getD 2 0 - 1), .int .i64 (N.getD 3 0 - 1)] ++ [Value.bool (zEq (xs.getD 0 0) 1), Value.bool (zEq (xs.getD 1 0) 1), Value.bool (zEq (xs.getD 2 0) 1), Value.bool (zEq (xs.getD 3 0) 1), Value.bool (zEq (xs.getD 4 0) 1)]).toArray, .int .i64 0] = _
 rw [zEq_of, zEq_of, zEq_of, zEq_of, zEq_of]
 rfl
def Sat (N : List Int) (c : Case) : Prop := (∀ p ∈ c.lits, N.getD p.1 0 = p.2) ∧ ∀ E : Env, E.l 7 = N → ∀ f ∈ c.fs, FactOk E f
theorem at64 {N : List Int} (h : ∀ z ∈ N, in64 z) (c : Nat) : in64 (N.getD c 0) := by
 rw [List.getD_eq_getElem?_getD]
 cases hq : N[c]? with
 | none => exact zero64
 | some z => exact h z (List.mem_of_getElem? hq)
theorem coverH {N : List Int} (h64 : ∀ z ∈ N, in64 z) : ∀ (n : Nat) (x : Int) (acc : List (Nat × Int)), -1 ≤ x → x ≤ 4 → 5 - x ≤ n → (∀ p ∈ acc, N.getD p.1 0 = p.2) → ∃ c ∈ casesH n x acc, Sat N c
 | 0, x, acc, h1, h4, hn, _ => absurd hn (by omega)
 | n + 1, x, acc, h1, h4, hn, ha => by
  have hz := at64 h64 (2 * x + 7).toNat
  have e7 : ∀ {E : Env}, E.l 7 = N → ev E (.sel 7 (.lit (2 * x + 7))) = N.getD (2 * x + 7).toNat 0 := fun {E} h => by
   rw [ev_sel, ev_lit]
   show (E.l 7).getD _ 0 = _
   rw [h]
  generalize hq : N.getD (2 * x + 7).toNat 0 = z at *
  unfold casesH
  obtain ⟨z1, z2⟩ := hz
  have fact : ∀ {lo hi : Int}, lo ≤ z → z ≤ hi → Sat N ⟨acc, [(.sel 7 (.lit (2 * x + 7)), lo, hi)]⟩ := fun a b => ⟨ha, fun E h f hf => by
   rcases List.mem_singleton.1 hf with rfl
   unfold FactOk
   rw [e7 h]
   exact ⟨a, b⟩⟩
  by_cases c0 : z = 0
  ·refine ⟨_, List.mem_cons_self, fun p hp => ?_, fun _ _ _ h => (by cases h)⟩
   rcases List.mem_cons.1 hp with rfl | hp
   ·exact hq.trans c0
   ·exact ha p hp
  by_cases cl : z = lo64
  ·refine ⟨_, List.mem_cons_of_mem _ List.mem_cons_self, fun p hp => ?_, fun E h f hf => ?_⟩
   ·rcases List.mem_cons.1 hp with rfl | hp
    ·exact hq.trans cl
    ·exact ha p hp
   ·rcases List.mem_singleton.1 hf with rfl
    show (0 : Int) ≤ 0 ∧ (0 : Int) ≤ 0
    omega
  by_cases c1 : z ≤ -1
  ·exact ⟨_, List.mem_cons_of_mem _ (List.mem_cons_of_mem _ List.mem_cons_self), fact (by omega) c1⟩
  by_cases c3 : 6 ≤ z
  ·exact ⟨_, List.mem_cons_of_mem _ (List.mem_cons_of_mem _ (List.mem_cons_of_mem _ List.mem_cons_self)), fact c3 z2⟩
  by_cases c2 : z ≤ x + 1
  ·refine ⟨_, List.mem_cons_of_mem _ (List.mem_cons_of_mem _ (List.mem_cons_of_mem _ (List.mem_cons_of_mem _ (List.mem_append_left _ ?_)))), fact (lo := 1) (hi := x + 1) (by omega) c2⟩
   rw [decide_eq_true (show 0 ≤ x by omega)]
   exact List.mem_cons_self
  have hk : ((z - x - 2).toNat : Int) = z - x - 2 := Int.toNat_of_nonneg (by omega)
  obtain ⟨c, hc, hs⟩ := coverH h64 n (x + 1 + (z - x - 2).toNat) (((2 * x + 7).toNat, x + 2 + (z - x - 2).toNat) :: acc) (by omega) (by omega) (by omega) (fun p hp => by
   rcases List.mem_cons.1 hp with rfl | hp
   ·show N.getD (2 * x + 7).toNat 0 = x + 2 + ((z - x - 2).toNat : Int)
    rw [hq, hk]
    omega
   ·exact ha p hp)
  exact ⟨c, List.mem_cons_of_mem _ (List.mem_cons_of_mem _ (List.mem_cons_of_mem _ (List.mem_cons_of_mem _ (List.mem_append_right _ (List.mem_flatMap.2 ⟨(z - x - 2).toNat, List.mem_range.2 (by omega), hc⟩))))), hs⟩
theorem wsC_val {E : Env} {N : List Int} (h : E.l 7 = N) : ∀ (l : List (Nat × Int)), (∀ p ∈ l, N.getD p.1 0 = p.2) → ∀ j : Nat, wsVal E 7 (wsC l) j = N.getD j 0
 | [], _, j => by
  show (E.l 7).getD j 0 = _
  rw [h]
 | p :: l, hp, j => by
  show (if ev E (.lit (.ofNat p.1)) = (j : Int) then ev E (.lit p.2) else wsVal E 7 (wsC l) j) = _
  rw [ev_lit, ev_lit]
  by_cases hq : Int.ofNat p.1 = (j : Int)
  ·rw [if_pos hq]
   have : p.1 = j := Int.ofNat.inj hq
   rw [← this, hp p List.mem_cons_self]
  ·rw [if_neg hq]
   exact wsC_val h l (fun p hq => hp p (List.mem_cons_of_mem _ hq)) j
theorem cells_C {E : Env} {N : List Int} (h : E.l 7 = N) (hl : N.length = 16) {l : List (Nat × Int)} (hp : ∀ p ∈ l, N.getD p.1 0 = p.2) : arrCells E .i64 7 16 (wsC l) = N.map (Value.int .i64) := by
 unfold arrCells
 have : N.map (Value.int .i64) = (List.range 16).map fun j => Value.int .i64 (N.getD j 0) := by
  rw [← range_self hl, List.map_map, range_self hl]
  rfl
 rw [this]
 exact List.map_congr_left fun j _ => by rw [wsC_val h l hp j]
theorem wrap_val {z v : Int} (h64 : in64 z) (h : IntKind.wrap .i64 (z + -1) = v) (hv : v ≤ 4) (h1 : -1 ≤ v) : z = v + 1 := by
 obtain ⟨z1, z2⟩ := h64
 by_cases hq : z = lo64
 ·subst hq
  have : IntKind.wrap .i64 (lo64 + -1) = hi64 := by decide
  rw [this] at h
  unfold hi64 at h
  omega
 ·have e : IntKind.wrap .i64 (z + -1) = z + -1 := wrap_id (by show lo64 ≤ _; omega) (by show _ ≤ hi64; omega)
  rw [e] at h
  omega
theorem walkE_ok {E : Env} {kn : Know} (hk : KnowOk E kn) {N : List Int} (h : E.l 7 = N) (h64 : ∀ z ∈ N, in64 z) : ∀ {n : Nat} {e : IE} {c : Nat} {l : List (Nat × Int)}, ev E e = N.getD c 0 → walkE kn n e c = some l → ∀ p ∈ l, N.getD p.1 0 = p.2
 | 0, _, _, _, _, hw => by cases hw
 | n + 1, e, c, l, he, hw => by
  unfold walkE at hw
  split at hw
  case h_2 => cases hw
  rename_i z hz
  obtain ⟨v1, v2, v3⟩ := valS_ok hk hz
  have hless : IntKind.wrap .i64 (N.getD c 0 + -1) = z := by
   rw [← v1, ← he]
   rfl
  have hc := wrap_val (at64 h64 c) hless (by omega) (by omega)
  cases hq : zEq z (-1) with
  | true =>
   rw [hq] at hw
   cases hw
   intro p hp
   rcases List.mem_singleton.1 hp with rfl
   have := zEq_ok hq
   show N.getD c 0 = 0
   omega
  | false =>
   rw [hq] at hw
   dsimp only [cond] at hw
   split at hw
   case h_2 => cases hw
   rename_i l' hl
   cases hw
   have hz0 : 0 ≤ z := by
    rcases (by omega : z = -1 ∨ 0 ≤ z) with h | h
    ·rw [h] at hq
     cases hq
    ·exact h
   have ih := walkE_ok hk h h64 (n := n) (e := next9 e) (c := 6 + 2 * z.toNat) (by
    unfold next9
    rw [ev_sel, ev_add, ev_mul, ev_lit, ev_lit, v1]
    show (E.l 7).getD _ 0 = _
    rw [h]
    congr 1
    omega) hl
   intro p hp
   rcases List.mem_cons.1 hp with rfl | hp
   ·exact hc
   ·exact ih p hp
theorem lookZ_ok {c : Nat} {z : Int} : ∀ {l : List (Nat × Int)}, lookZ c l = some z → (c, z) ∈ l
 | [], h => by cases h
 | p :: r, h => by
  unfold lookZ at h
  cases hq : Nat.beq p.1 c with
  | true =>
   rw [hq] at h
   cases h
   have := Nat.eq_of_beq_eq_true hq
   subst this
   exact List.mem_cons_self
  | false =>
   rw [hq] at h
   exact List.mem_cons_of_mem _ (lookZ_ok h)
theorem rowK_ok {E : Env} {kn : Know} (hk : KnowOk E kn) {N : List Int} (h : E.l 7 = N) {l : List (Nat × Int)} (hl : ∀ p ∈ l, N.getD p.1 0 = p.2) : ∀ {n c : Nat} {L : List Int}, rowK kn l n c = some L → L = (List.range n).map fun j => N.getD (c + j) 0
 | 0, _, _, hr => by cases hr; rfl
 | n + 1, c, L, hr => by
  unfold rowK at hr
  split at hr
  case h_2 => cases hr
  rename_i z r hz hr'
  cases hr
  have hcell : z = N.getD c 0 := by
   unfold cellK at hz
   split at hz
   ·rename_i z' hq
    cases hz
    exact (hl _ (lookZ_ok hq)).symm
   ·cases hq : zeroK kn c with
    | false => rw [hq] at hz; cases hz
    | true =>
     rw [hq] at hz
     cases hz
     unfold zeroK at hq
     split at hq
     ·rename_i b hb
      subst hq
      have := mkEq_ok hk (.sel 7 (.lit (.ofNat c))) (.lit 0)
      rw [litB_ok hb, ev_lit, sel7 E h] at this
      exact (of_decide_eq_true this.symm).symm
     ·cases hq
  rw [hcell, rowK_ok hk h hl hr', List.range_succ_eq_map, List.map_cons, List.map_map]
  congr 1
  refine List.map_congr_left fun j _ => ?_
  show N.getD (c + 1 + j) 0 = N.getD (c + (j + 1)) 0
  rw [show c + 1 + j = c + (j + 1) by omega]
theorem imgK_ok {E : Env} {kn : Know} (hk : KnowOk E kn) {N : List Int} (h : E.l 7 = N) (hl16 : N.length = 16) (h64 : ∀ z ∈ N, in64 z) {lits : List (Nat × Int)} (hl : ∀ p ∈ lits, N.getD p.1 0 = p.2) (hi : imgK kn lits = true) : ∃ xs ∈ cfgs, N.drop 4 = linksZ xs := by
 unfold imgK at hi
 split at hi
 case h_2 => cases hi
 rename_i l hw
 split at hi
 case h_2 => cases hi
 rename_i L hL
 rw [forceL_eq, forceL_eq] at hi
 have hwl := walkE_ok hk h h64 (sel7 E h 4) hw
 have hLe := rowK_ok hk h (fun p hp => (List.mem_append.1 hp).elim (hl p) (hwl p)) hL
 have hd : N.drop 4 = (List.range 12).map fun c => N.getD (4 + c) 0 := by
  rw [← range_self (l := N.drop 4) (n := 12) (by rw [List.length_drop]; omega)]
  refine List.map_congr_left fun c _ => ?_
  rw [List.getD_eq_getElem?_getD, List.getElem?_drop, ← List.getD_eq_getElem?_getD]
 refine ⟨nrm (bitsZ9 L), nrm_mem (fun z hz => ?_) (fun z hz => ?_), ?_⟩
 ·simp only [List.mem_cons, List.not_mem_nil, or_false] at hz
  rcases hz with rfl | rfl | rfl | rfl | rfl <;> exact walkZ_bit _ _
 ·simp only [List.mem_cons, List.not_mem_nil, or_false] at hz
  rcases hz with rfl | rfl | rfl | rfl | rfl <;> exact walkZ_bit _ _
 ·rw [hd, ← hLe, eqL_ok hi]
theorem semGetI (hI : ∀ xs ∈ cfgs, runI9 xs = true) (hC : ∀ c ∈ cases9, runC9 c = true) : SemGet 9 := by
 intro N b o cap w hN h64 hc
 have hl := hN.2.1
 cases hi : imgOf N with
 | some xs =>
  obtain ⟨ha, hx, hL⟩ := imgOf_some hi
  have hr := hI xs hx
  unfold runI9 at hr
  split at hr
  case h_2 => cases hr
  rename_i outs hrun
  rw [List.all_eq_true] at hr
  refine (run_G (fun0_ok 9) hrun hN h64 hc (fun E h => cells_I h hl hL) (fun E h _ => acc4_ok h hl ha)).mono ?_
  rintro e w' ⟨q, hq, E', h7, hf, rfl, hm⟩
  refine ⟨hm.ext, ?_⟩
  have hq1 := hr q hq
  rw [wrongs_ok hm.know, Bool.false_or] at hq1
  have := eqU_ok hm.know hq1
  have e1 := getVal_I hi E' h7
  unfold dv at e1 ⊢
  rw [this, e1]
 | none =>
  obtain ⟨c, hcm, hsat, hfs⟩ := coverH h64 6 (-1) [] (by omega) (by omega) (by omega) (fun _ h => (by cases h))
  have hr := hC c hcm
  unfold runC9 at hr
  split at hr
  case h_2 => cases hr
  rename_i outs hrun
  rw [List.all_eq_true] at hr
  refine (run_G (fun0_ok 9) hrun hN h64 hc (fun E h => cells_C h hl hsat) (fun E h _ => hfs E h)).mono ?_
  rintro e w' ⟨q, hq, E', h7, hf, rfl, hm⟩
  refine ⟨hm.ext, ?_⟩
  have hq1 := hr q hq
  rw [wrongs_ok hm.know, Bool.false_or] at hq1
  unfold way9 at hq1
  cases he : eqU q.2.know q.1 errV with
  | true =>
   have := eqU_ok hm.know he
   have e1 := getVal_none hi E'
   unfold dv at e1 ⊢
   rw [this, e1]
  | false =>
   rw [he, Bool.false_or, Bool.and_eq_true, List.all_eq_true] at hq1
   obtain ⟨xs, hx, hL⟩ := imgK_ok hm.know h7 hl h64 hsat hq1.1
   have ha : ∀ z ∈ N.take 4, 0 ≤ z ∧ z ≤ 1048576 := (acc_of hl _).2 fun c hc => by
    have := factIn_ok hm.know (hq1.2 c (List.mem_range.2 hc))
    have e : ev E' (balW c) = IntKind.wrap .i64 (N.getD c 0 + -1) := by
     unfold balW
     show IntKind.wrap .i64 (ev E' (.add (.sel 7 (.lit (.ofNat c))) (.lit (-1)))) = _
     rw [ev_add, sel7 E' h7, ev_lit]
    rw [e] at this
    exact wrap_bal (at64 h64 c) this
   rw [imgOf_of ha hx hL] at hi
   cases hi
end Go.Proofs.Ytojpmbkbeoolcaa
