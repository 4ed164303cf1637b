/- sixteen cells told as a state: the program's way, over any cells. -/
import Derived.Test.YtojpmbkbeoolcaaS
namespace Go.Proofs.Ytojpmbkbeoolcaa
open Go.Sx Go
set_option maxRecDepth 100000
noncomputable def getVal (N : List Int) : Value := .tuple #[stVals [getZ 1 N, getZ 2 N, getZ 3 N, getZ 4 N] [decide (getZ 5 N = 1), decide (getZ 6 N = 1), decide (getZ 7 N = 1), decide (getZ 8 N = 1), decide (getZ 9 N = 1)], .int .i64 (getZ 0 N)]
def SemGet (f : Nat) : Prop := ∀ (N : List Int) (b o cap : Nat) (w : World), Row16 w b o N → (∀ z ∈ N, in64 z) → (cap : Int) ≤ hi64 →
 Calls Try.prog f #[.slice (some ⟨b, o, none⟩) 16 cap] w fun e w' => Ext (fun _ => False) w w' ∧ e = .returned (getVal N)
noncomputable def entG (ws : SV) : Ent := ⟨46, 0, true, 3, .lit 0, .cons (.arr .i64 7 (.lit 16) ws) .nil⟩
noncomputable def memG (ws : SV) (fs : List Fact) : Mem := slMem [entG ws] ((.var 49, 0, hi64) :: fs) 60
noncomputable def argG : SV := .sli 46 0 (.lit 0) (.lit 16) (.var 49)
noncomputable def acc4 : List Fact := [(.sel 7 (.lit 0), 0, 1048576), (.sel 7 (.lit 1), 0, 1048576), (.sel 7 (.lit 2), 0, 1048576), (.sel 7 (.lit 3), 0, 1048576)]
noncomputable def errV : SV := .tup (.cons (.agg (.cons (.arr .i64 0 (.lit 4) .nil) (flV [.lit false, .lit false, .lit false, .lit false, .lit false]))) (.cons (.int .i64 (.lit 900)) .nil))
theorem run_G {f : Nat} {s : List SV → X SV} (hs : SpecOk G0 Try.prog f s) {ws : SV} {fs : List Fact} {outs : List (SV × Mem)} (hrun : s [argG] (memG ws fs) = some outs) {N : List Int} {b o cap : Nat} {w : World} (hN : Row16 w b o N) (h64 : ∀ z ∈ N, in64 z) (hc : (cap : Int) ≤ hi64)
  (hws : ∀ E : Env, E.l 7 = N → arrCells E .i64 7 16 ws = N.map (Value.int .i64)) (hf : ∀ E : Env, E.l 7 = N → E.Ok → ∀ f ∈ fs, FactOk E f) :
  Calls Try.prog f #[.slice (some ⟨b, o, none⟩) 16 cap] w fun e w' => ∃ q ∈ outs, ∃ E', E'.l 7 = N ∧ E'.f = G0 ∧ e = .returned (dv E' q.1) ∧ MemOk (fun _ => False) w E' q.2 w' := by
 let E := envR w N 0 (fun _ => false) b o cap
 have hE : E.Ok := envR_ok h64 zero64 (by unfold in64 lo64; constructor <;> omega)
 obtain ⟨n1, n2, n3⟩ := hN
 have := run_ro hs hrun (E := E) (w := w) rfl hE rfl rfl (fun e he => by
  rcases List.mem_singleton.1 he with rfl
  refine ⟨rfl, n1, fun _ j v hv => ?_, fun h => (by cases h), fun _ x h => (by cases h)⟩
  have hd : dl E (entG ws).c = N.map (Value.int .i64) := by
   show arrCells E .i64 7 (ev E (.lit 16)).toNat ws ++ [] = _
   rw [List.append_nil]
   exact hws E rfl
  rw [hd, List.getElem?_map] at hv
  have hj : j < 16 := by
   rcases Nat.lt_or_ge j 16 with h | h
   ·exact h
   ·rw [List.getElem?_eq_none (by omega)] at hv
    cases hv
  have := n3 j hj
  rw [List.getD_eq_getElem?_getD] at this
  rw [List.getElem?_eq_getElem (by omega)] at this hv
  cases hv
  show w.cell? ⟨b + 0, o + ((ev E (.lit 0)).toNat + j), none⟩ = _
  rw [ev_lit, show b + 0 = b from rfl, show ((0 : Int).toNat + j) = j by simp]
  exact this) (fun f hf' => by
  rcases List.mem_cons.1 hf' with rfl | hf'
  ·show (0 : Int) ≤ cap ∧ (cap : Int) ≤ hi64
   omega
  ·exact hf E rfl hE f hf')
 refine this.mono ?_
 rintro e w' ⟨q, hq, E', hA, rfl, hm⟩
 exact ⟨q, hq, E', hA.l 7 (by decide), hA.f, rfl, hm⟩
theorem cells_self (E : Env) {N : List Int} (h : E.l 7 = N) (hl : N.length = 16) : arrCells E .i64 7 16 .nil = N.map (Value.int .i64) := by
 unfold arrCells
 rw [← range_self hl, List.map_map]
 refine List.map_congr_left fun j _ => ?_
 show Value.int .i64 ((E.l 7).getD j 0) = _
 rw [h]
 rfl
theorem sel7 (E : Env) {N : List Int} (h : E.l 7 = N) (c : Nat) : ev E (.sel 7 (.lit (.ofNat c))) = N.getD c 0 := by
 rw [ev_sel, ev_lit]
 show (E.l 7).getD c 0 = _
 rw [h]
noncomputable def cells12 : List IE := (List.range 12).map fun c => .sel 7 (.lit (.ofNat (4 + c)))
noncomputable def lvA (lv : Nat) : IE := mkArgs (lvlL (.lit 0) lv cells12)
noncomputable def bitsA : List IE := [.app 540 (lvA 0), .app 541 (lvA 0), .app 542 (lvA 0), .app 543 (lvA 0), .app 544 (lvA 0), .app 540 (lvA 1), .app 541 (lvA 1), .app 542 (lvA 1), .app 543 (lvA 1), .app 544 (lvA 1)]
noncomputable def eqC (c : Nat) : BE := .eq (.app (430 + c) (mkArgs bitsA)) (.sel 7 (.lit (.ofNat (4 + c))))
noncomputable def linkBad (kn : Know) : Bool := (List.range 12).any fun c => hasB (.not (eqC c)) kn.conds
noncomputable def allEq (kn : Know) : Bool := (List.range 12).all fun c => hasB (eqC c) kn.conds
noncomputable def balV : SV := .arr .i64 0 (.lit 4) (wrI (fun c => .add (.sel 7 (.lit (.ofNat c))) (.lit (-1))) 4 0)
noncomputable def okV : SV := .tup (.cons (.agg (.cons balV (flV [.eq (.app 540 (lvA 0)) (.lit 1), .eq (.app 541 (lvA 0)) (.lit 1), .eq (.app 542 (lvA 0)) (.lit 1), .eq (.app 543 (lvA 0)) (.lit 1), .eq (.app 544 (lvA 0)) (.lit 1)]))) (.cons (.int .i64 (.lit 0)) .nil))
noncomputable def balW (c : Nat) : IE := .wrap .i64 (.add (.sel 7 (.lit (.ofNat c))) (.lit (-1)))
noncomputable def wayA (q : SV × Mem) : Bool := (allEq q.2.know && eqU q.2.know q.1 okV) || linkBad q.2.know
noncomputable def wayB (q : SV × Mem) : Bool := eqU q.2.know q.1 errV || (allEq q.2.know && (List.range 4).all fun c => factIn q.2.know (balW c) (-1) 1048575)
noncomputable def spG : List (Nat × (List SV → X SV)) := [(22, walkX), (24, layX)]
theorem okSpG : ∀ x ∈ spG, SpecOk G0 Try.prog x.1 x.2 := cons_ok (a := (22, walkX)) walkX_ok (one_ok (a := (24, layX)) lay_ok)
noncomputable def runG (fs : List Fact) (chk : SV × Mem → Bool) : Bool := match funL spG 8 [argG] (memG .nil fs) with
 | some outs => outs.all fun q => wrongs q.2.know || chk q
 | none => false
theorem runG_A : runG acc4 wayA = true := by kernel_rfl
theorem runG_B : runG [] wayB = true := by kernel_rfl
theorem cells12_ev {E : Env} {N : List Int} (h : E.l 7 = N) (hl : N.length = 16) : cells12.map (ev E) = N.drop 4 := by
 unfold cells12
 rw [List.map_map]
 have : N.drop 4 = (List.range 12).map fun c => N.getD (4 + c) 0 := by
  rw [← range_self (l := N.drop 4) (n := 12) (by rw [List.length_drop]; omega)]
  refine List.map_congr_left fun c _ => ?_
  rw [List.getD_eq_getElem?_getD, List.getElem?_drop, ← List.getD_eq_getElem?_getD]
 rw [this]
 exact List.map_congr_left fun c _ => sel7 E h (4 + c)
theorem walkA {E : Env} (hE : E.f = G0) {N : List Int} (h : E.l 7 = N) (hl : N.length = 16) {j lv : Nat} (hj : j < 5) : ev E (.app (540 + j) (lvA lv)) = walkZ j (lvlL 0 lv (N.drop 4)) := by
 unfold lvA
 rw [ev_app, mkArgs_ev, ev_lvl, cells12_ev h hl, hE, G0_walk hj]
theorem bitsA_ev {E : Env} (hE : E.f = G0) {N : List Int} (h : E.l 7 = N) (hl : N.length = 16) : bitsA.map (ev E) = [walkZ 0 (lvlL 0 0 (N.drop 4)), walkZ 1 (lvlL 0 0 (N.drop 4)), walkZ 2 (lvlL 0 0 (N.drop 4)), walkZ 3 (lvlL 0 0 (N.drop 4)), walkZ 4 (lvlL 0 0 (N.drop 4)), walkZ 0 (lvlL 0 1 (N.drop 4)), walkZ 1 (lvlL 0 1 (N.drop 4)), walkZ 2 (lvlL 0 1 (N.drop 4)), walkZ 3 (lvlL 0 1 (N.drop 4)), walkZ 4 (lvlL 0 1 (N.drop 4))] := by
 show [ev E (.app (540 + 0) (lvA 0)), ev E (.app (540 + 1) (lvA 0)), ev E (.app (540 + 2) (lvA 0)), ev E (.app (540 + 3) (lvA 0)), ev E (.app (540 + 4) (lvA 0)), ev E (.app (540 + 0) (lvA 1)), ev E (.app (540 + 1) (lvA 1)), ev E (.app (540 + 2) (lvA 1)), ev E (.app (540 + 3) (lvA 1)), ev E (.app (540 + 4) (lvA 1))] = _
 simp only [walkA hE h hl (show 0 < 5 by omega), walkA hE h hl (show 1 < 5 by omega), walkA hE h hl (show 2 < 5 by omega), walkA hE h hl (show 3 < 5 by omega), walkA hE h hl (show 4 < 5 by omega)]
theorem walkZ_bit (j : Nat) (L : List Int) : Bit (walkZ j L) := by
 unfold walkZ Bit
 split
 ·exact .inr rfl
 ·exact .inl rfl
theorem img_bits {E : Env} (hE : E.f = G0) {N xs : List Int} (h : E.l 7 = N) (hl : N.length = 16) (hx : xs ∈ cfgs) (hN : N.drop 4 = linksZ xs) : bitsA.map (ev E) = xs := by
 rw [bitsA_ev hE h hl, hN]
 refine ten_ext rfl (cfg_len hx) fun j hj => ?_
 obtain ⟨w1, w2⟩ := walk_cfg hx hj
 rw [← w1, ← w2]
 match j, hj with
 | 0, _ => exact ⟨rfl, rfl⟩
 | 1, _ => exact ⟨rfl, rfl⟩
 | 2, _ => exact ⟨rfl, rfl⟩
 | 3, _ => exact ⟨rfl, rfl⟩
 | 4, _ => exact ⟨rfl, rfl⟩
theorem eqC_ev {E : Env} (hE : E.f = G0) {N : List Int} (h : E.l 7 = N) {c : Nat} (hc : c < 12) : evB E (eqC c) = decide (linkZ (nrm (bitsA.map (ev E))) c = N.getD (4 + c) 0) := by
 show decide (ev E (.app (430 + c) (mkArgs bitsA)) = ev E (.sel 7 (.lit (.ofNat (4 + c))))) = _
 rw [G0_link hE hc (mkArgs_ev E bitsA), sel7 E h]
theorem notBad {E : Env} {kn : Know} (hE : E.f = G0) (hk : KnowOk E kn) {N xs : List Int} (h : E.l 7 = N) (hl : N.length = 16) (hx : xs ∈ cfgs) (hN : N.drop 4 = linksZ xs) : linkBad kn = false := by
 cases hq : linkBad kn with
 | false => rfl
 | true =>
  unfold linkBad at hq
  rw [List.any_eq_true] at hq
  obtain ⟨c, hc, hb⟩ := hq
  have hc := List.mem_range.1 hc
  have := hk.conds _ (hasB_ok hb)
  have : (!evB E (eqC c)) = true := this
  rw [eqC_ev hE h hc, img_bits hE h hl hx hN, cfg_nrm hx] at this
  have e : N.getD (4 + c) 0 = linkZ xs c := by
   have : (N.drop 4).getD c 0 = (linksZ xs).getD c 0 := by rw [hN]
   rw [List.getD_eq_getElem?_getD, List.getElem?_drop, ← List.getD_eq_getElem?_getD] at this
   rw [this]
   unfold linksZ
   rw [List.getD_eq_getElem?_getD, List.getElem?_map, List.getElem?_range hc]
   rfl
  rw [e] at this
  simp at this
theorem allEq_img {E : Env} {kn : Know} (hE : E.f = G0) (hk : KnowOk E kn) {N : List Int} (h : E.l 7 = N) (hl : N.length = 16) (hq : allEq kn = true) : ∃ xs ∈ cfgs, N.drop 4 = linksZ xs := by
 unfold allEq at hq
 rw [List.all_eq_true] at hq
 refine ⟨nrm (bitsA.map (ev E)), ?_, ?_⟩
 ·rw [bitsA_ev hE h hl]
  refine nrm_mem (fun z hz => ?_) (fun z hz => ?_)
  ·simp only [List.mem_cons, List.not_mem_nil, or_false] at hz
   rcases hz with rfl | rfl | rfl | rfl | rfl <;> exact walkZ_bit _ _
  ·simp only [List.mem_cons, List.not_mem_nil, or_false] at hz
   rcases hz with rfl | rfl | rfl | rfl | rfl <;> exact walkZ_bit _ _
 ·have : N.drop 4 = (List.range 12).map fun c => N.getD (4 + c) 0 := by rw [← cells12_ev h hl]; unfold cells12; rw [List.map_map]; exact List.map_congr_left fun c _ => sel7 E h (4 + c)
  rw [this]
  unfold linksZ
  refine List.map_congr_left fun c hc => ?_
  have := hk.conds _ (hasB_ok (hq c hc))
  rw [eqC_ev hE h (List.mem_range.1 hc)] at this
  exact (of_decide_eq_true this).symm
theorem wrap_bal {z : Int} (h64 : in64 z) (h : -1 ≤ IntKind.wrap .i64 (z + -1) ∧ IntKind.wrap .i64 (z + -1) ≤ 1048575) : 0 ≤ z ∧ z ≤ 1048576 := by
 obtain ⟨h1, h2⟩ := h64
 by_cases hq : z = lo64
 ·subst hq
  have : ¬ (-1 ≤ IntKind.wrap .i64 (lo64 + -1) ∧ IntKind.wrap .i64 (lo64 + -1) ≤ 1048575) := by decide
  exact absurd h this
 ·have e : IntKind.wrap .i64 (z + -1) = z + -1 := wrap_id (by show lo64 ≤ _; omega) (by show _ ≤ hi64; omega)
  rw [e] at h
  omega
theorem acc_of {N : List Int} (hl : N.length = 16) (P : Int → Prop) : (∀ z ∈ N.take 4, P z) ↔ ∀ c, c < 4 → P (N.getD c 0) := by
 have : N.take 4 = (List.range 4).map fun c => N.getD c 0 := by
  rw [← range_self (l := N.take 4) (n := 4) (by rw [List.length_take]; omega)]
  refine List.map_congr_left fun c hc => ?_
  rw [List.getD_eq_getElem?_getD, List.getElem?_take_of_lt (List.mem_range.1 hc), ← List.getD_eq_getElem?_getD]
 rw [this]
 constructor
 ·intro h c hc
  exact h _ (List.mem_map.2 ⟨c, List.mem_range.2 hc, rfl⟩)
 ·intro h z hz
  obtain ⟨c, hc, rfl⟩ := List.mem_map.1 hz
  exact h c (List.mem_range.1 hc)
theorem acc4_ok {E : Env} {N : List Int} (h : E.l 7 = N) (hl : N.length = 16) (ha : ∀ z ∈ N.take 4, 0 ≤ z ∧ z ≤ 1048576) : ∀ f ∈ acc4, FactOk E f := by
 have ha := (acc_of hl _).1 ha
 intro f hf
 unfold acc4 at hf
 simp only [List.mem_cons, List.not_mem_nil, or_false] at hf
 unfold FactOk
 rcases hf with rfl | rfl | rfl | rfl
 ·exact (sel7 E h 0).symm ▸ ha 0 (by omega)
 ·exact (sel7 E h 1).symm ▸ ha 1 (by omega)
 ·exact (sel7 E h 2).symm ▸ ha 2 (by omega)
 ·exact (sel7 E h 3).symm ▸ ha 3 (by omega)
theorem getVal_none {N : List Int} (h : imgOf N = none) (E : Env) : dv E errV = getVal N := by
 unfold getVal getZ
 rw [h]
 rfl
theorem getVal_some {N xs : List Int} (h : imgOf N = some xs) (E : Env) (hE : E.f = G0) (hN : E.l 7 = N) (hl : N.length = 16) : dv E okV = getVal N := by
 obtain ⟨_, hx, hL⟩ := imgOf_some h
 have b : ∀ c : Nat, c < 4 → wsVal E 0 (wrI (fun c => .add (.sel 7 (.lit (.ofNat c))) (.lit (-1))) 4 0) c = N.getD c 0 - 1 := fun c hc => by
  rw [wrI_val E 0 _ 4 0 c (by omega) (by omega), ev_add, sel7 E hN, ev_lit]
  omega
 have k : ∀ j, j < 5 → evB E (.eq (.app (540 + j) (lvA 0)) (.lit 1)) = decide (xs.getD j 0 = 1) := fun j hj => by
  show decide (ev E (.app (540 + j) (lvA 0)) = 1) = _
  rw [walkA hE hN hl hj, hL, (walk_cfg hx hj).1]
 unfold getVal getZ
 rw [h]
 show Value.tuple #[.agg (arrCells E .i64 0 4 _ ++ dl E (flV _)).toArray, .int .i64 0] = _
 rw [flV_ok]
 have e1 : arrCells E .i64 0 4 (wrI (fun c => .add (.sel 7 (.lit (.ofNat c))) (.lit (-1))) 4 0) = [.int .i64 (N.getD 0 0 - 1), .int .i64 (N.getD 1 0 - 1), .int .i64 (N.getD 2 0 - 1), .int .i64 (N.getD 3 0 - 1)] := by
  show [Value.int .i64 (wsVal E 0 _ 0), Value.int .i64 (wsVal E 0 _ 1), Value.int .i64 (wsVal E 0 _ 2), Value.int .i64 (wsVal E 0 _ 3)] = _
  rw [b 0 (by omega), b 1 (by omega), b 2 (by omega), b 3 (by omega)]
 rw [e1]
 show Value.tuple #[.agg ([Value.int .i64 (N.getD 0 0 - 1), .int .i64 (N.getD 1 0 - 1), .int .i64 (N.getD 2 0 - 1), .int .i64 (N.getD 3 0 - 1)] ++ [Value.bool (evB E (.eq (.app (540 + 0) (lvA 0)) (.lit 1))), Value.bool (evB E (.eq (.app (540 + 1) (lvA 0)) (.lit 1))), Value.bool (evB E (.eq (.app (540 + 2) (lvA 0)) (.lit 1))), Value.bool (evB E (.eq (.app (540 + 3) (lvA 0)) (.lit 1))), Value.bool (evB E (.eq (.app (540 + 4) (lvA 0)) (.lit 1)))]).toArray, .int .i64 0] = _
 rw [k 0 (by omega), k 1 (by omega), k 2 (by omega), k 3 (by omega), k 4 (by omega)]
 rfl
theorem semGet : SemGet 8 := by
 intro N b o cap w hN h64 hc
 have hl := hN.2.1
 cases hi : imgOf N with
 | some xs =>
  obtain ⟨ha, hx, hL⟩ := imgOf_some hi
  have hr := runG_A
  unfold runG at hr
  split at hr
  case h_2 => cases hr
  rename_i outs hrun
  rw [List.all_eq_true] at hr
  refine (run_G (funL_ok okSpG 8) hrun hN h64 hc (fun E h => cells_self E h hl) (fun E h _ => acc4_ok h hl ha)).mono ?_
  rintro e w' ⟨q, hq, E', h7, hf, rfl, hm⟩
  refine ⟨hm.ext, ?_⟩
  have hq1 := hr q hq
  rw [wrongs_ok hm.know, Bool.false_or] at hq1
  unfold wayA at hq1
  rw [notBad hf hm.know h7 hl hx hL, Bool.or_false, Bool.and_eq_true] at hq1
  have := eqU_ok hm.know hq1.2
  have e1 := getVal_some hi E' hf h7 hl
  unfold dv at e1 ⊢
  rw [this, e1]
 | none =>
  have hr := runG_B
  unfold runG at hr
  split at hr
  case h_2 => cases hr
  rename_i outs hrun
  rw [List.all_eq_true] at hr
  refine (run_G (funL_ok okSpG 8) hrun hN h64 hc (fun E h => cells_self E h hl) (fun _ _ _ _ h => (by cases h))).mono ?_
  rintro e w' ⟨q, hq, E', h7, hf, rfl, hm⟩
  refine ⟨hm.ext, ?_⟩
  have hq1 := hr q hq
  rw [wrongs_ok hm.know, Bool.false_or] at hq1
  unfold wayB at hq1
  cases he : eqU q.2.know q.1 errV with
  | true =>
   have := eqU_ok hm.know he
   have e1 := getVal_none hi E'
   unfold dv at e1 ⊢
   rw [this, e1]
  | false =>
   rw [he, Bool.false_or, Bool.and_eq_true, List.all_eq_true] at hq1
   obtain ⟨xs, hx, hL⟩ := allEq_img hf hm.know h7 hl hq1.1
   have ha : ∀ z ∈ N.take 4, 0 ≤ z ∧ z ≤ 1048576 := (acc_of hl _).2 fun c hc => by
    have := factIn_ok hm.know (hq1.2 c (List.mem_range.2 hc))
    have e : ev E' (balW c) = IntKind.wrap .i64 (N.getD c 0 + -1) := by
     unfold balW
     show IntKind.wrap .i64 (ev E' (.add (.sel 7 (.lit (.ofNat c))) (.lit (-1)))) = _
     rw [ev_add, sel7 E' h7, ev_lit]
    rw [e] at this
    refine wrap_bal (h64 _ ?_) this
    rw [List.getD_eq_getElem?_getD, List.getElem?_eq_getElem (by omega)]
    exact List.getElem_mem _
   rw [imgOf_of ha hx hL] at hi
   cases hi
end Go.Proofs.Ytojpmbkbeoolcaa
