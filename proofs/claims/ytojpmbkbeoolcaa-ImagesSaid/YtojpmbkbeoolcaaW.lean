/- a board's walks, and how a state is laid. -/
import Derived.Test.YtojpmbkbeoolcaaU
namespace Go.Proofs.Ytojpmbkbeoolcaa
open Go.Sx Go
set_option maxRecDepth 100000
noncomputable def lvlL {α : Type} (d : α) (lv : Nat) (L : List α) : List α := [L.getD lv d, L.getD (2 + lv) d, L.getD (4 + lv) d, L.getD (6 + lv) d, L.getD (8 + lv) d, L.getD (10 + lv) d]
theorem walk_cfgs : (cfgs.all fun xs => forceL (linksZ xs) fun L => forceL (lvlL 0 0 L) fun L0 => forceL (lvlL 0 1 L) fun L1 => (List.range 5).all fun j => zEq (walkZ j L0) (xs.getD j 0) && zEq (walkZ j L1) (xs.getD (5 + j) 0)) = true := by kernel_rfl
theorem walk_cfg {xs : List Int} (h : xs ∈ cfgs) {j : Nat} (hj : j < 5) : walkZ j (lvlL 0 0 (linksZ xs)) = xs.getD j 0 ∧ walkZ j (lvlL 0 1 (linksZ xs)) = xs.getD (5 + j) 0 := by
 have := List.all_eq_true.1 walk_cfgs xs h
 rw [forceL_eq, forceL_eq, forceL_eq, List.all_eq_true] at this
 have := this j (List.mem_range.2 hj)
 rw [Bool.and_eq_true] at this
 exact ⟨zEq_ok this.1, zEq_ok this.2⟩
theorem ten_ext {xs ys : List Int} (h1 : xs.length = 10) (h2 : ys.length = 10) (h : ∀ j, j < 5 → xs.getD j 0 = ys.getD j 0 ∧ xs.getD (5 + j) 0 = ys.getD (5 + j) 0) : xs = ys := by
 refine List.ext_getElem (by omega) fun i hi hi' => ?_
 have e : ∀ (l : List Int) (hl : i < l.length), l.getD i 0 = l[i] := fun l hl => by rw [List.getD_eq_getElem?_getD, List.getElem?_eq_getElem hl]; rfl
 rw [← e xs hi, ← e ys hi']
 by_cases h5 : i < 5
 ·exact (h i h5).1
 ·obtain ⟨k, rfl⟩ : ∃ k, i = 5 + k := ⟨i - 5, by omega⟩
  exact (h k (by omega)).2
theorem links_inj {xs ys : List Int} (h1 : xs ∈ cfgs) (h2 : ys ∈ cfgs) (h : linksZ xs = linksZ ys) : xs = ys := by
 refine ten_ext (cfg_len h1) (cfg_len h2) fun j hj => ?_
 obtain ⟨a1, a2⟩ := walk_cfg h1 hj
 obtain ⟨b1, b2⟩ := walk_cfg h2 hj
 rw [h] at a1 a2
 exact ⟨a1.symm.trans b1, a2.symm.trans b2⟩
theorem imgOf_some {N xs : List Int} (h : imgOf N = some xs) : (∀ z ∈ N.take 4, 0 ≤ z ∧ z ≤ 1048576) ∧ xs ∈ cfgs ∧ N.drop 4 = linksZ xs := by
 unfold imgOf at h
 split at h
 ·rename_i ha
  exact ⟨ha, List.mem_of_find?_eq_some h, (eqL_ok (List.find?_some (p := fun xs => eqL (linksZ xs) (N.drop 4)) h)).symm⟩
 ·cases h
theorem eqL_self : ∀ l : List Int, eqL l l = true
 | [] => rfl
 | a :: r => by
  unfold eqL
  rw [eqL_self r, zEq_of]
  simp
theorem imgOf_of {N xs : List Int} (ha : ∀ z ∈ N.take 4, 0 ≤ z ∧ z ≤ 1048576) (hx : xs ∈ cfgs) (hN : N.drop 4 = linksZ xs) : imgOf N = some xs := by
 unfold imgOf
 rw [if_pos ha]
 cases h : cfgs.find? (fun xs => eqL (linksZ xs) (N.drop 4)) with
 | none =>
  have := List.find?_eq_none.1 h xs hx
  rw [hN, eqL_self] at this
  exact absurd rfl this
 | some ys =>
  have e := eqL_ok (List.find?_some (p := fun xs => eqL (linksZ xs) (N.drop 4)) h)
  rw [hN] at e
  rw [links_inj (List.mem_of_find?_eq_some h) hx e]
theorem run_ro {f : Nat} {s : List SV → X SV} (hs : SpecOk G0 Try.prog f s) {args : List SV} {ents : List Ent} {fs : List Fact} {nv : Nat} {outs : List (SV × Mem)} (hrun : s args (slMem ents fs nv) = some outs)
  {E : Env} {w : World} (hgf : E.f = G0) (hE : E.Ok) (hb : E.base 0 = w.heap.size) (ho : E.o 0 = 0) (hents : ∀ e ∈ ents, e.ro = true ∧ EntOk E w e) (hf : ∀ f ∈ fs, FactOk E f) :
  Calls Try.prog f (args.map (dv E)).toArray w fun e w' => ∃ q ∈ outs, ∃ E', Agree nv E E' ∧ e = .returned (dv E' q.1) ∧ MemOk (fun _ => False) w E' q.2 w' := by
 refine (hs _ w E args _ outs w hgf hrun (slMem_ok nv hE hb ho hents hf)).mono ?_
 rintro e w' ⟨q, hq, E', hL, he, hm⟩
 exact ⟨q, hq, E', hL.agree, he, hm⟩
noncomputable def envR (w : World) (N : List Int) (L : Int) (bs : Nat → Bool) (b o : Nat) (cap : Int) : Env := { i := fun j => if j = 49 then cap else if j = 20 then L else 0, b := bs, l := fun r => if r = 7 then N else [], base := fun s => if s = 46 then b else w.heap.size, o := fun s => if s = 46 then o else 0, v := fun _ => .tuple #[], f := G0 }
theorem envR_ok {w : World} {N : List Int} {L : Int} {bs : Nat → Bool} {b o : Nat} {cap : Int} (hN : ∀ z ∈ N, in64 z) (hL : in64 L) (hc : in64 cap) : (envR w N L bs b o cap).Ok := by
 refine ⟨fun j => ?_, fun r z hz => ?_, G0_in⟩
 ·show in64 (if j = 49 then cap else if j = 20 then L else 0)
  split
  ·exact hc
  ·split
   ·exact hL
   ·constructor <;> decide
 ·replace hz : z ∈ (if r = 7 then N else []) := hz
  split at hz
  ·exact hN z hz
  ·cases hz
theorem zero64 : in64 0 := by constructor <;> decide
noncomputable def valS (kn : Know) (e : IE) : Nat → Int → Option Int
 | 0, _ => none
 | n + 1, v => match mkEq kn e (.lit v) with
  | .lit true => some v
  | _ => valS kn e n (v + 1)
theorem valS_ok {E : Env} {kn : Know} (h : KnowOk E kn) {e : IE} : ∀ {n : Nat} {v r : Int}, valS kn e n v = some r → ev E e = r ∧ v ≤ r ∧ r < v + n
 | 0, _, _, hv => by cases hv
 | n + 1, v, r, hv => by
  unfold valS at hv
  split at hv
  ·rename_i hq
   cases hv
   have := mkEq_ok h e (.lit v)
   rw [hq, ev_lit] at this
   exact ⟨of_decide_eq_true this.symm, by omega, by omega⟩
  ·have := valS_ok h hv
   omega
noncomputable def litB : BE → Option Bool | .lit b => some b | _ => none
noncomputable def walkS (kn : Know) (next : IE → IE) : Nat → IE → Int → Option (List Int)
 | 0, _, _ => some []
 | n + 1, e, x => match litB (mkLt kn e (.lit (x + 2))) with
  | some true => some []
  | some false => (match litB (mkLt kn (.lit 5) e) with
   | some true => some []
   | some false => (match valS kn e (3 - x).toNat.succ (x + 2) with
    | some z => (match walkS kn next n (next e) (z - 1) with
     | some l => some ((z - 1) :: l)
     | none => none)
    | none => none)
   | none => none)
  | none => none
theorem litB_ok {c : BE} {b : Bool} (h : litB c = some b) : c = .lit b := by
 unfold litB at h
 split at h
 ·cases h; rfl
 ·cases h
theorem walkS_ok {E : Env} {kn : Know} (h : KnowOk E kn) {next : IE → IE} {L : List Int} (hc : ∀ e z, ev E e = z → 1 ≤ z → z ≤ 5 → ev E (next e) = L.getD z.toNat 0) : ∀ {n : Nat} {e : IE} {x : Int} {l : List Int}, ev E e = L.getD (x + 1).toNat 0 → -1 ≤ x → x ≤ 4 → walkS kn next n e x = some l → walkGo L n x = l
 | 0, _, _, _, _, _, _, hw => by cases hw; rfl
 | n + 1, e, x, l, hx, h1, h4, hw => by
  unfold walkS at hw
  unfold walkGo
  rw [← hx]
  split at hw
  ·rename_i hq
   cases hw
   have := mkLt_ok h e (.lit (x + 2))
   rw [litB_ok hq, ev_lit] at this
   have := of_decide_eq_true this.symm
   rw [if_neg (by omega)]
  ·rename_i hq
   have a1 := mkLt_ok h e (.lit (x + 2))
   rw [litB_ok hq, ev_lit] at a1
   have a1 := of_decide_eq_false a1.symm
   split at hw
   ·rename_i hq2
    cases hw
    have := mkLt_ok h (.lit 5) e
    rw [litB_ok hq2, ev_lit] at this
    have := of_decide_eq_true this.symm
    rw [if_neg (by omega)]
   ·rename_i hq2
    have a2 := mkLt_ok h (.lit 5) e
    rw [litB_ok hq2, ev_lit] at a2
    have a2 := of_decide_eq_false a2.symm
    split at hw
    ·rename_i z hz
     split at hw
     ·rename_i l' hl
      cases hw
      obtain ⟨v1, v2, v3⟩ := valS_ok h hz
      rw [if_pos (by omega), v1, walkS_ok h hc (by rw [hc e z v1 (by omega) (by omega)]; congr 1; omega) (by omega) (by omega) hl]
     ·cases hw
    ·cases hw
   ·cases hw
  ·cases hw
noncomputable def rowB (p : List Int) : SV := .agg (.cons (.bool (.lit (hasZ 0 p))) (.cons (.bool (.lit (hasZ 1 p))) (.cons (.bool (.lit (hasZ 2 p))) (.cons (.bool (.lit (hasZ 3 p))) (.cons (.bool (.lit (hasZ 4 p))) .nil)))))
noncomputable def nextW (lv : Nat) (e : IE) : IE := .sel 7 (.add (.mul e (.lit 2)) (.lit (4 + (lv : Int))))
noncomputable def wayW (lv : Nat) (q : SV × Mem) : Bool := match walkS q.2.know (nextW lv) 6 (.sel 7 (.lit (4 + (lv : Int)))) (-1) with
 | some p => eqU q.2.know q.1 (rowB p)
 | none => false
noncomputable def runW (lv : Nat) : Bool := match fun0 22 [.agg (.cons (.arr .i64 7 (.lit 16) .nil) .nil), .int .i64 (.lit lv)] (slMem [] [] 60) with
 | some outs => outs.all fun q => wrongs q.2.know || wayW lv q
 | none => false
theorem runW0 : runW 0 = true := by kernel_rfl
theorem runW1 : runW 1 = true := by kernel_rfl
noncomputable def walkVal (lv : Nat) (N : List Int) : Value := .agg #[.bool (decide (walkZ 0 (lvlL 0 lv (N.drop 4)) = 1)), .bool (decide (walkZ 1 (lvlL 0 lv (N.drop 4)) = 1)), .bool (decide (walkZ 2 (lvlL 0 lv (N.drop 4)) = 1)), .bool (decide (walkZ 3 (lvlL 0 lv (N.drop 4)) = 1)), .bool (decide (walkZ 4 (lvlL 0 lv (N.drop 4)) = 1))]
theorem walkZ_dec (j : Nat) (L : List Int) : decide (walkZ j L = 1) = hasZ j (walkGo L 6 (-1)) := by
 unfold walkZ
 cases hasZ j (walkGo L 6 (-1)) <;> rfl
theorem lvl_get {N : List Int} (_hl : N.length = 16) (lv : Nat) (hlv : lv ≤ 1) {i : Int} (h0 : 0 ≤ i) (h5 : i ≤ 5) : N.getD (4 + 2 * i + lv).toNat 0 = (lvlL 0 lv (N.drop 4)).getD i.toNat 0 := by
 have e : ∀ c : Nat, (N.drop 4).getD c 0 = N.getD (4 + c) 0 := fun c => by rw [List.getD_eq_getElem?_getD, List.getElem?_drop, ← List.getD_eq_getElem?_getD]
 unfold lvlL
 rw [e, e, e, e, e, e]
 have hi : i = 0 ∨ i = 1 ∨ i = 2 ∨ i = 3 ∨ i = 4 ∨ i = 5 := by omega
 have hv : lv = 0 ∨ lv = 1 := by omega
 rcases hi with rfl | rfl | rfl | rfl | rfl | rfl <;> rcases hv with rfl | rfl <;> rfl
theorem semWalk {lv : Nat} (hlv : lv ≤ 1) (hr : runW lv = true) {N : List Int} {w : World} (hl : N.length = 16) (hN : ∀ z ∈ N, in64 z) :
  Calls Try.prog 22 #[.agg (N.map (Value.int .i64)).toArray, .int .i64 lv] w fun e w' => Ext (fun _ => False) w w' ∧ e = .returned (walkVal lv N) := by
 unfold runW at hr
 split at hr
 case h_2 => cases hr
 rename_i outs hrun
 rw [List.all_eq_true] at hr
 have hE : (envR w N 0 (fun _ => false) 0 0 0).Ok := envR_ok hN zero64 zero64
 have := run_ro (fun0_ok 22) hrun (E := envR w N 0 (fun _ => false) 0 0 0) (w := w) rfl hE rfl rfl (fun _ h => (by cases h)) (fun _ h => (by cases h))
 rw [show (([.agg (.cons (.arr .i64 7 (.lit 16) .nil) .nil), .int .i64 (.lit lv)] : List SV).map (dv (envR w N 0 (fun _ => false) 0 0 0))).toArray = #[.agg (N.map (Value.int .i64)).toArray, .int .i64 lv] by
  show #[Value.agg (arrCells _ .i64 7 16 .nil ++ []).toArray, Value.int .i64 lv] = _
  rw [List.append_nil]
  congr 3
  unfold arrCells
  rw [← range_self hl, List.map_map]
  rfl] at this
 refine this.mono ?_
 rintro e w' ⟨q, hq, E', hA, rfl, hm⟩
 refine ⟨hm.ext, ?_⟩
 have hq1 := hr q hq
 rw [wrongs_ok hm.know, Bool.false_or] at hq1
 unfold wayW at hq1
 split at hq1
 case h_2 => cases hq1
 rename_i p hp
 have hrow : ∀ i : Int, 0 ≤ i → i ≤ 5 → (E'.row 7).getD (4 + 2 * i + lv).toNat 0 = (lvlL 0 lv (N.drop 4)).getD i.toNat 0 := fun i h0 h5 => by
  rw [← lvl_get hl lv hlv h0 h5, row_agree hA (by decide)]
  rfl
 have hgo := walkS_ok hm.know (L := lvlL 0 lv (N.drop 4)) (fun e z hz z1 z5 => by
  show (E'.row 7).getD (ev E' (.add (.mul e (.lit 2)) (.lit (4 + (lv : Int))))).toNat 0 = _
  rw [ev_add, ev_mul, ev_lit, ev_lit, hz, ← hrow z (by omega) (by omega)]
  congr 2
  omega) (by
  show (E'.row 7).getD (ev E' (.lit (4 + (lv : Int)))).toNat 0 = _
  rw [ev_lit]
  have := hrow 0 (by omega) (by omega)
  rw [show (4 + 2 * 0 + (lv : Int)) = 4 + (lv : Int) by omega] at this
  exact this) (by omega) (by omega) hp
 have := eqU_ok hm.know hq1
 unfold dv
 rw [this]
 unfold walkVal
 rw [walkZ_dec, walkZ_dec, walkZ_dec, walkZ_dec, walkZ_dec, hgo]
 rfl
noncomputable def rowA (A : IE) : SV := .agg (.cons (.bool (.eq (.app 540 A) (.lit 1))) (.cons (.bool (.eq (.app 541 A) (.lit 1))) (.cons (.bool (.eq (.app 542 A) (.lit 1))) (.cons (.bool (.eq (.app 543 A) (.lit 1))) (.cons (.bool (.eq (.app 544 A) (.lit 1))) .nil)))))
noncomputable def factsW (A : IE) : List Fact := [(.app 540 A, 0, 1), (.app 541 A, 0, 1), (.app 542 A, 0, 1), (.app 543 A, 0, 1), (.app 544 A, 0, 1)]
noncomputable def walkX : List SV → X SV := pureX fun args m => match args with
 | [.agg c, .int kd (.lit (.ofNat lv))] => match flatI c with
  | some l => cond (Nat.beq (kindNo kd) (kindNo .i64) && (Nat.beq l.length 16 && (Nat.ble lv 1 && l.all (in64S m.know)))) (some (rowA (mkArgs (lvlL (.lit 0) lv (l.drop 4))), factsW (mkArgs (lvlL (.lit 0) lv (l.drop 4))))) none
  | none => none
 | _ => none
theorem ev_lvl (E : Env) (lv : Nat) (l : List IE) : (lvlL (.lit 0) lv l).map (ev E) = lvlL 0 lv (l.map (ev E)) := by
 have e : ∀ c : Nat, ev E (l.getD c (.lit 0)) = (l.map (ev E)).getD c 0 := fun c => by
  rw [List.getD_eq_getElem?_getD, List.getD_eq_getElem?_getD, List.getElem?_map]
  cases l[c]? <;> rfl
 unfold lvlL
 simp only [List.map_cons, List.map_nil, e]
theorem G0_walk {j : Nat} (hj : j < 5) (L : List Int) : G0 (540 + j) L = walkZ j L := by
 unfold G0
 rw [if_neg (by omega), if_neg (by omega), if_neg (by omega), if_neg (by omega), if_neg (by omega), if_neg (by omega), if_neg (by omega), if_neg (by omega), if_pos (by omega), Nat.add_sub_cancel_left]
theorem walkX_ok : SpecOk G0 Try.prog 22 walkX := pureX_ok fun F w0 E args m w v fs hgf hm hf => by
 split at hf
 case h_2 => cases hf
 rename_i c kd lv
 split at hf
 case h_2 => cases hf
 rename_i l hl
 cases hc : (Nat.beq (kindNo kd) (kindNo .i64) && (Nat.beq l.length 16 && (Nat.ble lv 1 && l.all (in64S m.know)))) with
 | false => rw [hc] at hf; cases hf
 | true =>
 rw [hc] at hf
 cases hf
 simp only [Bool.and_eq_true] at hc
 obtain ⟨c1, c2, c3, c4⟩ := hc
 rw [List.all_eq_true] at c4
 have c1 := kindNo_eq c1
 subst c1
 have c2 := Nat.eq_of_beq_eq_true c2
 have c3 := Nat.le_of_ble_eq_true c3
 have hw : ∀ j, j < 5 → ev E (.app (540 + j) (mkArgs (lvlL (.lit 0) lv (l.drop 4)))) = walkZ j (lvlL 0 lv ((l.map (ev E)).drop 4)) := fun j hj => by
  rw [ev_app, mkArgs_ev, ev_lvl, hgf, G0_walk hj, List.map_drop]
 have hd : ∀ j, j < 5 → evB E (.eq (.app (540 + j) (mkArgs (lvlL (.lit 0) lv (l.drop 4)))) (.lit 1)) = decide (walkZ j (lvlL 0 lv ((l.map (ev E)).drop 4)) = 1) := fun j hj => by
  rw [← hw j hj]
  rfl
 refine ⟨?_, fun y hy => ?_⟩
 ·have hN : ∀ z ∈ l.map (ev E), in64 z := fun z hz => by
   obtain ⟨e, he, rfl⟩ := List.mem_map.1 hz
   exact in64S_ok hm.know (c4 e he)
  have := semWalk (lv := lv) (by omega) (by
   rcases (by omega : lv = 0 ∨ lv = 1) with rfl | rfl
   ·exact runW0
   ·exact runW1) (N := l.map (ev E)) (w := w) (by rw [List.length_map, c2]) hN
  rw [show (([.agg c, .int .i64 (.lit (.ofNat lv))] : List SV).map (dv E)).toArray = #[.agg ((l.map (ev E)).map (Value.int .i64)).toArray, .int .i64 lv] by
   show #[Value.agg (dl E c).toArray, Value.int .i64 lv] = _
   rw [flatI_ok E hl, List.map_map]
   rfl]
  refine this.mono ?_
  rintro e w' ⟨h1, rfl⟩
  refine ⟨h1, congrArg Ending.returned ?_⟩
  unfold walkVal
  rw [← hd 0 (by omega), ← hd 1 (by omega), ← hd 2 (by omega), ← hd 3 (by omega), ← hd 4 (by omega)]
  rfl
 ·unfold factsW at hy
  have r : ∀ j, j < 5 → 0 ≤ ev E (.app (540 + j) (mkArgs (lvlL (.lit 0) lv (l.drop 4)))) ∧ ev E (.app (540 + j) (mkArgs (lvlL (.lit 0) lv (l.drop 4)))) ≤ 1 := fun j hj => by
   rw [hw j hj]
   unfold walkZ
   split <;> omega
  simp only [List.mem_cons, List.not_mem_nil, or_false] at hy
  rcases hy with rfl | rfl | rfl | rfl | rfl
  ·exact r 0 (by omega)
  ·exact r 1 (by omega)
  ·exact r 2 (by omega)
  ·exact r 3 (by omega)
  ·exact r 4 (by omega)
end Go.Proofs.Ytojpmbkbeoolcaa
