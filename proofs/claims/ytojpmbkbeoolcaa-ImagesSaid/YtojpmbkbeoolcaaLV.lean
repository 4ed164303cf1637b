/- the same cells? by the bits that tell them. -/
import Derived.Test.YtojpmbkbeoolcaaZ
import Derived.Test.YtojpmbkbeoolcaaAW
namespace Go.Proofs.Ytojpmbkbeoolcaa
open Go.Sx Go
set_option maxRecDepth 100000
noncomputable def ieAll : List IE → List IE → Bool
 | [], [] => true
 | a :: r, b :: s => ieEq a b && ieAll r s
 | _, _ => false
theorem ieAll_ok (E : Env) : ∀ {l m : List IE}, ieAll l m = true → l.map (ev E) = m.map (ev E)
 | [], [], _ => rfl
 | a :: r, b :: s, h => by
  unfold ieAll at h
  rw [Bool.and_eq_true] at h
  rw [List.map_cons, List.map_cons, ieEq_ok h.1, ieAll_ok E h.2]
noncomputable def knowB (kn : Know) : IE → Option Bool
 | .bv j => if hasB (.var j) kn.conds then some true else if hasB (.not (.var j)) kn.conds then some false else none
 | .lit z => some (zEq z 1)
 | e => litB (mkEq kn e (.lit 1))
noncomputable def knowL (kn : Know) : List IE → Option (List Bool)
 | [] => some []
 | e :: r => match knowB kn e, knowL kn r with
  | some b, some l => some (b :: l)
  | _, _ => none
noncomputable def mask (bs : List Bool) : Int := b2i (bs.getD 0 false) + 2 * b2i (bs.getD 1 false) + 4 * b2i (bs.getD 2 false) + 8 * b2i (bs.getD 3 false) + 16 * b2i (bs.getD 4 false)
noncomputable def lowOf : IE → Option IE
 | .bit _ _ (.shr (.bit _ _ a (.lit _)) _) _ => some a
 | _ => none
noncomputable def and31 (a : IE) : IE := .bit .and .i64 a (.lit 31)
noncomputable def hiAll (a : IE) (l : List IE) : Bool := ieAll l [hiE (and31 a) 0, hiE (and31 a) 1, hiE (and31 a) 2, hiE (and31 a) 3, hiE (and31 a) 4]
noncomputable def sameL (kn : Know) (l1 l2 : List IE) : Option BE := cond (ieAll l1 l2) (some (.lit true)) (cond (ieAll (l1.take 4) (l2.take 4)) (match bitsOf (l1.drop 4), bitsOf (l2.drop 4) with
 | some b1, some b2 => cond (Nat.beq b1.length 10 && (Nat.beq b2.length 10 && (ieAll (b1.take 5) (b2.take 5) && (b1.take 5).all fun e => factIn kn e 0 1))) (match knowL kn (b1.take 5), lowOf (b1.getD 5 (.lit 0)), lowOf (b2.getD 5 (.lit 0)) with
  | some es, some a, some b => cond (hiAll a (b1.drop 5) && hiAll b (b2.drop 5)) (some (mkEq kn (.bit .and .i64 a (.lit (mask es))) (.bit .and .i64 b (.lit (mask es))))) none
  | _, _, _ => none) none
 | _, _ => none) none)
noncomputable def sameX : List SV → X SV := pureX fun args m => match args with
 | [v1, v2] => match getArgs m v1, getArgs m v2 with
  | some l1, some l2 => cond (l1.all (in64S m.know) && l2.all (in64S m.know)) (match sameL m.know l1 l2 with
   | some c => some (.bool c, [])
   | none => none) none
  | _, _ => none
 | _ => none
def SemSame (f : Nat) : Prop := ∀ (N M : List Int) (b o cap b' o' cap' : Nat) (w : World), Row16 w b o N → Row16 w b' o' M → (∀ z ∈ N, in64 z) → (∀ z ∈ M, in64 z) → (cap : Int) ≤ hi64 → (cap' : Int) ≤ hi64 →
 Calls Try.prog f #[.slice (some ⟨b, o, none⟩) 16 cap, .slice (some ⟨b', o', none⟩) 16 cap'] w fun e w' => Ext (fun _ => False) w w' ∧ e = .returned (.bool (decide (N = M)))
noncomputable def entS : Ent := ⟨56, 0, true, 3, .lit 0, .cons (.arr .i64 8 (.lit 16) .nil) .nil⟩
noncomputable def argS : SV := .sli 56 0 (.lit 0) (.lit 16) (.var 59)
noncomputable def pairS (kn : Know) (c : Nat) : Option Bool := litB (mkEq kn (.sel 7 (.lit (.ofNat c))) (.sel 8 (.lit (.ofNat c))))
noncomputable def isY : Option Bool → Bool | some b => b | none => false
noncomputable def isN : Option Bool → Bool | some b => !b | none => false
noncomputable def wayS (q : SV × Mem) : Bool := (eqU q.2.know q.1 (.bool (.lit true)) && (List.range 16).all fun c => isY (pairS q.2.know c)) || (eqU q.2.know q.1 (.bool (.lit false)) && (List.range 16).any fun c => isN (pairS q.2.know c))
noncomputable def runS : Bool := match fun0 13 [argG, argS] (slMem [entG .nil, entS] [(.var 49, 0, hi64), (.var 59, 0, hi64)] 60) with
 | some outs => outs.all fun q => wrongs q.2.know || wayS q
 | none => false
theorem runS_true : runS = true := by kernel_rfl
noncomputable def envS (w : World) (N M : List Int) (b o b' o' : Nat) (cap cap' : Int) : Env := { i := fun j => if j = 49 then cap else if j = 59 then cap' else 0, b := fun _ => false, l := fun r => if r = 7 then N else if r = 8 then M else [], base := fun s => if s = 46 then b else if s = 56 then b' else w.heap.size, o := fun s => if s = 46 then o else if s = 56 then o' else 0, v := fun _ => .tuple #[], f := G0 }
theorem row_ent {w : World} {b o : Nat} {N : List Int} (hN : Row16 w b o N) {E : Env} {s r : Nat} (hb : E.base s = b) (ho : E.o s = o) (hr : E.row r = N) : EntOk E w ⟨s, 0, true, 3, .lit 0, .cons (.arr .i64 r (.lit 16) .nil) .nil⟩ := by
 obtain ⟨n1, n2, n3⟩ := hN
 refine ⟨by show E.base s + 0 < _; rw [hb]; exact n1, fun _ j v hv => ?_, fun h => (by cases h), fun _ x h => (by cases h)⟩
 have hd : dl E (.cons (.arr .i64 r (.lit 16) .nil) .nil) = N.map (Value.int .i64) := by
  show arrCells E .i64 r (ev E (.lit 16)).toNat .nil ++ [] = _
  rw [List.append_nil]
  unfold arrCells
  rw [ev_lit, ← range_self n2, List.map_map]
  refine List.map_congr_left fun j _ => ?_
  show Value.int .i64 ((E.row r).getD j 0) = _
  rw [hr]
  rfl
 replace hv : (dl E (.cons (.arr .i64 r (.lit 16) .nil) .nil))[j]? = some v := hv
 rw [hd, List.getElem?_map] at hv
 have hj : j < 16 := by
  rcases Nat.lt_or_ge j 16 with h | h
  ·exact h
  ·rw [List.getElem?_eq_none (by omega)] at hv
   cases hv
 have := n3 j hj
 rw [List.getD_eq_getElem?_getD] at this
 rw [List.getElem?_eq_getElem (by omega)] at this hv
 cases hv
 show w.cell? ⟨E.base s + 0, E.o s + ((ev E (.lit 0)).toNat + j), none⟩ = _
 rw [ev_lit, hb, ho, show b + 0 = b from rfl, show ((0 : Int).toNat + j) = j by simp]
 exact this
theorem rows_eq {N M : List Int} (h1 : N.length = 16) (h2 : M.length = 16) : N = M ↔ ∀ c, c < 16 → N.getD c 0 = M.getD c 0 := by
 constructor
 ·rintro rfl c _
  rfl
 ·intro h
  rw [← range_self h1, ← range_self h2]
  exact List.map_congr_left fun c hc => h c (List.mem_range.1 hc)
theorem semSame : SemSame 13 := by
 intro N M b o cap b' o' cap' w hN hM h64 g64 hc hc'
 have hr := runS_true
 unfold runS at hr
 split at hr
 case h_2 => cases hr
 rename_i outs hrun
 rw [List.all_eq_true] at hr
 let E := envS w N M b o b' o' cap cap'
 have hE : E.Ok := by
  refine ⟨fun j => ?_, fun r z hz => ?_, G0_in⟩
  ·show in64 (if j = 49 then (cap : Int) else if j = 59 then (cap' : Int) else 0)
   split
   ·unfold in64 lo64; constructor <;> omega
   ·split
    ·unfold in64 lo64; constructor <;> omega
    ·exact zero64
  ·replace hz : z ∈ (if r = 7 then N else if r = 8 then M else []) := hz
   split at hz
   ·exact h64 z hz
   ·split at hz
    ·exact g64 z hz
    ·cases hz
 refine (run_ro (fun0_ok 13) hrun (E := E) (w := w) rfl hE rfl rfl (fun e he => by
  rcases List.mem_cons.1 he with rfl | he
  ·exact ⟨rfl, row_ent hN rfl rfl rfl⟩
  ·rcases List.mem_singleton.1 he with rfl
   exact ⟨rfl, row_ent hM rfl rfl rfl⟩) (fun f hf => by
  simp only [List.mem_cons, List.not_mem_nil, or_false] at hf
  rcases hf with rfl | rfl
  ·show (0 : Int) ≤ cap ∧ (cap : Int) ≤ hi64
   omega
  ·show (0 : Int) ≤ cap' ∧ (cap' : Int) ≤ hi64
   omega)).mono ?_
 rintro e w' ⟨q, hq, E', hA, rfl, hm⟩
 refine ⟨hm.ext, congrArg Ending.returned ?_⟩
 have hq1 := hr q hq
 rw [wrongs_ok hm.know, Bool.false_or] at hq1
 have h7 : E'.row 7 = N := row_agree hA (by decide)
 have h8 : E'.row 8 = M := row_agree hA (by decide)
 have hp : ∀ c y, pairS q.2.know c = some y → y = decide (N.getD c 0 = M.getD c 0) := fun c y hy => by
  have := mkEq_ok hm.know (.sel 7 (.lit (.ofNat c))) (.sel 8 (.lit (.ofNat c)))
  rw [litB_ok hy, ev_sel, ev_sel, ev_lit, h7, h8] at this
  exact this
 unfold wayS at hq1
 rw [Bool.or_eq_true, Bool.and_eq_true, Bool.and_eq_true] at hq1
 rcases hq1 with ⟨v, hall⟩ | ⟨v, hany⟩
 ·rw [List.all_eq_true] at hall
  have : N = M := (rows_eq hN.2.1 hM.2.1).2 fun c hc => by
   have := hall c (List.mem_range.2 hc)
   cases hy : pairS q.2.know c with
   | none => rw [hy] at this; cases this
   | some y =>
    rw [hy] at this
    have e := hp c y hy
    rw [show y = true from this] at e
    exact of_decide_eq_true e.symm
  unfold dv
  rw [eqU_ok hm.know v, decide_eq_true this]
  rfl
 ·rw [List.any_eq_true] at hany
  obtain ⟨c, hc, hn⟩ := hany
  have hc := List.mem_range.1 hc
  have : N ≠ M := fun e => by
   cases hy : pairS q.2.know c with
   | none => rw [hy] at hn; cases hn
   | some y =>
    rw [hy] at hn
    have e2 := hp c y hy
    rw [e] at e2
    rw [decide_eq_true rfl] at e2
    rw [e2] at hn
    cases hn
  unfold dv
  rw [eqU_ok hm.know v, decide_eq_false this]
  rfl
noncomputable def bools5 : List (List Bool) := [false, true].flatMap fun a => [false, true].flatMap fun b => [false, true].flatMap fun c => [false, true].flatMap fun d => [false, true].map fun e => [a, b, c, d, e]
noncomputable def xbit (e : Bool) (p : Int) (j : Nat) : Int := if b2i e = 1 then hbit p j else 0
noncomputable def sum5 (p : Int) (es : List Bool) : Int := xbit (es.getD 0 false) p 0 + 2 * xbit (es.getD 1 false) p 1 + 4 * xbit (es.getD 2 false) p 2 + 8 * xbit (es.getD 3 false) p 3 + 16 * xbit (es.getD 4 false) p 4
theorem mask_all : ((List.range 32).all fun p => bools5.all fun es => zEq (bitI .and .i64 (.ofNat p) (mask es)) (sum5 (.ofNat p) es)) = true := by kernel_rfl
theorem mem_bools5 (a b c d e : Bool) : [a, b, c, d, e] ∈ bools5 := by
 cases a <;> cases b <;> cases c <;> cases d <;> cases e <;> decide
theorem mask_31 (a b c d e : Bool) : BitVec.ofInt 64 31 &&& BitVec.ofInt 64 (mask [a, b, c, d, e]) = BitVec.ofInt 64 (mask [a, b, c, d, e]) := by
 cases a <;> cases b <;> cases c <;> cases d <;> cases e <;> rfl
theorem and_mask (x : Int) (a b c d e : Bool) : bitI .and .i64 x (mask [a, b, c, d, e]) = sum5 (bitI .and .i64 x 31) [a, b, c, d, e] := by
 have hp := and_in .i64 x 31 (by decide) (by decide)
 have e31 : bitI .and .i64 x 31 = ((BitVec.ofInt 64 x &&& BitVec.ofInt 64 31).toNat : Int) := by
  show IntKind.wrap .i64 ((BitVec.ofInt 64 x &&& BitVec.ofInt 64 31).toNat : Int) = _
  have hle : (BitVec.ofInt 64 x &&& BitVec.ofInt 64 31).toNat ≤ 31 := by
   rw [BitVec.toNat_and]
   exact Nat.and_le_right
  refine wrap_id (by show lo64 ≤ _; unfold lo64; omega) (by show _ ≤ hi64; unfold hi64; omega)
 have e2 : bitI .and .i64 (bitI .and .i64 x 31) (mask [a, b, c, d, e]) = bitI .and .i64 x (mask [a, b, c, d, e]) := by
  rw [e31]
  show IntKind.wrap .i64 ((BitVec.ofInt 64 ((BitVec.ofInt 64 x &&& BitVec.ofInt 64 31).toNat : Int) &&& BitVec.ofInt 64 (mask [a, b, c, d, e])).toNat : Int) = IntKind.wrap .i64 ((BitVec.ofInt 64 x &&& BitVec.ofInt 64 (mask [a, b, c, d, e])).toNat : Int)
  rw [BitVec.ofInt_natCast, BitVec.ofNat_toNat, BitVec.setWidth_eq, BitVec.and_assoc, mask_31]
 rw [← e2]
 generalize bitI .and .i64 x 31 = p at hp
 obtain ⟨n, rfl⟩ : ∃ n : Nat, p = .ofNat n := ⟨p.toNat, by show p = (p.toNat : Int); omega⟩
 have hn : n < 32 := by
  have : ((n : Nat) : Int) ≤ 31 := hp.2
  omega
 exact zEq_ok (List.all_eq_true.1 (List.all_eq_true.1 mask_all n (List.mem_range.2 hn)) _ (mem_bools5 a b c d e))
theorem xbit_in (e : Bool) (p : Int) (j : Nat) : 0 ≤ xbit e p j ∧ xbit e p j ≤ 1 := by
 unfold xbit
 split
 ·exact hbit_in p j
 ·omega
theorem nrm_x (e0 e1 e2 e3 e4 : Bool) (p : Int) : nrm [b2i e0, b2i e1, b2i e2, b2i e3, b2i e4, hbit p 0, hbit p 1, hbit p 2, hbit p 3, hbit p 4] = [b2i e0, b2i e1, b2i e2, b2i e3, b2i e4, xbit e0 p 0, xbit e1 p 1, xbit e2 p 2, xbit e3 p 3, xbit e4 p 4] := rfl
theorem nrm_hb (e0 e1 e2 e3 e4 : Bool) (p : Int) : nrm [b2i e0, b2i e1, b2i e2, b2i e3, b2i e4, hbit p 0, hbit p 1, hbit p 2, hbit p 3, hbit p 4] ∈ cfgs := nrm_mem (fun z hz => by
  simp only [List.mem_cons, List.not_mem_nil, or_false] at hz
  rcases hz with rfl | rfl | rfl | rfl | rfl <;> exact b2i_bit _) (fun z hz => by
  simp only [List.mem_cons, List.not_mem_nil, or_false] at hz
  rcases hz with rfl | rfl | rfl | rfl | rfl <;> exact hbit_bit _ _)
theorem links_mask (x y : Int) (e0 e1 e2 e3 e4 : Bool) :
  (linksZ (nrm [b2i e0, b2i e1, b2i e2, b2i e3, b2i e4, hbit (bitI .and .i64 x 31) 0, hbit (bitI .and .i64 x 31) 1, hbit (bitI .and .i64 x 31) 2, hbit (bitI .and .i64 x 31) 3, hbit (bitI .and .i64 x 31) 4]) = linksZ (nrm [b2i e0, b2i e1, b2i e2, b2i e3, b2i e4, hbit (bitI .and .i64 y 31) 0, hbit (bitI .and .i64 y 31) 1, hbit (bitI .and .i64 y 31) 2, hbit (bitI .and .i64 y 31) 3, hbit (bitI .and .i64 y 31) 4])) ↔
  bitI .and .i64 x (mask [e0, e1, e2, e3, e4]) = bitI .and .i64 y (mask [e0, e1, e2, e3, e4]) := by
 rw [and_mask, and_mask]
 generalize bitI .and .i64 x 31 = p
 generalize bitI .and .i64 y 31 = q
 constructor
 ·intro h
  have := links_inj (nrm_hb _ _ _ _ _ _) (nrm_hb _ _ _ _ _ _) h
  rw [nrm_x, nrm_x] at this
  simp only [List.cons.injEq, and_true, true_and] at this
  obtain ⟨h0, h1, h2, h3, h4⟩ := this
  show xbit e0 p 0 + 2 * xbit e1 p 1 + 4 * xbit e2 p 2 + 8 * xbit e3 p 3 + 16 * xbit e4 p 4 = xbit e0 q 0 + 2 * xbit e1 q 1 + 4 * xbit e2 q 2 + 8 * xbit e3 q 3 + 16 * xbit e4 q 4
  rw [h0, h1, h2, h3, h4]
 ·intro h
  have h : xbit e0 p 0 + 2 * xbit e1 p 1 + 4 * xbit e2 p 2 + 8 * xbit e3 p 3 + 16 * xbit e4 p 4 = xbit e0 q 0 + 2 * xbit e1 q 1 + 4 * xbit e2 q 2 + 8 * xbit e3 q 3 + 16 * xbit e4 q 4 := h
  have a0 := xbit_in e0 p 0
  have a1 := xbit_in e1 p 1
  have a2 := xbit_in e2 p 2
  have a3 := xbit_in e3 p 3
  have a4 := xbit_in e4 p 4
  have b0 := xbit_in e0 q 0
  have b1 := xbit_in e1 q 1
  have b2 := xbit_in e2 q 2
  have b3 := xbit_in e3 q 3
  have b4 := xbit_in e4 q 4
  rw [nrm_x, nrm_x, show xbit e0 p 0 = xbit e0 q 0 by omega, show xbit e1 p 1 = xbit e1 q 1 by omega, show xbit e2 p 2 = xbit e2 q 2 by omega, show xbit e3 p 3 = xbit e3 q 3 by omega, show xbit e4 p 4 = xbit e4 q 4 by omega]
theorem knowB_ok {E : Env} {kn : Know} (hk : KnowOk E kn) {e : IE} {b : Bool} (h : knowB kn e = some b) : b = decide (ev E e = 1) := by
 unfold knowB at h
 split at h
 ·rename_i j
  split at h
  ·rename_i hb
   cases h
   have := hk.conds _ (hasB_ok hb)
   have : E.b j = true := this
   rw [ev_bv, this]
   rfl
  ·split at h
   ·rename_i hb
    cases h
    have := hk.conds _ (hasB_ok hb)
    have : (!E.b j) = true := this
    rw [ev_bv]
    cases hq : E.b j with
    | true => rw [hq] at this; cases this
    | false => rfl
   ·cases h
 ·rename_i z
  cases h
  rw [zEq_of]
  rfl
 ·have := mkEq_ok hk e (.lit 1)
  rw [litB_ok h, ev_lit] at this
  exact this
theorem knowL_ok {E : Env} {kn : Know} (hk : KnowOk E kn) : ∀ {l : List IE} {bs : List Bool}, (∀ e ∈ l, Bit (ev E e)) → knowL kn l = some bs → l.map (ev E) = bs.map b2i
 | [], bs, _, h => by cases h; rfl
 | e :: r, bs, hb, h => by
  unfold knowL at h
  split at h
  ·rename_i b l h1 h2
   cases h
   rw [List.map_cons, List.map_cons, knowL_ok hk (fun e he => hb e (List.mem_cons_of_mem _ he)) h2]
   congr 1
   rw [knowB_ok hk h1]
   rcases hb e List.mem_cons_self with h | h <;> rw [h] <;> rfl
  ·cases h
theorem ev_and31 (E : Env) (a : IE) : ev E (and31 a) = bitI .and .i64 (ev E a) 31 := by
 unfold and31
 rw [ev_bit, ev_lit]
theorem hiAll_ok (E : Env) {a : IE} {l : List IE} (h : hiAll a l = true) : l.map (ev E) = [hbit (bitI .and .i64 (ev E a) 31) 0, hbit (bitI .and .i64 (ev E a) 31) 1, hbit (bitI .and .i64 (ev E a) 31) 2, hbit (bitI .and .i64 (ev E a) 31) 3, hbit (bitI .and .i64 (ev E a) 31) 4] := by
 unfold hiAll at h
 rw [ieAll_ok E h]
 show [ev E (hiE (and31 a) 0), ev E (hiE (and31 a) 1), ev E (hiE (and31 a) 2), ev E (hiE (and31 a) 3), ev E (hiE (and31 a) 4)] = _
 rw [ev_hi, ev_hi, ev_hi, ev_hi, ev_hi, ev_and31]
theorem split4 {α : Type} (l m : List α) (h : l.take 4 = m.take 4) : l = m ↔ l.drop 4 = m.drop 4 := by
 constructor
 ·rintro rfl
  rfl
 ·intro h2
  rw [← List.take_append_drop 4 l, ← List.take_append_drop 4 m, h, h2]
theorem sameL_ok {E : Env} {kn : Know} (hE : E.f = G0) (hk : KnowOk E kn) {l1 l2 : List IE} {c : BE} (n1 : l1.length = 16) (n2 : l2.length = 16) (h : sameL kn l1 l2 = some c) : evB E c = decide (l1.map (ev E) = l2.map (ev E)) := by
 unfold sameL at h
 cases h1 : ieAll l1 l2 with
 | true =>
  rw [h1] at h
  cases h
  rw [decide_eq_true (ieAll_ok E h1)]
  rfl
 | false =>
 rw [h1] at h
 dsimp only [cond] at h
 cases h2 : ieAll (l1.take 4) (l2.take 4) with
 | false => rw [h2] at h; cases h
 | true =>
 rw [h2] at h
 dsimp only [cond] at h
 split at h
 case h_2 => cases h
 rename_i b1 b2 hb1 hb2
 cases h3 : (Nat.beq b1.length 10 && (Nat.beq b2.length 10 && (ieAll (b1.take 5) (b2.take 5) && (b1.take 5).all fun e => factIn kn e 0 1))) with
 | false => rw [h3] at h; cases h
 | true =>
 rw [h3] at h
 dsimp only [cond] at h
 split at h
 case h_2 => cases h
 rename_i es a b hes ha hb
 cases h4 : (hiAll a (b1.drop 5) && hiAll b (b2.drop 5)) with
 | false => rw [h4] at h; cases h
 | true =>
 rw [h4] at h
 cases h
 simp only [Bool.and_eq_true, List.all_eq_true] at h3 h4
 obtain ⟨m1, m2, m3, m4⟩ := h3
 obtain ⟨a1, a2⟩ := h4
 have m1 := Nat.eq_of_beq_eq_true m1
 have e1 := bitsOf_ok hE (len16 n1).2 hb1
 have e2 := bitsOf_ok hE (len16 n2).2 hb2
 have hes := knowL_ok hk (fun e he => by
  have := factIn_ok hk (m4 e he)
  rcases (by omega : ev E e = 0 ∨ ev E e = 1) with h | h
  ·exact .inl h
  ·exact .inr h) hes
 have les : es.length = 5 := by
  have := congrArg List.length hes
  rw [List.length_map, List.length_map, List.length_take] at this
  omega
 obtain ⟨g0, g1, g2, g3, g4, rfl⟩ := len5 les
 have f1 : b1.map (ev E) = [b2i g0, b2i g1, b2i g2, b2i g3, b2i g4] ++ [hbit (bitI .and .i64 (ev E a) 31) 0, hbit (bitI .and .i64 (ev E a) 31) 1, hbit (bitI .and .i64 (ev E a) 31) 2, hbit (bitI .and .i64 (ev E a) 31) 3, hbit (bitI .and .i64 (ev E a) 31) 4] := by
  rw [← hiAll_ok E a1, show [b2i g0, b2i g1, b2i g2, b2i g3, b2i g4] = [g0, g1, g2, g3, g4].map b2i from rfl, ← hes, ← List.map_append, List.take_append_drop]
 have f2 : b2.map (ev E) = [b2i g0, b2i g1, b2i g2, b2i g3, b2i g4] ++ [hbit (bitI .and .i64 (ev E b) 31) 0, hbit (bitI .and .i64 (ev E b) 31) 1, hbit (bitI .and .i64 (ev E b) 31) 2, hbit (bitI .and .i64 (ev E b) 31) 3, hbit (bitI .and .i64 (ev E b) 31) 4] := by
  rw [← hiAll_ok E a2, show [b2i g0, b2i g1, b2i g2, b2i g3, b2i g4] = [g0, g1, g2, g3, g4].map b2i from rfl, ← hes, ieAll_ok E m3, ← List.map_append, List.take_append_drop]
 rw [mkEq_ok hk, ev_bit, ev_bit, ev_lit]
 refine decide_eq_decide.2 ?_
 rw [split4 _ _ (by rw [← List.map_take, ← List.map_take, ieAll_ok E h2]), ← List.map_drop, ← List.map_drop, e1, e2, f1, f2]
 exact (links_mask (ev E a) (ev E b) g0 g1 g2 g3 g4).symm
theorem sameX_ok {f : Nat} (sem : SemSame f) : SpecOk G0 Try.prog f sameX := pureX_ok fun F w0 E args m w v fs hgf hm hf => by
 split at hf
 case h_2 => cases hf
 rename_i v1 v2
 split at hf
 case h_2 => cases hf
 rename_i l1 l2 hl1 hl2
 cases hc : (l1.all (in64S m.know) && l2.all (in64S m.know)) with
 | false => rw [hc] at hf; cases hf
 | true =>
 rw [hc] at hf
 dsimp only [cond] at hf
 split at hf
 case h_2 => cases hf
 rename_i c hsame
 cases hf
 simp only [Bool.and_eq_true, List.all_eq_true] at hc
 obtain ⟨n1, b, o, cap, d1, c1, r1⟩ := getArgs_ok hm hl1
 obtain ⟨n2, b', o', cap', d2, c2, r2⟩ := getArgs_ok hm hl2
 have := sem _ _ b o cap b' o' cap' w r1 r2 (fun z hz => by
  obtain ⟨e, he, rfl⟩ := List.mem_map.1 hz
  exact in64S_ok hm.know (hc.1 e he)) (fun z hz => by
  obtain ⟨e, he, rfl⟩ := List.mem_map.1 hz
  exact in64S_ok hm.know (hc.2 e he)) c1 c2
 refine ⟨?_, fun _ h => (by cases h)⟩
 rw [show (([v1, v2] : List SV).map (dv E)).toArray = #[.slice (some ⟨b, o, none⟩) 16 cap, .slice (some ⟨b', o', none⟩) 16 cap'] by
  show #[dv E v1, dv E v2] = _
  rw [d1, d2]]
 refine this.mono ?_
 rintro e w' ⟨h1, rfl⟩
 refine ⟨h1, congrArg Ending.returned ?_⟩
 show _ = Value.bool (evB E c)
 rw [sameL_ok hgf hm.know n1 n2 hsame]
end Go.Proofs.Ytojpmbkbeoolcaa
