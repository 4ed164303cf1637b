/- an operation upon any state that may be: the program's, and the reference's, by their runs. -/
import Derived.Test.YtojpmbkbeoolcaaA
import Derived.Test.YtojpmbkbeoolcaaE5
namespace Go.Proofs.Ytojpmbkbeoolcaa
open Go.Sx Go
set_option maxRecDepth 100000
noncomputable def opX (k a b : Int) : SV := .agg (.cons (.int .i64 (.lit k)) (.cons (.int .i64 (.lit a)) (.cons (.int .i64 (.lit b)) (.cons (.int .i64 (.var 9)) .nil))))
noncomputable def memM (k : Int) (fs : List Fact) : Mem := { know := ⟨fs ++ ((.var 9, 0, limX k) :: rngB 1), []⟩, heap := [], seg := 0, next := 0, nv := 41 }
noncomputable def unB : Nat → SV → Option (List BE × SV)
 | 0, r => some ([], r)
 | n + 1, .cons (.bool b) r => match unB n r with
  | some (l, q) => some (b :: l, q)
  | none => none
 | _, _ => none
theorem unB_ok (E : Env) : ∀ {n : Nat} {v : SV} {l : List BE} {q : SV}, unB n v = some (l, q) → l.length = n ∧ dl E v = l.map (fun b => Value.bool (evB E b)) ++ dl E q
 | 0, v, l, q, h => by cases h; exact ⟨rfl, rfl⟩
 | n + 1, v, l, q, h => by
  unfold unB at h
  split at h
  ·rename_i hz; omega
  ·rename_i n' b r hn
   cases hn
   split at h
   ·rename_i l' q' h'
    cases h
    obtain ⟨h1, h2⟩ := unB_ok E h'
    refine ⟨by rw [List.length_cons, h1], ?_⟩
    show [Value.bool (evB E b)] ++ dl E r = _
    rw [h2]; rfl
   ·cases h
  ·cases h
noncomputable def litAll (r : Nat) (ws : SV) : Nat → Nat → Option (List IE)
 | _, 0 => some []
 | c, n + 1 => match litWk r c ws, litAll r ws (c + 1) n with
  | some e, some l => some (e :: l)
  | _, _ => none
theorem litAll_ok (E : Env) {r : Nat} {ws : SV} : ∀ {n c : Nat} {l : List IE}, litAll r ws c n = some l → l.map (ev E) = (List.range n).map fun j => wsVal E r ws (c + j)
 | 0, c, l, h => by cases h; rfl
 | n + 1, c, l, h => by
  unfold litAll at h
  split at h
  ·rename_i e l' h1 h2
   cases h
   rw [List.map_cons, litAll_ok E h2, List.range_succ_eq_map, List.map_cons, List.map_map, ← litWk_ok (E := E) h1]
   congr 1
   refine List.map_congr_left fun j _ => ?_
   show wsVal E r ws (c + 1 + j) = wsVal E r ws (c + (j + 1))
   congr 1
   omega
  ·cases h
noncomputable def stOf : SV → Option (List IE × List BE)
 | .agg (.cons (.arr kd r (.lit z) ws) ch) => match litAll r ws 0 4, unB 5 ch with
  | some es, some (l, .nil) => cond (Nat.beq (kindNo kd) (kindNo .i64) && zEq z 4) (some (es, l)) none
  | _, _ => none
 | _ => none
def stVals (bs : List Int) (ks : List Bool) : Value := .agg (bs.map (Value.int .i64) ++ ks.map Value.bool).toArray
theorem stOf_ok (E : Env) {v : SV} {es : List IE} {l : List BE} (h : stOf v = some (es, l)) : es.length = 4 ∧ l.length = 5 ∧ dl E v = [stVals (es.map (ev E)) (l.map (evB E))] := by
 unfold stOf at h
 split at h
 case h_2 => cases h
 rename_i kd r z ws ch
 split at h
 case h_2 => cases h
 rename_i es' l' h1 h2
 cases hc : (Nat.beq (kindNo kd) (kindNo .i64) && zEq z 4) with
 | false => rw [hc] at h; cases h
 | true =>
  rw [hc] at h
  cases h
  rw [Bool.and_eq_true] at hc
  have hk := kindNo_eq hc.1
  have hz := zEq_ok hc.2
  subst hk hz
  have e1 := litAll_ok E h1
  obtain ⟨l1, l2⟩ := unB_ok E h2
  have hl : es.length = 4 := by have := congrArg List.length e1; simpa using this
  refine ⟨hl, l1, ?_⟩
  show [Value.agg (dl E (.arr .i64 r (.lit 4) ws) ++ dl E ch).toArray] = _
  unfold stVals
  rw [l2, e1]
  simp only [dl, arrCells, ev_lit, List.append_nil, List.map_map]
  simp only [Function.comp_def, Nat.zero_add]
  rfl
noncomputable def eqBk (kn : Know) (c : BE) (t : IE) : Bool := match c with
 | .lit v => eqIp kn t (.lit (cond v 1 0))
 | .var j => eqIp kn t (.bv j)
 | _ => false
theorem eqBk_ok {E : Env} {kn : Know} (h : KnowOk E kn) {c : BE} {t : IE} (hc : eqBk kn c t = true) : evB E c = decide (ev E t = 1) := by
 unfold eqBk at hc
 split at hc
 ·rename_i v
  rw [eqIp_ok h hc]
  cases v <;> rfl
 ·rename_i j
  rw [eqIp_ok h hc, ev_bv]
  show E.b j = _
  cases E.b j <;> rfl
 ·cases hc
noncomputable def allI (kn : Know) (k a b : Int) : Nat → List IE → Bool
 | _, [] => true
 | i, e :: r => eqIp kn e (quant i k a b) && allI kn k a b (i + 1) r
theorem allI_ok {E : Env} {kn : Know} (h : KnowOk E kn) {k a b : Int} : ∀ {l : List IE} {i : Nat}, allI kn k a b i l = true → l.map (ev E) = (List.range l.length).map fun j => ev E (quant (i + j) k a b)
 | [], _, _ => rfl
 | e :: r, i, hc => by
  unfold allI at hc
  rw [Bool.and_eq_true] at hc
  rw [List.map_cons, eqIp_ok h hc.1, allI_ok h hc.2, List.length_cons, List.range_succ_eq_map, List.map_cons, List.map_map]
  congr 1
  refine List.map_congr_left fun j _ => ?_
  show ev E (quant (i + 1 + j) k a b) = ev E (quant (i + (j + 1)) k a b)
  rw [show i + 1 + j = i + (j + 1) by omega]
noncomputable def allB (kn : Know) (k a b : Int) : Nat → List BE → Bool
 | _, [] => true
 | i, e :: r => eqBk kn e (quant i k a b) && allB kn k a b (i + 1) r
theorem allB_ok {E : Env} {kn : Know} (h : KnowOk E kn) {k a b : Int} : ∀ {l : List BE} {i : Nat}, allB kn k a b i l = true → l.map (evB E) = (List.range l.length).map fun j => decide (ev E (quant (i + j) k a b) = 1)
 | [], _, _ => rfl
 | e :: r, i, hc => by
  unfold allB at hc
  rw [Bool.and_eq_true] at hc
  rw [List.map_cons, eqBk_ok h hc.1, allB_ok h hc.2, List.length_cons, List.range_succ_eq_map, List.map_cons, List.map_map]
  congr 1
  refine List.map_congr_left fun j _ => ?_
  show decide (ev E (quant (i + 1 + j) k a b) = 1) = decide (ev E (quant (i + (j + 1)) k a b) = 1)
  rw [show i + 1 + j = i + (j + 1) by omega]
def outVal (q : Nat → Int) : Value := .tuple #[stVals ((List.range 4).map fun j => q (2 + j)) ((List.range 5).map fun j => decide (q (6 + j) = 1)), .agg #[.int .i64 (q 0), .int .i64 (q 1)]]
noncomputable def wayT (k a b : Int) (kn : Know) (v : SV) : Bool := match v with
 | .tup (.cons s (.cons (.agg (.cons (.int k1 c) (.cons (.int k2 n) .nil))) .nil)) => match stOf s with
  | some (es, l) => Nat.beq (kindNo k1) (kindNo .i64) && Nat.beq (kindNo k2) (kindNo .i64) && eqIp kn c (quant 0 k a b) && eqIp kn n (quant 1 k a b) && allI kn k a b 2 es && allB kn k a b 6 l
  | none => false
 | _ => false
theorem wayT_ok {E : Env} {kn : Know} (h : KnowOk E kn) {k a b : Int} {v : SV} (hv : wayT k a b kn v = true) : dv E v = outVal fun i => ev E (quant i k a b) := by
 unfold wayT at hv
 split at hv
 case h_2 => cases hv
 rename_i s k1 c k2 n
 split at hv
 case h_2 => cases hv
 rename_i es l hs
 simp only [Bool.and_eq_true] at hv
 obtain ⟨⟨⟨⟨⟨v1, v2⟩, v3⟩, v4⟩, v5⟩, v6⟩ := hv
 have v1 := kindNo_eq v1
 have v2 := kindNo_eq v2
 subst v1 v2
 obtain ⟨l1, l2, l3⟩ := stOf_ok E hs
 show Value.tuple (dl E s ++ [Value.agg #[.int .i64 (ev E c), .int .i64 (ev E n)]]).toArray = _
 rw [l3, allI_ok h v5, allB_ok h v6, l1, l2, eqIp_ok h v3, eqIp_ok h v4]
 rfl
noncomputable def runT (s : List SV → X SV) (k a b : Int) (fs : List Fact) : Bool := match s [stV 1 20, opX k a b] (memM k fs) with
 | some outs => outs.all fun q => wrongs q.2.know || wayT k a b q.2.know q.1
 | none => false
noncomputable def three (i : Int) : List (List Fact) := [[(bE i, -1, -1)], [(bE i, 0, 0)], [(bE i, 1, 1048575)]]
noncomputable def casesT (k : Int) : List (List Fact) := if k = 5 then (three 0).flatMap fun f0 => (three 1).flatMap fun f1 => (three 2).flatMap fun f2 => (three 3).map fun f3 => f0 ++ (f1 ++ (f2 ++ f3)) else [[]]
noncomputable def chkR (s : List SV → X SV) (k a b : Int) : Bool := (casesT k).all fun fs => runT s k a b fs
noncomputable def chkK (s : List SV → X SV) (k : Int) : Bool := combos.all fun p => !zEq p.1 k || chkR s p.1 p.2.1 p.2.2
end Go.Proofs.Ytojpmbkbeoolcaa
