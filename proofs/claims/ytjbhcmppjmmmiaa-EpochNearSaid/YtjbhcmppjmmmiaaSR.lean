/- SameInts over two slices that hold the same row: true. -/
import Derived.Test.YtjbhcmppjmmmiaaC
namespace Go.Proofs.Ytjbhcmppjmmmiaa
open Go.Sx Go
set_option maxRecDepth 100000
noncomputable def numsIn (kn : Know) : SV → Bool
 | .wr _ x ws => in64S kn x && numsIn kn ws
 | _ => true
theorem numsIn_ok {E : Env} {kn : Know} (hk : KnowOk E kn) (q : Nat) : ∀ {ws : SV}, numsIn kn ws = true → ∀ j, in64 (wsVal E q ws j) := by
 have base : ∀ j, in64 ((E.row q).getD j 0) := fun j => by
  rw [List.getD_eq_getElem?_getD]
  cases hq : (E.row q)[j]? with
  | none => constructor <;> decide
  | some z =>
   have hz := List.mem_of_getElem? hq
   unfold Env.row at hz
   split at hz
   ·cases hz
   ·exact hk.env.l q z hz
 intro ws
 induction ws with
 | wr i x ws ih =>
  intro h j
  unfold numsIn at h
  rw [Bool.and_eq_true] at h
  unfold wsVal
  split
  ·exact in64S_ok hk h.1
  ·exact ih h.2 j
 | _ => intro _ j; exact base j
def RowN (w : World) (b o : Nat) (N : List Int) : Prop := b < w.heap.size ∧ ∀ j, j < N.length → w.cell? ⟨b, o + j, none⟩ = some (.int .i64 (N.getD j 0))
noncomputable def arg1 : SV := .sli 46 0 (.lit 0) (.var 48) (.var 49)
noncomputable def arg2 : SV := .sli 56 0 (.lit 0) (.var 48) (.var 59)
noncomputable def entN (s : Nat) : Ent := ⟨s, 0, true, 3, .lit 0, .cons (.arr .i64 7 (.var 48) .nil) .nil⟩
noncomputable def factN : List Fact := [(.var 48, 0, 4398046510976), (.var 49, 0, hi64), (.var 59, 0, hi64)]
noncomputable def headN : HeadP := {
 tm := slotsN 26 [(0, arg1), (1, arg2), (4, .bool (.lit false)), (5, .int .i64 (.var 72))]
 mem := { know := ⟨(.var 72, 0, 4398046510976) :: (.sub (.var 48) (.var 72), 0, hi64) :: factN, []⟩, heap := [entN 46, entN 56], seg := 73, next := 0, nv := 80 }
 mu := .sub (.var 48) (.var 72) }
noncomputable def leaveN : LeaveP := { e := .normal, tm := slotsN 26 [(4, .bool (.lit false))], mem := { know := ⟨[], []⟩, heap := [], seg := 73, next := 0, nv := 80 } }
noncomputable def okN : Bool := headOk (tabJ []) (callF (tabJ []) (spOf []) (bxOf []) 400 12) (fun _ => none) none 400 0 (loopBody 0 (bodyOf Try.f50)) 60 [headN] [leaveN] headN
noncomputable def loopN : Fr → X (SX × Fr) := loopP 60 [headN] [leaveN]
noncomputable def runN : List SV → X SV := callF (tabJ []) (spOf []) (bxOf [(50, 0, loopN)]) 400 12 50
theorem okN_true : okN = true := by kernel_rfl
theorem runN_ok : SpecOk G0 Try.prog 50 runN := callF_ok noSpecs (bxOf_ok (by
 intro y hy
 simp only [List.mem_cons, List.not_mem_nil, or_false] at hy
 subst hy
 refine lx_ok Try.func50 (c := bodyOf Try.f50) rfl (b := loopBody 0 (bodyOf Try.f50)) (by kernel_rfl) (loopPc_ok (T := tabJ []) (cx := callF (tabJ []) (spOf []) (bxOf []) 400 12) (by rw [callF_eq]; exact callD_ok noSpecs noBx 400 12) (jm := none) (fuel := 400) (noBlocks_ok _ _) (fun y hy => by
  rcases List.mem_singleton.1 hy with rfl
  exact ⟨[[]], fun _ _ _ => ⟨[], List.mem_singleton_self _, fun _ h => (by cases h)⟩, fun c hc => (by
   rcases List.mem_singleton.1 hc with rfl
   exact okN_true)⟩)))) 400 12 50
theorem runN_true : allOf (runN [arg1, arg2] (slMem [entN 46, entN 56] factN 60)) isTrue = true := by kernel_rfl
theorem semSameN {N : List Int} {b o cap b' o' cap' : Nat} {w : World} (h1 : RowN w b o N) (h2 : RowN w b' o' N) (h64 : ∀ z ∈ N, in64 z) (hl : N.length ≤ 4398046510976) (hc : (cap : Int) ≤ hi64) (hc' : (cap' : Int) ≤ hi64) :
  Calls Try.prog 50 #[.slice (some ⟨b, o, none⟩) N.length cap, .slice (some ⟨b', o', none⟩) N.length cap'] w fun e w' => Ext (fun _ => False) w w' ∧ e = .returned (.bool true) := by
 let E : Env := { i := fun j => if j = 48 then N.length else if j = 49 then cap else if j = 59 then cap' else 0, b := fun _ => false, l := fun r => if r = 7 then N else [], base := fun s => if s = 46 then b else if s = 56 then b' else w.heap.size, o := fun s => if s = 46 then o else if s = 56 then o' else 0, v := fun _ => .tuple #[], f := G0 }
 have hE : E.Ok := by
  refine ⟨fun j => ?_, fun r z hz => ?_, G0_in⟩
  ·show in64 (if j = 48 then (N.length : Int) else if j = 49 then (cap : Int) else if j = 59 then (cap' : Int) else 0)
   unfold hi64 at hc hc'
   unfold in64 lo64 hi64
   split <;> (try split) <;> (try split) <;> omega
  ·replace hz : z ∈ (if r = 7 then N else []) := hz
   split at hz
   ·exact h64 z hz
   ·cases hz
 have ent : ∀ (s bb oo : Nat), E.base s = bb → E.o s = oo → RowN w bb oo N → EntOk E w (entN s) := fun s bb oo hb ho hr => by
  obtain ⟨n1, n2⟩ := hr
  refine ⟨by show E.base s + 0 < _; rw [hb]; exact n1, fun _ j v hv => ?_, fun h => (by cases h), fun _ x h => (by cases h)⟩
  have hd : dl E (entN s).c = (List.range N.length).map fun j => Value.int .i64 (N.getD j 0) := by
   show arrCells E .i64 7 (ev E (.var 48)).toNat .nil ++ [] = _
   rw [List.append_nil]
   rfl
  rw [hd, List.getElem?_map] at hv
  have hj : j < N.length := by
   rcases Nat.lt_or_ge j N.length with h | h
   ·exact h
   ·rw [List.getElem?_eq_none (by simpa using h)] at hv
    cases hv
  rw [List.getElem?_range hj] at hv
  cases hv
  have := n2 j hj
  show w.cell? ⟨E.base s + 0, E.o s + ((ev E (.lit 0)).toNat + j), none⟩ = _
  rw [ev_lit, hb, ho, show bb + 0 = bb from rfl, show ((0 : Int).toNat + j) = j by simp]
  exact this
 have hf : ∀ f ∈ factN, FactOk E f := fun f hf => by
  unfold factN at hf
  simp only [List.mem_cons, List.not_mem_nil, or_false] at hf
  rcases hf with rfl | rfl | rfl
  ·show (0 : Int) ≤ N.length ∧ (N.length : Int) ≤ 4398046510976
   omega
  ·show (0 : Int) ≤ cap ∧ (cap : Int) ≤ hi64
   omega
  ·show (0 : Int) ≤ cap' ∧ (cap' : Int) ≤ hi64
   omega
 cases hq : runN [arg1, arg2] (slMem [entN 46, entN 56] factN 60) with
 | none =>
  have := runN_true
  rw [hq] at this
  cases this
 | some outs =>
  have hall := runN_true
  rw [hq] at hall
  refine (run_ro runN_ok hq (E := E) (w := w) rfl hE rfl rfl (fun e he => by
   rcases List.mem_cons.1 he with rfl | he
   ·exact ⟨rfl, ent 46 b o rfl rfl h1⟩
   ·rcases List.mem_singleton.1 he with rfl
    exact ⟨rfl, ent 56 b' o' rfl rfl h2⟩) hf).mono ?_
  rintro e w' ⟨q, hq', E', _, rfl, hm⟩
  refine ⟨hm.ext, congrArg Ending.returned ?_⟩
  have ht := List.all_eq_true.1 hall q hq'
  unfold Sx.isTrue at ht
  split at ht
  ·rename_i c hc
   subst ht
   rw [hc]
   rfl
  ·cases ht
noncomputable def rowArg (m : Mem) : SV → Option (SV × Nat)
 | .sli s k off (.lit n) cap => match m.find s k with
  | some e => match place m.know e off with
   | some (.lit z) => cond (factIn m.know cap 0 hi64 && Nat.ble 0 z.toNat) (match takeC e.c z.toNat n.toNat with
    | some r => cond (zEq n n.toNat) (some (r, n.toNat)) none
    | none => none) none
   | _ => none
  | none => none
 | _ => none
theorem rowArg_ok {F : Nat → Prop} {w0 : World} {E : Env} {m : Mem} {w : World} (hm : MemOk F w0 E m w) {v r : SV} {n : Nat} (h : rowArg m v = some (r, n)) :
  (dl E r).length = n ∧ ∃ b o cap : Nat, dv E v = .slice (some ⟨b, o, none⟩) n cap ∧ (cap : Int) ≤ hi64 ∧ b < w.heap.size ∧ ∀ j x, (dl E r)[j]? = some x → w.cell? ⟨b, o + j, none⟩ = some x := by
 unfold rowArg at h
 split at h
 case h_2 => cases h
 rename_i s k off n' cap
 split at h
 case h_2 => cases h
 rename_i e hf
 split at h
 case h_2 => cases h
 rename_i z hp
 cases hc : (factIn m.know cap 0 hi64 && Nat.ble 0 z.toNat) with
 | false => rw [hc] at h; cases h
 | true =>
 rw [hc] at h
 dsimp only [cond] at h
 split at h
 case h_2 => cases h
 rename_i r' hr
 cases hn : zEq n' n'.toNat with
 | false => rw [hn] at h; cases h
 | true =>
 rw [hn] at h
 cases h
 simp only [Bool.and_eq_true] at hc
 have c2 := factIn_ok hm.know hc.1
 obtain ⟨f1, f2, f3⟩ := Mem.find_ok hf
 have he := hm.ents e f1
 obtain ⟨p1, p2⟩ := place_ok hm.know hp
 rw [ev_lit] at p1 p2
 obtain ⟨t1, t2⟩ := takeC_ok E e.c z.toNat n'.toNat r hr
 refine ⟨by rw [t1, List.length_take, List.length_drop]; omega, e.blk E, E.o e.s + (ev E off).toNat, (ev E cap).toNat, ?_, by omega, he.lt, fun j x hj => ?_⟩
 ·show Value.slice (some ⟨E.base s + k, E.o s + (ev E off).toNat, none⟩) (ev E (.lit n')).toNat (ev E cap).toNat = _
  rw [← f2, ← f3, ev_lit]
  rfl
 ·have hjn : j < n'.toNat := by
   have := (List.getElem?_eq_some_iff.1 hj).1
   rw [t1, List.length_take] at this
   omega
  rw [t1, List.getElem?_take_of_lt hjn, List.getElem?_drop] at hj
  have := he.cell _ _ hj
  rw [p2, show E.o e.s + ((ev E e.base).toNat + z.toNat) + j = E.o e.s + ((ev E e.base).toNat + (z.toNat + j)) by omega]
  exact this
noncomputable def sameN : List SV → X SV := pureX fun args m => match args with
 | [v1, v2] => match rowArg m v1, rowArg m v2 with
  | some (r1, n1), some (r2, n2) => (match r1 with
   | .cons (.arr kd _ (.lit z) ws) .nil => cond (Nat.beq n1 n2 && (svEq r1 r2 && (Nat.beq (kindNo kd) (kindNo .i64) && (zEq z n1 && (numsIn m.know ws && Nat.ble n1 4398046510976))))) (some (.bool (.lit true), [])) none
   | _ => none)
  | _, _ => none
 | _ => none
theorem sameN_ok : SpecOk G0 Try.prog 50 sameN := pureX_ok fun F w0 E args m w v fs hgf hm hf => by
 split at hf
 case h_2 => cases hf
 rename_i v1 v2
 split at hf
 case h_2 => cases hf
 rename_i r1 n1 r2 n2 h1 h2
 split at hf
 case h_2 => cases hf
 rename_i kd q z ws
 cases hc : (Nat.beq n1 n2 && (svEq (.cons (.arr kd q (.lit z) ws) .nil) r2 && (Nat.beq (kindNo kd) (kindNo .i64) && (zEq z n1 && (numsIn m.know ws && Nat.ble n1 4398046510976))))) with
 | false => rw [hc] at hf; cases hf
 | true =>
 rw [hc] at hf
 cases hf
 simp only [Bool.and_eq_true] at hc
 obtain ⟨c1, c2, c3, c4, c5, c6⟩ := hc
 have c1 := Nat.eq_of_beq_eq_true c1
 have c2 := svEq_ok c2
 have c3 := kindNo_eq c3
 have c4 := zEq_ok c4
 have c6 := Nat.le_of_ble_eq_true c6
 subst c1 c2 c3 c4
 obtain ⟨l1, b, o, cap, d1, k1, s1, g1⟩ := rowArg_ok hm h1
 obtain ⟨_, b', o', cap', d2, k2, s2, g2⟩ := rowArg_ok hm h2
 have hd : dl E (.cons (.arr .i64 q (.lit (n1 : Int)) ws) .nil) = (List.range n1).map fun j => Value.int .i64 (wsVal E q ws j) := by
  show arrCells E .i64 q (ev E (.lit (n1 : Int))).toNat ws ++ [] = _
  rw [List.append_nil, ev_lit]
  rfl
 have hN : ∀ j, j < n1 → (dl E (.cons (.arr .i64 q (.lit (n1 : Int)) ws) .nil))[j]? = some (.int .i64 (((List.range n1).map (wsVal E q ws)).getD j 0)) := fun j hj => by
  rw [hd, List.getElem?_map, List.getElem?_range hj, List.getD_eq_getElem?_getD, List.getElem?_map, List.getElem?_range hj]
  rfl
 have hlen : ((List.range n1).map (wsVal E q ws)).length = n1 := by rw [List.length_map, List.length_range]
 have := semSameN (N := (List.range n1).map (wsVal E q ws)) (b := b) (o := o) (cap := cap) (b' := b') (o' := o') (cap' := cap') (w := w) ⟨s1, fun j hj => g1 j _ (hN j (by rw [hlen] at hj; exact hj))⟩ ⟨s2, fun j hj => g2 j _ (hN j (by rw [hlen] at hj; exact hj))⟩ (fun z hz => by
  obtain ⟨j, _, rfl⟩ := List.mem_map.1 hz
  exact numsIn_ok hm.know q c5 j) (by rw [hlen]; exact c6) k1 k2
 rw [hlen] at this
 refine ⟨?_, fun _ h => (by cases h)⟩
 rw [show (([v1, v2] : List SV).map (dv E)).toArray = #[.slice (some ⟨b, o, none⟩) n1 cap, .slice (some ⟨b', o', none⟩) n1 cap'] by
  show #[dv E v1, dv E v2] = _
  rw [d1, d2]]
 exact this
noncomputable def intsOf (kn : Know) : SV → Option (List IE)
 | .nil => some []
 | .cons (.int .i64 e) r => cond (in64S kn e) (match intsOf kn r with
  | some l => some (e :: l)
  | none => none) none
 | _ => none
theorem intsOf_ok {E : Env} {kn : Know} (hk : KnowOk E kn) : ∀ {v : SV} {l : List IE}, intsOf kn v = some l → dl E v = l.map (fun e => Value.int .i64 (ev E e)) ∧ ∀ e ∈ l, in64 (ev E e) := by
 intro v
 induction v with
 | nil => intro l h; cases h; exact ⟨rfl, fun _ h => (by cases h)⟩
 | cons a b _ ih =>
  intro l h
  unfold intsOf at h
  split at h
  ·rename_i heq; cases heq
  ·rename_i e r heq
   cases heq
   cases hc : in64S kn e with
   | false => rw [hc] at h; cases h
   | true =>
    rw [hc] at h
    simp only [cond_true] at h
    split at h
    ·rename_i l' hl
     cases h
     obtain ⟨i1, i2⟩ := ih hl
     refine ⟨by show [Value.int .i64 (ev E e)] ++ dl E b = _; rw [i1]; rfl, fun x hx => ?_⟩
     rcases List.mem_cons.1 hx with rfl | hx
     ·exact in64S_ok hk hc
     ·exact i2 x hx
    ·cases h
  ·cases h
 | _ => intro l h; unfold intsOf at h; cases h
noncomputable def sameC2 : List SV → X SV := pureX fun args m => match args with
 | [v1, v2] => match rowArg m v1, rowArg m v2 with
  | some (r1, n1), some (r2, n2) => cond (Nat.beq n1 n2 && (svEq r1 r2 && Nat.ble n1 4398046510976)) (match intsOf m.know r1 with
   | some _ => some (.bool (.lit true), [])
   | none => none) none
  | _, _ => none
 | _ => none
theorem sameC2_ok : SpecOk G0 Try.prog 50 sameC2 := pureX_ok fun F w0 E args m w v fs hgf hm hf => by
 split at hf
 case h_2 => cases hf
 rename_i v1 v2
 split at hf
 case h_2 => cases hf
 rename_i r1 n1 r2 n2 h1 h2
 cases hc : (Nat.beq n1 n2 && (svEq r1 r2 && Nat.ble n1 4398046510976)) with
 | false => rw [hc] at hf; cases hf
 | true =>
 rw [hc] at hf
 simp only [cond_true] at hf
 split at hf
 case h_2 => cases hf
 rename_i l hl
 cases hf
 simp only [Bool.and_eq_true] at hc
 obtain ⟨c1, c2, c6⟩ := hc
 have c1 := Nat.eq_of_beq_eq_true c1
 have c2 := svEq_ok c2
 have c6 := Nat.le_of_ble_eq_true c6
 subst c1 c2
 obtain ⟨l1, b, o, cap, d1, k1, s1, g1⟩ := rowArg_ok hm h1
 obtain ⟨_, b', o', cap', d2, k2, s2, g2⟩ := rowArg_ok hm h2
 obtain ⟨hd, h64⟩ := intsOf_ok hm.know hl
 have hlen : (l.map (ev E)).length = n1 := by rw [List.length_map, ← l1, hd, List.length_map]
 have hN : ∀ j, j < n1 → (dl E r1)[j]? = some (.int .i64 ((l.map (ev E)).getD j 0)) := fun j hj => by
  have hj2 : j < l.length := by rw [List.length_map] at hlen; omega
  rw [hd, List.getElem?_map, List.getElem?_eq_getElem hj2, List.getD_eq_getElem?_getD, List.getElem?_map, List.getElem?_eq_getElem hj2]
  rfl
 have := semSameN (N := l.map (ev E)) (b := b) (o := o) (cap := cap) (b' := b') (o' := o') (cap' := cap') (w := w) ⟨s1, fun j hj => g1 j _ (hN j (by rw [hlen] at hj; exact hj))⟩ ⟨s2, fun j hj => g2 j _ (hN j (by rw [hlen] at hj; exact hj))⟩ (fun z hz => by
  obtain ⟨e, he, rfl⟩ := List.mem_map.1 hz
  exact h64 e he) (by rw [hlen]; exact c6) k1 k2
 rw [hlen] at this
 refine ⟨?_, fun _ h => (by cases h)⟩
 rw [show (([v1, v2] : List SV).map (dv E)).toArray = #[.slice (some ⟨b, o, none⟩) n1 cap, .slice (some ⟨b', o', none⟩) n1 cap'] by
  show #[dv E v1, dv E v2] = _
  rw [d1, d2]]
 exact this
noncomputable def sameX : List SV → X SV := orX sameN (orX sameC2 (fun0 50))
theorem sameX_ok : SpecOk G0 Try.prog 50 sameX := orX_ok sameN_ok (orX_ok sameC2_ok (fun0_ok 50))
end Go.Proofs.Ytjbhcmppjmmmiaa
