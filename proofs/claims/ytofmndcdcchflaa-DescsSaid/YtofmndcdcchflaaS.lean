/- two slices that hold the same numbers: SameInts, SameRetireds. -/
import Derived.Test.YtofmndcdcchflaaF
namespace Go.Proofs.Ytofmndcdcchflaa
open Go.Sx Go
set_option maxRecDepth 100000
noncomputable def numsIn (kn : Know) : SV → Bool
 | .wr _ x ws => in64S kn x && numsIn kn ws
 | _ => true
theorem numsIn_ok {E : Env} {kn : Know} (hk : KnowOk E kn) (q : Nat) : ∀ {ws : SV}, numsIn kn ws = true → ∀ j, in64 (wsVal E q ws j) := by
 have base : ∀ j, in64 ((E.row q).getD j 0) := fun j => row_ok hk.env q j
 intro ws
 induction ws with
 | wr i x ws ih =>
  intro h j
  unfold numsIn at h
  rw [Bool.and_eq_true] at h
  unfold wsVal
  split
  ·exact in64S_ok hk h.1
  ·exact ih h.2 j
 | _ => intro _ j; exact base j
def RowN (w : World) (b o : Nat) (N : List Int) : Prop := b < w.heap.size ∧ ∀ j, j < N.length → w.cell? ⟨b, o + j, none⟩ = some (.int .i64 (N.getD j 0))
noncomputable def arg1 : SV := .sli 46 0 (.lit 0) (.var 48) (.var 49)
noncomputable def arg2 : SV := .sli 56 0 (.lit 0) (.var 48) (.var 59)
noncomputable def lenS (two : Bool) : IE := cond two (.mul (.var 48) (.lit 3)) (.var 48)
noncomputable def entS (two : Bool) (s : Nat) : Ent := ⟨s, 0, true, 3, .lit 0, .cons (.arr .i64 7 (lenS two) .nil) .nil⟩
noncomputable def factS : List Fact := [(.var 48, 0, 8796093021953), (.var 49, 0, hi64), (.var 59, 0, hi64)]
noncomputable def headS (two : Bool) : HeadP := {
 tm := slotsN 26 [(0, arg1), (1, arg2), (4, .bool (.lit false)), (5, .int .i64 (.var 72))]
 mem := { know := ⟨(.var 72, 0, 8796093021953) :: (.sub (.var 48) (.var 72), 0, hi64) :: factS, []⟩, heap := [entS two 46, entS two 56], seg := 73, next := 0, nv := 80 }
 mu := .sub (.var 48) (.var 72) }
noncomputable def leaveS : LeaveP := { e := .normal, tm := slotsN 26 [(4, .bool (.lit false))], mem := { know := ⟨[], []⟩, heap := [], seg := 73, next := 0, nv := 80 } }
noncomputable def fnS (two : Bool) : Nat := cond two 9 41
noncomputable def codeS (two : Bool) : Code := cond two (bodyOf Try.f9) (bodyOf Try.f41)
noncomputable def okS (two : Bool) : Bool := headOk (tabJ []) cx0 (fun _ => none) none 400 0 (loopBody 0 (codeS two)) 60 [headS two] [leaveS] (headS two)
theorem okS1 : okS false = true := by kernel_rfl
theorem okS2 : okS true = true := by kernel_rfl
noncomputable def loopS (two : Bool) : Fr → X (SX × Fr) := loopP 60 [headS two] [leaveS]
noncomputable def runS (two : Bool) : List SV → X SV := callF (tabJ []) (spOf []) (bxOf [(fnS two, 0, loopS two)]) 400 12 (fnS two)
theorem loopS_ok {G : Gf} (two : Bool) : LxOk G Try.prog (fnS two, 0, loopS two) := by
 have key : ∀ (c : Code), headOk (tabJ []) cx0 (fun _ => none) none 400 0 c 60 [headS two] [leaveS] (headS two) = true → CodeOk G Try.prog (.block 0 (.loop c)) (loopS two) := fun c hc => loopPc_ok (T := tabJ []) (cx := cx0) cx0_ok (jm := none) (fuel := 400) (noBlocks_ok _ _) (fun y hy => by
  rcases List.mem_singleton.1 hy with rfl
  exact ⟨[[]], fun _ _ _ => ⟨[], List.mem_singleton_self _, fun _ h => (by cases h)⟩, fun d hd => (by
   rcases List.mem_singleton.1 hd with rfl
   exact hc)⟩)
 cases two with
 | true => exact lx_ok Try.func9 (c := bodyOf Try.f9) rfl (b := loopBody 0 (codeS true)) (by kernel_rfl) (key _ okS2)
 | false => exact lx_ok Try.func41 (c := bodyOf Try.f41) rfl (b := loopBody 0 (codeS false)) (by kernel_rfl) (key _ okS1)
theorem runS_ok {G : Gf} (two : Bool) : SpecOk G Try.prog (fnS two) (runS two) := callF_ok noSpecs (bxOf_ok (by
 intro y hy
 rcases List.mem_singleton.1 hy with rfl
 exact loopS_ok two)) 400 12 _
theorem runS1 : allOf (runS false [arg1, arg2] (slMem [entS false 46, entS false 56] factS 60)) isTrue = true := by kernel_rfl
theorem runS2 : allOf (runS true [arg1, arg2] (slMem [entS true 46, entS true 56] factS 60)) isTrue = true := by kernel_rfl
theorem runSs (two : Bool) : allOf (runS two [arg1, arg2] (slMem [entS two 46, entS two 56] factS 60)) isTrue = true := by
 cases two with
 | true => exact runS2
 | false => exact runS1
noncomputable def times (two : Bool) : Nat := cond two 3 1
theorem semS {G : Gf} (hG : ∀ f l, in64 (G f l)) (two : Bool) {L : List Int} {n b o cap b' o' cap' : Nat} {w : World} (hn : L.length = times two * n) (h1 : RowN w b o L) (h2 : RowN w b' o' L) (h64 : ∀ z ∈ L, in64 z) (hl : n ≤ 8796093021953) (hc : (cap : Int) ≤ hi64) (hc' : (cap' : Int) ≤ hi64) :
  Calls Try.prog (fnS two) #[.slice (some ⟨b, o, none⟩) n cap, .slice (some ⟨b', o', none⟩) n cap'] w fun e w' => Ext (fun _ => False) w w' ∧ e = .returned (.bool true) := by
 let E : Env := { i := fun j => if j = 48 then n else if j = 49 then cap else if j = 59 then cap' else 0, b := fun _ => false, l := fun r => if r = 7 then L else [], base := fun s => if s = 46 then b else if s = 56 then b' else w.heap.size, o := fun s => if s = 46 then o else if s = 56 then o' else 0, v := fun _ => .tuple #[], f := G }
 have hE : E.Ok := by
  refine ⟨fun j => ?_, fun r z hz => ?_, hG⟩
  ·show in64 (if j = 48 then (n : Int) else if j = 49 then (cap : Int) else if j = 59 then (cap' : Int) else 0)
   unfold hi64 at hc hc'
   unfold in64 lo64 hi64
   split <;> (try split) <;> (try split) <;> omega
  ·replace hz : z ∈ (if r = 7 then L else []) := hz
   split at hz
   ·exact h64 z hz
   ·cases hz
 have hrow : E.row 7 = L := by
  rw [Env.row_l (by unfold fixR; omega)]
  rfl
 have hlen : (ev E (lenS two)).toNat = L.length := by
  cases two with
  | true =>
   show ((n : Int) * 3).toNat = _
   rw [hn]
   show _ = 3 * n
   omega
  | false =>
   show ((n : Int)).toNat = _
   rw [hn]
   show _ = 1 * n
   omega
 have ent : ∀ (s bb oo : Nat), E.base s = bb → E.o s = oo → RowN w bb oo L → EntOk E w (entS two s) := fun s bb oo hb ho hr => by
  obtain ⟨n1, n2⟩ := hr
  refine ⟨by show E.base s + 0 < _; rw [hb]; exact n1, fun _ j v hv => ?_, fun h => (by cases h), fun _ x h => (by cases h)⟩
  have hd : dl E (entS two s).c = (List.range L.length).map fun j => Value.int .i64 (L.getD j 0) := by
   show arrCells E .i64 7 (ev E (lenS two)).toNat .nil ++ [] = _
   rw [List.append_nil, hlen]
   unfold arrCells
   refine List.map_congr_left fun j _ => ?_
   show Value.int .i64 ((E.row 7).getD j 0) = _
   rw [hrow]
  rw [hd, List.getElem?_map] at hv
  have hj : j < L.length := by
   rcases Nat.lt_or_ge j L.length with h | h
   ·exact h
   ·rw [List.getElem?_eq_none (by simpa using h)] at hv
    cases hv
  rw [List.getElem?_range hj] at hv
  cases hv
  have := n2 j hj
  show w.cell? ⟨E.base s + 0, E.o s + ((ev E (.lit 0)).toNat + j), none⟩ = _
  rw [ev_lit, hb, ho, show bb + 0 = bb from rfl, show ((0 : Int).toNat + j) = j by simp]
  exact this
 have hf : ∀ f ∈ factS, FactOk E f := fun f hf => by
  unfold factS at hf
  simp only [List.mem_cons, List.not_mem_nil, or_false] at hf
  rcases hf with rfl | rfl | rfl
  ·show (0 : Int) ≤ n ∧ (n : Int) ≤ 8796093021953
   omega
  ·show (0 : Int) ≤ cap ∧ (cap : Int) ≤ hi64
   omega
  ·show (0 : Int) ≤ cap' ∧ (cap' : Int) ≤ hi64
   omega
 obtain ⟨outs, ho, hall⟩ := allOf_ok (runSs two)
 have call := run_ro (runS_ok (G := G) two) ho (E := E) (w := w) rfl hE rfl rfl (fun e he => by
  simp only [List.mem_cons, List.not_mem_nil, or_false] at he
  rcases he with rfl | rfl
  ·exact ⟨rfl, ent 46 b o rfl rfl h1⟩
  ·exact ⟨rfl, ent 56 b' o' rfl rfl h2⟩) hf
 have ha : (([arg1, arg2] : List SV).map (dv E)).toArray = #[.slice (some ⟨b, o, none⟩) n cap, .slice (some ⟨b', o', none⟩) n cap'] := by
  show #[Value.slice (some ⟨b + 0, o + (0 : Int).toNat, none⟩) ((n : Int)).toNat ((cap : Int)).toNat, Value.slice (some ⟨b' + 0, o' + (0 : Int).toNat, none⟩) ((n : Int)).toNat ((cap' : Int)).toNat] = _
  simp
 rw [ha] at call
 refine call.mono ?_
 rintro e w' ⟨q, hq', E', _, rfl, hm⟩
 refine ⟨hm.ext, congrArg Ending.returned ?_⟩
 have ht := hall q hq'
 unfold Sx.isTrue at ht
 split at ht
 ·rename_i c hc
  subst ht
  rw [hc]
  rfl
 ·cases ht
noncomputable def intsR (kn : Know) : SV → Bool
 | .nil => true
 | .cons (.int k e) r => Nat.beq (kindNo k) (kindNo .i64) && (in64S kn e && intsR kn r)
 | .cons (.arr k _ _ ws) r => Nat.beq (kindNo k) (kindNo .i64) && (numsIn kn ws && intsR kn r)
 | _ => false
theorem intsR_ok {E : Env} {kn : Know} (hk : KnowOk E kn) : ∀ c : SV, intsR kn c = true → ∃ L : List Int, dl E c = L.map (Value.int .i64) ∧ ∀ z ∈ L, in64 z := by
 intro c
 induction c with
 | nil => intro _; exact ⟨[], rfl, fun _ h => (by cases h)⟩
 | cons a r _ ih =>
  intro h
  cases a with
  | int k e =>
   simp only [intsR, Bool.and_eq_true] at h
   obtain ⟨L, h1, h2⟩ := ih h.2.2
   have hk' := kindNo_eq h.1
   subst hk'
   refine ⟨ev E e :: L, by show [Value.int .i64 (ev E e)] ++ dl E r = _; rw [h1]; rfl, fun z hz => ?_⟩
   rcases List.mem_cons.1 hz with rfl | hz
   ·exact in64S_ok hk h.2.1
   ·exact h2 z hz
  | arr k q n ws =>
   simp only [intsR, Bool.and_eq_true] at h
   obtain ⟨L, h1, h2⟩ := ih h.2.2
   have hk' := kindNo_eq h.1
   subst hk'
   refine ⟨(List.range (ev E n).toNat).map (fun j => wsVal E q ws j) ++ L, ?_, fun z hz => ?_⟩
   ·show arrCells E .i64 q (ev E n).toNat ws ++ dl E r = _
    rw [h1, List.map_append, List.map_map]
    rfl
   ·rcases List.mem_append.1 hz with hz | hz
    ·obtain ⟨j, _, rfl⟩ := List.mem_map.1 hz
     exact numsIn_ok hk q h.2.1 j
    ·exact h2 z hz
  | _ => simp [intsR] at h
 | _ => intro h; simp [intsR] at h
noncomputable def cellsR (two : Bool) (m : Mem) : SV → Option SV
 | .sli s k off len cap => match m.find s k with
  | some e => cond (ieEq off e.base && (factIn m.know off 0 hi64 && (factIn m.know len 0 8796093021953 && factIn m.know cap 0 hi64))) (headC m.know e.c (cond two (mkMul len (.lit 3)) len)) none
  | none => none
 | _ => none
theorem cellsR_ok {two : Bool} {F : Nat → Prop} {w0 w : World} {E : Env} {m : Mem} (hm : MemOk F w0 E m w) {v c : SV} (h : cellsR two m v = some c) :
  ∃ b o n cap : Nat, dv E v = .slice (some ⟨b, o, none⟩) n cap ∧ (n : Int) ≤ 8796093021953 ∧ (cap : Int) ≤ hi64 ∧ (dl E c).length = times two * n ∧ b < w.heap.size ∧ ∀ j x, (dl E c)[j]? = some x → w.cell? ⟨b, o + j, none⟩ = some x := by
 unfold cellsR at h
 split at h
 case h_2 => cases h
 rename_i s k off len cap
 split at h
 case h_2 => cases h
 rename_i e he
 cases hc : (ieEq off e.base && (factIn m.know off 0 hi64 && (factIn m.know len 0 8796093021953 && factIn m.know cap 0 hi64))) with
 | false => rw [hc] at h; cases h
 | true =>
 rw [hc] at h
 dsimp only [cond] at h
 simp only [Bool.and_eq_true] at hc
 obtain ⟨c1, c2, c3, c4⟩ := hc
 obtain ⟨k1, k2, k3⟩ := Mem.find_ok he
 have c1 := ieEq_ok c1
 have c2 := factIn_ok hm.know c2
 have c3 := factIn_ok hm.know c3
 have c4 := factIn_ok hm.know c4
 obtain ⟨h1, h2, h3⟩ := headC_ok hm.know _ _ _ h
 have ok := hm.ents e k1
 have hl : (ev E (cond two (mkMul len (.lit 3)) len)).toNat = times two * (ev E len).toNat := by
  cases two with
  | true =>
   show (ev E (mkMul len (.lit 3))).toNat = 3 * (ev E len).toNat
   rw [mkMul_ok, ev_lit]
   omega
  | false => show (ev E len).toNat = 1 * (ev E len).toNat; omega
 have h2' : dl E c = (dl E e.c).take (ev E (cond two (mkMul len (.lit 3)) len)).toNat := by
  revert h2
  cases two <;> exact fun h => h
 have h3' : (ev E (cond two (mkMul len (.lit 3)) len)).toNat ≤ (dl E e.c).length := by
  revert h3
  cases two <;> exact fun h => h
 refine ⟨E.base s + k, E.o s + (ev E off).toNat, (ev E len).toNat, (ev E cap).toNat, rfl, by omega, by omega, ?_, ?_, fun j x hj => ?_⟩
 ·rw [h2', List.length_take, ← hl]
  omega
 ·have := ok.lt
  unfold Ent.blk at this
  rw [k2, k3] at this
  exact this
 ·rw [h2', List.getElem?_take] at hj
  split at hj
  case isFalse => cases hj
  have := ok.cell j x hj
  rw [← this]
  unfold Ent.blk
  rw [k2, k3, c1, Nat.add_assoc]
noncomputable def formS (two : Bool) (args : List SV) (m : Mem) : Option (SV × List Fact) := match args with
 | [v1, v2] => match cellsR two m v1, cellsR two m v2 with
  | some c1, some c2 => cond (intsR m.know c1 && (sameC c1 c2 || sameCN m.know c1 c2)) (some (.bool (.lit true), [])) none
  | _, _ => none
 | _ => none
theorem sameS_ok {G : Gf} (hG : ∀ f l, in64 (G f l)) (two : Bool) : SpecOk G Try.prog (fnS two) (pureX (formS two)) := pureX_ok fun F w0 E args m w v fs hgf hm hf => by
 unfold formS at hf
 split at hf
 case h_2 => cases hf
 rename_i v1 v2
 split at hf
 case h_2 => cases hf
 rename_i c1 c2 h1 h2
 cases hc : (intsR m.know c1 && (sameC c1 c2 || sameCN m.know c1 c2)) with
 | false => rw [hc] at hf; cases hf
 | true =>
 rw [hc] at hf
 cases hf
 rw [Bool.and_eq_true, Bool.or_eq_true] at hc
 obtain ⟨L, l1, l2⟩ := intsR_ok hm.know c1 hc.1
 have hsame : dl E c1 = dl E c2 := hc.2.elim sameC_ok (sameCN_ok hm.know)
 obtain ⟨b, o, n, cap, d1, n1, k1, g1, s1, e1⟩ := cellsR_ok hm h1
 obtain ⟨b', o', n', cap', d2, _, k2, g2, s2, e2⟩ := cellsR_ok hm h2
 have hL : L.length = times two * n := by rw [← g1, l1, List.length_map]
 have hnn : n' = n := by
  rw [← hsame, g1] at g2
  cases two <;> (unfold times at g2; dsimp only [cond] at g2; omega)
 subst hnn
 have cell : ∀ j, j < L.length → (dl E c1)[j]? = some (.int .i64 (L.getD j 0)) := fun j hj => by
  rw [l1, List.getElem?_map, List.getElem?_eq_getElem hj, List.getD_eq_getElem?_getD, List.getElem?_eq_getElem hj]
  rfl
 have call := semS (G := G) hG two hL (w := w) ⟨s1, fun j hj => e1 j _ (cell j hj)⟩ ⟨s2, fun j hj => e2 j _ (by rw [← hsame]; exact cell j hj)⟩ l2 (by omega) k1 k2
 refine ⟨?_, fun _ h => (by cases h)⟩
 rw [show (([v1, v2] : List SV).map (dv E)).toArray = #[.slice (some ⟨b, o, none⟩) n' cap, .slice (some ⟨b', o', none⟩) n' cap'] by
  show #[dv E v1, dv E v2] = _
  rw [d1, d2]]
 exact call
noncomputable def sameX (two : Bool) : List SV → X SV := orX (pureX (formS two)) (fun0 (fnS two))
theorem sameX_ok {G : Gf} (hG : ∀ f l, in64 (G f l)) (two : Bool) : SpecOk G Try.prog (fnS two) (sameX two) := orX_ok (sameS_ok hG two) (fun0_ok _)
end Go.Proofs.Ytofmndcdcchflaa
namespace Go.Proofs.Ytofmndcdcchflaa
open Go.Sx Go
set_option maxRecDepth 100000
noncomputable def fnV (_ : Bool) : Nat := 17
noncomputable def szV (_ : Bool) : Nat := 19
noncomputable def totV : IE := .var 47
noncomputable def tailV (two : Bool) : IE := cond two (.mul totV (.lit 3)) totV
noncomputable def argV : SV := .sli 46 0 (.lit 0) (.var 48) (.var 49)
noncomputable def entV (two : Bool) (r q : Nat) : Ent := ⟨46, 0, false, cond two 56 3, .lit 0, .cons (.arr .i64 r (lenS two) .nil) (.cons (.arr .i64 q (tailV two) .nil) .nil)⟩
noncomputable def factV (_two : Bool) : List Fact := [(.var 48, 0, 8796093021953), (.var 49, 0, hi64), (totV, 0, hi64)]
noncomputable def headV (two : Bool) : HeadP := {
 tm := slotsN (szV two) [(0, argV), (2, .int .i64 (.var 72))]
 mem := { know := ⟨(.var 72, 0, 8796093021953) :: (.sub (.var 48) (.var 72), 0, hi64) :: factV two, []⟩, heap := [entV two 74 7], seg := 0, next := 0, nv := 80 }
 mu := .sub (.var 48) (.var 72) }
noncomputable def leaveV (two : Bool) : LeaveP := { e := .normal, tm := slotsN (szV two) [], mem := { know := ⟨[], []⟩, heap := [], seg := 0, next := 0, nv := 80 } }
noncomputable def okV (two : Bool) (c : Code) : Bool := headOk (tabJ []) cx0 (fun _ => none) none 400 0 c 60 [headV two] [leaveV two] (headV two)
theorem okV2 : okV true (loopBody 0 (bodyOf Try.f17)) = true := by kernel_rfl
noncomputable def loopV (two : Bool) : Fr → X (SX × Fr) := loopP 60 [headV two] [leaveV two]
theorem loopV_ok {G : Gf} : LxOk G Try.prog (17, 0, loopV true) := by
 have key : ∀ (c : Code), okV true c = true → CodeOk G Try.prog (.block 0 (.loop c)) (loopV true) := fun c hc => loopPc_ok (T := tabJ []) (cx := cx0) cx0_ok (jm := none) (fuel := 400) (noBlocks_ok _ _) (fun y hy => by
  rcases List.mem_singleton.1 hy with rfl
  exact ⟨[[]], fun _ _ _ => ⟨[], List.mem_singleton_self _, fun _ h => (by cases h)⟩, fun d hd => (by
   rcases List.mem_singleton.1 hd with rfl
   exact hc)⟩)
 exact lx_ok Try.func17 (c := bodyOf Try.f17) rfl (b := loopBody 0 (bodyOf Try.f17)) (by kernel_rfl) (key _ okV2)
noncomputable def runV (two : Bool) : List SV → X SV := callF (tabJ []) (spOf []) (bxOf [(fnV two, 0, loopV two)]) 400 12 (fnV two)
theorem runV_ok {G : Gf} : SpecOk G Try.prog (fnV true) (runV true) := callF_ok noSpecs (bxOf_ok (by
 intro y hy
 rcases List.mem_singleton.1 hy with rfl
 exact loopV_ok)) 400 12 _
noncomputable def memV (two : Bool) : Mem := { know := ⟨factV two, []⟩, heap := [entV two 8 7], seg := 0, next := 0, nv := 60 }
noncomputable def chkV (q : SV × Mem) : Bool := (match q.1 with | .tup .nil => true | _ => false) && (Nat.beq q.2.seg 0 && Nat.beq q.2.next 0)
theorem runV2 : allOf (runV true [argV] (memV true)) chkV = true := by kernel_rfl
theorem semV {G : Gf} (hG : ∀ f l, in64 (G f l)) {L1 L2 : List Int} {n b cap t : Nat} {w : World} (hn : L1.length = times true * n) (hb : w.heap[b]? = some (.cells ((L1 ++ L2).map (Value.int .i64)).toArray (cond true 56 3) (0, 0)))
  (h1 : ∀ z ∈ L1, in64 z) (h2 : ∀ z ∈ L2, in64 z) (hl : n ≤ 8796093021953) (hc : (cap : Int) ≤ hi64) (h2n : L2.length = times true * t) (ht : (t : Int) ≤ hi64) :
  Calls Try.prog (fnV true) #[.slice (some ⟨b, 0, none⟩) n cap] w fun e w' => Ext (fun x => x = b) w w' ∧ w'.heap.size = w.heap.size ∧ e = .returned (.tuple #[]) := by
 let E : Env := { i := fun j => if j = 48 then n else if j = 49 then cap else if j = 47 then t else 0, b := fun _ => false, l := fun r => if r = 8 then L1 else if r = 7 then L2 else [], base := fun s => if s = 46 then b else w.heap.size, o := fun _ => 0, v := fun _ => .tuple #[], f := G }
 have hlt : b < w.heap.size := (Array.getElem?_eq_some_iff.1 hb).1
 have hE : E.Ok := by
  refine ⟨fun j => ?_, fun r z hz => ?_, hG⟩
  ·show in64 (if j = 48 then (n : Int) else if j = 49 then (cap : Int) else if j = 47 then (t : Int) else 0)
   unfold hi64 at hc ht
   unfold in64 lo64 hi64
   split <;> (try split) <;> (try split) <;> omega
  ·replace hz : z ∈ (if r = 8 then L1 else if r = 7 then L2 else []) := hz
   split at hz
   ·exact h1 z hz
   ·split at hz
    ·exact h2 z hz
    ·cases hz
 have r8 : E.row 8 = L1 := by
  rw [Env.row_l (by unfold fixR; omega)]
  rfl
 have r7 : E.row 7 = L2 := by
  rw [Env.row_l (by unfold fixR; omega)]
  rfl
 have arr : ∀ (r k : Nat) (L : List Int), E.row r = L → k = L.length → arrCells E .i64 r k .nil = L.map (Value.int .i64) := fun r k L hr hk => by
  subst hk
  refine List.ext_getElem? fun j => ?_
  by_cases hj : j < L.length
  ·rw [arrCells_get _ _ _ _ _ _ hj, List.getElem?_map, List.getElem?_eq_getElem hj]
   show some (Value.int .i64 ((E.row r).getD j 0)) = _
   rw [hr, List.getD_eq_getElem?_getD, List.getElem?_eq_getElem hj]
   rfl
  ·rw [List.getElem?_eq_none (by rw [arrCells_len]; omega), List.getElem?_eq_none (by rw [List.length_map]; omega)]
 have hlen : (ev E (lenS true)).toNat = L1.length := by
  show ((n : Int) * 3).toNat = _
  rw [hn]
  show _ = 3 * n
  omega
 have htl : (ev E (tailV true)).toNat = L2.length := by
  show ((t : Int) * 3).toNat = _
  rw [h2n]
  show _ = 3 * t
  omega
 have hd : dl E (entV true 8 7).c = (L1 ++ L2).map (Value.int .i64) := by
  show arrCells E .i64 8 (ev E (lenS true)).toNat .nil ++ (arrCells E .i64 7 (ev E (tailV true)).toNat .nil ++ []) = _
  rw [List.append_nil, arr 8 _ L1 r8 hlen, arr 7 _ L2 r7 htl, List.map_append]
 have hm : MemOk (fun x => x = b) w E (memV true) w := by
  refine ⟨⟨hE, fun f hf => ?_, fun _ h => (by cases h)⟩, rfl, fun e he => ?_, List.pairwise_singleton _ _, fun e he _ => ?_, Ext.refl _ _, rfl⟩
  ·replace hf : f ∈ factV true := hf
   simp only [factV, List.mem_cons, List.not_mem_nil, or_false] at hf
   rcases hf with rfl | rfl | rfl
   ·show (0 : Int) ≤ n ∧ (n : Int) ≤ 8796093021953
    omega
   ·show (0 : Int) ≤ cap ∧ (cap : Int) ≤ hi64
    omega
   ·show (0 : Int) ≤ t ∧ (t : Int) ≤ hi64
    omega
  ·rcases List.mem_singleton.1 he with rfl
   refine ⟨hlt, fun h => (by cases h), fun _ => ⟨⟨rfl, rfl⟩, ?_⟩, fun h => (by cases h)⟩
   rw [hd]
   exact hb
  ·rcases List.mem_singleton.1 he with rfl
   exact .inr rfl
 obtain ⟨outs, ho, hall⟩ := allOf_ok (runV2)
 have call := runV_ok (G := G) _ w E [argV] (memV true) outs w rfl ho hm
 have ha : (([argV] : List SV).map (dv E)).toArray = #[.slice (some ⟨b, 0, none⟩) n cap] := by
  show #[Value.slice (some ⟨b + 0, 0 + (0 : Int).toNat, none⟩) ((n : Int)).toNat ((cap : Int)).toNat] = _
  simp
 rw [ha] at call
 refine call.mono ?_
 rintro e w' ⟨q, hq, E', hL, rfl, hm'⟩
 have hk := hall q hq
 unfold chkV at hk
 simp only [Bool.and_eq_true] at hk
 obtain ⟨k1, k2, k3⟩ := hk
 refine ⟨hm'.ext, ?_, ?_⟩
 ·have := hm'.size
  rw [Nat.eq_of_beq_eq_true k2, Nat.eq_of_beq_eq_true k3, hL.agree.base 0 (by show 0 < 60; omega)] at this
  exact this
 ·split at k1
  ·rename_i hq1
   rw [hq1]
   rfl
  ·cases k1
noncomputable def lenC : SV → IE
 | .cons (.int _ _) r => .add (.lit 1) (lenC r)
 | .cons (.arr _ _ n _) r => .add n (lenC r)
 | _ => .lit 0
noncomputable def lenP (kn : Know) : SV → Bool
 | .cons (.int _ _) r => lenP kn r
 | .cons (.arr _ _ n _) r => nonneg kn n && lenP kn r
 | _ => true
theorem lenC_ok {E : Env} {kn : Know} (hk : KnowOk E kn) : ∀ c : SV, intsR kn c = true → lenP kn c = true → ((dl E c).length : Int) = ev E (lenC c) := by
 intro c
 induction c with
 | nil => intro _ _; rfl
 | cons a r _ ih =>
  intro h hp
  cases a with
  | int k e =>
   simp only [intsR, Bool.and_eq_true] at h
   show (([Value.int k (ev E e)] ++ dl E r).length : Int) = ev E (.add (.lit 1) (lenC r))
   rw [ev_add, ev_lit, ← ih h.2.2 hp, List.length_append]
   simp
  | arr k q n ws =>
   simp only [intsR, Bool.and_eq_true] at h
   simp only [lenP, Bool.and_eq_true] at hp
   have hn := nonneg_ok hk hp.1
   show ((arrCells E k q (ev E n).toNat ws ++ dl E r).length : Int) = ev E (.add n (lenC r))
   rw [ev_add, ← ih h.2.2 hp.2, List.length_append, arrCells_len]
   omega
  | _ => simp [intsR] at h
 | _ => intro h; simp [intsR] at h
noncomputable def formV (args : List SV) (m : Mem) : Option (Nat × Nat) := match args with
 | [.sli s k (.lit (.ofNat 0)) len cap] => match m.find s k with
  | some e => match headC m.know e.c (cond true (mkMul len (.lit 3)) len), dropC m.know e.c (cond true (mkMul len (.lit 3)) len) with
   | some c1, some c2 => cond (!e.ro && (Nat.beq e.t (cond true 56 3) && (factIn m.know len 0 8796093021953 && (factIn m.know cap 0 hi64 && (intsR m.know c1 && (intsR m.know c2 && (lenP m.know c2 && (sameK m.know (lenC c2) (cond true (mkMul (mkSub cap len) (.lit 3)) (mkSub cap len)) && factIn m.know (mkSub cap len) 0 hi64)))))))) (some (s, k)) none
   | _, _ => none
  | none => none
 | _ => none
noncomputable def spoilX : List SV → X SV := fun args m => match formV args m with
 | some (s, k) => nfSp (m.without [(s, k)]).heap fun h => some [(.tup .nil, { m with heap := h })]
 | none => fun0 17 args m
theorem spoilX_ok {G : Gf} (hG : ∀ f l, in64 (G f l)) : SpecOk G Try.prog 17 spoilX := by
 intro F w0 E args m outs w hgf ho hm
 unfold spoilX at ho
 split at ho
 case h_2 => exact fun0_ok 17 F w0 E args m outs w hgf ho hm
 rename_i s0 k0 hform
 rw [nfSp_eq] at ho
 cases ho
 unfold formV at hform
 split at hform
 case h_2 => cases hform
 rename_i s k len cap
 split at hform
 case h_2 => cases hform
 rename_i e he
 split at hform
 case h_2 => cases hform
 rename_i c1 c2 hh hd
 generalize hc : (!e.ro && _ : Bool) = c at hform
 cases c with
 | false => cases hform
 | true =>
 cases hform
 simp only [Bool.and_eq_true, Bool.not_eq_true'] at hc
 obtain ⟨c3, c4, c5, c6, c7, c8, c9, c11, c10⟩ := hc
 obtain ⟨k1, k2, k3⟩ := Mem.find_ok he
 have c4 := Nat.eq_of_beq_eq_true c4
 have c5 := factIn_ok hm.know c5
 have c6 := factIn_ok hm.know c6
 have c10 := factIn_ok hm.know c10
 have c11 := sameK_ok hm.know c11
 obtain ⟨L1, a1, a2⟩ := intsR_ok hm.know c1 c7
 obtain ⟨L2, b1, b2⟩ := intsR_ok hm.know c2 c8
 have hl2 := lenC_ok hm.know c2 c8 c9
 obtain ⟨_, t1, t2⟩ := headC_ok hm.know _ _ _ hh
 obtain ⟨_, d1⟩ := dropC_ok hm.know _ _ _ hd
 have ok := hm.ents e k1
 obtain ⟨⟨o1, _⟩, o2⟩ := ok.own c3
 have hcat : dl E e.c = (L1 ++ L2).map (Value.int .i64) := by
  rw [List.map_append, ← a1, ← b1, t1, d1, List.take_append_drop]
 have hn : L1.length = times true * (ev E len).toNat := by
  have h5 : L1.length = (dl E c1).length := by rw [a1, List.length_map]
  rw [h5, t1, List.length_take]
  revert t2
  show (ev E (mkMul len (.lit 3))).toNat ≤ _ → min (ev E (mkMul len (.lit 3))).toNat _ = 3 * (ev E len).toNat
  rw [mkMul_ok, ev_lit]
  omega
 have hblk : e.blk E = E.base s0 + k0 := by unfold Ent.blk; rw [k2, k3]
 have call := semV (G := G) hG (L1 := L1) (L2 := L2) (n := (ev E len).toNat) (b := e.blk E) (cap := (ev E cap).toNat) (w := w) hn (by rw [o2, hcat, c4]) a2 b2 (by omega) (by omega) (t := (ev E (mkSub cap len)).toNat) (by
  have h6 : L2.length = (dl E c2).length := by rw [b1, List.length_map]
  rw [c11, ← h6] at hl2
  revert hl2
  show (L2.length : Int) = ev E (mkMul (mkSub cap len) (.lit 3)) → L2.length = 3 * (ev E (mkSub cap len)).toNat
  rw [mkMul_ok, ev_lit]
  omega) (by omega)
 have ha : (([.sli s0 k0 (.lit (.ofNat 0)) len cap] : List SV).map (dv E)).toArray = #[.slice (some ⟨e.blk E, 0, none⟩) (ev E len).toNat (ev E cap).toNat] := by
  show #[Value.slice (some ⟨E.base s0 + k0, E.o s0 + (0 : Int).toNat, none⟩) (ev E len).toNat (ev E cap).toNat] = _
  rw [hblk, ← k2, o1]
  rfl
 rw [ha]
 refine call.mono ?_
 rintro e' w' ⟨hx, hsz, rfl⟩
 have hres := without_grown hm (ks := [(s0, k0)]) (F' := fun x => x = e.blk E) (fun b hb => ⟨e, k1, c3, by rw [k2, k3]; simp, hb.symm⟩) hx (n := 0) (by omega)
 exact ⟨_, List.mem_singleton_self _, E, ⟨Agree.refl _ _, Nat.le_refl _, fun _ => rfl⟩, rfl, hres⟩
end Go.Proofs.Ytofmndcdcchflaa
