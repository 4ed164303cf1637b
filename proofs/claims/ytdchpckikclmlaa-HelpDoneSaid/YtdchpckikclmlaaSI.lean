/- two slices that hold the same numbers: SameInts, SameRetireds. -/
import Derived.Test.YtdchpckikclmlaaSH
namespace Go.Proofs.Ytdchpckikclmlaa
open Go.Sx Go
set_option maxRecDepth 100000
noncomputable def numsIn (kn : Know) : SV → Bool
 | .wr _ x ws => in64S kn x && numsIn kn ws
 | _ => true
theorem numsIn_ok {E : Env} {kn : Know} (hk : KnowOk E kn) (q : Nat) : ∀ {ws : SV}, numsIn kn ws = true → ∀ j, in64 (wsVal E q ws j) := by
 have base : ∀ j, in64 ((E.row q).getD j 0) := fun j => row_ok hk.env q j
 intro ws
 induction ws with
 | wr i x ws ih =>
  intro h j
  unfold numsIn at h
  rw [Bool.and_eq_true] at h
  unfold wsVal
  split
  ·exact in64S_ok hk h.1
  ·exact ih h.2 j
 | _ => intro _ j; exact base j
noncomputable def cx0 : CX := callF (tabJ []) (spOf []) (bxOf []) 400 12
theorem cx0_ok {G : Gf} : CallsOk G Try.prog cx0 := by
 unfold cx0
 rw [callF_eq]
 exact callD_ok noSpecs noBx 400 12
noncomputable def argI1 : SV := .sli 46 0 (.lit 0) (.var 48) (.var 49)
noncomputable def argI2 : SV := .sli 56 0 (.lit 0) (.var 48) (.var 59)
noncomputable def lenI (two : Bool) : IE := cond two (.mul (.var 48) (.lit 3)) (.var 48)
noncomputable def entI (two : Bool) (s : Nat) : Ent := ⟨s, 0, true, 3, .lit 0, .cons (.arr .i64 7 (lenI two) .nil) .nil⟩
noncomputable def factI : List Fact := [(.var 48, 0, 8796093021953), (.var 49, 0, hi64), (.var 59, 0, hi64)]
noncomputable def headI (two : Bool) : HeadP := {
 tm := slotsN 26 [(0, argI1), (1, argI2), (4, .bool (.lit false)), (5, .int .i64 (.var 72))]
 mem := { know := ⟨(.var 72, 0, 8796093021953) :: (.sub (.var 48) (.var 72), 0, hi64) :: factI, []⟩, heap := [entI two 46, entI two 56], seg := 73, next := 0, nv := 80 }
 mu := .sub (.var 48) (.var 72) }
noncomputable def leaveI : LeaveP := { e := .normal, tm := slotsN 26 [(4, .bool (.lit false))], mem := { know := ⟨[], []⟩, heap := [], seg := 73, next := 0, nv := 80 } }
noncomputable def fnI (_two : Bool) : Nat := 20
noncomputable def codeI (_two : Bool) : Code := bodyOf Try.f20
noncomputable def okI : Bool := headOk (tabJ []) cx0 (fun _ => none) none 400 0 (loopBody 0 (codeI false)) 60 [headI false] [leaveI] (headI false)
theorem okI1 : okI = true := by kernel_rfl
noncomputable def loopI : Fr → X (SX × Fr) := loopP 60 [headI false] [leaveI]
noncomputable def runI : List SV → X SV := callF (tabJ []) (spOf []) (bxOf [(fnI false, 0, loopI)]) 400 12 (fnI false)
theorem loopI_ok {G : Gf} : LxOk G Try.prog (fnI false, 0, loopI) := by
 have key : ∀ (c : Code), headOk (tabJ []) cx0 (fun _ => none) none 400 0 c 60 [headI false] [leaveI] (headI false) = true → CodeOk G Try.prog (.block 0 (.loop c)) (loopI) := fun c hc => loopPc_ok (T := tabJ []) (cx := cx0) cx0_ok (jm := none) (fuel := 400) (noBlocks_ok _ _) (fun y hy => by
  rcases List.mem_singleton.1 hy with rfl
  exact ⟨[[]], fun _ _ _ => ⟨[], List.mem_singleton_self _, fun _ h => (by cases h)⟩, fun d hd => (by
   rcases List.mem_singleton.1 hd with rfl
   exact hc)⟩)
 exact lx_ok Try.func20 (c := bodyOf Try.f20) rfl (b := loopBody 0 (codeI false)) (by kernel_rfl) (key _ okI1)
theorem runI_ok {G : Gf} : SpecOk G Try.prog (fnI false) (runI) := callF_ok noSpecs (bxOf_ok (by
 intro y hy
 rcases List.mem_singleton.1 hy with rfl
 exact loopI_ok)) 400 12 _
theorem runI1 : allOf (runI [argI1, argI2] (slMem [entI false 46, entI false 56] factI 60)) isTrue = true := by kernel_rfl
theorem runIs : allOf (runI [argI1, argI2] (slMem [entI false 46, entI false 56] factI 60)) isTrue = true := by
 exact runI1
noncomputable def times (two : Bool) : Nat := cond two 3 1
theorem semI2 {G : Gf} (hG : ∀ f l, in64 (G f l)) {L : List Int} {n b o cap b' o' cap' : Nat} {w : World} (hn : L.length = times false * n) (h1 : RowN w b o L) (h2 : RowN w b' o' L) (h64 : ∀ z ∈ L, in64 z) (hl : n ≤ 8796093021953) (hc : (cap : Int) ≤ hi64) (hc' : (cap' : Int) ≤ hi64) :
  Calls Try.prog (fnI false) #[.slice (some ⟨b, o, none⟩) n cap, .slice (some ⟨b', o', none⟩) n cap'] w fun e w' => Ext (fun _ => False) w w' ∧ e = .returned (.bool true) := by
 let E : Env := { i := fun j => if j = 48 then n else if j = 49 then cap else if j = 59 then cap' else 0, b := fun _ => false, l := fun r => if r = 7 then L else [], base := fun s => if s = 46 then b else if s = 56 then b' else w.heap.size, o := fun s => if s = 46 then o else if s = 56 then o' else 0, v := fun _ => .tuple #[], f := G }
 have hE : E.Ok := by
  refine ⟨fun j => ?_, fun r z hz => ?_, hG⟩
  ·show in64 (if j = 48 then (n : Int) else if j = 49 then (cap : Int) else if j = 59 then (cap' : Int) else 0)
   unfold hi64 at hc hc'
   unfold in64 lo64 hi64
   split <;> (try split) <;> (try split) <;> omega
  ·replace hz : z ∈ (if r = 7 then L else []) := hz
   split at hz
   ·exact h64 z hz
   ·cases hz
 have hrow : E.row 7 = L := by
  rw [Env.row_l (by unfold fixR; omega)]
  rfl
 have hlen : (ev E (lenI false)).toNat = L.length := by
  show ((n : Int)).toNat = _
  rw [hn]
  show _ = 1 * n
  omega
 have ent : ∀ (s bb oo : Nat), E.base s = bb → E.o s = oo → RowN w bb oo L → EntOk E w (entI false s) := fun s bb oo hb ho hr => by
  obtain ⟨n1, n2⟩ := hr
  refine ⟨by show E.base s + 0 < _; rw [hb]; exact n1, fun _ j v hv => ?_, fun h => (by cases h), fun _ x h => (by cases h)⟩
  have hd : dl E (entI false s).c = (List.range L.length).map fun j => Value.int .i64 (L.getD j 0) := by
   show arrCells E .i64 7 (ev E (lenI false)).toNat .nil ++ [] = _
   rw [List.append_nil, hlen]
   unfold arrCells
   refine List.map_congr_left fun j _ => ?_
   show Value.int .i64 ((E.row 7).getD j 0) = _
   rw [hrow]
  rw [hd, List.getElem?_map] at hv
  have hj : j < L.length := by
   rcases Nat.lt_or_ge j L.length with h | h
   ·exact h
   ·rw [List.getElem?_eq_none (by simpa using h)] at hv
    cases hv
  rw [List.getElem?_range hj] at hv
  cases hv
  have := n2 j hj
  show w.cell? ⟨E.base s + 0, E.o s + ((ev E (.lit 0)).toNat + j), none⟩ = _
  rw [ev_lit, hb, ho, show bb + 0 = bb from rfl, show ((0 : Int).toNat + j) = j by simp]
  exact this
 have hf : ∀ f ∈ factI, FactOk E f := fun f hf => by
  unfold factI at hf
  simp only [List.mem_cons, List.not_mem_nil, or_false] at hf
  rcases hf with rfl | rfl | rfl
  ·show (0 : Int) ≤ n ∧ (n : Int) ≤ 8796093021953
   omega
  ·show (0 : Int) ≤ cap ∧ (cap : Int) ≤ hi64
   omega
  ·show (0 : Int) ≤ cap' ∧ (cap' : Int) ≤ hi64
   omega
 obtain ⟨outs, ho, hall⟩ := allOf_ok runIs
 have call := run_ro (runI_ok (G := G)) ho (E := E) (w := w) rfl hE rfl rfl (fun e he => by
  simp only [List.mem_cons, List.not_mem_nil, or_false] at he
  rcases he with rfl | rfl
  ·exact ⟨rfl, ent 46 b o rfl rfl h1⟩
  ·exact ⟨rfl, ent 56 b' o' rfl rfl h2⟩) hf
 have ha : (([argI1, argI2] : List SV).map (dv E)).toArray = #[.slice (some ⟨b, o, none⟩) n cap, .slice (some ⟨b', o', none⟩) n cap'] := by
  show #[Value.slice (some ⟨b + 0, o + (0 : Int).toNat, none⟩) ((n : Int)).toNat ((cap : Int)).toNat, Value.slice (some ⟨b' + 0, o' + (0 : Int).toNat, none⟩) ((n : Int)).toNat ((cap' : Int)).toNat] = _
  simp
 rw [ha] at call
 refine call.mono ?_
 rintro e w' ⟨q, hq', E', _, rfl, hm⟩
 refine ⟨hm.ext, congrArg Ending.returned ?_⟩
 have ht := hall q hq'
 unfold Sx.isTrue at ht
 split at ht
 ·rename_i c hc
  subst ht
  rw [hc]
  rfl
 ·cases ht
noncomputable def intsR (kn : Know) : SV → Bool
 | .nil => true
 | .cons (.int k e) r => Nat.beq (kindNo k) (kindNo .i64) && (in64S kn e && intsR kn r)
 | .cons (.arr k _ _ ws) r => Nat.beq (kindNo k) (kindNo .i64) && (numsIn kn ws && intsR kn r)
 | _ => false
theorem intsR_ok {E : Env} {kn : Know} (hk : KnowOk E kn) : ∀ c : SV, intsR kn c = true → ∃ L : List Int, dl E c = L.map (Value.int .i64) ∧ ∀ z ∈ L, in64 z := by
 intro c
 induction c with
 | nil => intro _; exact ⟨[], rfl, fun _ h => (by cases h)⟩
 | cons a r _ ih =>
  intro h
  cases a with
  | int k e =>
   simp only [intsR, Bool.and_eq_true] at h
   obtain ⟨L, h1, h2⟩ := ih h.2.2
   have hk' := kindNo_eq h.1
   subst hk'
   refine ⟨ev E e :: L, by show [Value.int .i64 (ev E e)] ++ dl E r = _; rw [h1]; rfl, fun z hz => ?_⟩
   rcases List.mem_cons.1 hz with rfl | hz
   ·exact in64S_ok hk h.2.1
   ·exact h2 z hz
  | arr k q n ws =>
   simp only [intsR, Bool.and_eq_true] at h
   obtain ⟨L, h1, h2⟩ := ih h.2.2
   have hk' := kindNo_eq h.1
   subst hk'
   refine ⟨(List.range (ev E n).toNat).map (fun j => wsVal E q ws j) ++ L, ?_, fun z hz => ?_⟩
   ·show arrCells E .i64 q (ev E n).toNat ws ++ dl E r = _
    rw [h1, List.map_append, List.map_map]
    rfl
   ·rcases List.mem_append.1 hz with hz | hz
    ·obtain ⟨j, _, rfl⟩ := List.mem_map.1 hz
     exact numsIn_ok hk q h.2.1 j
    ·exact h2 z hz
  | _ => simp [intsR] at h
 | _ => intro h; simp [intsR] at h
noncomputable def cellsR (m : Mem) : SV → Option SV
 | .sli s k off len cap => match m.find s k with
  | some e => cond (ieEq off e.base && (factIn m.know off 0 hi64 && (factIn m.know len 0 8796093021953 && factIn m.know cap 0 hi64))) (headC m.know e.c (cond false (mkMul len (.lit 3)) len)) none
  | none => none
 | _ => none
theorem cellsR_ok {F : Nat → Prop} {w0 w : World} {E : Env} {m : Mem} (hm : MemOk F w0 E m w) {v c : SV} (h : cellsR m v = some c) :
  ∃ b o n cap : Nat, dv E v = .slice (some ⟨b, o, none⟩) n cap ∧ (n : Int) ≤ 8796093021953 ∧ (cap : Int) ≤ hi64 ∧ (dl E c).length = times false * n ∧ b < w.heap.size ∧ ∀ j x, (dl E c)[j]? = some x → w.cell? ⟨b, o + j, none⟩ = some x := by
 unfold cellsR at h
 split at h
 case h_2 => cases h
 rename_i s k off len cap
 split at h
 case h_2 => cases h
 rename_i e he
 cases hc : (ieEq off e.base && (factIn m.know off 0 hi64 && (factIn m.know len 0 8796093021953 && factIn m.know cap 0 hi64))) with
 | false => rw [hc] at h; cases h
 | true =>
 rw [hc] at h
 dsimp only [cond] at h
 simp only [Bool.and_eq_true] at hc
 obtain ⟨c1, c2, c3, c4⟩ := hc
 obtain ⟨k1, k2, k3⟩ := Mem.find_ok he
 have c1 := ieEq_ok c1
 have c2 := factIn_ok hm.know c2
 have c3 := factIn_ok hm.know c3
 have c4 := factIn_ok hm.know c4
 obtain ⟨h1, h2, h3⟩ := headC_ok hm.know _ _ _ h
 have ok := hm.ents e k1
 have hl : (ev E (cond false (mkMul len (.lit 3)) len)).toNat = times false * (ev E len).toNat := by
  show (ev E len).toNat = 1 * (ev E len).toNat
  omega
 have h2' : dl E c = (dl E e.c).take (ev E (cond false (mkMul len (.lit 3)) len)).toNat := by
  revert h2
  exact fun h => h
 have h3' : (ev E (cond false (mkMul len (.lit 3)) len)).toNat ≤ (dl E e.c).length := by
  revert h3
  exact fun h => h
 refine ⟨E.base s + k, E.o s + (ev E off).toNat, (ev E len).toNat, (ev E cap).toNat, rfl, by omega, by omega, ?_, ?_, fun j x hj => ?_⟩
 ·rw [h2', List.length_take, ← hl]
  omega
 ·have := ok.lt
  unfold Ent.blk at this
  rw [k2, k3] at this
  exact this
 ·rw [h2', List.getElem?_take] at hj
  split at hj
  case isFalse => cases hj
  have := ok.cell j x hj
  rw [← this]
  unfold Ent.blk
  rw [k2, k3, c1, Nat.add_assoc]
noncomputable def formI2 (args : List SV) (m : Mem) : Option (SV × List Fact) := match args with
 | [v1, v2] => match cellsR m v1, cellsR m v2 with
  | some c1, some c2 => cond (intsR m.know c1 && (sameC c1 c2 || sameCN m.know c1 c2)) (some (.bool (.lit true), [])) none
  | _, _ => none
 | _ => none
theorem sameI2_ok {G : Gf} (hG : ∀ f l, in64 (G f l)) : SpecOk G Try.prog (fnI false) (pureX (formI2)) := pureX_ok fun F w0 E args m w v fs hgf hm hf => by
 unfold formI2 at hf
 split at hf
 case h_2 => cases hf
 rename_i v1 v2
 split at hf
 case h_2 => cases hf
 rename_i c1 c2 h1 h2
 cases hc : (intsR m.know c1 && (sameC c1 c2 || sameCN m.know c1 c2)) with
 | false => rw [hc] at hf; cases hf
 | true =>
 rw [hc] at hf
 cases hf
 rw [Bool.and_eq_true, Bool.or_eq_true] at hc
 obtain ⟨L, l1, l2⟩ := intsR_ok hm.know c1 hc.1
 have hsame : dl E c1 = dl E c2 := hc.2.elim sameC_ok (sameCN_ok hm.know)
 obtain ⟨b, o, n, cap, d1, n1, k1, g1, s1, e1⟩ := cellsR_ok hm h1
 obtain ⟨b', o', n', cap', d2, _, k2, g2, s2, e2⟩ := cellsR_ok hm h2
 have hL : L.length = times false * n := by rw [← g1, l1, List.length_map]
 have hnn : n' = n := by
  rw [← hsame, g1] at g2
  unfold times at g2
  dsimp only [cond] at g2
  omega
 subst hnn
 have cell : ∀ j, j < L.length → (dl E c1)[j]? = some (.int .i64 (L.getD j 0)) := fun j hj => by
  rw [l1, List.getElem?_map, List.getElem?_eq_getElem hj, List.getD_eq_getElem?_getD, List.getElem?_eq_getElem hj]
  rfl
 have call := semI2 (G := G) hG hL (w := w) ⟨s1, fun j hj => e1 j _ (cell j hj)⟩ ⟨s2, fun j hj => e2 j _ (by rw [← hsame]; exact cell j hj)⟩ l2 (by omega) k1 k2
 refine ⟨?_, fun _ h => (by cases h)⟩
 rw [show (([v1, v2] : List SV).map (dv E)).toArray = #[.slice (some ⟨b, o, none⟩) n' cap, .slice (some ⟨b', o', none⟩) n' cap'] by
  show #[dv E v1, dv E v2] = _
  rw [d1, d2]]
 exact call
noncomputable def sameX : List SV → X SV := orX (pureX (formI2)) (fun0 (fnI false))
theorem sameX_ok {G : Gf} (hG : ∀ f l, in64 (G f l)) : SpecOk G Try.prog (fnI false) (sameX) := orX_ok (sameI2_ok hG) (fun0_ok _)
end Go.Proofs.Ytdchpckikclmlaa
