/- the row of the free slots, by unknown functions of the thirteen words. -/
import Derived.Test.YtalkfdkcimfmpaaC
namespace Go.Proofs.Ytalkfdkcimfmpaa
open Go.Sx Go Go.FreeInv
set_option maxRecDepth 100000
noncomputable def spC : List (Nat × (List SV → X SV)) := [(63, getX), (47, hdX), (38, isX), (36, hrX), (60, wdX)]
theorem okSpC : ∀ x ∈ spC, SpecOk G0 Try.prog x.1 x.2 := cons_ok (a := (63, getX)) getX_ok (cons_ok (a := (47, hdX)) hdX_ok (cons_ok (a := (38, isX)) isX_ok (cons_ok (a := (36, hrX)) hrX_ok (one_ok (a := (60, wdX)) wdX_ok))))
noncomputable def cxC : CX := callF (tabJ []) (spOf spC) (bxOf []) 400 12
theorem cxC_ok : CallsOk G0 Try.prog cxC := by
 unfold cxC
 rw [callF_eq]
 exact callD_ok (spOf_ok okSpC) noBx 400 12
noncomputable def mRowC : Fr → X (SX × Fr) := mergeB (tabJ []) cxC (fun _ => none) none 400 [0, 1, 4, 5, 6] 6 0 40 (theBlock 1 (bodyOf Try.f48))
theorem mRowC_ok : LxOk G0 Try.prog (48, 1, mRowC) := lxB_ok Try.func48 (c := bodyOf Try.f48) rfl (b := theBlock 1 (bodyOf Try.f48)) (by kernel_rfl) (mergeB_ok cxC_ok 400 [0, 1, 4, 5, 6] 6 0 40 (noBlocks_ok _ _))
noncomputable def mRowD : Fr → X (SX × Fr) := mergeB (tabJ []) cxC (fun _ => none) none 400 [0, 2, 3, 4, 5, 6, 7] 7 0 40 (theBlock 1 (bodyOf Try.f20))
theorem mRowD_ok : LxOk G0 Try.prog (20, 1, mRowD) := lxB_ok Try.func20 (c := bodyOf Try.f20) rfl (b := theBlock 1 (bodyOf Try.f20)) (by kernel_rfl) (mergeB_ok cxC_ok 400 [0, 2, 3, 4, 5, 6, 7] 7 0 40 (noBlocks_ok _ _))
noncomputable def funRow (f : Nat) : List SV → X SV := callF (tabJ []) (spOf spC) (bxOf [(48, 1, mRowC), (20, 1, mRowD)]) 400 12 f
theorem funRow_ok (f : Nat) : SpecOk G0 Try.prog f (funRow f) := callF_ok (spOf_ok okSpC) (bxOf_ok (by
 intro y hy
 rcases List.mem_cons.1 hy with rfl | hy
 ·exact mRowC_ok
 ·rcases List.mem_singleton.1 hy with rfl
  exact mRowD_ok)) 400 12 f
noncomputable def hIE : IE := .sel 20 (.lit 16)
noncomputable def xIE (f : IE) : IE := .sel 20 (mkAdd f (.lit 16))
noncomputable def walkS (kn : Know) : Nat → IE → Option (Option (List IE))
 | n, f => cond (yes kn (.eq f (.lit 0))) (some (some [])) (cond (nay kn (.eq f (.lit 0))) (match n with
  | 0 => some none
  | n + 1 => cond (yes kn (c715 (xIE f))) (cond (nay kn (.lt (.lit 12) (f1 716 (xIE f)))) (match walkS kn n (f1 716 (xIE f)) with
    | some (some l) => some (some (mkAdd f (.lit (-1)) :: l))
    | o => o) (cond (yes kn (.lt (.lit 12) (f1 716 (xIE f)))) (some none) none)) (cond (nay kn (c715 (xIE f))) (some none) none)) none)
noncomputable def rowS (kn : Know) : Option (Option (List IE)) := cond (yes kn (c717 hIE)) (walkS kn 12 (f1 720 hIE)) (cond (nay kn (c717 hIE)) (some none) none)
def words13 (N : List Int) : List Int := (List.range 13).map fun i => N.getD (16 + i) 0
theorem words13_at (N : List Int) {j : Nat} (h : j < 13) : (words13 N).getD j 0 = N.getD (16 + j) 0 := by
 unfold words13
 rw [List.getD_eq_getElem?_getD, List.getElem?_map, List.getElem?_range h]
 rfl
theorem walkS_ok {E : Env} {kn : Know} (hk : KnowOk E kn) (hgf : E.f = G0) {N : List Int} (hN : E.row 20 = N) : ∀ (n : Nat) (f : IE) (o : Option (List IE)), 0 ≤ ev E f → ev E f ≤ 12 → walkS kn n f = some o → rowGo (words13 N) n (ev E f) = o.map fun l => l.map (ev E)
 | n, f, o, h0, h1, h => by
  have hx : ev E (xIE f) = (words13 N).getD (ev E f).toNat 0 := by
   rw [words13_at N (by omega)]
   unfold xIE
   rw [ev_sel, hN, mkAdd_ok, ev_lit]
   congr 1
   omega
  unfold walkS at h
  unfold rowGo
  cases h2 : yes kn (.eq f (.lit 0)) with
  | true =>
   rw [h2] at h
   cases h
   have h2 : decide (ev E f = 0) = true := yes_ok hk h2
   rw [if_pos (of_decide_eq_true h2)]
   rfl
  | false =>
  rw [h2] at h
  dsimp only [cond] at h
  cases h3 : nay kn (.eq f (.lit 0)) with
  | false => rw [h3] at h; cases h
  | true =>
  rw [h3] at h
  have h3 : decide (ev E f = 0) = false := nay_ok hk h3
  rw [if_neg (of_decide_eq_false h3)]
  cases n with
  | zero => cases h; rfl
  | succ n =>
  dsimp only [cond] at h ⊢
  rw [valZ_eq, ← hx]
  cases h4 : yes kn (c715 (xIE f)) with
  | false =>
   rw [h4] at h
   dsimp only at h
   cases h5 : nay kn (c715 (xIE f)) with
   | false => rw [h5] at h; cases h
   | true =>
    rw [h5] at h
    cases h
    have h5 := nay_ok hk h5
    rw [c715_ev hgf] at h5
    rw [h5]
    rfl
  | true =>
  rw [h4] at h
  dsimp only at h
  have h4 := yes_ok hk h4
  rw [c715_ev hgf] at h4
  rw [h4, if_pos rfl]
  dsimp only
  cases h6 : nay kn (.lt (.lit 12) (f1 716 (xIE f))) with
  | false =>
   rw [h6] at h
   dsimp only at h
   cases h7 : yes kn (.lt (.lit 12) (f1 716 (xIE f))) with
   | false => rw [h7] at h; cases h
   | true =>
    rw [h7] at h
    cases h
    have h7 : decide ((12 : Int) < ev E (f1 716 (xIE f))) = true := yes_ok hk h7
    rw [decide_eq_true_eq, f716 hgf] at h7
    rw [if_neg (by omega)]
    rfl
  | true =>
   rw [h6] at h
   dsimp only at h
   have h6 : decide ((12 : Int) < ev E (f1 716 (xIE f))) = false := nay_ok hk h6
   rw [decide_eq_false_iff_not, f716 hgf] at h6
   rw [if_pos (by omega), ← f716 hgf]
   cases h8 : walkS kn n (f1 716 (xIE f)) with
   | none => rw [h8] at h; cases h
   | some o' =>
   have ih := walkS_ok hk hgf hN n (f1 716 (xIE f)) o' (by rw [f716 hgf]; exact (numOf_in _).1) (by rw [f716 hgf]; omega) h8
   rw [h8] at h
   rw [ih]
   cases o' with
   | none => cases h; rfl
   | some l =>
    cases h
    show some ((ev E f - 1) :: l.map (ev E)) = some (ev E (mkAdd f (.lit (-1))) :: l.map (ev E))
    rw [mkAdd_ok, ev_lit]
    rfl
theorem rowS_ok {E : Env} {kn : Know} (hk : KnowOk E kn) (hgf : E.f = G0) {N : List Int} (hN : E.row 20 = N) {o : Option (List IE)} (h : rowS kn = some o) : rowZ (words13 N) = o.map fun l => l.map (ev E) := by
 have hx : ev E hIE = (words13 N).getD 0 0 := by
  rw [words13_at N (by omega)]
  unfold hIE
  rw [ev_sel, hN]
  rfl
 unfold rowS at h
 unfold rowZ
 rw [valZ_eq, ← hx]
 cases h1 : yes kn (c717 hIE) with
 | true =>
  rw [h1] at h
  dsimp only [cond] at h
  have h1 := yes_ok hk h1
  rw [c717_ev hgf] at h1
  have h2 := isH_in h1
  have hv : isV (ev E hIE) = true := by
   unfold isH at h1
   rw [Bool.and_eq_true] at h1
   exact h1.1
  rw [hv, if_pos rfl]
  dsimp only
  rw [if_pos h2, ← f720 hgf]
  have h3 := numOf_in (ev E hIE)
  exact walkS_ok hk hgf hN 12 _ o (by rw [f720 hgf]; omega) (by rw [f720 hgf]; omega) h
 | false =>
 rw [h1] at h
 dsimp only [cond] at h
 cases h2 : nay kn (c717 hIE) with
 | false => rw [h2] at h; cases h
 | true =>
  rw [h2] at h
  cases h
  have h2 := nay_ok hk h2
  rw [c717_ev hgf] at h2
  cases hv : isV (ev E hIE) with
  | false => rfl
  | true =>
   rw [if_pos rfl]
   dsimp only
   rw [if_neg]
   ·rfl
   ·intro hh
    unfold isH at h2
    rw [hv, Bool.true_and] at h2
    exact of_decide_eq_false h2 hh
noncomputable def cellsN (kn : Know) (c : Nat) (n : Int) : List IE → SV → Bool
 | [], .cons (.arr .i64 0 e .nil) .nil => sameK kn e (.add (.var c) (.lit (-n)))
 | e :: l, .cons (.int .i64 x) r => sameK kn x e && cellsN kn c n l r
 | _, _ => false
theorem cellsN_ok {E : Env} {kn : Know} (hk : KnowOk E kn) {c cap : Nat} {n : Int} (hc : E.i c = cap) (h0 : 0 ≤ n) (hn : n ≤ cap) : ∀ {l : List IE} {v : SV}, cellsN kn c n l v = true → dl E v = l.map (fun e => Value.int .i64 (ev E e)) ++ List.replicate (cap - n.toNat) (Value.int .i64 0)
 | [], v, h => by
  unfold cellsN at h
  split at h
  ·rename_i e heq
   have := sameK_ok hk h
   rw [List.map_nil, List.nil_append, ← tailI_dl hc h0 hn]
   show arrCells E .i64 0 (ev E e).toNat .nil ++ [] = arrCells E .i64 0 (ev E (.add (.var c) (.lit (-n)))).toNat .nil ++ []
   rw [this]
  ·rename_i heq; cases heq
  ·cases h
 | e :: l, v, h => by
  unfold cellsN at h
  split at h
  ·rename_i heq; cases heq
  ·rename_i e' l' x r heq
   cases heq
   rw [Bool.and_eq_true] at h
   have h1 := sameK_ok hk h.1
   show [Value.int .i64 (ev E x)] ++ dl E r = _
   rw [cellsN_ok hk hc h0 hn h.2, h1]
   rfl
  ·cases h
noncomputable def chkRow (q : SV × Mem) : Bool := match rowS q.2.know, q.1 with
 | some none, .tup (.cons .nils (.cons (.int .i64 (.lit (.ofNat 1000))) .nil)) => true
 | some (some []), .tup (.cons .nils (.cons (.int .i64 (.lit (.ofNat 0))) .nil)) => true
 | some (some (e :: l)), .tup (.cons (.sli s k (.lit (.ofNat 0)) (.lit n) (.var c)) (.cons (.int .i64 (.lit (.ofNat 0))) .nil)) => zEq n (l.length + 1 : Nat) && (factIn q.2.know (.var c) n hi64 && (match q.2.find s k with
  | some en => !en.ro && (Nat.beq en.t 3 && (Nat.ble 60 s && cellsN q.2.know c n (e :: l) en.c))
  | none => false))
 | _, _ => false
def RowRes (w : World) (L : Option (List Int)) (e : Ending) (w' : World) : Prop := match L with
 | none => e = .returned (.tuple #[.slice none 0 0, .int .i64 1000])
 | some [] => e = .returned (.tuple #[.slice none 0 0, .int .i64 0])
 | some (z :: l) => ∃ bl cap : Nat, w.heap.size ≤ bl ∧ bl < w'.heap.size ∧ l.length + 1 ≤ cap ∧ (cap : Int) ≤ hi64 ∧ w'.heap[bl]? = some (.cells ((z :: l).map (Value.int .i64) ++ List.replicate (cap - (l.length + 1)) (Value.int .i64 0)).toArray 3 (0, 0)) ∧ e = .returned (.tuple #[.slice (some ⟨bl, 0, none⟩) (l.length + 1) cap, .int .i64 0])
noncomputable def arW : Ent := ⟨46, 0, true, 107, .lit 0, .cons (.arr .i64 20 (.lit 634) .nil) .nil⟩
theorem row_run19 : allOf (funRow 19 [.ptr 46 0 (.lit 0)] (slMem [arW] [] 60)) chkRow = true := by kernel_rfl
theorem row_run20 : allOf (funRow 20 [.ptr 46 0 (.lit 0)] (slMem [arW] [] 60)) chkRow = true := by kernel_rfl
theorem chkRow_ok {w w' : World} {E : Env} {q : SV × Mem} {N : List Int} (hgf : E.f = G0) (hN : E.row 20 = N) (hm : MemOk (fun _ => False) w E q.2 w') (h : chkRow q = true) : RowRes w (rowZ (words13 N)) (.returned (dv E q.1)) w' := by
 have hk := hm.know
 unfold chkRow at h
 split at h
 ·rename_i h1 h2
  rw [rowS_ok hk hgf hN h1, h2]
  rfl
 ·rename_i h1 h2
  rw [rowS_ok hk hgf hN h1, h2]
  rfl
 ·rename_i e l s k n c h1 h2
  rw [rowS_ok hk hgf hN h1, h2]
  simp only [Bool.and_eq_true] at h
  obtain ⟨g1, g2, g3⟩ := h
  have g1 := zEq_ok g1
  have g2 := factIn_ok hk g2
  split at g3
  case h_2 => cases g3
  rename_i en hf
  simp only [Bool.and_eq_true, Bool.not_eq_true'] at g3
  obtain ⟨r1, r2, r3, r4⟩ := g3
  have r2 := Nat.eq_of_beq_eq_true r2
  obtain ⟨f1, f2, f3⟩ := Mem.find_ok hf
  have he := hm.ents en f1
  obtain ⟨⟨o1, o2⟩, o3⟩ := he.own r1
  have hmine := hm.mine en f1 r1
  have hblk : en.blk E = E.base s + k := by unfold Ent.blk; rw [f2, f3]
  have g2 : n ≤ E.i c ∧ E.i c ≤ hi64 := g2
  refine ⟨E.base s + k, (E.i c).toNat, ?_, ?_, ?_, ?_, ?_, ?_⟩
  ·rcases hmine with h | h
   ·rw [← hblk]; exact h
   ·exact absurd h (fun h => h)
  ·rw [← hblk]; exact he.lt
  ·show (l.map (ev E)).length + 1 ≤ _
   rw [List.length_map]
   omega
  ·have := g2.1
   omega
  ·rw [← hblk, o3, r2]
   have hcells := cellsN_ok hk (c := c) (cap := (E.i c).toNat) (n := n) (by omega) (by omega) (by omega) r4
   rw [hcells]
   show some (Obj.cells ((e :: l).map (fun e => Value.int .i64 (ev E e)) ++ _).toArray 3 (0, 0)) = some (Obj.cells ((ev E e :: l.map (ev E)).map (Value.int .i64) ++ List.replicate ((E.i c).toNat - ((l.map (ev E)).length + 1)) _).toArray 3 (0, 0))
   rw [List.length_map, g1, Int.toNat_natCast]
   congr 4
   rw [List.map_cons, List.map_cons, List.map_map]
   rfl
  ·show Ending.returned (.tuple #[.slice (some ⟨E.base s + k, E.o s + (0 : Int).toNat, none⟩) n.toNat (E.i c).toNat, .int .i64 0]) = _
   rw [← f2, o1, g1]
   show Ending.returned (.tuple #[.slice (some ⟨E.base en.s + k, 0, none⟩) (l.length + 1) (E.i c).toNat, .int .i64 0]) = Ending.returned (.tuple #[.slice (some ⟨E.base en.s + k, 0, none⟩) ((l.map (ev E)).length + 1) (E.i c).toNat, .int .i64 0])
   rw [List.length_map]
 ·cases h
def SemRow (f : Nat) : Prop := ∀ (w : World) (b : Nat) (N : List Int), (∀ z ∈ N, in64 z) → b < w.heap.size → (∀ j, j < 634 → w.cell? ⟨b, j, none⟩ = some (.int .i64 (N.getD j 0))) →
 Calls Try.prog f #[.pointer (some ⟨b, 0, none⟩)] w fun e w' => Ext (fun _ => False) w w' ∧ RowRes w (rowZ (words13 N)) e w'
noncomputable def envR (w : World) (b : Nat) (N : List Int) : Env := { i := fun _ => 0, b := fun _ => false, l := fun r => if r = 20 then N else [], base := fun s => if s = 46 then b else w.heap.size, o := fun _ => 0, v := fun _ => .tuple #[], f := G0 }
theorem sem_row {f : Nat} (hrun : allOf (funRow f [.ptr 46 0 (.lit 0)] (slMem [arW] [] 60)) chkRow = true) : SemRow f := by
 intro w b N h64 hb hcells
 obtain ⟨outs, ho, hall⟩ := allOf_ok hrun
 have hE : (envR w b N).Ok := by
  refine ⟨fun _ => (show in64 0 by constructor <;> decide), fun r z hz => ?_, G0_in⟩
  replace hz : z ∈ (if r = 20 then N else []) := hz
  split at hz
  ·exact h64 z hz
  ·cases hz
 refine (run_ro (funRow_ok f) ho (E := envR w b N) (w := w) rfl hE rfl rfl (fun e he => by
  rcases List.mem_singleton.1 he with rfl
  refine ⟨rfl, ⟨hb, fun _ j v hv => ?_, fun h => (by cases h), fun _ x h => (by cases h)⟩⟩
  have hd : dl (envR w b N) arW.c = (List.range 634).map fun j => Value.int .i64 (N.getD j 0) := by
   show arrCells (envR w b N) .i64 20 634 .nil ++ [] = _
   rw [List.append_nil]
   rfl
  rw [hd, List.getElem?_map] at hv
  have hj : j < 634 := by
   rcases Nat.lt_or_ge j 634 with h | h
   ·exact h
   ·rw [List.getElem?_eq_none (by simpa using h)] at hv
    cases hv
  rw [List.getElem?_range hj] at hv
  cases hv
  show w.cell? ⟨b + 0, 0 + ((0 : Int).toNat + j), none⟩ = _
  rw [show b + 0 = b from rfl, show 0 + ((0 : Int).toNat + j) = j by simp]
  exact hcells j hj) (fun _ h => (by cases h))).mono ?_
 rintro e w' ⟨q, hq, E', hA, rfl, hm⟩
 refine ⟨hm.ext, chkRow_ok (hA.f.trans rfl) ?_ hm (hall q hq)⟩
 show (if (20 : Nat) = 0 then _ else E'.l 20) = N
 rw [if_neg (by decide), hA.l 20 (by omega)]
 rfl
theorem sem19 : SemRow 19 := sem_row row_run19
theorem sem20 : SemRow 20 := sem_row row_run20
noncomputable def numsIn (kn : Know) : SV → Bool
 | .wr _ x ws => in64S kn x && numsIn kn ws
 | _ => true
theorem numsIn_ok {E : Env} {kn : Know} (hk : KnowOk E kn) (q : Nat) : ∀ {ws : SV}, numsIn kn ws = true → ∀ j, in64 (wsVal E q ws j) := by
 have base : ∀ j, in64 ((E.row q).getD j 0) := fun j => by
  rw [List.getD_eq_getElem?_getD]
  cases hq : (E.row q)[j]? with
  | none => constructor <;> decide
  | some z =>
   have hz := List.mem_of_getElem? hq
   unfold Env.row at hz
   split at hz
   ·cases hz
   ·exact hk.env.l q z hz
 intro ws
 induction ws with
 | wr i x ws ih =>
  intro h j
  unfold numsIn at h
  rw [Bool.and_eq_true] at h
  unfold wsVal
  split
  ·exact in64S_ok hk h.1
  ·exact ih h.2 j
 | _ => intro _ j; exact base j
noncomputable def argsE : List IE → IE
 | [] => .noarg
 | e :: l => .arg e (argsE l)
theorem argsE_ev (E : Env) : ∀ l : List IE, evA E (argsE l) = l.map (ev E)
 | [] => rfl
 | e :: l => by
  unfold argsE
  rw [evA_arg, argsE_ev E l]
  rfl
noncomputable def cellsE (r : Nat) (ws : SV) : List Nat → Option (List IE)
 | [] => some []
 | j :: l => match cellVo r ws j, cellsE r ws l with
  | some e, some l => some (e :: l)
  | _, _ => none
theorem cellsE_ok (E : Env) (r : Nat) (ws : SV) : ∀ {l : List Nat} {es : List IE}, cellsE r ws l = some es → es.map (ev E) = l.map (wsVal E r ws)
 | [], es, h => by cases h; rfl
 | j :: l, es, h => by
  unfold cellsE at h
  split at h
  ·rename_i e l' h1 h2
   cases h
   rw [List.map_cons, List.map_cons, cellsE_ok E r ws h2, cellVo_ok E r ws j e h1]
  ·cases h
def idx13 : List Nat := [16, 17, 18, 19, 20, 21, 22, 23, 24, 25, 26, 27, 28]
noncomputable def argR (args : List SV) (m : Mem) : Option IE := match args with
 | [.ptr s k (.lit (.ofNat 0))] => match m.find s k with
  | some e => cond (!e.ro) (match e.c with
   | .cons (.arr .i64 r (.lit (.ofNat 634)) ws) _ => cond (numsIn m.know ws) (match cellsE r ws idx13 with
    | some l => some (argsE l)
    | none => none) none
   | _ => none) none
  | none => none
 | _ => none
theorem argR_ok {f : Nat} (sem : SemRow f) {F : Nat → Prop} {w0 : World} {E : Env} {args : List SV} {m : Mem} {w : World} {A : IE} (hm : MemOk F w0 E m w) (h : argR args m = some A) :
  Calls Try.prog f (args.map (dv E)).toArray w fun e w' => Ext (fun _ => False) w w' ∧ RowRes w (rowZ (evA E A)) e w' := by
 unfold argR at h
 split at h
 case h_2 => cases h
 rename_i s k
 split at h
 case h_2 => cases h
 rename_i e hf
 cases hr : e.ro with
 | true => rw [hr] at h; cases h
 | false =>
 rw [hr] at h
 simp only [Bool.not_false, cond_true] at h
 split at h
 case h_2 => cases h
 rename_i r ws rest hc
 cases hin : numsIn m.know ws with
 | false => rw [hin] at h; cases h
 | true =>
 rw [hin] at h
 simp only [cond_true] at h
 split at h
 case h_2 => cases h
 rename_i l hl
 cases h
 obtain ⟨f1, f2, f3⟩ := Mem.find_ok hf
 have he := hm.ents e f1
 obtain ⟨⟨o1, o2⟩, o3⟩ := he.own hr
 have hblk : e.blk E = E.base s + k := by unfold Ent.blk; rw [f2, f3]
 have call := sem w (e.blk E) ((List.range 634).map (wsVal E r ws)) (fun z hz => by
  obtain ⟨j, _, rfl⟩ := List.mem_map.1 hz
  exact numsIn_ok hm.know r hin j) he.lt (fun j hj => by
  show (match w.heap[e.blk E]? with | some (.cells cs _ _) => cs[j]? | _ => none) = _
  rw [o3]
  show (dl E e.c).toArray[j]? = _
  rw [List.getElem?_toArray, hc]
  show (arrCells E .i64 r 634 ws ++ dl E rest)[j]? = _
  unfold arrCells
  rw [List.getElem?_append_left (by simpa using hj), List.getElem?_map, List.getElem?_range hj, List.getD_eq_getElem?_getD, List.getElem?_map, List.getElem?_range hj]
  rfl)
 have hw : words13 ((List.range 634).map (wsVal E r ws)) = evA E (argsE l) := by
  rw [argsE_ev, cellsE_ok E r ws hl]
  have : ∀ j, j < 634 → ((List.range 634).map (wsVal E r ws)).getD j 0 = wsVal E r ws j := fun j hj => by
   rw [List.getD_eq_getElem?_getD, List.getElem?_map, List.getElem?_range hj]
   rfl
  unfold words13
  rw [show idx13 = (List.range 13).map (16 + ·) from rfl, List.map_map]
  exact List.map_congr_left fun i hi => this (16 + i) (by have := List.mem_range.1 hi; omega)
 rw [hw] at call
 have ha : (([.ptr s k (.lit (.ofNat 0))] : List SV).map (dv E)).toArray = #[.pointer (some ⟨e.blk E, 0, none⟩)] := by
  show #[Value.pointer (some ⟨E.base s + k, E.o s + (0 : Int).toNat, none⟩)] = _
  rw [hblk, ← f2, o1]
  rfl
 rw [ha]
 exact call
noncomputable def lenZ (L : Option (List Int)) : Int := match L with | some l => l.length | none => -1
theorem f700 {E : Env} (hE : E.f = G0) (A : IE) : ev E (.app 700 A) = lenZ (rowZ (evA E A)) := by
 rw [ev_app, hE]
 show clampZ (lenZ (rowZ (evA E A))) = _
 refine small ?_ ?_
 ·unfold lenZ; split <;> omega
 ·unfold lenZ
  split
  ·rename_i l h
   have := (rowZ_in h).1
   omega
  ·omega
theorem f701 {E : Env} (hE : E.f = G0) (A : IE) {i : Nat} (hi : i < 12) {l : List Int} (hl : rowZ (evA E A) = some l) : ev E (.app (701 + i) A) = l.getD i 0 := by
 rw [ev_app, hE]
 have : fz (701 + i) (evA E A) = l.getD i 0 := by
  unfold fz
  rw [if_neg (by omega), if_pos (by omega), hl, Nat.add_sub_cancel_left]
 show clampZ (fz (701 + i) (evA E A)) = _
 rw [this]
 have hin := (rowZ_in hl).2
 by_cases hh : i < l.length
 ·have := hin (l.getD i 0) (by
   rw [List.getD_eq_getElem?_getD, List.getElem?_eq_getElem hh]
   exact List.getElem_mem hh)
  exact small (by omega) (by omega)
 ·rw [List.getD_eq_getElem?_getD, List.getElem?_eq_none (by omega)]
  exact small (by decide) (by decide)
noncomputable def factsRow (args : List SV) (m : Mem) : List Fact := match argR args m with
 | some A => [(.app 700 A, -1, 12)]
 | none => []
noncomputable def numRow (args : List SV) (m : Mem) : Option (IE × Nat × Int) := match argR args m with
 | some A => some (.app 700 A, 13, -1)
 | none => none
noncomputable def valR (v : SV) : SV := .tup (.cons v (.cons (.int .i64 (.lit 0)) .nil))
noncomputable def formP (z : Int) (args : List SV) (m : Mem) : Option (SV × List Fact) := match argR args m with
 | some A => cond (factIn m.know (.app 700 A) z z) (cond (zEq z (-1)) (some (.tup (.cons .nils (.cons (.int .i64 (.lit 1000)) .nil)), [])) (cond (zEq z 0) (some (valR .nils, [])) none)) none
 | none => none
noncomputable def appsE (A : IE) (n : Nat) : List IE := (List.range n).map fun i => .app (701 + i) A
noncomputable def formB (z : Int) (args : List SV) (m : Mem) : Option (List IE × Int) := match argR args m with
 | some A => cond (factIn m.know (.app 700 A) z z && (decide (0 < z) && decide (z ≤ 12))) (some (appsE A z.toNat, z)) none
 | none => none
noncomputable def rowX : List SV → X SV := factX factsRow (waysX numRow fun z => cond (decide (z ≤ 0)) (pureX (formP z)) (blkCX 3 valR (formB z)))
theorem rowX_ok {f : Nat} (sem : SemRow f) : SpecOk G0 Try.prog f rowX := factX_ok (waysX_ok fun args e n z0 z F w0 E m0 m outs w hgf _ _ ho hm _ => by
 cases hz : decide (z ≤ 0) with
 | true =>
  rw [hz] at ho
  refine pureX_use hgf ho hm fun v fs hf => ?_
  unfold formP at hf
  split at hf
  case h_2 => cases hf
  rename_i A hA
  have call := argR_ok sem hm hA
  cases hc : factIn m.know (.app 700 A) z z with
  | false => rw [hc] at hf; cases hf
  | true =>
  rw [hc] at hf
  dsimp only [cond] at hf
  have hr := factIn_ok hm.know hc
  rw [f700 hgf] at hr
  cases h1 : zEq z (-1) with
  | true =>
   rw [h1] at hf
   cases hf
   have h1 := zEq_ok h1
   refine ⟨call.mono ?_, fun _ h => (by cases h)⟩
   rintro e w' ⟨g1, g2⟩
   refine ⟨g1, ?_⟩
   cases hL : rowZ (evA E A) with
   | none => rw [hL] at g2; exact g2
   | some l => rw [hL] at hr; unfold lenZ at hr; dsimp only at hr; omega
  | false =>
  rw [h1] at hf
  dsimp only [cond] at hf
  cases h2 : zEq z 0 with
  | false => rw [h2] at hf; cases hf
  | true =>
   rw [h2] at hf
   cases hf
   have h2 := zEq_ok h2
   refine ⟨call.mono ?_, fun _ h => (by cases h)⟩
   rintro e w' ⟨g1, g2⟩
   refine ⟨g1, ?_⟩
   cases hL : rowZ (evA E A) with
   | none => rw [hL] at hr; unfold lenZ at hr; dsimp only at hr; omega
   | some l =>
    cases l with
    | nil => rw [hL] at g2; exact g2
    | cons x l => rw [hL] at hr; unfold lenZ at hr; dsimp only at hr; rw [List.length_cons] at hr; omega
 | false =>
  rw [hz] at ho
  refine blkCX_ok (vals := fun v => .tuple #[v, .int .i64 0]) (fun _ _ _ _ _ _ => rfl) ho hm fun es z' hf => ?_
  unfold formB at hf
  split at hf
  case h_2 => cases hf
  rename_i A hA
  have call := argR_ok sem hm hA
  cases hc : (factIn m.know (.app 700 A) z z && (decide (0 < z) && decide (z ≤ 12))) with
  | false => rw [hc] at hf; cases hf
  | true =>
  rw [hc] at hf
  cases hf
  simp only [Bool.and_eq_true, decide_eq_true_eq] at hc
  obtain ⟨c1, c2, c3⟩ := hc
  have hr := factIn_ok hm.know c1
  rw [f700 hgf] at hr
  refine call.mono ?_
  rintro e w' ⟨g1, g2⟩
  refine ⟨g1, ?_⟩
  cases hL : rowZ (evA E A) with
  | none => rw [hL] at hr; unfold lenZ at hr; dsimp only at hr; omega
  | some l =>
  cases l with
  | nil => rw [hL] at hr; unfold lenZ at hr; dsimp only at hr; rw [List.length_nil] at hr; omega
  | cons x l =>
  rw [hL] at g2 hr
  unfold lenZ at hr
  dsimp only at hr
  rw [List.length_cons] at hr
  obtain ⟨bl, cap, b1, b2, b3, b4, b5, b6⟩ := g2
  have hlen : (appsE A z.toNat).length = l.length + 1 := by
   unfold appsE
   rw [List.length_map, List.length_range]
   omega
  have hes : (appsE A z.toNat).map (fun e => Value.int .i64 (ev E e)) = (x :: l).map (Value.int .i64) := by
   refine List.ext_getElem? fun j => ?_
   rw [List.getElem?_map, List.getElem?_map]
   unfold appsE
   rw [List.getElem?_map]
   by_cases hj : j < z.toNat
   ·have hj2 : j < (x :: l).length := by rw [List.length_cons]; omega
    rw [List.getElem?_range hj, List.getElem?_eq_getElem hj2]
    show some (Value.int .i64 (ev E (.app (701 + j) A))) = some (Value.int .i64 _)
    rw [f701 hgf A (by omega) hL, List.getD_eq_getElem?_getD, List.getElem?_eq_getElem hj2]
    rfl
   ·rw [List.getElem?_eq_none (by simpa using hj), List.getElem?_eq_none (by rw [List.length_cons]; omega)]
    rfl
  exact ⟨bl, cap, b1, b2, by omega, b4, by rw [hlen, hes]; exact b5, by rw [hlen]; exact b6⟩) (fun F w0 E args m w hgf hm y hy => by
 unfold factsRow at hy
 split at hy
 ·rename_i A hA
  rcases List.mem_singleton.1 hy with rfl
  unfold FactOk
  dsimp only
  rw [f700 hgf]
  unfold lenZ
  split
  ·rename_i l h
   have := (rowZ_in h).1
   omega
  ·omega
 ·cases hy)
theorem row19_ok : SpecOk G0 Try.prog 19 rowX := rowX_ok sem19
theorem row20_ok : SpecOk G0 Try.prog 20 rowX := rowX_ok sem20
end Go.Proofs.Ytalkfdkcimfmpaa
