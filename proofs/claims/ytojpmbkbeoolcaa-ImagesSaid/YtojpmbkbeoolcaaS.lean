/- how states are put: the program's way and the document's. -/
import Derived.Test.YtojpmbkbeoolcaaQa
import Derived.Test.YtojpmbkbeoolcaaQb
namespace Go.Proofs.Ytojpmbkbeoolcaa
open Go.Sx Go
set_option maxRecDepth 100000
theorem nine {p : List Int → Bool} (h : ∀ k, k < 27 → (((cfgs.drop (9 * k)).take 9).all p) = true) : ∀ xs ∈ cfgs, p xs = true := by
 intro xs hx
 have hl : cfgs.length = 243 := by kernel_rfl
 obtain ⟨i, hi, rfl⟩ := List.getElem_of_mem hx
 refine List.all_eq_true.1 (h (i / 9) (by omega)) _ (List.mem_of_getElem? (i := i % 9) ?_)
 rw [List.getElem?_take_of_lt (by omega), List.getElem?_drop, show 9 * (i / 9) + i % 9 = i by omega, List.getElem?_eq_getElem hi]
theorem lyAll : ∀ k, k < 27 → (((cfgs.drop (9 * k)).take 9).all runL) = true
 | 0, _ => ly0
 | 1, _ => ly1
 | 2, _ => ly2
 | 3, _ => ly3
 | 4, _ => ly4
 | 5, _ => ly5
 | 6, _ => ly6
 | 7, _ => ly7
 | 8, _ => ly8
 | 9, _ => ly9
 | 10, _ => ly10
 | 11, _ => ly11
 | 12, _ => ly12
 | 13, _ => ly13
 | 14, _ => ly14
 | 15, _ => ly15
 | 16, _ => ly16
 | 17, _ => ly17
 | 18, _ => ly18
 | 19, _ => ly19
 | 20, _ => ly20
 | 21, _ => ly21
 | 22, _ => ly22
 | 23, _ => ly23
 | 24, _ => ly24
 | 25, _ => ly25
 | 26, _ => ly26
 | n + 27, h => absurd h (by omega)
theorem lay_ok : SpecOk G0 Try.prog 24 layX := layX_ok (semLay (nine lyAll))
noncomputable def hiE (L : IE) (j : Nat) : IE := .bit .and .i64 (.shr L j) (.lit 1)
noncomputable def hbit (L : Int) (j : Nat) : Int := bitI .and .i64 (L.fdiv (2 ^ j)) 1
theorem ev_hi (E : Env) (L : IE) (j : Nat) : ev E (hiE L j) = hbit (ev E L) j := by
 unfold hiE
 rw [ev_bit, ev_shr, ev_lit]
 rfl
theorem hbit_in (L : Int) (j : Nat) : 0 ≤ hbit L j ∧ hbit L j ≤ 1 := and_in .i64 _ 1 (by decide) (by decide)
theorem hbit_bit (L : Int) (j : Nat) : Bit (hbit L j) := by
 have := hbit_in L j
 unfold Bit
 omega
noncomputable def putVal (bl : Nat) : Value := .tuple #[.slice (some ⟨bl, 0, none⟩) 16 16, .int .i64 0]
def SemPut (f t : Nat) : Prop := ∀ (b0 b1 b2 b3 : Int) (e0 e1 e2 e3 e4 : Bool) (L : Int) (w : World), balIn b0 → balIn b1 → balIn b2 → balIn b3 → 0 ≤ L → L ≤ 31 →
 Calls Try.prog f #[stVals [b0, b1, b2, b3] [e0, e1, e2, e3, e4], .int .i64 L] w fun e w' => Ext (fun _ => False) w w' ∧ ∃ bl, w.heap.size ≤ bl ∧ bl < w'.heap.size ∧
  w'.heap[bl]? = some (.cells ((putN [b0, b1, b2, b3] [b2i e0, b2i e1, b2i e2, b2i e3, b2i e4, hbit L 0, hbit L 1, hbit L 2, hbit L 3, hbit L 4]).map (Value.int .i64)).toArray t (0, 0)) ∧ e = .returned (putVal bl)
noncomputable def outB (t : Nat) (q : SV × Mem) (c : SV) : Bool := match q.1 with
 | .tup (.cons (.sli s k (.lit o) (.lit n) (.lit cp)) (.cons (.int kd (.lit z)) .nil)) => match q.2.find s k with
  | some x => zEq o 0 && zEq n 16 && zEq cp 16 && zEq z 0 && Nat.beq (kindNo kd) (kindNo .i64) && !x.ro && Nat.beq x.t t && eqU q.2.know x.c c
  | none => false
 | _ => false
theorem outB_ok {E' : Env} {w w' : World} {t : Nat} {q : SV × Mem} {c : SV} (hm : MemOk (fun _ => False) w E' q.2 w') (h : outB t q c = true) :
  ∃ bl, w.heap.size ≤ bl ∧ bl < w'.heap.size ∧ w'.heap[bl]? = some (.cells (dl E' c).toArray t (0, 0)) ∧ dv E' q.1 = putVal bl := by
 unfold outB at h
 split at h
 case h_2 => cases h
 rename_i s k o n cp kd z hq
 split at h
 case h_2 => cases h
 rename_i x hx
 simp only [Bool.and_eq_true, Bool.not_eq_true'] at h
 obtain ⟨⟨⟨⟨⟨⟨⟨h1, h2⟩, h3⟩, h4⟩, h5⟩, h6⟩, h7⟩, h8⟩ := h
 have h1 := zEq_ok h1
 have h2 := zEq_ok h2
 have h3 := zEq_ok h3
 have h4 := zEq_ok h4
 have h5 := kindNo_eq h5
 have h7 := Nat.eq_of_beq_eq_true h7
 subst h1 h2 h3 h4 h5
 obtain ⟨x1, x2, x3⟩ := Mem.find_ok hx
 have ok := hm.ents x x1
 obtain ⟨⟨o1, _⟩, hheap⟩ := ok.own h6
 refine ⟨x.blk E', ?_, ok.lt, ?_, ?_⟩
 ·rcases hm.mine x x1 h6 with h | h
  ·exact h
  ·exact h.elim
 ·rw [hheap, eqU_ok hm.know h8, h7]
 ·rw [hq]
  show Value.tuple #[.slice (some ⟨E'.base s + k, E'.o s + 0, none⟩) 16 16, .int .i64 0] = _
  rw [show x.blk E' = E'.base s + k by simp only [Ent.blk, x2, x3], ← x2, o1]
  rfl
noncomputable def flP : List BE := [.var 30, .var 31, .var 32, .var 33, .var 34]
noncomputable def hiP : List IE := [hiE (.var 20) 0, hiE (.var 20) 1, hiE (.var 20) 2, hiE (.var 20) 3, hiE (.var 20) 4]
noncomputable def argP : IE := mkArgs ([.bv 30, .bv 31, .bv 32, .bv 33, .bv 34] ++ hiP)
noncomputable def factP : List Fact := (.var 20, 0, 31) :: rng7
noncomputable def cellP (A : IE) : Nat → IE := cellA (.sel 7 (.lit 0)) (.sel 7 (.lit 1)) (.sel 7 (.lit 2)) (.sel 7 (.lit 3)) A
noncomputable def runP : Bool := match funL [(24, layX)] 10 [stL flP, .int .i64 (.var 20)] (slMem [] factP 60) with
 | some outs => outs.all fun q => wrongs q.2.know || outB 62 q (row16V (cellP argP))
 | none => false
theorem runP_true : runP = true := by kernel_rfl
theorem factP_ok {E : Env} {b0 b1 b2 b3 L : Int} (h : E.l 7 = [b0, b1, b2, b3]) (hL : E.i 20 = L) (h0 : balIn b0) (h1 : balIn b1) (h2 : balIn b2) (h3 : balIn b3) (l0 : 0 ≤ L) (l1 : L ≤ 31) : ∀ f ∈ factP, FactOk E f := by
 intro f hf
 rcases List.mem_cons.1 hf with rfl | hf
 ·unfold FactOk
  show 0 ≤ E.i 20 ∧ E.i 20 ≤ 31
  omega
 ·exact rng7_ok h h0 h1 h2 h3 f hf
theorem cellP_bal {E : Env} {b0 b1 b2 b3 : Int} (h : E.row 7 = [b0, b1, b2, b3]) (A : IE) : ev E (cellP A 0) = b0 + 1 ∧ ev E (cellP A 1) = b1 + 1 ∧ ev E (cellP A 2) = b2 + 1 ∧ ev E (cellP A 3) = b3 + 1 := by
 have e : ∀ i : Int, ev E (.sel 7 (.lit i)) = ([b0, b1, b2, b3] : List Int).getD i.toNat 0 := fun i => by
  rw [ev_sel, ev_lit, h]
 exact ⟨(mkAdd_lit E (.sel 7 (.lit 0))).trans (by rw [e]; rfl), (mkAdd_lit E (.sel 7 (.lit 1))).trans (by rw [e]; rfl), (mkAdd_lit E (.sel 7 (.lit 2))).trans (by rw [e]; rfl), (mkAdd_lit E (.sel 7 (.lit 3))).trans (by rw [e]; rfl)⟩
theorem semPut : SemPut 10 62 := by
 intro b0 b1 b2 b3 e0 e1 e2 e3 e4 L w k0 k1 k2 k3 l0 l1
 have hr := runP_true
 unfold runP at hr
 split at hr
 case h_2 => cases hr
 rename_i outs hrun
 rw [List.all_eq_true] at hr
 let E := envR w [b0, b1, b2, b3] L (fun j => ([e0, e1, e2, e3, e4] : List Bool).getD (j - 30) false) 0 0 0
 have hE : E.Ok := envR_ok (fun z hz => by
  simp only [List.mem_cons, List.not_mem_nil, or_false] at hz
  rcases hz with rfl | rfl | rfl | rfl <;> exact balIn_64 ‹_›) (by unfold in64 lo64 hi64; omega) zero64
 have := run_ro (funL_ok (one_ok (a := (24, layX)) lay_ok) 10) hrun (E := E) (w := w) rfl hE rfl rfl (fun _ h => (by cases h)) (factP_ok rfl rfl k0 k1 k2 k3 l0 l1)
 rw [show (([stL flP, .int .i64 (.var 20)] : List SV).map (dv E)).toArray = #[stVals [b0, b1, b2, b3] [e0, e1, e2, e3, e4], .int .i64 L] from rfl] at this
 refine this.mono ?_
 rintro e w' ⟨q, hq, E', hA, rfl, hm'⟩
 refine ⟨hm'.ext, ?_⟩
 have hq1 := hr q hq
 rw [wrongs_ok hm'.know, Bool.false_or] at hq1
 obtain ⟨bl, o1, o2, o3, o4⟩ := outB_ok hm' hq1
 refine ⟨bl, o1, o2, ?_, by rw [o4]⟩
 rw [o3]
 have hrow : E'.row 7 = [b0, b1, b2, b3] := row_agree hA (by decide)
 obtain ⟨c0, c1, c2, c3⟩ := cellP_bal hrow argP
 have hargs : evA E' argP = [b2i e0, b2i e1, b2i e2, b2i e3, b2i e4, hbit L 0, hbit L 1, hbit L 2, hbit L 3, hbit L 4] := by
  unfold argP
  rw [mkArgs_ev]
  have hL : ev E' (.var 20) = L := hA.i 20 (by decide)
  have hb : ∀ j, j < 60 → E'.b j = E.b j := fun j hj => hA.b j hj
  show [ev E' (.bv 30), ev E' (.bv 31), ev E' (.bv 32), ev E' (.bv 33), ev E' (.bv 34), ev E' (hiE (.var 20) 0), ev E' (hiE (.var 20) 1), ev E' (hiE (.var 20) 2), ev E' (hiE (.var 20) 3), ev E' (hiE (.var 20) 4)] = _
  rw [ev_hi, ev_hi, ev_hi, ev_hi, ev_hi, hL, ev_bv, ev_bv, ev_bv, ev_bv, ev_bv, hb _ (by decide), hb _ (by decide), hb _ (by decide), hb _ (by decide), hb _ (by decide)]
  rfl
 have hf : E'.f = G0 := hA.f
 rw [putN_row c0 c1 c2 c3 (xs := evA E' argP) (fun c hc => by
  rw [Nat.add_comm]
  unfold cellP
  show ev E' (linkA _ c) = _
  unfold linkA
  rw [appV_ok hf]
  exact G0_link hf hc rfl), hargs]
noncomputable def formP (lo hi : Int) : List SV → Mem → Option (SV × List Fact) := fun args m => match args with
 | [s, .int kd L] => match stOf s with
  | some ([e0, e1, e2, e3], l) => match flagsU m.know l with
   | some fI => cond (Nat.beq (kindNo kd) (kindNo .i64) && factIn m.know L lo hi && ([e0, e1, e2, e3].all fun e => factIn m.know e (-1) 1048575)) (some (row16V (cellA e0 e1 e2 e3 (mkArgs (fI ++ [hiE L 0, hiE L 1, hiE L 2, hiE L 3, hiE L 4]))), factsA (mkArgs (fI ++ [hiE L 0, hiE L 1, hiE L 2, hiE L 3, hiE L 4])))) none
   | none => none
  | _ => none
 | _ => none
noncomputable def putX (t : Nat) : List SV → X SV := blkX t (formP 0 31)
theorem putX_ok {f t : Nat} (sem : SemPut f t) : SpecOk G0 Try.prog f (putX t) := blkX_ok fun F w0 E args m w v fs hgf hm hf => by
 unfold formP at hf
 split at hf
 case h_2 => cases hf
 rename_i s kd L
 split at hf
 case h_2 => cases hf
 rename_i e0 e1 e2 e3 l hS
 split at hf
 case h_2 => cases hf
 rename_i fI hfI
 cases hc : (Nat.beq (kindNo kd) (kindNo .i64) && factIn m.know L 0 31 && ([e0, e1, e2, e3].all fun e => factIn m.know e (-1) 1048575)) with
 | false => rw [hc] at hf; cases hf
 | true =>
 rw [hc] at hf
 cases hf
 simp only [Bool.and_eq_true] at hc
 obtain ⟨⟨c1, c2⟩, c3⟩ := hc
 rw [List.all_eq_true] at c3
 have c1 := kindNo_eq c1
 subst c1
 have c2 := factIn_ok hm.know c2
 have hb : ∀ e ∈ [e0, e1, e2, e3], balIn (ev E e) := fun e he => factIn_ok hm.know (c3 e he)
 obtain ⟨_, l5, hs⟩ := stOf_ok E hS
 obtain ⟨g0, g1, g2, g3, g4, rfl⟩ := len5 l5
 have hx : evA E (mkArgs (fI ++ [hiE L 0, hiE L 1, hiE L 2, hiE L 3, hiE L 4])) = [b2i (evB E g0), b2i (evB E g1), b2i (evB E g2), b2i (evB E g3), b2i (evB E g4), hbit (ev E L) 0, hbit (ev E L) 1, hbit (ev E L) 2, hbit (ev E L) 3, hbit (ev E L) 4] := by
  rw [mkArgs_ev, List.map_append, flagsU_ok hm.know hfI]
  show _ ++ [ev E (hiE L 0), ev E (hiE L 1), ev E (hiE L 2), ev E (hiE L 3), ev E (hiE L 4)] = _
  rw [ev_hi, ev_hi, ev_hi, ev_hi, ev_hi]
  rfl
 refine ⟨?_, factsA_ok hgf hx⟩
 have := sem (ev E e0) (ev E e1) (ev E e2) (ev E e3) (evB E g0) (evB E g1) (evB E g2) (evB E g3) (evB E g4) (ev E L) w (hb e0 (by simp)) (hb e1 (by simp)) (hb e2 (by simp)) (hb e3 (by simp)) c2.1 c2.2
 rw [show (([s, .int .i64 L] : List SV).map (dv E)).toArray = #[stVals [ev E e0, ev E e1, ev E e2, ev E e3] [evB E g0, evB E g1, evB E g2, evB E g3, evB E g4], .int .i64 (ev E L)] by
  show #[dv E s, Value.int .i64 (ev E L)] = _
  unfold dv
  rw [hs]
  rfl]
 refine this.mono ?_
 rintro e w' ⟨h1, bl, o1, o2, o3, o4⟩
 refine ⟨h1, bl, o1, o2, ?_, o4⟩
 rw [o3, putN_row (b0 := ev E e0) (b1 := ev E e1) (b2 := ev E e2) (b3 := ev E e3) (xs := evA E (mkArgs (fI ++ [hiE L 0, hiE L 1, hiE L 2, hiE L 3, hiE L 4]))) (mkAdd_lit E e0) (mkAdd_lit E e1) (mkAdd_lit E e2) (mkAdd_lit E e3) (fun c hc => by
  rw [Nat.add_comm]
  show ev E (linkA _ c) = _
  unfold linkA
  rw [appV_ok hgf]
  exact G0_link hgf hc rfl), hx]
end Go.Proofs.Ytojpmbkbeoolcaa
