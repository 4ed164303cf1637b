/- the reference's NewWriter: its contract. -/
import Derived.Test.YtofmndcdcchflaaVL
import Derived.Test.YtofmndcdcchflaaE4
namespace Go.Proofs.Ytofmndcdcchflaa
open Go.Sx Go Go.DescNum
set_option maxRecDepth 100000
noncomputable def cellsRr (g : IE) (k : Nat) (num : Nat → IE) : List IE := (List.range (2 + 3 * k)).map (valS g k num)
def numsRr (g : Int) (k : Nat) (N : List Int) : List Int := (List.range (2 + 3 * k)).map (valI g k N)
theorem cellsRr_ev {E : Env} {g : IE} {k : Nat} {num : Nat → IE} {N : List Int} (h : ∀ j, j < 3 * k → ev E (num j) = N.getD j 0) : (cellsRr g k num).map (ev E) = numsRr (ev E g) k N := by
 unfold cellsRr numsRr
 rw [List.map_map]
 exact List.map_congr_left fun j hj => valS_ev h (List.mem_range.1 hj)
noncomputable def chkRow (k : Nat) (q : SV × Mem) : SV → Bool
 | .sli s j (.lit (.ofNat 0)) (.lit n) (.var c) => zEq n (2 + 3 * k : Nat) && (factIn q.2.know (.var c) n hi64 && (match q.2.find s j with
  | some en => !en.ro && (Nat.beq en.t 3 && cellsW 1 q.2.know c n (cellsRr (.var 2) k mE) en.c)
  | none => false))
 | _ => false
noncomputable def chkNw (k : Nat) (q : SV × Mem) : Bool := match q.1 with
 | .tup (.cons (.ptr s j (.lit (.ofNat 0))) (.cons (.int .i64 (.lit (.ofNat 0))) .nil)) => (match q.2.find s j with
  | some en => !en.ro && (Nat.beq en.t 79 && (match en.c with
   | .cons (.int .i64 a) (.cons (.int .i64 b) (.cons sl .nil)) => sameK q.2.know a (.lit 0) && (sameK q.2.know b (.var 1) && chkRow k q sl)
   | _ => false))
  | none => false)
 | _ => false
noncomputable def spNw : List (Nat × (List SV → X SV)) := [(35, mayZ 35), (36, swX), (37, valX)]
noncomputable def funNw : List SV → X SV := callF (tabJ []) (spOf spNw) (bxOf [(14, 1, mRr)]) 400 12 14
theorem funNw_ok {V : List Int} : SpecOk (G0 V) Try.prog 14 funNw := callF_ok (spOf_ok (cons_ok (a := (35, mayZ 35)) (mayZ_ok sem35) (cons_ok (a := (36, swX)) swX_ok (one_ok (a := (37, valX)) valX_ok)))) (bxOf_ok (by
 intro y hy
 rcases List.mem_singleton.1 hy with rfl
 exact mRr_ok)) 400 12 14
noncomputable def facNw (k : Nat) : List Fact := (.app 830 (argsE ((List.range (3 * k)).map mE)), 1, 1) :: facSt k
noncomputable def okNw (k : Nat) : Bool := allOf (funNw [vi 1, vi 2, slM k] (slMem [enM k] (facNw k) 60)) (chkNw k)
def SemNw : Prop := ∀ {w : World} {b o cap k : Nat} {s g : Int} {N : List Int}, 1 ≤ k → k ≤ 16 → N.length = 3 * k → (∀ z ∈ N, 0 ≤ z ∧ z ≤ 1099511627775) → swOK N k = true → 0 ≤ s → s ≤ 11 → 0 ≤ g → g ≤ 65535 → k ≤ cap → (cap : Int) ≤ hi64 → RowN w b o N → Calls Try.prog 14 #[.int .i64 s, .int .i64 g, .slice (some ⟨b, o, none⟩) k cap] w fun e w' => Ext (fun _ => False) w w' ∧
 ∃ bl b2 c' : Nat, bl ≠ b2 ∧ w.heap.size ≤ bl ∧ bl < w'.heap.size ∧ w.heap.size ≤ b2 ∧ b2 < w'.heap.size ∧ 2 + 3 * k ≤ c' ∧ (c' : Int) ≤ hi64 ∧
  w'.heap[bl]? = some (.cells ((numsRr g k N).map (Value.int .i64) ++ List.replicate ((c' - (2 + 3 * k)) * 1) (Value.int .i64 0)).toArray 3 (0, 0)) ∧
  w'.heap[b2]? = some (.cells ([(0 : Int), s].map (Value.int .i64) ++ [Value.slice (some ⟨bl, 0, none⟩) (2 + 3 * k) c']).toArray 79 (0, 0)) ∧ e = .returned (.tuple #[.pointer (some ⟨b2, 0, none⟩), .int .i64 0])
theorem sem_nw (hall : ∀ k, 1 ≤ k → k ≤ 16 → okNw k = true) : SemNw := by
 intro w b o cap k s g N hk1 hk hl h64 hmay hs0 hs1 hg0 hg1 hc1 hc2 hr
 obtain ⟨hb, hcells⟩ := hr
 let E : Env := { i := fun j => if j = 23 then (cap : Int) else if j = 1 then s else if j = 2 then g else 0, b := fun _ => false, l := fun r => if r = 24 then N else [], base := fun x => if x = 20 then b else w.heap.size, o := fun x => if x = 20 then o else 0, v := fun _ => .tuple #[], f := G0 [] }
 have hE : E.Ok := by
  refine ⟨fun j => ?_, fun r z hz => ?_, G0_in []⟩
  ·show in64 (if j = 23 then (cap : Int) else if j = 1 then s else if j = 2 then g else 0)
   unfold hi64 at hc2
   unfold in64 lo64 hi64
   split
   ·omega
   ·split
    ·omega
    ·split <;> omega
  ·replace hz : z ∈ (if r = 24 then N else []) := hz
   split at hz
   ·have := h64 z hz
    unfold in64 lo64 hi64
    omega
   ·cases hz
 have hrow : E.row 24 = N := by
  rw [Env.row_l (by unfold fixR; omega)]
  rfl
 obtain ⟨outs, ho, hchk⟩ := allOf_ok (hall k hk1 hk)
 have call := run_ro (funNw_ok (V := [])) ho (E := E) (w := w) rfl hE rfl rfl (fun e he => by
  rcases List.mem_singleton.1 he with rfl
  refine ⟨rfl, ⟨hb, fun _ j v hv => ?_, fun h => (by cases h), fun _ x h => (by cases h)⟩⟩
  have hd : dl E (enM k).c = (List.range (3 * k)).map fun j => Value.int .i64 (N.getD j 0) := by
   show arrCells E .i64 24 ((3 * k : Nat) : Int).toNat .nil ++ [] = _
   rw [List.append_nil, Int.toNat_natCast]
   unfold arrCells
   refine List.map_congr_left fun j _ => ?_
   show Value.int .i64 ((E.row 24).getD j 0) = _
   rw [hrow]
  rw [hd, List.getElem?_map] at hv
  have hj : j < 3 * k := by
   rcases Nat.lt_or_ge j (3 * k) with h | h
   ·exact h
   ·rw [List.getElem?_eq_none (by simpa using h)] at hv
    cases hv
  rw [List.getElem?_range hj] at hv
  cases hv
  have := hcells j (by omega)
  show w.cell? ⟨b + 0, o + ((0 : Int).toNat + j), none⟩ = _
  rw [show b + 0 = b from rfl, show ((0 : Int).toNat + j) = j by simp]
  exact this) (fun f hf => by
  unfold facNw facSt at hf
  rcases List.mem_cons.1 hf with rfl | hf
  ·have hmE : ((List.range (3 * k)).map mE).map (ev E) = N := by
    rw [List.map_map]
    refine List.ext_getElem? fun j => ?_
    rw [List.getElem?_map]
    by_cases hj : j < 3 * k
    ·rw [List.getElem?_range hj, List.getElem?_eq_getElem (by omega)]
     show some (ev E (mE j)) = _
     rw [mE_ev hrow, List.getD_eq_getElem?_getD, List.getElem?_eq_getElem (by omega)]
     rfl
    ·rw [List.getElem?_eq_none (by simpa using hj), List.getElem?_eq_none (by omega)]
     rfl
   have h := swB_ev (V := []) (E := E) rfl (l := (List.range (3 * k)).map mE) (k := k) (by rw [hmE]; exact hl)
   rw [hmE, hmay] at h
   have h : decide (ev E (.app 830 (argsE ((List.range (3 * k)).map mE))) = 1) = true := h
   have h := of_decide_eq_true h
   unfold FactOk
   dsimp only
   omega
  rcases List.mem_cons.1 hf with rfl | hf
  ·exact ⟨hs0, hs1⟩
  rcases List.mem_cons.1 hf with rfl | hf
  ·exact ⟨hg0, hg1⟩
  rcases List.mem_cons.1 hf with rfl | hf
  ·show (k : Int) ≤ cap ∧ (cap : Int) ≤ hi64
   omega
  ·obtain ⟨j, hj, rfl⟩ := List.mem_map.1 hf
   have hj := List.mem_range.1 hj
   unfold FactOk
   dsimp only
   rw [mE_ev hrow, List.getD_eq_getElem?_getD, List.getElem?_eq_getElem (by omega)]
   exact h64 _ (List.getElem_mem _))
 have ha : (([vi 1, vi 2, slM k] : List SV).map (dv E)).toArray = #[.int .i64 s, .int .i64 g, .slice (some ⟨b, o, none⟩) k cap] := by
  show #[Value.int .i64 s, Value.int .i64 g, Value.slice (some ⟨b + 0, o + (0 : Int).toNat, none⟩) ((k : Int)).toNat ((cap : Int)).toNat] = _
  simp
 rw [ha] at call
 refine call.mono ?_
 rintro e w' ⟨q, hq, E', hA, rfl, hm⟩
 have hN : E'.row 24 = N := by
  rw [Env.row_l (by unfold fixR; omega), hA.l 24 (by omega), ← Env.row_l (E := E) (r := 24) (by unfold fixR; omega)]
  exact hrow
 refine ⟨hm.ext, ?_⟩
 have hq := hchk q hq
 unfold chkNw at hq
 split at hq
 case h_2 => cases hq
 rename_i s2 j2 heq
 split at hq
 case h_2 => cases hq
 rename_i e2 hf2
 simp only [Bool.and_eq_true, Bool.not_eq_true'] at hq
 obtain ⟨p1, p2, hq⟩ := hq
 have p2 := Nat.eq_of_beq_eq_true p2
 split at hq
 case h_2 => cases hq
 rename_i x a b' sl hc2'
 simp only [Bool.and_eq_true] at hq
 obtain ⟨q1, q2, q3⟩ := hq
 have q1 := sameK_ok hm.know q1
 have q2 := sameK_ok hm.know q2
 unfold chkRow at q3
 split at q3
 case h_2 => cases q3
 rename_i s' j' n c
 simp only [Bool.and_eq_true] at q3
 obtain ⟨g1, g2, g3⟩ := q3
 have g1 := zEq_ok g1
 have g2 := factIn_ok hm.know g2
 split at g3
 case h_2 => cases g3
 rename_i en hf
 simp only [Bool.and_eq_true, Bool.not_eq_true'] at g3
 obtain ⟨r1, r2, r3⟩ := g3
 have r2 := Nat.eq_of_beq_eq_true r2
 obtain ⟨f1', f2, f3⟩ := Mem.find_ok hf
 obtain ⟨f1'', f2', f3'⟩ := Mem.find_ok hf2
 have he := hm.ents en f1'
 have he2 := hm.ents e2 f1''
 obtain ⟨⟨o1, o2⟩, o3⟩ := he.own r1
 obtain ⟨⟨o1', o2'⟩, o3'⟩ := he2.own p1
 have hmine := hm.mine en f1' r1
 have hmine2 := hm.mine e2 f1'' p1
 have hblk : en.blk E' = E'.base s' + j' := by unfold Ent.blk; rw [f2, f3]
 have hblk2 : e2.blk E' = E'.base s2 + j2 := by unfold Ent.blk; rw [f2', f3']
 have g2 : n ≤ E'.i c ∧ E'.i c ≤ hi64 := g2
 have e1 : ev E' (.var 1) = s := hA.i 1 (by omega)
 have e2' : ev E' (.var 2) = g := hA.i 2 (by omega)
 refine ⟨E'.base s' + j', E'.base s2 + j2, (E'.i c).toNat, ?_, ?_, ?_, ?_, ?_, ?_, ?_, ?_, ?_, ?_⟩
 ·intro h
  rw [← hblk, ← hblk2] at h
  rw [h, o3'] at o3
  injection o3 with o3
  injection o3 with _ h3
  rw [p2, r2] at h3
  exact absurd h3 (by decide)
 ·rcases hmine with h | h
  ·rw [← hblk]; exact h
  ·exact absurd h (fun h => h)
 ·rw [← hblk]; exact he.lt
 ·rcases hmine2 with h | h
  ·rw [← hblk2]; exact h
  ·exact absurd h (fun h => h)
 ·rw [← hblk2]; exact he2.lt
 ·omega
 ·omega
 ·rw [← hblk, o3, r2]
  have hcl := cellsW_ok hm.know (c := c) (cap := (E'.i c).toNat) (n := n) (by omega) (by omega) (by omega) r3
  have hmap := cellsRr_ev (E := E') (g := .var 2) (k := k) (num := mE) (N := N) fun j _ => mE_ev hN j
  rw [e2'] at hmap
  rw [hcl, ← hmap, List.map_map, g1, Int.toNat_natCast]
  rfl
 ·rw [← hblk2, o3', p2, hc2']
  have hd : dl E' (.cons (.int .i64 a) (.cons (.int .i64 b') (.cons (.sli s' j' (.lit (.ofNat 0)) (.lit n) (.var c)) .nil))) = [Value.int .i64 (ev E' a), Value.int .i64 (ev E' b'), Value.slice (some ⟨E'.base s' + j', E'.o s' + (0 : Int).toNat, none⟩) n.toNat (E'.i c).toNat] := rfl
  rw [hd, q1, q2, e1, ← f2, o1, g1, Int.toNat_natCast]
  rfl
 ·rw [heq]
  show Ending.returned (.tuple #[.pointer (some ⟨E'.base s2 + j2, E'.o s2 + (0 : Int).toNat, none⟩), .int .i64 0]) = _
  rw [← f2', o1']
  rfl
noncomputable def formNw (args : List SV) (m : Mem) : Option (List IE × Int × List IE) := match args with
 | [.int .i64 s, .int .i64 g, sl] => match rowM [sl] m with
  | some (l, k) => cond (factIn m.know s 0 11 && (factIn m.know g 0 65535 && (Nat.ble 1 k && (yes m.know (swB l) && l.all fun e => factIn m.know e 0 1099511627775)))) (some (cellsRr g k (atL l), (2 + 3 * k : Nat), [.lit 0, s])) none
  | none => none
 | _ => none
theorem nwX_sem {V : List Int} (hnw : SemNw) : SpecOk (G0 V) Try.prog 14 (blk2X 1 3 79 (fun v => .tup (.cons v (.cons (.int .i64 (.lit 0)) .nil))) formNw) := fun F w0 E args m outs w hgf ho hm => by
 refine blk2X_ok (vals := fun v => .tuple #[v, .int .i64 0]) ho hm (fun _ _ => rfl) fun es z pre hform hwd hlen => ?_
 unfold formNw at hform
 split at hform
 case h_2 => cases hform
 rename_i s g sl
 split at hform
 case h_2 => cases hform
 rename_i l k hrow
 cases hc : (factIn m.know s 0 11 && (factIn m.know g 0 65535 && (Nat.ble 1 k && (yes m.know (swB l) && l.all fun e => factIn m.know e 0 1099511627775)))) with
 | false => rw [hc] at hform; cases hform
 | true =>
 rw [hc] at hform
 cases hform
 simp only [Bool.and_eq_true] at hc
 obtain ⟨c1, c2, ck, cm, c3⟩ := hc
 have ck := Nat.le_of_ble_eq_true ck
 have c1 := factIn_ok hm.know c1
 have c2 := factIn_ok hm.know c2
 obtain ⟨b, o, cap, ha, h1, h2, h3, h4, h5, h6⟩ := rowM_ok hm hrow
 have cm := yes_ok hm.know cm
 rw [swB_ev hgf h2] at cm
 have ha : #[dv E sl] = #[.slice (some ⟨b, o, none⟩) k cap] := ha
 have ha : dv E sl = .slice (some ⟨b, o, none⟩) k cap := by simpa using ha
 show Calls Try.prog 14 #[.int .i64 (ev E s), .int .i64 (ev E g), dv E sl] w _
 rw [ha]
 refine (hnw (w := w) ck h1 h2 (fun z hz => by
  obtain ⟨e, he, rfl⟩ := List.mem_map.1 hz
  exact factIn_ok hm.know (List.all_eq_true.1 c3 e he)) cm c1.1 c1.2 c2.1 c2.2 h4 h5 h6).mono ?_
 rintro e w' ⟨hx, bl, b2, c', b0, b1, b1', d1, d1', b3, b4, b5, b6, rfl⟩
 have hmap := cellsRr_ev (E := E) (g := g) (k := k) (num := atL l) (N := l.map (ev E)) fun j _ => atL_ev E l j
 refine ⟨hx, bl, b2, c', b0, b1, b1', d1, d1', by omega, b4, ?_, ?_, rfl⟩
 ·rw [b5, ← hmap, List.map_map, Int.toNat_natCast]
  rfl
 ·rw [b6, Int.toNat_natCast]
  rfl
noncomputable def nwX : List SV → X SV := orX (blk2X 1 3 79 (fun v => .tup (.cons v (.cons (.int .i64 (.lit 0)) .nil))) formNw) funNw
theorem nwX_ok {V : List Int} (hnw : SemNw) : SpecOk (G0 V) Try.prog 14 nwX := orX_ok (nwX_sem hnw) funNw_ok
end Go.Proofs.Ytofmndcdcchflaa
