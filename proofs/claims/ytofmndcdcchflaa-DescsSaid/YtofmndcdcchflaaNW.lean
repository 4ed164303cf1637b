/- NewWriter of rows of so many entries. -/
import Derived.Test.YtofmndcdcchflaaF
import Derived.Test.YtofmndcdcchflaaS
import Derived.Test.YtofmndcdcchflaaMY
import Derived.Test.YtofmndcdcchflaaE4
namespace Go.Proofs.Ytofmndcdcchflaa
open Go.Sx Go Go.DescNum
set_option maxRecDepth 100000
noncomputable def chkPut (q : SV × Mem) : Bool := match q.1 with
 | .int .i64 e => sameK q.2.know e (.mul (.var 1) (.lit 4))
 | _ => false
theorem put_run : allOf (fun0 48 [vi 1] (slMem [] [(.var 1, 0, 1099511627775)] 60)) chkPut = true := by kernel_rfl
noncomputable def formPut (args : List SV) (m : Mem) : Option (SV × List Fact) := match args with
 | [.int .i64 x] => cond (factIn m.know x 0 1099511627775) (some (.int .i64 (mkMul x (.lit 4)), [])) none
 | _ => none
theorem formPut_ok {V : List Int} : SpecOk (G0 V) Try.prog 48 (pureX formPut) := pureX_ok fun F w0 E args m w v fs hgf hm hf => by
 unfold formPut at hf
 split at hf
 case h_2 => cases hf
 rename_i x
 cases hc : factIn m.know x 0 1099511627775 with
 | false => rw [hc] at hf; cases hf
 | true =>
 rw [hc] at hf
 cases hf
 have hx := factIn_ok hm.know hc
 refine ⟨?_, fun _ h => (by cases h)⟩
 refine (sem_nums (V := []) (fun0_ok 48) put_run (E := envN [] w (ev E x) 0) (envN_ok (by unfold in64 lo64 hi64; omega) (by constructor <;> decide)) rfl rfl rfl (fun f hf => by
  rcases List.mem_singleton.1 hf with rfl
  exact hx)).mono ?_
 rintro e w' ⟨q, hq, E', hA, rfl, hm'⟩
 refine ⟨hm'.ext, congrArg Ending.returned ?_⟩
 unfold chkPut at hq
 split at hq
 ·rename_i e he
  have hq := sameK_ok hm'.know hq
  rw [he]
  show Value.int .i64 (ev E' e) = .int .i64 (ev E (mkMul x (.lit 4)))
  rw [hq, ev_mul, ev_lit, mkMul_ok, ev_lit, show ev E' (.var 1) = ev E x from hA.i 1 (by omega)]
 ·cases hq
noncomputable def putX : List SV → X SV := orX (pureX formPut) (fun0 48)
theorem putX_ok {V : List Int} : SpecOk (G0 V) Try.prog 48 putX := orX_ok formPut_ok (fun0_ok 48)
noncomputable def spW : List (Nat × (List SV → X SV)) := [(48, putX)]
theorem okSpW {V : List Int} : ∀ x ∈ spW, SpecOk (G0 V) Try.prog x.1 x.2 := one_ok (a := (48, putX)) putX_ok
noncomputable def cxW : CX := callF (tabJ []) (spOf spW) (bxOf []) 400 12
theorem cxW_ok {V : List Int} : CallsOk (G0 V) Try.prog cxW := by
 unfold cxW
 rw [callF_eq]
 exact callD_ok (spOf_ok okSpW) noBx 400 12
noncomputable def mWp : Fr → X (SX × Fr) := mergeB (tabJ []) cxW (fun _ => none) none 400 [0, 1, 2, 6, 7, 22, 23, 24] 7 0 40 (theBlock 1 (bodyOf Try.f33))
theorem mWp_ok {V : List Int} : LxOk (G0 V) Try.prog (33, 1, mWp) := lxB_ok Try.func33 (c := bodyOf Try.f33) rfl (b := theBlock 1 (bodyOf Try.f33)) (by kernel_rfl) (mergeB_ok cxW_ok 400 _ _ _ _ (noBlocks_ok _ _))
noncomputable def mWr : Fr → X (SX × Fr) := mergeB (tabJ []) cxW (fun _ => none) none 400 [0, 1, 2, 6, 7, 8, 9, 58] 58 0 40 (theBlock 1 (bodyOf Try.f14))
theorem mWr_ok {V : List Int} : LxOk (G0 V) Try.prog (14, 1, mWr) := lxB_ok Try.func14 (c := bodyOf Try.f14) rfl (b := theBlock 1 (bodyOf Try.f14)) (by kernel_rfl) (mergeB_ok cxW_ok 400 _ _ _ _ (noBlocks_ok _ _))
theorem mWs {V : List Int} : ∀ y ∈ [((33 : Nat), (1 : Nat), mWp), (14, 1, mWr)], LxOk (G0 V) Try.prog y := fun y hy => by
 rcases List.mem_cons.1 hy with rfl | hy
 ·exact mWp_ok
 ·rcases List.mem_singleton.1 hy with rfl
  exact mWr_ok
noncomputable def funW (sp : List (Nat × (List SV → X SV))) (f : Nat) : List SV → X SV := callF (tabJ []) (spOf sp) (bxOf [(33, 1, mWp), (14, 1, mWr)]) 400 12 f
theorem funW_ok {V : List Int} {sp : List (Nat × (List SV → X SV))} (h : ∀ x ∈ sp, SpecOk (G0 V) Try.prog x.1 x.2) (f : Nat) : SpecOk (G0 V) Try.prog f (funW sp f) := callF_ok (spOf_ok h) (bxOf_ok mWs) 400 12 f
noncomputable def sl3 (b : Nat) : SV := .sli b 0 (.var (b+1)) (.var (b+2)) (.var (b+3))
noncomputable def en3 (b : Nat) : Ent := slE b (b+1) (b+2) (b+4) 3
noncomputable def fa3 (b : Nat) (k h : Int) : List Fact := (.var (b+2), k, h) :: slF (b+1) (b+2) (b+3) 5864062012416
noncomputable def fa3u (b : Nat) (k h : Int) : List Fact := (.var (b+2), k, h) :: slF (b+1) (b+2) (b+3) hi64
end Go.Proofs.Ytofmndcdcchflaa
namespace Go.Proofs.Ytofmndcdcchflaa
open Go.Sx Go Go.DescNum
set_option maxRecDepth 100000
noncomputable def valS (g : IE) (k : Nat) (num : Nat → IE) (j : Nat) : IE := cond (Nat.beq j 0) (mkMul g (.lit 16)) (cond (Nat.beq j 1) (.lit (4 * k : Nat)) (mkMul (num (j - 2)) (.lit 4)))
noncomputable def cellsS (s g : IE) (k : Nat) (num : Nat → IE) : List IE := (List.range (2 + 3 * k)).flatMap fun (j : Nat) => [mkAdd (mkMul s (.lit 50)) (.lit (34 + j : Nat)), valS g k num j]
def valI (g : Int) (k : Nat) (N : List Int) (j : Nat) : Int := if j = 0 then 16 * g else if j = 1 then 4 * k else 4 * N.getD (j - 2) 0
def numsS (s g : Int) (k : Nat) (N : List Int) : List Int := (List.range (2 + 3 * k)).flatMap fun (j : Nat) => [50 * s + (34 + j : Nat), valI g k N j]
theorem beq_no {a b : Nat} (h : a ≠ b) : Nat.beq a b = false := by
 cases hq : Nat.beq a b with
 | false => rfl
 | true => exact absurd (Nat.eq_of_beq_eq_true hq) h
theorem valS_ev {E : Env} {g : IE} {k : Nat} {num : Nat → IE} {N : List Int} (h : ∀ j, j < 3 * k → ev E (num j) = N.getD j 0) {j : Nat} (hj : j < 2 + 3 * k) : ev E (valS g k num j) = valI (ev E g) k N j := by
 unfold valS valI
 by_cases h0 : j = 0
 ·subst h0
  rw [if_pos rfl]
  show ev E (mkMul g (.lit 16)) = _
  rw [mkMul_ok, ev_lit]
  omega
 ·rw [if_neg h0, beq_no h0]
  by_cases h1 : j = 1
  ·subst h1
   rw [if_pos rfl]
   show ev E (.lit ((4 * k : Nat) : Int)) = _
   rw [ev_lit]
   omega
  ·rw [if_neg h1, beq_no h1]
   show ev E (mkMul (num (j - 2)) (.lit 4)) = _
   rw [mkMul_ok, ev_lit, h (j - 2) (by omega)]
   omega
theorem flat_two {α : Type} (f g : Nat → List α) : ∀ l : List Nat, (∀ j ∈ l, f j = g j) → l.flatMap f = l.flatMap g
 | [], _ => rfl
 | x :: l, h => by
  rw [List.flatMap_cons, List.flatMap_cons, h x (List.mem_cons_self ..), flat_two f g l fun j hj => h j (List.mem_cons_of_mem _ hj)]
theorem cellsS_ev {E : Env} {s g : IE} {k : Nat} {num : Nat → IE} {N : List Int} (h : ∀ j, j < 3 * k → ev E (num j) = N.getD j 0) : (cellsS s g k num).map (ev E) = numsS (ev E s) (ev E g) k N := by
 unfold cellsS numsS
 rw [List.map_flatMap]
 refine flat_two _ _ _ fun j hj => ?_
 have hj := List.mem_range.1 hj
 show [ev E (mkAdd (mkMul s (.lit 50)) (.lit (34 + j : Nat))), ev E (valS g k num j)] = _
 rw [valS_ev h hj, mkAdd_ok, mkMul_ok, ev_lit, ev_lit]
 rw [show ev E s * 50 + ((34 + j : Nat) : Int) = 50 * ev E s + (34 + j : Nat) by omega]
noncomputable def cellsW (wd : Nat) (kn : Know) (c : Nat) (n : Int) : List IE → SV → Bool
 | [], .cons (.arr .i64 0 e .nil) .nil => sameK kn e (.mul (.add (.var c) (.lit (-n))) (.lit wd))
 | e :: l, .cons (.int .i64 x) r => sameK kn x e && cellsW wd kn c n l r
 | _, _ => false
theorem cellsW_ok {wd : Nat} {E : Env} {kn : Know} (hk : KnowOk E kn) {c cap : Nat} {n : Int} (hc : E.i c = cap) (h0 : 0 ≤ n) (hn : n ≤ cap) : ∀ {l : List IE} {v : SV}, cellsW wd kn c n l v = true → dl E v = l.map (fun e => Value.int .i64 (ev E e)) ++ List.replicate ((cap - n.toNat) * wd) (Value.int .i64 0)
 | [], v, h => by
  unfold cellsW at h
  split at h
  ·rename_i e heq
   have := sameK_ok hk h
   rw [List.map_nil, List.nil_append, ← tailW_dl (wd := wd) hc h0 hn]
   show arrCells E .i64 0 (ev E e).toNat .nil ++ [] = arrCells E .i64 0 (ev E (.mul (.add (.var c) (.lit (-n))) (.lit wd))).toNat .nil ++ []
   rw [this]
  ·rename_i heq; cases heq
  ·cases h
 | e :: l, v, h => by
  unfold cellsW at h
  split at h
  ·rename_i heq; cases heq
  ·rename_i e' l' x r heq
   cases heq
   rw [Bool.and_eq_true] at h
   have h1 := sameK_ok hk h.1
   show [Value.int .i64 (ev E x)] ++ dl E r = _
   rw [cellsW_ok hk hc h0 hn h.2, h1]
   rfl
  ·cases h
noncomputable def chkSt (k : Nat) (q : SV × Mem) : Bool := match q.1 with
 | .sli s j (.lit (.ofNat 0)) (.lit n) (.var c) => zEq n (2 + 3 * k : Nat) && (factIn q.2.know (.var c) n hi64 && (match q.2.find s j with
  | some en => !en.ro && (Nat.beq en.t 81 && cellsW 2 q.2.know c n (cellsS (.var 1) (.var 2) k mE) en.c)
  | none => false))
 | _ => false
noncomputable def facSt (k : Nat) : List Fact := (.var 1, 0, 11) :: (.var 2, 0, 65535) :: (.var 23, k, hi64) :: (List.range (3 * k)).map fun (j : Nat) => (mE j, 0, 1099511627775)
noncomputable def okSt (k : Nat) : Bool := allOf (funW spW 33 [vi 1, vi 2, slM k] (slMem [enM k] (facSt k) 60)) (chkSt k)
def SemSt : Prop := ∀ {w : World} {b o cap k : Nat} {s g : Int} {N : List Int}, 1 ≤ k → k ≤ 16 → N.length = 3 * k → (∀ z ∈ N, 0 ≤ z ∧ z ≤ 1099511627775) → 0 ≤ s → s ≤ 11 → 0 ≤ g → g ≤ 65535 → k ≤ cap → (cap : Int) ≤ hi64 → RowN w b o N → Calls Try.prog 33 #[.int .i64 s, .int .i64 g, .slice (some ⟨b, o, none⟩) k cap] w fun e w' => Ext (fun _ => False) w w' ∧
 ∃ bl c' : Nat, w.heap.size ≤ bl ∧ bl < w'.heap.size ∧ 2 + 3 * k ≤ c' ∧ (c' : Int) ≤ hi64 ∧ w'.heap[bl]? = some (.cells ((numsS s g k N).map (Value.int .i64) ++ List.replicate ((c' - (2 + 3 * k)) * 2) (Value.int .i64 0)).toArray 81 (0, 0)) ∧ e = .returned (.slice (some ⟨bl, 0, none⟩) (2 + 3 * k) c')
theorem sem_st (hall : ∀ k, 1 ≤ k → k ≤ 16 → okSt k = true) : SemSt := by
 intro w b o cap k s g N hk1 hk hl h64 hs0 hs1 hg0 hg1 hc1 hc2 hr
 obtain ⟨hb, hcells⟩ := hr
 let E : Env := { i := fun j => if j = 23 then (cap : Int) else if j = 1 then s else if j = 2 then g else 0, b := fun _ => false, l := fun r => if r = 24 then N else [], base := fun x => if x = 20 then b else w.heap.size, o := fun x => if x = 20 then o else 0, v := fun _ => .tuple #[], f := G0 [] }
 have hE : E.Ok := by
  refine ⟨fun j => ?_, fun r z hz => ?_, G0_in []⟩
  ·show in64 (if j = 23 then (cap : Int) else if j = 1 then s else if j = 2 then g else 0)
   unfold hi64 at hc2
   unfold in64 lo64 hi64
   split
   ·omega
   ·split
    ·omega
    ·split <;> omega
  ·replace hz : z ∈ (if r = 24 then N else []) := hz
   split at hz
   ·have := h64 z hz
    unfold in64 lo64 hi64
    omega
   ·cases hz
 have hrow : E.row 24 = N := by
  rw [Env.row_l (by unfold fixR; omega)]
  rfl
 obtain ⟨outs, ho, hchk⟩ := allOf_ok (hall k hk1 hk)
 have call := run_ro (funW_ok (V := []) okSpW 33) ho (E := E) (w := w) rfl hE rfl rfl (fun e he => by
  rcases List.mem_singleton.1 he with rfl
  refine ⟨rfl, ⟨hb, fun _ j v hv => ?_, fun h => (by cases h), fun _ x h => (by cases h)⟩⟩
  have hd : dl E (enM k).c = (List.range (3 * k)).map fun j => Value.int .i64 (N.getD j 0) := by
   show arrCells E .i64 24 ((3 * k : Nat) : Int).toNat .nil ++ [] = _
   rw [List.append_nil, Int.toNat_natCast]
   unfold arrCells
   refine List.map_congr_left fun j _ => ?_
   show Value.int .i64 ((E.row 24).getD j 0) = _
   rw [hrow]
  rw [hd, List.getElem?_map] at hv
  have hj : j < 3 * k := by
   rcases Nat.lt_or_ge j (3 * k) with h | h
   ·exact h
   ·rw [List.getElem?_eq_none (by simpa using h)] at hv
    cases hv
  rw [List.getElem?_range hj] at hv
  cases hv
  have := hcells j (by omega)
  show w.cell? ⟨b + 0, o + ((0 : Int).toNat + j), none⟩ = _
  rw [show b + 0 = b from rfl, show ((0 : Int).toNat + j) = j by simp]
  exact this) (fun f hf => by
  unfold facSt at hf
  rcases List.mem_cons.1 hf with rfl | hf
  ·exact ⟨hs0, hs1⟩
  rcases List.mem_cons.1 hf with rfl | hf
  ·exact ⟨hg0, hg1⟩
  rcases List.mem_cons.1 hf with rfl | hf
  ·show (k : Int) ≤ cap ∧ (cap : Int) ≤ hi64
   omega
  ·obtain ⟨j, hj, rfl⟩ := List.mem_map.1 hf
   have hj := List.mem_range.1 hj
   unfold FactOk
   dsimp only
   rw [mE_ev hrow, List.getD_eq_getElem?_getD, List.getElem?_eq_getElem (by omega)]
   exact h64 _ (List.getElem_mem _))
 have ha : (([vi 1, vi 2, slM k] : List SV).map (dv E)).toArray = #[.int .i64 s, .int .i64 g, .slice (some ⟨b, o, none⟩) k cap] := by
  show #[Value.int .i64 s, .int .i64 g, Value.slice (some ⟨b + 0, o + (0 : Int).toNat, none⟩) ((k : Int)).toNat ((cap : Int)).toNat] = _
  simp
 rw [ha] at call
 refine call.mono ?_
 rintro e w' ⟨q, hq, E', hA, rfl, hm⟩
 have hN : E'.row 24 = N := by
  rw [Env.row_l (by unfold fixR; omega), hA.l 24 (by omega), ← Env.row_l (E := E) (r := 24) (by unfold fixR; omega)]
  exact hrow
 refine ⟨hm.ext, ?_⟩
 have hq := hchk q hq
 unfold chkSt at hq
 split at hq
 case h_2 => cases hq
 rename_i s' j' n c heq
 simp only [Bool.and_eq_true] at hq
 obtain ⟨g1, g2, g3⟩ := hq
 have g1 := zEq_ok g1
 have g2 := factIn_ok hm.know g2
 split at g3
 case h_2 => cases g3
 rename_i en hf
 simp only [Bool.and_eq_true, Bool.not_eq_true'] at g3
 obtain ⟨r1, r2, r3⟩ := g3
 have r2 := Nat.eq_of_beq_eq_true r2
 obtain ⟨f1', f2, f3⟩ := Mem.find_ok hf
 have he := hm.ents en f1'
 obtain ⟨⟨o1, o2⟩, o3⟩ := he.own r1
 have hmine := hm.mine en f1' r1
 have hblk : en.blk E' = E'.base s' + j' := by unfold Ent.blk; rw [f2, f3]
 have g2 : n ≤ E'.i c ∧ E'.i c ≤ hi64 := g2
 refine ⟨E'.base s' + j', (E'.i c).toNat, ?_, ?_, ?_, ?_, ?_, ?_⟩
 ·rcases hmine with h | h
  ·rw [← hblk]; exact h
  ·exact absurd h (fun h => h)
 ·rw [← hblk]; exact he.lt
 ·omega
 ·omega
 ·rw [← hblk, o3, r2]
  have hcl := cellsW_ok hm.know (c := c) (cap := (E'.i c).toNat) (n := n) (by omega) (by omega) (by omega) r3
  have hmap := cellsS_ev (E := E') (s := .var 1) (g := .var 2) (k := k) (num := mE) (N := N) fun j _ => mE_ev hN j
  have e1 : ev E' (.var 1) = s := hA.i 1 (by omega)
  have e2 : ev E' (.var 2) = g := hA.i 2 (by omega)
  rw [e1, e2] at hmap
  rw [hcl, ← hmap, List.map_map, g1, Int.toNat_natCast]
  rfl
 ·rw [heq]
  show Ending.returned (.slice (some ⟨E'.base s' + j', E'.o s' + (0 : Int).toNat, none⟩) n.toNat (E'.i c).toNat) = _
  rw [← f2, o1, g1, Int.toNat_natCast]
  rfl
noncomputable def formSt (args : List SV) (m : Mem) : Option (List IE × Int) := match args with
 | [.int .i64 s, .int .i64 g, sl] => match rowM [sl] m with
  | some (l, k) => cond (factIn m.know s 0 11 && (factIn m.know g 0 65535 && (Nat.ble 1 k && l.all fun e => factIn m.know e 0 1099511627775))) (some (cellsS s g k (atL l), (2 + 3 * k : Nat))) none
  | none => none
 | _ => none
noncomputable def storesX : List SV → X SV := orX (blkWX 2 81 (fun v => v) formSt) (funW spW 33)
theorem storesX_ok {V : List Int} (hst : SemSt) : SpecOk (G0 V) Try.prog 33 storesX := orX_ok (fun F w0 E args m outs w hgf ho hm => by
 refine blkWX_ok (vals := fun v => v) ho hm (fun _ _ _ _ _ _ _ => rfl) fun es z hform hwd hlen => ?_
 unfold formSt at hform
 split at hform
 case h_2 => cases hform
 rename_i s g sl
 split at hform
 case h_2 => cases hform
 rename_i l k hrow
 cases hc : (factIn m.know s 0 11 && (factIn m.know g 0 65535 && (Nat.ble 1 k && l.all fun e => factIn m.know e 0 1099511627775))) with
 | false => rw [hc] at hform; cases hform
 | true =>
 rw [hc] at hform
 cases hform
 simp only [Bool.and_eq_true] at hc
 obtain ⟨c1, c2, ck, c3⟩ := hc
 have ck := Nat.le_of_ble_eq_true ck
 have c1 := factIn_ok hm.know c1
 have c2 := factIn_ok hm.know c2
 obtain ⟨b, o, cap, ha, h1, h2, h3, h4, h5, h6⟩ := rowM_ok hm hrow
 have ha : #[dv E sl] = #[.slice (some ⟨b, o, none⟩) k cap] := ha
 have ha : dv E sl = .slice (some ⟨b, o, none⟩) k cap := by simpa using ha
 show Calls Try.prog 33 #[.int .i64 (ev E s), .int .i64 (ev E g), dv E sl] w _
 rw [ha]
 refine (hst (w := w) ck h1 h2 (fun z hz => by
  obtain ⟨e, he, rfl⟩ := List.mem_map.1 hz
  exact factIn_ok hm.know (List.all_eq_true.1 c3 e he)) c1.1 c1.2 c2.1 c2.2 h4 h5 h6).mono ?_
 rintro e w' ⟨hx, bl, c', b1, b2, b3, b4, b5, rfl⟩
 refine ⟨hx, bl, c', b1, b2, by omega, b4, ?_, by rw [Int.toNat_natCast]⟩
 have hmap := cellsS_ev (E := E) (s := s) (g := g) (k := k) (num := atL l) (N := l.map (ev E)) fun j _ => atL_ev E l j
 rw [b5, ← hmap, List.map_map, Int.toNat_natCast]
 rfl) (funW_ok okSpW 33)
end Go.Proofs.Ytofmndcdcchflaa
