/- an operation upon any view, the operation open, too: its quantities by unknown functions. -/
import Derived.Test.YtnfmmiomomgabaaT
namespace Go.Proofs.Ytnfmmiomomgabaa
open Go.Sx Go
set_option maxRecDepth 100000
noncomputable def links10 : List (Int × Int) := [(-1, 0), (-1, 1), (0, 0), (0, 1), (1, 0), (1, 1), (2, 0), (2, 1), (3, 0), (3, 1)]
theorem links10_ok : bOk links10 = true := by kernel_rfl
noncomputable def factsP : List Fact := links10.map bf ++ memT.know.facts
noncomputable def endV (lo n : Nat) (v : Int) (_ : List (IE × IE)) (kn : Know) : Bool := zEq v (-1) || (decide ((lo : Int) ≤ v) && decide (v < lo + n) && eqIp kn (.bv (20 + v.toNat)) (.lit 0))
noncomputable def factsQ (k : Int) : List Fact := xF k ++ factsP
noncomputable def endH (c : Nat) (v : Int) (l : List (IE × IE)) (kn : Know) : Bool := cond (zEq v (-1)) (eqIp kn (.bv (20 + c)) (.lit 1) || l.all fun p => eqIp kn p.1 p.2) true
noncomputable def chkOp (lo n : Nat) (k a b x : Int) : Bool :=
 (List.range 19).all (fun i => pureT (Nat.beq i 0) (quant i k a b x)) && inI (-1) 15 (quant 0 k a b x) ⟨factsQ k, []⟩ && inI 0 4 (quant 1 k a b x) ⟨factsQ k, []⟩ && inI 0 4398046511104 (quant 2 k a b x) ⟨factsQ k, []⟩ &&
 (List.range 16).all (fun c => inI 0 1099511627775 (quant (3 + c) k a b x) ⟨factsQ k, []⟩ && (ieEq (quant (3 + c) k a b x) (.sel 7 (.lit (.ofNat c))) || (Nat.ble lo c && Nat.blt c (lo + n) && allL (endH c) (quant 0 k a b x) [(quant (3 + c) k a b x, .sel 7 (.lit (.ofNat c)))] ⟨[], []⟩))) &&
 allL (endV lo n) (quant 0 k a b x) [] ⟨[], []⟩
theorem hide_ok {E : Env} (hE : KnowOk E ⟨[], []⟩) {c : Nat} {g e : IE} (h : allL (endH c) g [(e, .sel 7 (.lit (.ofNat c)))] ⟨[], []⟩ = true) (hg : ev E g = -1) (hb : E.b (20 + c) = false) : ev E e = ev E (.sel 7 (.lit (.ofNat c))) := by
 obtain ⟨l', kn', h1, h2, h3⟩ := allL_ok g _ _ hE h
 unfold endH at h3
 rw [hg, show zEq (-1) (-1) = true by rw [zEq_of]; rfl] at h3
 dsimp only [cond] at h3
 rw [Bool.or_eq_true] at h3
 rcases h3 with h3 | h3
 ·have := eqIp_ok h1 h3
  rw [ev_bv, ev_lit, hb] at this
  cases this
 ·rw [List.all_eq_true] at h3
  exact h2 (fun p hp => eqIp_ok h1 (h3 p hp)) _ List.mem_cons_self
noncomputable def chkRow (k a b x : Int) : Bool := (List.range 16).all fun c => (litWk 7 c (rowT k a b x)).isSome
def askVal (need : Int) (F : List Bool) (W N : List Int) (s : Value) : Value := .agg (Value.int .i64 need :: (F.map Value.bool ++ (W.map (Value.int .i64) ++ (N.map (Value.int .i64) ++ [s])))).toArray
abbrev opVal (k a b x : Int) : Value := .agg #[.int .i64 k, .int .i64 a, .int .i64 b, .int .i64 x]
def wrapV (tup : Bool) (v : Value) : Value := if tup then .tuple #[v, .int .i64 0] else v
def sliV (b : Nat) : Value := .slice (some ⟨b, 0, none⟩) 1 1
def nilV : Value := .slice none 0 0
noncomputable def fl16 (E : Env) : List Bool := (List.range 16).map fun c => E.b (20 + c)
noncomputable def row16 (E : Env) (r : Nat) : List Int := (List.range 16).map fun j => (E.row r).getD j 0
def OpPost (tup : Bool) (q : Nat → Int) (F : List Bool) (W N : List Int) (w : World) (e : Ending) (w' : World) : Prop :=
 Ext (fun _ => False) w w' ∧
 ((q 0 = -1 ∧ ∃ b, w.heap.size ≤ b ∧ b < w'.heap.size ∧ w'.heap[b]? = some (.cells #[.int .i64 (q 1), .int .i64 (q 2)] 48 (0, 0)) ∧ e = .returned (wrapV tup (askVal (-1) F W ((List.range 16).map fun c => q (3 + c)) (sliV b)))) ∨
  (q 0 ≠ -1 ∧ e = .returned (wrapV tup (askVal (q 0) F W N nilV))))
theorem dl_boolV (E : Env) (a : Nat) : ∀ (n : Nat) (r : SV), dl E (boolV a n r) = ((List.range n).map fun c => Value.bool (E.b (a + c))) ++ dl E r
 | 0, r => rfl
 | n + 1, r => by
  unfold boolV
  rw [dl_boolV E a n, List.range_succ, List.map_append, List.append_assoc]
  rfl
theorem dv_askT (E : Env) (need : IE) (now rest : SV) (v : Value) (hr : dl E rest = [v]) : dv E (askT need now rest) = askVal (ev E need) (fl16 E) (row16 E 6) ((List.range 16).map fun j => wsVal E 7 now j) v := by
 unfold askT dv askVal
 simp only [dl, dl_boolV, hr, arrCells, ev_lit, List.headD_cons, List.nil_append, List.append_nil, List.cons_append]
 simp only [wsVal, fl16, row16, List.map_map]
 rfl
theorem dv_okT (E : Env) (v : SV) (hv : dl E v = [dv E v]) : dv E (okT v) = wrapV true (dv E v) := by
 unfold okT
 show Value.tuple (dl E v ++ [Value.int .i64 0]).toArray = _
 rw [hv]
 rfl
theorem askT_one (E : Env) (need : IE) (now rest : SV) : dl E (askT need now rest) = [dv E (askT need now rest)] := by
 unfold askT dv
 simp only [dl, List.headD_cons]
theorem quant_cell {E : Env} {k a b x : Int} (h : chkRow k a b x = true) {c : Nat} (hc : c < 16) : wsVal E 7 (rowT k a b x) c = ev E (quant (3 + c) k a b x) := by
 unfold chkRow at h
 rw [List.all_eq_true] at h
 have := h c (List.mem_range.2 hc)
 rw [Option.isSome_iff_exists] at this
 obtain ⟨e, he⟩ := this
 rw [litWk_ok he]
 unfold quant
 rw [if_neg (by omega), if_neg (by omega), if_neg (by omega), Nat.add_sub_cancel_left, he]
theorem ev_blk (E : Env) (n b : Nat) (e : IE) : ev (E.blkE n b) e = ev E e := by
 unfold ev
 rw [evp_same (E := E.blkE n b) (E' := E) rfl rfl rfl rfl]
theorem cT_blk (E : Env) (n b : Nat) (k a c x : Int) : dl (E.blkE n b) (cT k a c x) = [.int .i64 (ev E (quant 1 k a c x)), .int .i64 (ev E (quant 2 k a c x))] := by
 unfold cT
 simp only [dl, ev_blk]
 rfl
theorem post8 {k a b x : Int} (h : chkRow k a b x = true) {E : Env} {w w' : World} {e : Ending} (hs : SemV 40 (form8 k a b x) E w e w') : OpPost true (fun i => ev E (quant i k a b x)) (fl16 E) (row16 E 6) (row16 E 7) w e w' := by
 refine ⟨hs.1, hs.2.imp ?_ ?_⟩
 ·rintro ⟨h0, bl, h1, h2, h3, h4⟩
  refine ⟨h0, bl, h1, h2, by rw [h3]; show some (Obj.cells (dl _ (cT k a b x)).toArray _ _) = _; rw [cT_blk]; rfl, ?_⟩
  rw [h4]
  show Ending.returned (dv _ (okT (askT no1 (rowT k a b x) oneAns))) = _
  rw [dv_okT _ _ (askT_one _ _ _ _), dv_askT _ _ _ _ (sliV bl) rfl]
  congr 2
  show askVal (-1) (fl16 E) (row16 E 6) _ _ = _
  congr 1
  exact List.map_congr_left fun c hc => by
   rw [wsVal_same (E := E.blkE _ bl) (E' := E) rfl rfl rfl rfl]
   exact quant_cell (b := b) h (List.mem_range.1 hc)
 ·rintro ⟨h0, h4⟩
  refine ⟨h0, ?_⟩
  rw [h4]
  show Ending.returned (dv _ (okT (askT (needT k a b x) .nil .nils))) = _
  rw [dv_okT _ _ (askT_one _ _ _ _), dv_askT _ _ _ _ nilV rfl]
  rfl
theorem post22 {k a b x : Int} (h : chkRow k a b x = true) {E : Env} {w w' : World} {e : Ending} (hs : SemV 40 (form22 k a b x) E w e w') : OpPost false (fun i => ev E (quant i k a b x)) (fl16 E) (row16 E 6) (row16 E 7) w e w' := by
 refine ⟨hs.1, hs.2.imp ?_ ?_⟩
 ·rintro ⟨h0, bl, h1, h2, h3, h4⟩
  refine ⟨h0, bl, h1, h2, by rw [h3]; show some (Obj.cells (dl _ (cT k a b x)).toArray _ _) = _; rw [cT_blk]; rfl, ?_⟩
  rw [h4]
  show Ending.returned (dv _ (askT no1 (rowT k a b x) oneAns)) = _
  rw [dv_askT _ _ _ _ (sliV bl) rfl]
  show Ending.returned (askVal (-1) (fl16 E) (row16 E 6) _ _) = Ending.returned (askVal (-1) (fl16 E) (row16 E 6) _ _)
  congr 2
  exact List.map_congr_left fun c hc => by
   rw [wsVal_same (E := E.blkE _ bl) (E' := E) rfl rfl rfl rfl]
   exact quant_cell (b := b) h (List.mem_range.1 hc)
 ·rintro ⟨h0, h4⟩
  refine ⟨h0, ?_⟩
  rw [h4]
  show Ending.returned (dv _ (askT (needT k a b x) .nil .nils)) = _
  rw [dv_askT _ _ _ _ nilV rfl]
  rfl
noncomputable def mkArgs : List IE → IE
 | [] => .noarg
 | e :: r => .arg e (mkArgs r)
theorem mkArgs_ev (E : Env) : ∀ l : List IE, evA E (mkArgs l) = l.map (ev E)
 | [] => rfl
 | e :: r => by
  show evA E (.arg e (mkArgs r)) = _
  rw [evA_arg, mkArgs_ev E r]; rfl
noncomputable def unB : Nat → SV → Option (List BE × SV)
 | 0, r => some ([], r)
 | n + 1, .cons (.bool b) r => match unB n r with
  | some (l, q) => some (b :: l, q)
  | none => none
 | _, _ => none
theorem unB_ok (E : Env) : ∀ {n : Nat} {v : SV} {l : List BE} {q : SV}, unB n v = some (l, q) → l.length = n ∧ dl E v = l.map (fun b => Value.bool (evB E b)) ++ dl E q
 | 0, v, l, q, h => by cases h; exact ⟨rfl, rfl⟩
 | n + 1, v, l, q, h => by
  unfold unB at h
  split at h
  ·rename_i hz; omega
  ·rename_i n' b r hn
   cases hn
   split at h
   ·rename_i l' q' h'
    cases h
    obtain ⟨h1, h2⟩ := unB_ok E h'
    refine ⟨by rw [List.length_cons, h1], ?_⟩
    show [Value.bool (evB E b)] ++ dl E r = _
    rw [h2]; rfl
   ·cases h
  ·cases h
structure VIn where
 fl : List BE
 r1 : Nat
 w1 : SV
 r2 : Nat
 w2 : SV
noncomputable def viewOf : SV → Option VIn
 | .agg ch => match unB 16 ch with
  | some (fl, .cons (.arr k1 r1 (.lit z1) w1) (.cons (.arr k2 r2 (.lit z2) w2) .nil)) => cond (Nat.beq (kindNo k1) (kindNo .i64) && Nat.beq (kindNo k2) (kindNo .i64) && zEq z1 16 && zEq z2 16) (some ⟨fl, r1, w1, r2, w2⟩) none
  | _ => none
 | _ => none
theorem viewOf_ok (E : Env) {v : SV} {V : VIn} (h : viewOf v = some V) : V.fl.length = 16 ∧ dv E v = .agg (V.fl.map (fun b => Value.bool (evB E b)) ++ (arrCells E .i64 V.r1 16 V.w1 ++ arrCells E .i64 V.r2 16 V.w2)).toArray := by
 unfold viewOf at h
 split at h
 ·rename_i ch
  split at h
  ·rename_i fl k1 r1 z1 w1 k2 r2 z2 w2 hu
   cases hc : (Nat.beq (kindNo k1) (kindNo .i64) && Nat.beq (kindNo k2) (kindNo .i64) && zEq z1 16 && zEq z2 16) with
   | false => rw [hc] at h; cases h
   | true =>
    rw [hc] at h
    cases h
    simp only [Bool.and_eq_true] at hc
    obtain ⟨⟨⟨h1, h2⟩, h3⟩, h4⟩ := hc
    have h1 := kindNo_eq h1
    have h2 := kindNo_eq h2
    have h3 := zEq_ok h3
    have h4 := zEq_ok h4
    subst h1 h2 h3 h4
    obtain ⟨l1, l2⟩ := unB_ok E hu
    refine ⟨l1, ?_⟩
    show Value.agg (dl E ch).toArray = _
    rw [l2]
    simp only [dl, ev_lit, List.append_nil]
    rfl
  ·cases h
 ·cases h
noncomputable def opOf : SV → Option (IE × IE × IE × IE)
 | .agg (.cons (.int k1 a) (.cons (.int k2 b) (.cons (.int k3 c) (.cons (.int k4 d) .nil)))) => cond (Nat.beq (kindNo k1) (kindNo .i64) && Nat.beq (kindNo k2) (kindNo .i64) && Nat.beq (kindNo k3) (kindNo .i64) && Nat.beq (kindNo k4) (kindNo .i64)) (some (a, b, c, d)) none
 | _ => none
theorem opOf_ok (E : Env) {v : SV} {a b c d : IE} (h : opOf v = some (a, b, c, d)) : dv E v = opVal (ev E a) (ev E b) (ev E c) (ev E d) := by
 unfold opOf at h
 split at h
 ·rename_i k1 a' k2 b' k3 c' k4 d'
  cases hc : (Nat.beq (kindNo k1) (kindNo .i64) && Nat.beq (kindNo k2) (kindNo .i64) && Nat.beq (kindNo k3) (kindNo .i64) && Nat.beq (kindNo k4) (kindNo .i64)) with
  | false => rw [hc] at h; cases h
  | true =>
   rw [hc] at h
   cases h
   simp only [Bool.and_eq_true] at hc
   obtain ⟨⟨⟨h1, h2⟩, h3⟩, h4⟩ := hc
   have h1 := kindNo_eq h1
   have h2 := kindNo_eq h2
   have h3 := kindNo_eq h3
   have h4 := kindNo_eq h4
   subst h1 h2 h3 h4
   rfl
 ·cases h
noncomputable def flagI : BE → Option IE
 | .var j => some (.bv j)
 | .lit b => some (.lit (cond b 1 0))
 | _ => none
noncomputable def flagsI : List BE → Option (List IE)
 | [] => some []
 | b :: r => match flagI b, flagsI r with
  | some e, some l => some (e :: l)
  | _, _ => none
theorem flagsI_ok (E : Env) : ∀ {l : List BE} {r : List IE}, flagsI l = some r → r.map (ev E) = l.map fun b => if evB E b then 1 else 0
 | [], r, h => by cases h; rfl
 | b :: l, r, h => by
  unfold flagsI at h
  split at h
  ·rename_i e l' h1 h2
   cases h
   rw [List.map_cons, List.map_cons, flagsI_ok E h2]
   congr 1
   unfold flagI at h1
   split at h1
   ·cases h1; rfl
   ·rename_i c
    cases h1
    cases c <;> rfl
   ·cases h1
  ·cases h
noncomputable def litAll (r : Nat) (ws : SV) : Nat → Nat → Option (List IE)
 | _, 0 => some []
 | c, n + 1 => match litWk r c ws, litAll r ws (c + 1) n with
  | some e, some l => some (e :: l)
  | _, _ => none
theorem litAll_ok (E : Env) {r : Nat} {ws : SV} : ∀ {n c : Nat} {l : List IE}, litAll r ws c n = some l → l.map (ev E) = (List.range n).map fun j => wsVal E r ws (c + j)
 | 0, c, l, h => by cases h; rfl
 | n + 1, c, l, h => by
  unfold litAll at h
  split at h
  ·rename_i e l' h1 h2
   cases h
   rw [List.map_cons, litAll_ok E h2, List.range_succ_eq_map, List.map_cons, List.map_map, ← litWk_ok (E := E) h1]
   congr 1
   refine List.map_congr_left fun j _ => ?_
   show wsVal E r ws (c + 1 + j) = wsVal E r ws (c + (j + 1))
   congr 1
   omega
  ·cases h
noncomputable def envP (E : Env) (w : World) (V : VIn) (x : Int) : Env :=
 { i := fun j => if j = 9 then x else 0, b := fun j => (V.fl.map (evB E)).getD (j - 20) false, l := fun r => if r = 6 then (List.range 16).map (wsVal E V.r1 V.w1) else if r = 7 then (List.range 16).map (wsVal E V.r2 V.w2) else [], base := fun _ => w.heap.size, o := fun _ => 0, v := fun _ => .tuple #[], f := E.f }
theorem envP_fl {E : Env} {w : World} {V : VIn} {x : Int} (h : V.fl.length = 16) : fl16 (envP E w V x) = V.fl.map (evB E) := by
 unfold fl16
 refine List.ext_getElem (by simp [h]) fun c h1 h2 => ?_
 rw [List.length_map, List.length_range] at h1
 rw [List.getElem_map, List.getElem_range]
 show (V.fl.map (evB E)).getD (20 + c - 20) false = _
 rw [Nat.add_sub_cancel_left, List.getD_eq_getElem?_getD, List.getElem?_eq_getElem h2]
 rfl
theorem getD_range {f : Nat → Int} {j : Nat} (h : j < 16) : ((List.range 16).map f).getD j 0 = f j := by
 rw [List.getD_eq_getElem?_getD, List.getElem?_map, List.getElem?_range h]
 rfl
theorem envP_row {E : Env} {w : World} {V : VIn} {x : Int} : row16 (envP E w V x) 6 = (List.range 16).map (wsVal E V.r1 V.w1) ∧ row16 (envP E w V x) 7 = (List.range 16).map (wsVal E V.r2 V.w2) := by
 constructor
 ·refine List.map_congr_left fun j hj => ?_
  show ((List.range 16).map (wsVal E V.r1 V.w1)).getD j 0 = _
  exact getD_range (List.mem_range.1 hj)
 ·refine List.map_congr_left fun j hj => ?_
  show ((List.range 16).map (wsVal E V.r2 V.w2)).getD j 0 = _
  exact getD_range (List.mem_range.1 hj)
theorem dv_view (E : Env) : dv E (viewV 20 6 7) = .agg ((fl16 E).map Value.bool ++ ((row16 E 6).map (Value.int .i64) ++ (row16 E 7).map (Value.int .i64))).toArray := by
 unfold viewV
 show Value.agg (dl E (boolV 20 16 _)).toArray = _
 rw [dl_boolV]
 simp only [dl, arrCells, ev_lit, wsVal, fl16, row16, List.map_map, List.append_nil]
 rfl
theorem envP_view {E : Env} {w : World} {v : SV} {V : VIn} {x : Int} (h : viewOf v = some V) : dv (envP E w V x) (viewV 20 6 7) = dv E v := by
 obtain ⟨h1, h2⟩ := viewOf_ok E h
 rw [dv_view, envP_fl h1, envP_row.1, envP_row.2, h2]
 simp only [arrCells, List.map_map]
 rfl
def SemOp (f : Nat) (tup : Bool) (k a b x : Int) : Prop := ∀ (E : Env) (w : World), E.f = G0 → KnowOk E memT.know → w.heap.size = E.base 0 → E.o 0 = 0 → E.i 9 = x →
 Calls Try.prog f #[dv E (viewV 20 6 7), opVal k a b x] w (OpPost tup (fun i => ev E (quant i k a b x)) (fl16 E) (row16 E 6) (row16 E 7) w)
theorem xF_ok {E : Env} {k a b x : Int} (hm : mayZ k a b x = 1) (hi : E.i 9 = x) : ∀ f ∈ xF k, FactOk E f := by
 intro f hf
 unfold xF at hf
 cases ho : openX k with
 | false => rw [ho] at hf; cases hf
 | true =>
  rw [ho] at hf
  rcases List.mem_singleton.1 hf with rfl
  unfold openX at ho
  have ho := of_decide_eq_true ho
  unfold FactOk
  show 0 ≤ E.i 9 ∧ E.i 9 ≤ 1048575
  rw [hi]
  unfold mayZ at hm
  split at hm
  ·omega
  ·omega
theorem memX_ok {E : Env} {k a b x : Int} (hm : mayZ k a b x = 1) (hi : E.i 9 = x) (hk : KnowOk E memT.know) : KnowOk E (memX k).know :=
 ⟨hk.env, fun f hf => (List.mem_append.1 hf).elim (xF_ok hm hi f) (hk.facts f), hk.conds⟩
theorem dv_ocX {E : Env} {k a b x : Int} (hi : E.i 9 = x) : dv E (.agg (ocX k a b x)) = opVal k a b x := by
 unfold ocX
 show Value.agg #[.int .i64 k, .int .i64 a, .int .i64 b, .int .i64 (ev E (cond (openX k) (.var 9) (.lit x)))] = _
 cases openX k
 ·rfl
 ·show Value.agg #[.int .i64 k, .int .i64 a, .int .i64 b, .int .i64 (E.i 9)] = _
  rw [hi]
theorem sem8 {s : List SV → X SV} (hs : SpecOk G0 Try.prog 29 s) {k a b x : Int} (hm : mayZ k a b x = 1) (hr : chkRow k a b x = true) {fss : List (List Fact)} (hcov : ∀ E : Env, E.f = G0 → KnowOk E (memX k).know → ∃ fs ∈ fss, ∀ x ∈ fs, FactOk E x) (hall : ∀ fs ∈ fss, vRun 40 s ((form8 k a b x).more fs) = true) : SemOp 29 true k a b x := fun E w h1 h2 h3 h4 h5 => by
 have := vSem hs 40 (form8 k a b x) hcov hall h1 (memX_ok hm h5 h2) h3 h4
 rw [show ((form8 k a b x).args.map (dv E)).toArray = #[dv E (viewV 20 6 7), opVal k a b x] by rw [← dv_ocX h5]; rfl] at this
 exact this.mono fun _ _ h => post8 hr h
theorem semB {s : List SV → X SV} (hs : SpecOk G0 Try.prog 28 s) {k a b x : Int} (hm : mayZ k a b x = 1) (hr : chkRow k a b x = true) {fss : List (List Fact)} (hcov : ∀ E : Env, E.f = G0 → KnowOk E (memX k).know → ∃ fs ∈ fss, ∀ x ∈ fs, FactOk E x) (hall : ∀ fs ∈ fss, vRun 40 s ((form8 k a b x).more fs) = true) : SemOp 28 true k a b x := fun E w h1 h2 h3 h4 h5 => by
 have := vSem hs 40 (form8 k a b x) hcov hall h1 (memX_ok hm h5 h2) h3 h4
 rw [show ((form8 k a b x).args.map (dv E)).toArray = #[dv E (viewV 20 6 7), opVal k a b x] by rw [← dv_ocX h5]; rfl] at this
 exact this.mono fun _ _ h => post8 hr h
theorem sem22 {s : List SV → X SV} (hs : SpecOk G0 Try.prog 24 s) {k a b x : Int} (hm : mayZ k a b x = 1) (hr : chkRow k a b x = true) {fss : List (List Fact)} (hcov : ∀ E : Env, E.f = G0 → KnowOk E (memX k).know → ∃ fs ∈ fss, ∀ x ∈ fs, FactOk E x) (hall : ∀ fs ∈ fss, vRun 40 s ((form22 k a b x).more fs) = true) : SemOp 24 false k a b x := fun E w h1 h2 h3 h4 h5 => by
 have := vSem hs 40 (form22 k a b x) hcov hall h1 (memX_ok hm h5 h2) h3 h4
 rw [show ((form22 k a b x).args.map (dv E)).toArray = #[dv E (viewV 20 6 7), opVal k a b x] by rw [← dv_ocX h5]; rfl] at this
 exact this.mono fun _ _ h => post22 hr h
theorem app_quant {E E0 : Env} (hE : E.f = G0) {l : List IE} {k a b x : Int} {i : Nat} (hi : i ≤ 18) (hl : l.length = 20 ∨ l.length = 36) {xs : List Int} (hx : l.map (ev E) = xs) (e1 : xs.getD 16 0 = k) (e2 : xs.getD 17 0 = a) (e3 : xs.getD 18 0 = b) (e4 : xs.getD 19 0 = x)
  {B : Bool} (hp : pureT B (quant i k a b x) = true) (hs : SameT B (envN xs (xs.drop 20)) E0) (hin : in64 (ev E0 (quant i k a b x))) : ev E (.app (200 + i) (mkArgs l)) = ev E0 (quant i k a b x) := by
 rw [ev_app, mkArgs_ev, hx, hE]
 have hlen : xs.length = 20 ∨ xs.length = 36 := by rw [← hx, List.length_map]; exact hl
 unfold G0
 split
 ·rename_i y
  simp at hlen
 ·rw [if_pos (by omega), Nat.add_sub_cancel_left, e1, e2, e3, e4, pureT_ev hs _ hp]
  unfold clampZ
  exact if_pos hin
theorem G0_one {f : Nat} {a : Int} (_h1 : 100 ≤ f) (_h2 : f ≤ 105) : Gn f [a] = G0 f [a] := rfl
noncomputable def litArgs : IE → Option (List Int)
 | .noarg => some []
 | .arg (.lit z) r => match litArgs r with
  | some l => some (z :: l)
  | none => none
 | _ => none
theorem litArgs_ok (E : Env) : ∀ {A : IE} {xs : List Int}, litArgs A = some xs → evA E A = xs
 | .noarg, xs, h => by cases h; rfl
 | .arg (.lit z) r, xs, h => by
  unfold litArgs at h
  split at h
  ·rename_i l hl
   cases h
   rw [evA_arg, litArgs_ok E hl]
   rfl
  ·cases h
noncomputable def appV (f : Nat) (A : IE) : IE := match litArgs A with
 | some xs => .lit (G0 f xs)
 | none => .app f A
theorem appV_ok {E : Env} (hE : E.f = G0) (f : Nat) (A : IE) : ev E (appV f A) = ev E (.app f A) := by
 unfold appV
 split
 ·rename_i xs h
  rw [ev_app, litArgs_ok E h, hE]
  rfl
 ·rfl
noncomputable def wrN (A : IE) : List Nat → SV → SV
 | [], ws => ws
 | c :: l, ws => .wr (.lit (.ofNat c)) (appV (200 + (3 + c)) A) (wrN A l ws)
theorem wrN_ok {E : Env} (hE : E.f = G0) (A : IE) (r : Nat) (ws : SV) (j : Nat) : ∀ (l : List Nat), wsVal E r (wrN A l ws) j = if j ∈ l then ev E (.app (200 + (3 + j)) A) else wsVal E r ws j
 | [] => by rw [if_neg (by simp)]; rfl
 | c :: l => by
  unfold wrN
  show (if ev E (.lit (.ofNat c)) = (j : Int) then _ else _) = _
  rw [ev_lit, wrN_ok hE A r ws j l, appV_ok hE]
  by_cases h : c = j
  ·subst h
   rw [if_pos (show (Int.ofNat c : Int) = (c : Int) from rfl), if_pos List.mem_cons_self]
  ·have h' : ¬ ((Int.ofNat c : Int) = (j : Int)) := fun he => h (Int.ofNat.inj he)
   rw [if_neg h']
   by_cases h2 : j ∈ l
   ·rw [if_pos h2, if_pos (List.mem_cons_of_mem _ h2)]
   ·rw [if_neg h2, if_neg (fun hm => (List.mem_cons.1 hm).elim (fun e => h e.symm) h2)]
noncomputable def allC (lo n : Nat) : List Nat := (List.range n).map fun c => lo + c
theorem allC_mem {lo n j : Nat} : j ∈ allC lo n ↔ lo ≤ j ∧ j < lo + n := by
 unfold allC
 rw [List.mem_map]
 constructor
 ·rintro ⟨c, hc, rfl⟩
  have := List.mem_range.1 hc
  omega
 ·exact fun h => ⟨j - lo, List.mem_range.2 (by omega), by omega⟩
noncomputable def factsN (A : IE) : Nat → Nat → List Fact → List Fact
 | _, 0, l => l
 | c, n + 1, l => (.app (200 + (3 + c)) A, 0, 1099511627775) :: factsN A (c + 1) n l
theorem factsN_mem {A : IE} : ∀ {n c : Nat} {l : List Fact} {f : Fact}, f ∈ factsN A c n l → (∃ j, c ≤ j ∧ j < c + n ∧ f = (.app (200 + (3 + j)) A, 0, 1099511627775)) ∨ f ∈ l
 | 0, _, _, _, h => .inr h
 | n + 1, c, l, f, h => by
  rcases List.mem_cons.1 h with rfl | h
  ·exact .inl ⟨c, Nat.le_refl _, by omega, rfl⟩
  ·rcases factsN_mem h with ⟨j, h1, h2, h3⟩ | h
   ·exact .inl ⟨j, by omega, by omega, h3⟩
   ·exact .inr h
noncomputable def boolsV : List BE → SV → SV
 | [], r => r
 | b :: l, r => .cons (.bool b) (boolsV l r)
theorem boolsV_ok (E : Env) : ∀ (l : List BE) (r : SV), dl E (boolsV l r) = l.map (fun b => Value.bool (evB E b)) ++ dl E r
 | [], r => rfl
 | b :: l, r => by
  show [Value.bool (evB E b)] ++ dl E (boolsV l r) = _
  rw [boolsV_ok E l r]; rfl
noncomputable def askX (tup : Bool) (need : IE) (V : VIn) (now rest : SV) : SV :=
 cond tup (okT (.agg (.cons (.int .i64 need) (boolsV V.fl (.cons (.arr .i64 V.r1 (.lit 16) V.w1) (.cons (.arr .i64 V.r2 (.lit 16) now) (.cons rest .nil)))))))
  (.agg (.cons (.int .i64 need) (boolsV V.fl (.cons (.arr .i64 V.r1 (.lit 16) V.w1) (.cons (.arr .i64 V.r2 (.lit 16) now) (.cons rest .nil))))))
theorem askX_ok (E : Env) (tup : Bool) (need : IE) (V : VIn) (now rest : SV) (v : Value) (hr : dl E rest = [v]) :
  dv E (askX tup need V now rest) = wrapV tup (askVal (ev E need) (V.fl.map (evB E)) ((List.range 16).map (wsVal E V.r1 V.w1)) ((List.range 16).map (wsVal E V.r2 now)) v) := by
 have h : dv E (.agg (.cons (.int .i64 need) (boolsV V.fl (.cons (.arr .i64 V.r1 (.lit 16) V.w1) (.cons (.arr .i64 V.r2 (.lit 16) now) (.cons rest .nil)))))) = askVal (ev E need) (V.fl.map (evB E)) ((List.range 16).map (wsVal E V.r1 V.w1)) ((List.range 16).map (wsVal E V.r2 now)) v := by
  unfold dv askVal
  simp only [dl, boolsV_ok, hr, arrCells, ev_lit, List.headD_cons, List.append_nil, List.cons_append, List.nil_append, List.map_map]
  rfl
 cases tup with
 | true =>
  show dv E (okT _) = _
  rw [dv_okT _ _ (by unfold dv; simp only [dl, List.headD_cons]), h]
 | false => exact h
noncomputable def nameOf (cs : List BE) (a : IE) : IE := match defOf a cs with
 | some j => .var j
 | none => a
theorem nameOf_ok {E : Env} : ∀ {cs : List BE}, (∀ c ∈ cs, evB E c = true) → ∀ a : IE, ev E (nameOf cs a) = ev E a
 | [], _, _ => rfl
 | c :: r, hc, a => by
  have ih := nameOf_ok (cs := r) (fun c h => hc c (List.mem_cons_of_mem _ h)) a
  unfold nameOf at ih ⊢
  unfold defOf
  split
  ·rename_i j hj
   split at hj
   ·rename_i j' t
    cases ht : ieEq t a with
    | false =>
     rw [ht] at hj
     replace hj : defOf a r = some j := hj
     rw [hj] at ih
     exact ih
    | true =>
     rw [ht] at hj
     cases hj
     have h1 : ev E (.var j) = ev E t := of_decide_eq_true (hc _ List.mem_cons_self)
     rw [h1, ieEq_ok ht]
   ·rw [hj] at ih
    exact ih
  ·rfl
noncomputable def rootOf (cs : List BE) (a : IE) : IE := match cs with
 | [] => a
 | c :: r => match c with
  | .eq _x (.app _ _) => rootOf r a
  | .eq x t => cond (ieEq x a) t (rootOf r a)
  | _ => rootOf r a
theorem rootOf_ok {E : Env} : ∀ {cs : List BE}, (∀ c ∈ cs, evB E c = true) → ∀ a : IE, ev E (rootOf cs a) = ev E a
 | [], _, _ => rfl
 | c :: r, hc, a => by
  have ih := rootOf_ok (cs := r) (fun c h => hc c (List.mem_cons_of_mem _ h)) a
  unfold rootOf
  split
  ·exact ih
  ·rename_i x t _
   cases hx : ieEq x a with
   | false => exact ih
   | true =>
    have h1 : ev E x = ev E t := of_decide_eq_true (hc _ List.mem_cons_self)
    show ev E t = _
    rw [← h1, ieEq_ok hx]
  ·exact ih
noncomputable def skipE (cs : List BE) (fl : List BE) (N : Nat) (A : IE) (r : Nat) (ws : SV) (c : Nat) : Option BE := match fl[c]?, litWk r c ws with
 | some b, some e => cond ((asked cs b == .lit false) && BE.nm N (.eq (nameOf cs (.app (200 + (3 + c)) A)) (rootOf cs e))) (some (.eq (nameOf cs (.app (200 + (3 + c)) A)) (rootOf cs e))) none
 | _, _ => none
noncomputable def skipsE (cs : List BE) (fl : List BE) (N : Nat) (A : IE) (r : Nat) (ws : SV) (lo n : Nat) : List BE := ((List.range n).map fun c => lo + c).filterMap (skipE cs fl N A r ws)
theorem skipsE_mem {E : Env} {cs fl : List BE} {N : Nat} {A : IE} {r : Nat} {ws : SV} {lo n : Nat} {d : BE} (hc : ∀ c ∈ cs, evB E c = true) (h : d ∈ skipsE cs fl N A r ws lo n) :
  ∃ c b e, lo ≤ c ∧ c < lo + n ∧ fl[c]? = some b ∧ evB E b = false ∧ litWk r c ws = some e ∧ d = .eq (nameOf cs (.app (200 + (3 + c)) A)) (rootOf cs e) ∧ d.nm N = true := by
 unfold skipsE at h
 obtain ⟨c, h1, h2⟩ := List.mem_filterMap.1 h
 obtain ⟨k, h3, rfl⟩ := List.mem_map.1 h1
 have h3 := List.mem_range.1 h3
 unfold skipE at h2
 split at h2
 ·rename_i b e hb he
  cases hq : ((asked cs b == .lit false) && BE.nm N (.eq (nameOf cs (.app (200 + (3 + (lo + k))) A)) (rootOf cs e))) with
  | false => rw [hq] at h2; cases h2
  | true =>
   rw [hq] at h2
   cases h2
   rw [Bool.and_eq_true, beq_iff_eq] at hq
   have := asked_ok hc b
   rw [hq.1] at this
   exact ⟨lo + k, b, e, by omega, by omega, hb, this.symm, he, rfl, hq.2⟩
 ·cases h2
noncomputable def wayOf (tup : Bool) (lo n : Nat) (V : VIn) (A A0 : IE) (m : Mem) (z : Int) : Option (SV × Mem) :=
 cond (zEq z (-1)) (some (askX tup (.lit (-1)) V (wrN A (allC lo n) V.w2) (.sli m.nv 0 (.lit 0) (.lit 1) (.lit 1)),
   { m with know := ⟨(.app 201 A, 0, 4) :: (.app 202 A, 0, 4398046511104) :: factsN A lo n m.know.facts, .eq (.app 200 A0) (.lit z) :: (skipsE m.know.conds V.fl m.nv A V.r2 V.w2 lo n ++ m.know.conds)⟩, heap := ⟨m.nv, 0, false, 48, .lit 0, .cons (.int .i64 (appV 201 A)) (.cons (.int .i64 (appV 202 A)) .nil)⟩ :: m.heap, seg := m.nv + 1, next := 0, nv := m.nv + 2 }))
  (match V.fl[z.toNat]? with
   | some b => cond (asked m.know.conds b == .lit true) none (some (askX tup (.lit z) V V.w2 .nils,
     { m with know := ⟨m.know.facts, .not b :: .eq (.app 200 A0) (.lit z) :: m.know.conds⟩, seg := m.nv + 1, next := 0, nv := m.nv + 2 }))
   | none => none)
noncomputable def zsOf (lo n : Nat) (A0 : IE) (m : Mem) : List Int := match litArgs A0 with
 | some xs => nfZ (G0 200 xs) fun z => [z]
 | none => match ((-1) :: (List.range n).map fun c => ((lo + c : Nat) : Int)).find? fun z => hasB (.eq (.app 200 A0) (.lit z)) m.know.conds with
 | some z => [z]
 | none => (-1) :: (List.range n).map fun c => ((lo + c : Nat) : Int)
noncomputable def mayK (kn : Know) (k a b x : IE) : Bool := (hasB (.eq (.app 230 (mkArgs [k, a, b, x])) (.lit 1)) kn.conds || hasB (.eq (.lit 1) (.app 230 (mkArgs [k, a, b, x]))) kn.conds) || (match k, a, b, x with
 | .lit k, .lit a, .lit b, .lit x => decide (mayZ k a b x = 1)
 | _, _, _, _ => false)
theorem mayK_ok {E : Env} {kn : Know} (hE : E.f = G0) (hk : KnowOk E kn) {k a b x : IE} (h : mayK kn k a b x = true) : mayZ (ev E k) (ev E a) (ev E b) (ev E x) = 1 := by
 unfold mayK at h
 rw [Bool.or_eq_true, Bool.or_eq_true] at h
 rcases h with (h | h) | h
 ·have := hk.conds _ (hasB_ok h)
  have : ev E (.app 230 (mkArgs [k, a, b, x])) = 1 := of_decide_eq_true this
  rw [ev_app, mkArgs_ev, hE] at this
  exact this
 ·have := hk.conds _ (hasB_ok h)
  have : 1 = ev E (.app 230 (mkArgs [k, a, b, x])) := of_decide_eq_true this
  have := this.symm
  rw [ev_app, mkArgs_ev, hE] at this
  exact this
 ·split at h
  ·exact of_decide_eq_true h
  ·cases h
noncomputable def semX (tup : Bool) (lo n : Nat) (klo khi : Int) : List SV → X SV := fun args m => match args with
 | [v, o] => match viewOf v, opOf o with
  | some V, some (k, a, b, x) => match flagsI V.fl, litAll V.r1 V.w1 0 16, litAll V.r2 V.w2 0 16 with
   | some fI, some wI, some nI =>
    cond (mayK m.know k a b x && in64S m.know x && inR (rng m.know.facts k) klo khi && m.nm m.nv && v.nm m.nv && (IE.app 200 (mkArgs (nI ++ [k, a, b, x] ++ fI))).nm m.nv && (IE.app 201 (mkArgs (nI ++ [k, a, b, x]))).nm m.nv && (wI.all fun e => factIn m.know e 0 1099511627775) && nI.all fun e => factIn m.know e 0 1099511627775)
     (some (nfL (fun p k => nfS p.1 fun v => nfMem p.2 fun m => k (v, m)) ((zsOf lo n (mkArgs (nI ++ [k, a, b, x] ++ fI)) m).filterMap (wayOf tup lo n V (mkArgs (nI ++ [k, a, b, x])) (mkArgs (nI ++ [k, a, b, x] ++ fI)) m)) fun l => l)) none
   | _, _, _ => none
  | _, _ => none
 | _ => none
theorem rngs_mem {r : Nat} : ∀ {n : Nat} {l : List Fact} {f : Fact}, f ∈ rngs r n l → f ∈ l ∨ ∃ i : Nat, i < n ∧ f = (.sel r (.lit i), 0, 1099511627775)
 | 0, _, _, h => .inl h
 | n + 1, l, f, h => by
  rcases rngs_mem (n := n) (l := (.sel r (.lit n), 0, 1099511627775) :: l) h with h | ⟨i, hi, rfl⟩
  ·rcases List.mem_cons.1 h with rfl | h
   ·exact .inr ⟨n, by omega, rfl⟩
   ·exact .inl h
  ·exact .inr ⟨i, by omega, rfl⟩
theorem cells_in {E : Env} {kn : Know} (hk : KnowOk E kn) {r : Nat} {ws : SV} {l : List IE} (hl : litAll r ws 0 16 = some l) (h : (l.all fun e => factIn kn e 0 1099511627775) = true) : ∀ j, j < 16 → 0 ≤ wsVal E r ws j ∧ wsVal E r ws j ≤ 1099511627775 := by
 intro j hj
 have e := litAll_ok E hl
 have hlen : l.length = 16 := by have := congrArg List.length e; simpa using this
 have : (l.map (ev E))[j]? = some (wsVal E r ws (0 + j)) := by rw [e, List.getElem?_map, List.getElem?_range hj]; rfl
 rw [List.getElem?_map, List.getElem?_eq_getElem (by omega)] at this
 have this := Option.some.inj this
 rw [List.all_eq_true] at h
 have := factIn_ok hk (h l[j] (List.getElem_mem _))
 rw [Nat.zero_add] at *
 omega
theorem envP_know {E : Env} {w : World} {V : VIn} {x : Int} (hE : E.Ok) (hx : in64 x) (h1 : ∀ j, j < 16 → 0 ≤ wsVal E V.r1 V.w1 j ∧ wsVal E V.r1 V.w1 j ≤ 1099511627775) (h2 : ∀ j, j < 16 → 0 ≤ wsVal E V.r2 V.w2 j ∧ wsVal E V.r2 V.w2 j ≤ 1099511627775) : KnowOk (envP E w V x) memT.know := by
 have r64 : ∀ {z : Int}, 0 ≤ z ∧ z ≤ 1099511627775 → in64 z := fun h => by unfold in64 lo64 hi64; omega
 refine ⟨⟨fun k => ?_, fun k z hz => ?_, hE.f⟩, fun f hf => ?_, fun _ h => by cases h⟩
 ·show in64 (if k = 9 then x else 0)
  split
  ·exact hx
  ·constructor <;> decide
 ·replace hz : z ∈ (if k = 6 then (List.range 16).map (wsVal E V.r1 V.w1) else if k = 7 then (List.range 16).map (wsVal E V.r2 V.w2) else []) := hz
  split at hz
  ·obtain ⟨j, hj, rfl⟩ := List.mem_map.1 hz
   exact r64 (h1 j (List.mem_range.1 hj))
  ·split at hz
   ·obtain ⟨j, hj, rfl⟩ := List.mem_map.1 hz
    exact r64 (h2 j (List.mem_range.1 hj))
   ·cases hz
 ·have sel : ∀ (r : Nat) (i : Nat), ev (envP E w V x) (.sel r (.lit i)) = ((envP E w V x).row r).getD i 0 := fun r i => by rw [ev_sel, ev_lit, Int.toNat_natCast]
  rcases rngs_mem hf with hf | ⟨i, hi, rfl⟩
  ·rcases rngs_mem hf with hf | ⟨i, hi, rfl⟩
   ·cases hf
   ·unfold FactOk
    rw [sel]
    show 0 ≤ ((List.range 16).map (wsVal E V.r2 V.w2)).getD i 0 ∧ _
    show _ ∧ ((List.range 16).map (wsVal E V.r2 V.w2)).getD i 0 ≤ _
    rw [getD_range hi]
    exact h2 i hi
  ·unfold FactOk
   rw [sel]
   show 0 ≤ ((List.range 16).map (wsVal E V.r1 V.w1)).getD i 0 ∧ ((List.range 16).map (wsVal E V.r1 V.w1)).getD i 0 ≤ _
   rw [getD_range hi]
   exact h1 i hi
theorem unB_nm {N : Nat} : ∀ {n : Nat} {v : SV} {l : List BE} {q : SV}, unB n v = some (l, q) → v.nm N = true → (∀ b ∈ l, b.nm N = true) ∧ q.nm N = true
 | 0, v, l, q, h, hv => by cases h; exact ⟨fun _ h => (by cases h), hv⟩
 | n + 1, v, l, q, h, hv => by
  unfold unB at h
  split at h
  ·rename_i hz; omega
  ·rename_i n' b r hn
   cases hn
   split at h
   ·rename_i l' q' h'
    cases h
    have hv : (SV.nm N (.bool b) && SV.nm N r) = true := hv
    rw [Bool.and_eq_true] at hv
    obtain ⟨h1, h2⟩ := unB_nm h' hv.2
    exact ⟨fun c hc => (List.mem_cons.1 hc).elim (fun e => e ▸ hv.1) (h1 c), h2⟩
   ·cases h
  ·cases h
theorem viewOf_nm {N : Nat} {v : SV} {V : VIn} (h : viewOf v = some V) (hv : v.nm N = true) : (∀ b ∈ V.fl, b.nm N = true) ∧ (decide (V.r1 = 0) || decide (V.r1 < N)) = true ∧ V.w1.nm N = true ∧ (decide (V.r2 = 0) || decide (V.r2 < N)) = true ∧ V.w2.nm N = true := by
 unfold viewOf at h
 split at h
 ·rename_i ch
  split at h
  ·rename_i fl k1 r1 z1 w1 k2 r2 z2 w2 hu
   cases hc : (Nat.beq (kindNo k1) (kindNo .i64) && Nat.beq (kindNo k2) (kindNo .i64) && zEq z1 16 && zEq z2 16) with
   | false => rw [hc] at h; cases h
   | true =>
    rw [hc] at h
    cases h
    obtain ⟨h1, h2⟩ := unB_nm hu (show ch.nm N = true from hv)
    simp only [SV.nm, Bool.and_eq_true] at h2
    exact ⟨h1, h2.1.1.1, h2.1.2, h2.2.1.1.1, h2.2.1.2⟩
  ·cases h
 ·cases h
theorem getD_op {N : List Int} (hN : N.length = 16) (k a b x : Int) (fl : List Int) : (N ++ [k, a, b, x] ++ fl).getD 16 0 = k ∧ (N ++ [k, a, b, x] ++ fl).getD 17 0 = a ∧ (N ++ [k, a, b, x] ++ fl).getD 18 0 = b ∧ (N ++ [k, a, b, x] ++ fl).getD 19 0 = x ∧ (N ++ [k, a, b, x] ++ fl).drop 20 = fl ∧ ∀ c, c < 16 → (N ++ [k, a, b, x] ++ fl).getD c 0 = N.getD c 0 := by
 match N, hN with
 | [n0, n1, n2, n3, n4, n5, n6, n7, n8, n9, n10, n11, n12, n13, n14, n15], _ =>
  refine ⟨rfl, rfl, rfl, rfl, rfl, fun c hc => ?_⟩
  rw [List.getD_eq_getElem?_getD, List.getD_eq_getElem?_getD, List.append_assoc, List.getElem?_append_left hc]
theorem flag_dec {α : Type} (g : α → Bool) : ∀ (l : List α) (i : Nat), decide ((l.map fun b => if g b then (1 : Int) else 0).getD i 0 = 1) = (l.map g).getD i false
 | [], i => rfl
 | b :: l, 0 => by
  show decide ((if g b then (1 : Int) else 0) = 1) = g b
  cases g b <;> rfl
 | b :: l, i + 1 => flag_dec g l i
theorem zs_mem {E : Env} (hgf : E.f = G0) {lo n : Nat} {A0 : IE} {m : Mem} {z : Int} (hk : KnowOk E m.know) (he : ev E (.app 200 A0) = z) (hz : z ∈ ((-1) :: (List.range n).map fun c => ((lo + c : Nat) : Int))) : z ∈ zsOf lo n A0 m := by
 unfold zsOf
 split
 ·rename_i xs hx
  rw [nfZ_eq, List.mem_singleton, ← he, ev_app, litArgs_ok E hx, hgf]
 split
 ·rename_i z' hf
  have h1 := List.find?_some hf
  have h2 : ev E (.app 200 A0) = z' := of_decide_eq_true (hk.conds _ (hasB_ok h1))
  rw [List.mem_singleton, ← he, h2]
 ·exact hz
theorem semX_ok {f : Nat} {tup : Bool} {lo n : Nat} {klo khi : Int} (hlo : lo + n ≤ 16) (hsem : ∀ k a b x, mayZ k a b x = 1 → klo ≤ k → k ≤ khi → SemOp f tup k a b x ∧ chkOp lo n k a b x = true) : SpecOk G0 Try.prog f (semX tup lo n klo khi) := by
 intro F w0 E args m outs w hgf ho hm
 unfold semX at ho
 split at ho
 case h_2 => cases ho
 rename_i v o
 split at ho
 case h_2 => cases ho
 rename_i V k a b x hV hO
 split at ho
 case h_2 => cases ho
 rename_i fI wI nI hfI hwI hnI
 cases hc : (mayK m.know k a b x && in64S m.know x && inR (rng m.know.facts k) klo khi && m.nm m.nv && v.nm m.nv && (IE.app 200 (mkArgs (nI ++ [k, a, b, x] ++ fI))).nm m.nv && (IE.app 201 (mkArgs (nI ++ [k, a, b, x]))).nm m.nv && (wI.all fun e => factIn m.know e 0 1099511627775) && nI.all fun e => factIn m.know e 0 1099511627775) with
 | false => rw [hc] at ho; cases ho
 | true =>
 rw [hc] at ho
 dsimp only [cond] at ho
 rw [nfL_eq (fun p k => by rw [nfS_eq, nfMem_eq])] at ho
 cases ho
 simp only [Bool.and_eq_true] at hc
 obtain ⟨⟨⟨⟨⟨⟨⟨⟨c1, c2⟩, c3⟩, c4⟩, c5⟩, c6⟩, c6'⟩, c7⟩, c8⟩ := hc
 have hmay := mayK_ok hgf hm.know c1
 have hk1 : klo ≤ ev E k ∧ ev E k ≤ khi := by
  have := rng_ok hm.know.env hm.know.facts k
  unfold inR at c3
  simp only [Bool.and_eq_true, decide_eq_true_eq] at c3
  omega
 obtain ⟨sem, chk⟩ := hsem _ _ _ _ hmay hk1.1 hk1.2
 have hx64 := in64S_ok hm.know c2
 have w1 := cells_in hm.know hwI c7
 have w2 := cells_in hm.know hnI c8
 obtain ⟨hfl, _⟩ := viewOf_ok E hV
 have hK : KnowOk (envP E w V (ev E x)) memT.know := envP_know hm.know.env hx64 w1 w2
 have hpost := sem (envP E w V (ev E x)) w hgf hK rfl rfl rfl
 rw [envP_fl hfl, envP_row.1, envP_row.2] at hpost
 have hargs : (#[dv (envP E w V (ev E x)) (viewV 20 6 7), opVal (ev E k) (ev E a) (ev E b) (ev E x)] : Array Value) = ([v, o].map (dv E)).toArray := by
  rw [envP_view hV, ← opOf_ok E hO]; rfl
 rw [hargs] at hpost
 generalize hE0 : envP E w V (ev E x) = E0 at hK hpost
 have hE0f : E0.f = G0 := by rw [← hE0]; exact hgf
 -- the quantities
 unfold chkOp at chk
 simp only [Bool.and_eq_true, List.all_eq_true, List.mem_range] at chk
 obtain ⟨⟨⟨⟨⟨p1, p2⟩, p3⟩, p4⟩, p5⟩, p6⟩ := chk
 have hi9 : E0.i 9 = ev E x := by rw [← hE0]; rfl
 have hF : ∀ y ∈ factsQ (ev E k), FactOk E0 y := fun y hy => (List.mem_append.1 hy).elim (xF_ok hmay hi9 y) fun hy => (List.mem_append.1 hy).elim (bf_ok hE0f links10_ok y) (hK.facts y)
 have hKe : KnowOk E0 ⟨[], []⟩ := ⟨hK.env, fun _ h => (by cases h), fun _ h => (by cases h)⟩
 have inr : ∀ {e : IE} {l h : Int}, inI l h e ⟨factsQ (ev E k), []⟩ = true → l ≤ ev E0 e ∧ ev E0 e ≤ h := fun {e l h} hi => inI_ok e _ ⟨hK.env, hF, fun _ h => (by cases h)⟩ hi
 have r0 := inr p2
 have r1 := inr p3
 have r2 := inr p4
 have rc : ∀ c, c < 16 → 0 ≤ ev E0 (quant (3 + c) (ev E k) (ev E a) (ev E b) (ev E x)) ∧ ev E0 (quant (3 + c) (ev E k) (ev E a) (ev E b) (ev E x)) ≤ 1099511627775 := fun c hc => inr (p5 c hc).1
 have eN := litAll_ok E hnI
 have eF := flagsI_ok E hfI
 have hN16 : (nI.map (ev E)).length = 16 := by rw [eN]; simp
 have hNl : nI.length = 16 := by simpa using hN16
 have hFl : fI.length = 16 := by have := congrArg List.length eF; simpa [hfl] using this
 have rowE : ∀ c, c < 16 → (E0.row 7).getD c 0 = (nI.map (ev E)).getD c 0 := by
  intro c hc
  rw [← hE0, eN]
  show ((List.range 16).map (wsVal E V.r2 V.w2)).getD c 0 = _
  rw [getD_range hc, getD_range hc, Nat.zero_add]
 have fE : ∀ (g : Nat) (y : Int), 100 ≤ g → g ≤ 105 → Gn g [y] = E0.f g [y] := fun g y _ _ => by rw [hE0f]; rfl
 have same0 : SameT false (envN (nI.map (ev E) ++ [ev E k, ev E a, ev E b, ev E x]) ((nI.map (ev E) ++ [ev E k, ev E a, ev E b, ev E x]).drop 20)) E0 := by
  obtain ⟨g1, g2, g3, g4, g5, g6⟩ := getD_op hN16 (ev E k) (ev E a) (ev E b) (ev E x) []
  rw [List.append_nil] at g4 g6
  exact ⟨fun h => (by cases h), fun c hc => (g6 c (by omega)).trans (rowE c (by omega)).symm, g4.trans hi9.symm, fE⟩
 have same1 : SameT true (envN (nI.map (ev E) ++ [ev E k, ev E a, ev E b, ev E x] ++ fI.map (ev E)) ((nI.map (ev E) ++ [ev E k, ev E a, ev E b, ev E x] ++ fI.map (ev E)).drop 20)) E0 := by
  obtain ⟨g1, g2, g3, g4, g5, g6⟩ := getD_op hN16 (ev E k) (ev E a) (ev E b) (ev E x) (fI.map (ev E))
  refine ⟨fun _ j h1 h2 => ?_, fun c hc => (g6 c (by omega)).trans (rowE c (by omega)).symm, g4.trans hi9.symm, fE⟩
  show decide (((nI.map (ev E) ++ [ev E k, ev E a, ev E b, ev E x] ++ fI.map (ev E)).drop 20).getD (j - 20) 0 = 1) = E0.b j
  rw [g5, eF, flag_dec, ← hE0]
  rfl
 have qn : ∀ i, 1 ≤ i → i ≤ 18 → in64 (ev E0 (quant i (ev E k) (ev E a) (ev E b) (ev E x))) → ev E (.app (200 + i) (mkArgs (nI ++ [k, a, b, x]))) = ev E0 (quant i (ev E k) (ev E a) (ev E b) (ev E x)) := by
  intro i h1 h2 hin
  obtain ⟨g1, g2, g3, g4, g5, g6⟩ := getD_op hN16 (ev E k) (ev E a) (ev E b) (ev E x) []
  rw [List.append_nil] at g1 g2 g3 g4
  refine app_quant hgf h2 (.inl (by rw [List.length_append, hNl]; rfl)) (xs := nI.map (ev E) ++ [ev E k, ev E a, ev E b, ev E x]) (by rw [List.map_append]; rfl) g1 g2 g3 g4 ?_ same0 hin
  have := p1 i (by omega)
  rw [show Nat.beq i 0 = false from by cases i with | zero => omega | succ i => rfl] at this
  exact this
 have q0 : ev E (.app 200 (mkArgs (nI ++ [k, a, b, x] ++ fI))) = ev E0 (quant 0 (ev E k) (ev E a) (ev E b) (ev E x)) := by
  obtain ⟨g1, g2, g3, g4, g5, g6⟩ := getD_op hN16 (ev E k) (ev E a) (ev E b) (ev E x) (fI.map (ev E))
  exact app_quant hgf (i := 0) (by omega) (.inr (by rw [List.length_append, List.length_append, hNl, hFl]; rfl)) (xs := nI.map (ev E) ++ [ev E k, ev E a, ev E b, ev E x] ++ fI.map (ev E)) (by rw [List.map_append, List.map_append]; rfl) g1 g2 g3 g4 (p1 0 (by omega)) same1 (by unfold in64 lo64 hi64; omega)
 have q1 := qn 1 (by omega) (by omega) (by unfold in64 lo64 hi64; omega)
 have q2 := qn 2 (by omega) (by omega) (by unfold in64 lo64 hi64; omega)
 have qc : ∀ c, c < 16 → ev E (.app (200 + (3 + c)) (mkArgs (nI ++ [k, a, b, x]))) = ev E0 (quant (3 + c) (ev E k) (ev E a) (ev E b) (ev E x)) := fun c hc => qn (3 + c) (by omega) (by omega) (by have := rc c hc; unfold in64 lo64 hi64; omega)
 obtain ⟨n1, n2, n3, n4, n5⟩ := viewOf_nm hV c5
 refine hpost.mono ?_
 rintro e w' ⟨hext, hq⟩
 rcases hq with ⟨h0, bl, h1, h2, h3, h4⟩ | ⟨h0, h4⟩
 ·-- nothing is needed
  have hin : (-1 : Int) ∈ zsOf lo n (mkArgs (nI ++ [k, a, b, x] ++ fI)) m := zs_mem hgf hm.know (q0.trans h0) List.mem_cons_self
  let E2 := E.two m.nv bl w'.heap.size
  have hA : Agree m.nv E E2 := two_agree E m.nv _ _
  have hb2 : E2.base m.nv = bl := by simp [E2, Env.two]
  have ho2 : E2.o m.nv = 0 := by simp [E2, Env.two]
  have hm2 : MemOk F w0 E2 { m with seg := m.nv + 1, next := 0, nv := m.nv + 2 } w' := by
   refine hm.moved c4 hA ⟨hm.know.env.i, hm.know.env.l, hm.know.env.f⟩ hext ?_ ?_
   ·simp [E2, Env.two]
   ·simp [E2, Env.two]
  have an : ∀ i, ev E2 (.app i (mkArgs (nI ++ [k, a, b, x]))) = ev E (.app i (mkArgs (nI ++ [k, a, b, x]))) := fun i => ev_agree hA c6'
  have a0 : ev E2 (.app 200 (mkArgs (nI ++ [k, a, b, x] ++ fI))) = ev E (.app 200 (mkArgs (nI ++ [k, a, b, x] ++ fI))) := ev_agree hA c6
  refine ⟨_, List.mem_filterMap.2 ⟨-1, hin, rfl⟩, E2, ⟨hA, by show m.nv ≤ m.nv + 2; omega, fun h => by have : m.nv + 2 = m.nv := h; omega⟩, ?_, ?_⟩
  ·rw [h4]
   congr 1
   rw [askX_ok E2 tup _ V _ _ (sliV bl) (by
    show [Value.slice (some (addrOf E2 m.nv 0 (.lit 0))) 1 1] = _
    unfold addrOf sliV
    rw [hb2, ho2]; rfl)]
   rw [List.map_congr_left (fun c hc => evB_agree hA c (n1 c hc)), List.map_congr_left (fun j _ => wsVal_agree hA (row_agree hA n2) V.w1 n3 j)]
   congr 2
   refine List.map_congr_left fun j hj => ?_
   have hj := List.mem_range.1 hj
   rw [wrN_ok (E := E2) hgf]
   by_cases hr : j ∈ allC lo n
   ·rw [if_pos hr, an, qc j hj]
   ·rw [if_neg hr, wsVal_agree hA (row_agree hA n4) V.w2 n5 j]
    have hz : ev E0 (.sel 7 (.lit (.ofNat j))) = wsVal E V.r2 V.w2 j := by
     rw [ev_sel, ev_lit]
     show (E0.row 7).getD (Int.toNat (j : Int)) 0 = _
     rw [Int.toNat_natCast, ← hE0]
     exact getD_range hj
    rw [← hz]
    show ev E0 (quant (3 + j) (ev E k) (ev E a) (ev E b) (ev E x)) = _
    have := (p5 j hj).2
    rw [Bool.or_eq_true] at this
    rcases this with this | this
    ·rw [ieEq_ok this]
    ·rw [Bool.and_eq_true, Bool.and_eq_true] at this
     have j1 := Nat.le_of_ble_eq_true this.1.1
     have j2 : j < lo + n := by simpa [Nat.blt_eq] using this.1.2
     exact absurd (allC_mem.2 ⟨j1, j2⟩) hr
  ·refine ⟨⟨hm2.know.env, fun y hy => ?_, fun d hd => ?_⟩, hm2.size, ?_, ?_, ?_, hm2.ext, hm2.seg0⟩
   ·rcases List.mem_cons.1 hy with rfl | hy
    ·unfold FactOk; rw [an, q1]; exact r1
    rcases List.mem_cons.1 hy with rfl | hy
    ·unfold FactOk; rw [an, q2]; exact r2
    rcases factsN_mem hy with ⟨j, j1, j2, rfl⟩ | hy
    ·unfold FactOk; rw [an, qc j (by omega)]; exact rc j (by omega)
    ·exact hm2.know.facts y hy
   ·rcases List.mem_cons.1 hd with rfl | hd
    ·exact decide_eq_true ((a0.trans q0).trans h0)
    rcases List.mem_append.1 hd with hd | hd
    ·obtain ⟨c, fb, e, j1, j2, f1, f2, f3, rfl, f5⟩ := skipsE_mem hm.know.conds hd
     rw [evB_agree hA _ f5]
     show decide (ev E (nameOf m.know.conds (.app (200 + (3 + c)) (mkArgs (nI ++ [k, a, b, x])))) = ev E (rootOf m.know.conds e)) = true
     rw [nameOf_ok hm.know.conds, rootOf_ok hm.know.conds, qc c (by omega)]
     have hz : ev E0 (.sel 7 (.lit (.ofNat c))) = wsVal E V.r2 V.w2 c := by
      rw [ev_sel, ev_lit]
      show (E0.row 7).getD (Int.toNat (c : Int)) 0 = _
      rw [Int.toNat_natCast, ← hE0]
      exact getD_range (by omega)
     refine decide_eq_true ?_
     rw [← litWk_ok (E := E) f3, ← hz]
     have := (p5 c (by omega)).2
     rw [Bool.or_eq_true] at this
     rcases this with this | this
     ·rw [ieEq_ok this]
     ·rw [Bool.and_eq_true, Bool.and_eq_true] at this
      refine hide_ok hKe this.2 h0 ?_
      rw [← hE0]
      show (V.fl.map (evB E)).getD (20 + c - 20) false = false
      rw [Nat.add_sub_cancel_left, List.getD_eq_getElem?_getD, List.getElem?_map, f1]
      exact f2
    ·exact hm2.know.conds d hd
   ·intro y hy
    rcases List.mem_cons.1 hy with rfl | hy
    ·refine ⟨?_, fun h => (by cases h), fun _ => ⟨⟨ho2, rfl⟩, ?_⟩, fun h => (by cases h)⟩
     ·simp only [Ent.blk, hb2, Nat.add_zero]; exact h2
     ·simp only [Ent.blk, hb2, Nat.add_zero]
      rw [h3]
      simp only [dl, appV_ok (E := E2) hgf, an, q1, q2]
      rfl
    ·exact hm2.ents y hy
   ·refine List.Pairwise.cons ?_ hm2.apart
    intro y hy _
    have h1' : y.blk E2 < w.heap.size := by
     have h3 := (hm.ents y hy).lt
     have hn2 := c4
     simp only [Mem.nm, Bool.and_eq_true, List.all_eq_true] at hn2
     have h4 := hn2.1.1 y hy
     simp only [Ent.nm, Bool.and_eq_true, decide_eq_true_eq] at h4
     have : y.blk E2 = y.blk E := by simp only [Ent.blk, hA.base _ h4.1.1]
     rw [this]; exact h3
    simp only [Ent.blk, hb2, Nat.add_zero] at *
    omega
   ·intro y hy hr
    rcases List.mem_cons.1 hy with rfl | hy
    ·left
     simp only [Ent.blk, hb2, Nat.add_zero] at *
     have := hm.ext.size
     omega
    ·exact hm2.mine y hy hr
 ·-- a cell is needed
  replace h0 : ev E0 (quant 0 (ev E k) (ev E a) (ev E b) (ev E x)) ≠ -1 := h0
  replace h4 : e = .returned (wrapV tup (askVal (ev E0 (quant 0 (ev E k) (ev E a) (ev E b) (ev E x))) (V.fl.map (evB E)) ((List.range 16).map (wsVal E V.r1 V.w1)) ((List.range 16).map (wsVal E V.r2 V.w2)) nilV)) := h4
  obtain ⟨l', kn', s1, _, s2⟩ := allL_ok (E := E0) (quant 0 (ev E k) (ev E a) (ev E b) (ev E x)) [] ⟨[], []⟩ ⟨hK.env, fun _ h => (by cases h), fun _ h => (by cases h)⟩ p6
  unfold endV at s2
  rw [Bool.or_eq_true] at s2
  have hneg : ¬ zEq (ev E0 (quant 0 (ev E k) (ev E a) (ev E b) (ev E x))) (-1) = true := fun h => h0 (zEq_ok h)
  have s2 := s2.resolve_left hneg
  simp only [Bool.and_eq_true, decide_eq_true_eq] at s2
  obtain ⟨⟨z1, z2⟩, z3⟩ := s2
  have hb0 := eqIp_ok s1 z3
  rw [ev_bv, ev_lit] at hb0
  generalize hz : ev E0 (quant 0 (ev E k) (ev E a) (ev E b) (ev E x)) = z at *
  have hzn : z.toNat < 16 := by omega
  have hzl : z.toNat < V.fl.length := by omega
  have hflag : evB E (V.fl[z.toNat]'hzl) = false := by
   have : E0.b (20 + z.toNat) = false := by
    cases h : E0.b (20 + z.toNat) with
    | false => rfl
    | true => rw [h] at hb0; cases hb0
   rw [← hE0] at this
   have this : (V.fl.map (evB E)).getD (20 + z.toNat - 20) false = false := this
   rw [Nat.add_sub_cancel_left, List.getD_eq_getElem?_getD, List.getElem?_map, List.getElem?_eq_getElem hzl] at this
   exact this
  have hin : z ∈ zsOf lo n (mkArgs (nI ++ [k, a, b, x] ++ fI)) m := zs_mem hgf hm.know q0 (List.mem_cons_of_mem _ (List.mem_map.2 ⟨z.toNat - lo, List.mem_range.2 (by omega), by omega⟩))
  let E2 := E.two m.nv 0 w'.heap.size
  have hA : Agree m.nv E E2 := two_agree E m.nv _ _
  have hm2 : MemOk F w0 E2 { m with seg := m.nv + 1, next := 0, nv := m.nv + 2 } w' := by
   refine hm.moved c4 hA ⟨hm.know.env.i, hm.know.env.l, hm.know.env.f⟩ hext ?_ ?_
   ·simp [E2, Env.two]
   ·simp [E2, Env.two]
  have a0 : ev E2 (.app 200 (mkArgs (nI ++ [k, a, b, x] ++ fI))) = ev E (.app 200 (mkArgs (nI ++ [k, a, b, x] ++ fI))) := ev_agree hA c6
  have hway : wayOf tup lo n V (mkArgs (nI ++ [k, a, b, x])) (mkArgs (nI ++ [k, a, b, x] ++ fI)) m z = some (askX tup (.lit z) V V.w2 .nils,
     { m with know := ⟨m.know.facts, .not (V.fl[z.toNat]'hzl) :: .eq (.app 200 (mkArgs (nI ++ [k, a, b, x] ++ fI))) (.lit z) :: m.know.conds⟩, seg := m.nv + 1, next := 0, nv := m.nv + 2 }) := by
   unfold wayOf
   rw [show zEq z (-1) = false from by rw [zEq_of]; exact decide_eq_false h0, List.getElem?_eq_getElem hzl]
   dsimp only [cond]
   have : (asked m.know.conds (V.fl[z.toNat]'hzl) == .lit true) = false := by
    cases hq : (asked m.know.conds (V.fl[z.toNat]'hzl) == .lit true) with
    | false => rfl
    | true =>
     rw [beq_iff_eq] at hq
     have := asked_ok hm.know.conds (V.fl[z.toNat]'hzl)
     rw [hq, hflag] at this
     cases this
   rw [this]
  refine ⟨_, List.mem_filterMap.2 ⟨z, hin, hway⟩, E2, ⟨hA, by show m.nv ≤ m.nv + 2; omega, fun h => by have : m.nv + 2 = m.nv := h; omega⟩, ?_, ?_⟩
  ·rw [h4]
   congr 1
   rw [askX_ok E2 tup _ V _ _ nilV rfl]
   rw [List.map_congr_left (fun c hc => evB_agree hA c (n1 c hc)), List.map_congr_left (fun j _ => wsVal_agree hA (row_agree hA n2) V.w1 n3 j), List.map_congr_left (fun j _ => wsVal_agree hA (row_agree hA n4) V.w2 n5 j)]
   rfl
  ·refine ⟨⟨hm2.know.env, hm2.know.facts, fun d hd => ?_⟩, hm2.size, hm2.ents, hm2.apart, hm2.mine, hm2.ext, hm2.seg0⟩
   rcases List.mem_cons.1 hd with rfl | hd
   ·show (!evB E2 _) = true
    rw [evB_agree hA _ (n1 _ (List.getElem_mem _)), hflag]; rfl
   rcases List.mem_cons.1 hd with rfl | hd
   ·exact decide_eq_true (by rw [a0, q0]; rfl)
   ·exact hm2.know.conds d hd
end Go.Proofs.Ytnfmmiomomgabaa
