/- a key's operation upon any view. -/
import Derived.Test.YtojpmbkbeoolcaaKT
import Derived.Test.YtojpmbkbeoolcaaP
namespace Go.Proofs.Ytojpmbkbeoolcaa.K
open Go.Sx Go
set_option maxRecDepth 100000
noncomputable def chkRow (k a b x : Int) : Bool := (List.range 16).all fun c => (litWk 7 c (rowT k a b x)).isSome
def askVal (need : Int) (F : List Bool) (W N : List Int) (s : Value) : Value := .agg (Value.int .i64 need :: (F.map Value.bool ++ (W.map (Value.int .i64) ++ (N.map (Value.int .i64) ++ [s])))).toArray
def wrapV (tup : Bool) (v : Value) : Value := if tup then .tuple #[v, .int .i64 0] else v
def sliV (b : Nat) : Value := .slice (some ⟨b, 0, none⟩) 1 1
def nilV : Value := .slice none 0 0
noncomputable def fl16 (E : Env) : List Bool := (List.range 16).map fun c => E.b (20 + c)
noncomputable def row16 (E : Env) (r : Nat) : List Int := (List.range 16).map fun j => (E.row r).getD j 0
def OpPost (tup : Bool) (q : Nat → Int) (F : List Bool) (W N : List Int) (w : World) (e : Ending) (w' : World) : Prop :=
 Ext (fun _ => False) w w' ∧
 ((q 0 = -1 ∧ ∃ b, w.heap.size ≤ b ∧ b < w'.heap.size ∧ w'.heap[b]? = some (.cells #[.int .i64 (q 1), .int .i64 (q 2)] 76 (0, 0)) ∧ e = .returned (wrapV tup (askVal (-1) F W ((List.range 16).map fun c => q (3 + c)) (sliV b)))) ∨
  (q 0 ≠ -1 ∧ e = .returned (wrapV tup (askVal (q 0) F W N nilV))))
theorem dl_boolV (E : Env) (a : Nat) : ∀ (n : Nat) (r : SV), dl E (boolV a n r) = ((List.range n).map fun c => Value.bool (E.b (a + c))) ++ dl E r
 | 0, r => rfl
 | n + 1, r => by
  unfold boolV
  rw [dl_boolV E a n, List.range_succ, List.map_append, List.append_assoc]
  rfl
theorem dv_askT (E : Env) (need : IE) (now rest : SV) (v : Value) (hr : dl E rest = [v]) : dv E (askT need now rest) = askVal (ev E need) (fl16 E) (row16 E 6) ((List.range 16).map fun j => wsVal E 7 now j) v := by
 unfold askT dv askVal
 simp only [dl, dl_boolV, hr, arrCells, ev_lit, List.headD_cons, List.nil_append, List.append_nil, List.cons_append]
 simp only [wsVal, fl16, row16, List.map_map]
 rfl
theorem dv_okT (E : Env) (v : SV) (hv : dl E v = [dv E v]) : dv E (okT v) = wrapV true (dv E v) := by
 unfold okT
 show Value.tuple (dl E v ++ [Value.int .i64 0]).toArray = _
 rw [hv]
 rfl
theorem askT_one (E : Env) (need : IE) (now rest : SV) : dl E (askT need now rest) = [dv E (askT need now rest)] := by
 unfold askT dv
 simp only [dl, List.headD_cons]
theorem quant_cell {E : Env} {k a b x : Int} (h : chkRow k a b x = true) {c : Nat} (hc : c < 16) : wsVal E 7 (rowT k a b x) c = ev E (quant (3 + c) k a b x) := by
 unfold chkRow at h
 rw [List.all_eq_true] at h
 have := h c (List.mem_range.2 hc)
 rw [Option.isSome_iff_exists] at this
 obtain ⟨e, he⟩ := this
 rw [litWk_ok he]
 unfold quant
 rw [if_neg (by omega), if_neg (by omega), if_neg (by omega), Nat.add_sub_cancel_left, he]
theorem ev_blk (E : Env) (n b : Nat) (e : IE) : ev (E.blkE n b) e = ev E e := by
 unfold ev
 rw [evp_same (E := E.blkE n b) (E' := E) rfl rfl rfl rfl]
theorem cT_blk (E : Env) (n b : Nat) (k a c x : Int) : dl (E.blkE n b) (cT k a c x) = [.int .i64 (ev E (quant 1 k a c x)), .int .i64 (ev E (quant 2 k a c x))] := by
 unfold cT
 simp only [dl, ev_blk]
 rfl
theorem post8 {k a b x : Int} (h : chkRow k a b x = true) {E : Env} {w w' : World} {e : Ending} (hs : SemV 40 (form8 k a b x) E w e w') : OpPost true (fun i => ev E (quant i k a b x)) (fl16 E) (row16 E 6) (row16 E 7) w e w' := by
 refine ⟨hs.1, hs.2.imp ?_ ?_⟩
 ·rintro ⟨h0, bl, h1, h2, h3, h4⟩
  refine ⟨h0, bl, h1, h2, by rw [h3]; show some (Obj.cells (dl _ (cT k a b x)).toArray _ _) = _; rw [cT_blk]; rfl, ?_⟩
  rw [h4]
  show Ending.returned (dv _ (okT (askT no1 (rowT k a b x) oneAns))) = _
  rw [dv_okT _ _ (askT_one _ _ _ _), dv_askT _ _ _ _ (sliV bl) rfl]
  congr 2
  show askVal (-1) (fl16 E) (row16 E 6) _ _ = _
  congr 1
  exact List.map_congr_left fun c hc => by
   rw [wsVal_same (E := E.blkE _ bl) (E' := E) rfl rfl rfl rfl]
   exact quant_cell (b := b) h (List.mem_range.1 hc)
 ·rintro ⟨h0, h4⟩
  refine ⟨h0, ?_⟩
  rw [h4]
  show Ending.returned (dv _ (okT (askT (needT k a b x) .nil .nils))) = _
  rw [dv_okT _ _ (askT_one _ _ _ _), dv_askT _ _ _ _ nilV rfl]
  rfl
theorem dv_view (E : Env) : dv E (viewV 20 6 7) = .agg ((fl16 E).map Value.bool ++ ((row16 E 6).map (Value.int .i64) ++ (row16 E 7).map (Value.int .i64))).toArray := by
 unfold viewV
 show Value.agg (dl E (boolV 20 16 _)).toArray = _
 rw [dl_boolV]
 simp only [dl, arrCells, ev_lit, wsVal, fl16, row16, List.map_map, List.append_nil]
 rfl
def SemOp (f : Nat) (tup : Bool) (k a b x : Int) : Prop := ∀ (E : Env) (w : World), E.f = G0 → KnowOk E memT.know → w.heap.size = E.base 0 → E.o 0 = 0 → E.i 9 = x →
 Calls Try.prog f #[dv E (viewV 20 6 7), opVal k a b x] w (OpPost tup (fun i => ev E (quant i k a b x)) (fl16 E) (row16 E 6) (row16 E 7) w)
theorem xF_ok {E : Env} {k a b x : Int} (hm : mayZ k a b x = 1) (hi : E.i 9 = x) : ∀ f ∈ xF k, FactOk E f := by
 intro f hf
 unfold xF at hf
 cases ho : openX k with
 | false => rw [ho] at hf; cases hf
 | true =>
  rw [ho] at hf
  rcases List.mem_singleton.1 hf with rfl
  unfold openX at ho
  have ho := of_decide_eq_true ho
  unfold FactOk
  show 0 ≤ E.i 9 ∧ E.i 9 ≤ 1048575
  rw [hi]
  unfold mayZ at hm
  split at hm
  ·omega
  ·omega
theorem memX_ok {E : Env} {k a b x : Int} (hm : mayZ k a b x = 1) (hi : E.i 9 = x) (hk : KnowOk E memT.know) : KnowOk E (memX k).know :=
 ⟨hk.env, fun f hf => (List.mem_append.1 hf).elim (xF_ok hm hi f) (hk.facts f), hk.conds⟩
theorem dv_ocX {E : Env} {k a b x : Int} (hi : E.i 9 = x) : dv E (.agg (ocX k a b x)) = opVal k a b x := by
 unfold ocX
 show Value.agg #[.int .i64 k, .int .i64 a, .int .i64 b, .int .i64 (ev E (cond (openX k) (.var 9) (.lit x)))] = _
 cases openX k
 ·rfl
 ·show Value.agg #[.int .i64 k, .int .i64 a, .int .i64 b, .int .i64 (E.i 9)] = _
  rw [hi]
theorem sem8 {s : List SV → X SV} (hs : SpecOk G0 Try.prog 39 s) {k a b x : Int} (hm : mayZ k a b x = 1) (hr : chkRow k a b x = true) {fss : List (List Fact)} (hcov : ∀ E : Env, E.f = G0 → KnowOk E (memX k).know → ∃ fs ∈ fss, ∀ x ∈ fs, FactOk E x) (hall : ∀ fs ∈ fss, vRun 40 s ((form8 k a b x).more fs) = true) : SemOp 39 true k a b x := fun E w h1 h2 h3 h4 h5 => by
 have := vSem hs 40 (form8 k a b x) hcov hall h1 (memX_ok hm h5 h2) h3 h4
 rw [show ((form8 k a b x).args.map (dv E)).toArray = #[dv E (viewV 20 6 7), opVal k a b x] by rw [← dv_ocX h5]; rfl] at this
 exact this.mono fun _ _ h => post8 hr h
end Go.Proofs.Ytojpmbkbeoolcaa.K
