/- The executor's operations, 5b: numbers of few values, max and min, new slices. -/
import Derived.Test.YthhjijadllpcpaaSxH
import Derived.Laws.MakeOwn
namespace Go.Sx
open Go

noncomputable def maxS (mx : Bool) : SV → List SV → X SV
  | v, [] => match v with | .int k a => X.pure (.int k a) | _ => X.none
  | .int k a, .int _ b :: r => X.bind (withKnow fun kn => branch (if mx then mkLt kn a b else mkLt kn b a)) fun c => maxS mx (if c then .int k b else .int k a) r
  | _, _ => X.none
theorem maxS_ok {F : Nat → Prop} {w0 : World} {E : Env} {P : Program} (mx : Bool) : ∀ (l : List SV) (v : SV) (m : Mem) (w : World),
    GX F w0 E (maxS mx v l) m w fun r w' => w' = w ∧ ((l.map (dv E)).foldlM (if mx then Builtin.max2 else Builtin.min2) (dv E v)).run P w = .ok (dv E r) w := by
  intro l
  induction l with
  | nil =>
    intro v m w
    unfold maxS
    split
    · exact GX.pure fun _ => ⟨rfl, rfl⟩
    · exact GX.none
  | cons x l ih =>
    intro v m w
    unfold maxS
    split
    · rename_i heq; cases heq
    · rename_i k a k' b r heq
      cases heq
      refine GX.bind (GX.withKnow fun hk => (branch_ok _ m w).mono (R := fun c w' => w' = w ∧ c = if mx then decide (ev E a < ev E b) else decide (ev E b < ev E a)) fun c w' h => ⟨h.1, ?_⟩) ?_
      · rw [h.2]; cases mx
        · simp only [Bool.false_eq_true, if_false]; exact mkLt_ok hk _ _
        · simp only [if_true]; exact mkLt_ok hk _ _
      · rintro c m1 w1 ⟨rfl, hc⟩
        refine (ih (if c then .int k b else .int k a) m1 w1).mono fun r w' h => ⟨h.1, ?_⟩
        rw [List.map_cons, List.foldlM_cons, Sem.run_bind]
        have e1 : dv E (.int k a) = .int k (ev E a) := rfl
        have e2 : dv E (.int k' b) = .int k' (ev E b) := rfl
        have e3 : ((if mx then Builtin.max2 else Builtin.min2) (dv E (.int k a)) (dv E (.int k' b))).run P w1 = .ok (dv E (if c then .int k b else .int k a)) w1 := by
          rw [e1, e2]
          cases mx
          · simp only [Bool.false_eq_true, if_false, Builtin.min2, Sem.run_pure] at hc ⊢
            cases c
            · have : ¬ ev E b < ev E a := of_decide_eq_false hc.symm
              simp [this, dv, dl]
            · have : ev E b < ev E a := of_decide_eq_true hc.symm
              simp [this, dv, dl]
          · simp only [if_true, Builtin.max2, Sem.run_pure] at hc ⊢
            cases c
            · have : ¬ ev E a < ev E b := of_decide_eq_false hc.symm
              simp [this, dv, dl]
            · have : ev E a < ev E b := of_decide_eq_true hc.symm
              simp [this, dv, dl]
        rw [e3, Result.andThen_ok]
        exact h.2
    · exact GX.none

/- rows of zeros -/
/-- a chain, n times -/
def timesC (c : SV) : Nat → SV
  | 0 => .nil
  | n + 1 => appC c (timesC c n)
theorem timesC_ok (E : Env) (c : SV) : ∀ n, dl E (timesC c n) = (List.replicate n (dl E c)).flatten := by
  intro n
  induction n with
  | zero => rfl
  | succ n ih => rw [timesC, appC_ok, ih, List.replicate_succ, List.flatten_cons]
theorem flat_len {l : List Value} {n : Nat} : (List.replicate n l).flatten.length = n * l.length := by
  induction n with
  | zero => simp
  | succ n ih => rw [List.replicate_succ, List.flatten_cons, List.length_append, ih, Nat.succ_mul, Nat.add_comm]
theorem flat_get {l : List Value} (_hl : 0 < l.length) : ∀ (n j : Nat), j < n * l.length → (List.replicate n l).flatten[j]? = l[j % l.length]? := by
  intro n
  induction n with
  | zero => intro j h; simp at h
  | succ n ih =>
    intro j h
    rw [List.replicate_succ, List.flatten_cons]
    by_cases hj : j < l.length
    · rw [List.getElem?_append_left hj, Nat.mod_eq_of_lt hj]
    · have hm : j % l.length = (j - l.length) % l.length := Nat.mod_eq_sub_mod (by omega)
      rw [List.getElem?_append_right (by omega), ih _ (by rw [Nat.succ_mul] at h; omega), hm]
theorem made_times {l : List Value} (hl : 0 < l.length) (n : Nat) : (List.replicate n l).flatten.toArray = madeCells l.toArray (n * l.length) := by
  apply Array.ext'
  refine List.ext_getElem? fun j => ?_
  by_cases hj : j < n * l.length
  · rw [flat_get hl n j hj]
    have hm : j % l.length < l.length := Nat.mod_lt _ hl
    simp [madeCells, hj, hm]
  · rw [List.getElem?_eq_none (by rw [flat_len]; omega), List.getElem?_eq_none (by simp [madeCells]; omega)]
theorem madeCells_zero (z : Array Value) : madeCells z 0 = #[] := by simp [madeCells]
/-- the zero of a type, as a chain of so many cells -/
def zeroRow {P : Program} (T : Tab P) (t : Nat) : Option (SV × Nat) :=
  match T.zero t, sizeIn T t with
  | some z, some n => match cellsS z with
    | some c => if wd c = some n ∧ 0 < n then some (c, n) else none
    | none => none
  | _, _ => none
theorem zeroRow_ok {P : Program} {T : Tab P} {t : Nat} {c : SV} {n : Nat} (h : zeroRow T t = some (c, n)) : ∃ (i : TypeInfo) (z : Value), P.info? t = some i ∧ i.zero = some z ∧ i.size = n ∧ 0 < n ∧
    ∀ E, z.cells = (dl E c).toArray ∧ (dl E c).length = n := by
  unfold zeroRow at h
  split at h
  case h_2 => cases h
  rename_i z k hz hk
  split at h
  case h_2 => cases h
  rename_i c' hc
  split at h
  case isFalse => cases h
  rename_i hh
  cases h
  replace hk := T.size_ok _ _ hk
  simp only [Option.map_eq_some_iff] at hk
  obtain ⟨i, hi, rfl⟩ := hk
  have hzs := T.zero_ok _ _ hz
  have key : ∀ E, ∃ v, i.zero = some v ∧ v = dv E z := by
    intro E
    unfold zeroS at hzs
    rw [hi] at hzs
    dsimp only at hzs
    split at hzs
    · rename_i cs hzv
      split at hzs
      · rename_i c2 _
        split at hzs
        · rename_i hs
          cases hzs
          exact ⟨_, hzv, by simp [dv, dl, stands_ok E c2 cs.toList hs]⟩
        · cases hzs
      · cases hzs
    · rename_i v _ hzv
      exact ⟨_, hzv, (ofCell_ok E hzs).1.symm⟩
    · cases hzs
  have E0 : Env := ⟨fun _ => 0, fun _ => false, fun _ => [], fun _ => 0, fun _ => 0, fun _ => .tuple #[], fun _ _ => 0⟩
  obtain ⟨v, hv, _⟩ := key E0
  refine ⟨i, v, hi, hv, rfl, hh.2, fun E => ⟨?_, wd_ok E _ _ hh.1⟩⟩
  obtain ⟨v', hv', he⟩ := key E
  rw [hv] at hv'
  cases hv'
  rw [he]
  exact cellsS_ok E hc

noncomputable def buildSliceS {P : Program} (T : Tab P) (t len : Nat) (parts : List (Nat × SV)) : X SV :=
  match T.under t with
  | some (.slice e) => match zeroRow T e with
    | some (z, n) => if len * n ≤ 2 ^ 24 then
        match fillS (fun i => some (i * n, n)) (timesC z len) parts with
        | some c => X.bind (allocX e c) fun p => match p with
          | .ptr s k off => X.pure (.sli s k off (.lit len) (.lit len))
          | _ => X.none
        | none => X.none
      else X.none
    | none => X.none
  | _ => X.none
theorem alloc_sli {F : Nat → Prop} {w0 : World} {E : Env} (t : Nat) (c : SV) (len cap : IE) (m : Mem) (w : World) :
    GX F w0 E (X.bind (allocX t c) fun p => match p with
      | .ptr s k off => X.pure (.sli s k off len cap)
      | _ => X.none) m w fun v w' => w' = w.alloc (.cells (dl E c).toArray t) ∧ dv E v = .slice (some ⟨w.heap.size, 0, none⟩) (ev E len).toNat (ev E cap).toNat := by
  refine GX.bind (allocX_ok t c m w) ?_
  rintro p m1 w1 ⟨hv, hw, hp⟩
  split
  · rename_i s k off
    refine GX.pure fun _ => ⟨hw, ?_⟩
    have : Value.pointer (some (addrOf E s k off)) = .pointer (some ⟨w.heap.size, 0, none⟩) := hp
    simp only [Value.pointer.injEq, Option.some.injEq] at this
    show Value.slice (some (addrOf E s k off)) _ _ = _
    rw [this]
  · exact GX.none
theorem buildSliceS_ok {F : Nat → Prop} {w0 : World} {E : Env} {P : Program} (T : Tab P) (t len : Nat) (parts : List (Nat × SV)) (m : Mem) (w : World) :
    GX F w0 E (buildSliceS T t len parts) m w fun v w' => (Instr.buildSlice t len (parts.map fun p => (p.1, dv E p.2)).toArray).run P w = .ok (dv E v) w' := by
  unfold buildSliceS
  split
  case h_2 => exact GX.none
  rename_i e hu
  split
  case h_2 => exact GX.none
  rename_i z n hz
  split
  case isFalse => exact GX.none
  rename_i hlen
  split
  case h_2 => exact GX.none
  rename_i c hc
  obtain ⟨i, zv, hi, hzv, rfl, hpos, hcells⟩ := zeroRow_ok hz
  obtain ⟨h1, h2⟩ := hcells E
  refine (alloc_sli e c (.lit len) (.lit len) m w).mono fun v w' h => ?_
  obtain ⟨hw, hv⟩ := h
  have hf := fillS_ok E _ _ _ _ hc
  rw [timesC_ok, made_times (by omega) len, h2] at hf
  have hlen' : ¬ (16777216 < len * i.size) := by omega
  by_cases h0 : len * i.size = 0
  · rw [h0, madeCells_zero] at hf
    simp only [Instr.buildSlice, Sem.run_bind, run_underlying (T.under_ok _ _ hu), Result.andThen_ok, sizeOf, typeInfo, run_program, hi, Sem.run_pure, Sem.run_ite, h0]
    simp only [gt_iff_lt, show ¬ (2 ^ 24 < 0) by decide, if_false, if_true, Sem.run_pure, Result.andThen_ok, Array.range_zero', Array.map_empty, hf, newRow, Sem.run_bind, run_newObj]
    rw [hv, hw]
    simp [ev_lit]
  · simp only [Instr.buildSlice, Sem.run_bind, run_underlying (T.under_ok _ _ hu), Result.andThen_ok, sizeOf, typeInfo, run_program, hi, Sem.run_pure, Sem.run_ite]
    have hf' : Instr.fill (fun j => some (j * i.size, i.size)) ((Array.range (len * i.size)).map (fun j => zv.cells[j % zv.cells.size]!)) (parts.map fun p => (p.1, dv E p.2)) = some (dl E c).toArray := by
      rw [h1]; exact hf
    have hzr : (zeroValue e).run P w = .ok zv w := by simp [zeroValue, typeInfo, hi, hzv]
    simp only [gt_iff_lt, show ¬ (2 ^ 24 < len * i.size) from hlen', if_false, h0, hzr, Result.andThen_ok, Sem.run_pure, hf', newRow, Sem.run_bind, run_newObj]
    rw [hv, hw]
    simp [ev_lit]

/-- so many zeros of a type, as one chain -/
def zerosFor (z : SV) (_n : Nat) (k : IE) : Option SV :=
  match z with
  | .cons (.int kd (.lit 0)) .nil => some (.cons (.arr kd 0 k .nil) .nil)
  | _ => match k with
    | .lit x => some (timesC z x.toNat)
    | _ => none
theorem zerosFor_ok {E : Env} {z c : SV} {n : Nat} {k : IE} (h : zerosFor z n k = some c) (hn : (dl E z).length = n) : dl E c = (List.replicate (ev E k).toNat (dl E z)).flatten := by
  unfold zerosFor at h
  split at h
  · rename_i kd
    cases h
    have e1 : dl E (.cons (.int kd (.lit 0)) .nil) = [.int kd 0] := rfl
    rw [e1]
    have e2 : dl E (.cons (.arr kd 0 k .nil) .nil) = arrCells E kd 0 (ev E k).toNat .nil := by simp [dl]
    rw [e2]
    refine List.ext_getElem? fun j => ?_
    by_cases hj : j < (ev E k).toNat
    · rw [arrCells_get _ _ _ _ _ _ hj, flat_get (by simp) _ _ (by simpa using hj)]
      simp [wsVal, Env.row, Nat.mod_one]
    · rw [List.getElem?_eq_none (by rw [arrCells_len]; omega), List.getElem?_eq_none (by rw [flat_len]; simp; omega)]
  · split at h
    · cases h; rw [timesC_ok, ev_lit]
    · cases h
noncomputable def makeSliceS {P : Program} (T : Tab P) (t : Nat) (l c : SV) : X SV :=
  match T.under t, l, c with
  | some (.slice e), .int _ l, .int _ c => match zeroRow T e, T.byt e with
    | some (z, n), some by_ => withKnow fun kn =>
      if nonneg kn l = true ∧ isLe kn l c = true ∧ by_ * (rng kn.facts c).2 ≤ 281474976710656 ∧ (rng kn.facts c).2 ≤ 9223372036854775807 then
        match zerosFor z n c with
        | some cc => X.bind (allocX e cc) fun p => match p with
          | .ptr s k off => X.pure (.sli s k off l c)
          | _ => X.none
        | none => X.none
      else X.none
    | _, _ => X.none
  | _, _, _ => X.none
theorem makeSliceS_ok {F : Nat → Prop} {w0 : World} {E : Env} {P : Program} (T : Tab P) (t : Nat) (l c : SV) (m : Mem) (w : World) :
    GX F w0 E (makeSliceS T t l c) m w fun v w' => (Instr.makeSlice t (dv E l) (dv E c)).run P w = .ok (dv E v) w' := by
  unfold makeSliceS
  split
  case h_2 => exact GX.none
  rename_i e kl l kc c hu
  split
  case h_2 => exact GX.none
  rename_i z n by_ hz hb
  refine GX.withKnow fun hk => ?_
  split
  case isFalse => exact GX.none
  rename_i hh
  obtain ⟨c1, c2, c3, c4⟩ := hh
  split
  case h_2 => exact GX.none
  rename_i cc hcc
  obtain ⟨i, zv, hi, hzv, rfl, hpos, hcells⟩ := zeroRow_ok hz
  obtain ⟨h1, h2⟩ := hcells E
  have hby : i.bytes = by_ := by
    have := T.byt_ok _ _ hb
    rw [hi] at this
    simpa using this
  refine (alloc_sli e cc l c m w).mono fun v w' h => ?_
  obtain ⟨hw, hv⟩ := h
  have l0 := nonneg_ok hk c1
  have lc := isLe_ok hk c2
  have rc := rng_ok hk.env hk.facts c
  have hbytes : (i.bytes : Int) * ev E c ≤ 281474976710656 := by
    rw [hby]
    exact Int.le_trans (Int.mul_le_mul_of_nonneg_left rc.2 (by omega)) c3
  have hr := run_make (P := P) w t e i zv (T.under_ok _ _ hu) hi hzv kl kc (ev E l) (ev E c) l0 lc hbytes (by omega)
  have e1 : dv E (.int kl l) = .int kl (ev E l) := rfl
  have e2 : dv E (.int kc c) = .int kc (ev E c) := rfl
  rw [e1, e2, hr, hv, hw, zerosFor_ok hcc h2, made_times (by omega), h1, h2]
end Go.Sx
