/- The executor's operations, 3: all of them. -/
import Derived.Test.YtgjbhgdmgncoaaaSxE
namespace Go.Sx
open Go

/-- what an operation comes to -/
inductive NX where
  | val (v : SV)
  | skip
  | enter (f : Nat) (args : List SV)
  deriving Repr, Inhabited
def denN (E : Env) : NX → Next
  | .val v => .value (dv E v)
  | .skip => .skip
  | .enter f args => .enter f (args.map (dv E)).toArray

noncomputable def pickS (c a b : SV) : X SV :=
  match c with
  | .bool t => X.bind (branch t) fun r => X.pure (if r then a else b)
  | _ => X.none
noncomputable def boxS (t : Nat) (v : SV) : X SV := X.bind (X.ofOption (cellsS v)) fun c => allocX t c
noncomputable def allocS {P : Program} (T : Tab P) (t : Nat) : X SV := X.bind (X.ofOption (T.zero t)) fun z => boxS t z

/-- parts laid into a row of zeros -/
def fillS (place : Nat → Option (Nat × Nat)) (c : SV) : List (Nat × SV) → Option SV
  | [] => some c
  | (i, v) :: rest =>
    match place i, cellsS v with
    | some (off, size), some vc => if wd vc = some size then
        match (match spliceC c off size vc with
          | some c' => some c'
          | none => none) with
        | some c' => fillS place c' rest
        | none => none
      else none
    | _, _ => none
theorem fold_set : ∀ (vs : List Value) (n : Nat) (cs : Array Value) (off : Nat), off + n + vs.length ≤ cs.size →
    (vs.zipIdx n).foldl (fun cs (p : Value × Nat) => cs.setIfInBounds (off + p.2) p.1) cs = (cs.toList.take (off + n) ++ vs ++ cs.toList.drop (off + n + vs.length)).toArray := by
  intro vs
  induction vs with
  | nil => intro n cs off _; simp
  | cons v vs ih =>
    intro n cs off h
    simp only [List.length_cons] at h
    rw [List.zipIdx_cons, List.foldl_cons, ih (n + 1) _ off (by simp; omega)]
    congr 1
    have := list_seg_step cs.toList (off + n) v vs (by simp; omega)
    simp only [Array.toList_setIfInBounds]
    rw [show off + (n + 1) = off + n + 1 by omega, this]
    simp [Nat.add_assoc]
theorem fillS_ok (E : Env) (place : Nat → Option (Nat × Nat)) : ∀ (parts : List (Nat × SV)) (c r : SV), fillS place c parts = some r →
    Instr.fill place (dl E c).toArray (parts.map fun p => (p.1, dv E p.2)) = some (dl E r).toArray := by
  intro parts
  induction parts with
  | nil => intro c r h; cases h; rfl
  | cons p rest ih =>
    obtain ⟨i, v⟩ := p
    intro c r h
    unfold fillS at h
    split at h
    · rename_i off size vc hp hv
      split at h
      · rename_i hw
        have hl := wd_ok E vc size hw
        split at h
        · rename_i c' hc'
          split at hc'
          · rename_i hs
            cases hc'
            obtain ⟨h1, h2⟩ := spliceC_ok E hs hl
            have hcells := cellsS_ok E hv
            have e := ih _ _ h
            simp only [List.map_cons, Instr.fill, hp, hcells]
            rw [if_neg (by simp; omega)]
            have hz : (dl E vc).toArray.zipIdx.foldl (fun cs (p : Value × Nat) => cs.setIfInBounds (off + p.2) p.1) (dl E c).toArray = (dl E c').toArray := by
              rw [← Array.foldl_toList]
              have := fold_set (dl E vc) 0 (dl E c).toArray off (by simp; omega)
              simp only [Nat.add_zero] at this
              rw [Array.toList_zipIdx, h2]
              exact this.trans (by rw [hl])
            rw [hz]
            exact e
          · cases hc'
        · cases h
      · cases h
    · cases h
/-- parts into a row, one by one: the arrays within are not cut -/
def sizesOf {P : Program} (T : Tab P) : List Field → Option (List (Nat × Nat))
  | [] => some []
  | f :: fs => match sizeIn T f.type, sizesOf T fs with
    | some n, some r => some ((f.offset, n) :: r)
    | _, _ => none
theorem sizesOf_ok {P : Program} {T : Tab P} (w : World) : ∀ (fs : List Field) (r : List (Nat × Nat)), sizesOf T fs = some r →
    (fs.mapM fun f => (do pure (f.offset, ← sizeOf f.type) : Sem (Nat × Nat))).run P w = .ok r w := by
  intro fs
  induction fs with
  | nil => intro r h; cases h; rfl
  | cons f fs ih =>
    intro r h
    unfold sizesOf at h
    split at h
    · rename_i n r' hn hr
      cases h
      simp only [List.mapM_cons, Sem.run_bind, run_sizeOf hn, Result.andThen_ok, ih _ hr, Sem.run_pure]
    · cases h
def buildS {P : Program} (T : Tab P) (t : Nat) (parts : List (Nat × SV)) : Option SV :=
  match T.zero t with
  | some (.agg z) => match T.under t with
    | some (.struct fs) => match sizesOf T fs.toList with
      | some pl => match fillS (pl.toArray[·]?) z parts with
        | some c => some (.agg c)
        | none => none
      | none => none
    | some (.array _ elem) => match sizeIn T elem with
      | some n => match fillS (fun i => some (i * n, n)) z parts with
        | some c => some (.agg c)
        | none => none
      | none => none
    | _ => none
  | _ => none
theorem buildS_ok {E : Env} {P : Program} {T : Tab P} {t : Nat} {parts : List (Nat × SV)} {v : SV} (h : buildS T t parts = some v) (w : World) :
    (Instr.build t (parts.map fun p => (p.1, dv E p.2)).toArray).run P w = .ok (dv E v) w := by
  unfold buildS at h
  split at h
  · rename_i z hz
    have hzero := zeroS_ok (T.zero_ok _ _ hz) E w
    have e1 : (dv E (.agg z)).cells = (dl E z).toArray := rfl
    split at h
    · rename_i fs hu
      split at h
      · rename_i pl hpl
        split at h
        · rename_i c hc
          cases h
          have hf := fillS_ok E _ _ _ _ hc
          have hm : (fs.mapM fun f => (do pure (f.offset, ← sizeOf f.type) : Sem (Nat × Nat))).run P w = .ok pl.toArray w := by
            rw [Array.mapM_eq_mapM_toList]
            simp only [Sem.run_map, sizesOf_ok w fs.toList pl hpl, Result.andThen_ok]
          simp only [Instr.build, Sem.run_bind, hzero, Result.andThen_ok, run_underlying (T.under_ok _ _ hu), e1, hm, hf]
          rfl
        · cases h
      · cases h
    · rename_i n elem hu
      split at h
      · rename_i k hk
        split at h
        · rename_i c hc
          cases h
          have hf := fillS_ok E _ _ _ _ hc
          simp only [Instr.build, Sem.run_bind, hzero, Result.andThen_ok, run_underlying (T.under_ok _ _ hu), e1, run_sizeOf hk, hf]
          rfl
        · cases h
      · cases h
    · cases h
  · cases h
end Go.Sx
