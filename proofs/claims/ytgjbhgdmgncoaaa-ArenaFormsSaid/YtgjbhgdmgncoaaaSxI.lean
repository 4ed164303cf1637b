/- The executor's operations, 6: calls; one function over all operations, and that it is sound. -/
import Derived.Test.YtgjbhgdmgncoaaaSxH
namespace Go.Sx
open Go

def opds (tm : List SV) : List Operand → Option (List SV)
  | [] => some []
  | x :: r => match opd tm x, opds tm r with
    | some v, some l => some (v :: l)
    | _, _ => none
theorem opds_ok {E : Env} {tm : List SV} {a : Act} (ha : a.tmps = (tm.map (dv E)).toArray) : ∀ {xs : List Operand} {vs : List SV}, opds tm xs = some vs → xs.map a.eval = vs.map (dv E) := by
  intro xs
  induction xs with
  | nil => intro vs h; cases h; rfl
  | cons x r ih =>
    intro vs h
    unfold opds at h
    split at h
    · rename_i v l hv hl
      cases h
      rw [List.map_cons, List.map_cons, opd_ok ha hv, ih hl]
    · cases h

theorem run_callFunc {P : Program} {f : Nat} (h : callable P f = true) (args : Array Value) (w : World) : (callFunc f args).run P w = .ok (.enter f args) w := by
  unfold callable at h
  split at h
  · rename_i fn hf
    simp only [Bool.and_eq_true, bne_iff_ne, ne_eq] at h
    have h1 : (fn.name == "runtime.NumGoroutine") = false := by simpa using h.1
    have h2 : fn.body.isNone = false := by cases hb : fn.body <;> simp_all
    simp only [callFunc, Sem.run_bind, run_program, Result.andThen_ok, hf, h1, h2, Bool.false_eq_true, if_false, Sem.run_pure]
  · cases h

theorem run_method {P : Program} {t : Nat} {name : String} {f : Nat} (h : methodS P t name = some f) (v : Value) (n : Nat) (w : World) :
    (method (n + 1) t v name).run P w = .ok (f, v) w := by
  unfold methodS at h
  split at h
  · rename_i i hi
    split at h
    · rename_i m hm
      split at h
      · rename_i hp
        have hpl : m.path.toList = [] := by simpa using hp
        split at h
        · rename_i f' e hf hu
          cases h
          simp only [method, typeInfo, Sem.run_bind, run_program, Result.andThen_ok, hi, Sem.run_pure, hm, hpl, follow, hf, receiverAt, run_underlying hu, Place.get]
        · cases h
        · rename_i f' d hne hf hu
          cases h
          simp only [method, typeInfo, Sem.run_bind, run_program, Result.andThen_ok, hi, Sem.run_pure, hm, hpl, follow, hf, receiverAt, run_underlying hu]
          cases d <;> first | exact (hne _ rfl).elim | rfl
        · cases h
      · cases h
    · cases h
  · cases h

noncomputable def callS {P : Program} (T : Tab P) (tm : List SV) (c : Call) (_ty : Nat) : X NX :=
  match opds tm c.args.toList with
  | none => X.none
  | some args =>
    match c.callee with
    | .value f => match opd tm f with
      | some (.fn fid caps) => match listOf caps with
        | some cl => if T.call fid = true then X.pure (.enter fid (args ++ cl)) else X.none
        | none => X.none
      | _ => X.none
    | .invoke r name => match opd tm r with
      | some (.ifc t v) => match T.meth t name with
        | some f => if T.call f = true ∧ v.isV = true then X.pure (.enter f (v :: args)) else X.none
        | none => X.none
      | _ => X.none
    | .builtin .len => match c.argTypes[0]?, args with
      | some t, [x] => withKnow fun kn => X.bind (X.ofOption (lenS T kn t x)) fun v => X.pure (.val v)
      | _, _ => X.none
    | .builtin .cap => match c.argTypes[0]?, args with
      | some t, [x] => withKnow fun kn => X.bind (X.ofOption (capS T kn t x)) fun v => X.pure (.val v)
      | _, _ => X.none
    | _ => X.none
theorem callS_ok {F : Nat → Prop} {w0 : World} {E : Env} {P : Program} (T : Tab P) {tm : List SV} {a : Act} (ha : a.tmps = (tm.map (dv E)).toArray) (c : Call) (ty : Nat) (m : Mem) (w : World) :
    GX F w0 E (callS T tm c ty) m w fun nx w' => w' = w ∧ (do let d ← resolve a.eval c ty; invoke d.target d.args : Sem Next).run P w = .ok (denN E nx) w := by
  unfold callS
  split
  · exact GX.none
  rename_i args hargs
  have hmap : c.args.map a.eval = (args.map (dv E)).toArray := by
    apply Array.ext'
    rw [Array.toList_map, opds_ok ha hargs]
  split
  · rename_i f hcal
    split
    · rename_i fid caps hf
      split
      · rename_i cl hcl
        split
        · rename_i hok
          refine GX.pure fun _ => ⟨rfl, ?_⟩
          have ef : a.eval f = .func (.func fid) #[] (cl.map (dv E)).toArray := by
            rw [opd_ok ha hf]
            show Value.func _ _ (dl E caps).toArray = _
            rw [listOf_ok E caps cl hcl]
          simp only [resolve, hcal, Sem.run_bind, Deferred.ofValue, ef, Sem.run_pure, Result.andThen_ok, hmap, invoke]
          rw [run_callFunc (T.call_ok _ hok)]
          simp [denN]
        · exact GX.none
      · exact GX.none
    · exact GX.none
  · rename_i r name hcal
    split
    · rename_i t v hr
      split
      · rename_i f hf
        split
        · rename_i hok
          refine GX.pure fun _ => ⟨rfl, ?_⟩
          have er : a.eval r = .iface t (dv E v) := opd_ok ha hr
          have hd : 0 < Made.depth := by decide
          obtain ⟨n, hn⟩ : ∃ n, P.types.size + Made.depth = n + 1 := ⟨P.types.size + Made.depth - 1, by omega⟩
          simp only [resolve, hcal, Sem.run_bind, Sem.run_pure, Result.andThen_ok, hmap, invoke, er]
          simp only [List.size_toArray, List.append_toArray, List.singleton_append, List.getElem?_toArray, List.getElem?_cons_zero, callMethod, Sem.run_bind, run_program, Result.andThen_ok, hn, run_method (T.meth_ok _ _ _ hf), run_callFunc (T.call_ok _ hok.1)]
          simp [denN, List.take_of_length_le]
        · exact GX.none
      · exact GX.none
    · exact GX.none
  · rename_i hcal
    split
    · rename_i t x ht
      refine GX.withKnow fun hk => GX.bind (GX.ofOption (Q := fun v w' => w' = w ∧ lenS T m.know t x = some v) fun _ h => ⟨rfl, h⟩) ?_
      rintro v m1 w1 ⟨rfl, hv⟩
      refine GX.pure fun _ => ⟨rfl, ?_⟩
      have h1 := lenS_ok hk hv c.argTypes ht ty w1
      simp only [resolve, hcal, Sem.run_bind, Sem.run_pure, Result.andThen_ok, hmap, invoke, builtin, List.map_cons, List.map_nil]
      rw [h1]
      rfl
    · exact GX.none
  · rename_i hcal
    split
    · rename_i t x ht
      refine GX.withKnow fun hk => GX.bind (GX.ofOption (Q := fun v w' => w' = w ∧ capS T m.know t x = some v) fun _ h => ⟨rfl, h⟩) ?_
      rintro v m1 w1 ⟨rfl, hv⟩
      refine GX.pure fun _ => ⟨rfl, ?_⟩
      have h1 := capS_ok hk hv c.argTypes ht ty w1
      simp only [resolve, hcal, Sem.run_bind, Sem.run_pure, Result.andThen_ok, hmap, invoke, builtin, List.map_cons, List.map_nil]
      rw [h1]
      rfl
    · exact GX.none
  · exact GX.none

noncomputable def valX (x : X SV) : X NX := X.bind x fun v => X.pure (.val v)
noncomputable def valO (x : Option SV) : X NX := valX (X.ofOption x)
def partsS (tm : List SV) : List (Nat × Operand) → Option (List (Nat × SV))
  | [] => some []
  | (i, x) :: r => match opd tm x, partsS tm r with
    | some v, some l => some ((i, v) :: l)
    | _, _ => none
theorem partsS_ok {E : Env} {tm : List SV} {a : Act} (ha : a.tmps = (tm.map (dv E)).toArray) : ∀ {xs : List (Nat × Operand)} {vs : List (Nat × SV)}, partsS tm xs = some vs →
    xs.map (fun p => (p.1, a.eval p.2)) = vs.map fun p => (p.1, dv E p.2) := by
  intro xs
  induction xs with
  | nil => intro vs h; cases h; rfl
  | cons x r ih =>
    obtain ⟨i, x⟩ := x
    intro vs h
    unfold partsS at h
    split at h
    · rename_i v l hv hl
      cases h
      rw [List.map_cons, List.map_cons, ih hl]
      simp only [opd_ok ha hv]
    · cases h
def optS (tm : List SV) : Option Operand → Option (Option SV)
  | none => some none
  | some x => match opd tm x with
    | some v => some (some v)
    | none => none
theorem optS_ok {E : Env} {tm : List SV} {a : Act} (ha : a.tmps = (tm.map (dv E)).toArray) {x : Option Operand} {v : Option SV} (h : optS tm x = some v) : x.map a.eval = v.map (dv E) := by
  unfold optS at h
  split at h
  · cases h; rfl
  · split at h
    · rename_i x v' hv
      cases h
      rw [Option.map_some, Option.map_some, opd_ok ha hv]
    · cases h

noncomputable def opS {P : Program} (T : Tab P) (tm : List SV) (o : Oper) : X NX :=
  match o.op with
  | .move x => valO (opd tm x)
  | .assign x => valO (opd tm x)
  | .pick c a b => match opd tm c, opd tm a, opd tm b with
    | some c, some a, some b => valX (pickS c a b)
    | _, _, _ => X.none
  | .alloc t => valX (allocS T t)
  | .box t x => match opd tm x with
    | some v => valX (boxS t v)
    | none => X.none
  | .build t ps => match partsS tm ps.toList with
    | some l => valO (buildS T t l)
    | none => X.none
  | .load t a => match opd tm a with
    | some v => valX (loadS T t v)
    | none => X.none
  | .store t a x => match opd tm a, opd tm x with
    | some a, some x => X.bind (storeS T t a x) fun _ => X.pure .skip
    | _, _ => X.none
  | .nilCheck x => match opd tm x with
    | some v => valO (nilCheckS v)
    | none => X.none
  | .binOp op t x y _ => match opd tm x, opd tm y with
    | some a, some b => valX (binS T op t x y a b)
    | _, _ => X.none
  | .unOp op _ x => match opd tm x with
    | some a => withKnow fun kn => valO (unOpS kn op a)
    | none => X.none
  | .convert s d x => match opd tm x with
    | some a => withKnow fun kn => valO (convertS T kn s d a)
    | none => X.none
  | .makeInterface t x => match opd tm x with
    | some a => valO (makeIfaceS T t a)
    | none => X.none
  | .makeFunc (.func f) first caps => match opds tm caps.toList with
    | some l => if first.isEmpty then match chainOf l with
      | some c => X.pure (.val (.fn f c))
      | none => X.none else X.none
    | none => X.none
  | .slice t x lo hi mx => match opd tm x, optS tm lo, optS tm hi, optS tm mx with
    | some v, some lo, some hi, some mx => valX (sliceS T t v lo hi mx)
    | _, _, _, _ => X.none
  | .fieldAddr t x i => match opd tm x with
    | some a => withKnow fun kn => valO (fieldAddrS T kn t a i)
    | none => X.none
  | .field t x i => match opd tm x with
    | some a => valX (fieldS T t a i)
    | none => X.none
  | .indexAddr t x i => match opd tm x, opd tm i with
    | some a, some b => withKnow fun kn => valO (indexAddrS T kn t a b)
    | _, _ => X.none
  | .index t x i => match opd tm x, opd tm i with
    | some a, some b => valX (indexS T t a b)
    | _, _ => X.none
  | .typeAssert x xt t ok => match opd tm x with
    | some a => valO (typeAssertS T a xt t ok)
    | none => X.none
  | .extract x i => match opd tm x with
    | some a => valO (extractS a i)
    | none => X.none
  | .call c => callS T tm c o.type
  | _ => X.none

section
variable {F : Nat → Prop} {w0 : World} {E : Env}
theorem valX_ok {x : X SV} {m : Mem} {w : World} {Q : SV → World → Prop} {R : NX → World → Prop} (h : GX F w0 E x m w Q) (hr : ∀ v w', Q v w' → R (.val v) w') : GX F w0 E (valX x) m w R := by
  unfold valX
  exact GX.bind h fun v m' w' hq => GX.pure fun _ => hr v w' hq
theorem valO_ok {x : Option SV} {m : Mem} {w : World} {R : NX → World → Prop} (hr : ∀ v, x = some v → R (.val v) w) : GX F w0 E (valO x) m w R :=
  valX_ok (Q := fun v w' => w' = w ∧ x = some v) (GX.ofOption fun _ h => ⟨rfl, h⟩) (by rintro v w' ⟨rfl, h⟩; exact hr v h)

theorem pickS_ok (c a b : SV) (P : Program) (m : Mem) (w : World) : GX F w0 E (pickS c a b) m w fun v w' => w' = w ∧
    (do pure (.value (if ← asBool (dv E c) then dv E a else dv E b)) : Sem Next).run P w = .ok (.value (dv E v)) w := by
  unfold pickS
  split
  · rename_i t
    refine GX.bind (branch_ok t m w) ?_
    rintro r m1 w1 ⟨rfl, hr⟩
    refine GX.pure fun _ => ⟨rfl, ?_⟩
    have e : dv E (.bool t) = .bool (evB E t) := rfl
    rw [e, ← hr]
    cases r <;> simp [asBool]
  · exact GX.none
theorem boxS_ok (t : Nat) (v : SV) (P : Program) (m : Mem) (w : World) : GX F w0 E (boxS t v) m w fun r w' => (Instr.box t (dv E v)).run P w = .ok (dv E r) w' := by
  unfold boxS
  refine GX.bind (GX.ofOption (Q := fun c w' => w' = w ∧ cellsS v = some c) fun _ h => ⟨rfl, h⟩) ?_
  rintro c m1 w1 ⟨rfl, hc⟩
  refine (allocX_ok t c m1 w1).mono fun r w' h => ?_
  simp only [Instr.box, newVar, newRow, Sem.run_bind, run_newObj, Result.andThen_ok, Sem.run_pure, cellsS_ok E hc, h.2.2, h.2.1]
  rfl
theorem allocS_ok {P : Program} (T : Tab P) (t : Nat) (m : Mem) (w : World) : GX F w0 E (allocS T t) m w fun r w' => (Instr.alloc t true (.tuple #[])).run P w = .ok (dv E r) w' := by
  unfold allocS
  refine GX.bind (GX.ofOption (Q := fun z w' => w' = w ∧ T.zero t = some z) fun _ h => ⟨rfl, h⟩) ?_
  rintro z m1 w1 ⟨rfl, hz⟩
  refine (boxS_ok t z P m1 w1).mono fun r w' h => ?_
  simp only [Instr.box, Sem.run_bind] at h
  simp only [Instr.alloc, Sem.run_bind, zeroS_ok (T.zero_ok _ _ hz) E w1, Result.andThen_ok]
  exact h
theorem opS_ok {P : Program} (T : Tab P) {tm : List SV} {a : Act} (ha : a.tmps = (tm.map (dv E)).toArray) (o : Oper) (m : Mem) (w : World) :
    GX F w0 E (opS T tm o) m w fun nx w' => (execOp a.eval o).run P w = .ok (denN E nx) w' := by
  unfold opS
  split
  · rename_i x hop
    exact valO_ok fun v hv => by simp only [execOp, hop, opd_ok ha hv]; rfl
  · rename_i x hop
    exact valO_ok fun v hv => by simp only [execOp, hop, opd_ok ha hv]; rfl
  · rename_i c x y hop
    split
    · rename_i c' x' y' hc hx hy
      refine valX_ok (pickS_ok c' x' y' P m w) ?_
      rintro v w' ⟨rfl, h⟩
      simp only [execOp, hop, opd_ok ha hc, opd_ok ha hx, opd_ok ha hy]
      exact h
    · exact GX.none
  · rename_i t hop
    refine valX_ok (allocS_ok T t m w) fun v w' h => ?_
    simp only [execOp, hop, Sem.run_bind, h, Result.andThen_ok]; rfl
  · rename_i t x hop
    split
    · rename_i v hv
      refine valX_ok (boxS_ok t v P m w) fun r w' h => ?_
      simp only [execOp, hop, opd_ok ha hv, Sem.run_bind, h, Result.andThen_ok]; rfl
    · exact GX.none
  · rename_i t ps hop
    split
    · rename_i l hl
      refine valO_ok fun v hv => ?_
      have h := buildS_ok (E := E) hv w
      have e : (ps.map fun (p : Nat × Operand) => (p.1, a.eval p.2)) = (l.map fun p => (p.1, dv E p.2)).toArray := by
        apply Array.ext'
        rw [Array.toList_map, partsS_ok ha hl]
      simp only [execOp, hop, Sem.run_bind]
      rw [e, h]; rfl
    · exact GX.none
  · rename_i t x hop
    split
    · rename_i v hv
      refine valX_ok (loadS_ok T t v m w) ?_
      rintro r w' ⟨rfl, _, h⟩
      simp only [execOp, hop, opd_ok ha hv, Sem.run_bind, h, Result.andThen_ok]; rfl
    · exact GX.none
  · rename_i t x y hop
    split
    · rename_i x' y' hx hy
      refine GX.bind (storeS_ok T t x' y' m w) fun _ m1 w1 h => GX.pure fun _ => ?_
      simp only [execOp, hop, opd_ok ha hx, opd_ok ha hy, Sem.run_bind, h, Result.andThen_ok]; rfl
    · exact GX.none
  · rename_i x hop
    split
    · rename_i v hv
      refine valO_ok fun r hr => ?_
      simp only [execOp, hop, opd_ok ha hv]
      unfold nilCheckS at hr
      split at hr <;> cases hr <;> rfl
    · exact GX.none
  · rename_i op t x y yt hop
    split
    · rename_i x' y' hx hy
      refine valX_ok (binS_ok T op t x y x' y' m w) ?_
      rintro r w' ⟨rfl, h⟩
      simp only [execOp, hop, opd_ok ha hx, opd_ok ha hy]
      rw [Sem.run_bind, h]; rfl
    · exact GX.none
  · rename_i op t x hop
    split
    · rename_i v hv
      refine GX.withKnow fun hk => valO_ok fun r hr => ?_
      simp only [execOp, hop, opd_ok ha hv, Sem.run_bind, unOpS_ok hk hr, Result.andThen_ok]; rfl
    · exact GX.none
  · rename_i s d x hop
    split
    · rename_i v hv
      refine GX.withKnow fun hk => valO_ok fun r hr => ?_
      simp only [execOp, hop, opd_ok ha hv, Sem.run_bind, convertS_ok hk hr, Result.andThen_ok]; rfl
    · exact GX.none
  · rename_i t x hop
    split
    · rename_i v hv
      refine valO_ok fun r hr => ?_
      simp only [execOp, hop, opd_ok ha hv, Sem.run_bind, makeIfaceS_ok hr, Result.andThen_ok]; rfl
    · exact GX.none
  · rename_i f first caps hop
    split
    · rename_i l hl
      split
      · rename_i hf
        split
        · rename_i c hc
          refine GX.pure fun _ => ?_
          have e1 : first = #[] := by simpa using hf
          have e2 : caps.map a.eval = (l.map (dv E)).toArray := by
            apply Array.ext'
            rw [Array.toList_map, opds_ok ha hl]
          simp only [execOp, hop, Sem.run_bind, Instr.makeFunc, Sem.run_pure, Result.andThen_ok, e1, e2, Array.map_empty]
          show Result.ok (Next.value (.func (.func f) #[] (l.map (dv E)).toArray)) w = Result.ok (Next.value (.func (.func f) #[] (dl E c).toArray)) w
          rw [chainOf_ok E l c hc]
        · exact GX.none
      · exact GX.none
    · exact GX.none
  · rename_i t x lo hi mx hop
    split
    · rename_i v lo' hi' mx' hv hlo hhi hmx
      refine valX_ok (sliceS_ok T t v lo' hi' mx' m w) ?_
      rintro r w' ⟨rfl, h⟩
      simp only [execOp, hop, opd_ok ha hv, optS_ok ha hlo, optS_ok ha hhi, optS_ok ha hmx, Sem.run_bind, h, Result.andThen_ok]; rfl
    · exact GX.none
  · rename_i t x i hop
    split
    · rename_i v hv
      refine GX.withKnow fun hk => valO_ok fun r hr => ?_
      simp only [execOp, hop, opd_ok ha hv, Sem.run_bind, fieldAddrS_ok hk hr, Result.andThen_ok]; rfl
    · exact GX.none
  · rename_i t x i hop
    split
    · rename_i v hv
      refine valX_ok (fieldS_ok T t v i m w) ?_
      rintro r w' ⟨rfl, h⟩
      simp only [execOp, hop, opd_ok ha hv, Sem.run_bind, h, Result.andThen_ok]; rfl
    · exact GX.none
  · rename_i t x i hop
    split
    · rename_i x' i' hx hi
      refine GX.withKnow fun hk => valO_ok fun r hr => ?_
      simp only [execOp, hop, opd_ok ha hx, opd_ok ha hi, Sem.run_bind, indexAddrS_ok hk hr, Result.andThen_ok]; rfl
    · exact GX.none
  · rename_i t x i hop
    split
    · rename_i x' i' hx hi
      refine valX_ok (indexS_ok T t x' i' m w) ?_
      rintro r w' ⟨rfl, h⟩
      simp only [execOp, hop, opd_ok ha hx, opd_ok ha hi, Sem.run_bind, h, Result.andThen_ok]; rfl
    · exact GX.none
  · rename_i x xt t ok hop
    split
    · rename_i v hv
      refine valO_ok fun r hr => ?_
      simp only [execOp, hop, opd_ok ha hv, Sem.run_bind, typeAssertS_ok hr, Result.andThen_ok]; rfl
    · exact GX.none
  · rename_i x i hop
    split
    · rename_i v hv
      refine valO_ok fun r hr => ?_
      simp only [execOp, hop, opd_ok ha hv, Sem.run_bind, extractS_ok hr, Result.andThen_ok]; rfl
    · exact GX.none
  · rename_i c hop
    refine (callS_ok T ha c o.type m w).mono fun nx w' h => ?_
    obtain ⟨rfl, h⟩ := h
    simp only [execOp, hop]
    exact h
  · exact GX.none
end
end Go.Sx
