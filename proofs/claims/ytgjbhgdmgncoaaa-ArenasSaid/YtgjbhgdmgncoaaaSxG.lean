/- The executor's operations, 4: places, parts, conversions, calls. -/
import Derived.Test.YtgjbhgdmgncoaaaSxF
namespace Go.Sx
open Go

def nonneg (kn : Know) (e : IE) : Bool := decide (0 ≤ (rng kn.facts e).1)
theorem nonneg_ok {E : Env} {kn : Know} (h : KnowOk E kn) {e : IE} (hn : nonneg kn e = true) : 0 ≤ ev E e := by
  have := rng_ok h.env h.facts e
  simp only [nonneg, decide_eq_true_eq] at hn
  omega
def isLt (kn : Know) (a b : IE) : Bool := mkLt kn a b == .lit true
theorem isLt_ok {E : Env} {kn : Know} (h : KnowOk E kn) {a b : IE} (hn : isLt kn a b = true) : ev E a < ev E b := by
  have := mkLt_ok h a b
  simp only [isLt, beq_iff_eq] at hn
  rw [hn] at this
  exact of_decide_eq_true this.symm
def isLe (kn : Know) (a b : IE) : Bool := mkLt kn b a == .lit false
theorem isLe_ok {E : Env} {kn : Know} (h : KnowOk E kn) {a b : IE} (hn : isLe kn a b = true) : ev E a ≤ ev E b := by
  have := mkLt_ok h b a
  simp only [isLe, beq_iff_eq] at hn
  rw [hn] at this
  have := of_decide_eq_false this.symm
  omega

def fieldAddrS {P : Program} (T : Tab P) (kn : Know) (t : Nat) (x : SV) (i : Nat) : Option SV :=
  match T.under t, x with
  | some (.struct fs), .ptr s k off => match fs[i]? with
    | some f => match sizeIn T f.type with
      | some n => if n ≠ 0 ∧ nonneg kn off = true then some (.ptr s k (mkAdd off (.lit f.offset))) else none
      | none => none
    | none => none
  | _, _ => none
theorem addrOf_add {E : Env} {s k : Nat} {off : IE} (h : 0 ≤ ev E off) (n : Nat) (e : IE) (he : ev E e = n) : (addrOf E s k off).add n = addrOf E s k (mkAdd off e) := by
  simp only [addrOf, addr_add, mkAdd_ok, he]
  rw [toNat_add h, Nat.add_assoc]
theorem fieldAddrS_ok {E : Env} {P : Program} {T : Tab P} {kn : Know} (h : KnowOk E kn) {t : Nat} {x r : SV} {i : Nat} (hr : fieldAddrS T kn t x i = some r) (w : World) :
    (Instr.fieldAt t (dv E x) i).run P w = .ok (dv E r) w := by
  unfold fieldAddrS at hr
  split at hr
  · rename_i fs s k off hu
    split at hr
    · rename_i f hf
      split at hr
      · rename_i n hn
        split at hr
        · rename_i hh
          cases hr
          have e : dv E (.ptr s k off) = .pointer (some (addrOf E s k off)) := rfl
          rw [e]
          simp only [Instr.fieldAt, Sem.run_bind, run_underlying (T.under_ok _ _ hu), Result.andThen_ok, hf, Instr.sureAddr, Sem.run_pure, fieldPlace, run_sizeOf hn, Sem.run_ite]
          rw [if_neg hh.1]
          simp only [Result.andThen_ok, addrOf_add (nonneg_ok h hh.2) f.offset (.lit f.offset) rfl]
          rfl
        · cases hr
      · cases hr
    · cases hr
  · cases hr

def indexAddrS {P : Program} (T : Tab P) (kn : Know) (t : Nat) (x i : SV) : Option SV :=
  match T.under t, x, i with
  | some (.array n elem), .ptr s k off, .int _ e => match sizeIn T elem with
    | some z => if nonneg kn off = true ∧ nonneg kn e = true ∧ isLt kn e (.lit n) = true then some (.ptr s k (mkAdd off (mkMul e (.lit z)))) else none
    | none => none
  | some (.slice elem), .sli s k off len _, .int _ e => match sizeIn T elem with
    | some z => if nonneg kn off = true ∧ nonneg kn e = true ∧ isLt kn e len = true then some (.ptr s k (mkAdd off (mkMul e (.lit z)))) else none
    | none => none
  | _, _, _ => none
theorem indexAddrS_ok {E : Env} {P : Program} {T : Tab P} {kn : Know} (h : KnowOk E kn) {t : Nat} {x i r : SV} (hr : indexAddrS T kn t x i = some r) (w : World) :
    (Instr.indexAt t (dv E x) (dv E i)).run P w = .ok (dv E r) w := by
  unfold indexAddrS at hr
  split at hr
  · rename_i n elem s k off kk e hu
    split at hr
    · rename_i z hz
      split at hr
      · rename_i hh
        cases hr
        have h0 := nonneg_ok h hh.1
        have h1 := nonneg_ok h hh.2.1
        have h2 := isLt_ok h hh.2.2
        rw [ev_lit] at h2
        have e1 : dv E (.ptr s k off) = .pointer (some (addrOf E s k off)) := rfl
        have e2 : dv E (.int kk e) = .int kk (ev E e) := rfl
        rw [e1, e2]
        simp only [Instr.indexAt, asIntOf, Sem.run_bind, Sem.run_pure, Result.andThen_ok, run_underlying (T.under_ok _ _ hu), Instr.sureAddr, Sem.run_ite]
        rw [if_pos ⟨h1, h2⟩]
        simp only [run_sizeOf hz, Result.andThen_ok]
        rw [addrOf_add h0 _ (mkMul e (.lit z)) (by rw [mkMul_ok, ev_lit, Int.natCast_mul, Int.toNat_of_nonneg h1])]
        rfl
      · cases hr
    · cases hr
  · rename_i elem s k off len cap kk e hu
    split at hr
    · rename_i z hz
      split at hr
      · rename_i hh
        cases hr
        have h0 := nonneg_ok h hh.1
        have h1 := nonneg_ok h hh.2.1
        have h2 := isLt_ok h hh.2.2
        have e1 : dv E (.sli s k off len cap) = .slice (some (addrOf E s k off)) (ev E len).toNat (ev E cap).toNat := rfl
        have e2 : dv E (.int kk e) = .int kk (ev E e) := rfl
        rw [e1, e2]
        simp only [Instr.indexAt, asIntOf, Sem.run_bind, Sem.run_pure, Result.andThen_ok, run_underlying (T.under_ok _ _ hu), Sem.run_ite]
        rw [if_pos ⟨h1, by omega⟩]
        simp only [run_sizeOf hz, Result.andThen_ok]
        rw [addrOf_add h0 _ (mkMul e (.lit z)) (by rw [mkMul_ok, ev_lit, Int.natCast_mul, Int.toNat_of_nonneg h1])]
        rfl
      · cases hr
    · cases hr
  · cases hr

/-- a part of a row -/
noncomputable def partS {P : Program} (T : Tab P) (t : Nat) (c : SV) (idx : IE) : X SV :=
  match aggOf T t with
  | some false => getC c idx
  | some true => match sizeIn T t with
    | some n => withKnow fun kn => if nonneg kn idx = true then X.bind (rowAt c n idx) fun r => X.pure (.agg r) else X.none
    | none => X.none
  | none => X.none
theorem extract_of {l r : List Value} {o n : Nat} (hl : r.length = n) (h : ∀ j, j < n → l[o + j]? = r[j]?) : l.toArray.extract o (o + n) = r.toArray := by
  apply Array.ext'
  simp only [List.extract_toArray, List.extract_eq_drop_take']
  refine List.ext_getElem? fun j => ?_
  by_cases hj : j < n
  · rw [← h j hj]
    simp only [List.getElem?_drop, List.getElem?_take]
    rw [if_pos (by omega)]
  · rw [List.getElem?_eq_none (l := r) (by omega)]
    simp only [List.getElem?_drop, List.getElem?_take]
    rw [if_neg (by omega)]
theorem partS_ok {F : Nat → Prop} {w0 : World} {E : Env} {P : Program} (T : Tab P) (t : Nat) (c : SV) (idx : IE) (m : Mem) (w : World) :
    GX F w0 E (partS T t c idx) m w fun v w' => w' = w ∧ (part t (dl E c).toArray (ev E idx).toNat).run P w = .ok (dv E v) w := by
  unfold partS
  split
  · rename_i ht
    exact (getC_ok c idx m w).mono fun v w' h => ⟨h.1, run_part ht h.2.2.2 w⟩
  · rename_i ht
    split
    · rename_i n hn
      refine GX.withKnow fun hk => ?_
      split
      · rename_i h0
        refine GX.bind (rowAt_ok c n idx (nonneg_ok hk h0) m w) ?_
        rintro r m1 w1 ⟨rfl, hl, hj⟩
        refine GX.pure fun _ => ⟨rfl, ?_⟩
        simp only [part, Sem.run_bind, run_isAgg ht, Result.andThen_ok, if_true, Sem.run_ite, run_sizeOf hn, Sem.run_pure, extract_of hl hj]
        rfl
      · exact GX.none
    · exact GX.none
  · exact GX.none

noncomputable def fieldS {P : Program} (T : Tab P) (t : Nat) (x : SV) (i : Nat) : X SV :=
  match T.under t, x with
  | some (.struct fs), .agg c => match fs[i]? with
    | some f => partS T f.type c (.lit f.offset)
    | none => X.none
  | _, _ => X.none
theorem fieldS_ok {F : Nat → Prop} {w0 : World} {E : Env} {P : Program} (T : Tab P) (t : Nat) (x : SV) (i : Nat) (m : Mem) (w : World) :
    GX F w0 E (fieldS T t x i) m w fun v w' => w' = w ∧ (Instr.field t (dv E x) i).run P w = .ok (dv E v) w := by
  unfold fieldS
  split
  · rename_i fs c hu
    split
    · rename_i f hf
      refine (partS_ok T f.type c _ m w).mono fun v w' h => ⟨h.1, ?_⟩
      have e : dv E (.agg c) = .agg (dl E c).toArray := rfl
      have h2 := h.2
      rw [ev_lit, Int.toNat_natCast] at h2
      rw [e]
      simp only [Instr.field, Sem.run_bind, run_underlying (T.under_ok _ _ hu), Result.andThen_ok, hf, asAgg, Sem.run_pure, h2]
    · exact GX.none
  · exact GX.none

noncomputable def indexS {P : Program} (T : Tab P) (t : Nat) (x i : SV) : X SV :=
  match T.under t, x, i with
  | some (.array n elem), .agg c, .int _ e => match sizeIn T elem with
    | some z => withKnow fun kn => if nonneg kn e = true ∧ isLt kn e (.lit n) = true then partS T elem c (mkMul e (.lit z)) else X.none
    | none => X.none
  | _, _, _ => X.none
theorem indexS_ok {F : Nat → Prop} {w0 : World} {E : Env} {P : Program} (T : Tab P) (t : Nat) (x i : SV) (m : Mem) (w : World) :
    GX F w0 E (indexS T t x i) m w fun v w' => w' = w ∧ (Instr.index t (dv E x) (dv E i)).run P w = .ok (dv E v) w := by
  unfold indexS
  split
  · rename_i n elem c kk e hu
    split
    · rename_i z hz
      refine GX.withKnow fun hk => ?_
      split
      · rename_i hh
        have h1 := nonneg_ok hk hh.1
        have h2 := isLt_ok hk hh.2
        rw [ev_lit] at h2
        refine (partS_ok T elem c _ m w).mono fun v w' h => ⟨h.1, ?_⟩
        have e1 : dv E (.agg c) = .agg (dl E c).toArray := rfl
        have e2 : dv E (.int kk e) = .int kk (ev E e) := rfl
        have h3 := h.2
        rw [mkMul_ok, ev_lit, show (ev E e * (z : Int)).toNat = (ev E e).toNat * z by
          rw [Int.toNat_mul h1 (by omega), Int.toNat_natCast]] at h3
        rw [e1, e2]
        simp only [Instr.index, asIntOf, Sem.run_bind, Sem.run_pure, Result.andThen_ok, run_underlying (T.under_ok _ _ hu), Sem.run_ite]
        rw [if_pos ⟨h1, h2⟩]
        simp only [run_sizeOf hz, Result.andThen_ok, h3]
      · exact GX.none
    · exact GX.none
  · exact GX.none

/-- the values of a tuple -/
def listOf : SV → Option (List SV)
  | .nil => some []
  | .cons a r => if a.isV then match listOf r with
    | some l => some (a :: l)
    | none => none else none
  | _ => none
theorem listOf_ok (E : Env) : ∀ (c : SV) (l : List SV), listOf c = some l → dl E c = l.map (dv E) := by
  intro c
  induction c with
  | nil => intro l h; cases h; rfl
  | cons a r _ ih =>
    intro l h
    unfold listOf at h
    split at h
    · rename_i ha
      split at h
      · rename_i l' hl
        cases h
        simp only [dl, dl_isV E ha, ih _ hl, List.map_cons, List.singleton_append]
      · cases h
    · cases h
  | _ => intro l h; simp [listOf] at h
def extractS (x : SV) (i : Nat) : Option SV :=
  match x with
  | .tup c => match listOf c with
    | some l => l[i]?
    | none => none
  | _ => none
theorem extractS_ok {E : Env} {P : Program} {x r : SV} {i : Nat} (h : extractS x i = some r) (w : World) : (Instr.extract (dv E x) i).run P w = .ok (dv E r) w := by
  unfold extractS at h
  split at h
  · rename_i c
    split at h
    · rename_i l hl
      have e : dv E (.tup c) = .tuple (dl E c).toArray := rfl
      rw [e, listOf_ok E c l hl]
      simp [Instr.extract, h]
    · cases h
  · cases h

def makeIfaceS {P : Program} (T : Tab P) (t : Nat) (x : SV) : Option SV :=
  match T.under t with
  | some (.interface _) => none
  | some _ => if x.isV then some (.ifc t x) else none
  | none => none
theorem makeIfaceS_ok {E : Env} {P : Program} {T : Tab P} {t : Nat} {x r : SV} (h : makeIfaceS T t x = some r) (w : World) : (Instr.makeInterface t (dv E x)).run P w = .ok (dv E r) w := by
  unfold makeIfaceS at h
  split at h
  · cases h
  · rename_i d hne hu
    split at h
    · cases h
      simp only [Instr.makeInterface, Sem.run_bind, run_underlying (T.under_ok _ _ hu), Result.andThen_ok]
      cases d <;> first | exact (hne _ rfl).elim | rfl
    · cases h
  · cases h

theorem dv_tup2 (E : Env) {v : SV} (hv : v.isV = true) (b : Bool) : dv E (.tup (.cons v (.cons (.bool (.lit b)) .nil))) = .tuple #[dv E v, .bool b] := by
  show Value.tuple (dl E v ++ [Value.bool b]).toArray = _
  rw [dl_isV E hv]
  rfl
def typeAssertS {P : Program} (T : Tab P) (x : SV) (_xt t : Nat) (ok : Bool) : Option SV :=
  match T.under t with
  | some (.interface _) => none
  | some _ => match x with
    | .ifc t' v => if t' = t then (if v.isV then some (if ok then .tup (.cons v (.cons (.bool (.lit true)) .nil)) else v) else none)
      else if ok then match T.zero t with
        | some z => if z.isV then some (.tup (.cons z (.cons (.bool (.lit false)) .nil))) else none
        | none => none
      else none
    | .nili => if ok then match T.zero t with
        | some z => if z.isV then some (.tup (.cons z (.cons (.bool (.lit false)) .nil))) else none
        | none => none
      else none
    | _ => none
  | none => none
theorem typeAssertS_ok {E : Env} {P : Program} {T : Tab P} {x r : SV} {xt t : Nat} {ok : Bool} (h : typeAssertS T x xt t ok = some r) (w : World) :
    (Instr.typeAssert (dv E x) xt t ok).run P w = .ok (dv E r) w := by
  unfold typeAssertS at h
  split at h
  · cases h
  · rename_i d hne hu
    have hd : ∀ ms, d ≠ .interface ms := fun ms h => hne ms h
    split at h
    · rename_i t' v
      have e : dv E (.ifc t' v) = .iface t' (dv E v) := rfl
      rw [e]
      split at h
      · rename_i ht
        subst ht
        split at h
        · rename_i hv
          cases h
          cases d <;> first | exact absurd rfl (hd _) | (simp only [Instr.typeAssert, Sem.run_bind, run_underlying (T.under_ok _ _ hu), Result.andThen_ok, if_true, Sem.run_pure]; cases ok <;> first | rfl | exact congrArg (Result.ok · w) (dv_tup2 E hv true).symm)
        · cases h
      · rename_i ht
        split at h
        · rename_i hok
          subst hok
          split at h
          · rename_i z hz
            split at h
            · rename_i hv
              cases h
              have hzero := zeroS_ok (T.zero_ok _ _ hz) E w
              cases d <;> first | exact absurd rfl (hd _) | (simp only [Instr.typeAssert, Sem.run_bind, run_underlying (T.under_ok _ _ hu), Result.andThen_ok, ht, if_false, if_true, hzero, Sem.run_pure]; exact congrArg (Result.ok · w) (dv_tup2 E hv false).symm)
            · cases h
          · cases h
        · cases h
    · have e : dv E .nili = .nilIface := rfl
      rw [e]
      split at h
      · rename_i hok
        subst hok
        split at h
        · rename_i z hz
          split at h
          · rename_i hv
            cases h
            have hzero := zeroS_ok (T.zero_ok _ _ hz) E w
            cases d <;> first | exact absurd rfl (hd _) | (simp only [Instr.typeAssert, Sem.run_bind, run_underlying (T.under_ok _ _ hu), Result.andThen_ok, if_true, hzero, Sem.run_pure]; exact congrArg (Result.ok · w) (dv_tup2 E hv false).symm)
          · cases h
        · cases h
      · cases h
    · cases h
  · cases h

def convertS {P : Program} (T : Tab P) (kn : Know) (src dst : Nat) (x : SV) : Option SV :=
  match T.under src, T.under dst, x with
  | some _, some (.int k), .int _ e => some (.int k (mkWrap kn.facts k e))
  | _, _, _ => none
theorem convertS_ok {E : Env} {P : Program} {T : Tab P} {kn : Know} (h : KnowOk E kn) {src dst : Nat} {x r : SV} (hr : convertS T kn src dst x = some r) (w : World) :
    (convert src dst (dv E x)).run P w = .ok (dv E r) w := by
  unfold convertS at hr
  split at hr
  · rename_i d k k' e hs hd
    cases hr
    have e1 : dv E (.int k' e) = .int k' (ev E e) := rfl
    rw [e1]
    simp only [convert, Sem.run_bind, run_underlying (T.under_ok _ _ hs), run_underlying (T.under_ok _ _ hd), Result.andThen_ok, Conv.intToInt, Sem.run_pure, ← mkWrap_ok h.env h.facts]
    rfl
  · cases hr

def unOpS (kn : Know) (op : UnOp) (x : SV) : Option SV :=
  match op, x with
  | .not, .bool b => some (.bool (mkNot b))
  | .neg, .int k e => some (.int k (mkWrap kn.facts k (mkSub (.lit 0) e)))
  | _, _ => none
theorem unOpS_ok {E : Env} {P : Program} {kn : Know} (h : KnowOk E kn) {op : UnOp} {x r : SV} (hr : unOpS kn op x = some r) (w : World) :
    (Op.unary op (dv E x)).run P w = .ok (dv E r) w := by
  unfold unOpS at hr
  split at hr
  · cases hr; simp [Op.unary, dv, dl, mkNot_ok]
  · cases hr; simp [Op.unary, Op.intArith, dv, dl, mkWrap_ok h.env h.facts, mkSub_ok, ev_lit]
  · cases hr

def nilCheckS (x : SV) : Option SV :=
  match x with
  | .ptr _ _ _ => some x
  | .ifc _ _ => some x
  | .fn _ _ => some x
  | _ => none
def chainOf : List SV → Option SV
  | [] => some .nil
  | v :: r => if v.isV then match chainOf r with
    | some c => some (.cons v c)
    | none => none else none
theorem chainOf_ok (E : Env) : ∀ (l : List SV) (c : SV), chainOf l = some c → dl E c = l.map (dv E) := by
  intro l
  induction l with
  | nil => intro c h; cases h; rfl
  | cons a r ih =>
    intro c h
    unfold chainOf at h
    split at h
    · rename_i ha
      split at h
      · rename_i c' hc
        cases h
        simp only [dl, dl_isV E ha, ih _ hc, List.map_cons, List.singleton_append]
      · cases h
    · cases h
end Go.Sx
