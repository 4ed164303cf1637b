/- The executor made fast, 6a: rows compared. -/
import Derived.Test.YthhjijadllpcpaaSyF
namespace Go.Sx
open Go

abbrev Leaf := Nat × Nat × Nat
abbrev EqxT := Nat → SV → SV → X BE
abbrev SlowT := SV → SV → List Leaf → X BE
abbrev BEK := BE → Mem → R
abbrev EqKT := EqxT → SlowT → SV → SV → Mem → BEK → R
noncomputable def brQ (c : BE) (m : Mem) (k : Bool → Mem → R) : R :=
  BE.rec (motive := fun _ => BE → Mem → (Bool → Mem → R) → R) (fun b _ m k => k b m) (fun _ c m k => bindR (branch c m) k) (fun _ _ c m k => bindR (branch c m) k) (fun _ _ c m k => bindR (branch c m) k) (fun _ _ c m k => bindR (branch c m) k) c c m k
theorem brQ_eq (c : BE) (m : Mem) (k : Bool → Mem → R) : brQ c m k = bindR (branch c m) k := by cases c <;> rfl
noncomputable def eq5 (ih : EqKT) (ex : EqxT) (sl : SlowT) (xs ys : SV) (K : BEK) (r : Bool) (m : Mem) : R :=
  Bool.rec (motive := fun _ => EqKT → EqxT → SlowT → SV → SV → Mem → BEK → R) (fun _ _ _ _ _ m K => K (.lit false) m) (fun ih ex sl xs ys m K => ih ex sl xs ys m K) r ih ex sl xs ys m K
noncomputable def eq4 (ih : EqKT) (ex : EqxT) (sl : SlowT) (xs ys : SV) (K : BEK) (c : BE) (m : Mem) : R := brQ c m (eq5 ih ex sl xs ys K)
noncomputable def eqI (a b : SV) : Bool := vbInt a fun k e => vbInt b fun k' e' => andB (Nat.beq (kindNo k) (kindNo k')) (ieEq e e')
noncomputable def eqB (a b : SV) : Bool := vbBool a fun e => vbBool b fun e' => beEq e e'
noncomputable def same1 (kd : Nat) (a b : SV) : Bool := Nat.rec (motive := fun _ => SV → SV → Bool) (fun _ _ => false) (fun n _ a b => Nat.rec (motive := fun _ => SV → SV → Bool) (fun a b => eqI a b) (fun _ _ a b => eqB a b) n a b) kd a b
noncomputable def eq3 (ih : EqKT) (ex : EqxT) (sl : SlowT) (xs ys : SV) (m : Mem) (K : BEK) (t kd : Nat) (a b : SV) : R := yes (same1 kd a b) (ih ex sl xs ys m K) (bindR (ex t a b m) (eq4 ih ex sl xs ys K))
noncomputable def eq2 (ih : EqKT) (ex : EqxT) (sl : SlowT) (xs ys : SV) (m : Mem) (K : BEK) (N : R) (off t kd : Nat) (a : SV) : R := getNK ys off (eq3 ih ex sl xs ys m K t kd a) N
noncomputable def eq1 (ih : EqKT) (ex : EqxT) (sl : SlowT) (xs ys : SV) (m : Mem) (K : BEK) (N : R) (off t kd : Nat) : R := getNK xs off (eq2 ih ex sl xs ys m K N off t kd) N
noncomputable def eqK (l : List Leaf) : EqKT :=
  List.rec (motive := fun _ => EqKT) (fun _ _ _ _ m K => K (.lit true) m)
    (fun p r ih ex sl xs ys m K => Prod.rec (motive := fun _ => List Leaf → Leaf → EqKT → EqKT) (fun off q r p ih ex sl xs ys m K => Prod.rec (motive := fun _ => Nat → R → EqKT → EqKT) (fun t kd off N ih ex sl xs ys m K => eq1 ih ex sl xs ys m K N off t kd) q off (bindR (sl xs ys (p :: r) m) K) ih ex sl xs ys m K) p r p ih ex sl xs ys m K) l
/-- what kind of cell a leaf is: 1 a number, 2 a bool, 0 neither -/
def leafKind {P : Program} (T : Tab P) (t : Nat) : Nat := match T.under t with
  | some (.int _) => 1
  | some .bool => 2
  | _ => 0
def leafOf {P : Program} (T : Tab P) (p : Nat × Nat) : Leaf := (p.1, p.2, leafKind T p.2)
noncomputable def slowOf {P : Program} (T : Tab P) : SlowT := fun xs ys l => eqFieldsS T xs ys (l.map fun p => (p.1, p.2.1))
theorem eqI_ok {a b : SV} (h : eqI a b = true) : ∃ k e, a = .int k e ∧ b = .int k e := by
  obtain ⟨k, e, rfl, h⟩ := vbInt_ok (vv := a) h
  obtain ⟨k', e', rfl, h⟩ := vbInt_ok (vv := b) h
  obtain ⟨h1, h2⟩ := andB_ok h
  rw [kindNo_eq h1, ieEq_ok h2]
  exact ⟨_, _, rfl, rfl⟩
theorem eqB_ok {a b : SV} (h : eqB a b = true) : ∃ e, a = .bool e ∧ b = .bool e := by
  obtain ⟨e, rfl, h⟩ := vbBool_ok (vv := a) h
  obtain ⟨e', rfl, h⟩ := vbBool_ok (vv := b) h
  rw [beEq_ok h]
  exact ⟨_, rfl, rfl⟩
theorem mkEq_same (kn : Know) (e : IE) : mkEq kn e e = .lit true := by
  unfold mkEq
  split
  · simp
  · rw [if_pos rfl]
theorem same1_ok {P : Program} {T : Tab P} {t : Nat} {a b : SV} (h : same1 (leafKind T t) a b = true) (m : Mem) : eqX T t a b m = some [(.lit true, m)] := by
  unfold leafKind at h
  cases hu : T.under t with
  | none => rw [hu] at h; cases h
  | some d =>
    rw [hu] at h
    cases d <;> first | (cases h; done) | skip
    case bool =>
      obtain ⟨e, rfl, rfl⟩ := eqB_ok (show eqB a b = true from h)
      unfold eqX
      rw [hu]
      dsimp only
      rw [if_pos rfl]
      rfl
    case int k =>
      obtain ⟨k', e, rfl, rfl⟩ := eqI_ok (show eqI a b = true from h)
      unfold eqX
      rw [hu]
      show (X.ofOption (eqCell T m.know t (.int k' e) (.int k' e))) m = _
      unfold eqCell
      rw [hu]
      dsimp only
      rw [if_pos rfl, mkEq_same]
      rfl
theorem eqK_eq {P : Program} (T : Tab P) : ∀ (l : List (Nat × Nat)) (xs ys : SV) (m : Mem) (K : BEK), eqK (l.map (leafOf T)) (eqX T) (slowOf T) xs ys m K = bindR (eqFieldsS T xs ys l m) K
  | [], xs, ys, m, K => rfl
  | (off, t) :: l, xs, ys, m, K => by
    have hs : slowOf T xs ys (leafOf T (off, t) :: l.map (leafOf T)) = eqFieldsS T xs ys ((off, t) :: l) := by
      unfold slowOf
      rw [List.map_cons, List.map_map]
      congr 1
      show (off, t) :: l.map _ = _
      congr 1
      exact List.map_id' l
    show eq1 (eqK (l.map (leafOf T))) (eqX T) (slowOf T) xs ys m K (bindR (slowOf T xs ys (leafOf T (off, t) :: l.map (leafOf T)) m) K) off t (leafKind T t) = _
    rw [hs]
    unfold eq1
    rcases getNK_at xs off (eq2 (eqK (l.map (leafOf T))) (eqX T) (slowOf T) xs ys m K (bindR (eqFieldsS T xs ys ((off, t) :: l) m) K) off t (leafKind T t)) (bindR (eqFieldsS T xs ys ((off, t) :: l) m) K) with e | ⟨a, ha, e⟩
    · exact e
    · rw [e]
      unfold eq2
      rcases getNK_at ys off (eq3 (eqK (l.map (leafOf T))) (eqX T) (slowOf T) xs ys m K t (leafKind T t) a) (bindR (eqFieldsS T xs ys ((off, t) :: l) m) K) with e | ⟨b, hb, e⟩
      · exact e
      · rw [e]
        have step : bindR (eqFieldsS T xs ys ((off, t) :: l) m) K = bindR (eqX T t a b m) (eq4 (eqK (l.map (leafOf T))) (eqX T) (slowOf T) xs ys K) := by
          show bindR (X.bind (getC xs (.lit off)) (fun a => X.bind (getC ys (.lit off)) fun b => X.bind (eqX T t a b) fun c => X.bind (branch c) fun r => if r then eqFieldsS T xs ys l else X.pure (.lit false)) m) K = _
          rw [bind_one (ha m), bind_one (hb m), bindR_bind]
          congr 1
          funext c m'
          rw [bindR_bind]
          show _ = brQ c m' _
          rw [brQ_eq]
          congr 1
          funext r m2
          cases r
          · rfl
          · exact (eqK_eq T l xs ys m2 K).symm
        unfold eq3
        rw [yes_eq]
        split
        · rename_i hsm
          rw [step, same1_ok hsm m, bindR_one]
          show _ = brQ (.lit true) m _
          exact rfl
        · rw [step]
def yesB (b : Bool) (x y : BE) : BE := match b with | true => x | false => y
noncomputable def finQ (ng : Bool) (C : Ctx) (c : BE) (m : Mem) : R :=
  BE.rec (motive := fun _ => Bool → Ctx → BE → Mem → R) (fun b ng C _ m => yes (bEq b ng) (finM C (.bool (.lit false)) m) (finM C (.bool (.lit true)) m))
    (fun _ ng C c m => finM C (.bool (yesB ng (mkNot c) c)) m) (fun _ _ ng C c m => finM C (.bool (yesB ng (mkNot c) c)) m) (fun _ _ ng C c m => finM C (.bool (yesB ng (mkNot c) c)) m) (fun _ _ ng C c m => finM C (.bool (yesB ng (mkNot c) c)) m) c ng C c m
theorem finQ_eq (ng : Bool) (C : Ctx) (c : BE) (m : Mem) : finQ ng C c m = finM C (.bool (if ng then mkNot c else c)) m := by
  cases c with
  | lit b => cases ng <;> cases b <;> rfl
  | _ => cases ng <;> rfl
noncomputable def qa5 (ng : Bool) (l : List Leaf) (ex : EqxT) (sl : SlowT) (xs ys : SV) (C : Ctx) : R := Ctx.rec (motive := fun _ => Bool → List Leaf → EqxT → SlowT → SV → SV → Ctx → R) (fun _ _ _ _ _ m _ ng l ex sl xs ys C => eqK l ex sl xs ys m (finQ ng C)) C ng l ex sl xs ys C
noncomputable def qa4 (ng : Bool) (l : List Leaf) (n : Nat) (ex : EqxT) (sl : SlowT) (xs ys : SV) (C : Ctx) (b : Nat) : R := yes (Nat.beq b n) (qa5 ng l ex sl xs ys C) (fb C)
noncomputable def qa3 (ng : Bool) (l : List Leaf) (n : Nat) (ex : EqxT) (sl : SlowT) (xs ys : SV) (C : Ctx) (a : Nat) : R := yes (Nat.beq a n) (wdK ys 0 (qa4 ng l n ex sl xs ys C) (fb C)) (fb C)
noncomputable def qa2 (ng : Bool) (l : List Leaf) (n : Nat) (ex : EqxT) (sl : SlowT) (C : Ctx) (xs ys : SV) : R := wdK xs 0 (qa3 ng l n ex sl xs ys C) (fb C)
noncomputable def qa1 (ng : Bool) (l : List Leaf) (n : Nat) (ex : EqxT) (sl : SlowT) (C : Ctx) (xs : SV) (w : SV) : R := onAgg w (qa2 ng l n ex sl C xs) (fb C)
noncomputable def qaB (ng : Bool) (l : List Leaf) (n : Nat) (ex : EqxT) (sl : SlowT) (y : CO) (C : Ctx) (xs : SV) : R := opdC y C (qa1 ng l n ex sl C xs)
noncomputable def qa0 (ng : Bool) (l : List Leaf) (n : Nat) (ex : EqxT) (sl : SlowT) (y : CO) (C : Ctx) (v : SV) : R := onAgg v (qaB ng l n ex sl y C) (fb C)
noncomputable def qaK (ng : Bool) (l : List Leaf) (n : Nat) (ex : EqxT) (sl : SlowT) (x y : CO) (C : Ctx) : R := opdC x C (qa0 ng l n ex sl y C)
section
variable {P : Program} {T : Tab P} {cx : CX} {C : Ctx}
theorem Fits.multi (h : Fits T cx C) (ha : appArgs T ⟨C.n, C.t⟩ C.o = none) {x : X SV} (ho : opS T ⟨C.n, C.t⟩ C.o = Sx.valX x) : bindR (x C.m) (fun v m' => finM C v m') = fb C := by
  rw [h.fb_eq, h.step ha, ho, bindR_bind]
  unfold Sx.valX
  rw [bindR_bind]
  congr 1
  funext v m'
  rw [bindR_pure]
  show _ = bindR (putX' ⟨C.n, C.t⟩ C.o.dst v m') C.K
  rw [putX'_eq, bindR_pure, finM_eq C v m' h.d]
theorem qa_ok (h : Fits T cx C) {op : BinOp} {t t' n : Nat} {x y : Operand} {l : List (Nat × Nat)} {ng : Bool} (hop : op = if ng then .neq else .eql) (ho : C.o.op = .binOp op t x y t') (hl : T.eqs t = some l) (hn : sizeIn T t = some n) :
    qaK ng (l.map (leafOf T)) n (eqX T) (slowOf T) (coOf x) (coOf y) C = fb C := by
  unfold qaK
  rw [opdC_eq]
  unfold qa0
  cases hv : (coOf x).of C.t <;> try rfl
  rename_i xs
  show opdC (coOf y) C (qa1 ng (l.map (leafOf T)) n (eqX T) (slowOf T) C xs) = _
  rw [opdC_eq]
  unfold qa1
  cases hw : (coOf y).of C.t <;> try rfl
  rename_i ys
  show qa2 ng (l.map (leafOf T)) n (eqX T) (slowOf T) C xs ys = _
  unfold qa2
  rcases wdK_at xs 0 (qa3 ng (l.map (leafOf T)) n (eqX T) (slowOf T) xs ys C) (fb C) with e | ⟨a, ha, e⟩
  · exact e
  · rw [e]
    unfold qa3
    rw [yes_beq]
    by_cases h1 : 0 + a = n
    · rw [if_pos h1]
      rcases wdK_at ys 0 (qa4 ng (l.map (leafOf T)) n (eqX T) (slowOf T) xs ys C) (fb C) with e2 | ⟨b, hb, e2⟩
      · exact e2
      · rw [e2]
        unfold qa4
        rw [yes_beq]
        by_cases h2 : 0 + b = n
        · rw [if_pos h2]
          show eqK (l.map (leafOf T)) (eqX T) (slowOf T) xs ys C.m (finQ ng C) = _
          rw [eqK_eq]
          have hx : opd ⟨C.n, C.t⟩ x = some (.agg xs) := by rw [coOf_ok (by rw [hv]; exact fun e => (by cases e)), hv]
          have hy : opd ⟨C.n, C.t⟩ y = some (.agg ys) := by rw [coOf_ok (by rw [hw]; exact fun e => (by cases e)), hw]
          have hs : eqS T t (.agg xs) (.agg ys) = eqFieldsS T xs ys l := by
            unfold eqS
            dsimp only
            rw [hl, ha, hb, hn]
            dsimp only
            rw [if_pos ⟨by omega, by omega⟩]
          have hB : opS T ⟨C.n, C.t⟩ C.o = Sx.valX (X.bind (eqFieldsS T xs ys l) fun c => X.pure (.bool (if ng then mkNot c else c))) := by
            unfold opS
            rw [ho]
            dsimp only
            rw [hx, hy]
            dsimp only
            congr 1
            unfold binS
            rw [hop]
            cases ng
            · simp only [Bool.false_eq_true, if_false]
              rw [if_neg (by simp), hs]
            · simp only [if_true]
              rw [if_neg (by simp), hs]
          rw [← h.multi (by unfold appArgs; rw [ho]) hB, bindR_bind]
          congr 1
          funext c m'
          rw [bindR_pure, finQ_eq]
        · rw [if_neg h2]
    · rw [if_neg h1]
end
end Go.Sx
