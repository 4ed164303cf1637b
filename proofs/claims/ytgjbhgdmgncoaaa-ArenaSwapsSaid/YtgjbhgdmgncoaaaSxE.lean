/- The executor's operations, 2: equality, and all together. -/
import Derived.Test.YtgjbhgdmgncoaaaSxD
namespace Go.Sx
open Go

/-- are two cells equal? what a type's == says of them -/
def eqCell {P : Program} (T : Tab P) (kn : Know) (t : Nat) (x y : SV) : Option BE :=
  match T.under t, x, y with
  | some (.int _), .int k a, .int k' b => if k = k' then some (mkEq kn a b) else none
  | some .bool, .bool a, .bool b => match a, b with
    | .lit c, b => some (if c then b else mkNot b)
    | a, .lit c => some (if c then a else mkNot a)
    | a, b => if a = b then some (.lit true) else none
  | some (.pointer _), .nilp, .nilp => some (.lit true)
  | some (.pointer _), .nilp, .ptr _ _ _ => some (.lit false)
  | some (.pointer _), .ptr _ _ _, .nilp => some (.lit false)
  | some (.slice _), .nils, .nils => some (.lit true)
  | some (.slice _), .nils, .sli _ _ _ _ _ => some (.lit false)
  | some (.slice _), .sli _ _ _ _ _, .nils => some (.lit false)
  | some (.interface _), .nili, .nili => some (.lit true)
  | some (.interface _), .nili, .ifc _ _ => some (.lit false)
  | some (.interface _), .ifc _ _, .nili => some (.lit false)
  | some (.func _ _ _), .nilf, .nilf => some (.lit true)
  | some (.func _ _ _), .nilf, .fn _ _ => some (.lit false)
  | some (.func _ _ _), .fn _ _, .nilf => some (.lit false)
  | _, _, _ => none
theorem eqCell_ok {E : Env} {kn : Know} (h : KnowOk E kn) {P : Program} {T : Tab P} {t : Nat} {x y : SV} {c : BE} (hc : eqCell T kn t x y = some c) (d : Nat) (w : World) :
    (Op.equalIn (d + 1) t (dv E x) (dv E y)).run P w = .ok (evB E c) w := by
  unfold eqCell at hc
  split at hc
  · rename_i hu
    split at hc
    · cases hc; subst_vars; simp [Op.equalIn, run_underlying (T.under_ok _ _ hu), dv, dl, mkEq_ok h, b_eq]
    · cases hc
  · rename_i hu
    split at hc
    · cases hc
      rename_i b _ _ c'
      cases c' <;> simp [Op.equalIn, run_underlying (T.under_ok _ _ hu), dv, dl, evB, mkNot_ok]
    · rename_i c' _
      cases hc
      cases c' <;> simp [Op.equalIn, run_underlying (T.under_ok _ _ hu), dv, dl, evB, mkNot_ok]
    · split at hc
      · cases hc; subst_vars; simp [Op.equalIn, run_underlying (T.under_ok _ _ hu), dv, dl, evB]
      · cases hc
  all_goals first
    | (rename_i hu; cases hc; simp [Op.equalIn, run_underlying (T.under_ok _ _ hu), dv, dl, evB]; done)
    | cases hc

/-- fields, one after the other -/
noncomputable def eqFieldsS {P : Program} (T : Tab P) (xs ys : SV) : List (Nat × Nat) → X BE
  | [] => X.pure (.lit true)
  | f :: fs =>
      match aggOf T f.2 with
      | some false => X.bind (getC xs (.lit f.1)) fun a => X.bind (getC ys (.lit f.1)) fun b => withKnow fun kn => X.bind (X.ofOption (eqCell T kn f.2 a b)) fun c =>
        X.bind (branch c) fun r => if r then eqFieldsS T xs ys fs else X.pure (.lit false)
      | _ => X.none
theorem run_part {P : Program} {T : Tab P} {t off : Nat} (ht : aggOf T t = some false) {cs : List Value} {v : Value} (h : cs[off]? = some v) (w : World) : (part t cs.toArray off).run P w = .ok v w := by
  simp [part, run_isAgg ht, h]
theorem eqFieldsS_ok {F : Nat → Prop} {w0 : World} {E : Env} {P : Program} (T : Tab P) (xs ys : SV) (d : Nat) : ∀ (fs : List Field) (m : Mem) (w : World),
    GX F w0 E (eqFieldsS T xs ys ((fs.filter fun f => f.name != "_").map fun f => (f.offset, f.type))) m w fun c w' => w' = w ∧ (Op.eqFields (d + 1) (dl E xs).toArray (dl E ys).toArray fs).run P w = .ok (evB E c) w := by
  intro fs
  induction fs with
  | nil => intro m w; exact GX.pure fun _ => ⟨rfl, rfl⟩
  | cons f fs ih =>
    intro m w
    by_cases hn : f.name ≠ "_"
    · rw [List.filter_cons_of_pos (by simpa using hn), List.map_cons]
      unfold eqFieldsS
      split
      · rename_i ht
        dsimp only at ht
        refine GX.bind (getC_ok xs _ m w) ?_
        rintro a m1 w1 ⟨rfl, _, _, ha⟩
        refine GX.bind (getC_ok ys _ m1 w1) ?_
        rintro b m2 w2 ⟨rfl, _, _, hb⟩
        rw [ev_lit, Int.toNat_natCast] at ha hb
        dsimp only at ha hb
        refine GX.withKnow fun hk => GX.bind (GX.ofOption (Q := fun c w' => w' = w2 ∧ eqCell T m2.know f.type a b = some c) fun _ h => ⟨rfl, h⟩) ?_
        rintro c m3 w3 ⟨rfl, hc⟩
        have he := eqCell_ok hk hc d w3
        refine GX.bind (branch_ok c m3 w3) ?_
        rintro r m4 w4 ⟨rfl, hr⟩
        have hrun : ∀ (z : Result Bool), (evB E c = true → (Op.eqFields (d + 1) (dl E xs).toArray (dl E ys).toArray fs).run P w4 = z) → (evB E c = false → z = .ok false w4) →
            (Op.eqFields (d + 1) (dl E xs).toArray (dl E ys).toArray (f :: fs)).run P w4 = z := by
          intro z h1 h2
          simp only [Op.eqFields]
          rw [if_pos hn]
          simp only [Sem.run_bind, run_part ht ha, run_part ht hb, Result.andThen_ok, he, Sem.run_ite]
          cases hcv : evB E c with
          | true => simpa using h1 hcv
          | false => simp [h2 hcv]
        split
        · rename_i hr1
          refine (ih m4 w4).mono fun c' w' h => ⟨h.1, hrun _ (fun _ => h.2) (fun hf => ?_)⟩
          rw [← hr, hr1] at hf; cases hf
        · rename_i hr1
          refine GX.pure fun _ => ⟨rfl, hrun _ (fun ht' => ?_) (fun _ => rfl)⟩
          rw [← hr] at ht'; exact absurd ht' hr1
      · exact GX.none
    · rw [List.filter_cons_of_neg (by simpa using hn)]
      refine (ih m w).mono fun c w' h => ⟨h.1, ?_⟩
      simp only [Op.eqFields]
      rw [if_neg hn]
      exact h.2

noncomputable def eqS {P : Program} (T : Tab P) (t : Nat) (x y : SV) : X BE :=
  match x, y with
  | .agg xs, .agg ys => match T.eqs t with
    | some l => eqFieldsS T xs ys l
    | none => X.none
  | x, y => if x.isC && y.isC then withKnow fun kn => X.ofOption (eqCell T kn t x y) else X.none
theorem eqS_ok {F : Nat → Prop} {w0 : World} {E : Env} {P : Program} (T : Tab P) (t : Nat) (x y : SV) (m : Mem) (w : World) :
    GX F w0 E (eqS T t x y) m w fun c w' => w' = w ∧ (Op.equal t (dv E x) (dv E y)).run P w = .ok (evB E c) w ∧
      ((∃ xs ys, x = .agg xs ∧ y = .agg ys ∧ P.eqGuardType P.depth t = false) ∨ (x.isC = true ∧ y.isC = true)) := by
  unfold eqS
  split
  · rename_i xs ys
    split
    · rename_i l hl
      replace hl := T.eqs_ok _ _ hl
      unfold eqPlan at hl
      split at hl
      · rename_i fs hu
        split at hl
        · rename_i hh
          cases hl
          refine (eqFieldsS_ok T xs ys 9998 fs.toList m w).mono fun c w' h => ⟨h.1, ?_, .inl ⟨xs, ys, rfl, rfl, hh.2⟩⟩
          have hu' : P.underlying t = some (.struct (P.fieldsOf t)) := by simp [Program.fieldsOf, hu]
          have hfs : P.fieldsOf t = fs := by simp [Program.fieldsOf, hu]
          show (Op.equalIn (9999 + 1) t (.agg (dl E xs).toArray) (.agg (dl E ys).toArray)).run P w = _
          rw [run_equalIn_struct w 9999 t _ _ hu' hh.1, hfs]
          exact h.2
        · cases hl
      · cases hl
    · exact GX.none
  · split
    · rename_i hh
      simp only [Bool.and_eq_true] at hh
      exact GX.withKnow fun hk => GX.ofOption fun c hc => ⟨rfl, eqCell_ok hk hc 9999 w, .inr hh⟩
    · exact GX.none

def isConstOp : Operand → Bool | .const _ => true | _ => false
/-- the arms of binOp that are no numbers' -/
noncomputable def binS {P : Program} (T : Tab P) (op : BinOp) (t : Nat) (ox oy : Operand) (x y : SV) : X SV :=
  match op, x, y with
  | .shl, .int k a, .int _ (.lit z) => withKnow fun kn => if 0 ≤ z then X.pure (.int k (mkWrap kn.facts k (mkMul a (.lit (2 ^ (min z.toNat k.bits)))))) else X.none
  | .shr, .int k a, .int _ (.lit z) => if 0 ≤ z then X.pure (.int k (mkShr a (min z.toNat k.bits))) else X.none
  | .shl, _, _ => X.none
  | .shr, _, _ => X.none
  | op, .int k a, .int k' b => withKnow fun kn => if k = k' then X.ofOption (intBin kn op k a b) else X.none
  | .eql, .int _ _, _ => X.none
  | .neq, .int _ _, _ => X.none
  | .eql, x, y => if (x = .nili ∧ y = .nili) ∧ !(isConstOp ox || isConstOp oy) then X.none else X.bind (eqS T t x y) fun c => X.pure (.bool c)
  | .neq, x, y => if (x = .nili ∧ y = .nili) ∧ !(isConstOp ox || isConstOp oy) then X.none else X.bind (eqS T t x y) fun c => X.pure (.bool (mkNot c))
  | _, _, _ => X.none

theorem run_eqGuard_cells {P : Program} (op : BinOp) (t : Nat) (ox oy : Operand) {a b : Value} (ha : Value.isCell a = true) (hb : Value.isCell b = true)
    (hn : (a = .nilIface ∧ b = .nilIface) → (isConstOp ox || isConstOp oy) = true) (w : World) : (eqGuard op t ox oy a b).run P w = .ok () w := by
  unfold eqGuard
  cases op <;> first | rfl | skip
  all_goals
    cases a <;> first | (simp [Value.isCell] at ha; done) | skip
    all_goals (cases b <;> first | (simp [Value.isCell] at hb; done) | rfl | skip)
    all_goals (cases ox <;> cases oy <;> first | rfl | (exfalso; simp [isConstOp] at hn; done))
theorem dv_nili {E : Env} {x : SV} (hx : x.isC = true) (h : dv E x = .nilIface) : x = .nili := by
  cases x <;> simp_all [SV.isC, dv, dl]

theorem run_eql {E : Env} {P : Program} {t : Nat} {x : SV} {y : Value} {b : Bool} {w : World} (hx : (∃ c, x = .agg c) ∨ x.isC = true) (hni : ∀ k a, x ≠ .int k a)
    (h : (Op.equal t (dv E x) y).run P w = .ok b w) : (binOp .eql t (dv E x) y).run P w = .ok (.bool b) w ∧ (binOp .neq t (dv E x) y).run P w = .ok (.bool (!b)) w := by
  rcases hx with ⟨c, rfl⟩ | hx
  · have e : dv E (.agg c) = .agg (dl E c).toArray := rfl
    rw [e] at h ⊢
    constructor <;> simp [binOp, h]
  · cases x <;> first | (simp [SV.isC] at hx; done) | (exact absurd rfl (hni _ _)) | skip
    all_goals
      simp only [dv, dl, List.headD_cons] at h ⊢
      constructor <;> simp only [binOp, Sem.run_bind, h, Result.andThen_ok, Sem.run_pure]
theorem binS_ok {F : Nat → Prop} {w0 : World} {E : Env} {P : Program} (T : Tab P) (op : BinOp) (t : Nat) (ox oy : Operand) (x y : SV) (m : Mem) (w : World) :
    GX F w0 E (binS T op t ox oy x y) m w fun v w' => w' = w ∧ (do eqGuard op t ox oy (dv E x) (dv E y); binOp op t (dv E x) (dv E y) : Sem Value).run P w = .ok (dv E v) w := by
  have cellsGuard : ∀ (k k' : IntKind) (a b : Int) (w : World), (eqGuard op t ox oy (.int k a) (.int k' b)).run P w = .ok () w := fun k k' a b w =>
    run_eqGuard_cells op t ox oy rfl rfl (fun h => by cases h.1) w
  unfold binS
  split
  · rename_i k a k' z
    refine GX.withKnow fun hk => ?_
    split
    · rename_i hz
      refine GX.pure fun _ => ⟨rfl, ?_⟩
      have e1 : dv E (.int k a) = .int k (ev E a) := rfl
      have e2 : dv E (.int k' (.lit z)) = .int k' z := rfl
      rw [e1, e2]
      simp only [Sem.run_bind, cellsGuard, Result.andThen_ok, binOp, Op.shift]
      rw [if_neg (by omega)]
      simp [dv, dl, mkWrap_ok hk.env hk.facts, mkMul_ok, ev_lit]
    · exact GX.none
  · rename_i k a k' z
    split
    · rename_i hz
      refine GX.pure fun _ => ⟨rfl, ?_⟩
      have e1 : dv E (.int k a) = .int k (ev E a) := rfl
      have e2 : dv E (.int k' (.lit z)) = .int k' z := rfl
      rw [e1, e2]
      simp only [Sem.run_bind, cellsGuard, Result.andThen_ok, binOp, Op.shift]
      rw [if_neg (by omega)]
      simp [dv, dl, mkShr_ok]
    · exact GX.none
  · exact GX.none
  · exact GX.none
  · rename_i k a k' b _ _ _ _
    refine GX.withKnow fun hk => ?_
    split
    · rename_i hkk
      subst hkk
      refine GX.ofOption fun r hr => ⟨rfl, ?_⟩
      have e1 : dv E (.int k a) = .int k (ev E a) := rfl
      have e2 : dv E (.int k b) = .int k (ev E b) := rfl
      rw [e1, e2]
      simp only [Sem.run_bind, cellsGuard, Result.andThen_ok]
      exact intBin_ok hk hr t w
    · exact GX.none
  · exact GX.none
  · exact GX.none
  · rename_i hni _
    split
    · exact GX.none
    · rename_i hnn
      refine GX.bind (eqS_ok T t x y m w) ?_
      rintro c m1 w1 ⟨rfl, hrun, hcase⟩
      refine GX.pure fun _ => ⟨rfl, ?_⟩
      have hg : (eqGuard .eql t ox oy (dv E x) (dv E y)).run P w1 = .ok () w1 := by
        rcases hcase with ⟨xs, ys, rfl, rfl, hm⟩ | ⟨hx, hy⟩
        · exact run_eqGuard_agg w1 _ t ox oy _ _ hm
        · refine run_eqGuard_cells _ t ox oy (dv_isC E hx) (dv_isC E hy) (fun h => ?_) w1
          have p := dv_nili hx h.1
          have q := dv_nili hy h.2
          exact Decidable.by_contra fun hc => hnn ⟨⟨p, q⟩, by simpa using hc⟩
      have hx : (∃ c, x = .agg c) ∨ x.isC = true := by
        rcases hcase with ⟨xs, ys, rfl, rfl, hm⟩ | ⟨hx, hy⟩
        · exact .inl ⟨_, rfl⟩
        · exact .inr hx
      simp only [Sem.run_bind, hg, Result.andThen_ok]
      rw [(run_eql hx (fun k a h => hni k a h) hrun).1]
      rfl
  · rename_i hni _
    split
    · exact GX.none
    · rename_i hnn
      refine GX.bind (eqS_ok T t x y m w) ?_
      rintro c m1 w1 ⟨rfl, hrun, hcase⟩
      refine GX.pure fun _ => ⟨rfl, ?_⟩
      have hg : (eqGuard .neq t ox oy (dv E x) (dv E y)).run P w1 = .ok () w1 := by
        rcases hcase with ⟨xs, ys, rfl, rfl, hm⟩ | ⟨hx, hy⟩
        · exact run_eqGuard_agg w1 _ t ox oy _ _ hm
        · refine run_eqGuard_cells _ t ox oy (dv_isC E hx) (dv_isC E hy) (fun h => ?_) w1
          have p := dv_nili hx h.1
          have q := dv_nili hy h.2
          exact Decidable.by_contra fun hc => hnn ⟨⟨p, q⟩, by simpa using hc⟩
      have hx : (∃ c, x = .agg c) ∨ x.isC = true := by
        rcases hcase with ⟨xs, ys, rfl, rfl, hm⟩ | ⟨hx, hy⟩
        · exact .inl ⟨_, rfl⟩
        · exact .inr hx
      simp only [Sem.run_bind, hg, Result.andThen_ok]
      rw [(run_eql hx (fun k a h => hni k a h) hrun).2]
      simp [dv, dl, mkNot_ok]
  · exact GX.none
end Go.Sx
