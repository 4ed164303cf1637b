/- The executor's operations, 2: equality, and all together. -/
import Derived.Test.YthhjijadllpcpaaSxD
namespace Go.Sx
open Go

/-- are two cells equal? what a type's == says of them -/
def eqCell {P : Program} (T : Tab P) (kn : Know) (t : Nat) (x y : SV) : Option BE :=
  match T.under t, x, y with
  | some (.int _), .int k a, .int k' b => if k = k' then some (mkEq kn a b) else none
  | some .bool, .bool a, .bool b => match a, b with
    | .lit c, b => some (if c then b else mkNot b)
    | a, .lit c => some (if c then a else mkNot a)
    | a, b => if a = b then some (.lit true) else none
  | some (.pointer _), .nilp, .nilp => some (.lit true)
  | some (.pointer _), .nilp, .ptr _ _ _ => some (.lit false)
  | some (.pointer _), .ptr _ _ _, .nilp => some (.lit false)
  | some (.slice _), .nils, .nils => some (.lit true)
  | some (.slice _), .nils, .sli _ _ _ _ _ => some (.lit false)
  | some (.slice _), .sli _ _ _ _ _, .nils => some (.lit false)
  | some (.interface _), .nili, .nili => some (.lit true)
  | some (.interface _), .nili, .ifc _ _ => some (.lit false)
  | some (.interface _), .ifc _ _, .nili => some (.lit false)
  | some (.func _ _ _), .nilf, .nilf => some (.lit true)
  | some (.func _ _ _), .nilf, .fn _ _ => some (.lit false)
  | some (.func _ _ _), .fn _ _, .nilf => some (.lit false)
  | _, _, _ => none
theorem eqCell_ok {E : Env} {kn : Know} (h : KnowOk E kn) {P : Program} {T : Tab P} {t : Nat} {x y : SV} {c : BE} (hc : eqCell T kn t x y = some c) (d : Nat) (w : World) :
    (Op.equalIn (d + 1) t (dv E x) (dv E y)).run P w = .ok (evB E c) w := by
  unfold eqCell at hc
  split at hc
  · rename_i hu
    split at hc
    · cases hc; subst_vars; simp [Op.equalIn, run_underlying (T.under_ok _ _ hu), dv, dl, mkEq_ok h, b_eq]
    · cases hc
  · rename_i hu
    split at hc
    · cases hc
      rename_i b _ _ c'
      cases c' <;> simp [Op.equalIn, run_underlying (T.under_ok _ _ hu), dv, dl, evB, mkNot_ok]
    · rename_i c' _
      cases hc
      cases c' <;> simp [Op.equalIn, run_underlying (T.under_ok _ _ hu), dv, dl, evB, mkNot_ok]
    · split at hc
      · cases hc; subst_vars; simp [Op.equalIn, run_underlying (T.under_ok _ _ hu), dv, dl, evB]
      · cases hc
  all_goals first
    | (rename_i hu; cases hc; simp [Op.equalIn, run_underlying (T.under_ok _ _ hu), dv, dl, evB]; done)
    | cases hc

/-- are two cells equal? a way for each answer where both are open -/
noncomputable def eqX {P : Program} (T : Tab P) (t : Nat) (x y : SV) : X BE :=
  match T.under t, x, y with
  | some .bool, .bool a, .bool b => if a = b then X.pure (.lit true) else match a, b with
    | .lit c, b => X.pure (if c then b else mkNot b)
    | a, .lit c => X.pure (if c then a else mkNot a)
    | a, b => X.bind (branch a) fun r => X.pure (if r then b else mkNot b)
  | _, x, y => withKnow fun kn => X.ofOption (eqCell T kn t x y)
theorem eqX_ok {F : Nat → Prop} {w0 : World} {E : Env} {P : Program} (T : Tab P) (t : Nat) (x y : SV) (m : Mem) (w : World) :
    GX F w0 E (eqX T t x y) m w fun c w' => w' = w ∧ ∀ (d : Nat) (w : World), (Op.equalIn (d + 1) t (dv E x) (dv E y)).run P w = .ok (evB E c) w := by
  unfold eqX
  split
  · rename_i a b hu
    have hb : ∀ (d : Nat) (p q : Bool) (w : World), (Op.equalIn (d + 1) t (.bool p) (.bool q)).run P w = .ok (p == q) w := fun d p q w => run_equalIn_bool' w d t p q (T.under_ok _ _ hu)
    have e1 : dv E (.bool a) = .bool (evB E a) := rfl
    have e2 : dv E (.bool b) = .bool (evB E b) := rfl
    split
    · rename_i hab
      refine GX.pure fun _ => ⟨rfl, fun d w => ?_⟩
      rw [e1, e2, hb, hab]
      simp [evB]
    split
    · rename_i c' _
      refine GX.pure fun _ => ⟨rfl, fun d w => ?_⟩
      rw [e1, e2, hb]
      cases c' <;> simp [evB, mkNot_ok]
    · rename_i c _ _
      refine GX.pure fun _ => ⟨rfl, fun d w => ?_⟩
      rw [e1, e2, hb]
      cases c <;> simp [evB, mkNot_ok]
    · refine GX.bind (branch_ok a m w) ?_
      rintro r m1 w1 ⟨rfl, hr⟩
      refine GX.pure fun _ => ⟨rfl, fun d w => ?_⟩
      rw [e1, e2, hb, ← hr]
      cases r <;> simp [mkNot_ok]
  · exact GX.withKnow fun hk => GX.ofOption fun c hc => ⟨rfl, fun d w => eqCell_ok hk hc d w⟩

theorem run_part {P : Program} {T : Tab P} {t off : Nat} (ht : aggOf T t = some false) {cs : List Value} {v : Value} (h : cs[off]? = some v) (w : World) : (part t cs.toArray off).run P w = .ok v w := by
  simp [part, run_isAgg ht, h]
/-- what the leaves say, one after the other, up to the first that parts -/
inductive LeafR (P : Program) (xs ys : Array Value) : List (Nat × Nat) → Bool → Prop where
  | nil : LeafR P xs ys [] true
  | stop {p : Nat × Nat} {l : List (Nat × Nat)} {a b : Value} (ha : xs[p.1]? = some a) (hb : ys[p.1]? = some b) (h : ∀ (d : Nat) (w : World), (Op.equalIn (d + 1) p.2 a b).run P w = .ok false w) : LeafR P xs ys (p :: l) false
  | go {p : Nat × Nat} {l : List (Nat × Nat)} {a b : Value} {r : Bool} (ha : xs[p.1]? = some a) (hb : ys[p.1]? = some b) (h : ∀ (d : Nat) (w : World), (Op.equalIn (d + 1) p.2 a b).run P w = .ok true w) (hr : LeafR P xs ys l r) : LeafR P xs ys (p :: l) r
theorem LeafR.split {P : Program} {xs ys : Array Value} : ∀ {l1 l2 : List (Nat × Nat)} {r : Bool}, LeafR P xs ys (l1 ++ l2) r → (LeafR P xs ys l1 false ∧ r = false) ∨ (LeafR P xs ys l1 true ∧ LeafR P xs ys l2 r) := by
  intro l1
  induction l1 with
  | nil => intro l2 r h; exact .inr ⟨.nil, h⟩
  | cons p l ih =>
    intro l2 r h
    cases h with
    | stop ha hb h => exact .inl ⟨.stop ha hb h, rfl⟩
    | go ha hb h hr =>
      rcases ih hr with ⟨h1, h2⟩ | ⟨h1, h2⟩
      · exact .inl ⟨.go ha hb h h1, h2⟩
      · exact .inr ⟨.go ha hb h h1, h2⟩
theorem part_sub {P : Program} {t o off : Nat} {i : TypeInfo} (hi : P.info? t = some i) {xs : Array Value} {n : Nat} (h1 : off + i.size ≤ n) (h2 : 1 ≤ i.size) (w : World) :
    (part t (xs.extract o (o + n)) off).run P w = (part t xs (o + off)).run P w := by
  unfold part
  simp only [Sem.run_bind]
  cases (isAgg t).run P w with
  | ok b w1 =>
    simp only [Result.andThen_ok, Sem.run_ite]
    split
    · simp only [sizeOf, typeInfo, Sem.run_bind, run_program, Result.andThen_ok, hi, Sem.run_pure]
      congr 2
      rw [Array.extract_extract]
      congr 1
      omega
    · have : (xs.extract o (o + n))[off]? = xs[o + off]? := by
        rw [Array.getElem?_extract]
        split
        · rfl
        · rename_i hlt
          rw [Array.getElem?_eq_none (by omega)]
      rw [this]
  | halt x w1 => simp [Result.andThen]
theorem part_quiet {P : Program} {t off : Nat} {j : TypeInfo} (hj : P.info? t = some j) (zs : Array Value) (w : World) : (∃ x, (part t zs off).run P w = .ok x w) ∨ ∃ h w', (part t zs off).run P w = .halt h w' := by
  unfold part
  simp only [Sem.run_bind]
  cases hg : (isAgg t).run P w with
  | halt x w1 => exact .inr ⟨_, _, rfl⟩
  | ok b w1 =>
    have hw1 : w1 = w := by
      unfold isAgg at hg
      simp only [Sem.run_bind] at hg
      cases hu : P.underlying t with
      | none => simp [underlying, hu] at hg
      | some dd =>
        rw [run_underlying hu] at hg
        simp only [Result.andThen_ok] at hg
        cases dd <;> cases hg <;> rfl
    subst hw1
    simp only [Result.andThen_ok, Sem.run_ite]
    split
    · exact .inl ⟨.agg (zs.extract off (off + j.size)), by simp only [sizeOf, typeInfo, Sem.run_bind, run_program, Result.andThen_ok, hj, Sem.run_pure]⟩
    · split
      · exact .inl ⟨_, rfl⟩
      · exact .inr ⟨_, _, rfl⟩
theorem eqLeaves_ok {P : Program} {xs ys : Array Value} : ∀ (d t o : Nat) (l : List (Nat × Nat)), eqLeaves P d t o = some l → ∀ r : Bool, LeafR P xs ys l r → ∀ (D : Nat) (w : World),
    (do let a ← part t xs o; let b ← part t ys o; Op.equalIn (D + d) t a b : Sem Bool).run P w = .ok r w := by
  intro d
  induction d with
  | zero => intro t o l h; cases h
  | succ d ih =>
    intro t o l h r hr D w
    unfold eqLeaves at h
    have pagg : ∀ (i : TypeInfo), P.info? t = some i → (∃ fs, P.underlying t = some (.struct fs)) ∨ (∃ n e, P.underlying t = some (.array n e)) → ∀ (zs : Array Value) (w : World), (part t zs o).run P w = .ok (.agg (zs.extract o (o + i.size))) w := by
      intro i hi hu zs w
      have hag : ∀ w, (isAgg t).run P w = .ok true w := by
        intro w
        rcases hu with ⟨fs, hu⟩ | ⟨n, e, hu⟩ <;> simp [isAgg, run_underlying hu]
      simp only [part, Sem.run_bind, hag, Result.andThen_ok, if_true, sizeOf, typeInfo, run_program, hi, Sem.run_pure, Sem.run_ite]
    split at h
    · rename_i fs i hu hi
      split at h
      case isFalse => cases h
      rename_i hs
      simp only [Sem.run_bind, pagg i hi (.inl ⟨fs, hu⟩), Result.andThen_ok]
      have hu' : P.underlying t = some (.struct (P.fieldsOf t)) := by simp [Program.fieldsOf, hu]
      have hfs : P.fieldsOf t = fs := by simp [Program.fieldsOf, hu]
      rw [← Nat.add_assoc, run_equalIn_struct w (D + d) t _ _ hu' hs, hfs]
      revert l r
      generalize fs.toList = gs
      clear hfs hu' hu
      induction gs with
      | nil =>
        intro l r hr h
        cases h
        cases hr
        rfl
      | cons f gs ihg =>
        intro l r hr h
        simp only [List.foldr_cons] at h
        simp only [Op.eqFields]
        by_cases hn : f.name ≠ "_"
        · have hb : (f.name != "_") = true := by simpa using hn
          rw [if_pos hb] at h
          rw [if_pos hn]
          split at h
          case h_2 => cases h
          rename_i j a b hj ha hacc
          split at h
          case isFalse => cases h
          rename_i hc
          cases h
          have hpx := part_sub (P := P) hj (o := o) (xs := xs) hc.1 hc.2
          have hpy := part_sub (P := P) hj (o := o) (xs := ys) hc.1 hc.2
          have one : ∀ c, LeafR P xs ys a c → ∀ (w : World), ∃ x y, (part f.type xs (o + f.offset)).run P w = .ok x w ∧ (part f.type ys (o + f.offset)).run P w = .ok y w ∧ (Op.equalIn (D + d) f.type x y).run P w = .ok c w := by
            intro c hc w
            have := ih f.type (o + f.offset) a ha c hc D w
            simp only [Sem.run_bind] at this
            rcases part_quiet hj xs w with ⟨x, hx⟩ | ⟨h, w', hx⟩
            · rw [hx] at this
              simp only [Result.andThen_ok] at this
              rcases part_quiet hj ys w with ⟨y, hy⟩ | ⟨h, w', hy⟩
              · rw [hy] at this
                exact ⟨x, y, hx, hy, this⟩
              · rw [hy] at this; cases this
            · rw [hx] at this; cases this
          simp only [Sem.run_bind, hpx, hpy]
          rcases LeafR.split hr with ⟨h1, rfl⟩ | ⟨h1, h2⟩
          · obtain ⟨x, y, e1, e2, e3⟩ := one false h1 w
            simp only [e1, e2, e3, Result.andThen_ok, Bool.not_false, if_true, Sem.run_pure]
          · obtain ⟨x, y, e1, e2, e3⟩ := one true h1 w
            simp only [e1, e2, e3, Result.andThen_ok, Bool.not_true, Bool.false_eq_true, if_false]
            exact ihg b r h2 hacc
        · have hb : ¬ (f.name != "_") = true := by simpa using hn
          rw [if_neg hb] at h
          rw [if_neg hn]
          exact ihg l r hr h
    · rename_i n e i hu hi
      split at h
      case h_2 => cases h
      rename_i j hj
      simp only [Sem.run_bind, pagg i hi (.inr ⟨n, e, hu⟩), Result.andThen_ok]
      rw [← Nat.add_assoc, run_equalIn_array w (D + d) _ _ hu hj]
      have hcell : P.cellsOf e = j.size := by simp [Program.cellsOf, hj]
      rw [hcell]
      revert l r
      generalize List.range n = ks
      clear hu
      induction ks with
      | nil =>
        intro l r hr h
        cases h
        cases hr
        rfl
      | cons k ks ihk =>
        intro l r hr h
        simp only [List.foldr_cons] at h
        split at h
        case h_2 => cases h
        rename_i a b ha hacc
        split at h
        case isFalse => cases h
        rename_i hc
        cases h
        have hpx := part_sub (P := P) hj (o := o) (xs := xs) hc.1 hc.2
        have hpy := part_sub (P := P) hj (o := o) (xs := ys) hc.1 hc.2
        have one : ∀ c, LeafR P xs ys a c → ∀ (w : World), ∃ x y, (part e xs (o + k * j.size)).run P w = .ok x w ∧ (part e ys (o + k * j.size)).run P w = .ok y w ∧ (Op.equalIn (D + d) e x y).run P w = .ok c w := by
          intro c hc w
          have := ih e (o + k * j.size) a ha c hc D w
          simp only [Sem.run_bind] at this
          rcases part_quiet hj xs w with ⟨x, hx⟩ | ⟨h, w', hx⟩
          · rw [hx] at this
            simp only [Result.andThen_ok] at this
            rcases part_quiet hj ys w with ⟨y, hy⟩ | ⟨h, w', hy⟩
            · rw [hy] at this
              exact ⟨x, y, hx, hy, this⟩
            · rw [hy] at this; cases this
          · rw [hx] at this; cases this
        simp only [Op.eqItems, Sem.run_bind, hpx, hpy]
        rcases LeafR.split hr with ⟨h1, rfl⟩ | ⟨h1, h2⟩
        · obtain ⟨x, y, e1, e2, e3⟩ := one false h1 w
          simp only [e1, e2, e3, Result.andThen_ok, Bool.not_false, if_true, Sem.run_pure]
        · obtain ⟨x, y, e1, e2, e3⟩ := one true h1 w
          simp only [e1, e2, e3, Result.andThen_ok, Bool.not_true, Bool.false_eq_true, if_false]
          exact ihk b r h2 hacc
    · rename_i dd i hn1 hn2 hu hi
      split at h
      case isFalse => cases h
      cases h
      have hag : ∀ w, (isAgg t).run P w = .ok false w := by
        intro w
        simp only [isAgg, Sem.run_bind, run_underlying hu, Result.andThen_ok]
        cases dd <;> first | rfl | exact absurd rfl (hn1 _) | exact absurd rfl (hn2 _ _)
      have pc : ∀ (zs : Array Value) (v : Value), zs[o]? = some v → ∀ w, (part t zs o).run P w = .ok v w := by
        intro zs v hv w
        simp only [part, Sem.run_bind, hag, Result.andThen_ok, Sem.run_ite, Bool.false_eq_true, if_false, hv, Sem.run_pure]
      cases hr with
      | stop ha hb h => simp only [Sem.run_bind, pc _ _ ha, pc _ _ hb, Result.andThen_ok]; exact h (D + d) w
      | go ha hb h hr =>
        cases hr
        simp only [Sem.run_bind, pc _ _ ha, pc _ _ hb, Result.andThen_ok]; exact h (D + d) w
    · cases h

/-- the same chain on both sides, of cells that are equal to themselves -/
noncomputable def eqFieldsS {P : Program} (T : Tab P) (xs ys : SV) : List (Nat × Nat) → X BE
  | [] => X.pure (.lit true)
  | f :: fs =>
      X.bind (getC xs (.lit f.1)) fun a => X.bind (getC ys (.lit f.1)) fun b => X.bind (eqX T f.2 a b) fun c =>
        X.bind (branch c) fun r => if r then eqFieldsS T xs ys fs else X.pure (.lit false)
theorem eqFieldsS_ok {F : Nat → Prop} {w0 : World} {E : Env} {P : Program} (T : Tab P) (xs ys : SV) : ∀ (fs : List (Nat × Nat)) (m : Mem) (w : World),
    GX F w0 E (eqFieldsS T xs ys fs) m w fun c w' => w' = w ∧ LeafR P (dl E xs).toArray (dl E ys).toArray fs (evB E c) := by
  intro fs
  induction fs with
  | nil => intro m w; exact GX.pure fun _ => ⟨rfl, .nil⟩
  | cons f fs ih =>
    intro m w
    unfold eqFieldsS
    refine GX.bind (getC_ok xs _ m w) ?_
    rintro a m1 w1 ⟨rfl, _, _, ha⟩
    refine GX.bind (getC_ok ys _ m1 w1) ?_
    rintro b m2 w2 ⟨rfl, _, _, hb⟩
    rw [ev_lit, Int.toNat_natCast] at ha hb
    refine GX.bind (eqX_ok T f.2 a b m2 w2) ?_
    rintro c m3 w3 ⟨rfl, hc⟩
    refine GX.bind (branch_ok c m3 w3) ?_
    rintro r m4 w4 ⟨rfl, hr⟩
    rw [← hr] at hc
    split
    · rename_i h1
      rw [h1] at hc
      exact (ih m4 w4).mono fun c' w' h => ⟨h.1, .go (by simpa using ha) (by simpa using hb) hc h.2⟩
    · rename_i h1
      have h1 : r = false := by simpa using h1
      rw [h1] at hc
      exact GX.pure fun _ => ⟨rfl, .stop (by simpa using ha) (by simpa using hb) hc⟩

noncomputable def eqS {P : Program} (T : Tab P) (t : Nat) (x y : SV) : X BE :=
  match x, y with
  | .agg xs, .agg ys => match T.eqs t, wd xs, wd ys, sizeIn T t with
    | some l, some a, some b, some n => if a = n ∧ b = n then eqFieldsS T xs ys l else X.none
    | _, _, _, _ => X.none
  | x, y => if x.isC && y.isC then eqX T t x y else X.none
theorem eqS_ok {F : Nat → Prop} {w0 : World} {E : Env} {P : Program} (T : Tab P) (t : Nat) (x y : SV) (m : Mem) (w : World) :
    GX F w0 E (eqS T t x y) m w fun c w' => w' = w ∧ (Op.equal t (dv E x) (dv E y)).run P w = .ok (evB E c) w ∧
      ((∃ xs ys, x = .agg xs ∧ y = .agg ys ∧ P.eqGuardType P.depth t = false) ∨ (x.isC = true ∧ y.isC = true)) := by
  unfold eqS
  split
  · rename_i xs ys
    split
    · rename_i l a b n hl ha hb hn
      split
      case isFalse => exact GX.none
      rename_i hsz
      replace hl := T.eqs_ok _ _ hl
      unfold eqPlan at hl
      have key : ∀ (hg : P.eqGuardType P.depth t = false) (hag : ∀ w, (isAgg t).run P w = .ok true w) (hl : eqLeaves P 20 t 0 = some l), GX F w0 E (eqFieldsS T xs ys l) m w fun c w' => w' = w ∧ (Op.equal t (dv E (.agg xs)) (dv E (.agg ys))).run P w = .ok (evB E c) w ∧
          ((∃ xs' ys', SV.agg xs = .agg xs' ∧ SV.agg ys = .agg ys' ∧ P.eqGuardType P.depth t = false) ∨ ((SV.agg xs).isC = true ∧ (SV.agg ys).isC = true)) := by
        intro hg hag hl
        refine (eqFieldsS_ok T xs ys l m w).mono fun c w' h => ⟨h.1, ?_, .inl ⟨xs, ys, rfl, rfl, hg⟩⟩
        have h1 := eqLeaves_ok 20 t 0 l hl _ h.2 9980 w
        have lx := (wd_ok E xs _ ha).trans hsz.1
        have ly := (wd_ok E ys _ hb).trans hsz.2
        have px : ∀ (c : SV), (dl E c).length = n → ∀ w, (part t (dl E c).toArray 0).run P w = .ok (.agg (dl E c).toArray) w := by
          intro c hc w
          simp only [part, Sem.run_bind, hag, Result.andThen_ok, if_true, Sem.run_ite, run_sizeOf hn, Sem.run_pure]
          congr 2
          rw [Nat.zero_add, ← hc, ← List.size_toArray, Array.extract_size]
        simp only [Sem.run_bind, px xs lx, px ys ly, Result.andThen_ok] at h1
        exact h1
      split at hl
      · rename_i fs hu
        split at hl
        · exact key ‹_› (fun w => by simp [isAgg, run_underlying hu]) hl
        · cases hl
      · rename_i n e hu
        split at hl
        · exact key ‹_› (fun w => by simp [isAgg, run_underlying hu]) hl
        · cases hl
      · cases hl
    · exact GX.none
  · split
    · rename_i hh
      simp only [Bool.and_eq_true] at hh
      exact (eqX_ok T t x y m w).mono fun c w' h => ⟨h.1, h.2 9999 w, .inr hh⟩
    · exact GX.none

/-- a number that is known within few: each one -/
noncomputable def pinX : Nat → IE → X Int
  | 0, _ => X.none
  | n + 1, e => match e with
    | .lit z => X.pure z
    | e => withKnow fun kn => X.bind (branch (mkEq kn e (.lit (rng kn.facts e).1))) fun b => if b then X.pure (rng kn.facts e).1 else pinX n e
theorem pinX_ok {F : Nat → Prop} {w0 : World} {E : Env} : ∀ (n : Nat) (e : IE) (m : Mem) (w : World), GX F w0 E (pinX n e) m w fun z w' => w' = w ∧ z = ev E e := by
  intro n
  induction n with
  | zero => intro e m w; exact GX.none
  | succ n ih =>
    intro e m w
    unfold pinX
    split
    · exact GX.pure fun _ => ⟨rfl, rfl⟩
    · refine GX.withKnow fun hk => GX.bind (branch_ok _ m w) ?_
      rintro b m1 w1 ⟨rfl, hb⟩
      rw [mkEq_ok hk, ev_lit] at hb
      split
      · rename_i h1
        rw [h1] at hb
        exact GX.pure fun _ => ⟨rfl, (of_decide_eq_true hb.symm).symm⟩
      · exact ih e m1 w1

def isConstOp : Operand → Bool | .const _ => true | _ => false
/-- the arms of binOp that are no numbers' -/
noncomputable def binS {P : Program} (T : Tab P) (op : BinOp) (t : Nat) (ox oy : Operand) (x y : SV) : X SV :=
  match op, x, y with
  | .shl, .int k a, .int _ e => X.bind (pinX 70 e) fun z => withKnow fun kn => if 0 ≤ z then X.pure (.int k (mkWrap kn.facts k (mkMul a (.lit (2 ^ (min z.toNat k.bits)))))) else X.none
  | .shr, .int k a, .int _ (.lit z) => if 0 ≤ z then X.pure (.int k (mkShr a (min z.toNat k.bits))) else X.none
  | .shl, _, _ => X.none
  | .shr, _, _ => X.none
  | op, .int k a, .int k' b => withKnow fun kn => if k = k' then X.ofOption (intBin kn op k a b) else X.none
  | .eql, .int _ _, _ => X.none
  | .neq, .int _ _, _ => X.none
  | .eql, x, y => if (x = .nili ∧ y = .nili) ∧ !(isConstOp ox || isConstOp oy) then X.none else X.bind (eqS T t x y) fun c => X.pure (.bool c)
  | .neq, x, y => if (x = .nili ∧ y = .nili) ∧ !(isConstOp ox || isConstOp oy) then X.none else X.bind (eqS T t x y) fun c => X.pure (.bool (mkNot c))
  | _, _, _ => X.none

theorem run_eqGuard_cells {P : Program} (op : BinOp) (t : Nat) (ox oy : Operand) {a b : Value} (ha : Value.isCell a = true) (hb : Value.isCell b = true)
    (hn : (a = .nilIface ∧ b = .nilIface) → (isConstOp ox || isConstOp oy) = true) (w : World) : (eqGuard op t ox oy a b).run P w = .ok () w := by
  unfold eqGuard
  cases op <;> first | rfl | skip
  all_goals
    cases a <;> first | (simp [Value.isCell] at ha; done) | skip
    all_goals (cases b <;> first | (simp [Value.isCell] at hb; done) | rfl | skip)
    all_goals (cases ox <;> cases oy <;> first | rfl | (exfalso; simp [isConstOp] at hn; done))
theorem dv_nili {E : Env} {x : SV} (hx : x.isC = true) (h : dv E x = .nilIface) : x = .nili := by
  cases x <;> simp_all [SV.isC, dv, dl]

theorem run_eql {E : Env} {P : Program} {t : Nat} {x : SV} {y : Value} {b : Bool} {w : World} (hx : (∃ c, x = .agg c) ∨ x.isC = true) (hni : ∀ k a, x ≠ .int k a)
    (h : (Op.equal t (dv E x) y).run P w = .ok b w) : (binOp .eql t (dv E x) y).run P w = .ok (.bool b) w ∧ (binOp .neq t (dv E x) y).run P w = .ok (.bool (!b)) w := by
  rcases hx with ⟨c, rfl⟩ | hx
  · have e : dv E (.agg c) = .agg (dl E c).toArray := rfl
    rw [e] at h ⊢
    constructor <;> simp [binOp, h]
  · cases x <;> first | (simp [SV.isC] at hx; done) | (exact absurd rfl (hni _ _)) | skip
    all_goals
      simp only [dv, dl, List.headD_cons] at h ⊢
      constructor <;> simp only [binOp, Sem.run_bind, h, Result.andThen_ok, Sem.run_pure]
theorem binS_ok {F : Nat → Prop} {w0 : World} {E : Env} {P : Program} (T : Tab P) (op : BinOp) (t : Nat) (ox oy : Operand) (x y : SV) (m : Mem) (w : World) :
    GX F w0 E (binS T op t ox oy x y) m w fun v w' => w' = w ∧ (do eqGuard op t ox oy (dv E x) (dv E y); binOp op t (dv E x) (dv E y) : Sem Value).run P w = .ok (dv E v) w := by
  have cellsGuard : ∀ (k k' : IntKind) (a b : Int) (w : World), (eqGuard op t ox oy (.int k a) (.int k' b)).run P w = .ok () w := fun k k' a b w =>
    run_eqGuard_cells op t ox oy rfl rfl (fun h => by cases h.1) w
  unfold binS
  split
  · rename_i k a k' e
    refine GX.bind (pinX_ok 70 e m w) ?_
    rintro z m1 w1 ⟨rfl, hz0⟩
    refine GX.withKnow fun hk => ?_
    split
    · rename_i hz
      refine GX.pure fun _ => ⟨rfl, ?_⟩
      have e1 : dv E (.int k a) = .int k (ev E a) := rfl
      have e2 : dv E (.int k' e) = .int k' z := by rw [hz0]; rfl
      rw [e1, e2]
      simp only [Sem.run_bind, cellsGuard, Result.andThen_ok, binOp, Op.shift]
      rw [if_neg (by omega)]
      simp [dv, dl, mkWrap_ok hk.env hk.facts, mkMul_ok, ev_lit]
    · exact GX.none
  · rename_i k a k' z
    split
    · rename_i hz
      refine GX.pure fun _ => ⟨rfl, ?_⟩
      have e1 : dv E (.int k a) = .int k (ev E a) := rfl
      have e2 : dv E (.int k' (.lit z)) = .int k' z := rfl
      rw [e1, e2]
      simp only [Sem.run_bind, cellsGuard, Result.andThen_ok, binOp, Op.shift]
      rw [if_neg (by omega)]
      simp [dv, dl, mkShr_ok]
    · exact GX.none
  · exact GX.none
  · exact GX.none
  · rename_i k a k' b _ _ _
    refine GX.withKnow fun hk => ?_
    split
    · rename_i hkk
      subst hkk
      refine GX.ofOption fun r hr => ⟨rfl, ?_⟩
      have e1 : dv E (.int k a) = .int k (ev E a) := rfl
      have e2 : dv E (.int k b) = .int k (ev E b) := rfl
      rw [e1, e2]
      simp only [Sem.run_bind, cellsGuard, Result.andThen_ok]
      exact intBin_ok hk hr t w
    · exact GX.none
  · exact GX.none
  · exact GX.none
  · rename_i hni _
    split
    · exact GX.none
    · rename_i hnn
      refine GX.bind (eqS_ok T t x y m w) ?_
      rintro c m1 w1 ⟨rfl, hrun, hcase⟩
      refine GX.pure fun _ => ⟨rfl, ?_⟩
      have hg : (eqGuard .eql t ox oy (dv E x) (dv E y)).run P w1 = .ok () w1 := by
        rcases hcase with ⟨xs, ys, rfl, rfl, hm⟩ | ⟨hx, hy⟩
        · exact run_eqGuard_agg w1 _ t ox oy _ _ hm
        · refine run_eqGuard_cells _ t ox oy (dv_isC E hx) (dv_isC E hy) (fun h => ?_) w1
          have p := dv_nili hx h.1
          have q := dv_nili hy h.2
          exact Decidable.by_contra fun hc => hnn ⟨⟨p, q⟩, by simpa using hc⟩
      have hx : (∃ c, x = .agg c) ∨ x.isC = true := by
        rcases hcase with ⟨xs, ys, rfl, rfl, hm⟩ | ⟨hx, hy⟩
        · exact .inl ⟨_, rfl⟩
        · exact .inr hx
      simp only [Sem.run_bind, hg, Result.andThen_ok]
      rw [(run_eql hx (fun k a h => hni k a h) hrun).1]
      rfl
  · rename_i hni _
    split
    · exact GX.none
    · rename_i hnn
      refine GX.bind (eqS_ok T t x y m w) ?_
      rintro c m1 w1 ⟨rfl, hrun, hcase⟩
      refine GX.pure fun _ => ⟨rfl, ?_⟩
      have hg : (eqGuard .neq t ox oy (dv E x) (dv E y)).run P w1 = .ok () w1 := by
        rcases hcase with ⟨xs, ys, rfl, rfl, hm⟩ | ⟨hx, hy⟩
        · exact run_eqGuard_agg w1 _ t ox oy _ _ hm
        · refine run_eqGuard_cells _ t ox oy (dv_isC E hx) (dv_isC E hy) (fun h => ?_) w1
          have p := dv_nili hx h.1
          have q := dv_nili hy h.2
          exact Decidable.by_contra fun hc => hnn ⟨⟨p, q⟩, by simpa using hc⟩
      have hx : (∃ c, x = .agg c) ∨ x.isC = true := by
        rcases hcase with ⟨xs, ys, rfl, rfl, hm⟩ | ⟨hx, hy⟩
        · exact .inl ⟨_, rfl⟩
        · exact .inr hx
      simp only [Sem.run_bind, hg, Result.andThen_ok]
      rw [(run_eql hx (fun k a h => hni k a h) hrun).2]
      simp [dv, dl, mkNot_ok]
  · exact GX.none
end Go.Sx
