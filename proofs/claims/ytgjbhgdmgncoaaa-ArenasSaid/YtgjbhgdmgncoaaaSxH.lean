/- The executor's operations, 5: slices, calls, and one function over all. -/
import Derived.Test.YtgjbhgdmgncoaaaSxG
namespace Go.Sx
open Go

def lenS {P : Program} (T : Tab P) (kn : Know) (t : Nat) (x : SV) : Option SV :=
  match T.under t, x with
  | some (.slice _), .sli _ _ _ len _ => if nonneg kn len = true then some (.int .i64 len) else none
  | some (.slice _), .nils => some (.int .i64 (.lit 0))
  | some (.array n _), _ => some (.int .i64 (.lit n))
  | _, _ => none
theorem lenS_ok {E : Env} {P : Program} {T : Tab P} {kn : Know} (h : KnowOk E kn) {t : Nat} {x r : SV} (hr : lenS T kn t x = some r) (at_ : Array Nat) (h0 : at_[0]? = some t) (ty : Nat) (w : World) :
    (Builtin.len_ at_ ty #[dv E x]).run P w = .ok (dv E r) w := by
  unfold lenS at hr
  split at hr
  · rename_i e s k off len cap hu
    split at hr
    · rename_i hn
      cases hr
      have e1 : dv E (.sli s k off len cap) = .slice (some (addrOf E s k off)) (ev E len).toNat (ev E cap).toNat := rfl
      have hn := nonneg_ok h hn
      simp only [Builtin.len_, h0, e1, List.getElem?_toArray, List.getElem?_cons_zero, Sem.run_bind, run_underlying (T.under_ok _ _ hu), Result.andThen_ok, Sem.run_pure, goInt, Int.toNat_of_nonneg hn]
      rfl
    · cases hr
  · rename_i e hu
    cases hr
    have e1 : dv E .nils = .slice none 0 0 := rfl
    simp only [Builtin.len_, h0, e1, List.getElem?_toArray, List.getElem?_cons_zero, Sem.run_bind, run_underlying (T.under_ok _ _ hu), Result.andThen_ok, Sem.run_pure, goInt]
    rfl
  · rename_i n e hu
    cases hr
    simp only [Builtin.len_, h0, List.getElem?_toArray, List.getElem?_cons_zero, Sem.run_bind, run_underlying (T.under_ok _ _ hu), Result.andThen_ok]
    rfl
  · cases hr
def capS {P : Program} (T : Tab P) (kn : Know) (t : Nat) (x : SV) : Option SV :=
  match T.under t, x with
  | some (.slice _), .sli _ _ _ _ cap => if nonneg kn cap = true then some (.int .i64 cap) else none
  | some (.slice _), .nils => some (.int .i64 (.lit 0))
  | _, _ => none
theorem capS_ok {E : Env} {P : Program} {T : Tab P} {kn : Know} (h : KnowOk E kn) {t : Nat} {x r : SV} (hr : capS T kn t x = some r) (at_ : Array Nat) (h0 : at_[0]? = some t) (ty : Nat) (w : World) :
    (Builtin.cap_ at_ ty #[dv E x]).run P w = .ok (dv E r) w := by
  unfold capS at hr
  split at hr
  · rename_i e s k off len cap hu
    split at hr
    · rename_i hn
      cases hr
      have e1 : dv E (.sli s k off len cap) = .slice (some (addrOf E s k off)) (ev E len).toNat (ev E cap).toNat := rfl
      have hn := nonneg_ok h hn
      simp only [Builtin.cap_, h0, e1, List.getElem?_toArray, List.getElem?_cons_zero, Sem.run_bind, run_underlying (T.under_ok _ _ hu), Result.andThen_ok, Sem.run_pure, goInt, Int.toNat_of_nonneg hn]
      rfl
    · cases hr
  · rename_i e hu
    cases hr
    have e1 : dv E .nils = .slice none 0 0 := rfl
    simp only [Builtin.cap_, h0, e1, List.getElem?_toArray, List.getElem?_cons_zero, Sem.run_bind, run_underlying (T.under_ok _ _ hu), Result.andThen_ok, Sem.run_pure, goInt]
    rfl
  · cases hr

/- slicing -/
def boundS (kn : Know) (x : Option SV) (dflt : IE) : Option IE :=
  match x with
  | none => some dflt
  | some (.int _ e) => if nonneg kn e = true then some e else none
  | _ => none
/-- x[l:h] of a slice or of an array's variable -/
noncomputable def sliceS {P : Program} (T : Tab P) (t : Nat) (x : SV) (lo hi mx : Option SV) : X SV :=
  if mx.isSome then X.none else
  match T.under t, x with
  | some (.array n elem), .ptr s k off => match lo, hi, sizeIn T elem with
    | none, none, some _ => X.pure (.sli s k off (.lit n) (.lit n))
    | _, _, _ => X.none
  | some (.slice elem), .sli s k off len cap => withKnow fun kn => match boundS kn lo (.lit 0), boundS kn hi len, sizeIn T elem with
    | some l, some h, some z =>
      if nonneg kn off = true ∧ nonneg kn len = true ∧ isLe kn l h = true ∧ isLe kn h cap = true ∧ isLe kn len cap = true then
        if l = .lit 0 then X.pure (.sli s k off h cap) else
        X.bind (branch (mkEq kn cap l)) fun r => if r then X.pure (.sli s k off (mkSub h l) (mkSub cap l)) else X.pure (.sli s k (mkAdd off (mkMul l (.lit z))) (mkSub h l) (mkSub cap l))
      else X.none
    | _, _, _ => X.none
  | some (.slice elem), .nils => withKnow fun kn => match boundS kn lo (.lit 0), boundS kn hi (.lit 0), sizeIn T elem with
    | some (.lit 0), some (.lit 0), some _ => X.pure .nils
    | _, _, _ => X.none
  | _, _ => X.none
theorem boundS_ok {E : Env} {kn : Know} (h : KnowOk E kn) {x : Option SV} {d e : IE} (hb : boundS kn x d = some e) (hd : 0 ≤ ev E d) :
    0 ≤ ev E e ∧ (∀ v, x = some v → ∃ k, dv E v = .int k (ev E e)) ∧ (x = none → e = d) := by
  unfold boundS at hb
  split at hb
  · cases hb; exact ⟨hd, fun v h => (by cases h), fun _ => rfl⟩
  · rename_i k e'
    split at hb
    · rename_i hn
      cases hb
      exact ⟨nonneg_ok h hn, fun v h => (by cases h; exact ⟨k, rfl⟩), fun h => (by cases h)⟩
    · cases hb
  · cases hb
theorem run_sliceBound {P : Program} {v : Value} {k : IntKind} {i : Int} {y : Nat} (hv : v = .int k i) (h0 : 0 ≤ i) (h1 : i ≤ y) (code : BoundsCode) (w : World) : (Instr.sliceBound v y code).run P w = .ok i.toNat w := by
  subst hv
  simp only [Instr.sliceBound, asIntOf, Sem.run_bind, Sem.run_pure, Result.andThen_ok, Sem.run_ite]
  rw [if_pos ⟨h0, h1⟩]
theorem run_sliceBounds {P : Program} {lo hi : Option Value} {len cap l h : Nat} (hlo : (lo = none ∧ l = 0) ∨ ∃ k i, lo = some (.int k i) ∧ 0 ≤ i ∧ l = i.toNat)
    (hhi : (hi = none ∧ h = len) ∨ ∃ k i, hi = some (.int k i) ∧ 0 ≤ i ∧ h = i.toNat) (hl : l ≤ h) (hh : h ≤ cap) (w : World) :
    (Instr.sliceBounds true len cap lo hi none).run P w = .ok (l, h, cap) w := by
  rcases hlo with ⟨rfl, rfl⟩ | ⟨k, i, rfl, i0, rfl⟩ <;> rcases hhi with ⟨rfl, rfl⟩ | ⟨k', i', rfl, i0', rfl⟩
  · simp [Instr.sliceBounds]
  · simp only [Instr.sliceBounds, Sem.run_bind, Sem.run_pure, Result.andThen_ok, run_sliceBound rfl i0' (show i' ≤ (cap : Int) by omega)]
  · simp only [Instr.sliceBounds, Sem.run_bind, Sem.run_pure, Result.andThen_ok, run_sliceBound rfl i0 (show i ≤ (h : Int) by omega)]
  · simp only [Instr.sliceBounds, Sem.run_bind, Sem.run_pure, Result.andThen_ok, run_sliceBound rfl i0' (show i' ≤ (cap : Int) by omega), run_sliceBound rfl i0 (show i ≤ (i'.toNat : Int) by omega)]
theorem optB {E : Env} {x : Option SV} {e d : IE} (h : (∀ v, x = some v → ∃ k, dv E v = .int k (ev E e)) ∧ (x = none → e = d)) (h0 : 0 ≤ ev E e) :
    (x.map (dv E) = none ∧ (ev E e).toNat = (ev E d).toNat) ∨ ∃ k i, x.map (dv E) = some (.int k i) ∧ 0 ≤ i ∧ (ev E e).toNat = i.toNat := by
  cases x with
  | none => exact .inl ⟨rfl, by rw [h.2 rfl]⟩
  | some v => obtain ⟨k, hk⟩ := h.1 v rfl; exact .inr ⟨k, _, by rw [Option.map_some, hk], h0, rfl⟩
theorem sliceS_ok {F : Nat → Prop} {w0 : World} {E : Env} {P : Program} (T : Tab P) (t : Nat) (x : SV) (lo hi mx : Option SV) (m : Mem) (w : World) :
    GX F w0 E (sliceS T t x lo hi mx) m w fun v w' => w' = w ∧ (Instr.sliceAt t (dv E x) (lo.map (dv E)) (hi.map (dv E)) (mx.map (dv E))).run P w = .ok (dv E v) w := by
  unfold sliceS
  split
  · exact GX.none
  rename_i hmx
  have hmx : mx = none := by cases mx <;> simp_all
  subst hmx
  split
  · rename_i n elem s k off hu
    split
    · rename_i z hz
      refine GX.pure fun _ => ⟨rfl, ?_⟩
      have e1 : dv E (.ptr s k off) = .pointer (some (addrOf E s k off)) := rfl
      rw [e1]
      simp only [Instr.sliceAt, Sem.run_bind, run_underlying (T.under_ok _ _ hu), Result.andThen_ok, Instr.sureAddr, Sem.run_pure, Option.map_none, Instr.sliceBounds, run_sizeOf hz]
      simp only [dv, dl, List.headD_cons, ev_lit, Int.toNat_natCast, Nat.zero_mul, Nat.sub_zero]
      congr 4
      split
      · rfl
      · rfl
    · exact GX.none
  · rename_i elem s k off len cap hu
    refine GX.withKnow fun hk => ?_
    split
    · rename_i l h z hl hh hz
      split
      · rename_i hc
        obtain ⟨c1, c2, c3, c4, c5⟩ := hc
        have o0 := nonneg_ok hk c1
        have len0 := nonneg_ok hk c2
        have lh := isLe_ok hk c3
        have hcap := isLe_ok hk c4
        have lencap := isLe_ok hk c5
        obtain ⟨l0, lv, ln⟩ := boundS_ok hk hl (by simp [ev_lit])
        obtain ⟨h0, hv, hn⟩ := boundS_ok hk hh len0
        have e1 : dv E (.sli s k off len cap) = .slice (some (addrOf E s k off)) (ev E len).toNat (ev E cap).toNat := rfl
        have hbounds : (Instr.sliceBounds true (ev E len).toNat (ev E cap).toNat (lo.map (dv E)) (hi.map (dv E)) none).run P w = .ok ((ev E l).toNat, (ev E h).toNat, (ev E cap).toNat) w := by
          exact run_sliceBounds (optB ⟨lv, ln⟩ l0) (optB ⟨hv, hn⟩ h0) (by omega) (by omega) w
        have hmain : (Instr.sliceAt t (dv E (.sli s k off len cap)) (lo.map (dv E)) (hi.map (dv E)) none).run P w =
            .ok (.slice (if (ev E cap).toNat = (ev E l).toNat then some (addrOf E s k off) else some ((addrOf E s k off).add ((ev E l).toNat * z))) ((ev E h).toNat - (ev E l).toNat) ((ev E cap).toNat - (ev E l).toNat)) w := by
          rw [e1]
          simp only [Instr.sliceAt, Sem.run_bind, run_underlying (T.under_ok _ _ hu), Result.andThen_ok, Instr.slice, hbounds, run_sizeOf hz, Sem.run_pure, Option.map_some]
        split
        · rename_i hl0
          subst hl0
          refine GX.pure fun _ => ⟨rfl, ?_⟩
          simp only [Option.map_none] at hmain ⊢
          rw [hmain]
          simp only [ev_lit, Int.toNat_zero, Nat.zero_mul, Nat.sub_zero]
          have : (addrOf E s k off).add 0 = addrOf E s k off := rfl
          rw [this, ite_self]
          rfl
        · refine GX.bind (branch_ok _ m w) ?_
          rintro r m1 w1 ⟨rfl, hr⟩
          rw [mkEq_ok hk] at hr
          split
          · rename_i hr1
            rw [hr1] at hr
            have he : ev E cap = ev E l := of_decide_eq_true hr.symm
            refine GX.pure fun _ => ⟨rfl, ?_⟩
            simp only [Option.map_none] at hmain ⊢
            rw [hmain, if_pos (by rw [he])]
            simp only [dv, dl, List.headD_cons, mkSub_ok]
            congr 2 <;> omega
          · rename_i hr1
            have hr1 : r = false := by simpa using hr1
            rw [hr1] at hr
            have he : ev E cap ≠ ev E l := of_decide_eq_false hr.symm
            refine GX.pure fun _ => ⟨rfl, ?_⟩
            simp only [Option.map_none] at hmain ⊢
            rw [hmain, if_neg (by omega)]
            rw [addrOf_add o0 _ (mkMul l (.lit z)) (by rw [mkMul_ok, ev_lit, Int.natCast_mul, Int.toNat_of_nonneg l0])]
            simp only [dv, dl, List.headD_cons, mkSub_ok]
            congr 2 <;> omega
      · exact GX.none
    · exact GX.none
  · rename_i elem hu
    refine GX.withKnow fun hk => ?_
    split
    · rename_i z hl hh hz
      obtain ⟨l0, lv, ln⟩ := boundS_ok hk hl (by simp [ev_lit])
      obtain ⟨h0, hv, hn⟩ := boundS_ok hk hh (by simp [ev_lit])
      refine GX.pure fun _ => ⟨rfl, ?_⟩
      have e1 : dv E .nils = .slice none 0 0 := rfl
      have hb : (Instr.sliceBounds true 0 0 (lo.map (dv E)) (hi.map (dv E)) none).run P w = .ok (0, 0, 0) w :=
        run_sliceBounds (optB ⟨lv, ln⟩ l0) (optB ⟨hv, hn⟩ h0) (Nat.le_refl _) (Nat.le_refl _) w
      rw [e1]
      simp only [Instr.sliceAt, Sem.run_bind, run_underlying (T.under_ok _ _ hu), Result.andThen_ok, Instr.slice, hb, run_sizeOf hz, Sem.run_pure, Option.map_none]
      simp
    · exact GX.none
  · exact GX.none
end Go.Sx
