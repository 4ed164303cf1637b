/- The executor made fast, 6: parts put together, calls. -/
import Derived.Test.YthhjijadllpcpaaSyE
namespace Go.Sx
open Go

section
variable {P : Program} {T : Tab P} {cx : CX} {C : Ctx}
theorem Fits.valX (h : Fits T cx C) (ha : appArgs T ⟨C.n, C.t⟩ C.o = none) {x : X SV} {v : SV} (ho : opS T ⟨C.n, C.t⟩ C.o = Sx.valX x) (hx : x C.m = some [(v, C.m)]) : fin C v = fb C := by
  rw [← finM_self]
  refine h.val ha ?_
  rw [ho]
  unfold Sx.valX
  rw [bind_one hx]
  rfl
theorem part_cell {t : Nat} {c v : SV} {n : Nat} {m : Mem} (ht : aggOf T t = some false) (h : getC c (.lit n) m = some [(v, m)]) : partS T t c (.lit n) m = some [(v, m)] := by
  unfold partS
  rw [ht]
  exact h
theorem part_row {t z : Nat} {c r : SV} {n : Nat} {m : Mem} (ht : aggOf T t = some true) (hz : sizeIn T t = some z) (h : takeC c n z = some r) : partS T t c (.lit n) m = some [(.agg r, m)] := by
  unfold partS
  rw [ht]
  dsimp only
  rw [hz]
  unfold withKnow
  dsimp only
  rw [if_pos (nonneg_lit _ n), bind_one (rowAt_lit h m)]
  rfl
theorem fl_ok (h : Fits T cx C) {t i off : Nat} {fs : Array Field} {f : Field} {x : Operand} (ho : C.o.op = .field t x i) (ht : T.under t = some (.struct fs)) (hf : fs[i]? = some f) (hg : aggOf T f.type = some false) (hoff : f.offset = off) : flK off (coOf x) C = fb C := by
  unfold flK
  rw [opdC_eq]
  unfold fl0
  cases hv : (coOf x).of C.t <;> try rfl
  rename_i c
  show fl1 off C c = _
  unfold fl1
  rcases getNK_at c off (fin C) (fb C) with e | ⟨v, hc, e⟩
  · exact e
  · rw [e]
    have hx : opd ⟨C.n, C.t⟩ x = some (.agg c) := by rw [coOf_ok (by rw [hv]; exact fun e => (by cases e)), hv]
    refine h.valX (by unfold appArgs; rw [ho]) (x := fieldS T t (.agg c) i) (by unfold opS; rw [ho]; dsimp only; rw [hx]) ?_
    unfold fieldS
    rw [ht]
    dsimp only
    rw [hf]
    dsimp only
    rw [hoff]
    exact part_cell hg (hc C.m)
theorem fg_ok (h : Fits T cx C) {t i off z : Nat} {fs : Array Field} {f : Field} {x : Operand} (ho : C.o.op = .field t x i) (ht : T.under t = some (.struct fs)) (hf : fs[i]? = some f) (hg : aggOf T f.type = some true) (hz : sizeIn T f.type = some z) (hoff : f.offset = off) : fgK off z (coOf x) C = fb C := by
  unfold fgK
  rw [opdC_eq]
  unfold fg0
  cases hv : (coOf x).of C.t <;> try rfl
  rename_i c
  show fg1 off z C c = _
  unfold fg1
  rcases takeK_at c off z (finA C) (fb C) with e | ⟨r, hc, e⟩
  · exact e
  · rw [e]
    have hx : opd ⟨C.n, C.t⟩ x = some (.agg c) := by rw [coOf_ok (by rw [hv]; exact fun e => (by cases e)), hv]
    refine h.valX (by unfold appArgs; rw [ho]) (x := fieldS T t (.agg c) i) (by unfold opS; rw [ho]; dsimp only; rw [hx]) ?_
    unfold fieldS
    rw [ht]
    dsimp only
    rw [hf]
    dsimp only
    rw [hoff]
    exact part_row hg hz hc
theorem ix_ok (h : Fits T cx C) {t n el z : Nat} {ag : Bool} {x y : Operand} (ho : C.o.op = .index t x y) (ht : T.under t = some (.array n el)) (hg : aggOf T el = some ag) (hz : sizeIn T el = some z) : ixK ag n z (coOf x) (coOf y) C = fb C := by
  unfold ixK
  rw [opdC_eq]
  unfold ix0
  cases hv : (coOf x).of C.t <;> try rfl
  rename_i c
  show opdC (coOf y) C (ix2 ag n z C c) = _
  rw [opdC_eq]
  unfold ix2
  cases hw : (coOf y).of C.t <;> try rfl
  rename_i kd i
  show ieNat i (ix4 ag n z C c) (fb C) = _
  rcases ieNat_eq i (ix4 ag n z C c) (fb C) with e | ⟨b, hb, e⟩
  · exact e
  · rw [e]
    unfold ix4
    rw [yes_ble]
    by_cases hlt : Nat.succ b ≤ n
    · rw [if_pos hlt]
      have hx : opd ⟨C.n, C.t⟩ x = some (.agg c) := by rw [coOf_ok (by rw [hv]; exact fun e => (by cases e)), hv]
      have hy : opd ⟨C.n, C.t⟩ y = some (.int kd i) := by rw [coOf_ok (by rw [hw]; exact fun e => (by cases e)), hw]
      have run : ∀ v, partS T el c (.lit ((b * z : Nat) : Int)) C.m = some [(v, C.m)] → fin C v = fb C := fun v hp => by
        refine h.valX (by unfold appArgs; rw [ho]) (x := indexS T t (.agg c) (.int kd i)) (by unfold opS; rw [ho]; dsimp only; rw [hx, hy]) ?_
        unfold indexS
        rw [ht, hb]
        dsimp only
        rw [hz]
        unfold withKnow
        dsimp only
        rw [if_pos ⟨nonneg_lit _ b, by rw [isLt_lit]; exact decide_eq_true hlt⟩, mkMul_lit]
        exact hp
      unfold partK
      rw [yes_eq]
      cases ag
      · rcases getNK_at c (Nat.mul b z) (fin C) (fb C) with e2 | ⟨v, hc, e2⟩
        · exact e2
        · rw [if_neg (by simp), e2]
          exact run v (part_cell hg (hc C.m))
      · rcases takeK_at c (Nat.mul b z) z (finA C) (fb C) with e2 | ⟨r, hc, e2⟩
        · exact e2
        · rw [if_pos rfl, e2]
          exact run (.agg r) (part_row hg hz hc)
    · rw [if_neg hlt]
theorem box_run {t : Nat} {v c : SV} (hc : cellsS v = some c) (m : Mem) : boxS t v m = some [(.ptr m.seg m.next (.lit 0), { m with heap := { s := m.seg, k := m.next, ro := false, t, base := .lit 0, c } :: m.heap, next := m.next + 1 })] := by
  unfold boxS
  rw [hc, bind_one (a := c) (m' := m) rfl, allocX_eq]
theorem al_ok (h : Fits T cx C) {t : Nat} {z c : SV} (ho : C.o.op = .alloc t) (hz : T.zero t = some z) (hc : cellsS z = some c) : alK t c C = fb C := by
  rw [alK_eq]
  refine h.val (by unfold appArgs; rw [ho]) ?_
  unfold opS
  rw [ho]
  dsimp only
  unfold Sx.valX allocS
  have e : (X.bind (X.ofOption (T.zero t)) fun z => boxS t z) C.m = boxS t z C.m := by rw [hz]; exact bind_one (m' := C.m) rfl
  rw [bind_one (e.trans (box_run hc C.m))]
  rfl
theorem bx_ok (h : Fits T cx C) {t : Nat} {x : Operand} (ho : C.o.op = .box t x) : bxK t (coOf x) C = fb C := by
  unfold bxK
  rw [opdC_eq]
  have key : ∀ c, cellsS ((coOf x).of C.t) = some c → (coOf x).of C.t ≠ .nil → alK t c C = fb C := fun c hc hv => by
    rw [alK_eq]
    refine h.val (by unfold appArgs; rw [ho]) ?_
    unfold opS
    rw [ho]
    dsimp only
    rw [coOf_ok hv]
    dsimp only
    unfold Sx.valX
    rw [bind_one (box_run hc C.m)]
    rfl
  unfold bx0
  generalize (coOf x).of C.t = v at key
  cases v <;> first | rfl | exact key _ rfl (by intro hh; cases hh)
theorem pi_ok (h : Fits T cx C) {c a b : Operand} (ho : C.o.op = .pick c a b) : piK (coOf c) (coOf a) (coOf b) C = fb C := by
  unfold piK
  rw [opdC_eq]
  unfold pi0
  cases hv : (coOf c).of C.t <;> try rfl
  rename_i t
  show beLitR t (pi2 C (coOf a) (coOf b)) (fb C) = _
  cases t <;> try rfl
  rename_i r
  show pi2 C (coOf a) (coOf b) r = _
  unfold pi2
  rw [opdC_eq]
  by_cases ha : (coOf a).of C.t = .nil
  · rw [ha]; rfl
  · rw [nnS_eq _ _ ha, opdC_eq]
    by_cases hb : (coOf b).of C.t = .nil
    · rw [hb]; rfl
    · rw [nnS_eq _ _ hb, yes_eq]
      have hc : opd ⟨C.n, C.t⟩ c = some (.bool (.lit r)) := by rw [coOf_ok (by rw [hv]; exact fun e => (by cases e)), hv]
      have : fin C (if r then (coOf a).of C.t else (coOf b).of C.t) = fb C := by
        refine h.valX (by unfold appArgs; rw [ho]) (x := pickS (.bool (.lit r)) ((coOf a).of C.t) ((coOf b).of C.t)) (by unfold opS; rw [ho]; dsimp only; rw [hc, coOf_ok ha, coOf_ok hb]) ?_
        cases r <;> rfl
      cases r <;> exact this
theorem le_ok (h : Fits T cx C) {c : Call} {x : Operand} {t : Nat} (ho : C.o.op = .call c) (hc : c.callee = .builtin .len) (hx : c.args.toList = [x]) (ht : c.argTypes[0]? = some t) (hu : ∃ e, T.under t = some (.slice e)) : leK (fun kn v => lenS T kn t v) (coOf x) C = fb C := by
  have p : P1 T C x (fun kn v => lenS T kn t v) := ⟨by unfold appArgs; rw [ho]; dsimp only; rw [hc], fun v hv => by
    unfold opS; rw [ho]; dsimp only
    unfold callS
    rw [hx]
    have e : opds ⟨C.n, C.t⟩ [x] = some [v] := by show (match opd ⟨C.n, C.t⟩ x, some [] with | some v, some l => some (v :: l) | _, _ => none) = _; rw [hv]
    rw [e, hc, ht]
    rfl⟩
  unfold leK
  rw [opdC_eq]
  have key : ∀ r, lenS T C.m.know t ((coOf x).of C.t) = some r → (coOf x).of C.t ≠ .nil → fin C r = fb C := fun r hr hv => p.fin h hv hr
  have key2 := p.p1a h
  have key3 := fun hv => p.know h (g := fun kn v => lenS T kn t v) hv
  generalize (coOf x).of C.t = v at key key2 key3
  unfold le0
  cases v <;> try exact key2
  rename_i s k o len cap
  show le1 _ C s k o len cap = _
  unfold le1
  rw [key3 (by intro hh; cases hh)]
  rcases ieNat_eq len (fun _ => fin C (.int .i64 len)) (fb C) with e | ⟨n, hn, e⟩
  · exact e
  · rw [e]
    refine key _ ?_ (by intro hh; cases hh)
    obtain ⟨el, hu⟩ := hu
    unfold lenS
    rw [hu, hn]
    dsimp only
    rw [if_pos (nonneg_lit _ n)]
end
/- calls -/
noncomputable def consL (k : List SV → R) (v : SV) (l : List SV) : R := k (v :: l)
noncomputable def arg2 (ih : (List SV → R) → R) (k : List SV → R) (v : SV) : R := ih (consL k v)
noncomputable def arg1 (C : Ctx) (ih : Ctx → (List SV → R) → R) (k : List SV → R) (v : SV) : R := nnS v (arg2 (ih C) k) (fb C)
noncomputable def argsK (l : List CO) : Ctx → (List SV → R) → R :=
  List.rec (motive := fun _ => Ctx → (List SV → R) → R) (fun _ k => k []) (fun x _ ih C k => opdC x C (arg1 C ih k)) l
theorem argsK_eq (C : Ctx) : ∀ (xs : List Operand) (k : List SV → R), argsK (xs.map coOf) C k = fb C ∨ ∃ l, opds ⟨C.n, C.t⟩ xs = some l ∧ argsK (xs.map coOf) C k = k l
  | [], k => .inr ⟨[], rfl, rfl⟩
  | x :: xs, k => by
    show opdC (coOf x) C (arg1 C (argsK (xs.map coOf)) k) = fb C ∨ ∃ l, _ ∧ opdC (coOf x) C (arg1 C (argsK (xs.map coOf)) k) = k l
    rw [opdC_eq]
    unfold arg1
    by_cases hv : (coOf x).of C.t = .nil
    · rw [hv]; exact .inl rfl
    · rw [nnS_eq _ _ hv]
      unfold arg2
      rcases argsK_eq C xs (consL k ((coOf x).of C.t)) with e | ⟨l, hl, e⟩
      · exact .inl e
      · refine .inr ⟨(coOf x).of C.t :: l, ?_, e⟩
        show (match opd ⟨C.n, C.t⟩ x, opds ⟨C.n, C.t⟩ xs with | some v, some l => some (v :: l) | _, _ => none) = _
        rw [coOf_ok hv, hl]
noncomputable def nvOk (m' m : Mem) (t : FT) : Bool := Bool.rec (motive := fun _ => Bool) (t.all (SV.nm m.nv)) true (Nat.beq m'.nv m.nv)
theorem nvOk_eq (m' m : Mem) (t : FT) : nvOk m' m t = (Nat.beq m'.nv m.nv || t.all (SV.nm m.nv)) := by unfold nvOk; cases Nat.beq m'.nv m.nv <;> rfl
noncomputable def ret1 (C : Ctx) (m' : Mem) (v : SV) : R := finM C v m'
noncomputable def retK (C : Ctx) (v : SV) (m' : Mem) : R :=
  Ctx.rec (motive := fun _ => Ctx → SV → Mem → R) (fun _ _ _ _ t m _ C v m' => yes (nvOk m' m t) (nfS v (ret1 C m')) none) C C v m'
theorem retK_eq (C : Ctx) (v : SV) (m' : Mem) : retK C v m' = if (Nat.beq m'.nv C.m.nv || C.t.all (SV.nm C.m.nv)) = true then finM C v m' else none := by
  show yes (nvOk m' C.m C.t) (nfS v (ret1 C m')) none = _
  rw [yes_eq, nvOk_eq, nfS_eq]
  rfl
noncomputable def enterK (cx : CX) (f : Nat) (C : Ctx) (l : List SV) : R := Ctx.rec (motive := fun _ => CX → Nat → Ctx → List SV → R) (fun _ _ _ _ _ m _ cx f C l => bindR (cx f l m) (retK C)) C cx f C l
noncomputable def calK (f : Nat) (args : List CO) (cx : CX) (C : Ctx) : R := argsK args C (enterK cx f C)
noncomputable def lstK (c : SV) : (List SV → R) → R → R := SV.rec (motive := fun _ => (List SV → R) → R → R) (fun _ N => N) (fun _ _ N => N) (fun _ _ _ N => N) (fun _ _ N => N) (fun _ N => N) (fun _ _ _ _ N => N) (fun _ N => N) (fun _ _ _ _ _ _ N => N) (fun _ _ _ _ N => N) (fun _ N => N) (fun _ _ _ _ N => N) (fun _ N => N) (fun _ _ _ N => N) (fun _ _ _ N => N) (fun k _ => k []) (fun a _ _ ih k N => vOr a (ih (consL k a) N) N) (fun _ _ _ _ _ _ N => N) (fun _ _ _ _ _ N => N) (fun _ _ _ _ N => N) c
noncomputable def appL (l : List SV) : List SV → (List SV → R) → R := List.rec (motive := fun _ => List SV → (List SV → R) → R) (fun b k => k b) (fun x _ ih b k => ih b (consL k x)) l
noncomputable def clv3 (cx : CX) (f : Nat) (C : Ctx) (cl l : List SV) : R := appL l cl (enterK cx f C)
noncomputable def clv2 (args : List CO) (cx : CX) (f : Nat) (C : Ctx) (cl : List SV) : R := argsK args C (clv3 cx f C cl)
noncomputable def clv1 (cf : Nat → Bool) (args : List CO) (cx : CX) (C : Ctx) (f : Nat) (caps : SV) : R := yes (cf f) (lstK caps (clv2 args cx f C) (fb C)) (fb C)
noncomputable def clv0 (cf : Nat → Bool) (args : List CO) (cx : CX) (C : Ctx) (v : SV) : R := onFn v (clv1 cf args cx C) (fb C)
noncomputable def clvK (cf : Nat → Bool) (x : CO) (args : List CO) (cx : CX) (C : Ctx) : R := opdC x C (clv0 cf args cx C)
noncomputable def inv2 (args : List CO) (cx : CX) (C : Ctx) (v : SV) (f : Nat) : R := argsK args C (consL (enterK cx f C) v)
noncomputable def inv1 (mf : Nat → Option Nat) (args : List CO) (cx : CX) (C : Ctx) (t : Nat) (v : SV) : R :=
  Option.rec (motive := fun _ => List CO → CX → Ctx → SV → R) (fun _ _ C _ => fb C) (fun f args cx C v => vOr v (inv2 args cx C v f) (fb C)) (mf t) args cx C v
noncomputable def inv0 (mf : Nat → Option Nat) (args : List CO) (cx : CX) (C : Ctx) (v : SV) : R := onIfc v (inv1 mf args cx C) (fb C)
noncomputable def invK (mf : Nat → Option Nat) (x : CO) (args : List CO) (cx : CX) (C : Ctx) : R := opdC x C (inv0 mf args cx C)
def methOf {P : Program} (T : Tab P) (name : String) (t : Nat) : Option Nat := match T.meth t name with
  | some f => if T.call f = true then some f else none
  | none => none
theorem lstK_eq : ∀ (c : SV) (k : List SV → R) (N : R), lstK c k N = N ∨ ∃ l, listOf c = some l ∧ lstK c k N = k l
  | .nil, k, N => .inr ⟨[], rfl, rfl⟩
  | .cons x r, k, N => by
    show vOr x (lstK r (consL k x) N) N = N ∨ ∃ l, _ ∧ vOr x (lstK r (consL k x) N) N = k l
    rw [vOr_eq]
    by_cases hx : x.isV = true
    · rw [if_pos hx]
      rcases lstK_eq r (consL k x) N with e | ⟨l, hl, e⟩
      · exact .inl e
      · exact .inr ⟨x :: l, by unfold listOf; rw [if_pos hx, hl], e⟩
    · rw [if_neg hx]; exact .inl rfl
  | .undef, _, _ | .opq _, _, _ | .int _ _, _, _ | .bool _, _, _ | .nilp, _, _ | .ptr _ _ _, _, _ | .nils, _, _ | .sli _ _ _ _ _, _, _ | .fn _ _, _, _ | .nilf, _, _ | .ifc _ _, _, _ | .nili, _, _ | .agg _, _, _ | .tup _, _, _ | .arr _ _ _ _, _, _ | .wr _ _ _, _, _ | .rep _ _, _, _ => .inl rfl
theorem appL_eq : ∀ (l b : List SV) (k : List SV → R), appL l b k = k (l ++ b)
  | [], _, _ => rfl
  | x :: l, b, k => appL_eq l b (consL k x)
section
variable {P : Program} {T : Tab P} {cx : CX} {C : Ctx}
theorem enter_fin (h : Fits T cx C) (ha : appArgs T ⟨C.n, C.t⟩ C.o = none) {f : Nat} {l : List SV} (hv : opS T ⟨C.n, C.t⟩ C.o C.m = some [(.enter f l, C.m)]) : enterK cx f C l = fb C := by
  rw [← h.enter ha hv]
  show bindR (cx f l C.m) (retK C) = _
  congr 1
  funext v m'
  exact retK_eq C v m'
theorem cal_ok (h : Fits T cx C) {c : Call} {f : Nat} (ho : C.o.op = .call c) (hc : c.callee = .value (.func f)) (hf : T.call f = true) : calK f (c.args.toList.map coOf) cx C = fb C := by
  unfold calK
  rcases argsK_eq C c.args.toList (enterK cx f C) with e | ⟨l, hl, e⟩
  · exact e
  · rw [e]
    refine enter_fin h (by unfold appArgs; rw [ho]; dsimp only; rw [hc]) ?_
    unfold opS
    rw [ho]
    dsimp only
    unfold callS
    rw [hl]
    dsimp only
    rw [hc]
    show (if T.call f = true then X.pure (NX.enter f (l ++ [])) else X.none) C.m = _
    rw [if_pos hf, List.append_nil]
    rfl
theorem clv_ok (h : Fits T cx C) {c : Call} {x : Operand} (ho : C.o.op = .call c) (hc : c.callee = .value x) : clvK T.call (coOf x) (c.args.toList.map coOf) cx C = fb C := by
  unfold clvK
  rw [opdC_eq]
  unfold clv0
  cases hv : (coOf x).of C.t <;> try rfl
  rename_i f caps
  show clv1 T.call _ cx C f caps = _
  unfold clv1
  rw [yes_eq]
  split
  · rename_i hf
    rcases lstK_eq caps (clv2 (c.args.toList.map coOf) cx f C) (fb C) with e | ⟨cl, hcl, e⟩
    · exact e
    · rw [e]
      unfold clv2
      rcases argsK_eq C c.args.toList (clv3 cx f C cl) with e2 | ⟨l, hl, e2⟩
      · exact e2
      · rw [e2]
        unfold clv3
        rw [appL_eq]
        refine enter_fin h (by unfold appArgs; rw [ho]; dsimp only; rw [hc]) ?_
        have hx : opd ⟨C.n, C.t⟩ x = some (.fn f caps) := by rw [coOf_ok (by rw [hv]; exact fun e => (by cases e)), hv]
        unfold opS
        rw [ho]
        dsimp only
        unfold callS
        rw [hl]
        dsimp only
        rw [hc]
        dsimp only
        rw [hx]
        dsimp only
        rw [hcl]
        dsimp only
        rw [if_pos hf]
        rfl
  · rfl
theorem inv_ok (h : Fits T cx C) {c : Call} {x : Operand} {name : String} (ho : C.o.op = .call c) (hc : c.callee = .invoke x name) : invK (methOf T name) (coOf x) (c.args.toList.map coOf) cx C = fb C := by
  unfold invK
  rw [opdC_eq]
  unfold inv0
  cases hv : (coOf x).of C.t <;> try rfl
  rename_i t v
  show inv1 (methOf T name) _ cx C t v = _
  unfold inv1
  cases hm : methOf T name t with
  | none => rfl
  | some f =>
    show vOr v (inv2 (c.args.toList.map coOf) cx C v f) (fb C) = _
    rw [vOr_eq]
    split
    · rename_i hV
      unfold inv2
      rcases argsK_eq C c.args.toList (consL (enterK cx f C) v) with e | ⟨l, hl, e⟩
      · exact e
      · rw [e]
        show enterK cx f C (v :: l) = _
        refine enter_fin h (by unfold appArgs; rw [ho]; dsimp only; rw [hc]) ?_
        have hx : opd ⟨C.n, C.t⟩ x = some (.ifc t v) := by rw [coOf_ok (by rw [hv]; exact fun e => (by cases e)), hv]
        unfold methOf at hm
        unfold opS
        rw [ho]
        dsimp only
        unfold callS
        rw [hl]
        dsimp only
        rw [hc]
        dsimp only
        rw [hx]
        dsimp only
        cases hme : T.meth t name with
        | none => rw [hme] at hm; cases hm
        | some f' =>
          rw [hme] at hm
          dsimp only at hm
          split at hm
          · rename_i hf
            cases hm
            dsimp only
            rw [if_pos ⟨hf, hV⟩]
            rfl
          · cases hm
    · rfl
end
/- parts put together -/
noncomputable def spl4 (x : SV) (K : SV → R) (b : SV) : R := appK x x b K
noncomputable def spl3 (v : SV) (K : SV → R) (x y : SV) : R := appK v v y (spl4 x K)
noncomputable def spl2 (c : SV) (o n : Nat) (v : SV) (K : SV → R) (N : R) (w : Nat) (x : SV) : R := takeK c (Nat.add o n) (Nat.sub w (Nat.add o n)) (spl3 v K x) N
noncomputable def spl1 (c : SV) (o n : Nat) (v : SV) (K : SV → R) (N : R) (w : Nat) : R := takeK c 0 o (spl2 c o n v K N w) N
noncomputable def splK (c : SV) (o n : Nat) (v : SV) (K : SV → R) (N : R) : R := wdK c 0 (spl1 c o n v K N) N
theorem splK_at (c : SV) (o n : Nat) (v : SV) (K : SV → R) (N : R) : splK c o n v K N = N ∨ ∃ r, spliceC c o n v = some r ∧ splK c o n v K N = K r := by
  unfold splK
  rcases wdK_at c 0 (spl1 c o n v K N) N with e | ⟨w, hw, e⟩
  · exact .inl e
  · rw [e]
    unfold spl1
    rcases takeK_at c 0 o (spl2 c o n v K N (0 + w)) N with e2 | ⟨x, hx, e2⟩
    · exact .inl e2
    · rw [e2]
      unfold spl2
      rcases takeK_at c (Nat.add o n) (Nat.sub (0 + w) (Nat.add o n)) (spl3 v K x) N with e3 | ⟨y, hy, e3⟩
      · exact .inl e3
      · rw [e3]
        unfold spl3
        rw [appK_eq]
        unfold spl4
        rw [appK_eq]
        refine .inr ⟨appC x (appC v y), ?_, rfl⟩
        unfold spliceC
        rw [hw]
        dsimp only
        rw [hx]
        rw [Nat.zero_add] at hy
        rw [show takeC c (o + n) (w - (o + n)) = some y from hy]
abbrev BldT := SV → Ctx → R
noncomputable def bl3 (off sz : Nat) (c vc : SV) (ih : BldT) (C : Ctx) (w : Nat) : R := yes (Nat.beq w sz) (splK c off sz vc (fun c => ih c C) (fb C)) (fb C)
noncomputable def bl2 (off sz : Nat) (c : SV) (ih : BldT) (C : Ctx) (vc : SV) : R := wdK vc 0 (bl3 off sz c vc ih C) (fb C)
noncomputable def bl1 (off sz : Nat) (c : SV) (ih : BldT) (C : Ctx) (v : SV) : R := onAgg v (bl2 off sz c ih C) (cOr v (bl2 off sz c ih C (.cons v .nil)) (fb C))
abbrev PartC := (Nat × Nat) × CO
noncomputable def bldK (ps : List PartC) : BldT :=
  List.rec (motive := fun _ => BldT) (fun c C => finA C c)
    (fun p _ ih c C => Prod.rec (motive := fun _ => BldT → SV → Ctx → R) (fun os x ih c C => Prod.rec (motive := fun _ => CO → BldT → SV → Ctx → R) (fun off sz x ih c C => opdC x C (bl1 off sz c ih C)) os x ih c C) p ih c C) ps
/-- where each part goes -/
def placesOf (place : Nat → Option (Nat × Nat)) : List (Nat × Operand) → Option (List ((Nat × Nat) × Operand))
  | [] => some []
  | (i, x) :: r => match place i, placesOf place r with
    | some p, some l => some ((p, x) :: l)
    | _, _ => none
theorem bldK_at (C : Ctx) (place : Nat → Option (Nat × Nat)) : ∀ (ps : List (Nat × Operand)) (qs : List ((Nat × Nat) × Operand)) (c : SV), placesOf place ps = some qs → bldK (qs.map fun q => (q.1, coOf q.2)) c C = fb C ∨ ∃ l r, partsS ⟨C.n, C.t⟩ ps = some l ∧ fillS place c l = some r ∧ bldK (qs.map fun q => (q.1, coOf q.2)) c C = fin C (.agg r)
  | [], qs, c, h => by cases h; exact .inr ⟨[], c, rfl, rfl, rfl⟩
  | (i, x) :: ps, qs, c, h => by
    unfold placesOf at h
    cases hp : place i with
    | none => rw [hp] at h; cases h
    | some p =>
      cases hq : placesOf place ps with
      | none => rw [hp, hq] at h; cases h
      | some qs' =>
        rw [hp, hq] at h
        cases h
        obtain ⟨off, sz⟩ := p
        show opdC (coOf x) C (bl1 off sz c (bldK (qs'.map fun q => (q.1, coOf q.2))) C) = fb C ∨ ∃ l r, _ ∧ _ ∧ opdC (coOf x) C (bl1 off sz c (bldK (qs'.map fun q => (q.1, coOf q.2))) C) = fin C (.agg r)
        rw [opdC_eq]
        have key : ∀ vc, cellsS ((coOf x).of C.t) = some vc → (coOf x).of C.t ≠ .nil → bl2 off sz c (bldK (qs'.map fun q => (q.1, coOf q.2))) C vc = fb C ∨ ∃ l r, partsS ⟨C.n, C.t⟩ ((i, x) :: ps) = some l ∧ fillS place c l = some r ∧ bl2 off sz c (bldK (qs'.map fun q => (q.1, coOf q.2))) C vc = fin C (.agg r) := fun vc hc hv => by
          unfold bl2
          rcases wdK_at vc 0 (bl3 off sz c vc (bldK (qs'.map fun q => (q.1, coOf q.2))) C) (fb C) with e | ⟨w, hw, e⟩
          · exact .inl e
          · rw [e]
            unfold bl3
            rw [yes_beq]
            by_cases h0 : 0 + w = sz
            · rw [if_pos h0]
              rw [Nat.zero_add] at h0
              rcases splK_at c off sz vc (fun c => bldK (qs'.map fun q => (q.1, coOf q.2)) c C) (fb C) with e2 | ⟨c', hc', e2⟩
              · exact .inl e2
              · rw [e2]
                rcases bldK_at C place ps qs' c' hq with e3 | ⟨l, r, hl, hr, e3⟩
                · exact .inl e3
                · refine .inr ⟨(i, (coOf x).of C.t) :: l, r, ?_, ?_, e3⟩
                  · unfold partsS
                    rw [coOf_ok hv, hl]
                  · unfold fillS
                    rw [hp, hc]
                    dsimp only
                    rw [if_pos (by rw [hw, h0]), hc']
                    exact hr
            · rw [if_neg h0]; exact .inl rfl
        unfold bl1
        generalize (coOf x).of C.t = v at key
        cases v <;> first | exact .inl rfl | exact key _ rfl (by intro hh; cases hh)
section
variable {P : Program} {T : Tab P} {cx : CX} {C : Ctx}
/-- the places of a type's parts -/
def placeOf' (T : Tab P) (t : Nat) : Option (Nat → Option (Nat × Nat)) :=
  match T.under t with
  | some (.struct fs) => match sizesOf T fs.toList with
    | some pl => some (pl.toArray[·]?)
    | none => none
  | some (.array _ elem) => match sizeIn T elem with
    | some n => some fun i => some (i * n, n)
    | none => none
  | _ => none
theorem bld_ok (h : Fits T cx C) {t : Nat} {ps : Array (Nat × Operand)} {z : SV} {place : Nat → Option (Nat × Nat)} {qs : List ((Nat × Nat) × Operand)} (ho : C.o.op = .build t ps) (hz : T.zero t = some (.agg z)) (hp : placeOf' T t = some place) (hq : placesOf place ps.toList = some qs) :
    bldK (qs.map fun q => (q.1, coOf q.2)) z C = fb C := by
  rcases bldK_at C place ps.toList qs z hq with e | ⟨l, r, hl, hr, e⟩
  · exact e
  · rw [e]
    refine h.valX (by unfold appArgs; rw [ho]) (x := X.ofOption (some (.agg r))) ?_ rfl
    unfold opS
    rw [ho]
    dsimp only
    rw [hl]
    dsimp only
    have : buildS T t l = some (.agg r) := by
      unfold buildS
      unfold placeOf' at hp
      rw [hz]
      dsimp only
      split
      · rename_i fs hu
        rw [hu] at hp
        dsimp only at hp
        split
        · rename_i pl hpl
          rw [hpl] at hp
          cases hp
          rw [hr]
        · rename_i hpl
          rw [hpl] at hp
          cases hp
      · rename_i elem hu
        rw [hu] at hp
        dsimp only at hp
        split
        · rename_i n hn
          rw [hn] at hp
          cases hp
          rw [hr]
        · rename_i hn
          rw [hn] at hp
          cases hp
      · rename_i h1 h2
        exfalso
        revert hp
        cases hu : T.under t with
        | none => intro hp; cases hp
        | some d => cases d <;> first | (intro hp; cases hp; done) | exact absurd hu (h1 _) | exact absurd hu (h2 _ _)
    rw [this]
    rfl
end
end Go.Sx
