/- The executor made fast, 2: operations. -/
import Derived.Test.YthhjijadllpcpaaSyA
namespace Go.Sx
open Go

/-- a value that is none of 'nothing is known' -/
noncomputable def nnS (v : SV) (f : SV → R) (g : R) : R :=
  SV.rec (motive := fun _ => SV → (SV → R) → R → R) (fun v f _ => f v) (fun _ v f _ => f v) (fun _ _ v f _ => f v) (fun _ v f _ => f v) (fun v f _ => f v) (fun _ _ _ v f _ => f v) (fun v f _ => f v) (fun _ _ _ _ _ v f _ => f v) (fun _ _ _ v f _ => f v) (fun v f _ => f v) (fun _ _ _ v f _ => f v) (fun v f _ => f v) (fun _ _ v f _ => f v) (fun _ _ v f _ => f v) (fun _ _ g => g) (fun _ _ _ _ v f _ => f v) (fun _ _ _ _ _ v f _ => f v) (fun _ _ _ _ v f _ => f v) (fun _ _ _ v f _ => f v) v v f g
theorem nnS_eq {v : SV} (f : SV → R) (g : R) (h : v ≠ .nil) : nnS v f g = f v := by cases v <;> first | rfl | exact absurd rfl h
theorem nnS_nil (f : SV → R) (g : R) : nnS .nil f g = g := rfl
noncomputable def vOr (v : SV) (a b : R) : R :=
  SV.rec (motive := fun _ => R → R → R) (fun a _ => a) (fun _ _ b => b) (fun _ _ a _ => a) (fun _ a _ => a) (fun a _ => a) (fun _ _ _ a _ => a) (fun a _ => a) (fun _ _ _ _ _ a _ => a) (fun _ _ _ a _ => a) (fun a _ => a) (fun _ _ _ a _ => a) (fun a _ => a) (fun _ _ a _ => a) (fun _ _ a _ => a) (fun _ b => b) (fun _ _ _ _ _ b => b) (fun _ _ _ _ _ _ b => b) (fun _ _ _ _ _ b => b) (fun _ _ _ _ b => b) v a b
theorem vOr_eq (v : SV) (a b : R) : vOr v a b = if v.isV = true then a else b := by cases v <;> rfl
noncomputable def onNat (z : Int) (f : Nat → R) (g : R) : R :=
  Int.rec (motive := fun _ => (Nat → R) → R → R) (fun n f _ => f n) (fun _ _ g => g) z f g
theorem onNat_of (n : Nat) (f : Nat → R) (g : R) : onNat (.ofNat n) f g = f n := rfl
theorem onNat_neg (n : Nat) (f : Nat → R) (g : R) : onNat (.negSucc n) f g = g := rfl
noncomputable def yes (c : Bool) (a b : R) : R := Bool.rec (motive := fun _ => R → R → R) (fun _ b => b) (fun a _ => a) c a b
theorem yes_eq (c : Bool) (a b : R) : yes c a b = if c = true then a else b := by cases c <;> rfl
theorem yes_beq (p q : Nat) (a b : R) : yes (Nat.beq p q) a b = if p = q then a else b := by
  rw [yes_eq]
  by_cases h : p = q
  · rw [if_pos h, if_pos (by rw [h]; exact Nat.beq_refl q)]
  · rw [if_neg h, if_neg (fun e => h (Nat.eq_of_beq_eq_true e))]
theorem yes_ble (p q : Nat) (a b : R) : yes (Nat.ble p q) a b = if p ≤ q then a else b := by
  rw [yes_eq]
  by_cases h : p ≤ q
  · rw [if_pos h, if_pos (Nat.ble_eq_true_of_le h)]
  · rw [if_neg h, if_neg (fun e => h (Nat.le_of_ble_eq_true e))]
noncomputable def forceN (n : Nat) (k : Nat → R) : R := Nat.rec (motive := fun _ => (Nat → R) → R) (fun k => k 0) (fun m _ k => k (Nat.succ m)) n k
theorem forceN_eq (n : Nat) (k : Nat → R) : forceN n k = k n := by cases n <;> rfl
noncomputable def opdC (x : CO) (C : Ctx) (k : SV → R) : R := Ctx.rec (motive := fun _ => CO → (SV → R) → R) (fun _ _ _ _ t _ _ x k => opdK x t k) C x k
theorem opdC_eq (x : CO) (C : Ctx) (k : SV → R) : opdC x C k = k (x.of C.t) := opdK_eq x C.t k
noncomputable def maxN (k : IntKind) : Nat := IntKind.rec (motive := fun _ => Nat) 127 32767 2147483647 9223372036854775807 255 65535 4294967295 18446744073709551615 k
theorem kindNo_ne {a b : IntKind} (h : Nat.beq (kindNo a) (kindNo b) = false) : a ≠ b := by
  intro e; subst e; rw [Nat.beq_refl] at h; cases h
theorem maxN_ok (k : IntKind) : (maxN k : Int) ≤ k.max ∧ k.min ≤ 0 := by cases k <;> decide

section
variable {P : Program}
/-- an operation that is wanted -/
noncomputable def stepBody (T : Tab P) (cx : CX) (tm : Fr) (o : Oper) : X Fr :=
  match appArgs T tm o with
  | some (e, s, x) => fun m => X.bind (appS T e s x) (fun v m' => if Nat.beq m'.nv m.nv || tm.t.all (SV.nm m.nv) then putX' tm o.dst v m' else none) m
  | none => X.bind (opS T tm o) fun nx =>
    match nx with
    | .val v => putX' tm o.dst v
    | .skip => putX' tm o.dst .undef
    | .enter f args => fun m => X.bind (cx f args) (fun v m' => if Nat.beq m'.nv m.nv || tm.t.all (SV.nm m.nv) then putX' tm o.dst v m' else none) m
theorem stepOp_body (T : Tab P) (cx : CX) (ops : Array Oper) (tm : Fr) (o : Oper) : stepOp T cx ops tm o = X.bind (wantedX ops tm o) fun wnt => if wnt then stepBody T cx tm o else putX' tm o.dst .undef := rfl
structure Fits (T : Tab P) (cx : CX) (C : Ctx) : Prop where
  old : C.old = fun o fr m => stepBody T cx fr o m
  d : C.d = cdOf C.o.dst
variable {T : Tab P} {cx : CX} {C : Ctx}
theorem Fits.fb_eq (h : Fits T cx C) : fb C = bindR (stepBody T cx ⟨C.n, C.t⟩ C.o C.m) C.K := by
  obtain ⟨cd, o, old, n, t, m, K⟩ := C
  have := h.old
  dsimp only at this
  subst this
  rfl
theorem finM_self (C : Ctx) (v : SV) : finM C v C.m = fin C v := rfl
theorem Fits.step (_h : Fits T cx C) (ha : appArgs T ⟨C.n, C.t⟩ C.o = none) : stepBody T cx ⟨C.n, C.t⟩ C.o C.m = X.bind (opS T ⟨C.n, C.t⟩ C.o) (fun nx => match nx with
      | .val v => putX' ⟨C.n, C.t⟩ C.o.dst v
      | .skip => putX' ⟨C.n, C.t⟩ C.o.dst .undef
      | .enter f args => fun m => X.bind (cx f args) (fun v m' => if Nat.beq m'.nv m.nv || (Fr.t ⟨C.n, C.t⟩).all (SV.nm m.nv) then putX' ⟨C.n, C.t⟩ C.o.dst v m' else none) m) C.m := by
  unfold stepBody
  rw [ha]
theorem Fits.val (h : Fits T cx C) (ha : appArgs T ⟨C.n, C.t⟩ C.o = none) {v : SV} {m' : Mem} (hv : opS T ⟨C.n, C.t⟩ C.o C.m = some [(.val v, m')]) : finM C v m' = fb C := by
  rw [h.fb_eq, h.step ha, bind_one hv]
  show _ = bindR (putX' ⟨C.n, C.t⟩ C.o.dst v m') C.K
  rw [putX'_eq, bindR_pure, finM_eq C v m' h.d]
theorem Fits.skip (h : Fits T cx C) (ha : appArgs T ⟨C.n, C.t⟩ C.o = none) {m' : Mem} (hv : opS T ⟨C.n, C.t⟩ C.o C.m = some [(.skip, m')]) : finM C .undef m' = fb C := by
  rw [h.fb_eq, h.step ha, bind_one hv]
  show _ = bindR (putX' ⟨C.n, C.t⟩ C.o.dst .undef m') C.K
  rw [putX'_eq, bindR_pure, finM_eq C _ m' h.d]
theorem Fits.enter (h : Fits T cx C) (ha : appArgs T ⟨C.n, C.t⟩ C.o = none) {f : Nat} {args : List SV} (hv : opS T ⟨C.n, C.t⟩ C.o C.m = some [(.enter f args, C.m)]) :
    bindR (cx f args C.m) (fun v m' => if (Nat.beq m'.nv C.m.nv || C.t.all (SV.nm C.m.nv)) = true then finM C v m' else none) = fb C := by
  rw [h.fb_eq, h.step ha, bind_one hv]
  dsimp only
  rw [bindR_bind]
  congr 1
  funext v m'
  by_cases hc : (Nat.beq m'.nv C.m.nv || C.t.all (SV.nm C.m.nv)) = true
  · rw [if_pos hc, if_pos hc, putX'_eq, bindR_pure, finM_eq C _ m' h.d]
  · rw [if_neg hc, if_neg hc]; rfl
end

/- moves -/
noncomputable def mvK (C : Ctx) (v : SV) : R := nnS v (fin C) (fb C)
/- numbers -/
noncomputable def optFin (C : Ctx) (v : Option SV) : R := Option.rec (motive := fun _ => Ctx → R) (fun C => fb C) (fun v C => nfS v (fin C)) v C
noncomputable def genK (op : BinOp) (C : Ctx) (k : IntKind) (a b : IE) : R :=
  Ctx.rec (motive := fun _ => BinOp → Ctx → IntKind → IE → IE → R) (fun _ _ _ _ _ m _ op C k a b => optFin C (intBin (Mem.know m) op k a b)) C op C k a b
noncomputable def finB (C : Ctx) (b : Bool) : R := Bool.rec (motive := fun _ => Ctx → R) (fun C => fin C (.bool (.lit false))) (fun C => fin C (.bool (.lit true))) b C
noncomputable def finN1 (C : Ctx) (k : IntKind) (g : R) (n : Nat) : R := yes (Nat.ble n (maxN k)) (fin C (.int k (.lit (.ofNat n)))) g
noncomputable def finN (C : Ctx) (k : IntKind) (n : Nat) (g : R) : R := forceN n (finN1 C k g)
noncomputable def finC (C : Ctx) (b : Bool) : R := Bool.rec (motive := fun _ => Ctx → R) (fun C => fin C (.bool (.lit true))) (fun C => fin C (.bool (.lit false))) b C
noncomputable def natK (op : BinOp) (C : Ctx) (k : IntKind) (p q : Nat) (g : R) : R :=
  BinOp.rec (motive := fun _ => Ctx → IntKind → Nat → Nat → R → R)
    (fun C k p q g => finN C k (Nat.add p q) g)
    (fun C k p q g => yes (Nat.ble q p) (finN C k (Nat.sub p q) g) g)
    (fun C k p q g => finN C k (Nat.mul p q) g)
    (fun _ _ _ _ g => g) (fun _ _ _ _ g => g) (fun _ _ _ _ g => g) (fun _ _ _ _ g => g) (fun _ _ _ _ g => g) (fun _ _ _ _ g => g) (fun _ _ _ _ g => g) (fun _ _ _ _ g => g)
    (fun C _ p q _ => finB C (Nat.beq p q)) (fun C _ p q _ => finC C (Nat.beq p q))
    (fun C _ p q _ => finB C (Nat.ble (Nat.succ p) q)) (fun C _ p q _ => finB C (Nat.ble p q))
    (fun C _ p q _ => finB C (Nat.ble (Nat.succ q) p)) (fun C _ p q _ => finB C (Nat.ble q p)) op C k p q g
noncomputable def intL3 (op : BinOp) (C : Ctx) (k : IntKind) (g : R) (p q : Nat) : R := natK op C k p q g
noncomputable def intL2 (op : BinOp) (C : Ctx) (k : IntKind) (g : R) (y : Int) (p : Nat) : R := onNat y (intL3 op C k g p) g
noncomputable def intL1 (op : BinOp) (C : Ctx) (k : IntKind) (g : R) (x y : Int) : R := onNat x (intL2 op C k g y) g
noncomputable def intL0 (op : BinOp) (C : Ctx) (k : IntKind) (b : IE) (g : R) (x : Int) : R := ieLit b (intL1 op C k g x) g
noncomputable def intG (op : BinOp) (C : Ctx) (k : IntKind) (a b : IE) : R := ieLit a (intL0 op C k b (genK op C k a b)) (genK op C k a b)
noncomputable def bin3 (op : BinOp) (C : Ctx) (k : IntKind) (a : IE) (k' : IntKind) (b : IE) : R := yes (Nat.beq (kindNo k) (kindNo k')) (intG op C k a b) (fb C)
noncomputable def bin2 (op : BinOp) (C : Ctx) (k : IntKind) (a : IE) (w : SV) : R := onInt w (bin3 op C k a) (fb C)
noncomputable def bin1 (op : BinOp) (y : CO) (C : Ctx) (k : IntKind) (a : IE) : R := opdC y C (bin2 op C k a)
noncomputable def bin0 (op : BinOp) (y : CO) (C : Ctx) (v : SV) : R := onInt v (bin1 op y C) (fb C)
noncomputable def binK (op : BinOp) (x y : CO) (C : Ctx) : R := opdC x C (bin0 op y C)
theorem optFin_eq (C : Ctx) (v : Option SV) : optFin C v = match v with | some v => fin C v | none => fb C := by
  cases v with
  | none => rfl
  | some v => exact nfS_eq v (fin C)
theorem genK_eq (op : BinOp) (C : Ctx) (k : IntKind) (a b : IE) : genK op C k a b = match intBin C.m.know op k a b with | some v => fin C v | none => fb C :=
  optFin_eq C _
theorem finB_eq (C : Ctx) (b : Bool) : finB C b = fin C (.bool (.lit b)) := by cases b <;> rfl
theorem finC_eq (C : Ctx) (b : Bool) : finC C b = fin C (.bool (.lit (!b))) := by cases b <;> rfl
theorem finN_eq (C : Ctx) (k : IntKind) (n : Nat) (g : R) : finN C k n g = if n ≤ maxN k then fin C (.int k (.lit n)) else g := by
  unfold finN
  rw [forceN_eq]
  unfold finN1
  rw [yes_eq]
  by_cases h : n ≤ maxN k
  · rw [if_pos h, if_pos (Nat.ble_eq_true_of_le h)]; rfl
  · rw [if_neg h, if_neg (fun e => h (Nat.le_of_ble_eq_true e))]
theorem wrap_nat {k : IntKind} {n : Nat} (h : n ≤ maxN k) : k.wrap (n : Int) = n := by
  obtain ⟨h1, h2⟩ := maxN_ok k
  exact wrap_id (by omega) (by omega)
theorem mkWrap_nat (fs : List Fact) {k : IntKind} {n : Nat} (h : n ≤ maxN k) : mkWrap fs k (.lit n) = .lit n := by
  show IE.lit (k.wrap n) = _
  rw [wrap_nat h]
theorem lss_nat (p q : Nat) : Nat.ble (Nat.succ p) q = decide ((p : Int) < (q : Int)) := by
  rw [Bool.eq_iff_iff, Nat.ble_eq, decide_eq_true_eq]; omega
theorem leq_nat (p q : Nat) : Nat.ble p q = !decide ((q : Int) < (p : Int)) := by
  rw [Bool.eq_iff_iff, Nat.ble_eq, Bool.not_eq_true', decide_eq_false_iff_not]; omega
theorem eql_nat (p q : Nat) : Nat.beq p q = decide ((p : Int) = (q : Int)) := by
  rw [Bool.eq_iff_iff, Nat.beq_eq, decide_eq_true_eq]; omega
theorem natK_eq (op : BinOp) (C : Ctx) (k : IntKind) (p q : Nat) : natK op C k p q (genK op C k (.lit p) (.lit q)) = genK op C k (.lit p) (.lit q) := by
  cases op
  case add =>
    show finN C k (p + q) _ = _
    rw [finN_eq]
    split
    · rename_i h
      rw [genK_eq]
      show _ = fin C (.int k (mkWrap _ k (mkAdd (.lit p) (.lit q))))
      rw [show mkAdd (.lit p) (.lit q) = .lit ((p + q : Nat) : Int) by rw [Int.natCast_add]; rfl, mkWrap_nat _ h]
    · rfl
  case sub =>
    show yes (Nat.ble q p) (finN C k (p - q) _) _ = _
    rw [yes_eq]
    split
    · rename_i hle
      have hle := Nat.le_of_ble_eq_true hle
      rw [finN_eq]
      split
      · rename_i h
        rw [genK_eq]
        show _ = fin C (.int k (mkWrap _ k (mkSub (.lit p) (.lit q))))
        rw [show mkSub (.lit p) (.lit q) = .lit ((p - q : Nat) : Int) by rw [Int.natCast_sub hle, Int.sub_eq_add_neg]; rfl, mkWrap_nat _ h]
      · rfl
    · rfl
  case mul =>
    show finN C k (p * q) _ = _
    rw [finN_eq]
    split
    · rename_i h
      rw [genK_eq]
      show _ = fin C (.int k (mkWrap _ k (mkMul (.lit p) (.lit q))))
      rw [show mkMul (.lit p) (.lit q) = .lit ((p * q : Nat) : Int) by rw [Int.natCast_mul]; rfl, mkWrap_nat _ h]
    · rfl
  case eql => show finB C (Nat.beq p q) = _; rw [finB_eq, genK_eq, eql_nat]; rfl
  case neq => show finC C (Nat.beq p q) = _; rw [finC_eq, genK_eq, eql_nat]; rfl
  case lss => show finB C (Nat.ble (Nat.succ p) q) = _; rw [finB_eq, genK_eq, lss_nat]; rfl
  case leq => show finB C (Nat.ble p q) = _; rw [finB_eq, genK_eq, leq_nat]; rfl
  case gtr => show finB C (Nat.ble (Nat.succ q) p) = _; rw [finB_eq, genK_eq, lss_nat]; rfl
  case geq => show finB C (Nat.ble q p) = _; rw [finB_eq, genK_eq, leq_nat]; rfl
  all_goals rfl
theorem intG_eq (op : BinOp) (C : Ctx) (k : IntKind) (a b : IE) : intG op C k a b = genK op C k a b := by
  unfold intG
  cases a <;> try rfl
  rename_i x
  show ieLit b (intL1 op C k _ x) _ = _
  cases b <;> try rfl
  rename_i y
  show onNat x (intL2 op C k _ y) _ = _
  cases x with
  | negSucc n => rfl
  | ofNat p =>
    show onNat y (intL3 op C k _ p) _ = _
    cases y with
    | negSucc n => rfl
    | ofNat q => exact natK_eq op C k p q
section
variable {P : Program} {T : Tab P} {cx : CX} {C : Ctx}
theorem mv_ok (h : Fits T cx C) {x : Operand} (ho : C.o.op = .move x ∨ C.o.op = .assign x) : opdC (coOf x) C (mvK C) = fb C := by
  rw [opdC_eq]
  unfold mvK
  by_cases hv : (coOf x).of C.t = .nil
  · rw [hv]; rfl
  · rw [nnS_eq _ _ hv, ← finM_self]
    have ha : appArgs T ⟨C.n, C.t⟩ C.o = none := by unfold appArgs; rcases ho with e | e <;> rw [e]
    refine h.val ha ?_
    unfold opS
    rcases ho with e | e <;> (rw [e]; dsimp only; rw [coOf_ok hv]; rfl)
theorem bin_ok (h : Fits T cx C) {op : BinOp} {t t' : Nat} {x y : Operand} (ho : C.o.op = .binOp op t x y t') (h1 : op ≠ .shl) (h2 : op ≠ .shr) : binK op (coOf x) (coOf y) C = fb C := by
  unfold binK
  rw [opdC_eq]
  unfold bin0
  cases hv : (coOf x).of C.t <;> try rfl
  rename_i k a
  show opdC (coOf y) C (bin2 op C k a) = _
  rw [opdC_eq]
  unfold bin2
  cases hw : (coOf y).of C.t <;> try rfl
  rename_i k' b
  show yes (Nat.beq (kindNo k) (kindNo k')) (intG op C k a b) (fb C) = _
  rw [yes_eq]
  split
  · rename_i hk
    have hk := kindNo_eq hk
    subst hk
    rw [intG_eq, genK_eq]
    cases hi : intBin C.m.know op k a b with
    | none => rfl
    | some v =>
      dsimp only
      rw [← finM_self]
      have ha : appArgs T ⟨C.n, C.t⟩ C.o = none := by unfold appArgs; rw [ho]
      refine h.val ha ?_
      have hx : opd ⟨C.n, C.t⟩ x = some (.int k a) := by rw [coOf_ok (by rw [hv]; exact fun e => (by cases e)), hv]
      have hy : opd ⟨C.n, C.t⟩ y = some (.int k b) := by rw [coOf_ok (by rw [hw]; exact fun e => (by cases e)), hw]
      unfold opS
      rw [ho]
      dsimp only
      rw [hx, hy]
      dsimp only
      have hb : binS T op t x y (.int k a) (.int k b) C.m = some [(v, C.m)] := by
        unfold binS
        cases op <;> first | exact absurd rfl h1 | exact absurd rfl h2 | (dsimp only [withKnow]; rw [if_pos rfl, hi]; rfl)
      unfold valX
      rw [bind_one hb]
      rfl
  · rfl
end
end Go.Sx
