/- The executor made fast, 5: places, parts, calls. -/
import Derived.Test.YthhjijadllpcpaaSyD
namespace Go.Sx
open Go

abbrev G1 := Know → SV → Option SV
abbrev G2 := Know → SV → SV → Option SV
noncomputable def know1 (C : Ctx) (g : G1) (v : SV) : R := Ctx.rec (motive := fun _ => Ctx → G1 → SV → R) (fun _ _ _ _ _ m _ C g v => optFin C (g (Mem.know m) v)) C C g v
noncomputable def know2 (C : Ctx) (g : G2) (v w : SV) : R := Ctx.rec (motive := fun _ => Ctx → G2 → SV → SV → R) (fun _ _ _ _ _ m _ C g v w => optFin C (g (Mem.know m) v w)) C C g v w
theorem know1_eq (C : Ctx) (g : G1) (v : SV) : know1 C g v = match g C.m.know v with | some r => fin C r | none => fb C := optFin_eq C _
theorem know2_eq (C : Ctx) (g : G2) (v w : SV) : know2 C g v w = match g C.m.know v w with | some r => fin C r | none => fb C := optFin_eq C _
noncomputable def p1a (C : Ctx) (g : G1) (v : SV) : R := nnS v (know1 C g) (fb C)
noncomputable def p1K (g : G1) (x : CO) (C : Ctx) : R := opdC x C (p1a C g)
/- places -/
noncomputable def finPtr (C : Ctx) (s k n : Nat) : R := fin C (.ptr s k (.lit (.ofNat n)))
noncomputable def fa2 (off : Nat) (C : Ctx) (s k n : Nat) : R := forceN (Nat.add n off) (finPtr C s k)
noncomputable def fa1 (off : Nat) (g : G1) (C : Ctx) (s k : Nat) (e : IE) : R := ieNat e (fa2 off C s k) (know1 C g (.ptr s k e))
noncomputable def fa0 (off : Nat) (g : G1) (C : Ctx) (v : SV) : R := onPtr v (fa1 off g C) (fb C)
noncomputable def faK (off : Nat) (g : G1) (x : CO) (C : Ctx) : R := opdC x C (fa0 off g C)
noncomputable def ia6 (n z : Nat) (C : Ctx) (s k a : Nat) (G : R) (b : Nat) : R := yes (Nat.ble (Nat.succ b) n) (forceN (Nat.add a (Nat.mul b z)) (finPtr C s k)) G
noncomputable def ia5 (n z : Nat) (C : Ctx) (s k : Nat) (i : IE) (G : R) (a : Nat) : R := ieNat i (ia6 n z C s k a G) G
noncomputable def ia4 (n z : Nat) (g : G2) (C : Ctx) (v : SV) (s k : Nat) (e : IE) (kd : IntKind) (i : IE) : R := ieNat e (ia5 n z C s k i (know2 C g v (.int kd i))) (know2 C g v (.int kd i))
noncomputable def ia3 (n z : Nat) (g : G2) (C : Ctx) (v : SV) (s k : Nat) (e : IE) (w : SV) : R := onInt w (ia4 n z g C v s k e) (fb C)
noncomputable def ia1 (n z : Nat) (g : G2) (i : CO) (C : Ctx) (s k : Nat) (e : IE) : R := opdC i C (ia3 n z g C (.ptr s k e) s k e)
noncomputable def ia0 (n z : Nat) (g : G2) (i : CO) (C : Ctx) (v : SV) : R := onPtr v (ia1 n z g i C) (fb C)
noncomputable def iaK (n z : Nat) (g : G2) (x i : CO) (C : Ctx) : R := opdC x C (ia0 n z g i C)
noncomputable def is5 (z : Nat) (g : G2) (C : Ctx) (v : SV) (s k : Nat) (e : IE) (kd : IntKind) (i : IE) (n : Nat) : R := ia4 n z g C v s k e kd i
noncomputable def is4 (z : Nat) (g : G2) (C : Ctx) (v : SV) (s k : Nat) (e len : IE) (kd : IntKind) (i : IE) : R := ieNat len (is5 z g C v s k e kd i) (know2 C g v (.int kd i))
noncomputable def is3 (z : Nat) (g : G2) (C : Ctx) (v : SV) (s k : Nat) (e len : IE) (w : SV) : R := onInt w (is4 z g C v s k e len) (fb C)
noncomputable def is1 (z : Nat) (g : G2) (i : CO) (C : Ctx) (s k : Nat) (e len cap : IE) : R := opdC i C (is3 z g C (.sli s k e len cap) s k e len)
noncomputable def is0 (z : Nat) (g : G2) (i : CO) (C : Ctx) (v : SV) : R := onSli v (is1 z g i C) (fb C)
noncomputable def isK2 (z : Nat) (g : G2) (x i : CO) (C : Ctx) : R := opdC x C (is0 z g i C)
/- checks, tuples, interfaces -/
noncomputable def chkOr (v : SV) (a b : R) : R := SV.rec (motive := fun _ => R → R → R) (fun _ b => b) (fun _ _ b => b) (fun _ _ _ b => b) (fun _ _ b => b) (fun _ b => b) (fun _ _ _ a _ => a) (fun _ b => b) (fun _ _ _ _ _ _ b => b) (fun _ _ _ a _ => a) (fun _ b => b) (fun _ _ _ a _ => a) (fun _ b => b) (fun _ _ _ b => b) (fun _ _ _ b => b) (fun _ b => b) (fun _ _ _ _ _ b => b) (fun _ _ _ _ _ _ b => b) (fun _ _ _ _ _ b => b) (fun _ _ _ _ b => b) v a b
noncomputable def nc0 (C : Ctx) (v : SV) : R := chkOr v (fin C v) (fb C)
noncomputable def ncK (x : CO) (C : Ctx) : R := opdC x C (nc0 C)
noncomputable def tupV (c : SV) (a b : R) : R := SV.rec (motive := fun _ => R → R → R) (fun _ b => b) (fun _ _ b => b) (fun _ _ _ b => b) (fun _ _ b => b) (fun _ b => b) (fun _ _ _ _ b => b) (fun _ b => b) (fun _ _ _ _ _ _ b => b) (fun _ _ _ _ b => b) (fun _ b => b) (fun _ _ _ _ b => b) (fun _ b => b) (fun _ _ _ b => b) (fun _ _ _ b => b) (fun a _ => a) (fun x _ _ ih a b => vOr x (ih a b) b) (fun _ _ _ _ _ _ b => b) (fun _ _ _ _ _ b => b) (fun _ _ _ _ b => b) c a b
noncomputable def tupN (c : SV) (i : Nat) (K : SV → R) (N : R) : R := SV.rec (motive := fun _ => Nat → (SV → R) → R → R) (fun _ _ N => N) (fun _ _ _ N => N) (fun _ _ _ _ N => N) (fun _ _ _ N => N) (fun _ _ N => N) (fun _ _ _ _ _ N => N) (fun _ _ N => N) (fun _ _ _ _ _ _ _ N => N) (fun _ _ _ _ _ N => N) (fun _ _ N => N) (fun _ _ _ _ _ N => N) (fun _ _ N => N) (fun _ _ _ _ N => N) (fun _ _ _ _ N => N) (fun _ _ N => N) (fun x r _ ih i K N => vOr x (yes (Nat.beq i 0) (tupV r (K x) N) (ih (Nat.pred i) K N)) N) (fun _ _ _ _ _ _ _ N => N) (fun _ _ _ _ _ _ N => N) (fun _ _ _ _ _ N => N) c i K N
noncomputable def ex1 (i : Nat) (C : Ctx) (c : SV) : R := tupN c i (fin C) (fb C)
noncomputable def ex0 (i : Nat) (C : Ctx) (v : SV) : R := onTup v (ex1 i C) (fb C)
noncomputable def exK (i : Nat) (x : CO) (C : Ctx) : R := opdC x C (ex0 i C)
noncomputable def mi0 (t : Nat) (C : Ctx) (v : SV) : R := vOr v (fin C (.ifc t v)) (fb C)
noncomputable def miK (t : Nat) (x : CO) (C : Ctx) : R := opdC x C (mi0 t C)
noncomputable def taV (ok : Bool) (C : Ctx) (v : SV) : R := yes ok (fin C (.tup (.cons v (.cons (.bool (.lit true)) .nil)))) (fin C v)
noncomputable def ta2 (t : Nat) (ok : Bool) (z : SV) (C : Ctx) (t' : Nat) (v : SV) : R := yes (Nat.beq t' t) (vOr v (taV ok C v) (fb C)) (yes ok (vOr z (fin C (.tup (.cons z (.cons (.bool (.lit false)) .nil)))) (fb C)) (fb C))
noncomputable def ta0 (t : Nat) (ok : Bool) (z : SV) (C : Ctx) (v : SV) : R := onIfc v (ta2 t ok z C) (fb C)
noncomputable def taK (t : Nat) (ok : Bool) (z : SV) (x : CO) (C : Ctx) : R := opdC x C (ta0 t ok z C)
noncomputable def cv2 (k : IntKind) (C : Ctx) (G : R) (n : Nat) : R := yes (Nat.ble n (maxN k)) (fin C (.int k (.lit (.ofNat n)))) G
noncomputable def cv1 (k : IntKind) (g : G1) (C : Ctx) (k' : IntKind) (e : IE) : R := ieNat e (cv2 k C (know1 C g (.int k' e))) (know1 C g (.int k' e))
noncomputable def cv0 (k : IntKind) (g : G1) (C : Ctx) (v : SV) : R := onInt v (cv1 k g C) (fb C)
noncomputable def cvK (k : IntKind) (g : G1) (x : CO) (C : Ctx) : R := opdC x C (cv0 k g C)
noncomputable def le1 (g : G1) (C : Ctx) (s k : Nat) (o len cap : IE) : R := ieNat len (fun _ => fin C (.int .i64 len)) (know1 C g (.sli s k o len cap))
noncomputable def le0 (g : G1) (C : Ctx) (v : SV) : R := onSli v (le1 g C) (p1a C g v)
noncomputable def leK (g : G1) (x : CO) (C : Ctx) : R := opdC x C (le0 g C)
/- parts -/
noncomputable def fl1 (off : Nat) (C : Ctx) (c : SV) : R := getNK c off (fin C) (fb C)
noncomputable def fl0 (off : Nat) (C : Ctx) (v : SV) : R := onAgg v (fl1 off C) (fb C)
noncomputable def flK (off : Nat) (x : CO) (C : Ctx) : R := opdC x C (fl0 off C)
noncomputable def fg1 (off z : Nat) (C : Ctx) (c : SV) : R := takeK c off z (finA C) (fb C)
noncomputable def fg0 (off z : Nat) (C : Ctx) (v : SV) : R := onAgg v (fg1 off z C) (fb C)
noncomputable def fgK (off z : Nat) (x : CO) (C : Ctx) : R := opdC x C (fg0 off z C)
/-- the part at a place of an array: one cell, or a row -/
noncomputable def partK (ag : Bool) (z : Nat) (c : SV) (C : Ctx) (n : Nat) : R := yes ag (takeK c n z (finA C) (fb C)) (getNK c n (fin C) (fb C))
noncomputable def ix4 (ag : Bool) (n z : Nat) (C : Ctx) (c : SV) (b : Nat) : R := yes (Nat.ble (Nat.succ b) n) (partK ag z c C (Nat.mul b z)) (fb C)
noncomputable def ix3 (ag : Bool) (n z : Nat) (C : Ctx) (c : SV) (_ : IntKind) (i : IE) : R := ieNat i (ix4 ag n z C c) (fb C)
noncomputable def ix2 (ag : Bool) (n z : Nat) (C : Ctx) (c w : SV) : R := onInt w (ix3 ag n z C c) (fb C)
noncomputable def ix1 (ag : Bool) (n z : Nat) (i : CO) (C : Ctx) (c : SV) : R := opdC i C (ix2 ag n z C c)
noncomputable def ix0 (ag : Bool) (n z : Nat) (i : CO) (C : Ctx) (v : SV) : R := onAgg v (ix1 ag n z i C) (fb C)
noncomputable def ixK (ag : Bool) (n z : Nat) (x i : CO) (C : Ctx) : R := opdC x C (ix0 ag n z i C)
/- new blocks -/
noncomputable def al2 (C : Ctx) (t : Nat) (c : SV) (kn : Know) (h : List Ent) (sg nx nv nx' : Nat) : R := finM C (.ptr sg nx (.lit 0)) ⟨kn, ⟨sg, nx, false, t, .lit 0, c⟩ :: h, sg, nx', nv⟩
noncomputable def alK (t : Nat) (c : SV) (C : Ctx) : R :=
  Ctx.rec (motive := fun _ => Ctx → Nat → SV → R) (fun _ _ _ _ _ m _ C t c => Mem.rec (motive := fun _ => Ctx → Nat → SV → R) (fun kn h sg nx nv C t c => forceN (Nat.succ nx) (al2 C t c kn h sg nx nv)) m C t c) C C t c
theorem alK_eq (t : Nat) (c : SV) (C : Ctx) : alK t c C = finM C (.ptr C.m.seg C.m.next (.lit 0)) { C.m with heap := { s := C.m.seg, k := C.m.next, ro := false, t, base := .lit 0, c } :: C.m.heap, next := C.m.next + 1 } := by
  obtain ⟨d, o, old, n, t', ⟨kn, h, sg, nx, nv⟩, K⟩ := C
  exact forceN_eq (Nat.succ nx) (al2 ⟨d, o, old, n, t', ⟨kn, h, sg, nx, nv⟩, K⟩ t c kn h sg nx nv)
noncomputable def bx0 (t : Nat) (C : Ctx) (v : SV) : R := onAgg v (fun c => alK t c C) (cOr v (alK t (.cons v .nil) C) (fb C))
noncomputable def bxK (t : Nat) (x : CO) (C : Ctx) : R := opdC x C (bx0 t C)
/- one of two -/
noncomputable def beLitR (b : BE) (f : Bool → R) (g : R) : R := BE.rec (motive := fun _ => (Bool → R) → R → R) (fun b f _ => f b) (fun _ _ g => g) (fun _ _ _ g => g) (fun _ _ _ g => g) (fun _ _ _ g => g) b f g
noncomputable def pi2 (C : Ctx) (a b : CO) (c : Bool) : R := opdC a C (fun x => nnS x (fun x => opdC b C (fun y => nnS y (fun y => yes c (fin C x) (fin C y)) (fb C))) (fb C))
noncomputable def pi0 (C : Ctx) (a b : CO) (v : SV) : R := onBool v (fun t => beLitR t (pi2 C a b) (fb C)) (fb C)
noncomputable def piK (c a b : CO) (C : Ctx) : R := opdC c C (pi0 C a b)
section
variable {P : Program} {T : Tab P} {cx : CX} {C : Ctx}
/-- an operation that looks at one value alone -/
structure P1 (T : Tab P) (C : Ctx) (x : Operand) (g : G1) : Prop where
  app : appArgs T ⟨C.n, C.t⟩ C.o = none
  run : ∀ v, opd ⟨C.n, C.t⟩ x = some v → opS T ⟨C.n, C.t⟩ C.o C.m = valO (g C.m.know v) C.m
theorem P1.fin (h : Fits T cx C) {x : Operand} {g : G1} (p : P1 T C x g) {r : SV} (hv : (coOf x).of C.t ≠ .nil) (hr : g C.m.know ((coOf x).of C.t) = some r) : fin C r = fb C := by
  rw [← finM_self]
  exact h.val p.app (by rw [p.run _ (coOf_ok hv), hr]; rfl)
theorem P1.know (h : Fits T cx C) {x : Operand} {g : G1} (p : P1 T C x g) (hv : (coOf x).of C.t ≠ .nil) : know1 C g ((coOf x).of C.t) = fb C := by
  rw [know1_eq]
  cases hr : g C.m.know ((coOf x).of C.t) with
  | none => rfl
  | some r => exact p.fin h hv hr
theorem P1.p1a (h : Fits T cx C) {x : Operand} {g : G1} (p : P1 T C x g) : p1a C g ((coOf x).of C.t) = fb C := by
  unfold Sx.p1a
  by_cases hv : (coOf x).of C.t = .nil
  · rw [hv]; rfl
  · rw [nnS_eq _ _ hv]; exact p.know h hv
theorem p1_ok (h : Fits T cx C) {x : Operand} {g : G1} (p : P1 T C x g) : p1K g (coOf x) C = fb C := by
  unfold p1K
  rw [opdC_eq]
  exact p.p1a h
structure P2 (T : Tab P) (C : Ctx) (x y : Operand) (g : G2) : Prop where
  app : appArgs T ⟨C.n, C.t⟩ C.o = none
  run : ∀ v w, opd ⟨C.n, C.t⟩ x = some v → opd ⟨C.n, C.t⟩ y = some w → opS T ⟨C.n, C.t⟩ C.o C.m = valO (g C.m.know v w) C.m
theorem P2.fin (h : Fits T cx C) {x y : Operand} {g : G2} (p : P2 T C x y g) {r : SV} (hv : (coOf x).of C.t ≠ .nil) (hw : (coOf y).of C.t ≠ .nil) (hr : g C.m.know ((coOf x).of C.t) ((coOf y).of C.t) = some r) : fin C r = fb C := by
  rw [← finM_self]
  exact h.val p.app (by rw [p.run _ _ (coOf_ok hv) (coOf_ok hw), hr]; rfl)
theorem P2.know (h : Fits T cx C) {x y : Operand} {g : G2} (p : P2 T C x y g) (hv : (coOf x).of C.t ≠ .nil) (hw : (coOf y).of C.t ≠ .nil) : know2 C g ((coOf x).of C.t) ((coOf y).of C.t) = fb C := by
  rw [know2_eq]
  cases hr : g C.m.know ((coOf x).of C.t) ((coOf y).of C.t) with
  | none => rfl
  | some r => exact p.fin h hv hw hr
theorem nonneg_lit (kn : Know) (n : Nat) : nonneg kn (.lit n) = true := by
  unfold nonneg
  exact decide_eq_true (show (0 : Int) ≤ (n : Int) by omega)
theorem isLt_lit (kn : Know) (a b : Nat) : isLt kn (.lit a) (.lit b) = decide (a < b) := by
  unfold isLt
  show (BE.lit (decide ((a : Int) < (b : Int))) == BE.lit true) = _
  by_cases h : a < b
  · rw [decide_eq_true (show (a : Int) < b by omega), decide_eq_true h]; rfl
  · rw [decide_eq_false (show ¬ (a : Int) < b by omega), decide_eq_false h]; rfl
theorem mkAdd_lit (a b : Nat) : mkAdd (.lit a) (.lit b) = .lit ((a + b : Nat) : Int) := by rw [Int.natCast_add]; rfl
theorem mkMul_lit (a b : Nat) : mkMul (.lit a) (.lit b) = .lit ((a * b : Nat) : Int) := by rw [Int.natCast_mul]; rfl
theorem fa_ok (h : Fits T cx C) {t i sz off : Nat} {fs : Array Field} {f : Field} {x : Operand} (ho : C.o.op = .fieldAddr t x i) (ht : T.under t = some (.struct fs)) (hf : fs[i]? = some f) (hz : sizeIn T f.type = some sz) (h0 : sz ≠ 0) (hoff : f.offset = off) :
    faK off (fun kn v => fieldAddrS T kn t v i) (coOf x) C = fb C := by
  have p : P1 T C x (fun kn v => fieldAddrS T kn t v i) := ⟨by unfold appArgs; rw [ho], fun v hv => by unfold opS; rw [ho]; dsimp only; rw [hv]; rfl⟩
  unfold faK
  rw [opdC_eq]
  have key : ∀ r, fieldAddrS T C.m.know t ((coOf x).of C.t) i = some r → (coOf x).of C.t ≠ .nil → fin C r = fb C := fun r hr hv => p.fin h hv hr
  have key2 := fun hv => p.know h (g := fun kn v => fieldAddrS T kn t v i) hv
  generalize (coOf x).of C.t = v at key key2
  unfold fa0
  cases v <;> try rfl
  rename_i s k e
  show fa1 off _ C s k e = _
  unfold fa1
  rcases ieNat_eq e (fa2 off C s k) (know1 C (fun kn v => fieldAddrS T kn t v i) (.ptr s k e)) with e1 | ⟨n, rfl, e1⟩
  · rw [e1]; exact key2 (by intro hh; cases hh)
  · rw [e1]
    unfold fa2
    rw [forceN_eq]
    refine key _ ?_ (by intro hh; cases hh)
    unfold fieldAddrS
    rw [ht]
    dsimp only
    rw [hf]
    dsimp only
    rw [hz]
    dsimp only
    rw [if_pos ⟨h0, nonneg_lit _ n⟩, hoff, mkAdd_lit]
    rfl
theorem ia4_ok {n z : Nat} {g : G2} {v : SV} {s k : Nat} {e : IE} {kd : IntKind} {i : IE} (hk : know2 C g v (.int kd i) = fb C)
    (hr : ∀ a b : Nat, e = .lit a → i = .lit b → b < n → fin C (.ptr s k (.lit ((a + b * z : Nat) : Int))) = fb C) : ia4 n z g C v s k e kd i = fb C := by
  unfold ia4
  rw [hk]
  rcases ieNat_eq e (ia5 n z C s k i (fb C)) (fb C) with e1 | ⟨a, ha, e1⟩
  · exact e1
  · rw [e1]
    unfold ia5
    rcases ieNat_eq i (ia6 n z C s k a (fb C)) (fb C) with e2 | ⟨b, hb, e2⟩
    · exact e2
    · rw [e2]
      unfold ia6
      rw [yes_ble]
      by_cases h : Nat.succ b ≤ n
      · rw [if_pos h, forceN_eq]
        exact hr a b ha hb h
      · rw [if_neg h]
theorem ia_ok (h : Fits T cx C) {t n el z : Nat} {x y : Operand} (ho : C.o.op = .indexAddr t x y) (ht : T.under t = some (.array n el)) (hz : sizeIn T el = some z) :
    iaK n z (fun kn v w => indexAddrS T kn t v w) (coOf x) (coOf y) C = fb C := by
  have p : P2 T C x y (fun kn v w => indexAddrS T kn t v w) := ⟨by unfold appArgs; rw [ho], fun v w hv hw => by unfold opS; rw [ho]; dsimp only; rw [hv, hw]; rfl⟩
  unfold iaK
  rw [opdC_eq]
  unfold ia0
  cases hv : (coOf x).of C.t <;> try rfl
  rename_i s k e
  show opdC (coOf y) C (ia3 n z _ C (.ptr s k e) s k e) = _
  rw [opdC_eq]
  unfold ia3
  cases hw : (coOf y).of C.t <;> try rfl
  rename_i kd i
  show ia4 n z _ C (.ptr s k e) s k e kd i = _
  have n1 : (coOf x).of C.t ≠ .nil := by rw [hv]; intro hh; cases hh
  have n2 : (coOf y).of C.t ≠ .nil := by rw [hw]; intro hh; cases hh
  refine ia4_ok ?_ fun a b ha hb hlt => ?_
  · have := p.know h n1 n2
    rw [hv, hw] at this
    exact this
  · refine p.fin h n1 n2 ?_
    rw [hv, hw, ha, hb]
    unfold indexAddrS
    rw [ht]
    dsimp only
    rw [hz]
    dsimp only
    rw [if_pos ⟨nonneg_lit _ a, nonneg_lit _ b, by rw [isLt_lit]; exact decide_eq_true hlt⟩, mkMul_lit, mkAdd_lit]
theorem is_ok (h : Fits T cx C) {t el z : Nat} {x y : Operand} (ho : C.o.op = .indexAddr t x y) (ht : T.under t = some (.slice el)) (hz : sizeIn T el = some z) :
    isK2 z (fun kn v w => indexAddrS T kn t v w) (coOf x) (coOf y) C = fb C := by
  have p : P2 T C x y (fun kn v w => indexAddrS T kn t v w) := ⟨by unfold appArgs; rw [ho], fun v w hv hw => by unfold opS; rw [ho]; dsimp only; rw [hv, hw]; rfl⟩
  unfold isK2
  rw [opdC_eq]
  unfold is0
  cases hv : (coOf x).of C.t <;> try rfl
  rename_i s k e len cap
  show opdC (coOf y) C (is3 z _ C (.sli s k e len cap) s k e len) = _
  rw [opdC_eq]
  unfold is3
  cases hw : (coOf y).of C.t <;> try rfl
  rename_i kd i
  show is4 z _ C (.sli s k e len cap) s k e len kd i = _
  have n1 : (coOf x).of C.t ≠ .nil := by rw [hv]; intro hh; cases hh
  have n2 : (coOf y).of C.t ≠ .nil := by rw [hw]; intro hh; cases hh
  have hk : know2 C (fun kn v w => indexAddrS T kn t v w) (.sli s k e len cap) (.int kd i) = fb C := by
    have := p.know h n1 n2
    rw [hv, hw] at this
    exact this
  unfold is4
  rw [hk]
  rcases ieNat_eq len (is5 z (fun kn v w => indexAddrS T kn t v w) C (.sli s k e len cap) s k e kd i) (fb C) with e1 | ⟨n, hn, e1⟩
  · exact e1
  · rw [e1]
    unfold is5
    refine ia4_ok hk fun a b ha hb hlt => ?_
    refine p.fin h n1 n2 ?_
    rw [hv, hw, ha, hb, hn]
    unfold indexAddrS
    rw [ht]
    dsimp only
    rw [hz]
    dsimp only
    rw [if_pos ⟨nonneg_lit _ a, nonneg_lit _ b, by rw [isLt_lit]; exact decide_eq_true hlt⟩, mkMul_lit, mkAdd_lit]
theorem nc_ok (h : Fits T cx C) {x : Operand} (ho : C.o.op = .nilCheck x) : ncK (coOf x) C = fb C := by
  have p : P1 T C x (fun _ v => nilCheckS v) := ⟨by unfold appArgs; rw [ho], fun v hv => by unfold opS; rw [ho]; dsimp only; rw [hv]⟩
  unfold ncK
  rw [opdC_eq]
  unfold nc0
  have key : ∀ r, nilCheckS ((coOf x).of C.t) = some r → (coOf x).of C.t ≠ .nil → fin C r = fb C := fun r hr hv => p.fin h hv hr
  generalize (coOf x).of C.t = v at key
  cases v <;> first | rfl | exact key _ rfl (by intro hh; cases hh)
theorem tupV_eq : ∀ (c : SV) (a b : R), tupV c a b = b ∨ ((∃ l, listOf c = some l) ∧ tupV c a b = a)
  | .nil, a, b => .inr ⟨⟨[], rfl⟩, rfl⟩
  | .cons x r, a, b => by
    show vOr x (tupV r a b) b = b ∨ (_ ∧ vOr x (tupV r a b) b = a)
    rw [vOr_eq]
    by_cases hx : x.isV = true
    · rw [if_pos hx]
      rcases tupV_eq r a b with e | ⟨⟨l, hl⟩, e⟩
      · exact .inl e
      · exact .inr ⟨⟨x :: l, by unfold listOf; rw [if_pos hx, hl]⟩, e⟩
    · rw [if_neg hx]; exact .inl rfl
  | .undef, _, _ | .opq _, _, _ | .int _ _, _, _ | .bool _, _, _ | .nilp, _, _ | .ptr _ _ _, _, _ | .nils, _, _ | .sli _ _ _ _ _, _, _ | .fn _ _, _, _ | .nilf, _, _ | .ifc _ _, _, _ | .nili, _, _ | .agg _, _, _ | .tup _, _, _ | .arr _ _ _ _, _, _ | .wr _ _ _, _, _ | .rep _ _, _, _ => .inl rfl
theorem tupN_eq : ∀ (c : SV) (i : Nat) (K : SV → R) (N : R), tupN c i K N = N ∨ ∃ l x, listOf c = some l ∧ l[i]? = some x ∧ tupN c i K N = K x
  | .nil, _, _, _ => .inl rfl
  | .cons x r, i, K, N => by
    show vOr x (yes (Nat.beq i 0) (tupV r (K x) N) (tupN r (Nat.pred i) K N)) N = N ∨ ∃ l y, _ ∧ _ ∧ vOr x (yes (Nat.beq i 0) (tupV r (K x) N) (tupN r (Nat.pred i) K N)) N = K y
    rw [vOr_eq]
    by_cases hx : x.isV = true
    · rw [if_pos hx, yes_beq]
      by_cases hi : i = 0
      · rw [if_pos hi]
        rcases tupV_eq r (K x) N with e | ⟨⟨l, hl⟩, e⟩
        · exact .inl e
        · exact .inr ⟨x :: l, x, by unfold listOf; rw [if_pos hx, hl], by rw [hi]; rfl, e⟩
      · rw [if_neg hi]
        rcases tupN_eq r (Nat.pred i) K N with e | ⟨l, y, hl, hy, e⟩
        · exact .inl e
        · refine .inr ⟨x :: l, y, by unfold listOf; rw [if_pos hx, hl], ?_, e⟩
          cases i with
          | zero => exact absurd rfl hi
          | succ i => exact hy
    · rw [if_neg hx]; exact .inl rfl
  | .undef, _, _, _ | .opq _, _, _, _ | .int _ _, _, _, _ | .bool _, _, _, _ | .nilp, _, _, _ | .ptr _ _ _, _, _, _ | .nils, _, _, _ | .sli _ _ _ _ _, _, _, _ | .fn _ _, _, _, _ | .nilf, _, _, _ | .ifc _ _, _, _, _ | .nili, _, _, _ | .agg _, _, _, _ | .tup _, _, _, _ | .arr _ _ _ _, _, _, _ | .wr _ _ _, _, _, _ | .rep _ _, _, _, _ => .inl rfl
theorem ex_ok (h : Fits T cx C) {x : Operand} {i : Nat} (ho : C.o.op = .extract x i) : exK i (coOf x) C = fb C := by
  have p : P1 T C x (fun _ v => extractS v i) := ⟨by unfold appArgs; rw [ho], fun v hv => by unfold opS; rw [ho]; dsimp only; rw [hv]⟩
  unfold exK
  rw [opdC_eq]
  unfold ex0
  have key : ∀ r, extractS ((coOf x).of C.t) i = some r → (coOf x).of C.t ≠ .nil → fin C r = fb C := fun r hr hv => p.fin h hv hr
  generalize (coOf x).of C.t = v at key
  cases v <;> try rfl
  rename_i c
  show ex1 i C c = _
  unfold ex1
  rcases tupN_eq c i (fin C) (fb C) with e | ⟨l, y, hl, hy, e⟩
  · exact e
  · rw [e]
    exact key y (by unfold extractS; dsimp only; rw [hl]; exact hy) (by intro hh; cases hh)
theorem mi_ok (h : Fits T cx C) {x : Operand} {t : Nat} {d : TypeDesc} (ho : C.o.op = .makeInterface t x) (ht : T.under t = some d) (hd : ∀ i, d ≠ .interface i) : miK t (coOf x) C = fb C := by
  have p : P1 T C x (fun _ v => makeIfaceS T t v) := ⟨by unfold appArgs; rw [ho], fun v hv => by unfold opS; rw [ho]; dsimp only; rw [hv]⟩
  unfold miK
  rw [opdC_eq]
  unfold mi0
  rw [vOr_eq]
  split
  · rename_i hv
    refine p.fin h (by intro e; rw [e] at hv; cases hv) ?_
    unfold makeIfaceS
    rw [ht]
    split
    · rename_i e; injection e with e; exact absurd e (hd _)
    · rw [if_pos hv]
    · rename_i e; cases e
  · rfl
theorem ta_ok (h : Fits T cx C) {x : Operand} {xt t : Nat} {ok : Bool} {d : TypeDesc} {z : SV} (ho : C.o.op = .typeAssert x xt t ok) (ht : T.under t = some d) (hd : ∀ i, d ≠ .interface i) (hz : T.zero t = some z) : taK t ok z (coOf x) C = fb C := by
  have p : P1 T C x (fun _ v => typeAssertS T v xt t ok) := ⟨by unfold appArgs; rw [ho], fun v hv => by unfold opS; rw [ho]; dsimp only; rw [hv]⟩
  unfold taK
  rw [opdC_eq]
  unfold ta0
  have key : ∀ r, typeAssertS T ((coOf x).of C.t) xt t ok = some r → (coOf x).of C.t ≠ .nil → fin C r = fb C := fun r hr hv => p.fin h hv hr
  generalize (coOf x).of C.t = v at key
  cases v <;> try rfl
  rename_i t' v
  show ta2 t ok z C t' v = _
  have e : typeAssertS T (.ifc t' v) xt t ok = if t' = t then (if v.isV then some (if ok then .tup (.cons v (.cons (.bool (.lit true)) .nil)) else v) else none)
      else if ok then match T.zero t with
        | some z => if z.isV then some (.tup (.cons z (.cons (.bool (.lit false)) .nil))) else none
        | none => none
      else none := by
    unfold typeAssertS
    rw [ht]
    cases d <;> first | rfl | exact absurd rfl (hd _)
  rw [e] at key
  unfold ta2
  rw [yes_beq]
  by_cases h1 : t' = t
  · rw [if_pos h1] at key ⊢
    rw [vOr_eq]
    split
    · rename_i hv
      rw [if_pos hv] at key
      unfold taV
      rw [yes_eq]
      cases ok
      · exact key _ rfl (by intro hh; cases hh)
      · exact key _ rfl (by intro hh; cases hh)
    · rfl
  · rw [if_neg h1] at key ⊢
    rw [yes_eq]
    cases ok
    · rfl
    · rw [if_pos rfl] at key ⊢
      rw [vOr_eq]
      split
      · rename_i hv
        rw [hz] at key
        dsimp only at key
        rw [if_pos hv] at key
        exact key _ rfl (by intro hh; cases hh)
      · rfl
theorem cv_ok (h : Fits T cx C) {x : Operand} {s d : Nat} {k : IntKind} {u : TypeDesc} (ho : C.o.op = .convert s d x) (hs : T.under s = some u) (hd : T.under d = some (.int k)) : cvK k (fun kn v => convertS T kn s d v) (coOf x) C = fb C := by
  have p : P1 T C x (fun kn v => convertS T kn s d v) := ⟨by unfold appArgs; rw [ho], fun v hv => by unfold opS; rw [ho]; dsimp only; rw [hv]; rfl⟩
  unfold cvK
  rw [opdC_eq]
  unfold cv0
  have key : ∀ r, convertS T C.m.know s d ((coOf x).of C.t) = some r → (coOf x).of C.t ≠ .nil → fin C r = fb C := fun r hr hv => p.fin h hv hr
  have key2 := fun hv => p.know h (g := fun kn v => convertS T kn s d v) hv
  generalize (coOf x).of C.t = v at key key2
  cases v <;> try rfl
  rename_i k' e
  show cv1 k _ C k' e = _
  have hk := key2 (by intro hh; cases hh)
  unfold cv1
  rw [hk]
  rcases ieNat_eq e (cv2 k C (fb C)) (fb C) with e1 | ⟨n, rfl, e1⟩
  · exact e1
  · rw [e1]
    unfold cv2
    rw [yes_ble]
    by_cases hn : n ≤ maxN k
    · rw [if_pos hn]
      refine key _ ?_ (by intro hh; cases hh)
      unfold convertS
      rw [hs, hd]
      dsimp only
      rw [mkWrap_nat _ hn]
      rfl
    · rw [if_neg hn]
end
end Go.Sx
