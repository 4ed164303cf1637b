/- The executor, part 5. -/
import Derived.Test.YtojpmbkbeoolcaaE4
namespace Go.Sx
open Go
inductive COp where
 | old
 | mv (x : CO)
 | bin (op : BinOp) (x : CO) (y : CO)
 | ld (x : CO)
 | lda (z : Nat) (x : CO)
 | st (x : CO) (y : CO)
 | sta (z : Nat) (x : CO) (y : CO)
 | fa (off : Nat) (g : G1) (x : CO)
 | ia (n : Nat) (z : Nat) (g : G2) (x : CO) (y : CO)
 | isl (z : Nat) (g : G2) (x : CO) (y : CO)
 | nc (x : CO)
 | ex (i : Nat) (x : CO)
 | mi (t : Nat) (x : CO)
 | ta (t : Nat) (ok : Bool) (z : SV) (x : CO)
 | cv (k : IntKind) (g : G1) (x : CO)
 | p1 (g : G1) (x : CO)
 | le (g : G1) (x : CO)
 | fl (off : Nat) (x : CO)
 | fg (off : Nat) (z : Nat) (x : CO)
 | ix (ag : Bool) (n : Nat) (z : Nat) (x : CO) (y : CO)
 | al (t : Nat) (c : SV)
 | bx (t : Nat) (x : CO)
 | pi (c : CO) (x : CO) (y : CO)
 | cal (f : Nat) (args : List CO)
 | clv (cf : Nat → Bool) (x : CO) (args : List CO)
 | inv (mf : Nat → Option Nat) (x : CO) (args : List CO)
 | bld (ps : List PartC) (z : SV)
 | eqa (ng : Bool) (l : List Leaf) (n : Nat) (ex : EqxT) (sl : SlowT) (x : CO) (y : CO)
noncomputable def runOp (c : COp) (cx : CX) (C : Ctx) : R :=
 COp.rec (motive := fun _ => CX → Ctx → R) (fun _ C => fb C) (fun x _ C => opdC x C (mvK C)) (fun op x y _ C => binK op x y C) (fun x _ C => ldK x C) (fun z x _ C => ldaK z x C) (fun x y _ C => stK x y C) (fun z x y _ C => stAK z x y C) (fun off g x _ C => faK off g x C) (fun n z g x y _ C => iaK n z g x y C) (fun z g x y _ C => isK2 z g x y C) (fun x _ C => ncK x C) (fun i x _ C => exK i x C) (fun t x _ C => miK t x C) (fun t ok z x _ C => taK t ok z x C) (fun k g x _ C => cvK k g x C) (fun g x _ C => p1K g x C) (fun g x _ C => leK g x C) (fun off x _ C => flK off x C) (fun off z x _ C => fgK off z x C) (fun ag n z x y _ C => ixK ag n z x y C) (fun t c _ C => alK t c C) (fun t x _ C => bxK t x C) (fun c x y _ C => piK c x y C) (fun f args cx C => calK f args cx C) (fun cf x args cx C => clvK cf x args cx C) (fun mf x args cx C => invK mf x args cx C) (fun ps z _ C => bldK ps z C) (fun ng l n ex sl x y _ C => qaK ng l n ex sl x y C) c cx C
noncomputable def nfPa {α : Type} (p : Pa) : (Pa → α) → α := Pa.rec (motive := fun _ => (Pa → α) → α) (fun k => k .h) (fun _ ih k => ih fun p => k (.l p)) (fun _ ih k => ih fun p => k (.r p)) p
theorem nfPa_eq {α : Type} (p : Pa) : ∀ k : Pa → α, nfPa p k = k p := by
 induction p with
 | h => intro k; rfl
 | l p ih => intro k; exact ih _
 | r p ih => intro k; exact ih _
noncomputable def nfCO {α : Type} (x : CO) (k : CO → α) : α := match x with
 | .slot p => nfPa p fun p => k (.slot p)
 | .val v => nfS v fun v => k (.val v)
 | .bad => k .bad
theorem nfCO_eq {α : Type} (x : CO) (k : CO → α) : nfCO x k = k x := by cases x with
 | slot p => exact nfPa_eq p _
 | val v => exact nfS_eq v _
 | bad => rfl
noncomputable def nfCD {α : Type} (x : CD) (k : CD → α) : α := match x with
 | .no => k .no
 | .at p => nfPa p fun p => k (.at p)
theorem nfCD_eq {α : Type} (x : CD) (k : CD → α) : nfCD x k = k x := by cases x with
 | no => rfl
 | «at» p => exact nfPa_eq p _
noncomputable def nfPart {α : Type} (p : PartC) (k : PartC → α) : α := nfN p.1.1 fun a => nfN p.1.2 fun b => nfCO p.2 fun x => k ((a, b), x)
theorem nfPart_eq {α : Type} (p : PartC) (k : PartC → α) : nfPart p k = k p := by unfold nfPart; rw [nfN_eq, nfN_eq, nfCO_eq]
noncomputable def nfLeaf {α : Type} (p : Leaf) (k : Leaf → α) : α := nfN p.1 fun a => nfN p.2.1 fun b => nfN p.2.2 fun c => k (a, b, c)
theorem nfLeaf_eq {α : Type} (p : Leaf) (k : Leaf → α) : nfLeaf p k = k p := by unfold nfLeaf; rw [nfN_eq, nfN_eq, nfN_eq]
noncomputable def nfCOs {α : Type} (l : List Operand) (k : List CO → α) : α := nfL nfCO (l.map coOf) k
theorem nfCOs_eq {α : Type} (l : List Operand) (k : List CO → α) : nfCOs l k = k (l.map coOf) := nfL_eq nfCO_eq _ k
noncomputable def nfC1 {α : Type} (x : Operand) (k : CO → α) : α := nfCO (coOf x) k
theorem nfC1_eq {α : Type} (x : Operand) (k : CO → α) : nfC1 x k = k (coOf x) := nfCO_eq _ k
section
variable {P : Program}
noncomputable def notIface : TypeDesc → Bool
 | .interface _ => false
 | _ => true
noncomputable def compCall (T : Tab P) (c : Call) : COp :=
 match c.callee with
 | .value (.func f) => if T.call f = true then nfCOs c.args.toList fun l => .cal f l else .old
 | .value x => nfC1 x fun x => nfCOs c.args.toList fun l => .clv T.call x l
 | .invoke x name => nfC1 x fun x => nfCOs c.args.toList fun l => .inv (methOf T name) x l
 | .builtin .len => match c.args.toList, c.argTypes[0]? with
  | [x], some t => match T.under t with
   | some (.slice _) => nfC1 x fun x => .le (fun kn v => lenS T kn t v) x
   | _ => .old
  | _, _ => .old
 | _ => .old
noncomputable def compOp (T : Tab P) (o : Oper) : COp :=
 match o.op with
  | .move x => nfC1 x fun x => .mv x
  | .assign x => nfC1 x fun x => .mv x
  | .binOp op t x y _ => match op with
   | .shl => .old
   | .shr => .old
   | .eql => match T.eqs t, sizeIn T t with
    | some l, some n => nfL nfLeaf (l.map (leafOf T)) fun l => nfN n fun n => nfC1 x fun x => nfC1 y fun y => .eqa false l n (eqX T) (slowOf T) x y
    | _, _ => nfC1 x fun x => nfC1 y fun y => .bin .eql x y
   | .neq => match T.eqs t, sizeIn T t with
    | some l, some n => nfL nfLeaf (l.map (leafOf T)) fun l => nfN n fun n => nfC1 x fun x => nfC1 y fun y => .eqa true l n (eqX T) (slowOf T) x y
    | _, _ => nfC1 x fun x => nfC1 y fun y => .bin .neq x y
   | op => nfC1 x fun x => nfC1 y fun y => .bin op x y
  | .load t x => match aggOf T t with
   | some false => nfC1 x fun x => .ld x
   | some true => match sizeIn T t with
    | some z => nfN z fun z => nfC1 x fun x => .lda z x
    | none => .old
   | none => .old
  | .store t x y => match sizeIn T t with
   | some z => if z = 1 then nfC1 x fun x => nfC1 y fun y => .st x y else nfN z fun z => nfC1 x fun x => nfC1 y fun y => .sta z x y
   | none => .old
  | .fieldAddr t x i => match T.under t with
   | some (.struct fs) => match fs[i]? with
    | some f => match sizeIn T f.type with
     | some z => if z = 0 then .old else nfN f.offset fun off => nfC1 x fun x => .fa off (fun kn v => fieldAddrS T kn t v i) x
     | none => .old
    | none => .old
   | _ => .old
  | .indexAddr t x y => match T.under t with
   | some (.array n el) => match sizeIn T el with
    | some z => nfN n fun n => nfN z fun z => nfC1 x fun x => nfC1 y fun y => .ia n z (fun kn v w => indexAddrS T kn t v w) x y
    | none => .old
   | some (.slice el) => match sizeIn T el with
    | some z => nfN z fun z => nfC1 x fun x => nfC1 y fun y => .isl z (fun kn v w => indexAddrS T kn t v w) x y
    | none => .old
   | _ => .old
  | .field t x i => match T.under t with
   | some (.struct fs) => match fs[i]? with
    | some f => match aggOf T f.type with
     | some false => nfN f.offset fun off => nfC1 x fun x => .fl off x
     | some true => match sizeIn T f.type with
      | some z => nfN f.offset fun off => nfN z fun z => nfC1 x fun x => .fg off z x
      | none => .old
     | none => .old
    | none => .old
   | _ => .old
  | .index t x y => match T.under t with
   | some (.array n el) => match aggOf T el, sizeIn T el with
    | some ag, some z => nfN n fun n => nfN z fun z => nfC1 x fun x => nfC1 y fun y => .ix ag n z x y
    | _, _ => .old
   | _ => .old
  | .nilCheck x => nfC1 x fun x => .nc x
  | .extract x i => nfN i fun i => nfC1 x fun x => .ex i x
  | .makeInterface t x => match T.under t with
   | some d => if notIface d = true then nfC1 x fun x => .mi t x else .old
   | none => .old
  | .typeAssert x _ t ok => match T.under t with
   | some d => if notIface d = true then match T.zero t with
    | some z => nfS z fun z => nfC1 x fun x => .ta t ok z x
    | none => .old else .old
   | none => .old
  | .convert s d x => match T.under s, T.under d with
   | some _, some (.int k) => nfC1 x fun x => .cv k (fun kn v => convertS T kn s d v) x
   | _, _ => .old
  | .unOp op _ x => nfC1 x fun x => .p1 (fun kn v => unOpS kn op v) x
  | .alloc t => match T.zero t with
   | some z => match cellsS z with
    | some c => nfS c fun c => .al t c
    | none => .old
   | none => .old
  | .box t x => nfC1 x fun x => .bx t x
  | .pick c x y => nfC1 c fun c => nfC1 x fun x => nfC1 y fun y => .pi c x y
  | .build t ps => match T.zero t, placeOf' T t with
   | some (.agg z), some place => match placesOf place ps.toList with
    | some qs => nfS z fun z => nfL nfPart (qs.map fun q => (q.1, coOf q.2)) fun qs => .bld qs z
    | none => .old
   | _, _ => .old
  | .call c => compCall T c
  | _ => .old
theorem notIface_ok {d : TypeDesc} (h : notIface d = true) : ∀ i, d ≠ .interface i := by
 intro i e; subst e; cases h
variable {T : Tab P} {cx : CX} {C : Ctx}
theorem compCall_ok (h : Fits T cx C) {c : Call} (ho : C.o.op = .call c) : runOp (compCall T c) cx C = fb C := by
 unfold compCall
 split
 ·rename_i f hc
  split
  ·rename_i hf
   rw [nfCOs_eq]
   exact cal_ok h ho hc hf
  ·rfl
 ·rename_i x _ hc
  rw [nfC1_eq, nfCOs_eq]
  exact clv_ok h ho hc
 ·rename_i x name hc
  rw [nfC1_eq, nfCOs_eq]
  exact inv_ok h ho hc
 ·rename_i hc
  split
  ·rename_i x t hx ht
   split
   ·rename_i el hu
    rw [nfC1_eq]
    exact le_ok h ho hc hx ht ⟨el, hu⟩
   ·rfl
  ·rfl
 ·rfl
theorem compOp_ok (h : Fits T cx C) : runOp (compOp T C.o) cx C = fb C := by
 unfold compOp
 cases ho : C.o.op <;> dsimp only <;> try rfl
 case move x => rw [nfC1_eq]; exact mv_ok h (.inl ho)
 case assign x => rw [nfC1_eq]; exact mv_ok h (.inr ho)
 case binOp op t x y t' =>
  split
  ·rfl
  ·rfl
  ·split
   ·rename_i l n hl hn
    rw [nfL_eq nfLeaf_eq, nfN_eq, nfC1_eq, nfC1_eq]
    exact qa_ok (ng := false) h rfl ho hl hn
   ·rw [nfC1_eq, nfC1_eq]
    exact bin_ok h ho (fun e => by cases e) (fun e => by cases e)
  ·split
   ·rename_i l n hl hn
    rw [nfL_eq nfLeaf_eq, nfN_eq, nfC1_eq, nfC1_eq]
    exact qa_ok (ng := true) h rfl ho hl hn
   ·rw [nfC1_eq, nfC1_eq]
    exact bin_ok h ho (fun e => by cases e) (fun e => by cases e)
  ·rename_i h1 h2 _ _
   rw [nfC1_eq, nfC1_eq]
   exact bin_ok h ho (fun e => h1 e) (fun e => h2 e)
 case load t x =>
  split
  ·rename_i ht
   rw [nfC1_eq]; exact ld_ok h ho ht
  ·rename_i ht
   split
   ·rename_i z hz
    rw [nfN_eq, nfC1_eq]; exact lda_ok h ho ht hz
   ·rfl
  ·rfl
 case store t x y =>
  split
  ·rename_i z hz
   split
   ·rename_i h1
    rw [nfC1_eq, nfC1_eq]; exact st_ok h ho (by rw [hz, h1])
   ·rename_i h1
    rw [nfN_eq, nfC1_eq, nfC1_eq]; exact sta_ok h ho hz h1
  ·rfl
 case fieldAddr t x i =>
  split
  ·rename_i fs ht
   split
   ·rename_i f hf
    split
    ·rename_i z hz
     split
     ·rfl
     ·rename_i h0
      rw [nfN_eq, nfC1_eq]; exact fa_ok h ho ht hf hz h0 rfl
    ·rfl
   ·rfl
  ·rfl
 case indexAddr t x y =>
  split
  ·rename_i n el ht
   split
   ·rename_i z hz
    rw [nfN_eq, nfN_eq, nfC1_eq, nfC1_eq]; exact ia_ok h ho ht hz
   ·rfl
  ·rename_i el ht
   split
   ·rename_i z hz
    rw [nfN_eq, nfC1_eq, nfC1_eq]; exact is_ok h ho ht hz
   ·rfl
  ·rfl
 case field t x i =>
  split
  ·rename_i fs ht
   split
   ·rename_i f hf
    split
    ·rename_i hg
     rw [nfN_eq, nfC1_eq]; exact fl_ok h ho ht hf hg rfl
    ·rename_i hg
     split
     ·rename_i z hz
      rw [nfN_eq, nfN_eq, nfC1_eq]; exact fg_ok h ho ht hf hg hz rfl
     ·rfl
    ·rfl
   ·rfl
  ·rfl
 case index t x y =>
  split
  ·rename_i n el ht
   split
   ·rename_i ag z hg hz
    rw [nfN_eq, nfN_eq, nfC1_eq, nfC1_eq]; exact ix_ok h ho ht hg hz
   ·rfl
  ·rfl
 case nilCheck x => rw [nfC1_eq]; exact nc_ok h ho
 case extract x i => rw [nfN_eq, nfC1_eq]; exact ex_ok h ho
 case makeInterface t x =>
  split
  ·rename_i d ht
   split
   ·rename_i hd
    rw [nfC1_eq]; exact mi_ok h ho ht (notIface_ok hd)
   ·rfl
  ·rfl
 case typeAssert x xt t ok =>
  split
  ·rename_i d ht
   split
   ·rename_i hd
    split
    ·rename_i z hz
     rw [nfS_eq, nfC1_eq]; exact ta_ok h ho ht (notIface_ok hd) hz
    ·rfl
   ·rfl
  ·rfl
 case convert s d x =>
  split
  ·rename_i u k hs hd
   rw [nfC1_eq]; exact cv_ok h ho hs hd
  ·rfl
 case unOp op t x =>
  rw [nfC1_eq]
  exact p1_ok h (x := x) (g := fun kn v => unOpS kn op v) ⟨by unfold appArgs; rw [ho], fun v hv => by unfold opS; rw [ho]; dsimp only; rw [hv]; rfl⟩
 case alloc t =>
  split
  ·rename_i z hz
   split
   ·rename_i c hc
    rw [nfS_eq]; exact al_ok h ho hz hc
   ·rfl
  ·rfl
 case box t x => rw [nfC1_eq]; exact bx_ok h ho
 case pick c x y => rw [nfC1_eq, nfC1_eq, nfC1_eq]; exact pi_ok h ho
 case build t ps =>
  split
  ·rename_i z place hz hp
   split
   ·rename_i qs hq
    rw [nfS_eq, nfL_eq nfPart_eq]; exact bld_ok h ho hz hp hq
   ·rfl
  ·rfl
 case call c => exact compCall_ok h ho
end
noncomputable def brK (c : BE) (m : Mem) (k : Bool → Mem → R) : R :=
 BE.rec (motive := fun _ => BE → Mem → (Bool → Mem → R) → R) (fun b _ m k => k b m) (fun _ c m k => bindR (branch c m) k) (fun _ _ c m k => bindR (branch c m) k) (fun _ _ c m k => bindR (branch c m) k) (fun _ _ c m k => bindR (branch c m) k) c c m k
theorem brK_eq (c : BE) (m : Mem) (k : Bool → Mem → R) : brK c m k = bindR (branch c m) k := by cases c <;> rfl
inductive CG where
 | no
 | never
 | at (p : Pa) (w : Bool)
structure CP where
 d : CD
 o : Oper
 c : COp
 g : CG
noncomputable def cgOf (ops : Array Oper) (o : Oper) : CG := match o.guard with
 | none => .no
 | some (j, w) => match (ops[j]?).bind (·.dst) with
  | none => .never
  | some d => nfPa (pa d) fun p => .at p w
noncomputable def compP {P : Program} (T : Tab P) (ops : Array Oper) (o : Oper) : CP := nfCD (cdOf o.dst) fun d => ⟨d, o, compOp T o, cgOf ops o⟩
noncomputable def compL {P : Program} (T : Tab P) (ops : Array Oper) (l : List Oper) : List CP := List.rec (motive := fun _ => List CP) [] (fun o _ ih => compP T ops o :: ih) l
abbrev OldT := Oper → Fr → Mem → Option (List (Fr × Mem))
abbrev SeqT := OldT → CX → Nat → FT → Mem → (Fr → Mem → R) → R
noncomputable def seqK (ih : SeqT) (old : OldT) (cx : CX) (K : Fr → Mem → R) (fr : Fr) (m : Mem) : R :=
 Fr.rec (motive := fun _ => SeqT → OldT → CX → (Fr → Mem → R) → Mem → R) (fun n t ih old cx K m => ih old cx n t m K) fr ih old cx K m
noncomputable def ctxM (C : Ctx) (m : Mem) : Ctx := Ctx.rec (motive := fun _ => Mem → Ctx) (fun d o old n t _ K m => ⟨d, o, old, n, t, m, K⟩) C m
noncomputable def beqB (r w : Bool) : Bool := Bool.rec (motive := fun _ => Bool → Bool) (fun w => Bool.rec (motive := fun _ => Bool) true false w) (fun w => w) r w
theorem beqB_eq (r w : Bool) : beqB r w = (r == w) := by cases r <;> cases w <;> rfl
noncomputable def gd1 (c : COp) (cx : CX) (w : Bool) (C : Ctx) (r : Bool) (m : Mem) : R := yes (beqB r w) (runOp c cx (ctxM C m)) (finM C .undef m)
noncomputable def gd0 (c : COp) (cx : CX) (w : Bool) (C : Ctx) (b : BE) : R := Ctx.rec (motive := fun _ => COp → CX → Bool → BE → Ctx → R) (fun _ _ _ _ _ m _ c cx w b C => brK b m (gd1 c cx w C)) C c cx w b C
noncomputable def gdV (c : COp) (cx : CX) (w : Bool) (C : Ctx) (v : SV) : R := onBool v (gd0 c cx w C) (vOr v (fin C .undef) none)
noncomputable def runG (g : CG) (c : COp) (cx : CX) (C : Ctx) : R :=
 CG.rec (motive := fun _ => COp → CX → Ctx → R) (fun c cx C => runOp c cx C) (fun _ _ C => fin C .undef)
  (fun p w c cx C => Ctx.rec (motive := fun _ => Pa → Bool → COp → CX → Ctx → R) (fun _ _ _ _ t _ _ p w c cx C => getP p t (gdV c cx w C)) C p w c cx C) g c cx C
noncomputable def seqF (l : List CP) : SeqT :=
 List.rec (motive := fun _ => SeqT) (fun _ _ n t m K => K ⟨n, t⟩ m)
  (fun p _ ih old cx n t m K => CP.rec (motive := fun _ => SeqT → SeqT) (fun d o c g ih old cx n t m K => runG g c cx ⟨d, o, old, n, t, m, seqK ih old cx K⟩) p ih old cx n t m K) l
theorem runG_eq {P : Program} {T : Tab P} {cx : CX} {C : Ctx} (h : Fits T cx C) (ops : Array Oper) : runG (cgOf ops C.o) (compOp T C.o) cx C = bindR (stepOp T cx ops ⟨C.n, C.t⟩ C.o C.m) C.K := by
 have hu : ∀ m, finM C .undef m = bindR (putX' ⟨C.n, C.t⟩ C.o.dst .undef m) C.K := fun m => by rw [finM_eq C _ m h.d, putX'_eq, bindR_pure]
 have hr : ∀ m, runOp (compOp T C.o) cx (ctxM C m) = bindR (stepBody T cx ⟨C.n, C.t⟩ C.o m) C.K := fun m => by
  have h' : Fits T cx (ctxM C m) := ⟨h.old, h.d⟩
  exact (compOp_ok h').trans h'.fb_eq
 rw [stepOp_body, bindR_bind]
 unfold cgOf wantedX
 cases hg : C.o.guard with
 | none =>
  show runOp (compOp T C.o) cx C = bindR (X.pure true C.m) _
  rw [bindR_pure, if_pos rfl]
  exact hr C.m
 | some g =>
  obtain ⟨j, w⟩ := g
  dsimp only
  cases hj : (ops[j]?).bind (·.dst) with
  | none =>
   show fin C .undef = bindR (X.pure false C.m) _
   rw [bindR_pure, if_neg (by simp)]
   exact hu C.m
  | some d =>
   dsimp only
   rw [nfPa_eq]
   show getP (pa d) C.t (gdV (compOp T C.o) cx w C) = _
   rw [getP_eq, pa_get]
   have e : Fr.get ⟨C.n, C.t⟩ d = C.t.get d := rfl
   rw [e]
   have other : ∀ v : SV, (∀ b, v ≠ .bool b) → gdV (compOp T C.o) cx w C v = bindR ((if v.isV then X.pure false else X.none) C.m) (fun a m => bindR ((if a = true then stepBody T cx ⟨C.n, C.t⟩ C.o else putX' ⟨C.n, C.t⟩ C.o.dst .undef) m) C.K) := fun v hv => by
    have e1 : gdV (compOp T C.o) cx w C v = vOr v (fin C .undef) none := by cases v <;> first | rfl | exact absurd rfl (hv _)
    rw [e1, vOr_eq]
    split
    ·rw [bindR_pure, if_neg (by simp)]
     exact hu C.m
    ·rfl
   cases hv : C.t.get d
   case bool b =>
    show brK b C.m (gd1 (compOp T C.o) cx w C) = bindR (X.bind (branch b) (fun r => X.pure (r == w)) C.m) _
    rw [brK_eq, bindR_bind]
    congr 1
    funext r m
    rw [bindR_pure]
    unfold gd1
    rw [yes_eq, beqB_eq]
    cases (r == w)
    ·rw [if_neg (by simp), if_neg (by simp)]; exact hu m
    ·rw [if_pos rfl, if_pos rfl]; exact hr m
   all_goals exact other _ (fun b hb => by cases hb)
theorem seqF_eq {P : Program} (T : Tab P) (cx : CX) (ops : Array Oper) : ∀ (l : List Oper) (n : Nat) (t : FT) (m : Mem) (K : Fr → Mem → R),
  seqF (compL T ops l) (fun o fr m => stepBody T cx fr o m) cx n t m K = bindR (seqOps T cx ops l ⟨n, t⟩ m) K
 | [], n, t, m, K => rfl
 | o :: l, n, t, m, K => by
  have e0 : ∀ p : CP, seqF (p :: compL T ops l) = fun old cx n t m K => runG p.g p.c cx ⟨p.d, p.o, old, n, t, m, seqK (seqF (compL T ops l)) old cx K⟩ := fun p => by cases p; rfl
  show seqF (compP T ops o :: compL T ops l) _ cx n t m K = _
  rw [e0]
  have e1 : compP T ops o = ⟨cdOf o.dst, o, compOp T o, cgOf ops o⟩ := nfCD_eq _ _
  rw [e1]
  have e2 : seqOps T cx ops (o :: l) ⟨n, t⟩ m = X.bind (stepOp T cx ops ⟨n, t⟩ o) (fun tm' => seqOps T cx ops l tm') m := rfl
  rw [e2, bindR_bind]
  have e3 : (fun (a : Fr) (m : Mem) => bindR (seqOps T cx ops l a m) K) = seqK (seqF (compL T ops l)) (fun o fr m => stepBody T cx fr o m) cx K := by
   funext fr m
   obtain ⟨n', t'⟩ := fr
   exact (seqF_eq T cx ops l n' t' m K).symm
  rw [e3]
  exact runG_eq (T := T) (cx := cx) (C := ⟨cdOf o.dst, o, fun o fr m => stepBody T cx fr o m, n, t, m, _⟩) ⟨rfl, rfl⟩ ops
noncomputable def idF (fr : Fr) (m : Mem) : R := some [((.normal, fr), m)]
noncomputable def stepR (p : CP) (old : OldT) (cx : CX) (fr : Fr) (m : Mem) : R :=
 CP.rec (motive := fun _ => OldT → CX → Fr → Mem → R) (fun d o c g old cx fr m => Fr.rec (motive := fun _ => CD → Oper → COp → CG → OldT → CX → Mem → R) (fun n t d o c g old cx m => runG g c cx ⟨d, o, old, n, t, m, idF⟩) fr d o c g old cx m) p old cx fr m
theorem gather_idF : ∀ l : List (Fr × Mem), gather (β := SX × Fr) idF l = some (l.map fun q => ((.normal, q.1), q.2))
 | [] => rfl
 | p :: l => by rw [gather_cat, gather_idF l]; rfl
theorem stepR_eq {P : Program} (T : Tab P) (cx : CX) (ops : Array Oper) (o : Oper) (fr : Fr) (m : Mem) :
  stepR (compP T ops o) (fun o fr m => stepBody T cx fr o m) cx fr m = match stepOp T cx ops fr o m with | some l => some (l.map fun q => ((.normal, q.1), q.2)) | none => none := by
 have e1 : compP T ops o = ⟨cdOf o.dst, o, compOp T o, cgOf ops o⟩ := nfCD_eq _ _
 rw [e1]
 obtain ⟨n, t⟩ := fr
 show runG (cgOf ops o) (compOp T o) cx ⟨cdOf o.dst, o, fun o fr m => stepBody T cx fr o m, n, t, m, idF⟩ = _
 have := runG_eq (T := T) (cx := cx) (C := ⟨cdOf o.dst, o, fun o fr m => stepBody T cx fr o m, n, t, m, idF⟩) ⟨rfl, rfl⟩ ops
 rw [this]
 show bindR (stepOp T cx ops ⟨n, t⟩ o m) idF = _
 cases stepOp T cx ops ⟨n, t⟩ o m with
 | none => rfl
 | some l => exact gather_idF l
noncomputable def evM (i msk : Nat) (l : List ((SX × Fr) × Mem)) (r : List BS) : Option (List BS) := nfN (msk ||| 2 ^ i) fun k => some (l.map (fun q => (k, q.1.2, q.2)) ++ r)
noncomputable def everyF (cps : List CP) (old : OldT) (cx : CX) (msk : Nat) (tm : Fr) (m : Mem) (rs : List Nat) : Option (List BS) :=
 List.rec (motive := fun _ => Option (List BS)) (some []) (fun i _ ih => match cps[i]? with
  | none => none
  | some p => match stepR p old cx tm m, ih with
   | some l, some r => evM i msk l r
   | _, _ => none) rs
theorem compL_get {P : Program} (T : Tab P) (ops : Array Oper) : ∀ (l : List Oper) (i : Nat), (compL T ops l)[i]? = (l[i]?).map (compP T ops)
 | [], i => by show ([] : List CP)[i]? = _; simp
 | o :: l, i => by
  show (compP T ops o :: compL T ops l)[i]? = _
  cases i with
  | zero => simp
  | succ i => simpa using compL_get T ops l i
theorem everyF_eq {P : Program} (T : Tab P) (cx : CX) (ops : Array Oper) (msk : Nat) (tm : Fr) (m : Mem) : ∀ rs : List Nat, everyF (compL T ops ops.toList) (fun o fr m => stepBody T cx fr o m) cx msk tm m rs = everyNext T cx ops msk tm m rs
 | [] => rfl
 | i :: rs => by
  show (match (compL T ops ops.toList)[i]? with
   | none => none
   | some p => match stepR p (fun o fr m => stepBody T cx fr o m) cx tm m, everyF (compL T ops ops.toList) (fun o fr m => stepBody T cx fr o m) cx msk tm m rs with
    | some l, some r => evM i msk l r
    | _, _ => none) = _
  rw [compL_get, everyF_eq T cx ops msk tm m rs]
  show _ = (match ops[i]? with
   | none => none
   | some o => match stepOp T cx ops tm o m, everyNext T cx ops msk tm m rs with
    | some l, some r => some (l.map (spl fun tm m => (msk ||| 2 ^ i, tm, m)) ++ r)
    | _, _ => none)
  have e : ops.toList[i]? = ops[i]? := by simp
  rw [e]
  cases ops[i]? with
  | none => rfl
  | some o =>
   show (match stepR (compP T ops o) (fun o fr m => stepBody T cx fr o m) cx tm m, everyNext T cx ops msk tm m rs with
    | some l, some r => evM i msk l r
    | _, _ => none) = _
   rw [stepR_eq]
   show _ = (match stepOp T cx ops tm o m, everyNext T cx ops msk tm m rs with
    | some l, some r => some (l.map (spl fun tm m => (msk ||| 2 ^ i, tm, m)) ++ r)
    | _, _ => none)
   cases stepOp T cx ops tm o m with
   | none => rfl
   | some l =>
    cases everyNext T cx ops msk tm m rs with
    | none => rfl
    | some r =>
     show evM i msk _ r = _
     unfold evM
     rw [nfN_eq, List.map_map]
     rfl
noncomputable def nextsG {P : Program} (ev : EvT) (T : Tab P) (ops : Array Oper) (msk : Nat) (tm : Fr) (m : Mem) (rs : List Nat) : Option (List BS) :=
 match takeFirst T m.know ops tm rs with
 | some (i, d, v) => nfN (msk ||| 2 ^ i) fun L => match d with
  | some d => nfS v fun v => tm.setK d v fun tm' => some [(L, tm', m)]
  | none => some [(L, tm, m)]
 | none => ev msk tm m rs
noncomputable def levelG {P : Program} (ev : EvT) (T : Tab P) (ops : Array Oper) : List BS → Option (List (Fr × Mem) × List BS)
 | [] => some ([], [])
 | s :: rest => match levelG ev T ops rest with
  | none => none
  | some (fin, L) => spl (fun msk => spl fun tm m => match readyGo msk ops.toList 0 with
   | [] => some ((tm, m) :: fin, L)
   | i :: rs => match nextsG ev T ops msk tm m (i :: rs) with
    | none => none
    | some N => some (fin, N ++ L)) s
noncomputable def bfsG {P : Program} (ev : EvT) (T : Tab P) (ops : Array Oper) : Nat → List BS → Option (List (Fr × Mem))
 | 0, L => if L.all (fun s => (readyGo s.1 ops.toList 0).isEmpty) then some (L.map fun s => (s.2.1, s.2.2)) else none
 | n + 1, L => match levelG ev T ops L with
  | none => none
  | some (fin, L') => match bfsG ev T ops n (dedup L') with
   | none => none
   | some r => some (fin ++ r)
theorem levelG_eq {P : Program} (T : Tab P) (cx : CX) (ops : Array Oper) : ∀ L : List BS, levelG (everyNext T cx ops) T ops L = level T cx ops L
 | [] => rfl
 | s :: L => by unfold levelG level; rw [levelG_eq T cx ops L]; rfl
theorem bfsG_eq {P : Program} (T : Tab P) (cx : CX) (ops : Array Oper) : ∀ (n : Nat) (L : List BS), bfsG (everyNext T cx ops) T ops n L = bfs T cx ops n L
 | 0, L => rfl
 | n + 1, L => by
  unfold bfsG bfs
  rw [levelG_eq]
  cases level T cx ops L with
  | none => rfl
  | some x => dsimp only; rw [bfsG_eq T cx ops n]; rfl
noncomputable def regF {P : Program} (T : Tab P) (cx : CX) (ops : Array Oper) (tm : Fr) (m : Mem) : R :=
 if okS ops then match regE (everyF (compL T ops ops.toList) (fun o fr m => stepBody T cx fr o m) cx) T ops tm m with
  | some l => some ((canonF m l).map (spl fun tm m => ((.normal, tm), m)))
  | none => none
 else if Region.noSelect ops then match bfsG (everyF (compL T ops ops.toList) (fun o fr m => stepBody T cx fr o m) cx) T ops ops.size [(0, tm, m)] with
  | some l => some ((canonF m l).map (spl fun tm m => ((.normal, tm), m)))
  | none => none
 else none
theorem regF_eq {P : Program} (T : Tab P) (cx : CX) (ops : Array Oper) (tm : Fr) (m : Mem) : regF T cx ops tm m = region T cx ops true tm m := by
 have e : everyF (compL T ops ops.toList) (fun o fr m => stepBody T cx fr o m) cx = everyNext T cx ops := by
  funext msk tm m rs
  exact everyF_eq T cx ops msk tm m rs
 unfold regF region
 rw [e, bfsG_eq, if_pos rfl]
 split
 ·rfl
 ·split <;> rfl
abbrev KT := SX → Fr → Mem → R
structure Eng where
 cx : CX
 comp : Array Oper → List CP
 old : Array Oper → OldT
 reg : Array Oper → Fr → Mem → R
 bx : BX
 jm : Option Nat
abbrev RunT := Eng → Code → Fr → Mem → KT → R
noncomputable def outK (K : KT) (p : SX × Fr) (m : Mem) : R := Prod.rec (motive := fun _ => KT → Mem → R) (fun e fr K m => K e fr m) p K m
noncomputable def idK (e : SX) (fr : Fr) (m : Mem) : R := some [((e, fr), m)]
noncomputable def regS (ops : Array Oper) (E : Eng) (fr : Fr) (m : Mem) (K : KT) : R :=
 Eng.rec (motive := fun _ => Array Oper → Fr → Mem → KT → R) (fun cx comp old _ _ _ ops fr m K => Fr.rec (motive := fun _ => List CP → OldT → CX → Mem → (Fr → Mem → R) → R) (fun n t l old cx m K => seqF l old cx n t m K) fr (comp ops) (old ops) cx m (K .normal)) E ops fr m K
noncomputable def regD (ops : Array Oper) (E : Eng) (fr : Fr) (m : Mem) (K : KT) : R := bindR (Eng.reg E ops fr m) (outK K)
noncomputable def seqC (b : Code) (ih : RunT) (E : Eng) (K : KT) (e : SX) (fr : Fr) (m : Mem) : R :=
 SX.rec (motive := fun _ => Code → RunT → Eng → KT → Fr → Mem → R) (fun b ih E K fr m => ih E b fr m K) (fun n _ _ _ K fr m => K (.exit n) fr m) (fun _ _ _ K fr m => K .ret fr m) e b ih E K fr m
noncomputable def cnd3 (x y : Code) (ih : RunT) (E : Eng) (fr : Fr) (K : KT) (r : Bool) (m : Mem) : R :=
 Bool.rec (motive := fun _ => Code → Code → RunT → Eng → Fr → Mem → KT → R) (fun _ y ih E fr m K => ih E y fr m K) (fun x _ ih E fr m K => ih E x fr m K) r x y ih E fr m K
noncomputable def cnd2 (x y : Code) (ih : RunT) (E : Eng) (fr : Fr) (m : Mem) (K : KT) (b : BE) : R := brK b m (cnd3 x y ih E fr K)
noncomputable def cnd1 (x y : Code) (ih : RunT) (E : Eng) (fr : Fr) (m : Mem) (K : KT) (v : SV) : R := onBool v (cnd2 x y ih E fr m K) none
noncomputable def condD (c : Operand) (x y : Code) (ih : RunT) (E : Eng) (fr : Fr) (m : Mem) (K : KT) : R := opdK (coOf c) (Fr.t fr) (cnd1 x y ih E fr m K)
noncomputable def joinF (dead : Nat) (m : Mem) (r : R) : R := Option.rec (motive := fun _ => Nat → Mem → R) (fun _ _ => none) (fun l dead m => some (joinL dead m l)) r dead m
noncomputable def condJ (c : Operand) (x y : Code) (ih : RunT) (E : Eng) (fr : Fr) (m : Mem) (K : KT) : R :=
 Option.rec (motive := fun _ => Operand → Code → Code → RunT → Eng → Fr → Mem → KT → R) (fun c x y ih E fr m K => condD c x y ih E fr m K)
  (fun dead c x y ih E fr m K => bindR (joinF dead m (condD c x y ih E fr m idK)) (outK K)) (Eng.jm E) c x y ih E fr m K
noncomputable def blkC (id : Nat) (K : KT) (e : SX) (fr : Fr) (m : Mem) : R :=
 SX.rec (motive := fun _ => Nat → KT → Fr → Mem → R) (fun _ K fr m => K .normal fr m) (fun i id K fr m => yes (Nat.beq i id) (K .normal fr m) (K (.exit i) fr m)) (fun _ K fr m => K .ret fr m) e id K fr m
noncomputable def blkJ (id : Nat) (body : Code) (ih : RunT) (E : Eng) (fr : Fr) (m : Mem) (K : KT) : R :=
 Option.rec (motive := fun _ => Nat → Code → RunT → Eng → Fr → Mem → KT → R) (fun id body ih E fr m K => ih E body fr m (blkC id K))
  (fun dead id body ih E fr m K => bindR (joinF dead m (ih E body fr m (blkC id idK))) (outK K)) (Eng.jm E) id body ih E fr m K
noncomputable def blkB (id : Nat) (body : Code) (ih : RunT) (E : Eng) (fr : Fr) (m : Mem) (K : KT) : R :=
 Option.rec (motive := fun _ => Nat → Code → RunT → Eng → Fr → Mem → KT → R) (fun id body ih E fr m K => blkJ id body ih E fr m K)
  (fun sp _ _ _ _ fr m K => bindR (sp fr m) (outK K)) (Eng.bx E id) id body ih E fr m K
noncomputable def loopC (body : Code) (ih : RunT) (E : Eng) (K : KT) (e : SX) (fr : Fr) (m : Mem) : R :=
 SX.rec (motive := fun _ => Code → RunT → Eng → KT → Fr → Mem → R) (fun b ih E K fr m => ih E (.loop b) fr m K) (fun n _ _ _ K fr m => K (.exit n) fr m) (fun _ _ _ K fr m => K .ret fr m) e body ih E K fr m
noncomputable def runF (n : Nat) : RunT :=
 Nat.rec (motive := fun _ => RunT) (fun _ _ _ _ _ => none)
  (fun _ ih E c fr m K => Code.rec (motive := fun _ => RunT → Eng → Fr → Mem → KT → R)
   (fun _ _ fr m K => K .normal fr m)
   (fun _ ops draw _ E fr m K => Bool.rec (motive := fun _ => Array Oper → Eng → Fr → Mem → KT → R) (fun ops E fr m K => regS ops E fr m K) (fun ops E fr m K => regD ops E fr m K) draw ops E fr m K)
   (fun a b _ _ ih E fr m K => ih E a fr m (seqC b ih E K))
   (fun c x y _ _ ih E fr m K => condJ c x y ih E fr m K)
   (fun id body _ ih E fr m K => blkB id body ih E fr m K)
   (fun body _ ih E fr m K => ih E body fr m (loopC body ih E K))
   (fun _ _ _ _ _ _ _ _ _ _ _ => none)
   (fun i _ _ fr m K => K (.exit i) fr m)
   (fun body _ ih E fr m K => ih E body fr m K)
   (fun _ _ _ fr m K => K .normal fr m)
   (fun _ _ _ _ _ _ => none)
   (fun _ _ fr m K => K .ret fr m)
   (fun _ _ _ _ _ _ => none) c ih E fr m K) n
noncomputable def engOf {P : Program} (T : Tab P) (cx : CX) (bx : BX) (jm : Option Nat) : Eng where
 cx := cx
 comp ops := compL T ops ops.toList
 old _ o fr m := stepBody T cx fr o m
 reg ops fr m := regF T cx ops fr m
 bx := bx
 jm := jm
theorem outK_id : ∀ l : List ((SX × Fr) × Mem), gather (β := SX × Fr) (outK idK) l = some l
 | [] => rfl
 | p :: l => by
  rw [gather_cat, outK_id l]
  obtain ⟨⟨e, fr⟩, m⟩ := p
  rfl
theorem bindR_id (r : R) : bindR r (outK idK) = r := by
 cases r with
 | none => rfl
 | some l => exact outK_id l
theorem joinF_eq (dead : Nat) (m : Mem) (r : R) : joinF dead m r = match r with | some l => some (joinL dead m l) | none => none := by cases r <;> rfl
theorem joinX_some (dead : Nat) (x : X (SX × Fr)) (m : Mem) : joinX (some dead) x m = joinF dead m (x m) := by
 unfold joinX
 rw [joinF_eq]
 rfl
section
variable {P : Program} (T : Tab P) (cx : CX) (bx : BX) (jm : Option Nat)
theorem cond_eq (n : Nat) (ih : ∀ (c : Code) (fr : Fr) (m : Mem) (K : KT), runF n (engOf T cx bx jm) c fr m K = bindR (runC T cx bx jm n c fr m) (outK K)) (c : Operand) (x y : Code) (fr : Fr) (m : Mem) (K : KT) :
  condD c x y (runF n) (engOf T cx bx jm) fr m K = bindR ((match opd fr c with
   | some (.bool b) => X.bind (branch b) fun r => if r then runC T cx bx jm n x fr else runC T cx bx jm n y fr
   | _ => X.none) m) (outK K) := by
 obtain ⟨k, t⟩ := fr
 unfold condD
 rw [opdK_eq]
 show cnd1 x y (runF n) (engOf T cx bx jm) ⟨k, t⟩ m K ((coOf c).of t) = _
 have key : ∀ b, (coOf c).of t = .bool b → opd ⟨k, t⟩ c = some (.bool b) := fun b hb => by rw [coOf_ok (by rw [hb]; intro hh; cases hh), hb]
 unfold cnd1
 by_cases hB : ∃ b, (coOf c).of t = .bool b
 ·obtain ⟨b, hb⟩ := hB
  rw [key b hb, hb]
  dsimp only
  show cnd2 x y (runF n) (engOf T cx bx jm) ⟨k, t⟩ m K b = _
  unfold cnd2
  rw [brK_eq, bindR_bind]
  congr 1
  funext r m'
  cases r
  ·exact ih y ⟨k, t⟩ m' K
  ·exact ih x ⟨k, t⟩ m' K
 ·have e1 : onBool ((coOf c).of t) (cnd2 x y (runF n) (engOf T cx bx jm) ⟨k, t⟩ m K) none = none := by
   rw [onBool_eq]
   split
   ·rename_i b hb; exact absurd ⟨b, hb⟩ hB
   ·rfl
  rw [e1]
  have e2 : ∀ b, opd ⟨k, t⟩ c ≠ some (.bool b) := fun b hb => by
   apply hB
   by_cases hn : (coOf c).of t = .nil
   ·exfalso
    cases c with
    | tmp i =>
     have e : (coOf (.tmp i)).of t = t.get i := pa_get i t
     rw [e] at hn
     have : opd ⟨k, t⟩ (.tmp i) = match Fr.get ⟨k, t⟩ i with | .nil => none | v => some v := rfl
     rw [this] at hb
     unfold Fr.get at hb
     rw [hn] at hb
     cases hb
    | const v =>
     have : opd ⟨k, t⟩ (.const v) = ofV v := rfl
     rw [this] at hb
     unfold coOf at hn
     dsimp only at hn
     rw [hb] at hn
     dsimp only at hn
     rw [nfS_eq] at hn
     cases hn
    | func f => cases hn
    | global g => cases hb
   ·rw [coOf_ok hn] at hb
    injection hb with hb
    exact ⟨b, hb⟩
  cases ho : opd ⟨k, t⟩ c with
  | none => rfl
  | some v => cases v <;> first | rfl | exact absurd ho (e2 _)
theorem runF_eq : ∀ (n : Nat) (c : Code) (fr : Fr) (m : Mem) (K : KT), runF n (engOf T cx bx jm) c fr m K = bindR (runC T cx bx jm n c fr m) (outK K) := by
 intro n
 induction n with
 | zero => intro c fr m K; rfl
 | succ n ih =>
  intro c fr m K
  cases c with
  | skip => rfl
  | label l => rfl
  | exit i => rfl
  | ret => rfl
  | goto l => rfl
  | refuse w => rfl
  | rangeFunc f ps as body => rfl
  | scope body => exact ih body fr m K
  | region id ops draw =>
   show Bool.rec (motive := fun _ => Array Oper → Eng → Fr → Mem → KT → R) _ _ draw ops (engOf T cx bx jm) fr m K = bindR (region T cx ops draw fr m) (outK K)
   cases draw
   ·obtain ⟨k, t⟩ := fr
    show seqF (compL T ops ops.toList) (fun o fr m => stepBody T cx fr o m) cx k t m (K .normal) = _
    rw [seqF_eq]
    show _ = bindR (X.bind (seqOps T cx ops ops.toList ⟨k, t⟩) (fun tm' => X.pure (.normal, tm')) m) (outK K)
    rw [bindR_bind]
    rfl
   ·show bindR (regF T cx ops fr m) (outK K) = _
    rw [regF_eq]
  | seq a b =>
   show runF n (engOf T cx bx jm) a fr m (seqC b (runF n) (engOf T cx bx jm) K) = bindR (X.bind (runC T cx bx jm n a fr) (spl fun e tm => match e with
    | .normal => runC T cx bx jm n b tm
    | e => X.pure (e, tm)) m) (outK K)
   rw [ih, bindR_bind]
   congr 1
   funext p m'
   obtain ⟨e, fr'⟩ := p
   cases e with
   | normal => exact ih b fr' m' K
   | exit i => rfl
   | ret => rfl
  | loop body =>
   show runF n (engOf T cx bx jm) body fr m (loopC body (runF n) (engOf T cx bx jm) K) = bindR (X.bind (runC T cx bx jm n body fr) (spl fun e tm => match e with
    | .normal => runC T cx bx jm n (.loop body) tm
    | e => X.pure (e, tm)) m) (outK K)
   rw [ih, bindR_bind]
   congr 1
   funext p m'
   obtain ⟨e, fr'⟩ := p
   cases e with
   | normal => exact ih (.loop body) fr' m' K
   | exit i => rfl
   | ret => rfl
  | cond c x y =>
   show condJ c x y (runF n) (engOf T cx bx jm) fr m K = bindR ((match opd fr c with
    | some (.bool b) => joinX jm (X.bind (branch b) fun r => if r then runC T cx bx jm n x fr else runC T cx bx jm n y fr)
    | _ => X.none) m) (outK K)
   cases jm with
   | none =>
    show condD c x y (runF n) (engOf T cx bx none) fr m K = _
    rw [cond_eq T cx bx none n ih]
    rfl
   | some dead =>
    show bindR (joinF dead m (condD c x y (runF n) (engOf T cx bx (some dead)) fr m idK)) (outK K) = _
    rw [cond_eq T cx bx (some dead) n ih, bindR_id]
    congr 1
    cases opd fr c with
    | none => rfl
    | some v => cases v <;> first | rfl | exact (joinX_some _ _ _).symm
  | block id body =>
   show blkB id body (runF n) (engOf T cx bx jm) fr m K = bindR ((match bx id with
    | some sp => sp fr
    | none => joinX jm (X.bind (runC T cx bx jm n body fr) (spl fun e tm => match e with
     | .exit i => if i = id then X.pure (.normal, tm) else X.pure (.exit i, tm)
     | e => X.pure (e, tm)))) m) (outK K)
   unfold blkB
   show Option.rec (motive := fun _ => Nat → Code → RunT → Eng → Fr → Mem → KT → R) _ _ (bx id) id body (runF n) (engOf T cx bx jm) fr m K = _
   cases bx id with
   | some sp => rfl
   | none =>
    dsimp only
    have key : ∀ K', runF n (engOf T cx bx jm) body fr m (blkC id K') = bindR (X.bind (runC T cx bx jm n body fr) (spl fun e tm => match e with
     | .exit i => if i = id then X.pure (.normal, tm) else X.pure (.exit i, tm)
     | e => X.pure (e, tm)) m) (outK K') := fun K' => by
     rw [ih, bindR_bind]
     congr 1
     funext p m'
     obtain ⟨e, fr'⟩ := p
     cases e with
     | normal => rfl
     | ret => rfl
     | exit i =>
      show yes (Nat.beq i id) (K' .normal fr' m') (K' (.exit i) fr' m') = bindR ((if i = id then X.pure (SX.normal, fr') else X.pure (.exit i, fr')) m') (outK K')
      rw [yes_beq]
      by_cases hi : i = id
      ·rw [if_pos hi, if_pos hi]; rfl
      ·rw [if_neg hi, if_neg hi]; rfl
    cases jm with
    | none => exact key K
    | some dead =>
     show bindR (joinF dead m (runF n (engOf T cx bx (some dead)) body fr m (blkC id idK))) (outK K) = _
     rw [key idK, bindR_id, joinX_some]
end
theorem runF_run {P : Program} (T : Tab P) (cx : CX) (bx : BX) (jm : Option Nat) (n : Nat) (c : Code) (fr : Fr) (m : Mem) : runF n (engOf T cx bx jm) c fr m idK = runC T cx bx jm n c fr m := by
 rw [runF_eq, bindR_id]
noncomputable def inlineF {P : Program} (T : Tab P) (cx : CX) (bx : Nat → BX) (fuel : Nat) (f : Nat) (args : List SV) : X SV :=
 match T.func f with
 | some fn => match fn.body with
  | some c => fun m => X.bind (if Nat.blt fn.ntmps (2 ^ 20) && Nat.ble args.length fn.ntmps then fun m => Fr.start args fn.ntmps fun tm => runF fuel (engOf T cx (bx f) (T.dead f)) c tm m idK else X.none) (spl fun e tm => match e with
   | .exit _ => X.none
   | _ => X.bind (resS T fn tm) fun v => gcX m.seg m.next v) m
  | none => X.none
 | none => X.none
noncomputable def callF {P : Program} (T : Tab P) (sp : Specs) (bx : Nat → BX) (fuel : Nat) (d : Nat) : CX :=
 Nat.rec (motive := fun _ => CX) (fun _ _ => X.none) (fun _ ih f args => Option.rec (motive := fun _ => CX → Nat → List SV → X SV) (fun cx f args => canonX (inlineF T cx bx fuel f) args) (fun s _ _ args => s args) (sp f) ih f args) d
theorem start_run {β : Type} (args : List SV) (n : Nat) (k : Fr → X β) (m : Mem) : (Fr.start args n fun tm => k tm) m = Fr.start args n fun tm => k tm m := by
 unfold Fr.start
 have : ∀ (l : List SV) (i : Nat) (t : FT) (k : FT → X β), FT.putAll l i t k m = FT.putAll l i t fun t => k t m := by
  intro l
  induction l with
  | nil => intro i t k; rfl
  | cons x l ih =>
   intro i t k
   show (t.setK i x fun t => FT.putAll l (Nat.succ i) t k) m = t.setK i x fun t => FT.putAll l (Nat.succ i) t fun t => k t m
   rw [FT.setK_eq, FT.setK_eq, ih]
 exact this _ _ _ _
theorem inlineF_eq {P : Program} (T : Tab P) (cx : CX) (bx : Nat → BX) (fuel f : Nat) (args : List SV) : inlineF T cx bx fuel f args = inlineS T cx bx fuel f args := by
 unfold inlineF inlineS
 cases T.func f with
 | none => rfl
 | some fn =>
  dsimp only
  cases fn.body with
  | none => rfl
  | some c =>
   dsimp only
   funext m
   have : (if (Nat.blt fn.ntmps (2 ^ 20) && Nat.ble args.length fn.ntmps) = true then fun m => Fr.start args fn.ntmps fun tm => runF fuel (engOf T cx (bx f) (T.dead f)) c tm m idK else X.none) = (if (Nat.blt fn.ntmps (2 ^ 20) && Nat.ble args.length fn.ntmps) = true then Fr.start args fn.ntmps fun tm => runC T cx (bx f) (T.dead f) fuel c tm else X.none) := by
    split
    ·funext m
     rw [start_run]
     congr 1
     funext tm
     exact runF_run T cx (bx f) (T.dead f) fuel c tm m
    ·rfl
   rw [this]
   rfl
theorem callF_eq {P : Program} (T : Tab P) (sp : Specs) (bx : Nat → BX) (fuel : Nat) : ∀ d, callF T sp bx fuel d = callD T sp bx fuel d
 | 0 => rfl
 | d + 1 => by
  funext f args
  show Option.rec (motive := fun _ => CX → Nat → List SV → X SV) _ _ (sp f) (callF T sp bx fuel d) f args = match sp f with | some s => s args | none => canonX (inlineS T (callD T sp bx fuel d) bx fuel f) args
  cases sp f with
  | none =>
   dsimp only
   have : inlineF T (callF T sp bx fuel d) bx fuel f = inlineS T (callD T sp bx fuel d) bx fuel f := by
    funext args
    rw [inlineF_eq, callF_eq T sp bx fuel d]
   rw [this]
  | some s => rfl
theorem callF_ok {G : Gf} {P : Program} {T : Tab P} {sp : Specs} (hsp : SpecsOk G P sp) {bx : Nat → BX} (hbx : BxOk G P bx) (fuel d f : Nat) : SpecOk G P f (fun args => callF T sp bx fuel d f args) := by
 rw [callF_eq]
 exact call_ok hsp hbx fuel d f
end Go.Sx
