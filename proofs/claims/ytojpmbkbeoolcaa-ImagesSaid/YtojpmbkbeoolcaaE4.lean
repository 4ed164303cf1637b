/- The executor, part 4. -/
import Derived.Test.YtojpmbkbeoolcaaE3
import GoSem.ClaimWide
import Derived.WalkKit
import Derived.ProofKit
import Derived.OpenShut
import Derived.Lib.SmallJoins
import Derived.Deep.Slices
import Derived.Deep.Fields
import Derived.ChangeSame
import Derived.SizedLaws
namespace Go.Sx
open Go
noncomputable def Env.blkE (E : Env) (n b : Nat) : Env := { E with base := fun k => if k = n then b else E.base k, o := fun k => if k = n then 0 else E.o k }
theorem by_base (E : Env) {f s k : Nat} (ho : E.o s = 0) : E.by (baseSub f s k) = E.blkE f (E.base s + k) := by
 have hb : (fun j => match look j [(f, s, k)] with | some (s', k') => E.base s' + k' | none => E.base j) = fun j => if j = f then E.base s + k else E.base j := by
  funext j
  show (match cond (Nat.beq f j) (some (s, k)) none with | some (s', k') => E.base s' + k' | none => E.base j) = _
  by_cases h : j = f
  ·subst h; rw [Nat.beq_refl, if_pos rfl]; rfl
  ·have : Nat.beq f j = false := by
    cases hq : Nat.beq f j with
    | false => rfl
    | true => exact absurd (Nat.eq_of_beq_eq_true hq).symm h
   rw [this, if_neg h]; rfl
 have h2 : (fun j => match look j [(f, s, k)] with | some (s', _) => E.o s' | none => E.o j) = fun j => if j = f then 0 else E.o j := by
  funext j
  show (match cond (Nat.beq f j) (some (s, k)) none with | some (s', _) => E.o s' | none => E.o j) = _
  by_cases h : j = f
  ·subst h; rw [Nat.beq_refl, if_pos rfl]; exact ho
  ·have : Nat.beq f j = false := by
    cases hq : Nat.beq f j with
    | false => rfl
    | true => exact absurd (Nat.eq_of_beq_eq_true hq).symm h
   rw [this, if_neg h]; rfl
 show (⟨E.i, E.b, E.l, _, _, E.v, E.f⟩ : Env) = ⟨E.i, E.b, E.l, _, _, E.v, E.f⟩
 congr 1
def SemY (p : FormY) (E : Env) (w : World) (e : Ending) (w' : World) : Prop :=
 Ext (fun _ => False) w w' ∧
 ((ev E p.e = -1 ∧ ∃ b, w.heap.size ≤ b ∧ b < w'.heap.size ∧ w'.heap[b]? = some (.cells (dl (E.blkE p.mem.nv b) p.c).toArray p.t (0, 0)) ∧ e = .returned (dv (E.blkE p.mem.nv b) p.val)) ∨
  (ev E p.e ≠ -1 ∧ e = .returned (dv E p.no)))
theorem ySem {G : Gf} {P : Program} {f : Nat} {s : List SV → X SV} (hs : SpecOk G P f s) (p : FormY) {fss : List (List Fact)} (hcov : ∀ E : Env, E.f = G → E.Ok → ∃ fs ∈ fss, ∀ x ∈ fs, FactOk E x) (hall : ∀ fs ∈ fss, yRun s (p.more fs) = true)
  {E : Env} {w : World} (hgf : E.f = G) (hk : KnowOk E p.mem.know) (hsz : w.heap.size = E.base p.mem.seg + p.mem.next) (ho : E.o p.mem.seg = 0) : Calls P f (p.args.map (dv E)).toArray w (SemY p E w) := by
 obtain ⟨fs, hfs, hft⟩ := hcov E hgf hk.env
 have hall := hall fs hfs
 unfold yRun at hall
 simp only [Bool.and_eq_true] at hall
 obtain ⟨⟨⟨⟨⟨⟨hemp, hvp⟩, hcp⟩, _⟩, _⟩, _⟩, h⟩ := hall
 replace hemp : p.mem.heap.isEmpty = true := hemp
 replace hvp : p.val.plain = true := hvp
 replace hcp : p.c.plain = true := hcp
 have hemp : p.mem.heap = [] := by simpa using hemp
 split at h
 case h_2 => cases h
 rename_i outs hrun
 rw [List.all_eq_true] at h
 have hmF : MemOk (fun _ => False) w E (p.more fs).mem w := ⟨⟨hk.env, fun x hx => (List.mem_append.1 hx).elim (hft x) (hk.facts x), hk.conds⟩, hsz, fun e he => (by
  replace he : e ∈ p.mem.heap := he
  rw [hemp] at he; cases he), (by show p.mem.heap.Pairwise _; rw [hemp]; exact List.Pairwise.nil), fun e he => (by
  replace he : e ∈ p.mem.heap := he
  rw [hemp] at he; cases he), Ext.refl _ _, ho⟩
 refine (hs _ w E p.args (p.more fs).mem outs w hgf hrun hmF).mono ?_
 rintro e w' ⟨q, hq, E', hL, rfl, hm'⟩
 have hq1 := h q hq
 rw [wrongs_ok hm'.know, Bool.false_or] at hq1
 unfold yWay at hq1
 rw [Bool.and_eq_true] at hq1
 obtain ⟨n1, hq1⟩ := hq1
 have hE : E' = E := hL.same (Nat.eq_of_beq_eq_true n1)
 subst hE
 refine ⟨hm'.ext, ?_⟩
 have hmk := mkEq_ok hm'.know (simD q.2.know p.e) (.lit (-1))
 rw [simD_ok hm'.know] at hmk
 split at hq1
 case h_3 => cases hq1
 ·rename_i hlit
  replace hlit : mkEq q.2.know (simD q.2.know p.e) (.lit (-1)) = _ := hlit
  rw [hlit] at hmk
  refine .inl ⟨of_decide_eq_true hmk.symm, ?_⟩
  unfold yWay1 at hq1
  split at hq1
  case h_2 => cases hq1
  rename_i s0 k0 _ _
  split at hq1
  case h_2 => cases hq1
  rename_i v1 c1 x hv1 hc1 hx
  replace hv1 : blkS (baseSub p.mem.nv s0 k0) p.val = some v1 := hv1
  replace hc1 : blkS (baseSub p.mem.nv s0 k0) p.c = some c1 := hc1
  simp only [Bool.and_eq_true, Bool.not_eq_true'] at hq1
  obtain ⟨⟨⟨e2, e3⟩, e1⟩, e4⟩ := hq1
  have e3 : x.t = p.t := Nat.eq_of_beq_eq_true e3
  obtain ⟨x1, x2, x3⟩ := Mem.find_ok hx
  have ok := hm'.ents x x1
  obtain ⟨⟨o1, _⟩, hheap⟩ := ok.own e2
  have hbx : x.blk E' = E'.base s0 + k0 := by simp only [Ent.blk, x2, x3]
  have hby := by_base E' (f := p.mem.nv) (s := s0) (k := k0) (by rw [← x2]; exact o1)
  refine ⟨x.blk E', ?_, ok.lt, ?_, ?_⟩
  ·rcases hm'.mine x x1 e2 with h | h
   ·exact h
   ·exact h.elim
  ·rw [hbx, ← hby, blkS_ok E' p.mem.nv s0 k0 _ _ hcp hc1, ← eqU_ok hm'.know e4, ← e3, ← hbx]
   exact hheap
  ·rw [hbx, ← hby]
   unfold dv
   rw [blkS_ok E' p.mem.nv s0 k0 _ _ hvp hv1, eqU_ok hm'.know e1]
 ·rename_i hlit
  replace hlit : mkEq q.2.know (simD q.2.know p.e) (.lit (-1)) = _ := hlit
  rw [hlit] at hmk
  refine .inr ⟨of_decide_eq_false hmk.symm, ?_⟩
  replace hq1 : eqU q.2.know q.1 p.no = true := hq1
  unfold dv
  rw [eqU_ok hm'.know hq1]
end Go.Sx
namespace Go.Sx
open Go
noncomputable def inI (lo hi : Int) : IE → Know → Bool
 | .ite kd a b x y, kn => cond (inR (rng kn.facts (.ite kd a b x y)) lo hi) true (match testK kn kd a b with
  | .lit true => inI lo hi x kn
  | .lit false => inI lo hi y kn
  | _ => cond (tellN kn (testB kd a b) fun k1 => inI lo hi x k1) (tellN kn (.not (testB kd a b)) fun k2 => inI lo hi y k2) false)
 | e, kn => factIn kn e lo hi
theorem inI_ok {E : Env} {lo hi : Int} : ∀ (e : IE) (kn : Know), KnowOk E kn → inI lo hi e kn = true → lo ≤ ev E e ∧ ev E e ≤ hi := by
 intro e
 induction e with
 | ite kd a b x y ha hb hx hy =>
  clear ha hb
  intro kn hk hc
  unfold inI at hc
  cases hr : inR (rng kn.facts (.ite kd a b x y)) lo hi with
  | true =>
   have := rng_ok hk.env hk.facts (.ite kd a b x y)
   unfold inR at hr
   simp only [Bool.and_eq_true, decide_eq_true_eq] at hr
   omega
  | false =>
   rw [hr] at hc
   dsimp only [cond] at hc
   rw [ev_ite]
   have h1 := testK_ok hk kd a b
   have h2 := testB_ok E kd a b
   split at hc
   ·rename_i hq
    rw [hq] at h1
    have h1 : true = _ := h1
    rw [← h1]
    exact hx kn hk hc
   ·rename_i hq
    rw [hq] at h1
    have h1 : false = _ := h1
    rw [← h1]
    exact hy kn hk hc
   ·rw [tellN_eq, tellN_eq] at hc
    cases h3 : inI lo hi x (kn.tell (testB kd a b)) with
    | false => rw [h3] at hc; cases hc
    | true =>
     rw [h3] at hc
     cases hq : (if kd = true then decide (ev E a < ev E b) else decide (ev E a = ev E b)) with
     | true =>
      rw [hq] at h2
      exact hx _ (tell_ok hk h2) h3
     | false =>
      rw [hq] at h2
      exact hy _ (tell_ok hk (by simp [evB, h2])) hc
 | _ => intro kn hk hc; exact factIn_ok hk hc
noncomputable def vWay1 (bn : Nat) (p : FormY) (q : SV × Mem) : Bool := match refsV q.1 [] with
 | (s, k) :: _ => (match blkS (baseSub bn s k) p.val, blkS (baseSub bn s k) p.c, q.2.find s k with
  | some v, some c, some x => !x.ro && Nat.beq x.t p.t && eqU q.2.know q.1 v && eqU q.2.know x.c c
  | _, _, _ => false)
 | [] => false
noncomputable def vWay (bn : Nat) (p : FormY) (q : SV × Mem) : Bool := match mkEq q.2.know (simD q.2.know p.e) (.lit (-1)) with
 | .lit true => vWay1 bn p q
 | .lit false => eqU q.2.know q.1 p.no
 | _ => false
noncomputable def vRun (bn : Nat) (s : List SV → X SV) (p : FormY) : Bool :=
 p.mem.heap.isEmpty && p.val.plain && p.c.plain && Nat.blt bn p.mem.nv && p.e.nm p.mem.nv && p.val.nm p.mem.nv && p.c.nm p.mem.nv && p.no.nm p.mem.nv && match s p.args p.mem with
 | some outs => outs.all fun q => wrongs q.2.know || vWay bn p q
 | none => false
def SemV (bn : Nat) (p : FormY) (E : Env) (w : World) (e : Ending) (w' : World) : Prop :=
 Ext (fun _ => False) w w' ∧
 ((ev E p.e = -1 ∧ ∃ b, w.heap.size ≤ b ∧ b < w'.heap.size ∧ w'.heap[b]? = some (.cells (dl (E.blkE bn b) p.c).toArray p.t (0, 0)) ∧ e = .returned (dv (E.blkE bn b) p.val)) ∨
  (ev E p.e ≠ -1 ∧ e = .returned (dv E p.no)))
theorem blkE_agree {n : Nat} {E E' : Env} (h : Agree n E E') (bn b : Nat) : Agree n (E.blkE bn b) (E'.blkE bn b) :=
 ⟨h.i, h.b, h.l, fun k hk => by
  show (if k = bn then b else E'.base k) = if k = bn then b else E.base k
  rw [h.base k hk], fun k hk => by
  show (if k = bn then 0 else E'.o k) = if k = bn then 0 else E.o k
  rw [h.o k hk], h.v, h.f⟩
theorem vSem {G : Gf} {P : Program} {f : Nat} {s : List SV → X SV} (hs : SpecOk G P f s) (bn : Nat) (p : FormY) {fss : List (List Fact)} (hcov : ∀ E : Env, E.f = G → KnowOk E p.mem.know → ∃ fs ∈ fss, ∀ x ∈ fs, FactOk E x) (hall : ∀ fs ∈ fss, vRun bn s (p.more fs) = true)
  {E : Env} {w : World} (hgf : E.f = G) (hk : KnowOk E p.mem.know) (hsz : w.heap.size = E.base p.mem.seg + p.mem.next) (ho : E.o p.mem.seg = 0) : Calls P f (p.args.map (dv E)).toArray w (SemV bn p E w) := by
 obtain ⟨fs, hfs, hft⟩ := hcov E hgf hk
 have hall := hall fs hfs
 unfold vRun at hall
 simp only [Bool.and_eq_true] at hall
 obtain ⟨⟨⟨⟨⟨⟨⟨⟨hemp, hvp⟩, hcp⟩, _⟩, ne⟩, nv⟩, nc⟩, nn⟩, h⟩ := hall
 replace hemp : p.mem.heap.isEmpty = true := hemp
 replace hvp : p.val.plain = true := hvp
 replace hcp : p.c.plain = true := hcp
 replace ne : p.e.nm p.mem.nv = true := ne
 replace nv : p.val.nm p.mem.nv = true := nv
 replace nc : p.c.nm p.mem.nv = true := nc
 replace nn : p.no.nm p.mem.nv = true := nn
 have hemp : p.mem.heap = [] := by simpa using hemp
 split at h
 case h_2 => cases h
 rename_i outs hrun
 rw [List.all_eq_true] at h
 have hmF : MemOk (fun _ => False) w E (p.more fs).mem w := ⟨⟨hk.env, fun x hx => (List.mem_append.1 hx).elim (hft x) (hk.facts x), hk.conds⟩, hsz, fun e he => (by
  replace he : e ∈ p.mem.heap := he
  rw [hemp] at he; cases he), (by show p.mem.heap.Pairwise _; rw [hemp]; exact List.Pairwise.nil), fun e he => (by
  replace he : e ∈ p.mem.heap := he
  rw [hemp] at he; cases he), Ext.refl _ _, ho⟩
 refine (hs _ w E p.args (p.more fs).mem outs w hgf hrun hmF).mono ?_
 rintro e w' ⟨q, hq, E', hL, rfl, hm'⟩
 have hA : Agree p.mem.nv E E' := hL.agree
 have hq1 := h q hq
 rw [wrongs_ok hm'.know, Bool.false_or] at hq1
 unfold vWay at hq1
 refine ⟨hm'.ext, ?_⟩
 have hmk := mkEq_ok hm'.know (simD q.2.know p.e) (.lit (-1))
 rw [simD_ok hm'.know, ev_agree hA ne] at hmk
 split at hq1
 case h_3 => cases hq1
 ·rename_i hlit
  replace hlit : mkEq q.2.know (simD q.2.know p.e) (.lit (-1)) = _ := hlit
  rw [hlit] at hmk
  refine .inl ⟨of_decide_eq_true hmk.symm, ?_⟩
  unfold vWay1 at hq1
  split at hq1
  case h_2 => cases hq1
  rename_i s0 k0 _ _
  split at hq1
  case h_2 => cases hq1
  rename_i v1 c1 x hv1 hc1 hx
  replace hv1 : blkS (baseSub bn s0 k0) p.val = some v1 := hv1
  replace hc1 : blkS (baseSub bn s0 k0) p.c = some c1 := hc1
  simp only [Bool.and_eq_true, Bool.not_eq_true'] at hq1
  obtain ⟨⟨⟨e2, e3⟩, e1⟩, e4⟩ := hq1
  have e3 : x.t = p.t := Nat.eq_of_beq_eq_true e3
  obtain ⟨x1, x2, x3⟩ := Mem.find_ok hx
  have ok := hm'.ents x x1
  obtain ⟨⟨o1, _⟩, hheap⟩ := ok.own e2
  have hbx : x.blk E' = E'.base s0 + k0 := by simp only [Ent.blk, x2, x3]
  have hby := by_base E' (f := bn) (s := s0) (k := k0) (by rw [← x2]; exact o1)
  refine ⟨x.blk E', ?_, ok.lt, ?_, ?_⟩
  ·rcases hm'.mine x x1 e2 with h | h
   ·exact h
   ·exact h.elim
  ·rw [← dl_agree (blkE_agree hA bn (x.blk E')) _ nc, hbx, ← hby, blkS_ok E' bn s0 k0 _ _ hcp hc1, ← eqU_ok hm'.know e4, ← e3, ← hbx]
   exact hheap
  ·rw [← dv_agree (blkE_agree hA bn (x.blk E')) nv, hbx, ← hby]
   unfold dv
   rw [blkS_ok E' bn s0 k0 _ _ hvp hv1, eqU_ok hm'.know e1]
 ·rename_i hlit
  replace hlit : mkEq q.2.know (simD q.2.know p.e) (.lit (-1)) = _ := hlit
  rw [hlit] at hmk
  refine .inr ⟨of_decide_eq_false hmk.symm, ?_⟩
  replace hq1 : eqU q.2.know q.1 p.no = true := hq1
  rw [← dv_agree hA nn]
  unfold dv
  rw [eqU_ok hm'.know hq1]
end Go.Sx
namespace Go.Sx
open Go
structure HeadP where
 tm : List SV
 mem : Mem
 mu : IE
 deriving Inhabited
structure LeaveP where
 e : SX
 tm : List SV
 mem : Mem
 deriving Inhabited
noncomputable def fits (n : Nat) (ptm : List SV) (pm : Mem) (tm : List SV) (m : Mem) : Bool := rerootF n (matchAll n ptm pm tm m) ptm pm tm m
noncomputable def anyS {α : Type} (p : α → Bool) (l : List α) : Bool := List.rec (motive := fun _ => Bool) false (fun x _ ih => cond (p x) true ih) l
theorem anyS_ok {α : Type} {p : α → Bool} : ∀ {l : List α}, anyS p l = true → ∃ x ∈ l, p x = true := by
 intro l
 induction l with
 | nil => intro h; cases h
 | cons x r ih =>
  intro h
  have h' : cond (p x) true (anyS p r) = true := h
  cases hp : p x with
  | true => exact ⟨x, List.mem_cons_self, hp⟩
  | false =>
   rw [hp] at h'
   obtain ⟨y, hy, h2⟩ := ih h'
   exact ⟨y, List.mem_cons_of_mem _ hy, h2⟩
noncomputable def leaveOf (id : Nat) : SX → SX
 | .exit i => if i = id then .normal else .exit i
 | e => e
noncomputable def nonnegI (kn : Know) (σ : Sub) (μ : IE) : Bool := match instI σ μ with
 | some μ' => nonneg kn (norm μ')
 | none => false
noncomputable def headOk {P : Program} (T : Tab P) (cx : CX) (bx : BX) (jm : Option Nat) (fuel id : Nat) (body : Code) (n : Nat) (heads : List HeadP) (leaves : List LeaveP) (h : HeadP) : Bool :=
 match runC T cx bx jm fuel body (Fr.ofL h.tm) h.mem with
 | none => false
 | some outs => outs.all fun q => match q.1.1 with
  | .normal => anyS (fun g => fits n g.tm g.mem q.1.2.toL q.2 && nonnegI q.2.know (matchAll n g.tm g.mem q.1.2.toL q.2) g.mu && (match instI (matchAll n g.tm g.mem q.1.2.toL q.2) g.mu with
    | some μ' => isLt q.2.know (norm μ') h.mu
    | none => false)) heads
  | e => anyS (fun x => (x.e == leaveOf id e) && fits n x.tm x.mem q.1.2.toL q.2) leaves
noncomputable def loopP (n : Nat) (heads : List HeadP) (leaves : List LeaveP) : Fr → X (SX × Fr) := fun tm m =>
 if Nat.beq m.nv n && heads.all (fun h => Nat.ble (n + 1) h.mem.nv && h.mu.nm h.mem.nv) && leaves.all (fun x => Nat.ble (n + 1) x.mem.nv) && anyS (fun h => fits n h.tm h.mem tm.toL m) heads then
  some (leaves.map fun x => ((x.e, Fr.ofL x.tm), x.mem))
 else none
noncomputable def HeadP.more (h : HeadP) (fs : List Fact) : HeadP := { h with mem := { h.mem with know := ⟨fs ++ h.mem.know.facts, h.mem.know.conds⟩ } }
theorem MemOk.more {F : Nat → Prop} {w0 : World} {E : Env} {m : Mem} {w : World} (h : MemOk F w0 E m w) {fs : List Fact} (hf : ∀ f ∈ fs, FactOk E f) : MemOk F w0 E { m with know := ⟨fs ++ m.know.facts, m.know.conds⟩ } w :=
 ⟨⟨h.know.env, fun f hm => by
  rcases List.mem_append.1 hm with hm | hm
  ·exact hf f hm
  ·exact h.know.facts f hm, h.know.conds⟩, h.size, h.ents, h.apart, h.mine, h.ext, h.seg0⟩
theorem loopPc_ok {G : Gf} {P : Program} {T : Tab P} {cx : CX} (hcx : CallsOk G P cx) {bx : BX} {jm : Option Nat} {fuel id : Nat} {body : Code} (hb : BlocksOk G P bx body) {n : Nat} {heads : List HeadP} {leaves : List LeaveP}
  (hall : ∀ h ∈ heads, ∃ cs : List (List Fact), (∀ E : Env, E.Ok → (∀ f ∈ h.mem.know.facts, FactOk E f) → ∃ c ∈ cs, ∀ f ∈ c, FactOk E f) ∧ ∀ c ∈ cs, headOk T cx bx jm fuel id body n heads leaves (h.more c) = true) : CodeOk G P (.block id (.loop body)) (loopP n heads leaves) := by
 intro F w0 E0 tm a m w exits hgf ho hm ha
 unfold loopP at ho
 split at ho
 case isFalse => cases ho
 rename_i hc
 simp only [Bool.and_eq_true, List.all_eq_true] at hc
 obtain ⟨⟨⟨hn, hh⟩, hl⟩, hany⟩ := hc
 have hn := Nat.eq_of_beq_eq_true hn
 cases ho
 obtain ⟨h0, hh0, hf0⟩ := anyS_ok hany
 obtain ⟨hA0, hm0, hl0⟩ := rerootF_ok hf0 hm
 have toFr : ∀ {E E' : Env} {tm : Fr} {tmH : List SV} {a : Act}, FrOk E tm a → Slots E' E tmH tm.toL → FrOk E' (Fr.ofL tmH) a := fun h he => h.slots he
 have ha0 := toFr ha hl0
 have nvh : ∀ h ∈ heads, n + 1 ≤ h.mem.nv ∧ h.mu.nm h.mem.nv = true := fun h hm => ⟨Nat.le_of_ble_eq_true (hh h hm).1, (hh h hm).2⟩
 have nvl : ∀ x ∈ leaves, n + 1 ≤ x.mem.nv := fun x hx => Nat.le_of_ble_eq_true (hl x hx)
 have key : ∀ (k : Nat) (h : HeadP), h ∈ heads → ∀ (E : Env) (a : Act) (w : World), Agree n E0 E → MemOk F w0 E h.mem w → FrOk E (Fr.ofL h.tm) a → (ev E h.mu).toNat < k →
   Code.rounds P body (Exit.inBlock id (Post F w0 E0 m (leaves.map fun x => ((x.e, Fr.ofL x.tm), x.mem)))) k a w := by
  intro k
  induction k with
  | zero => intro h _ E a w _ _ _ hlt; omega
  | succ k ih =>
   intro h hmem E a w hL hm ha hk
   obtain ⟨cs, hcov, hall2⟩ := hall h hmem
   obtain ⟨c, hc, hcf⟩ := hcov E hm.know.env hm.know.facts
   have hok := hall2 c hc
   unfold headOk at hok
   split at hok
   ·cases hok
   rename_i outs hrun
   rw [List.all_eq_true] at hok
   rw [rounds_succ]
   refine wp_mono ((runC_ok hcx fuel).1 body hb F w0 E (Fr.ofL h.tm) a (h.more c).mem w outs (hL.f.trans hgf) hrun (hm.more hcf) ha) ?_
   rintro e a' w' ⟨q, hq, E', hA, he, hf, hm'⟩
   replace hA : Later h.mem.nv q.2.nv E E' := hA
   have hq' := hok q hq
   have leave : ∀ e0 : SX, q.1.1 = e0 → anyS (fun x => (x.e == leaveOf id e0) && fits n x.tm x.mem q.1.2.toL q.2) leaves = true →
     ∃ y ∈ leaves.map (fun x => ((x.e, Fr.ofL x.tm), x.mem)), ∃ E'', Later m.nv y.2.nv E0 E'' ∧ leaveOf id e0 = y.1.1 ∧ FrOk E'' y.1.2 a' ∧ MemOk F w0 E'' y.2 w' := by
    intro e0 _ hany
    obtain ⟨x, hx, hfx⟩ := anyS_ok hany
    simp only [Bool.and_eq_true, beq_iff_eq] at hfx
    obtain ⟨hxe, hfx⟩ := hfx
    obtain ⟨hA2, hm2, hl2⟩ := rerootF_ok hfx hm'
    refine ⟨_, List.mem_map.2 ⟨x, hx, rfl⟩, E'.by (matchAll n x.tm x.mem q.1.2.toL q.2), ⟨?_, ?_, ?_⟩, hxe.symm, toFr hf hl2, hm2⟩
    ·rw [hn]
     exact (hL.trans ⟨fun k hk => hA.agree.i k (by have := (nvh h hmem).1; omega), fun k hk => hA.agree.b k (by have := (nvh h hmem).1; omega), fun k hk => hA.agree.l k (by have := (nvh h hmem).1; omega), fun k hk => hA.agree.base k (by have := (nvh h hmem).1; omega), fun k hk => hA.agree.o k (by have := (nvh h hmem).1; omega), fun k hk => hA.agree.v k (by have := (nvh h hmem).1; omega), hA.agree.f⟩ (Nat.le_refl _)).trans hA2 (Nat.le_refl _)
    ·have := nvl x hx; dsimp only; omega
    ·intro hnv; have := nvl x hx; dsimp only at hnv; omega
   cases hx : q.1.1 with
   | normal =>
    rw [hx] at he hq'
    subst he
    obtain ⟨g, hg, hfg⟩ := anyS_ok hq'
    simp only [Bool.and_eq_true] at hfg
    obtain ⟨⟨hfit, hd⟩, hlt⟩ := hfg
    obtain ⟨hA2, hm2, hl2⟩ := rerootF_ok hfit hm'
    generalize hσ : matchAll n g.tm g.mem q.1.2.toL q.2 = σ at *
    unfold nonnegI at hd
    cases hμ' : instI σ g.mu with
    | none => rw [hμ'] at hd; cases hd
    | some μ' =>
    rw [hμ'] at hd hlt
    have e1 : ev (E'.by σ) g.mu = ev E' μ' := instI_ev hμ'
    have e2 : ev E' (norm μ') < ev E' h.mu := isLt_ok hm'.know hlt
    have e3 := nonneg_ok hm'.know hd
    rw [norm_ok] at e2 e3
    have e4 : ev E' h.mu = ev E h.mu := ev_agree hA.agree (nvh h hmem).2
    show Code.rounds P body (Exit.inBlock id _) k a' w'
    refine ih g hg (E'.by σ) a' w' ?_ hm2 (toFr hf hl2) ?_
    ·exact (hL.trans ⟨fun k hk => hA.agree.i k (by have := (nvh h hmem).1; omega), fun k hk => hA.agree.b k (by have := (nvh h hmem).1; omega), fun k hk => hA.agree.l k (by have := (nvh h hmem).1; omega), fun k hk => hA.agree.base k (by have := (nvh h hmem).1; omega), fun k hk => hA.agree.o k (by have := (nvh h hmem).1; omega), fun k hk => hA.agree.v k (by have := (nvh h hmem).1; omega), hA.agree.f⟩ (Nat.le_refl _)).trans hA2 (Nat.le_refl _)
    ·rw [e1]; omega
   | exit i =>
    rw [hx] at he hq'
    subst he
    obtain ⟨y, hy, E'', h1, h2, h3, h4⟩ := leave (.exit i) hx hq'
    show if i = id then _ else _
    replace h2 : (if i = id then SX.normal else .exit i) = y.1.1 := h2
    by_cases hi : i = id
    ·rw [if_pos hi] at h2 ⊢
     exact ⟨y, hy, E'', h1, by rw [← h2]; rfl, h3, h4⟩
    ·rw [if_neg hi] at h2 ⊢
     exact ⟨y, hy, E'', h1, by rw [← h2]; rfl, h3, h4⟩
   | ret =>
    rw [hx] at he hq'
    subst he
    obtain ⟨y, hy, E'', h1, h2, h3, h4⟩ := leave .ret hx hq'
    exact ⟨y, hy, E'', h1, by rw [← h2]; rfl, h3, h4⟩
 refine wp_block (wp_loop_rounds ((ev (E0.by (matchAll n h0.tm h0.mem tm.toL m)) h0.mu).toNat + 1) ?_)
 exact key _ h0 hh0 _ a w hA0 hm0 ha0 (by omega)
theorem loopP_ok {G : Gf} {P : Program} {T : Tab P} {cx : CX} (hcx : CallsOk G P cx) {bx : BX} {jm : Option Nat} {fuel id : Nat} {body : Code} (hb : BlocksOk G P bx body) {n : Nat} {heads : List HeadP} {leaves : List LeaveP}
  (hall : ∀ h ∈ heads, headOk T cx bx jm fuel id body n heads leaves h = true) : CodeOk G P (.block id (.loop body)) (loopP n heads leaves) := by
 intro F w0 E0 tm a m w exits hgf ho hm ha
 unfold loopP at ho
 split at ho
 case isFalse => cases ho
 rename_i hc
 simp only [Bool.and_eq_true, List.all_eq_true] at hc
 obtain ⟨⟨⟨hn, hh⟩, hl⟩, hany⟩ := hc
 have hn := Nat.eq_of_beq_eq_true hn
 cases ho
 obtain ⟨h0, hh0, hf0⟩ := anyS_ok hany
 obtain ⟨hA0, hm0, hl0⟩ := rerootF_ok hf0 hm
 have toFr : ∀ {E E' : Env} {tm : Fr} {tmH : List SV} {a : Act}, FrOk E tm a → Slots E' E tmH tm.toL → FrOk E' (Fr.ofL tmH) a := fun h he => h.slots he
 have ha0 := toFr ha hl0
 have nvh : ∀ h ∈ heads, n + 1 ≤ h.mem.nv ∧ h.mu.nm h.mem.nv = true := fun h hm => ⟨Nat.le_of_ble_eq_true (hh h hm).1, (hh h hm).2⟩
 have nvl : ∀ x ∈ leaves, n + 1 ≤ x.mem.nv := fun x hx => Nat.le_of_ble_eq_true (hl x hx)
 have key : ∀ (k : Nat) (h : HeadP), h ∈ heads → ∀ (E : Env) (a : Act) (w : World), Agree n E0 E → MemOk F w0 E h.mem w → FrOk E (Fr.ofL h.tm) a → (ev E h.mu).toNat < k →
   Code.rounds P body (Exit.inBlock id (Post F w0 E0 m (leaves.map fun x => ((x.e, Fr.ofL x.tm), x.mem)))) k a w := by
  intro k
  induction k with
  | zero => intro h _ E a w _ _ _ hlt; omega
  | succ k ih =>
   intro h hmem E a w hL hm ha hk
   have hok := hall h hmem
   unfold headOk at hok
   split at hok
   ·cases hok
   rename_i outs hrun
   rw [List.all_eq_true] at hok
   rw [rounds_succ]
   refine wp_mono ((runC_ok hcx fuel).1 body hb F w0 E (Fr.ofL h.tm) a h.mem w outs (hL.f.trans hgf) hrun hm ha) ?_
   rintro e a' w' ⟨q, hq, E', hA, he, hf, hm'⟩
   have hq' := hok q hq
   have leave : ∀ e0 : SX, q.1.1 = e0 → anyS (fun x => (x.e == leaveOf id e0) && fits n x.tm x.mem q.1.2.toL q.2) leaves = true →
     ∃ y ∈ leaves.map (fun x => ((x.e, Fr.ofL x.tm), x.mem)), ∃ E'', Later m.nv y.2.nv E0 E'' ∧ leaveOf id e0 = y.1.1 ∧ FrOk E'' y.1.2 a' ∧ MemOk F w0 E'' y.2 w' := by
    intro e0 _ hany
    obtain ⟨x, hx, hfx⟩ := anyS_ok hany
    simp only [Bool.and_eq_true, beq_iff_eq] at hfx
    obtain ⟨hxe, hfx⟩ := hfx
    obtain ⟨hA2, hm2, hl2⟩ := rerootF_ok hfx hm'
    refine ⟨_, List.mem_map.2 ⟨x, hx, rfl⟩, E'.by (matchAll n x.tm x.mem q.1.2.toL q.2), ⟨?_, ?_, ?_⟩, hxe.symm, toFr hf hl2, hm2⟩
    ·rw [hn]
     exact (hL.trans ⟨fun k hk => hA.agree.i k (by have := (nvh h hmem).1; omega), fun k hk => hA.agree.b k (by have := (nvh h hmem).1; omega), fun k hk => hA.agree.l k (by have := (nvh h hmem).1; omega), fun k hk => hA.agree.base k (by have := (nvh h hmem).1; omega), fun k hk => hA.agree.o k (by have := (nvh h hmem).1; omega), fun k hk => hA.agree.v k (by have := (nvh h hmem).1; omega), hA.agree.f⟩ (Nat.le_refl _)).trans hA2 (Nat.le_refl _)
    ·have := nvl x hx; dsimp only; omega
    ·intro hnv; have := nvl x hx; dsimp only at hnv; omega
   cases hx : q.1.1 with
   | normal =>
    rw [hx] at he hq'
    subst he
    obtain ⟨g, hg, hfg⟩ := anyS_ok hq'
    simp only [Bool.and_eq_true] at hfg
    obtain ⟨⟨hfit, hd⟩, hlt⟩ := hfg
    obtain ⟨hA2, hm2, hl2⟩ := rerootF_ok hfit hm'
    generalize hσ : matchAll n g.tm g.mem q.1.2.toL q.2 = σ at *
    unfold nonnegI at hd
    cases hμ' : instI σ g.mu with
    | none => rw [hμ'] at hd; cases hd
    | some μ' =>
    rw [hμ'] at hd hlt
    have e1 : ev (E'.by σ) g.mu = ev E' μ' := instI_ev hμ'
    have e2 := isLt_ok hm'.know hlt
    have e3 := nonneg_ok hm'.know hd
    rw [norm_ok] at e2 e3
    have e4 : ev E' h.mu = ev E h.mu := ev_agree hA.agree (nvh h hmem).2
    show Code.rounds P body (Exit.inBlock id _) k a' w'
    refine ih g hg (E'.by σ) a' w' ?_ hm2 (toFr hf hl2) ?_
    ·exact (hL.trans ⟨fun k hk => hA.agree.i k (by have := (nvh h hmem).1; omega), fun k hk => hA.agree.b k (by have := (nvh h hmem).1; omega), fun k hk => hA.agree.l k (by have := (nvh h hmem).1; omega), fun k hk => hA.agree.base k (by have := (nvh h hmem).1; omega), fun k hk => hA.agree.o k (by have := (nvh h hmem).1; omega), fun k hk => hA.agree.v k (by have := (nvh h hmem).1; omega), hA.agree.f⟩ (Nat.le_refl _)).trans hA2 (Nat.le_refl _)
    ·rw [e1]; omega
   | exit i =>
    rw [hx] at he hq'
    subst he
    obtain ⟨y, hy, E'', h1, h2, h3, h4⟩ := leave (.exit i) hx hq'
    show if i = id then _ else _
    replace h2 : (if i = id then SX.normal else .exit i) = y.1.1 := h2
    by_cases hi : i = id
    ·rw [if_pos hi] at h2 ⊢
     exact ⟨y, hy, E'', h1, by rw [← h2]; rfl, h3, h4⟩
    ·rw [if_neg hi] at h2 ⊢
     exact ⟨y, hy, E'', h1, by rw [← h2]; rfl, h3, h4⟩
   | ret =>
    rw [hx] at he hq'
    subst he
    obtain ⟨y, hy, E'', h1, h2, h3, h4⟩ := leave .ret hx hq'
    exact ⟨y, hy, E'', h1, by rw [← h2]; rfl, h3, h4⟩
 refine wp_block (wp_loop_rounds ((ev (E0.by (matchAll n h0.tm h0.mem tm.toL m)) h0.mu).toNat + 1) ?_)
 exact key _ h0 hh0 _ a w hA0 hm0 ha0 (by omega)
end Go.Sx
namespace Go.Sx
open Go
noncomputable def HeadP.moreC (h : HeadP) (c : List Fact × List BE) : HeadP := { h with mem := { h.mem with know := ⟨c.1 ++ h.mem.know.facts, c.2 ++ h.mem.know.conds⟩ } }
theorem MemOk.moreC {F : Nat → Prop} {w0 : World} {E : Env} {m : Mem} {w : World} (h : MemOk F w0 E m w) {c : List Fact × List BE} (hc : (∀ f ∈ c.1, FactOk E f) ∧ ∀ b ∈ c.2, evB E b = true) : MemOk F w0 E { m with know := ⟨c.1 ++ m.know.facts, c.2 ++ m.know.conds⟩ } w :=
 ⟨⟨h.know.env, fun f hm => (List.mem_append.1 hm).elim (hc.1 f) (h.know.facts f), fun b hm => (List.mem_append.1 hm).elim (hc.2 b) (h.know.conds b)⟩, h.size, h.ents, h.apart, h.mine, h.ext, h.seg0⟩
theorem loopPd_ok {G : Gf} {P : Program} {T : Tab P} {cx : CX} (hcx : CallsOk G P cx) {bx : BX} {jm : Option Nat} {fuel id : Nat} {body : Code} (hb : BlocksOk G P bx body) {n : Nat} {heads : List HeadP} {leaves : List LeaveP}
  (hall : ∀ h ∈ heads, ∃ cs : List (List Fact × List BE), (∀ E : Env, E.Ok → (∀ f ∈ h.mem.know.facts, FactOk E f) → ∃ c ∈ cs, (∀ f ∈ c.1, FactOk E f) ∧ ∀ b ∈ c.2, evB E b = true) ∧ ∀ c ∈ cs, headOk T cx bx jm fuel id body n heads leaves (h.moreC c) = true) : CodeOk G P (.block id (.loop body)) (loopP n heads leaves) := by
 intro F w0 E0 tm a m w exits hgf ho hm ha
 unfold loopP at ho
 split at ho
 case isFalse => cases ho
 rename_i hc
 simp only [Bool.and_eq_true, List.all_eq_true] at hc
 obtain ⟨⟨⟨hn, hh⟩, hl⟩, hany⟩ := hc
 have hn := Nat.eq_of_beq_eq_true hn
 cases ho
 obtain ⟨h0, hh0, hf0⟩ := anyS_ok hany
 obtain ⟨hA0, hm0, hl0⟩ := rerootF_ok hf0 hm
 have toFr : ∀ {E E' : Env} {tm : Fr} {tmH : List SV} {a : Act}, FrOk E tm a → Slots E' E tmH tm.toL → FrOk E' (Fr.ofL tmH) a := fun h he => h.slots he
 have ha0 := toFr ha hl0
 have nvh : ∀ h ∈ heads, n + 1 ≤ h.mem.nv ∧ h.mu.nm h.mem.nv = true := fun h hm => ⟨Nat.le_of_ble_eq_true (hh h hm).1, (hh h hm).2⟩
 have nvl : ∀ x ∈ leaves, n + 1 ≤ x.mem.nv := fun x hx => Nat.le_of_ble_eq_true (hl x hx)
 have key : ∀ (k : Nat) (h : HeadP), h ∈ heads → ∀ (E : Env) (a : Act) (w : World), Agree n E0 E → MemOk F w0 E h.mem w → FrOk E (Fr.ofL h.tm) a → (ev E h.mu).toNat < k →
   Code.rounds P body (Exit.inBlock id (Post F w0 E0 m (leaves.map fun x => ((x.e, Fr.ofL x.tm), x.mem)))) k a w := by
  intro k
  induction k with
  | zero => intro h _ E a w _ _ _ hlt; omega
  | succ k ih =>
   intro h hmem E a w hL hm ha hk
   obtain ⟨cs, hcov, hall2⟩ := hall h hmem
   obtain ⟨c, hc, hcf⟩ := hcov E hm.know.env hm.know.facts
   have hok := hall2 c hc
   unfold headOk at hok
   split at hok
   ·cases hok
   rename_i outs hrun
   rw [List.all_eq_true] at hok
   rw [rounds_succ]
   refine wp_mono ((runC_ok hcx fuel).1 body hb F w0 E (Fr.ofL h.tm) a (h.moreC c).mem w outs (hL.f.trans hgf) hrun (hm.moreC hcf) ha) ?_
   rintro e a' w' ⟨q, hq, E', hA, he, hf, hm'⟩
   replace hA : Later h.mem.nv q.2.nv E E' := hA
   have hq' := hok q hq
   have leave : ∀ e0 : SX, q.1.1 = e0 → anyS (fun x => (x.e == leaveOf id e0) && fits n x.tm x.mem q.1.2.toL q.2) leaves = true →
     ∃ y ∈ leaves.map (fun x => ((x.e, Fr.ofL x.tm), x.mem)), ∃ E'', Later m.nv y.2.nv E0 E'' ∧ leaveOf id e0 = y.1.1 ∧ FrOk E'' y.1.2 a' ∧ MemOk F w0 E'' y.2 w' := by
    intro e0 _ hany
    obtain ⟨x, hx, hfx⟩ := anyS_ok hany
    simp only [Bool.and_eq_true, beq_iff_eq] at hfx
    obtain ⟨hxe, hfx⟩ := hfx
    obtain ⟨hA2, hm2, hl2⟩ := rerootF_ok hfx hm'
    refine ⟨_, List.mem_map.2 ⟨x, hx, rfl⟩, E'.by (matchAll n x.tm x.mem q.1.2.toL q.2), ⟨?_, ?_, ?_⟩, hxe.symm, toFr hf hl2, hm2⟩
    ·rw [hn]
     exact (hL.trans ⟨fun k hk => hA.agree.i k (by have := (nvh h hmem).1; omega), fun k hk => hA.agree.b k (by have := (nvh h hmem).1; omega), fun k hk => hA.agree.l k (by have := (nvh h hmem).1; omega), fun k hk => hA.agree.base k (by have := (nvh h hmem).1; omega), fun k hk => hA.agree.o k (by have := (nvh h hmem).1; omega), fun k hk => hA.agree.v k (by have := (nvh h hmem).1; omega), hA.agree.f⟩ (Nat.le_refl _)).trans hA2 (Nat.le_refl _)
    ·have := nvl x hx; dsimp only; omega
    ·intro hnv; have := nvl x hx; dsimp only at hnv; omega
   cases hx : q.1.1 with
   | normal =>
    rw [hx] at he hq'
    subst he
    obtain ⟨g, hg, hfg⟩ := anyS_ok hq'
    simp only [Bool.and_eq_true] at hfg
    obtain ⟨⟨hfit, hd⟩, hlt⟩ := hfg
    obtain ⟨hA2, hm2, hl2⟩ := rerootF_ok hfit hm'
    generalize hσ : matchAll n g.tm g.mem q.1.2.toL q.2 = σ at *
    unfold nonnegI at hd
    cases hμ' : instI σ g.mu with
    | none => rw [hμ'] at hd; cases hd
    | some μ' =>
    rw [hμ'] at hd hlt
    have e1 : ev (E'.by σ) g.mu = ev E' μ' := instI_ev hμ'
    have e2 : ev E' (norm μ') < ev E' h.mu := isLt_ok hm'.know hlt
    have e3 := nonneg_ok hm'.know hd
    rw [norm_ok] at e2 e3
    have e4 : ev E' h.mu = ev E h.mu := ev_agree hA.agree (nvh h hmem).2
    show Code.rounds P body (Exit.inBlock id _) k a' w'
    refine ih g hg (E'.by σ) a' w' ?_ hm2 (toFr hf hl2) ?_
    ·exact (hL.trans ⟨fun k hk => hA.agree.i k (by have := (nvh h hmem).1; omega), fun k hk => hA.agree.b k (by have := (nvh h hmem).1; omega), fun k hk => hA.agree.l k (by have := (nvh h hmem).1; omega), fun k hk => hA.agree.base k (by have := (nvh h hmem).1; omega), fun k hk => hA.agree.o k (by have := (nvh h hmem).1; omega), fun k hk => hA.agree.v k (by have := (nvh h hmem).1; omega), hA.agree.f⟩ (Nat.le_refl _)).trans hA2 (Nat.le_refl _)
    ·rw [e1]; omega
   | exit i =>
    rw [hx] at he hq'
    subst he
    obtain ⟨y, hy, E'', h1, h2, h3, h4⟩ := leave (.exit i) hx hq'
    show if i = id then _ else _
    replace h2 : (if i = id then SX.normal else .exit i) = y.1.1 := h2
    by_cases hi : i = id
    ·rw [if_pos hi] at h2 ⊢
     exact ⟨y, hy, E'', h1, by rw [← h2]; rfl, h3, h4⟩
    ·rw [if_neg hi] at h2 ⊢
     exact ⟨y, hy, E'', h1, by rw [← h2]; rfl, h3, h4⟩
   | ret =>
    rw [hx] at he hq'
    subst he
    obtain ⟨y, hy, E'', h1, h2, h3, h4⟩ := leave .ret hx hq'
    exact ⟨y, hy, E'', h1, by rw [← h2]; rfl, h3, h4⟩
 refine wp_block (wp_loop_rounds ((ev (E0.by (matchAll n h0.tm h0.mem tm.toL m)) h0.mu).toNat + 1) ?_)
 exact key _ h0 hh0 _ a w hA0 hm0 ha0 (by omega)
end Go.Sx
namespace Go.Sx
open Go
theorem loopPe_ok {G : Gf} {P : Program} {T : Tab P} {cx : CX} (hcx : CallsOk G P cx) {bx : BX} {jm : Option Nat} {fuel id : Nat} {body : Code} (hb : BlocksOk G P bx body) {n : Nat} {heads : List HeadP} {leaves : List LeaveP}
  (hall : ∀ h ∈ heads, ∃ cs : List (List Fact × List BE), (∀ E : Env, E.f = G → E.Ok → (∀ f ∈ h.mem.know.facts, FactOk E f) → ∃ c ∈ cs, (∀ f ∈ c.1, FactOk E f) ∧ ∀ b ∈ c.2, evB E b = true) ∧ ∀ c ∈ cs, headOk T cx bx jm fuel id body n heads leaves (h.moreC c) = true) : CodeOk G P (.block id (.loop body)) (loopP n heads leaves) := by
 intro F w0 E0 tm a m w exits hgf ho hm ha
 unfold loopP at ho
 split at ho
 case isFalse => cases ho
 rename_i hc
 simp only [Bool.and_eq_true, List.all_eq_true] at hc
 obtain ⟨⟨⟨hn, hh⟩, hl⟩, hany⟩ := hc
 have hn := Nat.eq_of_beq_eq_true hn
 cases ho
 obtain ⟨h0, hh0, hf0⟩ := anyS_ok hany
 obtain ⟨hA0, hm0, hl0⟩ := rerootF_ok hf0 hm
 have toFr : ∀ {E E' : Env} {tm : Fr} {tmH : List SV} {a : Act}, FrOk E tm a → Slots E' E tmH tm.toL → FrOk E' (Fr.ofL tmH) a := fun h he => h.slots he
 have ha0 := toFr ha hl0
 have nvh : ∀ h ∈ heads, n + 1 ≤ h.mem.nv ∧ h.mu.nm h.mem.nv = true := fun h hm => ⟨Nat.le_of_ble_eq_true (hh h hm).1, (hh h hm).2⟩
 have nvl : ∀ x ∈ leaves, n + 1 ≤ x.mem.nv := fun x hx => Nat.le_of_ble_eq_true (hl x hx)
 have key : ∀ (k : Nat) (h : HeadP), h ∈ heads → ∀ (E : Env) (a : Act) (w : World), Agree n E0 E → MemOk F w0 E h.mem w → FrOk E (Fr.ofL h.tm) a → (ev E h.mu).toNat < k →
   Code.rounds P body (Exit.inBlock id (Post F w0 E0 m (leaves.map fun x => ((x.e, Fr.ofL x.tm), x.mem)))) k a w := by
  intro k
  induction k with
  | zero => intro h _ E a w _ _ _ hlt; omega
  | succ k ih =>
   intro h hmem E a w hL hm ha hk
   obtain ⟨cs, hcov, hall2⟩ := hall h hmem
   obtain ⟨c, hc, hcf⟩ := hcov E (hL.f.trans hgf) hm.know.env hm.know.facts
   have hok := hall2 c hc
   unfold headOk at hok
   split at hok
   ·cases hok
   rename_i outs hrun
   rw [List.all_eq_true] at hok
   rw [rounds_succ]
   refine wp_mono ((runC_ok hcx fuel).1 body hb F w0 E (Fr.ofL h.tm) a (h.moreC c).mem w outs (hL.f.trans hgf) hrun (hm.moreC hcf) ha) ?_
   rintro e a' w' ⟨q, hq, E', hA, he, hf, hm'⟩
   replace hA : Later h.mem.nv q.2.nv E E' := hA
   have hq' := hok q hq
   have leave : ∀ e0 : SX, q.1.1 = e0 → anyS (fun x => (x.e == leaveOf id e0) && fits n x.tm x.mem q.1.2.toL q.2) leaves = true →
     ∃ y ∈ leaves.map (fun x => ((x.e, Fr.ofL x.tm), x.mem)), ∃ E'', Later m.nv y.2.nv E0 E'' ∧ leaveOf id e0 = y.1.1 ∧ FrOk E'' y.1.2 a' ∧ MemOk F w0 E'' y.2 w' := by
    intro e0 _ hany
    obtain ⟨x, hx, hfx⟩ := anyS_ok hany
    simp only [Bool.and_eq_true, beq_iff_eq] at hfx
    obtain ⟨hxe, hfx⟩ := hfx
    obtain ⟨hA2, hm2, hl2⟩ := rerootF_ok hfx hm'
    refine ⟨_, List.mem_map.2 ⟨x, hx, rfl⟩, E'.by (matchAll n x.tm x.mem q.1.2.toL q.2), ⟨?_, ?_, ?_⟩, hxe.symm, toFr hf hl2, hm2⟩
    ·rw [hn]
     exact (hL.trans ⟨fun k hk => hA.agree.i k (by have := (nvh h hmem).1; omega), fun k hk => hA.agree.b k (by have := (nvh h hmem).1; omega), fun k hk => hA.agree.l k (by have := (nvh h hmem).1; omega), fun k hk => hA.agree.base k (by have := (nvh h hmem).1; omega), fun k hk => hA.agree.o k (by have := (nvh h hmem).1; omega), fun k hk => hA.agree.v k (by have := (nvh h hmem).1; omega), hA.agree.f⟩ (Nat.le_refl _)).trans hA2 (Nat.le_refl _)
    ·have := nvl x hx; dsimp only; omega
    ·intro hnv; have := nvl x hx; dsimp only at hnv; omega
   cases hx : q.1.1 with
   | normal =>
    rw [hx] at he hq'
    subst he
    obtain ⟨g, hg, hfg⟩ := anyS_ok hq'
    simp only [Bool.and_eq_true] at hfg
    obtain ⟨⟨hfit, hd⟩, hlt⟩ := hfg
    obtain ⟨hA2, hm2, hl2⟩ := rerootF_ok hfit hm'
    generalize hσ : matchAll n g.tm g.mem q.1.2.toL q.2 = σ at *
    unfold nonnegI at hd
    cases hμ' : instI σ g.mu with
    | none => rw [hμ'] at hd; cases hd
    | some μ' =>
    rw [hμ'] at hd hlt
    have e1 : ev (E'.by σ) g.mu = ev E' μ' := instI_ev hμ'
    have e2 : ev E' (norm μ') < ev E' h.mu := isLt_ok hm'.know hlt
    have e3 := nonneg_ok hm'.know hd
    rw [norm_ok] at e2 e3
    have e4 : ev E' h.mu = ev E h.mu := ev_agree hA.agree (nvh h hmem).2
    show Code.rounds P body (Exit.inBlock id _) k a' w'
    refine ih g hg (E'.by σ) a' w' ?_ hm2 (toFr hf hl2) ?_
    ·exact (hL.trans ⟨fun k hk => hA.agree.i k (by have := (nvh h hmem).1; omega), fun k hk => hA.agree.b k (by have := (nvh h hmem).1; omega), fun k hk => hA.agree.l k (by have := (nvh h hmem).1; omega), fun k hk => hA.agree.base k (by have := (nvh h hmem).1; omega), fun k hk => hA.agree.o k (by have := (nvh h hmem).1; omega), fun k hk => hA.agree.v k (by have := (nvh h hmem).1; omega), hA.agree.f⟩ (Nat.le_refl _)).trans hA2 (Nat.le_refl _)
    ·rw [e1]; omega
   | exit i =>
    rw [hx] at he hq'
    subst he
    obtain ⟨y, hy, E'', h1, h2, h3, h4⟩ := leave (.exit i) hx hq'
    show if i = id then _ else _
    replace h2 : (if i = id then SX.normal else .exit i) = y.1.1 := h2
    by_cases hi : i = id
    ·rw [if_pos hi] at h2 ⊢
     exact ⟨y, hy, E'', h1, by rw [← h2]; rfl, h3, h4⟩
    ·rw [if_neg hi] at h2 ⊢
     exact ⟨y, hy, E'', h1, by rw [← h2]; rfl, h3, h4⟩
   | ret =>
    rw [hx] at he hq'
    subst he
    obtain ⟨y, hy, E'', h1, h2, h3, h4⟩ := leave .ret hx hq'
    exact ⟨y, hy, E'', h1, by rw [← h2]; rfl, h3, h4⟩
 refine wp_block (wp_loop_rounds ((ev (E0.by (matchAll n h0.tm h0.mem tm.toL m)) h0.mu).toNat + 1) ?_)
 exact key _ h0 hh0 _ a w hA0 hm0 ha0 (by omega)
end Go.Sx
namespace Go.Sx
open Go
noncomputable def kindOf (P : Program) (u : Nat) : Option Bool :=
 match P.underlying u with
 | some .bool => some true
 | some (.int .i64) => some false
 | _ => none
noncomputable def kindsOf (P : Program) (t : Nat) : Option (List Bool) :=
 match P.cellTypes P.depth t with
 | some ts => ts.mapM (kindOf P)
 | none => none
noncomputable def isAggB (P : Program) (t : Nat) : Bool :=
 match P.underlying t with
 | some (.struct _) | some (.array _ _) => true
 | _ => false
theorem mapM_at {α β : Type} {f : α → Option β} : ∀ {l : List α} {r : List β}, l.mapM f = some r → l.length = r.length ∧ ∀ (i : Nat) (x : α), l[i]? = some x → ∃ y, f x = some y ∧ r[i]? = some y := by
 intro l
 induction l with
 | nil => intro r h; simp at h; subst h; exact ⟨rfl, fun i x hx => by simp at hx⟩
 | cons a l ih =>
  intro r h
  rw [List.mapM_cons] at h
  cases ha : f a with
  | none => rw [ha] at h; cases h
  | some b =>
   cases hl : l.mapM f with
   | none => rw [ha, hl] at h; cases h
   | some bs =>
    rw [ha, hl] at h
    cases h
    obtain ⟨h1, h2⟩ := ih hl
    refine ⟨by simp [h1], fun i x hx => ?_⟩
    cases i with
    | zero => simp at hx; subst hx; exact ⟨b, ha, rfl⟩
    | succ i => simpa using h2 i x (by simpa using hx)
noncomputable def intAt (cs : List Value) (i : Nat) : Int := match cs[i]? with | some (.int _ n) => n | _ => 0
noncomputable def boolAt (cs : List Value) (i : Nat) : Bool := match cs[i]? with | some (.bool b) => b | _ => false
theorem intAt_in {cs : List Value} (h : ∀ (i : Nat) (k : IntKind) (n : Int), cs[i]? = some (.int k n) → in64 n) (i : Nat) : in64 (intAt cs i) := by
 unfold intAt
 split
 ·exact h _ _ _ ‹_›
 ·simp [in64, lo64, hi64]
noncomputable def cellV (k : Bool) (cs : List Value) (i : Nat) : Value := match k with
 | true => .bool (boolAt cs i)
 | false => .int .i64 (intAt cs i)
theorem open_flat {P : Program} {w : World} {r : Reach} {b0 t : Nat} {v : Value} {ks : List Bool} (ha : isAggB P t = true) (hk : kindsOf P t = some ks) (hn : P.cellsOf t = ks.length) (hv : Value.okWide P w r b0 t v) :
  ∃ cs : List Value, v = .agg cs.toArray ∧ cs.length = ks.length ∧ (∀ i (_ : i < ks.length), cs[i]? = some (cellV (ks.getD i false) cs i)) ∧ ∀ i, in64 (intAt cs i) := by
 have hv' : ∃ cs, v = .agg cs ∧ cs.size = P.cellsOf t ∧ Row.okWide P w r b0 t cs := by
  unfold Value.okWide at hv
  unfold isAggB at ha
  split at ha
  ·rename_i hu; rw [hu] at hv; exact hv
  ·rename_i hu; rw [hu] at hv; exact hv
  ·cases ha
 obtain ⟨cs, rfl, hsz, ts, hts, _, hcell⟩ := hv'
 unfold kindsOf at hk
 rw [hts] at hk
 obtain ⟨hlen, hat⟩ := mapM_at hk
 have hsize : cs.size = ks.length := hsz.trans hn
 have each : ∀ (i : Nat) (x : Value), cs[i]? = some x → i < ks.length → ∃ k, ks[i]? = some k ∧ ((k = true ∧ ∃ b, x = .bool b) ∨ (k = false ∧ ∃ n, x = .int .i64 n ∧ in64 n)) := by
  intro i x hx hi
  obtain ⟨u, hu, hok⟩ := hcell i x hx
  rw [Nat.mod_eq_of_lt (by omega)] at hu
  obtain ⟨k, hk1, hk2⟩ := hat i u hu
  refine ⟨k, hk2, ?_⟩
  unfold kindOf at hk1
  unfold Cell.okWide at hok
  split at hk1
  ·rename_i hb
   cases hk1
   rw [hb] at hok
   left
   refine ⟨rfl, ?_⟩
   cases x <;> first | exact ⟨_, rfl⟩ | (simp [Cell.ok, hb] at hok)
  ·rename_i hb
   cases hk1
   rw [hb] at hok
   right
   refine ⟨rfl, ?_⟩
   cases x <;> first | (simp [Cell.ok, hb] at hok; done) | skip
   rename_i k n
   simp [Cell.ok, hb] at hok
   obtain ⟨rfl, hh⟩ := hok
   refine ⟨n, rfl, ?_⟩
   have : IntKind.i64.min = lo64 := by decide
   have : IntKind.i64.max = hi64 := by decide
   unfold IntKind.has at hh
   simp only [in64]
   omega
  ·cases hk1
 refine ⟨cs.toList, rfl, by simpa using hsize, fun i hi => ?_, fun i => intAt_in (fun j k n hj => ?_) i⟩
 ·have hlt : i < cs.size := by omega
  have hx : cs[i]? = some cs[i] := Array.getElem?_eq_getElem hlt
  have hx' : cs.toList[i]? = some cs[i] := by simp only [Array.getElem?_toList]; exact hx
  obtain ⟨k, hk1, hk2⟩ := each i _ hx hi
  have hg : ks.getD i false = k := by simp [List.getD_eq_getElem?_getD, hk1]
  rw [hg]
  rcases hk2 with ⟨rfl, b, hb⟩ | ⟨rfl, n, hb, _⟩
  ·simp only [cellV, boolAt, hx', hb]
  ·simp only [cellV, intAt, hx', hb]
 ·have hj' : cs[j]? = some (.int k n) := by simpa using hj
  have hlt := (Array.getElem?_eq_some_iff.1 hj').1
  obtain ⟨k', _, hk2⟩ := each j _ hj' (by omega)
  rcases hk2 with ⟨_, b, hb⟩ | ⟨_, n', hb, hin⟩
  ·cases hb
  ·cases hb; exact hin
inductive Sg where
 | cell (bool : Bool)
 | row (r n : Nat)
noncomputable def Sg.kinds : List Sg → List Bool
 | [] => []
 | .cell k :: s => k :: Sg.kinds s
 | .row _ n :: s => List.replicate n false ++ Sg.kinds s
noncomputable def segP : Nat → List Sg → SV
 | _, [] => .nil
 | a, .cell k :: s => .cons (if k then .bool (.var a) else .int .i64 (.var a)) (segP (a + 1) s)
 | a, .row r n :: s => .cons (.arr .i64 r (.lit n) .nil) (segP (a + n) s)
noncomputable def rowsP : Nat → List Sg → List (Nat × Nat × Nat)
 | _, [] => []
 | o, .cell _ :: s => rowsP (o + 1) s
 | o, .row r n :: s => (r, o, n) :: rowsP (o + n) s
theorem segP_ok (E : Env) (a : Nat) (cs : List Value) : ∀ (s : List Sg) (o : Nat), (Sg.kinds s).length + o = cs.length →
  (∀ i (_ : i < (Sg.kinds s).length), cs[o + i]? = some (cellV ((Sg.kinds s).getD i false) cs (o + i))) →
  (∀ i, i < cs.length → E.i (a + i) = intAt cs i) → (∀ i, i < cs.length → E.b (a + i) = boolAt cs i) →
  (∀ x ∈ rowsP o s, x.1 ≠ 0 ∧ E.l x.1 = (List.range x.2.2).map fun j => intAt cs (x.2.1 + j)) → dl E (segP (a + o) s) = cs.drop o := by
 intro s
 induction s with
 | nil =>
  intro o h _ _ _ _
  simp [Sg.kinds] at h
  simp [segP, dl, h]
 | cons g s ih =>
  intro o h hc hi hb hr
  cases g with
  | cell k =>
   simp only [Sg.kinds, List.length_cons] at h hc
   have hlt : o < cs.length := by omega
   have h0 := hc 0 (by omega)
   simp only [Nat.add_zero, List.getD_cons_zero] at h0
   have ihs := ih (o + 1) (by omega) (fun i hi => by
    have := hc (i + 1) (by omega)
    simp only [List.getD_cons_succ] at this
    rw [show o + 1 + i = o + (i + 1) by omega]; exact this) hi hb (fun x hx => hr x hx)
   unfold segP
   simp only [dl]
   rw [show a + o + 1 = a + (o + 1) by omega, ihs, List.drop_eq_getElem_cons hlt]
   have hget : cs[o] = cellV k cs o := by
    have := List.getElem?_eq_getElem hlt
    rw [this] at h0
    exact Option.some.inj h0
   rw [hget]
   cases k
   ·simp only [Bool.false_eq_true, if_false, dl, List.singleton_append, cellV]
    rw [show ev E (.var (a + o)) = E.i (a + o) from rfl, hi o hlt]
   ·simp only [if_true, dl, List.singleton_append, cellV]
    rw [show evB E (.var (a + o)) = E.b (a + o) from rfl, hb o hlt]
  | row r n =>
   simp only [Sg.kinds, List.length_append, List.length_replicate] at h hc
   have ihs := ih (o + n) (by omega) (fun i hi => by
    have := hc (n + i) (by omega)
    have e : (List.replicate n false ++ Sg.kinds s).getD (n + i) false = (Sg.kinds s).getD i false := by
     rw [List.getD_eq_getElem?_getD, List.getElem?_append_right (by simp), List.length_replicate, Nat.add_sub_cancel_left, ← List.getD_eq_getElem?_getD]
    rw [e] at this
    rw [show o + n + i = o + (n + i) by omega]; exact this) hi hb (fun x hx => hr x (by simp only [rowsP]; exact List.mem_cons_of_mem _ hx))
   obtain ⟨hr0, hrl⟩ := hr (r, o, n) (by simp [rowsP])
   unfold segP
   simp only [dl]
   rw [show a + o + n = a + (o + n) by omega, ihs]
   have e1 : arrCells E .i64 r (ev E (.lit n)).toNat .nil = (cs.drop o).take n := by
    refine List.ext_getElem? fun j => ?_
    rw [ev_lit, Int.toNat_natCast, List.getElem?_take]
    by_cases hj : j < n
    ·rw [arrCells_get _ _ _ _ _ _ hj, if_pos hj, List.getElem?_drop]
     have := hc j (by omega)
     have e : (List.replicate n false ++ Sg.kinds s).getD j false = false := by
      rw [List.getD_eq_getElem?_getD, List.getElem?_append_left (by simpa using hj)]
      simp [hj]
     rw [e] at this
     rw [this]
     simp only [wsVal, Env.row, cellV]
     rw [if_neg hr0, hrl]
     simp [List.getD_eq_getElem?_getD, hj]
    ·rw [if_neg hj, List.getElem?_eq_none (by rw [arrCells_len]; omega)]
   rw [e1, ← List.drop_drop, List.take_append_drop]
abbrev Named := Nat × Nat × List Value
noncomputable def lookN {α : Type} (k : Nat) (f : List Value → Nat → α) (d : α) : List Named → α
 | [] => d
 | (a, n, cs) :: r => if a ≤ k ∧ k < a + n then f cs (k - a) else lookN k f d r
noncomputable def lookR (k : Nat) : List (Nat × List Int) → List Int
 | [] => []
 | (r, l) :: rest => if k = r then l else lookR k rest
noncomputable def lookB (k : Nat) (d : Nat) : List (Nat × Nat) → Nat
 | [] => d
 | (a, b) :: rest => if k = a then b else lookB k d rest
noncomputable def envOf (w : World) (cells : List Named) (rows : List (Nat × List Int)) (ints : List (Nat × List Int)) (bases : List (Nat × Nat)) (offs : List (Nat × Nat)) : Env where
 i k := match lookR k ints with
  | z :: _ => z
  | [] => lookN k intAt 0 cells
 b k := lookN k boolAt false cells
 l k := lookR k rows
 base k := lookB k w.heap.size bases
 o k := lookB k 0 offs
 v _ := .tuple #[]
 f _ _ := 0
theorem lookN_in {k : Nat} : ∀ {l : List Named}, (∀ x ∈ l, ∀ i, in64 (intAt x.2.2 i)) → in64 (lookN k intAt 0 l) := by
 intro l
 induction l with
 | nil => intro _; simp [lookN, in64, lo64, hi64]
 | cons x r ih =>
  obtain ⟨a, n, cs⟩ := x
  intro h
  unfold lookN
  split
  ·exact h _ List.mem_cons_self _
  ·exact ih fun y hy => h y (List.mem_cons_of_mem _ hy)
theorem lookR_mem {k : Nat} {z : Int} : ∀ {l : List (Nat × List Int)}, z ∈ lookR k l → ∃ x ∈ l, z ∈ x.2 := by
 intro l
 induction l with
 | nil => intro h; simp [lookR] at h
 | cons x r ih =>
  obtain ⟨a, xs⟩ := x
  intro h
  unfold lookR at h
  split at h
  ·exact ⟨_, List.mem_cons_self, h⟩
  ·obtain ⟨y, hy, hz⟩ := ih h
   exact ⟨y, List.mem_cons_of_mem _ hy, hz⟩
theorem envOf_ok {w : World} {cells : List Named} {rows ints : List (Nat × List Int)} {bases offs : List (Nat × Nat)} (hc : ∀ x ∈ cells, ∀ i, in64 (intAt x.2.2 i)) (hr : ∀ x ∈ rows, ∀ z ∈ x.2, in64 z) (hi : ∀ x ∈ ints, ∀ z ∈ x.2, in64 z) :
  (envOf w cells rows ints bases offs).Ok := by
 refine ⟨fun k => ?_, fun k z hz => ?_, fun _ _ => (by simp [envOf, in64, lo64, hi64])⟩
 ·simp only [envOf]
  split
  ·rename_i z zs hz
   obtain ⟨x, hx, hzx⟩ := lookR_mem (k := k) (z := z) (l := ints) (by rw [hz]; exact List.mem_cons_self)
   exact hi x hx z hzx
  ·exact lookN_in hc
 ·obtain ⟨x, hx, hzx⟩ := lookR_mem (l := rows) hz
  exact hr x hx z hzx
structure SlArg where
 s : Nat
 of : Nat
 ln : Nat
 cp : Nat
 r : Nat
 z : Nat
 b : Nat
 o : Nat
 len : Nat
 cap : Nat
 zs : List Int
structure SlArg.Holds (S : SlArg) (w : World) : Prop where
 block : S.b < w.heap.size
 room : S.len ≤ S.cap
 max : S.cap ≤ maxLen
 size : S.zs.length = S.len * S.z
 nums : ∀ x ∈ S.zs, in64 x
 cells : ∀ j, j < S.zs.length → w.cell? ⟨S.b, S.o + j, none⟩ = some (.int .i64 (S.zs.getD j 0))
structure SlArg.Named (S : SlArg) (E : Env) : Prop where
 base : E.base S.s = S.b
 o : E.o S.s = S.o
 of : E.i S.of = 0
 ln : E.i S.ln = S.len
 cp : E.i S.cp = S.cap
 l : E.l S.r = S.zs
 r0 : S.r ≠ 0
noncomputable def slV (s of ln cp : Nat) : SV := .sli s 0 (.var of) (.var ln) (.var cp)
theorem SlArg.val {S : SlArg} {E : Env} (h : S.Named E) : dv E (slV S.s S.of S.ln S.cp) = .slice (some ⟨S.b, S.o, none⟩) S.len S.cap := by
 show Value.slice (some (addrOf E S.s 0 (.var S.of))) (ev E (.var S.ln)).toNat (ev E (.var S.cp)).toNat = _
 have e1 : ev E (.var S.of) = 0 := h.of
 have e2 : ev E (.var S.ln) = S.len := h.ln
 have e3 : ev E (.var S.cp) = S.cap := h.cp
 simp [addrOf, e1, e2, e3, h.base, h.o]
noncomputable def lenE (ln z : Nat) : IE := if z = 1 then .var ln else .mul (.var ln) (.lit z)
noncomputable def slE (s of ln r z : Nat) : Ent := ⟨s, 0, true, 0, .var of, .cons (.arr .i64 r (lenE ln z) .nil) .nil⟩
noncomputable def slF (of ln cp : Nat) (most : Int) : List Fact := [(.var of, 0, hi64), (.var ln, 0, most), (.var cp, 0, hi64), (.sub (.var cp) (.var ln), 0, hi64)]
theorem SlArg.facts {S : SlArg} {E : Env} {w : World} (h : S.Named E) (hh : S.Holds w) {most : Int} (hm : (S.len : Int) ≤ most) : ∀ f ∈ slF S.of S.ln S.cp most, FactOk E f := by
 have e1 : ev E (.var S.of) = 0 := h.of
 have e2 : ev E (.var S.ln) = S.len := h.ln
 have e3 : ev E (.var S.cp) = S.cap := h.cp
 have h1 := hh.room
 have h2 := hh.max
 simp only [maxLen] at h2
 intro f hf
 simp only [slF, List.mem_cons, List.not_mem_nil, or_false] at hf
 have hhi : hi64 = 9223372036854775807 := rfl
 rcases hf with rfl | rfl | rfl | rfl <;> unfold FactOk <;> dsimp only
 ·rw [e1, hhi]; omega
 ·rw [e2]; omega
 ·rw [e3, hhi]; omega
 ·rw [ev_sub, e2, e3, hhi]; omega
theorem SlArg.ent {S : SlArg} {E : Env} {w : World} (h : S.Named E) (hh : S.Holds w) : EntOk E w (slE S.s S.of S.ln S.r S.z) := by
 have e1 : ev E (.var S.of) = 0 := h.of
 have e2 : ev E (.var S.ln) = S.len := h.ln
 have hl : (ev E (lenE S.ln S.z)).toNat = S.len * S.z := by
  unfold lenE
  split
  ·rename_i hz; rw [e2, hz]; simp
  ·rw [ev_mul, e2, ev_lit, Int.toNat_mul (by omega) (by omega)]; simp
 refine ⟨?_, fun _ j v hj => ?_, fun hr => (by cases hr), fun _ z hz => (by cases hz)⟩
 ·show E.base S.s + 0 < _
  rw [h.base]; exact hh.block
 ·simp only [slE, dl, List.append_nil, hl] at hj
  have hjl : j < S.len * S.z := by
   have := (List.getElem?_eq_some_iff.1 hj).1
   rwa [arrCells_len] at this
  rw [arrCells_get _ _ _ _ _ _ hjl] at hj
  cases hj
  have hc := hh.cells j (by rw [hh.size]; exact hjl)
  have hadr : (⟨(slE S.s S.of S.ln S.r S.z).blk E, E.o (slE S.s S.of S.ln S.r S.z).s + ((ev E (slE S.s S.of S.ln S.r S.z).base).toNat + j), none⟩ : Addr) = ⟨S.b, S.o + j, none⟩ := by
   show (⟨E.base S.s + 0, E.o S.s + ((ev E (.var S.of)).toNat + j), none⟩ : Addr) = _
   rw [h.base, h.o, e1]; simp
  rw [hadr, hc]
  simp only [wsVal, Env.row]
  rw [if_neg h.r0, h.l]
noncomputable def slMem (ents : List Ent) (fs : List Fact) (nv : Nat) : Mem := { know := ⟨fs, []⟩, heap := ents, seg := 0, next := 0, nv }
theorem slMem_ok {w : World} {E : Env} {ents : List Ent} {fs : List Fact} (nv : Nat) (hE : E.Ok) (hb : E.base 0 = w.heap.size) (ho : E.o 0 = 0) (hents : ∀ e ∈ ents, e.ro = true ∧ EntOk E w e) (hf : ∀ f ∈ fs, FactOk E f) :
  MemOk (fun _ => False) w E (slMem ents fs nv) w := by
 refine ⟨⟨hE, hf, fun c hc => (by cases hc)⟩, by show w.heap.size = E.base 0 + 0; omega, fun e he => (hents e he).2, ?_, fun e he hr => ?_, Ext.refl _ _, ho⟩
 ·have all : ∀ l : List Ent, (∀ e ∈ l, e.ro = true) → l.Pairwise (Ent.parted E) := by
   intro l
   induction l with
   | nil => intro _; exact List.Pairwise.nil
   | cons a l ih =>
    intro h
    exact List.Pairwise.cons (fun b hb hn => absurd ⟨h a List.mem_cons_self, h b (List.mem_cons_of_mem _ hb)⟩ hn) (ih fun e he => h e (List.mem_cons_of_mem _ he))
  exact all ents fun e he => (hents e he).1
 ·have := (hents e he).1
  rw [this] at hr; cases hr
end Go.Sx
namespace Go.Sx
open Go.ChangeShapes Go.WideShapes Go.ChangeAt Go.RowKit Go.Deep
theorem i64_bd {n : Int} (h : (Lit.int .i64 n).wf = true) : -9223372036854775808 ≤ n ∧ n ≤ 9223372036854775807 := by
 simp [Lit.wf] at h; have a : IntKind.i64.min = -9223372036854775808 := by decide
 have b : IntKind.i64.max = 9223372036854775807 := by decide
 omega
section
variable {H : Type} {enc : TypeId × Value → H} {P : Program} {w : World} {base : Nat} {spare : Nat → Bool} {held : Bool}
theorem open_int_structs {t e : TypeId} {fs : Array Field} {r : Reach} {b0 : Nat} {v : Value} {d : DataW H} {p : List MemPlace} (ht : P.underlying t = some (.slice e)) (he : P.underlying e = some (.struct fs))
  (hone : oneCellFields P fs = true) (hint : ∀ (j : Nat) (f : Field), fs[j]? = some f → P.underlying f.type = some (.int .i64)) (hC : P.cellsOf e = fs.size)
  (hv : Value.okWide P w r b0 t v) (h : DataW.Trod enc P w base spare held t v d p) :
  v = .slice none 0 0 ∨ ∃ (b o len cap : Nat) (zs : List Int), v = .slice (some ⟨b, o, none⟩) len cap ∧ (∃ elems sp, d = .slice elems sp ∧ elems.length = len) ∧ len ≤ cap ∧ cap ≤ maxLen ∧ b < w.heap.size ∧ zs.length = len * fs.size ∧
   (∀ z ∈ zs, -9223372036854775808 ≤ z ∧ z ≤ 9223372036854775807) ∧ ∀ j, j < zs.length → w.cell? ⟨b, o + j, none⟩ = some (.int .i64 (zs.getD j 0)) := by
 obtain ⟨fuel, hf⟩ := h
 have hcells : v.cells.toList = [v] ∨ ∃ cs, v = .agg cs := by
  cases v <;> first | exact .inl rfl | exact .inr ⟨_, rfl⟩
 have hagg : ∀ cs, v ≠ .agg cs := by
  rintro cs rfl
  unfold Value.okWide Cell.okWide at hv
  rw [ht] at hv
  unfold Cell.ok at hv
  rw [ht] at hv
  exact hv
 have hc : v.cells.toList = [v] := hcells.resolve_right (fun ⟨cs, h⟩ => hagg cs h)
 rw [hc] at hf
 rcases open_slice ht hf with ⟨h0, _⟩ | ⟨a, len, cap, m, n, D, Pl, hcs, hb, hl, hm, hmm, hx, hi⟩
 ·left; simpa using h0
 ·right
  have hv' : v = .slice (some a) len cap := by simpa using hcs
  subst hv'
  have hok : len ≤ cap ∧ (cap : Int) ≤ IntKind.i64.max ∧ w.has P r b0 a e cap := by
   unfold Value.okWide Cell.okWide at hv
   rw [ht] at hv
   unfold Cell.ok at hv
   rw [ht] at hv
   exact hv
  obtain ⟨_, _, _, hsp, row, cells, hsh, _⟩ := hok
  have hlt : a.block < w.heap.size := by
   unfold World.shape? at hsh
   rcases Nat.lt_or_ge a.block w.heap.size with h | h
   ·exact h
   ·simp [Array.getElem?_eq_none h] at hsh
  have hle : len ≤ m := by rw [hmm]; split <;> omega
  have ha : ∀ k, a.add k = ⟨a.block, a.off + k, none⟩ := by
   intro k; unfold Addr.add; split
   ·rename_i hk; subst hk; cases a; simp_all
   ·rfl
  have each : ∀ i j, i < len → j < fs.size → ∃ z, w.cell? ⟨a.block, a.off + (i * fs.size + j), none⟩ = some (.int .i64 z) ∧ (Lit.int .i64 z).wf = true := by
   intro i j hil hjl
   obtain ⟨cs', hc, ht'⟩ := hi i (by omega)
   rw [hC] at hc
   obtain ⟨ys, n', hn', hy, hlen, hyl, hg⟩ := DataW.trod_struct he ht'
   obtain ⟨_, hcl, hat⟩ := World.cells?_some hc
   have hjf : fs[j]? = some fs[j] := Array.getElem?_eq_getElem hjl
   obtain ⟨ho, hk⟩ := hone_of hone j _ hjf
   have h1 := hg j _ hjf
   rw [ho, hk] at h1
   have hone' : (cs'.drop j).take 1 = [cs'[j]'(by omega)] := by
    rw [List.drop_eq_getElem_cons (by omega)]
    rfl
   rw [hone', List.getElem?_eq_getElem (show j < ys.length by omega)] at h1
   obtain ⟨z, e0, _, wz⟩ := DataW.trod_int (hint j _ hjf) h1
   refine ⟨z, ?_, wz⟩
   have hcell := hat j hjl
   rw [Go.Deep.add_add, ha, List.getElem?_eq_getElem (show j < cs'.length by omega)] at hcell
   simp only [List.cons.injEq, and_true] at e0
   rw [hcell, e0]
  have hall : ∀ j, j < len * fs.size → ∃ z, w.cell? ⟨a.block, a.off + j, none⟩ = some (.int .i64 z) ∧ (Lit.int .i64 z).wf = true := by
   intro j hj
   have hpos : 0 < fs.size := by
    rcases Nat.eq_zero_or_pos fs.size with h | h
    ·rw [h] at hj; omega
    ·exact h
   obtain ⟨z, h1, h2⟩ := each (j / fs.size) (j % fs.size) (Nat.div_lt_of_lt_mul (by rw [Nat.mul_comm]; exact hj)) (Nat.mod_lt _ hpos)
   refine ⟨z, ?_, h2⟩
   rw [← h1, Nat.div_add_mod' j fs.size]
  let zs : List Int := (List.range (len * fs.size)).map fun j => match w.cell? ⟨a.block, a.off + j, none⟩ with | some (.int _ z) => z | _ => 0
  have hz : ∀ j, j < len * fs.size → w.cell? ⟨a.block, a.off + j, none⟩ = some (.int .i64 (zs.getD j 0)) ∧ (Lit.int .i64 (zs.getD j 0)).wf = true := by
   intro j hj
   obtain ⟨z, h1, h2⟩ := hall j hj
   have : zs.getD j 0 = z := by
    simp only [zs, List.getD_eq_getElem?_getD, List.getElem?_map, List.getElem?_range hj, Option.map_some, h1, Option.getD_some]
   rw [this]; exact ⟨h1, h2⟩
  have hzl : zs.length = len * fs.size := by simp [zs]
  refine ⟨a.block, a.off, len, cap, zs, by cases a; simp_all, ⟨_, _, (congrArg Prod.fst hx), by simp⟩, hl, hm, hlt, hzl, ?_, fun j hj => (hz j (by rw [← hzl]; exact hj)).1⟩
  intro z hzm
  obtain ⟨j, hj, rfl⟩ := List.getElem_of_mem hzm
  have := (hz j (by rw [← hzl]; exact hj)).2
  rw [List.getD_eq_getElem?_getD, List.getElem?_eq_getElem hj, Option.getD_some] at this
  exact i64_bd this
end
noncomputable def isInt64 : Option TypeDesc → Bool | some (.int .i64) => true | _ => false
theorem isInt64_eq {o : Option TypeDesc} (h : isInt64 o = true) : o = some (.int .i64) := by
 unfold isInt64 at h
 split at h
 ·rfl
 ·cases h
section
variable {H : Type} {enc : TypeId × Value → H} {P : Program} {w : World} {base : Nat} {spare : Nat → Bool} {held : Bool}
theorem open_int_slice {t e : TypeId} {r : Reach} {b0 : Nat} {v : Value} {d : DataW H} {p : List MemPlace} (ht : P.underlying t = some (.slice e)) (he : P.underlying e = some (.int .i64)) (hC : P.cellsOf e = 1)
  (hv : Value.okWide P w r b0 t v) (h : DataW.Trod enc P w base spare held t v d p) :
  v = .slice none 0 0 ∨ ∃ (b o len cap : Nat) (zs : List Int), v = .slice (some ⟨b, o, none⟩) len cap ∧ (∃ elems sp, d = .slice elems sp ∧ elems.length = len) ∧ len ≤ cap ∧ cap ≤ maxLen ∧ b < w.heap.size ∧ zs.length = len * 1 ∧
   (∀ z ∈ zs, -9223372036854775808 ≤ z ∧ z ≤ 9223372036854775807) ∧ ∀ j, j < zs.length → w.cell? ⟨b, o + j, none⟩ = some (.int .i64 (zs.getD j 0)) := by
 obtain ⟨fuel, hf⟩ := h
 have hcells : v.cells.toList = [v] ∨ ∃ cs, v = .agg cs := by
  cases v <;> first | exact .inl rfl | exact .inr ⟨_, rfl⟩
 have hagg : ∀ cs, v ≠ .agg cs := by
  rintro cs rfl
  unfold Value.okWide Cell.okWide at hv
  rw [ht] at hv
  unfold Cell.ok at hv
  rw [ht] at hv
  exact hv
 have hc : v.cells.toList = [v] := hcells.resolve_right (fun ⟨cs, h⟩ => hagg cs h)
 rw [hc] at hf
 rcases open_slice ht hf with ⟨h0, _⟩ | ⟨a, len, cap, m, n, D, Pl, hcs, hb, hl, hm, hmm, hx, hi⟩
 ·left; simpa using h0
 ·right
  have hv' : v = .slice (some a) len cap := by simpa using hcs
  subst hv'
  have hok : len ≤ cap ∧ (cap : Int) ≤ IntKind.i64.max ∧ w.has P r b0 a e cap := by
   unfold Value.okWide Cell.okWide at hv
   rw [ht] at hv
   unfold Cell.ok at hv
   rw [ht] at hv
   exact hv
  obtain ⟨_, _, _, hsp, row, cells, hsh, _⟩ := hok
  have hlt : a.block < w.heap.size := by
   unfold World.shape? at hsh
   rcases Nat.lt_or_ge a.block w.heap.size with h | h
   ·exact h
   ·simp [Array.getElem?_eq_none h] at hsh
  have hle : len ≤ m := by rw [hmm]; split <;> omega
  have ha : ∀ k, a.add k = ⟨a.block, a.off + k, none⟩ := by
   intro k; unfold Addr.add; split
   ·rename_i hk; subst hk; cases a; simp_all
   ·rfl
  have hall : ∀ j, j < len → ∃ z, w.cell? ⟨a.block, a.off + j, none⟩ = some (.int .i64 z) ∧ (Lit.int .i64 z).wf = true := by
   intro j hj
   obtain ⟨cs', hc, ht'⟩ := hi j (by omega)
   rw [hC] at hc
   obtain ⟨_, hcl, hat⟩ := World.cells?_some hc
   obtain ⟨z, e0, _, wz⟩ := DataW.trod_int he ht'
   subst e0
   refine ⟨z, ?_, wz⟩
   have hcell := hat 0 (by omega)
   rw [Go.Deep.add_add, ha] at hcell
   simpa using hcell
  let zs : List Int := (List.range len).map fun j => match w.cell? ⟨a.block, a.off + j, none⟩ with | some (.int _ z) => z | _ => 0
  have hz : ∀ j, j < len → w.cell? ⟨a.block, a.off + j, none⟩ = some (.int .i64 (zs.getD j 0)) ∧ (Lit.int .i64 (zs.getD j 0)).wf = true := by
   intro j hj
   obtain ⟨z, h1, h2⟩ := hall j hj
   have : zs.getD j 0 = z := by
    simp only [zs, List.getD_eq_getElem?_getD, List.getElem?_map, List.getElem?_range hj, Option.map_some, h1, Option.getD_some]
   rw [this]; exact ⟨h1, h2⟩
  have hzl : zs.length = len := by simp [zs]
  refine ⟨a.block, a.off, len, cap, zs, by cases a; simp_all, ⟨_, _, (congrArg Prod.fst hx), by simp⟩, hl, hm, hlt, by omega, ?_, fun j hj => (hz j (by rw [← hzl]; exact hj)).1⟩
  intro z hzm
  obtain ⟨j, hj, rfl⟩ := List.getElem_of_mem hzm
  have := (hz j (by rw [← hzl]; exact hj)).2
  rw [List.getD_eq_getElem?_getD, List.getElem?_eq_getElem hj, Option.getD_some] at this
  exact i64_bd this
end
end Go.Sx
namespace Go.Sx
open Go
noncomputable def coverB (hi : Int) : Int → List Rng → Bool
 | lo, [] => decide (hi < lo)
 | lo, c :: l => decide (c.1 ≤ lo) && coverB hi (c.2 + 1) l
theorem cover_ok {hi z : Int} (hz : z ≤ hi) : ∀ (l : List Rng) (lo : Int), coverB hi lo l = true → lo ≤ z → ∃ c ∈ l, c.1 ≤ z ∧ z ≤ c.2 := by
 intro l
 induction l with
 | nil => intro lo h hl; simp only [coverB, decide_eq_true_eq] at h; omega
 | cons c l ih =>
  intro lo h hl
  simp only [coverB, Bool.and_eq_true, decide_eq_true_eq] at h
  by_cases hc : z ≤ c.2
  ·exact ⟨c, List.mem_cons_self, by omega, hc⟩
  ·obtain ⟨d, hd, h1⟩ := ih _ h.2 (by omega)
   exact ⟨d, List.mem_cons_of_mem _ hd, h1⟩
noncomputable def one (lo hi : Int) : List Rng := (List.range (hi - lo + 1).toNat).map fun (k : Nat) => (lo + (k : Int), lo + (k : Int))
noncomputable def ones (lo hi : Int) : List Rng := (lo64, lo - 1) :: one lo hi ++ [(hi + 1, hi64)]
theorem cover64 {l : List Rng} (h : coverB hi64 lo64 l = true) {z : Int} (hz : in64 z) : ∃ c ∈ l, c.1 ≤ z ∧ z ≤ c.2 := cover_ok hz.2 l lo64 h hz.1
theorem cover_and {l : List Rng} {m : Int} (h0 : 0 ≤ m) (h1 : m ≤ hi64) (h : coverB m 0 l = true) (E : Env) (e : IE) :
  ∃ c ∈ l, FactOk E (.bit .and .i64 e (.lit m), c.1, c.2) := by
 have k := and_in .i64 (ev E e) m h0 h1
 exact cover_ok k.2 l 0 h k.1
theorem all_ok {α : Type} {l : List α} {p : α → Bool} (h : l.all p = true) {x : α} (hx : x ∈ l) : p x = true := List.all_eq_true.1 h x hx
end Go.Sx
namespace Go.Sx
open Go
abbrev R := Option (List ((SX × Fr) × Mem))
noncomputable def cat {α : Type} (a b : Option (List α)) : Option (List α) := match a, b with
 | some x, some y => some (x ++ y)
 | _, _ => none
theorem gather_cat {α β : Type} (f : α → X β) (p : α × Mem) (l : List (α × Mem)) : gather f (p :: l) = cat (f p.1 p.2) (gather f l) := by
 cases l with
 | nil => rw [gather_one, gather_nil]; cases f p.1 p.2 <;> simp [cat]
 | cons q l =>
  rw [gather_cons]
  cases f p.1 p.2 with
  | none => rfl
  | some x => cases gather f (q :: l) <;> rfl
theorem cat_assoc {α : Type} (a b c : Option (List α)) : cat (cat a b) c = cat a (cat b c) := by
 cases a <;> cases b <;> cases c <;> simp [cat]
theorem gather_append {α β : Type} (f : α → X β) : ∀ (l1 l2 : List (α × Mem)), gather f (l1 ++ l2) = cat (gather f l1) (gather f l2)
 | [], l2 => by rw [gather_nil]; cases h : gather f l2 <;> simp [cat, h]
 | p :: l1, l2 => by rw [List.cons_append, gather_cat, gather_cat, gather_append f l1 l2, cat_assoc]
noncomputable def bindR {α : Type} (r : Option (List (α × Mem))) (k : α → Mem → R) : R :=
 Option.rec (motive := fun _ => (α → Mem → R) → R) (fun _ => none) (fun l k => gather (β := SX × Fr) k l) r k
theorem bindR_none {α : Type} (k : α → Mem → R) : bindR none k = none := rfl
theorem bindR_some {α : Type} (l : List (α × Mem)) (k : α → Mem → R) : bindR (some l) k = gather (β := SX × Fr) k l := rfl
theorem bindR_one {α : Type} (a : α) (m : Mem) (k : α → Mem → R) : bindR (some [(a, m)]) k = k a m := rfl
theorem bindR_pure {α : Type} (a : α) (m : Mem) (k : α → Mem → R) : bindR (X.pure a m) k = k a m := rfl
theorem bindR_X {α : Type} (k : α → Mem → R) (x : X α) (m : Mem) : bindR (x m) k = X.bind x k m := by
 unfold X.bind bindR
 cases x m <;> rfl
theorem bindR_cat {α : Type} (a b : Option (List (α × Mem))) (k : α → Mem → R) : bindR (cat a b) k = cat (bindR a k) (bindR b k) := by
 cases a with
 | none => rfl
 | some x =>
  cases b with
  | none => simp only [cat, bindR_none, bindR_some]; cases gather (β := SX × Fr) k x <;> rfl
  | some y => simp only [cat, bindR_some, gather_append]
theorem bindR_gather {α β : Type} (f : α → X β) (k : β → Mem → R) : ∀ l : List (α × Mem), bindR (gather f l) k = gather (β := SX × Fr) (fun a m => bindR (f a m) k) l
 | [] => rfl
 | p :: l => by rw [gather_cat, gather_cat, bindR_cat, bindR_gather f k l]
theorem bindR_bind {α β : Type} (x : X α) (f : α → X β) (m : Mem) (k : β → Mem → R) : bindR (X.bind x f m) k = bindR (x m) fun a m => bindR (f a m) k := by
 unfold X.bind
 cases h : x m with
 | none => rfl
 | some l => exact bindR_gather f k l
theorem bindR_map {α β : Type} (g : α → β) (k : β → Mem → R) : ∀ (l : List (α × Mem)), bindR (some (l.map fun p => (g p.1, p.2))) k = bindR (some l) fun a m => k (g a) m
 | [] => rfl
 | p :: l => by
  simp only [List.map_cons, bindR_some, gather_cat]
  have := bindR_map g k l
  simp only [bindR_some] at this
  rw [this]
noncomputable def onInt (v : SV) (f : IntKind → IE → R) (g : R) : R :=
 SV.rec (motive := fun _ => (IntKind → IE → R) → R → R) (fun _ g => g) (fun _ _ g => g) (fun k e f _ => f k e) (fun _ _ g => g) (fun _ g => g) (fun _ _ _ _ g => g) (fun _ g => g) (fun _ _ _ _ _ _ g => g) (fun _ _ _ _ g => g) (fun _ g => g) (fun _ _ _ _ g => g) (fun _ g => g) (fun _ _ _ g => g) (fun _ _ _ g => g) (fun _ g => g) (fun _ _ _ _ _ g => g) (fun _ _ _ _ _ _ g => g) (fun _ _ _ _ _ g => g) (fun _ _ _ _ g => g) v f g
theorem onInt_eq (v : SV) (f : IntKind → IE → R) (g : R) : onInt v f g = match v with | .int k e => f k e | _ => g := by cases v <;> rfl
noncomputable def onBool (v : SV) (f : BE → R) (g : R) : R :=
 SV.rec (motive := fun _ => (BE → R) → R → R) (fun _ g => g) (fun _ _ g => g) (fun _ _ _ g => g) (fun b f _ => f b) (fun _ g => g) (fun _ _ _ _ g => g) (fun _ g => g) (fun _ _ _ _ _ _ g => g) (fun _ _ _ _ g => g) (fun _ g => g) (fun _ _ _ _ g => g) (fun _ g => g) (fun _ _ _ g => g) (fun _ _ _ g => g) (fun _ g => g) (fun _ _ _ _ _ g => g) (fun _ _ _ _ _ _ g => g) (fun _ _ _ _ _ g => g) (fun _ _ _ _ g => g) v f g
theorem onBool_eq (v : SV) (f : BE → R) (g : R) : onBool v f g = match v with | .bool b => f b | _ => g := by cases v <;> rfl
noncomputable def onPtr (v : SV) (f : Nat → Nat → IE → R) (g : R) : R :=
 SV.rec (motive := fun _ => (Nat → Nat → IE → R) → R → R) (fun _ g => g) (fun _ _ g => g) (fun _ _ _ g => g) (fun _ _ g => g) (fun _ g => g) (fun s k off f _ => f s k off) (fun _ g => g) (fun _ _ _ _ _ _ g => g) (fun _ _ _ _ g => g) (fun _ g => g) (fun _ _ _ _ g => g) (fun _ g => g) (fun _ _ _ g => g) (fun _ _ _ g => g) (fun _ g => g) (fun _ _ _ _ _ g => g) (fun _ _ _ _ _ _ g => g) (fun _ _ _ _ _ g => g) (fun _ _ _ _ g => g) v f g
theorem onPtr_eq (v : SV) (f : Nat → Nat → IE → R) (g : R) : onPtr v f g = match v with | .ptr s k off => f s k off | _ => g := by cases v <;> rfl
noncomputable def onSli (v : SV) (f : Nat → Nat → IE → IE → IE → R) (g : R) : R :=
 SV.rec (motive := fun _ => (Nat → Nat → IE → IE → IE → R) → R → R) (fun _ g => g) (fun _ _ g => g) (fun _ _ _ g => g) (fun _ _ g => g) (fun _ g => g) (fun _ _ _ _ g => g) (fun _ g => g) (fun s k off len cap f _ => f s k off len cap) (fun _ _ _ _ g => g) (fun _ g => g) (fun _ _ _ _ g => g) (fun _ g => g) (fun _ _ _ g => g) (fun _ _ _ g => g) (fun _ g => g) (fun _ _ _ _ _ g => g) (fun _ _ _ _ _ _ g => g) (fun _ _ _ _ _ g => g) (fun _ _ _ _ g => g) v f g
theorem onSli_eq (v : SV) (f : Nat → Nat → IE → IE → IE → R) (g : R) : onSli v f g = match v with | .sli s k off len cap => f s k off len cap | _ => g := by cases v <;> rfl
noncomputable def onFn (v : SV) (f : Nat → SV → R) (g : R) : R :=
 SV.rec (motive := fun _ => (Nat → SV → R) → R → R) (fun _ g => g) (fun _ _ g => g) (fun _ _ _ g => g) (fun _ _ g => g) (fun _ g => g) (fun _ _ _ _ g => g) (fun _ g => g) (fun _ _ _ _ _ _ g => g) (fun i caps _ f _ => f i caps) (fun _ g => g) (fun _ _ _ _ g => g) (fun _ g => g) (fun _ _ _ g => g) (fun _ _ _ g => g) (fun _ g => g) (fun _ _ _ _ _ g => g) (fun _ _ _ _ _ _ g => g) (fun _ _ _ _ _ g => g) (fun _ _ _ _ g => g) v f g
theorem onFn_eq (v : SV) (f : Nat → SV → R) (g : R) : onFn v f g = match v with | .fn i caps => f i caps | _ => g := by cases v <;> rfl
noncomputable def onIfc (v : SV) (f : Nat → SV → R) (g : R) : R :=
 SV.rec (motive := fun _ => (Nat → SV → R) → R → R) (fun _ g => g) (fun _ _ g => g) (fun _ _ _ g => g) (fun _ _ g => g) (fun _ g => g) (fun _ _ _ _ g => g) (fun _ g => g) (fun _ _ _ _ _ _ g => g) (fun _ _ _ _ g => g) (fun _ g => g) (fun t v _ f _ => f t v) (fun _ g => g) (fun _ _ _ g => g) (fun _ _ _ g => g) (fun _ g => g) (fun _ _ _ _ _ g => g) (fun _ _ _ _ _ _ g => g) (fun _ _ _ _ _ g => g) (fun _ _ _ _ g => g) v f g
theorem onIfc_eq (v : SV) (f : Nat → SV → R) (g : R) : onIfc v f g = match v with | .ifc t v => f t v | _ => g := by cases v <;> rfl
noncomputable def onAgg (v : SV) (f : SV → R) (g : R) : R :=
 SV.rec (motive := fun _ => (SV → R) → R → R) (fun _ g => g) (fun _ _ g => g) (fun _ _ _ g => g) (fun _ _ g => g) (fun _ g => g) (fun _ _ _ _ g => g) (fun _ g => g) (fun _ _ _ _ _ _ g => g) (fun _ _ _ _ g => g) (fun _ g => g) (fun _ _ _ _ g => g) (fun _ g => g) (fun cs _ f _ => f cs) (fun _ _ _ g => g) (fun _ g => g) (fun _ _ _ _ _ g => g) (fun _ _ _ _ _ _ g => g) (fun _ _ _ _ _ g => g) (fun _ _ _ _ g => g) v f g
theorem onAgg_eq (v : SV) (f : SV → R) (g : R) : onAgg v f g = match v with | .agg cs => f cs | _ => g := by cases v <;> rfl
noncomputable def onTup (v : SV) (f : SV → R) (g : R) : R :=
 SV.rec (motive := fun _ => (SV → R) → R → R) (fun _ g => g) (fun _ _ g => g) (fun _ _ _ g => g) (fun _ _ g => g) (fun _ g => g) (fun _ _ _ _ g => g) (fun _ g => g) (fun _ _ _ _ _ _ g => g) (fun _ _ _ _ g => g) (fun _ g => g) (fun _ _ _ _ g => g) (fun _ g => g) (fun _ _ _ g => g) (fun cs _ f _ => f cs) (fun _ g => g) (fun _ _ _ _ _ g => g) (fun _ _ _ _ _ _ g => g) (fun _ _ _ _ _ g => g) (fun _ _ _ _ g => g) v f g
theorem onTup_eq (v : SV) (f : SV → R) (g : R) : onTup v f g = match v with | .tup cs => f cs | _ => g := by cases v <;> rfl
noncomputable def onCons (v : SV) (f : SV → SV → R) (g : R) : R :=
 SV.rec (motive := fun _ => (SV → SV → R) → R → R) (fun _ g => g) (fun _ _ g => g) (fun _ _ _ g => g) (fun _ _ g => g) (fun _ g => g) (fun _ _ _ _ g => g) (fun _ g => g) (fun _ _ _ _ _ _ g => g) (fun _ _ _ _ g => g) (fun _ g => g) (fun _ _ _ _ g => g) (fun _ g => g) (fun _ _ _ g => g) (fun _ _ _ g => g) (fun _ g => g) (fun a b _ _ f _ => f a b) (fun _ _ _ _ _ _ g => g) (fun _ _ _ _ _ g => g) (fun _ _ _ _ g => g) v f g
theorem onCons_eq (v : SV) (f : SV → SV → R) (g : R) : onCons v f g = match v with | .cons a b => f a b | _ => g := by cases v <;> rfl
noncomputable def onArr (v : SV) (f : IntKind → Nat → IE → SV → R) (g : R) : R :=
 SV.rec (motive := fun _ => (IntKind → Nat → IE → SV → R) → R → R) (fun _ g => g) (fun _ _ g => g) (fun _ _ _ g => g) (fun _ _ g => g) (fun _ g => g) (fun _ _ _ _ g => g) (fun _ g => g) (fun _ _ _ _ _ _ g => g) (fun _ _ _ _ g => g) (fun _ g => g) (fun _ _ _ _ g => g) (fun _ g => g) (fun _ _ _ g => g) (fun _ _ _ g => g) (fun _ g => g) (fun _ _ _ _ _ g => g) (fun k r n ws _ f _ => f k r n ws) (fun _ _ _ _ _ g => g) (fun _ _ _ _ g => g) v f g
theorem onArr_eq (v : SV) (f : IntKind → Nat → IE → SV → R) (g : R) : onArr v f g = match v with | .arr k r n ws => f k r n ws | _ => g := by cases v <;> rfl
noncomputable def onWr (v : SV) (f : IE → IE → SV → R) (g : R) : R :=
 SV.rec (motive := fun _ => (IE → IE → SV → R) → R → R) (fun _ g => g) (fun _ _ g => g) (fun _ _ _ g => g) (fun _ _ g => g) (fun _ g => g) (fun _ _ _ _ g => g) (fun _ g => g) (fun _ _ _ _ _ _ g => g) (fun _ _ _ _ g => g) (fun _ g => g) (fun _ _ _ _ g => g) (fun _ g => g) (fun _ _ _ g => g) (fun _ _ _ g => g) (fun _ g => g) (fun _ _ _ _ _ g => g) (fun _ _ _ _ _ _ g => g) (fun i x ws _ f _ => f i x ws) (fun _ _ _ _ g => g) v f g
theorem onWr_eq (v : SV) (f : IE → IE → SV → R) (g : R) : onWr v f g = match v with | .wr i x ws => f i x ws | _ => g := by cases v <;> rfl
noncomputable def ieLit (v : IE) (f : Int → R) (g : R) : R :=
 IE.rec (motive := fun _ => (Int → R) → R → R) (fun z f _ => f z) (fun _ _ g => g) (fun _ _ _ _ g => g) (fun _ _ _ _ _ g => g) (fun _ _ _ _ _ g => g) (fun _ _ _ _ _ g => g) (fun _ _ _ _ _ g => g) (fun _ _ _ _ _ g => g) (fun _ _ _ _ g => g) (fun _ _ _ _ _ _ _ g => g) (fun _ _ _ _ g => g) (fun _ _ _ _ g => g) (fun _ _ _ _ _ g => g) (fun _ g => g) (fun _ _ _ _ _ _ _ _ _ _ g => g) (fun _ _ g => g) v f g
theorem ieLit_eq (v : IE) (f : Int → R) (g : R) : ieLit v f g = match v with | .lit z => f z | _ => g := by cases v <;> rfl
noncomputable def ieVar (v : IE) (f : Nat → R) (g : R) : R :=
 IE.rec (motive := fun _ => (Nat → R) → R → R) (fun _ _ g => g) (fun i f _ => f i) (fun _ _ _ _ g => g) (fun _ _ _ _ _ g => g) (fun _ _ _ _ _ g => g) (fun _ _ _ _ _ g => g) (fun _ _ _ _ _ g => g) (fun _ _ _ _ _ g => g) (fun _ _ _ _ g => g) (fun _ _ _ _ _ _ _ g => g) (fun _ _ _ _ g => g) (fun _ _ _ _ g => g) (fun _ _ _ _ _ g => g) (fun _ g => g) (fun _ _ _ _ _ _ _ _ _ _ g => g) (fun _ _ g => g) v f g
theorem ieVar_eq (v : IE) (f : Nat → R) (g : R) : ieVar v f g = match v with | .var i => f i | _ => g := by cases v <;> rfl
noncomputable def ieSel (v : IE) (f : Nat → IE → R) (g : R) : R :=
 IE.rec (motive := fun _ => (Nat → IE → R) → R → R) (fun _ _ g => g) (fun _ _ g => g) (fun r i _ f _ => f r i) (fun _ _ _ _ _ g => g) (fun _ _ _ _ _ g => g) (fun _ _ _ _ _ g => g) (fun _ _ _ _ _ g => g) (fun _ _ _ _ _ g => g) (fun _ _ _ _ g => g) (fun _ _ _ _ _ _ _ g => g) (fun _ _ _ _ g => g) (fun _ _ _ _ g => g) (fun _ _ _ _ _ g => g) (fun _ g => g) (fun _ _ _ _ _ _ _ _ _ _ g => g) (fun _ _ g => g) v f g
theorem ieSel_eq (v : IE) (f : Nat → IE → R) (g : R) : ieSel v f g = match v with | .sel r i => f r i | _ => g := by cases v <;> rfl
inductive Pa where
 | h
 | l (p : Pa)
 | r (p : Pa)
 deriving Inhabited
noncomputable def paN (n : Nat) : Nat → Pa :=
 Nat.rec (motive := fun _ => Nat → Pa) (fun _ => .h) (fun _ ih i => Bool.rec (motive := fun _ => Pa) (Bool.rec (motive := fun _ => Pa) (.r (ih (Nat.sub (Nat.div i 2) 1))) (.l (ih (Nat.div i 2))) (Nat.beq (Nat.mod i 2) 1)) .h (Nat.beq i 0)) n
noncomputable def pa (i : Nat) : Pa := paN i i
noncomputable def Pa.get (p : Pa) : FT → SV :=
 Pa.rec (motive := fun _ => FT → SV) (fun t => match t with | .tip => .undef | .node v _ _ => v) (fun _ ih t => match t with | .tip => .undef | .node _ x _ => ih x) (fun _ ih t => match t with | .tip => .undef | .node _ _ x => ih x) p
theorem paN_get : ∀ (n i : Nat), i ≤ n → ∀ t : FT, (paN n i).get t = t.get i := by
 intro n
 induction n with
 | zero =>
  intro i hi t
  have : i = 0 := by omega
  subst this; cases t <;> rfl
 | succ n ih =>
  intro i hi t
  have e : paN (n + 1) i = Bool.rec (motive := fun _ => Pa) (Bool.rec (motive := fun _ => Pa) (.r (paN n (Nat.sub (Nat.div i 2) 1))) (.l (paN n (Nat.div i 2))) (Nat.beq (Nat.mod i 2) 1)) .h (Nat.beq i 0) := rfl
  rw [e]
  by_cases h0 : i = 0
  ·subst h0; cases t <;> rfl
  ·have hb : Nat.beq i 0 = false := by cases i with
    | zero => exact absurd rfl h0
    | succ i => rfl
   rw [hb]
   dsimp only
   by_cases h1 : i % 2 = 1
   ·have hc : Nat.beq (Nat.mod i 2) 1 = true := by rw [show Nat.mod i 2 = 1 from h1]; rfl
    rw [hc]
    dsimp only
    cases t with
    | tip => rfl
    | node v l r =>
     rw [FT.get_node, if_neg h0, if_pos h1]
     exact ih _ (show i / 2 ≤ n by omega) l
   ·have hc : Nat.beq (Nat.mod i 2) 1 = false := by
     cases hh : Nat.beq (Nat.mod i 2) 1 with
     | false => rfl
     | true => exact absurd (Nat.eq_of_beq_eq_true hh) h1
    rw [hc]
    dsimp only
    cases t with
    | tip => rfl
    | node v l r =>
     rw [FT.get_node, if_neg h0, if_neg h1]
     exact ih _ (show i / 2 - 1 ≤ n by omega) r
theorem pa_get (i : Nat) (t : FT) : (pa i).get t = t.get i := paN_get i i (Nat.le_refl i) t
noncomputable def getP (p : Pa) : FT → (SV → R) → R :=
 Pa.rec (motive := fun _ => FT → (SV → R) → R)
  (fun t k => FT.rec (motive := fun _ => (SV → R) → R) (fun k => k .undef) (fun v _ _ _ _ k => k v) t k)
  (fun _ ih t k => FT.rec (motive := fun _ => (FT → (SV → R) → R) → (SV → R) → R) (fun _ k => k .undef) (fun _ l _ _ _ ih k => ih l k) t ih k)
  (fun _ ih t k => FT.rec (motive := fun _ => (FT → (SV → R) → R) → (SV → R) → R) (fun _ k => k .undef) (fun _ _ r _ _ ih k => ih r k) t ih k) p
theorem getP_eq (p : Pa) : ∀ (t : FT) (k : SV → R), getP p t k = k (p.get t) := by
 induction p with
 | h => intro t k; cases t <;> rfl
 | l p ih => intro t k; cases t with
  | tip => rfl
  | node v l r => exact ih l k
 | r p ih => intro t k; cases t with
  | tip => rfl
  | node v l r => exact ih r k
noncomputable def Pa.set (p : Pa) : FT → SV → FT :=
 Pa.rec (motive := fun _ => FT → SV → FT) (fun t x => match t with | .tip => .tip | .node _ y z => .node x y z)
  (fun _ ih t x => match t with | .tip => .tip | .node v y z => .node v (ih y x) z)
  (fun _ ih t x => match t with | .tip => .tip | .node v y z => .node v y (ih z x)) p
noncomputable def setL (v : SV) (r : FT) (k : FT → R) (l : FT) : R := k (.node v l r)
noncomputable def setR (v : SV) (l : FT) (k : FT → R) (r : FT) : R := k (.node v l r)
noncomputable def setP (p : Pa) : FT → SV → (FT → R) → R :=
 Pa.rec (motive := fun _ => FT → SV → (FT → R) → R)
  (fun t x k => FT.rec (motive := fun _ => SV → (FT → R) → R) (fun _ k => k .tip) (fun _ l r _ _ x k => k (.node x l r)) t x k)
  (fun _ ih t x k => FT.rec (motive := fun _ => (FT → SV → (FT → R) → R) → SV → (FT → R) → R) (fun _ _ k => k .tip) (fun v l r _ _ ih x k => ih l x (setL v r k)) t ih x k)
  (fun _ ih t x k => FT.rec (motive := fun _ => (FT → SV → (FT → R) → R) → SV → (FT → R) → R) (fun _ _ k => k .tip) (fun v l r _ _ ih x k => ih r x (setR v l k)) t ih x k) p
theorem setP_eq (p : Pa) : ∀ (t : FT) (x : SV) (k : FT → R), setP p t x k = k (p.set t x) := by
 induction p with
 | h => intro t x k; cases t <;> rfl
 | l p ih => intro t x k; cases t with
  | tip => rfl
  | node v l r => exact ih l x (setL v r k)
 | r p ih => intro t x k; cases t with
  | tip => rfl
  | node v l r => exact ih r x (setR v l k)
theorem FT.set_tip (i : Nat) (x : SV) : FT.tip.set i x = .tip := rfl
theorem paN_set : ∀ (n i : Nat), i ≤ n → ∀ (t : FT) (x : SV), (paN n i).set t x = t.set i x := by
 intro n
 induction n with
 | zero =>
  intro i hi t x
  have : i = 0 := by omega
  subst this; cases t <;> rfl
 | succ n ih =>
  intro i hi t x
  have e : paN (n + 1) i = Bool.rec (motive := fun _ => Pa) (Bool.rec (motive := fun _ => Pa) (.r (paN n (Nat.sub (Nat.div i 2) 1))) (.l (paN n (Nat.div i 2))) (Nat.beq (Nat.mod i 2) 1)) .h (Nat.beq i 0) := rfl
  rw [e]
  by_cases h0 : i = 0
  ·subst h0; cases t <;> rfl
  ·have hb : Nat.beq i 0 = false := by cases i with
    | zero => exact absurd rfl h0
    | succ i => rfl
   rw [hb]
   dsimp only
   by_cases h1 : i % 2 = 1
   ·have hc : Nat.beq (Nat.mod i 2) 1 = true := by rw [show Nat.mod i 2 = 1 from h1]; rfl
    rw [hc]
    dsimp only
    cases t with
    | tip => rfl
    | node v l r =>
     rw [FT.set_node, if_neg h0, if_pos h1]
     show FT.node v ((paN n (i / 2)).set l x) r = _
     rw [ih _ (show i / 2 ≤ n by omega) l x]
   ·have hc : Nat.beq (Nat.mod i 2) 1 = false := by
     cases hh : Nat.beq (Nat.mod i 2) 1 with
     | false => rfl
     | true => exact absurd (Nat.eq_of_beq_eq_true hh) h1
    rw [hc]
    dsimp only
    cases t with
    | tip => rfl
    | node v l r =>
     rw [FT.set_node, if_neg h0, if_neg h1]
     show FT.node v l ((paN n (i / 2 - 1)).set r x) = _
     rw [ih _ (show i / 2 - 1 ≤ n by omega) r x]
theorem pa_set (i : Nat) (t : FT) (x : SV) : (pa i).set t x = t.set i x := paN_set i i (Nat.le_refl i) t x
inductive CO where
 | slot (p : Pa)
 | val (v : SV)
 | bad
 deriving Inhabited
noncomputable def coOf (x : Operand) : CO := match x with
 | .tmp i => .slot (pa i)
 | .const v => match ofV v with
  | some s => nfS s fun s => .val s
  | none => .bad
 | .func f => .val (.fn f .nil)
 | .global _ => .bad
noncomputable def CO.of (x : CO) (t : FT) : SV := match x with
 | .slot p => p.get t
 | .val v => v
 | .bad => .nil
noncomputable def opdK (x : CO) (t : FT) (k : SV → R) : R :=
 CO.rec (motive := fun _ => FT → (SV → R) → R) (fun p t k => getP p t k) (fun v _ k => k v) (fun _ k => k .nil) x t k
theorem opdK_eq (x : CO) (t : FT) (k : SV → R) : opdK x t k = k (x.of t) := by
 cases x with
 | slot p => exact getP_eq p t k
 | val v => rfl
 | bad => rfl
theorem coOf_ok {x : Operand} {t : FT} {n : Nat} (h : (coOf x).of t ≠ .nil) : opd ⟨n, t⟩ x = some ((coOf x).of t) := by
 cases x with
 | tmp i =>
  have e : (coOf (.tmp i)).of t = t.get i := pa_get i t
  rw [e] at h ⊢
  show (match Fr.get ⟨n, t⟩ i with | .nil => none | v => some v) = _
  unfold Fr.get
  cases hv : t.get i <;> first | rfl | exact absurd hv h
 | const v =>
  show ofV v = _
  unfold coOf at h ⊢
  dsimp only at h ⊢
  cases hv : ofV v with
  | none => rw [hv] at h; exact absurd rfl h
  | some s => dsimp only; rw [nfS_eq]; rfl
 | func f => rfl
 | global g => exact absurd rfl h
inductive CD where
 | no
 | at (p : Pa)
 deriving Inhabited
noncomputable def cdOf (d : Option Nat) : CD := match d with
 | none => .no
 | some i => .at (pa i)
structure Ctx where
 d : CD
 o : Oper
 old : Oper → Fr → Mem → Option (List (Fr × Mem))
 n : Nat
 t : FT
 m : Mem
 K : Fr → Mem → R
noncomputable def fb (C : Ctx) : R := Ctx.rec (motive := fun _ => R) (fun _ o old n t m K => bindR (old o ⟨n, t⟩ m) K) C
noncomputable def mkFr (n : Nat) (m : Mem) (K : Fr → Mem → R) (t : FT) : R := K ⟨n, t⟩ m
noncomputable def fin (C : Ctx) (v : SV) : R :=
 Ctx.rec (motive := fun _ => SV → R) (fun d _ _ n t m K v => CD.rec (motive := fun _ => Nat → FT → Mem → (Fr → Mem → R) → SV → R)
  (fun n t m K _ => K ⟨n, t⟩ m) (fun p n t m K v => setP p t v (mkFr n m K)) d n t m K v) C v
theorem fin_eq (C : Ctx) (v : SV) {d : Option Nat} (hd : C.d = cdOf d) : fin C v = C.K (putS ⟨C.n, C.t⟩ d v) C.m := by
 obtain ⟨cd, o, old, n, t, m, K⟩ := C
 dsimp only at hd
 subst hd
 cases d with
 | none => rfl
 | some i =>
  show setP (pa i) t v (mkFr n m K) = _
  rw [setP_eq, pa_set]
  rfl
noncomputable def finM (C : Ctx) (v : SV) (m : Mem) : R :=
 Ctx.rec (motive := fun _ => Mem → SV → R) (fun d _ _ n t _ K m v => CD.rec (motive := fun _ => Nat → FT → Mem → (Fr → Mem → R) → SV → R)
  (fun n t m K _ => K ⟨n, t⟩ m) (fun p n t m K v => setP p t v (mkFr n m K)) d n t m K v) C m v
theorem finM_eq (C : Ctx) (v : SV) (m : Mem) {d : Option Nat} (hd : C.d = cdOf d) : finM C v m = C.K (putS ⟨C.n, C.t⟩ d v) m := by
 obtain ⟨cd, o, old, n, t, m', K⟩ := C
 dsimp only at hd
 subst hd
 cases d with
 | none => rfl
 | some i =>
  show setP (pa i) t v (mkFr n m K) = _
  rw [setP_eq, pa_set]
  rfl
end Go.Sx
namespace Go.Sx
open Go
noncomputable def nnS (v : SV) (f : SV → R) (g : R) : R :=
 SV.rec (motive := fun _ => SV → (SV → R) → R → R) (fun v f _ => f v) (fun _ v f _ => f v) (fun _ _ v f _ => f v) (fun _ v f _ => f v) (fun v f _ => f v) (fun _ _ _ v f _ => f v) (fun v f _ => f v) (fun _ _ _ _ _ v f _ => f v) (fun _ _ _ v f _ => f v) (fun v f _ => f v) (fun _ _ _ v f _ => f v) (fun v f _ => f v) (fun _ _ v f _ => f v) (fun _ _ v f _ => f v) (fun _ _ g => g) (fun _ _ _ _ v f _ => f v) (fun _ _ _ _ _ v f _ => f v) (fun _ _ _ _ v f _ => f v) (fun _ _ _ v f _ => f v) v v f g
theorem nnS_eq {v : SV} (f : SV → R) (g : R) (h : v ≠ .nil) : nnS v f g = f v := by cases v <;> first | rfl | exact absurd rfl h
theorem nnS_nil (f : SV → R) (g : R) : nnS .nil f g = g := rfl
noncomputable def vOr (v : SV) (a b : R) : R :=
 SV.rec (motive := fun _ => R → R → R) (fun a _ => a) (fun _ _ b => b) (fun _ _ a _ => a) (fun _ a _ => a) (fun a _ => a) (fun _ _ _ a _ => a) (fun a _ => a) (fun _ _ _ _ _ a _ => a) (fun _ _ _ a _ => a) (fun a _ => a) (fun _ _ _ a _ => a) (fun a _ => a) (fun _ _ a _ => a) (fun _ _ a _ => a) (fun _ b => b) (fun _ _ _ _ _ b => b) (fun _ _ _ _ _ _ b => b) (fun _ _ _ _ _ b => b) (fun _ _ _ _ b => b) v a b
theorem vOr_eq (v : SV) (a b : R) : vOr v a b = if v.isV = true then a else b := by cases v <;> rfl
noncomputable def onNat (z : Int) (f : Nat → R) (g : R) : R :=
 Int.rec (motive := fun _ => (Nat → R) → R → R) (fun n f _ => f n) (fun _ _ g => g) z f g
theorem onNat_of (n : Nat) (f : Nat → R) (g : R) : onNat (.ofNat n) f g = f n := rfl
theorem onNat_neg (n : Nat) (f : Nat → R) (g : R) : onNat (.negSucc n) f g = g := rfl
noncomputable def yes (c : Bool) (a b : R) : R := Bool.rec (motive := fun _ => R → R → R) (fun _ b => b) (fun a _ => a) c a b
theorem yes_eq (c : Bool) (a b : R) : yes c a b = if c = true then a else b := by cases c <;> rfl
theorem yes_beq (p q : Nat) (a b : R) : yes (Nat.beq p q) a b = if p = q then a else b := by
 rw [yes_eq]
 by_cases h : p = q
 ·rw [if_pos h, if_pos (by rw [h]; exact Nat.beq_refl q)]
 ·rw [if_neg h, if_neg (fun e => h (Nat.eq_of_beq_eq_true e))]
theorem yes_ble (p q : Nat) (a b : R) : yes (Nat.ble p q) a b = if p ≤ q then a else b := by
 rw [yes_eq]
 by_cases h : p ≤ q
 ·rw [if_pos h, if_pos (Nat.ble_eq_true_of_le h)]
 ·rw [if_neg h, if_neg (fun e => h (Nat.le_of_ble_eq_true e))]
noncomputable def forceN (n : Nat) (k : Nat → R) : R := Nat.rec (motive := fun _ => (Nat → R) → R) (fun k => k 0) (fun m _ k => k (Nat.succ m)) n k
theorem forceN_eq (n : Nat) (k : Nat → R) : forceN n k = k n := by cases n <;> rfl
noncomputable def opdC (x : CO) (C : Ctx) (k : SV → R) : R := Ctx.rec (motive := fun _ => CO → (SV → R) → R) (fun _ _ _ _ t _ _ x k => opdK x t k) C x k
theorem opdC_eq (x : CO) (C : Ctx) (k : SV → R) : opdC x C k = k (x.of C.t) := opdK_eq x C.t k
noncomputable def maxN (k : IntKind) : Nat := IntKind.rec (motive := fun _ => Nat) 127 32767 2147483647 9223372036854775807 255 65535 4294967295 18446744073709551615 k
theorem kindNo_ne {a b : IntKind} (h : Nat.beq (kindNo a) (kindNo b) = false) : a ≠ b := by
 intro e; subst e; rw [Nat.beq_refl] at h; cases h
theorem maxN_ok (k : IntKind) : (maxN k : Int) ≤ k.max ∧ k.min ≤ 0 := by cases k <;> decide
section
variable {P : Program}
noncomputable def stepBody (T : Tab P) (cx : CX) (tm : Fr) (o : Oper) : X Fr :=
 match appArgs T tm o with
 | some (e, s, x) => fun m => X.bind (appS T e s x) (fun v m' => if Nat.beq m'.nv m.nv || tm.t.all (SV.nm m.nv) then putX' tm o.dst v m' else none) m
 | none => X.bind (opS T tm o) fun nx =>
  match nx with
  | .val v => putX' tm o.dst v
  | .skip => putX' tm o.dst .undef
  | .enter f args => fun m => X.bind (cx f args) (fun v m' => if Nat.beq m'.nv m.nv || tm.t.all (SV.nm m.nv) then putX' tm o.dst v m' else none) m
theorem stepOp_body (T : Tab P) (cx : CX) (ops : Array Oper) (tm : Fr) (o : Oper) : stepOp T cx ops tm o = X.bind (wantedX ops tm o) fun wnt => if wnt then stepBody T cx tm o else putX' tm o.dst .undef := rfl
structure Fits (T : Tab P) (cx : CX) (C : Ctx) : Prop where
 old : C.old = fun o fr m => stepBody T cx fr o m
 d : C.d = cdOf C.o.dst
variable {T : Tab P} {cx : CX} {C : Ctx}
theorem Fits.fb_eq (h : Fits T cx C) : fb C = bindR (stepBody T cx ⟨C.n, C.t⟩ C.o C.m) C.K := by
 obtain ⟨cd, o, old, n, t, m, K⟩ := C
 have := h.old
 dsimp only at this
 subst this
 rfl
theorem finM_self (C : Ctx) (v : SV) : finM C v C.m = fin C v := rfl
theorem Fits.step (_h : Fits T cx C) (ha : appArgs T ⟨C.n, C.t⟩ C.o = none) : stepBody T cx ⟨C.n, C.t⟩ C.o C.m = X.bind (opS T ⟨C.n, C.t⟩ C.o) (fun nx => match nx with
   | .val v => putX' ⟨C.n, C.t⟩ C.o.dst v
   | .skip => putX' ⟨C.n, C.t⟩ C.o.dst .undef
   | .enter f args => fun m => X.bind (cx f args) (fun v m' => if Nat.beq m'.nv m.nv || (Fr.t ⟨C.n, C.t⟩).all (SV.nm m.nv) then putX' ⟨C.n, C.t⟩ C.o.dst v m' else none) m) C.m := by
 unfold stepBody
 rw [ha]
theorem Fits.val (h : Fits T cx C) (ha : appArgs T ⟨C.n, C.t⟩ C.o = none) {v : SV} {m' : Mem} (hv : opS T ⟨C.n, C.t⟩ C.o C.m = some [(.val v, m')]) : finM C v m' = fb C := by
 rw [h.fb_eq, h.step ha, bind_one hv]
 show _ = bindR (putX' ⟨C.n, C.t⟩ C.o.dst v m') C.K
 rw [putX'_eq, bindR_pure, finM_eq C v m' h.d]
theorem Fits.skip (h : Fits T cx C) (ha : appArgs T ⟨C.n, C.t⟩ C.o = none) {m' : Mem} (hv : opS T ⟨C.n, C.t⟩ C.o C.m = some [(.skip, m')]) : finM C .undef m' = fb C := by
 rw [h.fb_eq, h.step ha, bind_one hv]
 show _ = bindR (putX' ⟨C.n, C.t⟩ C.o.dst .undef m') C.K
 rw [putX'_eq, bindR_pure, finM_eq C _ m' h.d]
theorem Fits.enter (h : Fits T cx C) (ha : appArgs T ⟨C.n, C.t⟩ C.o = none) {f : Nat} {args : List SV} (hv : opS T ⟨C.n, C.t⟩ C.o C.m = some [(.enter f args, C.m)]) :
  bindR (cx f args C.m) (fun v m' => if (Nat.beq m'.nv C.m.nv || C.t.all (SV.nm C.m.nv)) = true then finM C v m' else none) = fb C := by
 rw [h.fb_eq, h.step ha, bind_one hv]
 dsimp only
 rw [bindR_bind]
 congr 1
 funext v m'
 by_cases hc : (Nat.beq m'.nv C.m.nv || C.t.all (SV.nm C.m.nv)) = true
 ·rw [if_pos hc, if_pos hc, putX'_eq, bindR_pure, finM_eq C _ m' h.d]
 ·rw [if_neg hc, if_neg hc]; rfl
end
noncomputable def mvK (C : Ctx) (v : SV) : R := nnS v (fin C) (fb C)
noncomputable def optFin (C : Ctx) (v : Option SV) : R := Option.rec (motive := fun _ => Ctx → R) (fun C => fb C) (fun v C => nfS v (fin C)) v C
noncomputable def genK (op : BinOp) (C : Ctx) (k : IntKind) (a b : IE) : R :=
 Ctx.rec (motive := fun _ => BinOp → Ctx → IntKind → IE → IE → R) (fun _ _ _ _ _ m _ op C k a b => optFin C (intBin (Mem.know m) op k a b)) C op C k a b
noncomputable def finB (C : Ctx) (b : Bool) : R := Bool.rec (motive := fun _ => Ctx → R) (fun C => fin C (.bool (.lit false))) (fun C => fin C (.bool (.lit true))) b C
noncomputable def finN1 (C : Ctx) (k : IntKind) (g : R) (n : Nat) : R := yes (Nat.ble n (maxN k)) (fin C (.int k (.lit (.ofNat n)))) g
noncomputable def finN (C : Ctx) (k : IntKind) (n : Nat) (g : R) : R := forceN n (finN1 C k g)
noncomputable def finC (C : Ctx) (b : Bool) : R := Bool.rec (motive := fun _ => Ctx → R) (fun C => fin C (.bool (.lit true))) (fun C => fin C (.bool (.lit false))) b C
noncomputable def natK (op : BinOp) (C : Ctx) (k : IntKind) (p q : Nat) (g : R) : R :=
 BinOp.rec (motive := fun _ => Ctx → IntKind → Nat → Nat → R → R)
  (fun C k p q g => finN C k (Nat.add p q) g)
  (fun C k p q g => yes (Nat.ble q p) (finN C k (Nat.sub p q) g) g)
  (fun C k p q g => finN C k (Nat.mul p q) g)
  (fun _ _ _ _ g => g) (fun _ _ _ _ g => g) (fun _ _ _ _ g => g) (fun _ _ _ _ g => g) (fun _ _ _ _ g => g) (fun _ _ _ _ g => g) (fun _ _ _ _ g => g) (fun _ _ _ _ g => g)
  (fun C _ p q _ => finB C (Nat.beq p q)) (fun C _ p q _ => finC C (Nat.beq p q))
  (fun C _ p q _ => finB C (Nat.ble (Nat.succ p) q)) (fun C _ p q _ => finB C (Nat.ble p q))
  (fun C _ p q _ => finB C (Nat.ble (Nat.succ q) p)) (fun C _ p q _ => finB C (Nat.ble q p)) op C k p q g
noncomputable def intL3 (op : BinOp) (C : Ctx) (k : IntKind) (g : R) (p q : Nat) : R := natK op C k p q g
noncomputable def intL2 (op : BinOp) (C : Ctx) (k : IntKind) (g : R) (y : Int) (p : Nat) : R := onNat y (intL3 op C k g p) g
noncomputable def intL1 (op : BinOp) (C : Ctx) (k : IntKind) (g : R) (x y : Int) : R := onNat x (intL2 op C k g y) g
noncomputable def intL0 (op : BinOp) (C : Ctx) (k : IntKind) (b : IE) (g : R) (x : Int) : R := ieLit b (intL1 op C k g x) g
noncomputable def intG (op : BinOp) (C : Ctx) (k : IntKind) (a b : IE) : R := ieLit a (intL0 op C k b (genK op C k a b)) (genK op C k a b)
noncomputable def bin3 (op : BinOp) (C : Ctx) (k : IntKind) (a : IE) (k' : IntKind) (b : IE) : R := yes (Nat.beq (kindNo k) (kindNo k')) (intG op C k a b) (fb C)
noncomputable def bin2 (op : BinOp) (C : Ctx) (k : IntKind) (a : IE) (w : SV) : R := onInt w (bin3 op C k a) (fb C)
noncomputable def bin1 (op : BinOp) (y : CO) (C : Ctx) (k : IntKind) (a : IE) : R := opdC y C (bin2 op C k a)
noncomputable def bin0 (op : BinOp) (y : CO) (C : Ctx) (v : SV) : R := onInt v (bin1 op y C) (fb C)
noncomputable def binK (op : BinOp) (x y : CO) (C : Ctx) : R := opdC x C (bin0 op y C)
theorem optFin_eq (C : Ctx) (v : Option SV) : optFin C v = match v with | some v => fin C v | none => fb C := by
 cases v with
 | none => rfl
 | some v => exact nfS_eq v (fin C)
theorem genK_eq (op : BinOp) (C : Ctx) (k : IntKind) (a b : IE) : genK op C k a b = match intBin C.m.know op k a b with | some v => fin C v | none => fb C :=
 optFin_eq C _
theorem finB_eq (C : Ctx) (b : Bool) : finB C b = fin C (.bool (.lit b)) := by cases b <;> rfl
theorem finC_eq (C : Ctx) (b : Bool) : finC C b = fin C (.bool (.lit (!b))) := by cases b <;> rfl
theorem finN_eq (C : Ctx) (k : IntKind) (n : Nat) (g : R) : finN C k n g = if n ≤ maxN k then fin C (.int k (.lit n)) else g := by
 unfold finN
 rw [forceN_eq]
 unfold finN1
 rw [yes_eq]
 by_cases h : n ≤ maxN k
 ·rw [if_pos h, if_pos (Nat.ble_eq_true_of_le h)]; rfl
 ·rw [if_neg h, if_neg (fun e => h (Nat.le_of_ble_eq_true e))]
theorem wrap_nat {k : IntKind} {n : Nat} (h : n ≤ maxN k) : k.wrap (n : Int) = n := by
 obtain ⟨h1, h2⟩ := maxN_ok k
 exact wrap_id (by omega) (by omega)
theorem mkWrap_nat (fs : List Fact) {k : IntKind} {n : Nat} (h : n ≤ maxN k) : mkWrap fs k (.lit n) = .lit n := by
 show IE.lit (k.wrap n) = _
 rw [wrap_nat h]
theorem lss_nat (p q : Nat) : Nat.ble (Nat.succ p) q = decide ((p : Int) < (q : Int)) := by
 rw [Bool.eq_iff_iff, Nat.ble_eq, decide_eq_true_eq]; omega
theorem leq_nat (p q : Nat) : Nat.ble p q = !decide ((q : Int) < (p : Int)) := by
 rw [Bool.eq_iff_iff, Nat.ble_eq, Bool.not_eq_true', decide_eq_false_iff_not]; omega
theorem eql_nat (p q : Nat) : Nat.beq p q = decide ((p : Int) = (q : Int)) := by
 rw [Bool.eq_iff_iff, Nat.beq_eq, decide_eq_true_eq]; omega
theorem natK_eq (op : BinOp) (C : Ctx) (k : IntKind) (p q : Nat) : natK op C k p q (genK op C k (.lit p) (.lit q)) = genK op C k (.lit p) (.lit q) := by
 cases op
 case add =>
  show finN C k (p + q) _ = _
  rw [finN_eq]
  split
  ·rename_i h
   rw [genK_eq]
   show _ = fin C (.int k (mkWrap _ k (mkAdd (.lit p) (.lit q))))
   rw [show mkAdd (.lit p) (.lit q) = .lit ((p + q : Nat) : Int) by rw [Int.natCast_add]; rfl, mkWrap_nat _ h]
  ·rfl
 case sub =>
  show yes (Nat.ble q p) (finN C k (p - q) _) _ = _
  rw [yes_eq]
  split
  ·rename_i hle
   have hle := Nat.le_of_ble_eq_true hle
   rw [finN_eq]
   split
   ·rename_i h
    rw [genK_eq]
    show _ = fin C (.int k (mkWrap _ k (mkSub (.lit p) (.lit q))))
    rw [show mkSub (.lit p) (.lit q) = .lit ((p - q : Nat) : Int) by rw [Int.natCast_sub hle, Int.sub_eq_add_neg]; rfl, mkWrap_nat _ h]
   ·rfl
  ·rfl
 case mul =>
  show finN C k (p * q) _ = _
  rw [finN_eq]
  split
  ·rename_i h
   rw [genK_eq]
   show _ = fin C (.int k (mkWrap _ k (mkMul (.lit p) (.lit q))))
   rw [show mkMul (.lit p) (.lit q) = .lit ((p * q : Nat) : Int) by rw [Int.natCast_mul]; rfl, mkWrap_nat _ h]
  ·rfl
 case eql => show finB C (Nat.beq p q) = _; rw [finB_eq, genK_eq, eql_nat]; rfl
 case neq => show finC C (Nat.beq p q) = _; rw [finC_eq, genK_eq, eql_nat]; rfl
 case lss => show finB C (Nat.ble (Nat.succ p) q) = _; rw [finB_eq, genK_eq, lss_nat]; rfl
 case leq => show finB C (Nat.ble p q) = _; rw [finB_eq, genK_eq, leq_nat]; rfl
 case gtr => show finB C (Nat.ble (Nat.succ q) p) = _; rw [finB_eq, genK_eq, lss_nat]; rfl
 case geq => show finB C (Nat.ble q p) = _; rw [finB_eq, genK_eq, leq_nat]; rfl
 all_goals rfl
theorem intG_eq (op : BinOp) (C : Ctx) (k : IntKind) (a b : IE) : intG op C k a b = genK op C k a b := by
 unfold intG
 cases a <;> try rfl
 rename_i x
 show ieLit b (intL1 op C k _ x) _ = _
 cases b <;> try rfl
 rename_i y
 show onNat x (intL2 op C k _ y) _ = _
 cases x with
 | negSucc n => rfl
 | ofNat p =>
  show onNat y (intL3 op C k _ p) _ = _
  cases y with
  | negSucc n => rfl
  | ofNat q => exact natK_eq op C k p q
section
variable {P : Program} {T : Tab P} {cx : CX} {C : Ctx}
theorem mv_ok (h : Fits T cx C) {x : Operand} (ho : C.o.op = .move x ∨ C.o.op = .assign x) : opdC (coOf x) C (mvK C) = fb C := by
 rw [opdC_eq]
 unfold mvK
 by_cases hv : (coOf x).of C.t = .nil
 ·rw [hv]; rfl
 ·rw [nnS_eq _ _ hv, ← finM_self]
  have ha : appArgs T ⟨C.n, C.t⟩ C.o = none := by unfold appArgs; rcases ho with e | e <;> rw [e]
  refine h.val ha ?_
  unfold opS
  rcases ho with e | e <;> (rw [e]; dsimp only; rw [coOf_ok hv]; rfl)
theorem bin_ok (h : Fits T cx C) {op : BinOp} {t t' : Nat} {x y : Operand} (ho : C.o.op = .binOp op t x y t') (h1 : op ≠ .shl) (h2 : op ≠ .shr) : binK op (coOf x) (coOf y) C = fb C := by
 unfold binK
 rw [opdC_eq]
 unfold bin0
 cases hv : (coOf x).of C.t <;> try rfl
 rename_i k a
 show opdC (coOf y) C (bin2 op C k a) = _
 rw [opdC_eq]
 unfold bin2
 cases hw : (coOf y).of C.t <;> try rfl
 rename_i k' b
 show yes (Nat.beq (kindNo k) (kindNo k')) (intG op C k a b) (fb C) = _
 rw [yes_eq]
 split
 ·rename_i hk
  have hk := kindNo_eq hk
  subst hk
  rw [intG_eq, genK_eq]
  cases hi : intBin C.m.know op k a b with
  | none => rfl
  | some v =>
   dsimp only
   rw [← finM_self]
   have ha : appArgs T ⟨C.n, C.t⟩ C.o = none := by unfold appArgs; rw [ho]
   refine h.val ha ?_
   have hx : opd ⟨C.n, C.t⟩ x = some (.int k a) := by rw [coOf_ok (by rw [hv]; exact fun e => (by cases e)), hv]
   have hy : opd ⟨C.n, C.t⟩ y = some (.int k b) := by rw [coOf_ok (by rw [hw]; exact fun e => (by cases e)), hw]
   unfold opS
   rw [ho]
   dsimp only
   rw [hx, hy]
   dsimp only
   have hb : binS T op t x y (.int k a) (.int k b) C.m = some [(v, C.m)] := by
    unfold binS
    cases op <;> first | exact absurd rfl h1 | exact absurd rfl h2 | (dsimp only [withKnow]; rw [if_pos rfl, hi]; rfl)
   unfold valX
   rw [bind_one hb]
   rfl
 ·rfl
end
end Go.Sx
namespace Go.Sx
open Go
noncomputable def cOr (v : SV) (a b : R) : R := SV.rec (motive := fun _ => R → R → R) (fun _ b => b) (fun _ _ b => b) (fun _ _ a _ => a) (fun _ a _ => a) (fun a _ => a) (fun _ _ _ a _ => a) (fun a _ => a) (fun _ _ _ _ _ a _ => a) (fun _ _ _ a _ => a) (fun a _ => a) (fun _ _ _ a _ => a) (fun a _ => a) (fun _ _ _ b => b) (fun _ _ _ b => b) (fun _ b => b) (fun _ _ _ _ _ b => b) (fun _ _ _ _ _ _ b => b) (fun _ _ _ _ _ b => b) (fun _ _ _ _ b => b) v a b
theorem cOr_eq (v : SV) (a b : R) : cOr v a b = if v.isC = true then a else b := by cases v <;> rfl
noncomputable def getS1 (r n : Nat) (k : IntKind) (K : SV → R) : R := yes (Nat.beq r 0) (K (.int k (.lit 0))) (K (.int k (.sel r (.lit (.ofNat n)))))
noncomputable def getSel (k : IntKind) (r n : Nat) (K : SV → R) : R := forceN n fun n => getS1 r n k K
noncomputable def wrI (k : IntKind) (x : IE) (ih : R) (n : Nat) (K : SV → R) (p : Nat) : R := yes (Nat.beq p n) (K (.int k x)) ih
noncomputable def wrZ (k : IntKind) (x : IE) (ih : R) (n : Nat) (K : SV → R) (N : R) (z : Int) : R := onNat z (wrI k x ih n K) N
noncomputable def getWK (k : IntKind) (r : Nat) (ws : SV) (n : Nat) (K : SV → R) (N : R) : R :=
 SV.rec (motive := fun _ => IntKind → Nat → Nat → (SV → R) → R → R)
  (fun _ _ _ _ N => N) (fun _ _ _ _ _ N => N) (fun _ _ _ _ _ _ N => N) (fun _ _ _ _ _ N => N) (fun _ _ _ _ N => N) (fun _ _ _ _ _ _ _ N => N) (fun _ _ _ _ N => N) (fun _ _ _ _ _ _ _ _ _ N => N)
  (fun _ _ _ _ _ _ _ N => N) (fun _ _ _ _ N => N) (fun _ _ _ _ _ _ _ N => N) (fun _ _ _ _ N => N) (fun _ _ _ _ _ _ N => N) (fun _ _ _ _ _ _ N => N)
  (fun k r n K _ => getSel k r n K) (fun _ _ _ _ _ _ _ _ N => N) (fun _ _ _ _ _ _ _ _ _ N => N)
  (fun i x _ ih k r n K N => ieLit i (wrZ k x (ih k r n K N) n K N) N) (fun _ _ _ _ _ _ _ N => N) ws k r n K N
theorem branch_lit (b : Bool) (m : Mem) : branch (.lit b) m = some [(b, m)] := rfl
theorem getW_at (k : IntKind) (r : Nat) : ∀ (ws : SV) (n : Nat) (K : SV → R) (N : R), getWK k r ws n K N = N ∨ ∃ v, (∀ m, getW k r ws (.lit n) m = some [(v, m)]) ∧ getWK k r ws n K N = K v
 | .nil, n, K, N => by
  refine .inr ⟨.int k (if r = 0 then .lit 0 else .sel r (.lit n)), fun m => rfl, ?_⟩
  show forceN n (fun n => getS1 r n k K) = _
  rw [forceN_eq]
  unfold getS1
  rw [yes_beq]
  by_cases h : r = 0
  ·rw [if_pos h, if_pos h]
  ·rw [if_neg h, if_neg h]; rfl
 | .wr i x ws, n, K, N => by
  show ieLit i (wrZ k x (getWK k r ws n K N) n K N) N = N ∨ _
  cases i <;> try exact .inl rfl
  rename_i z
  cases z with
  | negSucc z => exact .inl rfl
  | ofNat p =>
   show yes (Nat.beq p n) (K (.int k x)) (getWK k r ws n K N) = N ∨ ∃ v, _ ∧ yes (Nat.beq p n) (K (.int k x)) (getWK k r ws n K N) = K v
   have hb : ∀ m, getW k r (.wr (.lit (.ofNat p)) x ws) (.lit n) m = if p = n then some [(.int k x, m)] else getW k r ws (.lit n) m := by
    intro m
    show X.bind (withKnow fun kn => branch (mkEq kn (.lit (Int.ofNat p)) (.lit (n : Int)))) (fun b => if b then X.pure (.int k x) else getW k r ws (.lit n)) m = _
    rw [bind_one (m' := m) (a := decide ((Int.ofNat p) = (n : Int))) (by rfl)]
    by_cases h : p = n
    ·subst h; simp [X.pure]
    ·have : decide ((Int.ofNat p) = (n : Int)) = false := by simp; omega
     rw [this, if_neg h]; rfl
   rw [yes_beq]
   by_cases h : p = n
   ·rw [if_pos h]
    exact .inr ⟨_, fun m => by rw [hb, if_pos h], rfl⟩
   ·rw [if_neg h]
    rcases getW_at k r ws n K N with h1 | ⟨v, h1, h2⟩
    ·exact .inl h1
    ·exact .inr ⟨v, fun m => by rw [hb, if_neg h, h1], h2⟩
 | .undef, _, _, _ | .opq _, _, _, _ | .int _ _, _, _, _ | .bool _, _, _, _ | .nilp, _, _, _ | .ptr _ _ _, _, _, _ | .nils, _, _, _ | .sli _ _ _ _ _, _, _, _ | .fn _ _, _, _, _ | .nilf, _, _, _ | .ifc _ _, _, _, _ | .nili, _, _, _ | .agg _, _, _, _ | .tup _, _, _, _ | .cons _ _, _, _, _ | .arr _ _ _ _, _, _, _ | .rep _ _, _, _, _ => .inl rfl
abbrev GetT := Nat → (SV → R) → R → R
noncomputable def arrL (k : IntKind) (r : Nat) (ws : SV) (ih : GetT) (n : Nat) (K : SV → R) (N : R) (l : Nat) : R := yes (Nat.ble (Nat.succ n) l) (getWK k r ws n K N) (ih (Nat.sub n l) K N)
noncomputable def arrZ (k : IntKind) (r : Nat) (ws : SV) (ih : GetT) (n : Nat) (K : SV → R) (N : R) (z : Int) : R := onNat z (arrL k r ws ih n K N) N
noncomputable def arrG (k : IntKind) (r : Nat) (len : IE) (ws : SV) (ih : GetT) (n : Nat) (K : SV → R) (N : R) : R := ieLit len (arrZ k r ws ih n K N) N
noncomputable def cellG (a : SV) (ih : GetT) (n : Nat) (K : SV → R) (N : R) : R :=
 SV.rec (motive := fun _ => SV → GetT → Nat → (SV → R) → R → R) (fun _ _ _ _ N => N) (fun _ _ _ _ _ N => N) (fun _ _ v ih n K N => yes (Nat.beq n 0) (K v) (ih (Nat.pred n) K N)) (fun _ v ih n K N => yes (Nat.beq n 0) (K v) (ih (Nat.pred n) K N)) (fun v ih n K N => yes (Nat.beq n 0) (K v) (ih (Nat.pred n) K N)) (fun _ _ _ v ih n K N => yes (Nat.beq n 0) (K v) (ih (Nat.pred n) K N)) (fun v ih n K N => yes (Nat.beq n 0) (K v) (ih (Nat.pred n) K N)) (fun _ _ _ _ _ v ih n K N => yes (Nat.beq n 0) (K v) (ih (Nat.pred n) K N)) (fun _ _ _ v ih n K N => yes (Nat.beq n 0) (K v) (ih (Nat.pred n) K N)) (fun v ih n K N => yes (Nat.beq n 0) (K v) (ih (Nat.pred n) K N)) (fun _ _ _ v ih n K N => yes (Nat.beq n 0) (K v) (ih (Nat.pred n) K N)) (fun v ih n K N => yes (Nat.beq n 0) (K v) (ih (Nat.pred n) K N)) (fun _ _ _ _ _ _ N => N) (fun _ _ _ _ _ _ N => N) (fun _ _ _ _ N => N) (fun _ _ _ _ _ _ _ _ N => N) (fun k r len ws _ _ ih n K N => arrG k r len ws ih n K N) (fun _ _ _ _ _ _ _ _ N => N) (fun _ _ _ _ _ _ _ N => N) a a ih n K N
noncomputable def getNK (c : SV) : GetT :=
 SV.rec (motive := fun _ => GetT)
  (fun _ _ N => N) (fun _ _ _ N => N) (fun _ _ _ _ N => N) (fun _ _ _ N => N) (fun _ _ N => N) (fun _ _ _ _ _ N => N) (fun _ _ N => N) (fun _ _ _ _ _ _ _ N => N)
  (fun _ _ _ _ _ N => N) (fun _ _ N => N) (fun _ _ _ _ _ N => N) (fun _ _ N => N) (fun _ _ _ _ N => N) (fun _ _ _ _ N => N)
  (fun _ _ N => N) (fun a _ _ ih n K N => cellG a ih n K N) (fun _ _ _ _ _ _ _ N => N)
  (fun _ _ _ _ _ _ N => N) (fun _ _ _ _ _ N => N) c
theorem lit_succ (n : Nat) : mkSub (.lit ((n + 1 : Nat) : Int)) (.lit 1) = .lit (n : Int) := by
 show IE.lit (((n + 1 : Nat) : Int) + -1) = _
 congr 1 <;> omega
theorem getC_lit (a rest : SV) (ha : a.isC = true) (n : Nat) (m : Mem) : getC (.cons a rest) (.lit n) m = if n = 0 then some [(a, m)] else getC rest (.lit ((n - 1 : Nat) : Int)) m := by
 have e : getC (.cons a rest) (.lit (n : Int)) = (if a.isC then
    if IE.lit (n : Int) = .lit 0 then X.pure a else withKnow fun kn =>
     if 1 ≤ (rng kn.facts (.lit (n : Int))).1 then getC rest (mkSub (.lit (n : Int)) (.lit 1)) else
     if 0 ≤ (rng kn.facts (.lit (n : Int))).1 then X.bind (branch (mkEq kn (.lit (n : Int)) (.lit 0))) fun b => if b then X.pure a else getC rest (mkSub (.lit (n : Int)) (.lit 1)) else X.none
   else X.none) := by cases a <;> first | rfl | cases ha
 rw [e, if_pos ha]
 cases n with
 | zero => rfl
 | succ n =>
  rw [if_neg (by intro h; injection h with h; omega)]
  unfold withKnow
  dsimp only
  rw [if_pos (by show (1 : Int) ≤ ((n + 1 : Nat) : Int); omega), lit_succ, if_neg (by omega)]
  rfl
theorem getC_arr (k : IntKind) (r l : Nat) (ws rest : SV) (n : Nat) (m : Mem) : getC (.cons (.arr k r (.lit l) ws) rest) (.lit n) m = if n < l then getW k r ws (.lit n) m else getC rest (.lit ((n - l : Nat) : Int)) m := by
 show (withKnow fun kn =>
   if 0 ≤ (rng kn.facts (.lit (n : Int))).1 then
    X.bind (branch (mkLt kn (.lit (n : Int)) (.lit l))) fun b => if b then getW k r ws (.lit (n : Int)) else
     withKnow fun kn => if 0 ≤ (rng kn.facts (.lit l)).1 then getC rest (mkSub (.lit (n : Int)) (.lit l)) else X.none
   else X.none) m = _
 unfold withKnow
 dsimp only
 rw [if_pos (by show (0 : Int) ≤ (n : Int); omega), bind_one (m' := m) (a := decide ((n : Int) < l)) rfl]
 by_cases h : n < l
 ·rw [if_pos h, if_pos (by simpa using h)]
 ·rw [if_neg h, if_neg (by simpa using h), if_pos (by show (0 : Int) ≤ (l : Int); omega)]
  rw [show mkSub (.lit (n : Int)) (.lit (l : Int)) = .lit ((n - l : Nat) : Int) by
   show IE.lit ((n : Int) + -(l : Int)) = _
   congr 1 <;> omega]
theorem getNK_at : ∀ (c : SV) (n : Nat) (K : SV → R) (N : R), getNK c n K N = N ∨ ∃ v, (∀ m, getC c (.lit n) m = some [(v, m)]) ∧ getNK c n K N = K v
 | .cons a rest, n, K, N => by
  show cellG a (getNK rest) n K N = N ∨ ∃ v, _ ∧ cellG a (getNK rest) n K N = K v
  by_cases ha : a.isC = true
  ·have e : cellG a (getNK rest) n K N = yes (Nat.beq n 0) (K a) (getNK rest (Nat.pred n) K N) := by cases a <;> first | rfl | cases ha
   rw [e, yes_beq]
   by_cases h : n = 0
   ·rw [if_pos h]
    exact .inr ⟨a, fun m => by rw [getC_lit a rest ha, if_pos h], rfl⟩
   ·rw [if_neg h]
    rcases getNK_at rest (Nat.pred n) K N with h1 | ⟨v, h1, h2⟩
    ·exact .inl h1
    ·exact .inr ⟨v, fun m => by rw [getC_lit a rest ha, if_neg h]; exact h1 m, h2⟩
  ·cases a with
   | arr k r len ws =>
    show ieLit len (arrZ k r ws (getNK rest) n K N) N = N ∨ ∃ v, _ ∧ ieLit len (arrZ k r ws (getNK rest) n K N) N = K v
    cases len <;> try exact .inl rfl
    rename_i z
    cases z with
    | negSucc z => exact .inl rfl
    | ofNat l =>
     show yes (Nat.ble (Nat.succ n) l) (getWK k r ws n K N) (getNK rest (Nat.sub n l) K N) = N ∨ ∃ v, _ ∧ yes (Nat.ble (Nat.succ n) l) (getWK k r ws n K N) (getNK rest (Nat.sub n l) K N) = K v
     rw [yes_ble]
     by_cases h : Nat.succ n ≤ l
     ·rw [if_pos h]
      rcases getW_at k r ws n K N with h1 | ⟨v, h1, h2⟩
      ·exact .inl h1
      ·exact .inr ⟨v, fun m => by
        show getC (.cons (.arr k r (.lit (l : Int)) ws) rest) (.lit n) m = _
        rw [getC_arr, if_pos (show n < l from h), h1], h2⟩
     ·rw [if_neg h]
      rcases getNK_at rest (Nat.sub n l) K N with h1 | ⟨v, h1, h2⟩
      ·exact .inl h1
      ·exact .inr ⟨v, fun m => by
        show getC (.cons (.arr k r (.lit (l : Int)) ws) rest) (.lit n) m = _
        rw [getC_arr, if_neg (show ¬ n < l from h)]; exact h1 m, h2⟩
   | _ => first | exact .inl rfl | exact absurd rfl ha
 | .undef, _, _, _ | .opq _, _, _, _ | .int _ _, _, _, _ | .bool _, _, _, _ | .nilp, _, _, _ | .ptr _ _ _, _, _, _ | .nils, _, _, _ | .sli _ _ _ _ _, _, _, _ | .fn _ _, _, _, _ | .nilf, _, _, _ | .ifc _ _, _, _, _ | .nili, _, _, _ | .agg _, _, _, _ | .tup _, _, _, _ | .nil, _, _, _ | .arr _ _ _ _, _, _, _ | .wr _ _ _, _, _, _ | .rep _ _, _, _, _ => .inl rfl
noncomputable def hitE (a b c d : Nat) : Bool := Bool.rec (motive := fun _ => Bool) false (Nat.beq c d) (Nat.beq a b)
theorem hitE_eq (a b c d : Nat) : hitE a b c d = (Nat.beq a b && Nat.beq c d) := by unfold hitE; cases Nat.beq a b <;> rfl
abbrev EntK := Bool → IE → SV → R
noncomputable def findK (l : List Ent) : Nat → Nat → EntK → R → R :=
 List.rec (motive := fun _ => Nat → Nat → EntK → R → R) (fun _ _ _ N => N)
  (fun x _ ih s k K N => Ent.rec (motive := fun _ => (Nat → Nat → EntK → R → R) → Nat → Nat → EntK → R → R) (fun s' k' ro _ b c ih s k K N => yes (hitE k' k s' s) (K ro b c) (ih s k K N)) x ih s k K N) l
theorem findK_eq (K : EntK) (N : R) (s k : Nat) : ∀ l : List Ent, findK l s k K N = match findE s k l with | some e => K e.ro e.base e.c | none => N
 | [] => rfl
 | x :: l => by
  obtain ⟨s', k', ro, t, b, c⟩ := x
  show yes (hitE k' k s' s) (K ro b c) (findK l s k K N) = match (cond (Nat.beq k' k && Nat.beq s' s) (some ⟨s', k', ro, t, b, c⟩) (findE s k l)) with | some e => K e.ro e.base e.c | none => N
  rw [hitE_eq, yes_eq, findK_eq K N s k l]
  cases Nat.beq k' k && Nat.beq s' s <;> rfl
noncomputable def litN (f : Nat → R) (g : R) (z : Int) : R := onNat z f g
noncomputable def ieNat (e : IE) (f : Nat → R) (g : R) : R := ieLit e (litN f g) g
theorem ieNat_eq (e : IE) (f : Nat → R) (g : R) : ieNat e f g = g ∨ ∃ n : Nat, e = .lit n ∧ ieNat e f g = f n := by
 cases e <;> try exact .inl rfl
 rename_i z
 cases z with
 | negSucc z => exact .inl rfl
 | ofNat n => exact .inr ⟨n, rfl, rfl⟩
noncomputable def base0 (g : R) (K : R) (n : Nat) : R := yes (Nat.beq n 0) K g
noncomputable def atE (g : R) (K : SV → R) (_ : Bool) (b : IE) (c : SV) : R := ieNat b (base0 g (K c)) g
noncomputable def heapOf (m : Mem) (s k : Nat) (K : EntK) (g : R) : R := Mem.rec (motive := fun _ => Nat → Nat → EntK → R → R) (fun _ h _ _ _ s k K g => findK h s k K g) m s k K g
theorem heapOf_eq (m : Mem) (s k : Nat) (K : EntK) (g : R) : heapOf m s k K g = match m.find s k with | some e => K e.ro e.base e.c | none => g := findK_eq K g s k m.heap
noncomputable def blockOfC (C : Ctx) (s k : Nat) (K : EntK) : R := Ctx.rec (motive := fun _ => Ctx → Nat → Nat → EntK → R) (fun _ _ _ _ _ m _ C s k K => heapOf m s k K (fb C)) C C s k K
theorem blockOfC_eq (C : Ctx) (s k : Nat) (K : EntK) : blockOfC C s k K = match C.m.find s k with | some e => K e.ro e.base e.c | none => fb C := heapOf_eq C.m s k K (fb C)
noncomputable def ptrN (C : Ctx) (K : Nat → Nat → Nat → R) (s k : Nat) (off : IE) : R := ieNat off (K s k) (fb C)
noncomputable def onPtrN (v : SV) (C : Ctx) (K : Nat → Nat → Nat → R) : R := onPtr v (ptrN C K) (fb C)
theorem onPtrN_eq (v : SV) (C : Ctx) (K : Nat → Nat → Nat → R) : onPtrN v C K = fb C ∨ ∃ s k n : Nat, v = .ptr s k (.lit n) ∧ onPtrN v C K = K s k n := by
 cases v <;> try exact .inl rfl
 rename_i s k off
 rcases ieNat_eq off (K s k) (fb C) with h | ⟨n, h1, h2⟩
 ·exact .inl h
 ·exact .inr ⟨s, k, n, by rw [h1], h2⟩
theorem place_lit (kn : Know) {e : Ent} (hb : e.base = .lit 0) (n : Nat) : place kn e (.lit n) = some (.lit n) := by
 unfold place
 rw [hb]
 have e1 : mkSub (.lit (n : Int)) (.lit 0) = .lit (n : Int) := by
  show IE.lit ((n : Int) + -0) = _
  congr 1 <;> omega
 rw [e1, if_pos]
 exact ⟨Int.le_refl _, (by show (0 : Int) ≤ (n : Int); omega)⟩
noncomputable def ld2 (C : Ctx) (n : Nat) (c : SV) : R := getNK c n (fin C) (fb C)
noncomputable def ld1 (C : Ctx) (s k n : Nat) : R := blockOfC C s k (atE (fb C) (ld2 C n))
noncomputable def ld0 (C : Ctx) (v : SV) : R := onPtrN v C (ld1 C)
noncomputable def ldK (x : CO) (C : Ctx) : R := opdC x C (ld0 C)
section
variable {P : Program} {T : Tab P} {cx : CX} {C : Ctx}
theorem atE_eq (g : R) (K : SV → R) (ro : Bool) (b : IE) (c : SV) : atE g K ro b c = g ∨ (b = .lit 0 ∧ atE g K ro b c = K c) := by
 rcases ieNat_eq b (base0 g (K c)) g with h | ⟨n, h1, h2⟩
 ·exact .inl h
 ·show ieNat b (base0 g (K c)) g = g ∨ (b = .lit 0 ∧ ieNat b (base0 g (K c)) g = K c)
  rw [h2]
  unfold base0
  rw [yes_beq]
  by_cases h0 : n = 0
  ·rw [if_pos h0]
   subst h0
   exact .inr ⟨h1, rfl⟩
  ·rw [if_neg h0]; exact .inl rfl
theorem ld_ok (h : Fits T cx C) {t : Nat} {x : Operand} (ho : C.o.op = .load t x) (ht : aggOf T t = some false) : ldK (coOf x) C = fb C := by
 unfold ldK
 rw [opdC_eq]
 unfold ld0
 rcases onPtrN_eq ((coOf x).of C.t) C (ld1 C) with e | ⟨s, k, n, hv, e⟩
 ·exact e
 ·rw [e]
  unfold ld1
  rw [blockOfC_eq]
  cases hf : C.m.find s k with
  | none => rfl
  | some en =>
   dsimp only
   rcases atE_eq (fb C) (ld2 C n) en.ro en.base en.c with e2 | ⟨hb, e2⟩
   ·exact e2
   ·rw [e2]
    unfold ld2
    rcases getNK_at en.c n (fin C) (fb C) with e3 | ⟨v, hg, e3⟩
    ·exact e3
    ·rw [e3, ← finM_self]
     have ha : appArgs T ⟨C.n, C.t⟩ C.o = none := by unfold appArgs; rw [ho]
     refine h.val ha ?_
     have hx : opd ⟨C.n, C.t⟩ x = some (.ptr s k (.lit n)) := by rw [coOf_ok (by rw [hv]; exact fun e => (by cases e)), hv]
     unfold opS
     rw [ho]
     dsimp only
     rw [hx]
     dsimp only
     unfold valX
     refine bind_one (a := v) (m' := C.m) ?_
     unfold loadS
     dsimp only
     rw [bind_one (a := en) (m' := C.m) (by unfold findX; rw [hf]; rfl)]
     unfold withKnow
     dsimp only
     rw [place_lit _ hb, bind_one (a := IE.lit n) (m' := C.m) rfl, ht]
     exact hg C.m
end
noncomputable def litW (K : Nat → R) (N : R) (z : Int) : R := onNat z K N
noncomputable def widK (a : SV) (K : Nat → R) (N : R) : R := SV.rec (motive := fun _ => (Nat → R) → R → R) (fun _ N => N) (fun _ _ N => N) (fun _ _ K _ => K 1) (fun _ K _ => K 1) (fun K _ => K 1) (fun _ _ _ K _ => K 1) (fun K _ => K 1) (fun _ _ _ _ _ K _ => K 1) (fun _ _ _ K _ => K 1) (fun K _ => K 1) (fun _ _ _ K _ => K 1) (fun K _ => K 1) (fun _ _ _ N => N) (fun _ _ _ N => N) (fun _ N => N) (fun _ _ _ _ _ N => N) (fun _ _ len _ _ K N => ieLit len (litW K N) N) (fun _ _ _ _ _ N => N) (fun _ _ _ _ N => N) a K N
theorem widK_at (a : SV) (K : Nat → R) (N : R) : widK a K N = N ∨ ∃ x, wd a = some x ∧ widK a K N = K x := by
 cases a <;> first | exact .inl rfl | exact .inr ⟨1, rfl, rfl⟩ | skip
 rename_i k r len ws
 cases len <;> try exact .inl rfl
 rename_i z
 cases z with
 | negSucc z => exact .inl rfl
 | ofNat l => exact .inr ⟨l, rfl, rfl⟩
noncomputable def consK (a : SV) (K : SV → R) (r : SV) : R := K (.cons a r)
abbrev TakeT := Nat → Nat → (SV → R) → R → R
noncomputable def take2 (a : SV) (ih : TakeT) (o n : Nat) (K : SV → R) (N : R) (x : Nat) : R :=
 yes (Nat.ble x o) (ih (Nat.sub o x) n K N) (yes (Nat.beq o 0) (yes (Nat.ble x n) (ih 0 (Nat.sub n x) (consK a K) N) N) N)
noncomputable def both0 (o n : Nat) : Bool := Bool.rec (motive := fun _ => Bool) false (Nat.beq n 0) (Nat.beq o 0)
theorem both0_eq (o n : Nat) : both0 o n = decide (o = 0 ∧ n = 0) := by
 unfold both0
 cases o with
 | zero => cases n with
  | zero => rfl
  | succ n => simp [Nat.beq]
 | succ o => simp [Nat.beq]
theorem yes_both0 (o n : Nat) (a b : R) : yes (both0 o n) a b = if o = 0 ∧ n = 0 then a else b := by
 rw [yes_eq]
 by_cases h : o = 0 ∧ n = 0
 ·rw [if_pos h, if_pos (by rw [both0_eq]; exact decide_eq_true h)]
 ·rw [if_neg h, if_neg (by rw [both0_eq]; simpa using h)]
noncomputable def takeK (c : SV) : TakeT :=
 SV.rec (motive := fun _ => TakeT)
  (fun _ _ _ N => N) (fun _ _ _ _ N => N) (fun _ _ _ _ _ N => N) (fun _ _ _ _ N => N) (fun _ _ _ N => N) (fun _ _ _ _ _ _ N => N) (fun _ _ _ N => N) (fun _ _ _ _ _ _ _ _ N => N)
  (fun _ _ _ _ _ _ N => N) (fun _ _ _ N => N) (fun _ _ _ _ _ _ N => N) (fun _ _ _ N => N) (fun _ _ _ _ _ N => N) (fun _ _ _ _ _ N => N)
  (fun o n K N => yes (both0 o n) (K .nil) N) (fun a _ _ ih o n K N => yes (both0 o n) (K .nil) (widK a (take2 a ih o n K N) N)) (fun _ _ _ _ _ _ _ _ N => N)
  (fun _ _ _ _ _ _ _ N => N) (fun _ _ _ _ _ _ N => N) c
theorem takeK_at : ∀ (c : SV) (o n : Nat) (K : SV → R) (N : R), takeK c o n K N = N ∨ ∃ r, takeC c o n = some r ∧ takeK c o n K N = K r
 | .nil, o, n, K, N => by
  show yes (both0 o n) (K .nil) N = N ∨ ∃ r, (if o = 0 ∧ n = 0 then some SV.nil else none) = some r ∧ yes (both0 o n) (K .nil) N = K r
  rw [yes_both0]
  by_cases h : o = 0 ∧ n = 0
  ·simp [h]
  ·simp [h]
 | .cons a rest, o, n, K, N => by
  show yes (both0 o n) (K .nil) (widK a (take2 a (takeK rest) o n K N) N) = N ∨ ∃ r, takeC (.cons a rest) o n = some r ∧ yes (both0 o n) (K .nil) (widK a (take2 a (takeK rest) o n K N) N) = K r
  rw [yes_both0]
  unfold takeC
  by_cases h : o = 0 ∧ n = 0
  ·simp [h]
  ·rw [if_neg h, if_neg h]
   rcases widK_at a (take2 a (takeK rest) o n K N) N with e | ⟨x, hx, e⟩
   ·exact .inl e
   ·rw [e, hx]
    unfold take2
    rw [yes_ble]
    dsimp only
    by_cases h1 : x ≤ o
    ·rw [if_pos h1, if_pos h1]
     exact takeK_at rest (o - x) n K N
    ·rw [if_neg h1, if_neg h1, yes_beq]
     by_cases h2 : o = 0
     ·rw [if_pos h2, yes_ble]
      by_cases h3 : x ≤ n
      ·rw [if_pos h3, if_pos ⟨h2, h3⟩]
       rcases takeK_at rest 0 (Nat.sub n x) (consK a K) N with e2 | ⟨r, hr, e2⟩
       ·exact .inl e2
       ·refine .inr ⟨.cons a r, ?_, e2⟩
        show (match takeC rest 0 (Nat.sub n x) with | some r => some (SV.cons a r) | none => none) = _
        rw [hr]
      ·rw [if_neg h3]; exact .inl rfl
     ·rw [if_neg h2]; exact .inl rfl
 | .undef, _, _, _, _ | .opq _, _, _, _, _ | .int _ _, _, _, _, _ | .bool _, _, _, _, _ | .nilp, _, _, _, _ | .ptr _ _ _, _, _, _, _ | .nils, _, _, _, _ | .sli _ _ _ _ _, _, _, _, _ | .fn _ _, _, _, _, _ | .nilf, _, _, _, _ | .ifc _ _, _, _, _, _ | .nili, _, _, _, _ | .agg _, _, _, _, _ | .tup _, _, _, _, _ | .arr _ _ _ _, _, _, _, _ | .wr _ _ _, _, _, _, _ | .rep _ _, _, _, _, _ => .inl rfl
noncomputable def finA (C : Ctx) (r : SV) : R := fin C (.agg r)
noncomputable def lda2 (C : Ctx) (z n : Nat) (c : SV) : R := takeK c n z (finA C) (fb C)
noncomputable def lda1 (C : Ctx) (z s k n : Nat) : R := blockOfC C s k (atE (fb C) (lda2 C z n))
noncomputable def lda0 (C : Ctx) (z : Nat) (v : SV) : R := onPtrN v C (lda1 C z)
noncomputable def ldaK (z : Nat) (x : CO) (C : Ctx) : R := opdC x C (lda0 C z)
theorem rowAt_lit {c r : SV} {z n : Nat} (h : takeC c n z = some r) (m : Mem) : rowAt c z (.lit n) m = some [(r, m)] := by
 unfold rowAt
 dsimp only
 rw [if_pos (by omega), Int.toNat_natCast, h]
 rfl
section
variable {P : Program} {T : Tab P} {cx : CX} {C : Ctx}
theorem lda_ok (h : Fits T cx C) {t z : Nat} {x : Operand} (ho : C.o.op = .load t x) (ht : aggOf T t = some true) (hz : sizeIn T t = some z) : ldaK z (coOf x) C = fb C := by
 unfold ldaK
 rw [opdC_eq]
 unfold lda0
 rcases onPtrN_eq ((coOf x).of C.t) C (lda1 C z) with e | ⟨s, k, n, hv, e⟩
 ·exact e
 ·rw [e]
  unfold lda1
  rw [blockOfC_eq]
  cases hf : C.m.find s k with
  | none => rfl
  | some en =>
   dsimp only
   rcases atE_eq (fb C) (lda2 C z n) en.ro en.base en.c with e2 | ⟨hb, e2⟩
   ·exact e2
   ·rw [e2]
    unfold lda2
    rcases takeK_at en.c n z (finA C) (fb C) with e3 | ⟨r, hg, e3⟩
    ·exact e3
    ·rw [e3]
     show fin C (.agg r) = _
     rw [← finM_self]
     have ha : appArgs T ⟨C.n, C.t⟩ C.o = none := by unfold appArgs; rw [ho]
     refine h.val ha ?_
     have hx : opd ⟨C.n, C.t⟩ x = some (.ptr s k (.lit n)) := by rw [coOf_ok (by rw [hv]; exact fun e => (by cases e)), hv]
     unfold opS
     rw [ho]
     dsimp only
     rw [hx]
     dsimp only
     unfold valX
     refine bind_one (a := SV.agg r) (m' := C.m) ?_
     unfold loadS
     dsimp only
     rw [bind_one (a := en) (m' := C.m) (by unfold findX; rw [hf]; rfl)]
     unfold withKnow
     dsimp only
     rw [place_lit _ hb, bind_one (a := IE.lit n) (m' := C.m) rfl, ht]
     dsimp only
     rw [hz]
     dsimp only
     rw [bind_one (rowAt_lit hg C.m)]
     rfl
end
end Go.Sx
namespace Go.Sx
open Go
theorem widK_lo (a : SV) (K : Nat → R) (N : R) : widK a K N = N ∨ ∃ x : Nat, (∀ kn, oneLo kn a = x) ∧ wd a = some x ∧ widK a K N = K x := by
 cases a <;> first | exact .inl rfl | exact .inr ⟨1, fun _ => rfl, rfl, rfl⟩ | skip
 rename_i k r len ws
 cases len <;> try exact .inl rfl
 rename_i z
 cases z with
 | negSucc z => exact .inl rfl
 | ofNat l => exact .inr ⟨l, fun kn => by
   show (if 0 ≤ (rng kn.facts (.lit (l : Int))).1 then (rng kn.facts (.lit (l : Int))).1 else 0) = _
   rw [if_pos (by show (0 : Int) ≤ (l : Int); omega)]; rfl, rfl, rfl⟩
theorem oneLo_nonneg (kn : Know) (a : SV) : 0 ≤ oneLo kn a := by
 unfold oneLo
 split
 ·split <;> omega
 ·split <;> omega
theorem wdLo_nonneg (kn : Know) : ∀ c : SV, 0 ≤ wdLo kn c
 | .cons a r => by
  have h1 := oneLo_nonneg kn a
  have h2 := wdLo_nonneg kn r
  show 0 ≤ oneLo kn a + wdLo kn r
  omega
 | .undef | .opq _ | .int _ _ | .bool _ | .nilp | .ptr _ _ _ | .nils | .sli _ _ _ _ _ | .fn _ _ | .nilf | .ifc _ _ | .nili | .agg _ | .tup _ | .arr _ _ _ _ | .wr _ _ _ | .rep _ _ => Int.le_refl _
 | .nil => Int.le_refl _
theorem takeK_lo : ∀ (c : SV) (o n : Nat) (K : SV → R) (N : R), takeK c o n K N = N ∨ ∃ r, takeC c o n = some r ∧ takeK c o n K N = K r ∧ ∀ kn, ((o + n : Nat) : Int) ≤ wdLo kn c
 | .nil, o, n, K, N => by
  show yes (both0 o n) (K .nil) N = N ∨ ∃ r, (if o = 0 ∧ n = 0 then some SV.nil else none) = some r ∧ yes (both0 o n) (K .nil) N = K r ∧ _
  rw [yes_both0]
  by_cases h : o = 0 ∧ n = 0
  ·refine .inr ⟨.nil, by rw [if_pos h], by rw [if_pos h], fun kn => ?_⟩
   rw [h.1, h.2]; exact wdLo_nonneg kn _
  ·simp [h]
 | .cons a rest, o, n, K, N => by
  show yes (both0 o n) (K .nil) (widK a (take2 a (takeK rest) o n K N) N) = N ∨ ∃ r, takeC (.cons a rest) o n = some r ∧ yes (both0 o n) (K .nil) (widK a (take2 a (takeK rest) o n K N) N) = K r ∧ ∀ kn, ((o + n : Nat) : Int) ≤ wdLo kn (.cons a rest)
  rw [yes_both0]
  unfold takeC
  by_cases h : o = 0 ∧ n = 0
  ·rw [if_pos h, if_pos h]
   refine .inr ⟨.nil, rfl, rfl, fun kn => ?_⟩
   rw [h.1, h.2]; exact wdLo_nonneg kn _
  ·rw [if_neg h, if_neg h]
   rcases widK_lo a (take2 a (takeK rest) o n K N) N with e | ⟨x, hlo, hx, e⟩
   ·exact .inl e
   ·rw [e, hx]
    unfold take2
    rw [yes_ble]
    dsimp only
    by_cases h1 : x ≤ o
    ·rw [if_pos h1, if_pos h1]
     rcases takeK_lo rest (o - x) n K N with e2 | ⟨r, hr, e2, hl⟩
     ·exact .inl e2
     ·refine .inr ⟨r, hr, e2, fun kn => ?_⟩
      have := hl kn
      show _ ≤ oneLo kn a + wdLo kn rest
      rw [hlo kn]; omega
    ·rw [if_neg h1, if_neg h1, yes_beq]
     by_cases h2 : o = 0
     ·rw [if_pos h2, yes_ble]
      by_cases h3 : x ≤ n
      ·rw [if_pos h3, if_pos ⟨h2, h3⟩]
       rcases takeK_lo rest 0 (Nat.sub n x) (consK a K) N with e2 | ⟨r, hr, e2, hl⟩
       ·exact .inl e2
       ·refine .inr ⟨.cons a r, ?_, e2, fun kn => ?_⟩
        ·show (match takeC rest 0 (Nat.sub n x) with | some r => some (SV.cons a r) | none => none) = _
         rw [hr]
        ·have := hl kn
         show _ ≤ oneLo kn a + wdLo kn rest
         rw [hlo kn]
         have e3 : Nat.sub n x = n - x := rfl
         rw [e3] at this
         omega
      ·rw [if_neg h3]; exact .inl rfl
     ·rw [if_neg h2]; exact .inl rfl
 | .undef, _, _, _, _ | .opq _, _, _, _, _ | .int _ _, _, _, _, _ | .bool _, _, _, _, _ | .nilp, _, _, _, _ | .ptr _ _ _, _, _, _, _ | .nils, _, _, _, _ | .sli _ _ _ _ _, _, _, _, _ | .fn _ _, _, _, _, _ | .nilf, _, _, _, _ | .ifc _ _, _, _, _, _ | .nili, _, _, _, _ | .agg _, _, _, _, _ | .tup _, _, _, _, _ | .arr _ _ _ _, _, _, _, _ | .wr _ _ _, _, _, _, _ | .rep _ _, _, _, _, _ => .inl rfl
abbrev DropT := SV → Nat → (SV → R) → R
noncomputable def keepW (i y : IE) (K : SV → R) (r : SV) : R := K (.wr i y r)
noncomputable def dropN (i y : IE) (r : SV) (ih : DropT) (n : Nat) (K : SV → R) (p : Nat) : R := yes (Nat.beq p n) (ih r n K) (ih r n (keepW i y K))
noncomputable def dropI (i y : IE) (r : SV) (ih : DropT) (n : Nat) (K : SV → R) : R := ieNat i (dropN i y r ih n K) (ih r n (keepW i y K))
noncomputable def dropK (ws : SV) : DropT := SV.rec (motive := fun _ => DropT) (fun v _ K => K v) (fun _ v _ K => K v) (fun _ _ v _ K => K v) (fun _ v _ K => K v) (fun v _ K => K v) (fun _ _ _ v _ K => K v) (fun v _ K => K v) (fun _ _ _ _ _ v _ K => K v) (fun _ _ _ v _ K => K v) (fun v _ K => K v) (fun _ _ _ v _ K => K v) (fun v _ K => K v) (fun _ _ v _ K => K v) (fun _ _ v _ K => K v) (fun v _ K => K v) (fun _ _ _ _ v _ K => K v) (fun _ _ _ _ _ v _ K => K v) (fun i y r ih _ n K => dropI i y r ih n K) (fun _ _ _ v _ K => K v) ws
theorem dropW_wr (idx i y : IE) (r : SV) : dropW idx (.wr i y r) = if i = idx then dropW idx r else .wr i y (dropW idx r) := rfl
theorem dropK_eq : ∀ (ws : SV) (n : Nat) (K : SV → R), dropK ws ws n K = K (dropW (.lit n) ws)
 | .wr i y r, n, K => by
  show ieNat i (dropN i y r (dropK r) n K) (dropK r r n (keepW i y K)) = _
  have key : dropK r r n (keepW i y K) = K (.wr i y (dropW (.lit n) r)) := dropK_eq r n (keepW i y K)
  rcases ieNat_eq i (dropN i y r (dropK r) n K) (dropK r r n (keepW i y K)) with e | ⟨p, hp, e⟩
  ·rw [e, key, dropW_wr]
   by_cases h : i = .lit n
   ·subst h
    have e' : ieNat (.lit (n : Int)) (dropN (.lit n) y r (dropK r) n K) (dropK r r n (keepW (.lit n) y K)) = dropN (.lit n) y r (dropK r) n K n := rfl
    have e2 : dropN (.lit n) y r (dropK r) n K n = dropK r r n K := by unfold dropN; rw [yes_beq, if_pos rfl]
    rw [if_pos rfl, ← dropK_eq r n K, ← e2, ← e', e, key]
   ·rw [if_neg h]
  ·rw [e]
   unfold dropN
   rw [yes_beq]
   subst hp
   rw [dropW_wr]
   by_cases h : p = n
   ·rw [if_pos h, if_pos (by rw [h]), dropK_eq r n K]
   ·rw [if_neg h, if_neg (by intro h2; injection h2 with h2; omega), key]
 | .undef, _, _ | .opq _, _, _ | .int _ _, _, _ | .bool _, _, _ | .nilp, _, _ | .ptr _ _ _, _, _ | .nils, _, _ | .sli _ _ _ _ _, _, _ | .fn _ _, _, _ | .nilf, _, _ | .ifc _ _, _, _ | .nili, _, _ | .agg _, _, _ | .tup _, _, _ | .arr _ _ _ _, _, _ | .rep _ _, _, _ => rfl
 | .nil, _, _ => rfl
 | .cons _ _, _, _ => rfl
noncomputable def onNil (v : SV) (a b : R) : R := SV.rec (motive := fun _ => R → R → R) (fun _ b => b) (fun _ _ b => b) (fun _ _ _ b => b) (fun _ _ b => b) (fun _ b => b) (fun _ _ _ _ b => b) (fun _ b => b) (fun _ _ _ _ _ _ b => b) (fun _ _ _ _ b => b) (fun _ b => b) (fun _ _ _ _ b => b) (fun _ b => b) (fun _ _ _ b => b) (fun _ _ _ b => b) (fun a _ => a) (fun _ _ _ _ _ b => b) (fun _ _ _ _ _ _ b => b) (fun _ _ _ _ _ b => b) (fun _ _ _ _ b => b) v a b
theorem onNil_eq (v : SV) (a b : R) : onNil v a b = if v = .nil then a else b := by cases v <;> rfl
noncomputable def sel2 (r n r' : Nat) (A B : R) (p : Nat) : R := yes (Nat.beq p n) (yes (Nat.beq r' r) (yes (Nat.beq r 0) B A) B) B
noncomputable def sel1 (r n : Nat) (A B : R) (r' : Nat) (i : IE) : R := ieNat i (sel2 r n r' A B) B
noncomputable def isSelK (e : IE) (r n : Nat) (A B : R) : R := ieSel e (sel1 r n A B) B
theorem isSelK_eq (e : IE) (r n : Nat) (A B : R) : isSelK e r n A B = if e = .sel r (.lit n) ∧ r ≠ 0 then A else B := by
 unfold isSelK
 cases e <;> try (rw [if_neg (by intro h; cases h.1)]; rfl)
 rename_i r' i
 show ieNat i (sel2 r n r' A B) B = _
 by_cases hi : ∃ p : Nat, i = .lit p
 ·obtain ⟨p, rfl⟩ := hi
  show sel2 r n r' A B p = _
  unfold sel2
  rw [yes_beq, yes_beq, yes_beq]
  by_cases h1 : p = n
  ·by_cases h2 : r' = r
   ·by_cases h3 : r = 0
    ·rw [if_pos h1, if_pos h2, if_pos h3, if_neg (fun h => h.2 h3)]
    ·rw [if_pos h1, if_pos h2, if_neg h3, if_pos ⟨by rw [h1, h2], h3⟩]
   ·rw [if_pos h1, if_neg h2, if_neg (by intro h; injection h.1 with h4; exact h2 h4)]
  ·rw [if_neg h1, if_neg (by intro h; injection h.1 with _ h4; injection h4 with h4; omega)]
 ·rw [if_neg (by intro h; injection h.1 with _ h4; exact hi ⟨n, h4⟩)]
  rcases ieNat_eq i (sel2 r n r' A B) B with e | ⟨p, hp, _⟩
  ·exact e
  ·exact absurd ⟨p, hp⟩ hi
noncomputable def addW1 (r n : Nat) (x : IE) (K : SV → R) (ws : SV) : R := onNil ws (isSelK x r n (K .nil) (K (.wr (.lit (.ofNat n)) x ws))) (K (.wr (.lit (.ofNat n)) x ws))
noncomputable def addWN (r : Nat) (x : IE) (ws : SV) (K : SV → R) (n : Nat) : R := dropK ws ws n (addW1 r n x K)
noncomputable def addWK (r n : Nat) (x : IE) (ws : SV) (K : SV → R) : R := forceN n (addWN r x ws K)
theorem addWK_eq (r n : Nat) (x : IE) (ws : SV) (K : SV → R) : addWK r n x ws K = K (addW r (.lit n) x ws) := by
 unfold addWK
 rw [forceN_eq]
 unfold addWN
 rw [dropK_eq]
 unfold addW1 addW
 rw [onNil_eq]
 by_cases h : dropW (.lit n) ws = .nil
 ·rw [if_pos h, isSelK_eq]
  by_cases h2 : x = .sel r (.lit n) ∧ r ≠ 0
  ·rw [if_pos h2, if_pos ⟨h, h2⟩]
  ·rw [if_neg h2, if_neg (fun e => h2 e.2)]; rfl
 ·rw [if_neg h, if_neg (fun e => h e.1)]; rfl
abbrev SetT := Nat → SV → (SV → R) → R → R
noncomputable def arrPut (k : IntKind) (r : Nat) (len : IE) (rest : SV) (K : SV → R) (ws : SV) : R := K (.cons (.arr k r len ws) rest)
noncomputable def arrSet (k : IntKind) (r : Nat) (len : IE) (ws rest : SV) (n : Nat) (K : SV → R) (N : R) (k' : IntKind) (e : IE) : R := yes (Nat.beq (kindNo k') (kindNo k)) (addWK r n e ws (arrPut k r len rest K)) N
noncomputable def arrS1 (k : IntKind) (r : Nat) (len : IE) (ws rest : SV) (ih : SetT) (n : Nat) (x : SV) (K : SV → R) (N : R) (l : Nat) : R :=
 yes (Nat.ble (Nat.succ n) l) (onInt x (arrSet k r len ws rest n K N) N) (ih (Nat.sub n l) x (consK (.arr k r len ws) K) N)
noncomputable def arrS (k : IntKind) (r : Nat) (len : IE) (ws rest : SV) (ih : SetT) (n : Nat) (x : SV) (K : SV → R) (N : R) : R := ieNat len (arrS1 k r len ws rest ih n x K N) N
noncomputable def cellS (a rest : SV) (ih : SetT) (n : Nat) (x : SV) (K : SV → R) (N : R) : R := yes (Nat.beq n 0) (K (.cons x rest)) (ih (Nat.pred n) x (consK a K) N)
noncomputable def setCell (a rest : SV) (ih : SetT) (n : Nat) (x : SV) (K : SV → R) (N : R) : R :=
 SV.rec (motive := fun _ => SV → SV → SetT → Nat → SV → (SV → R) → R → R) (fun _ _ _ _ _ _ N => N) (fun _ _ _ _ _ _ _ N => N) (fun _ _ v rest ih n x K N => cellS v rest ih n x K N) (fun _ v rest ih n x K N => cellS v rest ih n x K N) (fun v rest ih n x K N => cellS v rest ih n x K N) (fun _ _ _ v rest ih n x K N => cellS v rest ih n x K N) (fun v rest ih n x K N => cellS v rest ih n x K N) (fun _ _ _ _ _ v rest ih n x K N => cellS v rest ih n x K N) (fun _ _ _ v rest ih n x K N => cellS v rest ih n x K N) (fun v rest ih n x K N => cellS v rest ih n x K N) (fun _ _ _ v rest ih n x K N => cellS v rest ih n x K N) (fun v rest ih n x K N => cellS v rest ih n x K N) (fun _ _ _ _ _ _ _ _ N => N) (fun _ _ _ _ _ _ _ _ N => N) (fun _ _ _ _ _ _ N => N) (fun _ _ _ _ _ _ _ _ _ _ N => N) (fun k r len ws _ _ rest ih n x K N => arrS k r len ws rest ih n x K N) (fun _ _ _ _ _ _ _ _ _ _ N => N) (fun _ _ _ _ _ _ _ _ _ N => N) a a rest ih n x K N
noncomputable def setNK (c : SV) : SetT :=
 SV.rec (motive := fun _ => SetT)
  (fun _ _ _ N => N) (fun _ _ _ _ N => N) (fun _ _ _ _ _ N => N) (fun _ _ _ _ N => N) (fun _ _ _ N => N) (fun _ _ _ _ _ _ N => N) (fun _ _ _ N => N) (fun _ _ _ _ _ _ _ _ N => N)
  (fun _ _ _ _ _ _ N => N) (fun _ _ _ N => N) (fun _ _ _ _ _ _ N => N) (fun _ _ _ N => N) (fun _ _ _ _ _ N => N) (fun _ _ _ _ _ N => N)
  (fun _ _ _ N => N) (fun a rest _ ih n x K N => setCell a rest ih n x K N) (fun _ _ _ _ _ _ _ _ N => N)
  (fun _ _ _ _ _ _ _ N => N) (fun _ _ _ _ _ _ N => N) c
theorem setC_lit (a rest x : SV) (ha : a.isC = true) (hx : x.isC = true) (n : Nat) (m : Mem) : setC (.cons a rest) (.lit n) x m = if n = 0 then some [(.cons x rest, m)] else X.bind (setC rest (.lit ((n - 1 : Nat) : Int)) x) (fun r => X.pure (.cons a r)) m := by
 have e : setC (.cons a rest) (.lit (n : Int)) x = (if a.isC && x.isC then
    if IE.lit (n : Int) = .lit 0 then X.pure (.cons x rest) else withKnow fun kn =>
     if 1 ≤ (rng kn.facts (.lit (n : Int))).1 then X.bind (setC rest (mkSub (.lit (n : Int)) (.lit 1)) x) fun rest' => X.pure (.cons a rest') else
     if 0 ≤ (rng kn.facts (.lit (n : Int))).1 then X.bind (branch (mkEq kn (.lit (n : Int)) (.lit 0))) fun b => if b then X.pure (.cons x rest) else X.bind (setC rest (mkSub (.lit (n : Int)) (.lit 1)) x) fun rest' => X.pure (.cons a rest') else X.none
   else X.none) := by cases a <;> first | rfl | cases ha
 rw [e, if_pos (by rw [ha, hx]; rfl)]
 cases n with
 | zero => rfl
 | succ n =>
  rw [if_neg (by intro h; injection h with h; omega)]
  unfold withKnow
  dsimp only
  rw [if_pos (by show (1 : Int) ≤ ((n + 1 : Nat) : Int); omega), lit_succ, if_neg (by omega)]
  rfl
theorem setC_arr (k : IntKind) (r l : Nat) (ws rest x : SV) (n : Nat) (m : Mem) : setC (.cons (.arr k r (.lit l) ws) rest) (.lit n) x m = if n < l then (match x with | .int k' e => if k' = k then some [(.cons (.arr k r (.lit l) (addW r (.lit n) e ws)) rest, m)] else none | _ => none) else X.bind (setC rest (.lit ((n - l : Nat) : Int)) x) (fun r' => X.pure (.cons (.arr k r (.lit l) ws) r')) m := by
 show (withKnow fun kn =>
   if 0 ≤ (rng kn.facts (.lit (n : Int))).1 then
    X.bind (branch (mkLt kn (.lit (n : Int)) (.lit l))) fun b => if b then (match x with
     | .int k' e => if k' = k then X.pure (SV.cons (.arr k r (.lit l) (addW r (.lit n) e ws)) rest) else X.none
     | _ => X.none) else
     withKnow fun kn => if 0 ≤ (rng kn.facts (.lit l)).1 then X.bind (setC rest (mkSub (.lit (n : Int)) (.lit l)) x) fun rest' => X.pure (SV.cons (.arr k r (.lit l) ws) rest') else X.none
   else X.none) m = _
 unfold withKnow
 dsimp only
 rw [if_pos (by show (0 : Int) ≤ (n : Int); omega), bind_one (m' := m) (a := decide ((n : Int) < l)) rfl]
 by_cases h : n < l
 ·rw [if_pos h, if_pos (by simpa using h)]
  cases x <;> try rfl
  rename_i k' e
  dsimp only
  by_cases hk : k' = k
  ·rw [if_pos hk, if_pos hk]; rfl
  ·rw [if_neg hk, if_neg hk]; rfl
 ·rw [if_neg h, if_neg (by simpa using h), if_pos (by show (0 : Int) ≤ (l : Int); omega)]
  rw [show mkSub (.lit (n : Int)) (.lit (l : Int)) = .lit ((n - l : Nat) : Int) by
   show IE.lit ((n : Int) + -(l : Int)) = _
   congr 1 <;> omega]
theorem setNK_at : ∀ (c : SV) (n : Nat) (x : SV) (K : SV → R) (N : R), x.isC = true → setNK c n x K N = N ∨ ∃ c', (∀ m, setC c (.lit n) x m = some [(c', m)]) ∧ (∀ kn, (n : Int) ≤ wdLo kn c) ∧ setNK c n x K N = K c'
 | .cons a rest, n, x, K, N, hx => by
  show setCell a rest (setNK rest) n x K N = N ∨ ∃ c', _ ∧ _ ∧ setCell a rest (setNK rest) n x K N = K c'
  by_cases ha : a.isC = true
  ·have e : setCell a rest (setNK rest) n x K N = yes (Nat.beq n 0) (K (.cons x rest)) (setNK rest (Nat.pred n) x (consK a K) N) := by cases a <;> first | rfl | cases ha
   have hlo : ∀ kn, oneLo kn a = 1 := fun kn => by cases a <;> first | rfl | cases ha
   rw [e, yes_beq]
   by_cases h : n = 0
   ·rw [if_pos h]
    refine .inr ⟨.cons x rest, fun m => by rw [setC_lit a rest x ha hx, if_pos h], fun kn => ?_, rfl⟩
    rw [h]; exact wdLo_nonneg kn _
   ·rw [if_neg h]
    rcases setNK_at rest (Nat.pred n) x (consK a K) N hx with h1 | ⟨v, h1, h3, h2⟩
    ·exact .inl h1
    ·refine .inr ⟨.cons a v, fun m => by rw [setC_lit a rest x ha hx, if_neg h]; exact bind_one (f := fun r => X.pure (SV.cons a r)) (h1 m), fun kn => ?_, h2⟩
     have := h3 kn
     show _ ≤ oneLo kn a + wdLo kn rest
     rw [hlo kn]
     have e3 : Nat.pred n = n - 1 := rfl
     rw [e3] at this
     omega
  ·cases a with
   | arr k r len ws =>
    show ieNat len (arrS1 k r len ws rest (setNK rest) n x K N) N = N ∨ ∃ c', _ ∧ _ ∧ ieNat len (arrS1 k r len ws rest (setNK rest) n x K N) N = K c'
    rcases ieNat_eq len (arrS1 k r len ws rest (setNK rest) n x K N) N with e | ⟨l, hl, e⟩
    ·exact .inl e
    ·subst hl
     have hlo : ∀ kn, oneLo kn (.arr k r (.lit l) ws) = l := fun kn => by
      show (if 0 ≤ (rng kn.facts (.lit (l : Int))).1 then (rng kn.facts (.lit (l : Int))).1 else 0) = _
      rw [if_pos (by show (0 : Int) ≤ (l : Int); omega)]; rfl
     rw [e]
     unfold arrS1
     rw [yes_ble]
     by_cases h : Nat.succ n ≤ l
     ·rw [if_pos h]
      cases x with
      | int k' y =>
       show yes (Nat.beq (kindNo k') (kindNo k)) (addWK r n y ws (arrPut k r (.lit l) rest K)) N = N ∨ ∃ c', _ ∧ _ ∧ yes (Nat.beq (kindNo k') (kindNo k)) (addWK r n y ws (arrPut k r (.lit l) rest K)) N = K c'
       rw [yes_eq]
       split
       ·rename_i hk
        have hk := kindNo_eq hk
        subst hk
        rw [addWK_eq]
        refine .inr ⟨_, fun m => by rw [setC_arr, if_pos (show n < l from h)]; dsimp only; rw [if_pos rfl], fun kn => ?_, rfl⟩
        have := wdLo_nonneg kn rest
        show _ ≤ oneLo kn _ + wdLo kn rest
        rw [hlo kn]
        have : n < l := h
        omega
       ·exact .inl rfl
      | _ => exact .inl rfl
     ·rw [if_neg h]
      rcases setNK_at rest (Nat.sub n l) x (consK (.arr k r (.lit l) ws) K) N hx with h1 | ⟨v, h1, h3, h2⟩
      ·exact .inl h1
      ·refine .inr ⟨.cons (.arr k r (.lit l) ws) v, fun m => by rw [setC_arr, if_neg (show ¬ n < l from h)]; exact bind_one (f := fun r' => X.pure (SV.cons (.arr k r (.lit l) ws) r')) (h1 m), fun kn => ?_, h2⟩
       have := h3 kn
       show _ ≤ oneLo kn _ + wdLo kn rest
       rw [hlo kn]
       have e3 : Nat.sub n l = n - l := rfl
       rw [e3] at this
       have : ¬ n < l := h
       omega
   | _ => first | exact .inl rfl | exact absurd rfl ha
 | .undef, _, _, _, _, _ | .opq _, _, _, _, _, _ | .int _ _, _, _, _, _, _ | .bool _, _, _, _, _, _ | .nilp, _, _, _, _, _ | .ptr _ _ _, _, _, _, _, _ | .nils, _, _, _, _, _ | .sli _ _ _ _ _, _, _, _, _, _ | .fn _ _, _, _, _, _, _ | .nilf, _, _, _, _, _ | .ifc _ _, _, _, _, _, _ | .nili, _, _, _, _, _ | .agg _, _, _, _, _, _ | .tup _, _, _, _, _, _ | .arr _ _ _ _, _, _, _, _, _ | .wr _ _ _, _, _, _, _, _ | .rep _ _, _, _, _, _, _ => .inl rfl
 | .nil, _, _, _, _, _ => .inl rfl
noncomputable def consE (x : Ent) (K : List Ent → R) (r : List Ent) : R := K (x :: r)
noncomputable def updF (l : List Ent) : Nat → Nat → SV → (List Ent → R) → R :=
 List.rec (motive := fun _ => Nat → Nat → SV → (List Ent → R) → R) (fun _ _ _ K => K [])
  (fun x r ih s k c K => Ent.rec (motive := fun _ => Ent → List Ent → (Nat → Nat → SV → (List Ent → R) → R) → Nat → Nat → SV → (List Ent → R) → R)
   (fun s' k' ro t b _ x r ih s k c K => yes (hitE k' k s' s) (K (⟨s', k', ro, t, b, c⟩ :: r)) (ih s k c (consE x K))) x x r ih s k c K) l
theorem updF_eq (s k : Nat) (c : SV) : ∀ (l : List Ent) (K : List Ent → R), updF l s k c K = K (upd1 s k c l)
 | [], _ => rfl
 | x :: l, K => by
  obtain ⟨s', k', ro, t, b, c'⟩ := x
  show yes (hitE k' k s' s) (K (⟨s', k', ro, t, b, c⟩ :: l)) (updF l s k c (consE ⟨s', k', ro, t, b, c'⟩ K)) = _
  rw [hitE_eq, yes_eq, updF_eq s k c l]
  show _ = K (if s' = s ∧ k' = k then (⟨s', k', ro, t, b, c⟩ : Ent) :: l else ⟨s', k', ro, t, b, c'⟩ :: upd1 s k c l)
  by_cases h : s' = s ∧ k' = k
  ·rw [if_pos h, if_pos (by rw [h.1, h.2, Nat.beq_refl, Nat.beq_refl]; rfl)]
  ·rw [if_neg h, if_neg (by
    intro e
    simp only [Bool.and_eq_true] at e
    exact h ⟨Nat.eq_of_beq_eq_true e.2, Nat.eq_of_beq_eq_true e.1⟩)]
   rfl
noncomputable def put1 (C : Ctx) (v : SV) (kn : Know) (sg nx nv : Nat) (h : List Ent) : R := finM C v ⟨kn, h, sg, nx, nv⟩
noncomputable def putC (C : Ctx) (s k : Nat) (c : SV) : R :=
 Ctx.rec (motive := fun _ => Ctx → Nat → Nat → SV → R) (fun _ _ _ _ _ m _ C s k c => Mem.rec (motive := fun _ => Ctx → Nat → Nat → SV → R) (fun kn h sg nx nv C s k c => updF h s k c (put1 C .undef kn sg nx nv)) m C s k c) C C s k c
theorem putC_eq (C : Ctx) (s k : Nat) (c : SV) : putC C s k c = finM C .undef { C.m with heap := upd1 s k c C.m.heap } := by
 show updF C.m.heap s k c (put1 C .undef C.m.know C.m.seg C.m.next C.m.nv) = _
 rw [updF_eq]
 rfl
theorem putX_run (s k : Nat) (c : SV) (m : Mem) : putX s k c m = some [((), { m with heap := upd1 s k c m.heap })] := by
 obtain ⟨kn, h, sg, nx, nv⟩ := m
 show nfS c (fun c => upd1K s k c h fun h' => some [((), (⟨kn, h', sg, nx, nv⟩ : Mem))]) = _
 rw [nfS_eq, upd1K_eq]
noncomputable def st6 (C : Ctx) (s k n : Nat) (x c : SV) : R := setNK c n x (putC C s k) (fb C)
noncomputable def st5 (C : Ctx) (s k n : Nat) (x : SV) (ro : Bool) (b : IE) (c : SV) : R := yes ro (fb C) (atE (fb C) (st6 C s k n x) ro b c)
noncomputable def st4 (C : Ctx) (s k n : Nat) (x : SV) : R := cOr x (blockOfC C s k (st5 C s k n x)) (fb C)
noncomputable def st3 (v : CO) (C : Ctx) (s k n : Nat) : R := opdC v C (st4 C s k n)
noncomputable def st2 (v : CO) (C : Ctx) (p : SV) : R := onPtrN p C (st3 v C)
noncomputable def stK (x v : CO) (C : Ctx) : R := opdC x C (st2 v C)
theorem rowPut_one {c x c' : SV} {n : Nat} {m : Mem} (hx : x.isC = true) (h : setC c (.lit n) x m = some [(c', m)]) : rowPut c (.cons x .nil) 1 (.lit n) m = some [(c', m)] := by
 unfold rowPut
 rw [if_pos (by show x.isC = true; exact hx)]
 unfold setN
 rw [if_pos hx, bind_one h]
 rfl
section
variable {P : Program} {T : Tab P} {cx : CX} {C : Ctx}
theorem storeS_run {t z s k n : Nat} {v vc c' : SV} {en : Ent} {m : Mem} (hf : m.find s k = some en) (hr : en.ro = false) (hb : en.base = .lit 0) (hz : sizeIn T t = some z) (hv : cellsS v = some vc) (hw : wd vc = some z)
  (hlo : ∀ kn, (n : Int) ≤ wdLo kn en.c) (hp : rowPut en.c vc z (.lit n) m = some [(c', m)]) : storeS T t (.ptr s k (.lit n)) v m = some [((), { m with heap := upd1 s k c' m.heap })] := by
 unfold storeS
 dsimp only
 rw [bind_one (a := en) (m' := m) (by unfold findX; rw [hf]; rfl)]
 unfold withKnow
 dsimp only
 rw [place_lit _ hb, bind_one (a := IE.lit n) (m' := m) rfl, hv, hz]
 dsimp only
 rw [if_pos ⟨hr, hw, by
  unfold fitsIn
  simp only [Bool.and_eq_true, decide_eq_true_eq]
  exact ⟨by show (0 : Int) ≤ (n : Int); omega, hlo _⟩⟩, bind_one hp]
 obtain ⟨_, h1, h2⟩ := Mem.find_ok hf
 rw [h1, h2]
 exact putX_run s k c' m
theorem st_fin (h : Fits T cx C) {t s k n : Nat} {x y : Operand} {v c' : SV} (ho : C.o.op = .store t x y) (hx : opd ⟨C.n, C.t⟩ x = some (.ptr s k (.lit n))) (hy : opd ⟨C.n, C.t⟩ y = some v)
  (hs : storeS T t (.ptr s k (.lit n)) v C.m = some [((), { C.m with heap := upd1 s k c' C.m.heap })]) : putC C s k c' = fb C := by
 rw [putC_eq]
 have ha : appArgs T ⟨C.n, C.t⟩ C.o = none := by unfold appArgs; rw [ho]
 refine h.skip ha ?_
 unfold opS
 rw [ho]
 dsimp only
 rw [hx, hy]
 dsimp only
 rw [bind_one hs]
 rfl
theorem st_ok (h : Fits T cx C) {t : Nat} {x y : Operand} (ho : C.o.op = .store t x y) (hz : sizeIn T t = some 1) : stK (coOf x) (coOf y) C = fb C := by
 unfold stK
 rw [opdC_eq]
 unfold st2
 rcases onPtrN_eq ((coOf x).of C.t) C (st3 (coOf y) C) with e | ⟨s, k, n, hv, e⟩
 ·exact e
 ·rw [e]
  unfold st3
  rw [opdC_eq]
  unfold st4
  rw [cOr_eq]
  split
  ·rename_i hc
   rw [blockOfC_eq]
   cases hf : C.m.find s k with
   | none => rfl
   | some en =>
    dsimp only
    unfold st5
    rw [yes_eq]
    split
    ·rfl
    ·rename_i hr
     have hr : en.ro = false := by simpa using hr
     rcases atE_eq (fb C) (st6 C s k n ((coOf y).of C.t)) en.ro en.base en.c with e2 | ⟨hb, e2⟩
     ·exact e2
     ·rw [e2]
      unfold st6
      rcases setNK_at en.c n ((coOf y).of C.t) (putC C s k) (fb C) hc with e3 | ⟨c', hg, hlo, e3⟩
      ·exact e3
      ·rw [e3]
       have hx : opd ⟨C.n, C.t⟩ x = some (.ptr s k (.lit n)) := by rw [coOf_ok (by rw [hv]; exact fun e => (by cases e)), hv]
       have hy : opd ⟨C.n, C.t⟩ y = some ((coOf y).of C.t) := coOf_ok (by intro e; rw [e] at hc; cases hc)
       refine st_fin h ho hx hy (storeS_run hf hr hb hz (vc := .cons ((coOf y).of C.t) .nil) ?_ ?_ hlo (rowPut_one hc (hg C.m)))
       ·revert hc; cases (coOf y).of C.t <;> intro hc <;> first | rfl | cases hc
       ·revert hc; cases (coOf y).of C.t <;> intro hc <;> first | rfl | cases hc
  ·rfl
end
abbrev FlatT := Nat → (SV → R) → R → R
noncomputable def flat1 (a : SV) (ih : FlatT) (n : Nat) (K : SV → R) (N : R) (x : Nat) : R := yes (Nat.ble x n) (ih (Nat.sub n x) (consK a K) N) N
noncomputable def flatK (c : SV) : FlatT := SV.rec (motive := fun _ => FlatT) (fun _ _ N => N) (fun _ _ _ N => N) (fun _ _ _ _ N => N) (fun _ _ _ N => N) (fun _ _ N => N) (fun _ _ _ _ _ N => N) (fun _ _ N => N) (fun _ _ _ _ _ _ _ N => N) (fun _ _ _ _ _ N => N) (fun _ _ N => N) (fun _ _ _ _ _ N => N) (fun _ _ N => N) (fun _ _ _ _ N => N) (fun _ _ _ _ N => N) (fun n K N => yes (Nat.beq n 0) (K .nil) N) (fun a _ _ ih n K N => widK a (flat1 a ih n K N) N) (fun _ _ _ _ _ _ _ N => N) (fun _ _ _ _ _ _ N => N) (fun _ _ _ _ _ N => N) c
theorem widK_flat (a : SV) (K : Nat → R) (N : R) : widK a K N = N ∨ ∃ x, (a.isC || (match a with | .arr _ _ _ _ => true | _ => false)) = true ∧ wd a = some x ∧ widK a K N = K x := by
 rcases widK_at a K N with e | ⟨x, h1, h2⟩
 ·exact .inl e
 ·cases a <;> first | exact .inl rfl | exact .inr ⟨x, rfl, h1, h2⟩
theorem flatK_at : ∀ (c : SV) (n : Nat) (K : SV → R) (N : R), flatK c n K N = N ∨ (flat c = true ∧ wd c = some n ∧ flatK c n K N = K c)
 | .nil, n, K, N => by
  show yes (Nat.beq n 0) (K .nil) N = N ∨ (_ ∧ _ ∧ yes (Nat.beq n 0) (K .nil) N = K .nil)
  rw [yes_beq]
  by_cases h : n = 0
  ·subst h; exact .inr ⟨rfl, rfl, by rw [if_pos rfl]⟩
  ·rw [if_neg h]; exact .inl rfl
 | .cons a r, n, K, N => by
  show widK a (flat1 a (flatK r) n K N) N = N ∨ (_ ∧ _ ∧ widK a (flat1 a (flatK r) n K N) N = K (.cons a r))
  rcases widK_flat a (flat1 a (flatK r) n K N) N with e | ⟨x, h1, h2, e⟩
  ·exact .inl e
  ·rw [e]
   unfold flat1
   rw [yes_ble]
   by_cases h : x ≤ n
   ·rw [if_pos h]
    rcases flatK_at r (Nat.sub n x) (consK a K) N with e2 | ⟨h3, h4, e2⟩
    ·exact .inl e2
    ·refine .inr ⟨?_, ?_, e2⟩
     ·unfold flat
      rw [h3, Bool.and_true]
      exact h1
     ·show (match wd a, wd r with | some x, some y => some (x + y) | _, _ => none) = _
      rw [h2, h4]
      show some (x + (n - x)) = _
      congr 1 <;> omega
   ·rw [if_neg h]; exact .inl rfl
 | .undef, _, _, _ | .opq _, _, _, _ | .int _ _, _, _, _ | .bool _, _, _, _ | .nilp, _, _, _ | .ptr _ _ _, _, _, _ | .nils, _, _, _ | .sli _ _ _ _ _, _, _, _ | .fn _ _, _, _, _ | .nilf, _, _, _ | .ifc _ _, _, _, _ | .nili, _, _, _ | .agg _, _, _, _ | .tup _, _, _, _ | .arr _ _ _ _, _, _, _ | .wr _ _ _, _, _, _ | .rep _ _, _, _, _ => .inl rfl
noncomputable def wdt1 (ih : Nat → (Nat → R) → R → R) (n : Nat) (K : Nat → R) (N : R) (x : Nat) : R := ih (Nat.add n x) K N
noncomputable def wdK (c : SV) : Nat → (Nat → R) → R → R := SV.rec (motive := fun _ => Nat → (Nat → R) → R → R) (fun _ _ N => N) (fun _ _ _ N => N) (fun _ _ _ _ N => N) (fun _ _ _ N => N) (fun _ _ N => N) (fun _ _ _ _ _ N => N) (fun _ _ N => N) (fun _ _ _ _ _ _ _ N => N) (fun _ _ _ _ _ N => N) (fun _ _ N => N) (fun _ _ _ _ _ N => N) (fun _ _ N => N) (fun _ _ _ _ N => N) (fun _ _ _ _ N => N) (fun n K _ => K n) (fun a _ _ ih n K N => widK a (wdt1 ih n K N) N) (fun _ _ _ _ _ _ _ N => N) (fun _ _ _ _ _ _ N => N) (fun _ _ _ _ _ N => N) c
theorem wdK_at : ∀ (c : SV) (n : Nat) (K : Nat → R) (N : R), wdK c n K N = N ∨ ∃ x, wd c = some x ∧ wdK c n K N = K (n + x)
 | .nil, n, K, N => .inr ⟨0, rfl, rfl⟩
 | .cons a r, n, K, N => by
  show widK a (wdt1 (wdK r) n K N) N = N ∨ ∃ x, _ ∧ widK a (wdt1 (wdK r) n K N) N = K (n + x)
  rcases widK_at a (wdt1 (wdK r) n K N) N with e | ⟨x, h1, e⟩
  ·exact .inl e
  ·rw [e]
   unfold wdt1
   rcases wdK_at r (Nat.add n x) K N with e2 | ⟨y, h2, e2⟩
   ·exact .inl e2
   ·refine .inr ⟨x + y, ?_, ?_⟩
    ·show (match wd a, wd r with | some x, some y => some (x + y) | _, _ => none) = _
     rw [h1, h2]
    ·rw [e2]
     show K (n + x + y) = _
     congr 1; omega
 | .undef, _, _, _ | .opq _, _, _, _ | .int _ _, _, _, _ | .bool _, _, _, _ | .nilp, _, _, _ | .ptr _ _ _, _, _, _ | .nils, _, _, _ | .sli _ _ _ _ _, _, _, _ | .fn _ _, _, _, _ | .nilf, _, _, _ | .ifc _ _, _, _, _ | .nili, _, _, _ | .agg _, _, _, _ | .tup _, _, _, _ | .arr _ _ _ _, _, _, _ | .wr _ _ _, _, _, _ | .rep _ _, _, _, _ => .inl rfl
noncomputable def appK (c : SV) : SV → SV → (SV → R) → R := SV.rec (motive := fun _ => SV → SV → (SV → R) → R) (fun v b K => K (.cons v b)) (fun _ v b K => K (.cons v b)) (fun _ _ v b K => K (.cons v b)) (fun _ v b K => K (.cons v b)) (fun v b K => K (.cons v b)) (fun _ _ _ v b K => K (.cons v b)) (fun v b K => K (.cons v b)) (fun _ _ _ _ _ v b K => K (.cons v b)) (fun _ _ _ v b K => K (.cons v b)) (fun v b K => K (.cons v b)) (fun _ _ _ v b K => K (.cons v b)) (fun v b K => K (.cons v b)) (fun _ _ v b K => K (.cons v b)) (fun _ _ v b K => K (.cons v b)) (fun _ b K => K b) (fun a r _ ih _ b K => ih r b (consK a K)) (fun _ _ _ _ _ v b K => K (.cons v b)) (fun _ _ _ _ v b K => K (.cons v b)) (fun _ _ _ v b K => K (.cons v b)) c
theorem appK_eq : ∀ (a b : SV) (K : SV → R), appK a a b K = K (appC a b)
 | .nil, _, _ => rfl
 | .cons a r, b, K => appK_eq r b (consK a K)
 | .undef, _, _ | .opq _, _, _ | .int _ _, _, _ | .bool _, _, _ | .nilp, _, _ | .ptr _ _ _, _, _ | .nils, _, _ | .sli _ _ _ _ _, _, _ | .fn _ _, _, _ | .nilf, _, _ | .ifc _ _, _, _ | .nili, _, _ | .agg _, _, _ | .tup _, _, _ | .arr _ _ _ _, _, _ | .wr _ _ _, _, _ | .rep _ _, _, _ => rfl
noncomputable def sa9 (C : Ctx) (s k : Nat) (x b : SV) : R := appK x x b (putC C s k)
noncomputable def sa8 (C : Ctx) (s k : Nat) (vc x y : SV) : R := appK vc vc y (sa9 C s k x)
noncomputable def sa7 (C : Ctx) (s k n z : Nat) (vc c : SV) (N : Nat) (x : SV) : R := takeK c (Nat.add n z) (Nat.sub N (Nat.add n z)) (sa8 C s k vc x) (fb C)
noncomputable def sa6 (C : Ctx) (s k n z : Nat) (vc c : SV) (N : Nat) : R := takeK c 0 n (sa7 C s k n z vc c N) (fb C)
noncomputable def sa5 (C : Ctx) (s k n z : Nat) (vc c : SV) : R := wdK c 0 (sa6 C s k n z vc c) (fb C)
noncomputable def sa4 (C : Ctx) (s k n z : Nat) (vc : SV) (ro : Bool) (b : IE) (c : SV) : R := yes ro (fb C) (atE (fb C) (sa5 C s k n z vc) ro b c)
noncomputable def sa3 (C : Ctx) (z s k n : Nat) (vc : SV) : R := blockOfC C s k (sa4 C s k n z vc)
noncomputable def sa2 (C : Ctx) (z s k n : Nat) (vc : SV) : R := flatK vc z (sa3 C z s k n) (fb C)
noncomputable def sa1 (C : Ctx) (z s k n : Nat) (v : SV) : R := onAgg v (sa2 C z s k n) (fb C)
noncomputable def sa0 (z : Nat) (v : CO) (C : Ctx) (s k n : Nat) : R := opdC v C (sa1 C z s k n)
noncomputable def saP (z : Nat) (v : CO) (C : Ctx) (p : SV) : R := onPtrN p C (sa0 z v C)
noncomputable def stAK (z : Nat) (x v : CO) (C : Ctx) : R := opdC x C (saP z v C)
theorem rowPut_row {c vc x y : SV} {n z N : Nat} {m : Mem} (hz : z ≠ 1) (hf : flat vc = true) (hw : wd vc = some z) (hN : wd c = some N) (hx : takeC c 0 n = some x) (hy : takeC c (n + z) (N - (n + z)) = some y) :
  rowPut c vc z (.lit n) m = some [(appC x (appC vc y), m)] := by
 have hs : single vc = false := by
  cases h : single vc with
  | false => rfl
  | true =>
   exfalso
   unfold single at h
   split at h
   ·rename_i a
    have : wd (SV.cons a .nil) = some 1 := by
     have e : wd a = some 1 := by cases a <;> first | rfl | cases h
     show (match wd a, wd .nil with | some x, some y => some (x + y) | _, _ => none) = _
     rw [e]; rfl
    rw [this] at hw
    cases hw
    exact hz rfl
   ·cases h
 unfold rowPut
 rw [if_neg (by rw [hs]; exact fun e => by cases e)]
 dsimp only
 rw [if_pos ⟨by omega, hf⟩, Int.toNat_natCast]
 unfold spliceC
 rw [hN]
 dsimp only
 rw [hx, hy]
 rfl
section
variable {P : Program} {T : Tab P} {cx : CX} {C : Ctx}
theorem sta_ok (h : Fits T cx C) {t z : Nat} {x y : Operand} (ho : C.o.op = .store t x y) (hz : sizeIn T t = some z) (h1 : z ≠ 1) : stAK z (coOf x) (coOf y) C = fb C := by
 unfold stAK
 rw [opdC_eq]
 unfold saP
 rcases onPtrN_eq ((coOf x).of C.t) C (sa0 z (coOf y) C) with e | ⟨s, k, n, hv, e⟩
 ·exact e
 ·rw [e]
  unfold sa0
  rw [opdC_eq]
  unfold sa1
  cases hw : (coOf y).of C.t <;> try rfl
  rename_i vc
  show sa2 C z s k n vc = _
  unfold sa2
  rcases flatK_at vc z (sa3 C z s k n) (fb C) with e2 | ⟨hfl, hwd, e2⟩
  ·exact e2
  ·rw [e2]
   unfold sa3
   rw [blockOfC_eq]
   cases hf : C.m.find s k with
   | none => rfl
   | some en =>
    dsimp only
    unfold sa4
    rw [yes_eq]
    split
    ·rfl
    ·rename_i hr
     have hr : en.ro = false := by simpa using hr
     rcases atE_eq (fb C) (sa5 C s k n z vc) en.ro en.base en.c with e3 | ⟨hb, e3⟩
     ·exact e3
     ·rw [e3]
      unfold sa5
      rcases wdK_at en.c 0 (sa6 C s k n z vc en.c) (fb C) with e4 | ⟨N, hN, e4⟩
      ·exact e4
      ·rw [e4]
       unfold sa6
       rcases takeK_lo en.c 0 n (sa7 C s k n z vc en.c (0 + N)) (fb C) with e5 | ⟨p, hp, e5, hlo⟩
       ·exact e5
       ·rw [e5]
        unfold sa7
        rcases takeK_at en.c (Nat.add n z) (Nat.sub (0 + N) (Nat.add n z)) (sa8 C s k vc p) (fb C) with e6 | ⟨q, hq, e6⟩
        ·exact e6
        ·rw [e6]
         unfold sa8
         rw [appK_eq]
         unfold sa9
         rw [appK_eq]
         have hx : opd ⟨C.n, C.t⟩ x = some (.ptr s k (.lit n)) := by rw [coOf_ok (by rw [hv]; exact fun e => (by cases e)), hv]
         have hy : opd ⟨C.n, C.t⟩ y = some (.agg vc) := by rw [coOf_ok (by rw [hw]; exact fun e => (by cases e)), hw]
         refine st_fin h ho hx hy (storeS_run hf hr hb hz (vc := vc) rfl hwd (fun kn => by have := hlo kn; omega) ?_)
         refine rowPut_row h1 hfl hwd hN hp ?_
         rw [Nat.zero_add] at hq
         exact hq
end
end Go.Sx
namespace Go.Sx
open Go
abbrev G1 := Know → SV → Option SV
abbrev G2 := Know → SV → SV → Option SV
noncomputable def know1 (C : Ctx) (g : G1) (v : SV) : R := Ctx.rec (motive := fun _ => Ctx → G1 → SV → R) (fun _ _ _ _ _ m _ C g v => optFin C (g (Mem.know m) v)) C C g v
noncomputable def know2 (C : Ctx) (g : G2) (v w : SV) : R := Ctx.rec (motive := fun _ => Ctx → G2 → SV → SV → R) (fun _ _ _ _ _ m _ C g v w => optFin C (g (Mem.know m) v w)) C C g v w
theorem know1_eq (C : Ctx) (g : G1) (v : SV) : know1 C g v = match g C.m.know v with | some r => fin C r | none => fb C := optFin_eq C _
theorem know2_eq (C : Ctx) (g : G2) (v w : SV) : know2 C g v w = match g C.m.know v w with | some r => fin C r | none => fb C := optFin_eq C _
noncomputable def p1a (C : Ctx) (g : G1) (v : SV) : R := nnS v (know1 C g) (fb C)
noncomputable def p1K (g : G1) (x : CO) (C : Ctx) : R := opdC x C (p1a C g)
noncomputable def finPtr (C : Ctx) (s k n : Nat) : R := fin C (.ptr s k (.lit (.ofNat n)))
noncomputable def fa2 (off : Nat) (C : Ctx) (s k n : Nat) : R := forceN (Nat.add n off) (finPtr C s k)
noncomputable def fa1 (off : Nat) (g : G1) (C : Ctx) (s k : Nat) (e : IE) : R := ieNat e (fa2 off C s k) (know1 C g (.ptr s k e))
noncomputable def fa0 (off : Nat) (g : G1) (C : Ctx) (v : SV) : R := onPtr v (fa1 off g C) (fb C)
noncomputable def faK (off : Nat) (g : G1) (x : CO) (C : Ctx) : R := opdC x C (fa0 off g C)
noncomputable def ia6 (n z : Nat) (C : Ctx) (s k a : Nat) (G : R) (b : Nat) : R := yes (Nat.ble (Nat.succ b) n) (forceN (Nat.add a (Nat.mul b z)) (finPtr C s k)) G
noncomputable def ia5 (n z : Nat) (C : Ctx) (s k : Nat) (i : IE) (G : R) (a : Nat) : R := ieNat i (ia6 n z C s k a G) G
noncomputable def ia4 (n z : Nat) (g : G2) (C : Ctx) (v : SV) (s k : Nat) (e : IE) (kd : IntKind) (i : IE) : R := ieNat e (ia5 n z C s k i (know2 C g v (.int kd i))) (know2 C g v (.int kd i))
noncomputable def ia3 (n z : Nat) (g : G2) (C : Ctx) (v : SV) (s k : Nat) (e : IE) (w : SV) : R := onInt w (ia4 n z g C v s k e) (fb C)
noncomputable def ia1 (n z : Nat) (g : G2) (i : CO) (C : Ctx) (s k : Nat) (e : IE) : R := opdC i C (ia3 n z g C (.ptr s k e) s k e)
noncomputable def ia0 (n z : Nat) (g : G2) (i : CO) (C : Ctx) (v : SV) : R := onPtr v (ia1 n z g i C) (fb C)
noncomputable def iaK (n z : Nat) (g : G2) (x i : CO) (C : Ctx) : R := opdC x C (ia0 n z g i C)
noncomputable def is5 (z : Nat) (g : G2) (C : Ctx) (v : SV) (s k : Nat) (e : IE) (kd : IntKind) (i : IE) (n : Nat) : R := ia4 n z g C v s k e kd i
noncomputable def is4 (z : Nat) (g : G2) (C : Ctx) (v : SV) (s k : Nat) (e len : IE) (kd : IntKind) (i : IE) : R := ieNat len (is5 z g C v s k e kd i) (know2 C g v (.int kd i))
noncomputable def is3 (z : Nat) (g : G2) (C : Ctx) (v : SV) (s k : Nat) (e len : IE) (w : SV) : R := onInt w (is4 z g C v s k e len) (fb C)
noncomputable def is1 (z : Nat) (g : G2) (i : CO) (C : Ctx) (s k : Nat) (e len cap : IE) : R := opdC i C (is3 z g C (.sli s k e len cap) s k e len)
noncomputable def is0 (z : Nat) (g : G2) (i : CO) (C : Ctx) (v : SV) : R := onSli v (is1 z g i C) (fb C)
noncomputable def isK2 (z : Nat) (g : G2) (x i : CO) (C : Ctx) : R := opdC x C (is0 z g i C)
noncomputable def chkOr (v : SV) (a b : R) : R := SV.rec (motive := fun _ => R → R → R) (fun _ b => b) (fun _ _ b => b) (fun _ _ _ b => b) (fun _ _ b => b) (fun _ b => b) (fun _ _ _ a _ => a) (fun _ b => b) (fun _ _ _ _ _ _ b => b) (fun _ _ _ a _ => a) (fun _ b => b) (fun _ _ _ a _ => a) (fun _ b => b) (fun _ _ _ b => b) (fun _ _ _ b => b) (fun _ b => b) (fun _ _ _ _ _ b => b) (fun _ _ _ _ _ _ b => b) (fun _ _ _ _ _ b => b) (fun _ _ _ _ b => b) v a b
noncomputable def nc0 (C : Ctx) (v : SV) : R := chkOr v (fin C v) (fb C)
noncomputable def ncK (x : CO) (C : Ctx) : R := opdC x C (nc0 C)
noncomputable def tupV (c : SV) (a b : R) : R := SV.rec (motive := fun _ => R → R → R) (fun _ b => b) (fun _ _ b => b) (fun _ _ _ b => b) (fun _ _ b => b) (fun _ b => b) (fun _ _ _ _ b => b) (fun _ b => b) (fun _ _ _ _ _ _ b => b) (fun _ _ _ _ b => b) (fun _ b => b) (fun _ _ _ _ b => b) (fun _ b => b) (fun _ _ _ b => b) (fun _ _ _ b => b) (fun a _ => a) (fun x _ _ ih a b => vOr x (ih a b) b) (fun _ _ _ _ _ _ b => b) (fun _ _ _ _ _ b => b) (fun _ _ _ _ b => b) c a b
noncomputable def tupN (c : SV) (i : Nat) (K : SV → R) (N : R) : R := SV.rec (motive := fun _ => Nat → (SV → R) → R → R) (fun _ _ N => N) (fun _ _ _ N => N) (fun _ _ _ _ N => N) (fun _ _ _ N => N) (fun _ _ N => N) (fun _ _ _ _ _ N => N) (fun _ _ N => N) (fun _ _ _ _ _ _ _ N => N) (fun _ _ _ _ _ N => N) (fun _ _ N => N) (fun _ _ _ _ _ N => N) (fun _ _ N => N) (fun _ _ _ _ N => N) (fun _ _ _ _ N => N) (fun _ _ N => N) (fun x r _ ih i K N => vOr x (yes (Nat.beq i 0) (tupV r (K x) N) (ih (Nat.pred i) K N)) N) (fun _ _ _ _ _ _ _ N => N) (fun _ _ _ _ _ _ N => N) (fun _ _ _ _ _ N => N) c i K N
noncomputable def ex1 (i : Nat) (C : Ctx) (c : SV) : R := tupN c i (fin C) (fb C)
noncomputable def ex0 (i : Nat) (C : Ctx) (v : SV) : R := onTup v (ex1 i C) (fb C)
noncomputable def exK (i : Nat) (x : CO) (C : Ctx) : R := opdC x C (ex0 i C)
noncomputable def mi0 (t : Nat) (C : Ctx) (v : SV) : R := vOr v (fin C (.ifc t v)) (fb C)
noncomputable def miK (t : Nat) (x : CO) (C : Ctx) : R := opdC x C (mi0 t C)
noncomputable def taV (ok : Bool) (C : Ctx) (v : SV) : R := yes ok (fin C (.tup (.cons v (.cons (.bool (.lit true)) .nil)))) (fin C v)
noncomputable def ta2 (t : Nat) (ok : Bool) (z : SV) (C : Ctx) (t' : Nat) (v : SV) : R := yes (Nat.beq t' t) (vOr v (taV ok C v) (fb C)) (yes ok (vOr z (fin C (.tup (.cons z (.cons (.bool (.lit false)) .nil)))) (fb C)) (fb C))
noncomputable def ta0 (t : Nat) (ok : Bool) (z : SV) (C : Ctx) (v : SV) : R := onIfc v (ta2 t ok z C) (fb C)
noncomputable def taK (t : Nat) (ok : Bool) (z : SV) (x : CO) (C : Ctx) : R := opdC x C (ta0 t ok z C)
noncomputable def cv2 (k : IntKind) (C : Ctx) (G : R) (n : Nat) : R := yes (Nat.ble n (maxN k)) (fin C (.int k (.lit (.ofNat n)))) G
noncomputable def cv1 (k : IntKind) (g : G1) (C : Ctx) (k' : IntKind) (e : IE) : R := ieNat e (cv2 k C (know1 C g (.int k' e))) (know1 C g (.int k' e))
noncomputable def cv0 (k : IntKind) (g : G1) (C : Ctx) (v : SV) : R := onInt v (cv1 k g C) (fb C)
noncomputable def cvK (k : IntKind) (g : G1) (x : CO) (C : Ctx) : R := opdC x C (cv0 k g C)
noncomputable def le1 (g : G1) (C : Ctx) (s k : Nat) (o len cap : IE) : R := ieNat len (fun _ => fin C (.int .i64 len)) (know1 C g (.sli s k o len cap))
noncomputable def le0 (g : G1) (C : Ctx) (v : SV) : R := onSli v (le1 g C) (p1a C g v)
noncomputable def leK (g : G1) (x : CO) (C : Ctx) : R := opdC x C (le0 g C)
noncomputable def fl1 (off : Nat) (C : Ctx) (c : SV) : R := getNK c off (fin C) (fb C)
noncomputable def fl0 (off : Nat) (C : Ctx) (v : SV) : R := onAgg v (fl1 off C) (fb C)
noncomputable def flK (off : Nat) (x : CO) (C : Ctx) : R := opdC x C (fl0 off C)
noncomputable def fg1 (off z : Nat) (C : Ctx) (c : SV) : R := takeK c off z (finA C) (fb C)
noncomputable def fg0 (off z : Nat) (C : Ctx) (v : SV) : R := onAgg v (fg1 off z C) (fb C)
noncomputable def fgK (off z : Nat) (x : CO) (C : Ctx) : R := opdC x C (fg0 off z C)
noncomputable def partK (ag : Bool) (z : Nat) (c : SV) (C : Ctx) (n : Nat) : R := yes ag (takeK c n z (finA C) (fb C)) (getNK c n (fin C) (fb C))
noncomputable def ix4 (ag : Bool) (n z : Nat) (C : Ctx) (c : SV) (b : Nat) : R := yes (Nat.ble (Nat.succ b) n) (partK ag z c C (Nat.mul b z)) (fb C)
noncomputable def ix3 (ag : Bool) (n z : Nat) (C : Ctx) (c : SV) (_ : IntKind) (i : IE) : R := ieNat i (ix4 ag n z C c) (fb C)
noncomputable def ix2 (ag : Bool) (n z : Nat) (C : Ctx) (c w : SV) : R := onInt w (ix3 ag n z C c) (fb C)
noncomputable def ix1 (ag : Bool) (n z : Nat) (i : CO) (C : Ctx) (c : SV) : R := opdC i C (ix2 ag n z C c)
noncomputable def ix0 (ag : Bool) (n z : Nat) (i : CO) (C : Ctx) (v : SV) : R := onAgg v (ix1 ag n z i C) (fb C)
noncomputable def ixK (ag : Bool) (n z : Nat) (x i : CO) (C : Ctx) : R := opdC x C (ix0 ag n z i C)
noncomputable def al2 (C : Ctx) (t : Nat) (c : SV) (kn : Know) (h : List Ent) (sg nx nv nx' : Nat) : R := finM C (.ptr sg nx (.lit 0)) ⟨kn, ⟨sg, nx, false, t, .lit 0, c⟩ :: h, sg, nx', nv⟩
noncomputable def alK (t : Nat) (c : SV) (C : Ctx) : R :=
 Ctx.rec (motive := fun _ => Ctx → Nat → SV → R) (fun _ _ _ _ _ m _ C t c => Mem.rec (motive := fun _ => Ctx → Nat → SV → R) (fun kn h sg nx nv C t c => forceN (Nat.succ nx) (al2 C t c kn h sg nx nv)) m C t c) C C t c
theorem alK_eq (t : Nat) (c : SV) (C : Ctx) : alK t c C = finM C (.ptr C.m.seg C.m.next (.lit 0)) { C.m with heap := { s := C.m.seg, k := C.m.next, ro := false, t, base := .lit 0, c } :: C.m.heap, next := C.m.next + 1 } := by
 obtain ⟨d, o, old, n, t', ⟨kn, h, sg, nx, nv⟩, K⟩ := C
 exact forceN_eq (Nat.succ nx) (al2 ⟨d, o, old, n, t', ⟨kn, h, sg, nx, nv⟩, K⟩ t c kn h sg nx nv)
noncomputable def bx0 (t : Nat) (C : Ctx) (v : SV) : R := onAgg v (fun c => alK t c C) (cOr v (alK t (.cons v .nil) C) (fb C))
noncomputable def bxK (t : Nat) (x : CO) (C : Ctx) : R := opdC x C (bx0 t C)
noncomputable def beLitR (b : BE) (f : Bool → R) (g : R) : R := BE.rec (motive := fun _ => (Bool → R) → R → R) (fun b f _ => f b) (fun _ _ g => g) (fun _ _ _ g => g) (fun _ _ _ g => g) (fun _ _ _ g => g) b f g
noncomputable def pi2 (C : Ctx) (a b : CO) (c : Bool) : R := opdC a C (fun x => nnS x (fun x => opdC b C (fun y => nnS y (fun y => yes c (fin C x) (fin C y)) (fb C))) (fb C))
noncomputable def pi0 (C : Ctx) (a b : CO) (v : SV) : R := onBool v (fun t => beLitR t (pi2 C a b) (fb C)) (fb C)
noncomputable def piK (c a b : CO) (C : Ctx) : R := opdC c C (pi0 C a b)
section
variable {P : Program} {T : Tab P} {cx : CX} {C : Ctx}
structure P1 (T : Tab P) (C : Ctx) (x : Operand) (g : G1) : Prop where
 app : appArgs T ⟨C.n, C.t⟩ C.o = none
 run : ∀ v, opd ⟨C.n, C.t⟩ x = some v → opS T ⟨C.n, C.t⟩ C.o C.m = valO (g C.m.know v) C.m
theorem P1.fin (h : Fits T cx C) {x : Operand} {g : G1} (p : P1 T C x g) {r : SV} (hv : (coOf x).of C.t ≠ .nil) (hr : g C.m.know ((coOf x).of C.t) = some r) : fin C r = fb C := by
 rw [← finM_self]
 exact h.val p.app (by rw [p.run _ (coOf_ok hv), hr]; rfl)
theorem P1.know (h : Fits T cx C) {x : Operand} {g : G1} (p : P1 T C x g) (hv : (coOf x).of C.t ≠ .nil) : know1 C g ((coOf x).of C.t) = fb C := by
 rw [know1_eq]
 cases hr : g C.m.know ((coOf x).of C.t) with
 | none => rfl
 | some r => exact p.fin h hv hr
theorem P1.p1a (h : Fits T cx C) {x : Operand} {g : G1} (p : P1 T C x g) : p1a C g ((coOf x).of C.t) = fb C := by
 unfold Sx.p1a
 by_cases hv : (coOf x).of C.t = .nil
 ·rw [hv]; rfl
 ·rw [nnS_eq _ _ hv]; exact p.know h hv
theorem p1_ok (h : Fits T cx C) {x : Operand} {g : G1} (p : P1 T C x g) : p1K g (coOf x) C = fb C := by
 unfold p1K
 rw [opdC_eq]
 exact p.p1a h
structure P2 (T : Tab P) (C : Ctx) (x y : Operand) (g : G2) : Prop where
 app : appArgs T ⟨C.n, C.t⟩ C.o = none
 run : ∀ v w, opd ⟨C.n, C.t⟩ x = some v → opd ⟨C.n, C.t⟩ y = some w → opS T ⟨C.n, C.t⟩ C.o C.m = valO (g C.m.know v w) C.m
theorem P2.fin (h : Fits T cx C) {x y : Operand} {g : G2} (p : P2 T C x y g) {r : SV} (hv : (coOf x).of C.t ≠ .nil) (hw : (coOf y).of C.t ≠ .nil) (hr : g C.m.know ((coOf x).of C.t) ((coOf y).of C.t) = some r) : fin C r = fb C := by
 rw [← finM_self]
 exact h.val p.app (by rw [p.run _ _ (coOf_ok hv) (coOf_ok hw), hr]; rfl)
theorem P2.know (h : Fits T cx C) {x y : Operand} {g : G2} (p : P2 T C x y g) (hv : (coOf x).of C.t ≠ .nil) (hw : (coOf y).of C.t ≠ .nil) : know2 C g ((coOf x).of C.t) ((coOf y).of C.t) = fb C := by
 rw [know2_eq]
 cases hr : g C.m.know ((coOf x).of C.t) ((coOf y).of C.t) with
 | none => rfl
 | some r => exact p.fin h hv hw hr
theorem nonneg_lit (kn : Know) (n : Nat) : nonneg kn (.lit n) = true := by
 unfold nonneg
 exact decide_eq_true (show (0 : Int) ≤ (n : Int) by omega)
theorem isLt_lit (kn : Know) (a b : Nat) : isLt kn (.lit a) (.lit b) = decide (a < b) := by
 unfold isLt
 show (BE.lit (decide ((a : Int) < (b : Int))) == BE.lit true) = _
 by_cases h : a < b
 ·rw [decide_eq_true (show (a : Int) < b by omega), decide_eq_true h]; rfl
 ·rw [decide_eq_false (show ¬ (a : Int) < b by omega), decide_eq_false h]; rfl
theorem mkAdd_lit (a b : Nat) : mkAdd (.lit a) (.lit b) = .lit ((a + b : Nat) : Int) := by rw [Int.natCast_add]; rfl
theorem mkMul_lit (a b : Nat) : mkMul (.lit a) (.lit b) = .lit ((a * b : Nat) : Int) := by rw [Int.natCast_mul]; rfl
theorem fa_ok (h : Fits T cx C) {t i sz off : Nat} {fs : Array Field} {f : Field} {x : Operand} (ho : C.o.op = .fieldAddr t x i) (ht : T.under t = some (.struct fs)) (hf : fs[i]? = some f) (hz : sizeIn T f.type = some sz) (h0 : sz ≠ 0) (hoff : f.offset = off) :
  faK off (fun kn v => fieldAddrS T kn t v i) (coOf x) C = fb C := by
 have p : P1 T C x (fun kn v => fieldAddrS T kn t v i) := ⟨by unfold appArgs; rw [ho], fun v hv => by unfold opS; rw [ho]; dsimp only; rw [hv]; rfl⟩
 unfold faK
 rw [opdC_eq]
 have key : ∀ r, fieldAddrS T C.m.know t ((coOf x).of C.t) i = some r → (coOf x).of C.t ≠ .nil → fin C r = fb C := fun r hr hv => p.fin h hv hr
 have key2 := fun hv => p.know h (g := fun kn v => fieldAddrS T kn t v i) hv
 generalize (coOf x).of C.t = v at key key2
 unfold fa0
 cases v <;> try rfl
 rename_i s k e
 show fa1 off _ C s k e = _
 unfold fa1
 rcases ieNat_eq e (fa2 off C s k) (know1 C (fun kn v => fieldAddrS T kn t v i) (.ptr s k e)) with e1 | ⟨n, rfl, e1⟩
 ·rw [e1]; exact key2 (by intro hh; cases hh)
 ·rw [e1]
  unfold fa2
  rw [forceN_eq]
  refine key _ ?_ (by intro hh; cases hh)
  unfold fieldAddrS
  rw [ht]
  dsimp only
  rw [hf]
  dsimp only
  rw [hz]
  dsimp only
  rw [if_pos ⟨h0, nonneg_lit _ n⟩, hoff, mkAdd_lit]
  rfl
theorem ia4_ok {n z : Nat} {g : G2} {v : SV} {s k : Nat} {e : IE} {kd : IntKind} {i : IE} (hk : know2 C g v (.int kd i) = fb C)
  (hr : ∀ a b : Nat, e = .lit a → i = .lit b → b < n → fin C (.ptr s k (.lit ((a + b * z : Nat) : Int))) = fb C) : ia4 n z g C v s k e kd i = fb C := by
 unfold ia4
 rw [hk]
 rcases ieNat_eq e (ia5 n z C s k i (fb C)) (fb C) with e1 | ⟨a, ha, e1⟩
 ·exact e1
 ·rw [e1]
  unfold ia5
  rcases ieNat_eq i (ia6 n z C s k a (fb C)) (fb C) with e2 | ⟨b, hb, e2⟩
  ·exact e2
  ·rw [e2]
   unfold ia6
   rw [yes_ble]
   by_cases h : Nat.succ b ≤ n
   ·rw [if_pos h, forceN_eq]
    exact hr a b ha hb h
   ·rw [if_neg h]
theorem ia_ok (h : Fits T cx C) {t n el z : Nat} {x y : Operand} (ho : C.o.op = .indexAddr t x y) (ht : T.under t = some (.array n el)) (hz : sizeIn T el = some z) :
  iaK n z (fun kn v w => indexAddrS T kn t v w) (coOf x) (coOf y) C = fb C := by
 have p : P2 T C x y (fun kn v w => indexAddrS T kn t v w) := ⟨by unfold appArgs; rw [ho], fun v w hv hw => by unfold opS; rw [ho]; dsimp only; rw [hv, hw]; rfl⟩
 unfold iaK
 rw [opdC_eq]
 unfold ia0
 cases hv : (coOf x).of C.t <;> try rfl
 rename_i s k e
 show opdC (coOf y) C (ia3 n z _ C (.ptr s k e) s k e) = _
 rw [opdC_eq]
 unfold ia3
 cases hw : (coOf y).of C.t <;> try rfl
 rename_i kd i
 show ia4 n z _ C (.ptr s k e) s k e kd i = _
 have n1 : (coOf x).of C.t ≠ .nil := by rw [hv]; intro hh; cases hh
 have n2 : (coOf y).of C.t ≠ .nil := by rw [hw]; intro hh; cases hh
 refine ia4_ok ?_ fun a b ha hb hlt => ?_
 ·have := p.know h n1 n2
  rw [hv, hw] at this
  exact this
 ·refine p.fin h n1 n2 ?_
  rw [hv, hw, ha, hb]
  unfold indexAddrS
  rw [ht]
  dsimp only
  rw [hz]
  dsimp only
  rw [if_pos ⟨nonneg_lit _ a, nonneg_lit _ b, by rw [isLt_lit]; exact decide_eq_true hlt⟩, mkMul_lit, mkAdd_lit]
theorem is_ok (h : Fits T cx C) {t el z : Nat} {x y : Operand} (ho : C.o.op = .indexAddr t x y) (ht : T.under t = some (.slice el)) (hz : sizeIn T el = some z) :
  isK2 z (fun kn v w => indexAddrS T kn t v w) (coOf x) (coOf y) C = fb C := by
 have p : P2 T C x y (fun kn v w => indexAddrS T kn t v w) := ⟨by unfold appArgs; rw [ho], fun v w hv hw => by unfold opS; rw [ho]; dsimp only; rw [hv, hw]; rfl⟩
 unfold isK2
 rw [opdC_eq]
 unfold is0
 cases hv : (coOf x).of C.t <;> try rfl
 rename_i s k e len cap
 show opdC (coOf y) C (is3 z _ C (.sli s k e len cap) s k e len) = _
 rw [opdC_eq]
 unfold is3
 cases hw : (coOf y).of C.t <;> try rfl
 rename_i kd i
 show is4 z _ C (.sli s k e len cap) s k e len kd i = _
 have n1 : (coOf x).of C.t ≠ .nil := by rw [hv]; intro hh; cases hh
 have n2 : (coOf y).of C.t ≠ .nil := by rw [hw]; intro hh; cases hh
 have hk : know2 C (fun kn v w => indexAddrS T kn t v w) (.sli s k e len cap) (.int kd i) = fb C := by
  have := p.know h n1 n2
  rw [hv, hw] at this
  exact this
 unfold is4
 rw [hk]
 rcases ieNat_eq len (is5 z (fun kn v w => indexAddrS T kn t v w) C (.sli s k e len cap) s k e kd i) (fb C) with e1 | ⟨n, hn, e1⟩
 ·exact e1
 ·rw [e1]
  unfold is5
  refine ia4_ok hk fun a b ha hb hlt => ?_
  refine p.fin h n1 n2 ?_
  rw [hv, hw, ha, hb, hn]
  unfold indexAddrS
  rw [ht]
  dsimp only
  rw [hz]
  dsimp only
  rw [if_pos ⟨nonneg_lit _ a, nonneg_lit _ b, by rw [isLt_lit]; exact decide_eq_true hlt⟩, mkMul_lit, mkAdd_lit]
theorem nc_ok (h : Fits T cx C) {x : Operand} (ho : C.o.op = .nilCheck x) : ncK (coOf x) C = fb C := by
 have p : P1 T C x (fun _ v => nilCheckS v) := ⟨by unfold appArgs; rw [ho], fun v hv => by unfold opS; rw [ho]; dsimp only; rw [hv]⟩
 unfold ncK
 rw [opdC_eq]
 unfold nc0
 have key : ∀ r, nilCheckS ((coOf x).of C.t) = some r → (coOf x).of C.t ≠ .nil → fin C r = fb C := fun r hr hv => p.fin h hv hr
 generalize (coOf x).of C.t = v at key
 cases v <;> first | rfl | exact key _ rfl (by intro hh; cases hh)
theorem tupV_eq : ∀ (c : SV) (a b : R), tupV c a b = b ∨ ((∃ l, listOf c = some l) ∧ tupV c a b = a)
 | .nil, a, b => .inr ⟨⟨[], rfl⟩, rfl⟩
 | .cons x r, a, b => by
  show vOr x (tupV r a b) b = b ∨ (_ ∧ vOr x (tupV r a b) b = a)
  rw [vOr_eq]
  by_cases hx : x.isV = true
  ·rw [if_pos hx]
   rcases tupV_eq r a b with e | ⟨⟨l, hl⟩, e⟩
   ·exact .inl e
   ·exact .inr ⟨⟨x :: l, by unfold listOf; rw [if_pos hx, hl]⟩, e⟩
  ·rw [if_neg hx]; exact .inl rfl
 | .undef, _, _ | .opq _, _, _ | .int _ _, _, _ | .bool _, _, _ | .nilp, _, _ | .ptr _ _ _, _, _ | .nils, _, _ | .sli _ _ _ _ _, _, _ | .fn _ _, _, _ | .nilf, _, _ | .ifc _ _, _, _ | .nili, _, _ | .agg _, _, _ | .tup _, _, _ | .arr _ _ _ _, _, _ | .wr _ _ _, _, _ | .rep _ _, _, _ => .inl rfl
theorem tupN_eq : ∀ (c : SV) (i : Nat) (K : SV → R) (N : R), tupN c i K N = N ∨ ∃ l x, listOf c = some l ∧ l[i]? = some x ∧ tupN c i K N = K x
 | .nil, _, _, _ => .inl rfl
 | .cons x r, i, K, N => by
  show vOr x (yes (Nat.beq i 0) (tupV r (K x) N) (tupN r (Nat.pred i) K N)) N = N ∨ ∃ l y, _ ∧ _ ∧ vOr x (yes (Nat.beq i 0) (tupV r (K x) N) (tupN r (Nat.pred i) K N)) N = K y
  rw [vOr_eq]
  by_cases hx : x.isV = true
  ·rw [if_pos hx, yes_beq]
   by_cases hi : i = 0
   ·rw [if_pos hi]
    rcases tupV_eq r (K x) N with e | ⟨⟨l, hl⟩, e⟩
    ·exact .inl e
    ·exact .inr ⟨x :: l, x, by unfold listOf; rw [if_pos hx, hl], by rw [hi]; rfl, e⟩
   ·rw [if_neg hi]
    rcases tupN_eq r (Nat.pred i) K N with e | ⟨l, y, hl, hy, e⟩
    ·exact .inl e
    ·refine .inr ⟨x :: l, y, by unfold listOf; rw [if_pos hx, hl], ?_, e⟩
     cases i with
     | zero => exact absurd rfl hi
     | succ i => exact hy
  ·rw [if_neg hx]; exact .inl rfl
 | .undef, _, _, _ | .opq _, _, _, _ | .int _ _, _, _, _ | .bool _, _, _, _ | .nilp, _, _, _ | .ptr _ _ _, _, _, _ | .nils, _, _, _ | .sli _ _ _ _ _, _, _, _ | .fn _ _, _, _, _ | .nilf, _, _, _ | .ifc _ _, _, _, _ | .nili, _, _, _ | .agg _, _, _, _ | .tup _, _, _, _ | .arr _ _ _ _, _, _, _ | .wr _ _ _, _, _, _ | .rep _ _, _, _, _ => .inl rfl
theorem ex_ok (h : Fits T cx C) {x : Operand} {i : Nat} (ho : C.o.op = .extract x i) : exK i (coOf x) C = fb C := by
 have p : P1 T C x (fun _ v => extractS v i) := ⟨by unfold appArgs; rw [ho], fun v hv => by unfold opS; rw [ho]; dsimp only; rw [hv]⟩
 unfold exK
 rw [opdC_eq]
 unfold ex0
 have key : ∀ r, extractS ((coOf x).of C.t) i = some r → (coOf x).of C.t ≠ .nil → fin C r = fb C := fun r hr hv => p.fin h hv hr
 generalize (coOf x).of C.t = v at key
 cases v <;> try rfl
 rename_i c
 show ex1 i C c = _
 unfold ex1
 rcases tupN_eq c i (fin C) (fb C) with e | ⟨l, y, hl, hy, e⟩
 ·exact e
 ·rw [e]
  exact key y (by unfold extractS; dsimp only; rw [hl]; exact hy) (by intro hh; cases hh)
theorem mi_ok (h : Fits T cx C) {x : Operand} {t : Nat} {d : TypeDesc} (ho : C.o.op = .makeInterface t x) (ht : T.under t = some d) (hd : ∀ i, d ≠ .interface i) : miK t (coOf x) C = fb C := by
 have p : P1 T C x (fun _ v => makeIfaceS T t v) := ⟨by unfold appArgs; rw [ho], fun v hv => by unfold opS; rw [ho]; dsimp only; rw [hv]⟩
 unfold miK
 rw [opdC_eq]
 unfold mi0
 rw [vOr_eq]
 split
 ·rename_i hv
  refine p.fin h (by intro e; rw [e] at hv; cases hv) ?_
  unfold makeIfaceS
  rw [ht]
  split
  ·rename_i e; injection e with e; exact absurd e (hd _)
  ·rw [if_pos hv]
  ·rename_i e; cases e
 ·rfl
theorem ta_ok (h : Fits T cx C) {x : Operand} {xt t : Nat} {ok : Bool} {d : TypeDesc} {z : SV} (ho : C.o.op = .typeAssert x xt t ok) (ht : T.under t = some d) (hd : ∀ i, d ≠ .interface i) (hz : T.zero t = some z) : taK t ok z (coOf x) C = fb C := by
 have p : P1 T C x (fun _ v => typeAssertS T v xt t ok) := ⟨by unfold appArgs; rw [ho], fun v hv => by unfold opS; rw [ho]; dsimp only; rw [hv]⟩
 unfold taK
 rw [opdC_eq]
 unfold ta0
 have key : ∀ r, typeAssertS T ((coOf x).of C.t) xt t ok = some r → (coOf x).of C.t ≠ .nil → fin C r = fb C := fun r hr hv => p.fin h hv hr
 generalize (coOf x).of C.t = v at key
 cases v <;> try rfl
 rename_i t' v
 show ta2 t ok z C t' v = _
 have e : typeAssertS T (.ifc t' v) xt t ok = if t' = t then (if v.isV then some (if ok then .tup (.cons v (.cons (.bool (.lit true)) .nil)) else v) else none)
   else if ok then match T.zero t with
    | some z => if z.isV then some (.tup (.cons z (.cons (.bool (.lit false)) .nil))) else none
    | none => none
   else none := by
  unfold typeAssertS
  rw [ht]
  cases d <;> first | rfl | exact absurd rfl (hd _)
 rw [e] at key
 unfold ta2
 rw [yes_beq]
 by_cases h1 : t' = t
 ·rw [if_pos h1] at key ⊢
  rw [vOr_eq]
  split
  ·rename_i hv
   rw [if_pos hv] at key
   unfold taV
   rw [yes_eq]
   cases ok
   ·exact key _ rfl (by intro hh; cases hh)
   ·exact key _ rfl (by intro hh; cases hh)
  ·rfl
 ·rw [if_neg h1] at key ⊢
  rw [yes_eq]
  cases ok
  ·rfl
  ·rw [if_pos rfl] at key ⊢
   rw [vOr_eq]
   split
   ·rename_i hv
    rw [hz] at key
    dsimp only at key
    rw [if_pos hv] at key
    exact key _ rfl (by intro hh; cases hh)
   ·rfl
theorem cv_ok (h : Fits T cx C) {x : Operand} {s d : Nat} {k : IntKind} {u : TypeDesc} (ho : C.o.op = .convert s d x) (hs : T.under s = some u) (hd : T.under d = some (.int k)) : cvK k (fun kn v => convertS T kn s d v) (coOf x) C = fb C := by
 have p : P1 T C x (fun kn v => convertS T kn s d v) := ⟨by unfold appArgs; rw [ho], fun v hv => by unfold opS; rw [ho]; dsimp only; rw [hv]; rfl⟩
 unfold cvK
 rw [opdC_eq]
 unfold cv0
 have key : ∀ r, convertS T C.m.know s d ((coOf x).of C.t) = some r → (coOf x).of C.t ≠ .nil → fin C r = fb C := fun r hr hv => p.fin h hv hr
 have key2 := fun hv => p.know h (g := fun kn v => convertS T kn s d v) hv
 generalize (coOf x).of C.t = v at key key2
 cases v <;> try rfl
 rename_i k' e
 show cv1 k _ C k' e = _
 have hk := key2 (by intro hh; cases hh)
 unfold cv1
 rw [hk]
 rcases ieNat_eq e (cv2 k C (fb C)) (fb C) with e1 | ⟨n, rfl, e1⟩
 ·exact e1
 ·rw [e1]
  unfold cv2
  rw [yes_ble]
  by_cases hn : n ≤ maxN k
  ·rw [if_pos hn]
   refine key _ ?_ (by intro hh; cases hh)
   unfold convertS
   rw [hs, hd]
   dsimp only
   rw [mkWrap_nat _ hn]
   rfl
  ·rw [if_neg hn]
end
end Go.Sx
namespace Go.Sx
open Go
section
variable {P : Program} {T : Tab P} {cx : CX} {C : Ctx}
theorem Fits.valX (h : Fits T cx C) (ha : appArgs T ⟨C.n, C.t⟩ C.o = none) {x : X SV} {v : SV} (ho : opS T ⟨C.n, C.t⟩ C.o = Sx.valX x) (hx : x C.m = some [(v, C.m)]) : fin C v = fb C := by
 rw [← finM_self]
 refine h.val ha ?_
 rw [ho]
 unfold Sx.valX
 rw [bind_one hx]
 rfl
theorem part_cell {t : Nat} {c v : SV} {n : Nat} {m : Mem} (ht : aggOf T t = some false) (h : getC c (.lit n) m = some [(v, m)]) : partS T t c (.lit n) m = some [(v, m)] := by
 unfold partS
 rw [ht]
 exact h
theorem part_row {t z : Nat} {c r : SV} {n : Nat} {m : Mem} (ht : aggOf T t = some true) (hz : sizeIn T t = some z) (h : takeC c n z = some r) : partS T t c (.lit n) m = some [(.agg r, m)] := by
 unfold partS
 rw [ht]
 dsimp only
 rw [hz]
 unfold withKnow
 dsimp only
 rw [if_pos (nonneg_lit _ n), bind_one (rowAt_lit h m)]
 rfl
theorem fl_ok (h : Fits T cx C) {t i off : Nat} {fs : Array Field} {f : Field} {x : Operand} (ho : C.o.op = .field t x i) (ht : T.under t = some (.struct fs)) (hf : fs[i]? = some f) (hg : aggOf T f.type = some false) (hoff : f.offset = off) : flK off (coOf x) C = fb C := by
 unfold flK
 rw [opdC_eq]
 unfold fl0
 cases hv : (coOf x).of C.t <;> try rfl
 rename_i c
 show fl1 off C c = _
 unfold fl1
 rcases getNK_at c off (fin C) (fb C) with e | ⟨v, hc, e⟩
 ·exact e
 ·rw [e]
  have hx : opd ⟨C.n, C.t⟩ x = some (.agg c) := by rw [coOf_ok (by rw [hv]; exact fun e => (by cases e)), hv]
  refine h.valX (by unfold appArgs; rw [ho]) (x := fieldS T t (.agg c) i) (by unfold opS; rw [ho]; dsimp only; rw [hx]) ?_
  unfold fieldS
  rw [ht]
  dsimp only
  rw [hf]
  dsimp only
  rw [hoff]
  exact part_cell hg (hc C.m)
theorem fg_ok (h : Fits T cx C) {t i off z : Nat} {fs : Array Field} {f : Field} {x : Operand} (ho : C.o.op = .field t x i) (ht : T.under t = some (.struct fs)) (hf : fs[i]? = some f) (hg : aggOf T f.type = some true) (hz : sizeIn T f.type = some z) (hoff : f.offset = off) : fgK off z (coOf x) C = fb C := by
 unfold fgK
 rw [opdC_eq]
 unfold fg0
 cases hv : (coOf x).of C.t <;> try rfl
 rename_i c
 show fg1 off z C c = _
 unfold fg1
 rcases takeK_at c off z (finA C) (fb C) with e | ⟨r, hc, e⟩
 ·exact e
 ·rw [e]
  have hx : opd ⟨C.n, C.t⟩ x = some (.agg c) := by rw [coOf_ok (by rw [hv]; exact fun e => (by cases e)), hv]
  refine h.valX (by unfold appArgs; rw [ho]) (x := fieldS T t (.agg c) i) (by unfold opS; rw [ho]; dsimp only; rw [hx]) ?_
  unfold fieldS
  rw [ht]
  dsimp only
  rw [hf]
  dsimp only
  rw [hoff]
  exact part_row hg hz hc
theorem ix_ok (h : Fits T cx C) {t n el z : Nat} {ag : Bool} {x y : Operand} (ho : C.o.op = .index t x y) (ht : T.under t = some (.array n el)) (hg : aggOf T el = some ag) (hz : sizeIn T el = some z) : ixK ag n z (coOf x) (coOf y) C = fb C := by
 unfold ixK
 rw [opdC_eq]
 unfold ix0
 cases hv : (coOf x).of C.t <;> try rfl
 rename_i c
 show opdC (coOf y) C (ix2 ag n z C c) = _
 rw [opdC_eq]
 unfold ix2
 cases hw : (coOf y).of C.t <;> try rfl
 rename_i kd i
 show ieNat i (ix4 ag n z C c) (fb C) = _
 rcases ieNat_eq i (ix4 ag n z C c) (fb C) with e | ⟨b, hb, e⟩
 ·exact e
 ·rw [e]
  unfold ix4
  rw [yes_ble]
  by_cases hlt : Nat.succ b ≤ n
  ·rw [if_pos hlt]
   have hx : opd ⟨C.n, C.t⟩ x = some (.agg c) := by rw [coOf_ok (by rw [hv]; exact fun e => (by cases e)), hv]
   have hy : opd ⟨C.n, C.t⟩ y = some (.int kd i) := by rw [coOf_ok (by rw [hw]; exact fun e => (by cases e)), hw]
   have run : ∀ v, partS T el c (.lit ((b * z : Nat) : Int)) C.m = some [(v, C.m)] → fin C v = fb C := fun v hp => by
    refine h.valX (by unfold appArgs; rw [ho]) (x := indexS T t (.agg c) (.int kd i)) (by unfold opS; rw [ho]; dsimp only; rw [hx, hy]) ?_
    unfold indexS
    rw [ht, hb]
    dsimp only
    rw [hz]
    unfold withKnow
    dsimp only
    rw [if_pos ⟨nonneg_lit _ b, by rw [isLt_lit]; exact decide_eq_true hlt⟩, mkMul_lit]
    exact hp
   unfold partK
   rw [yes_eq]
   cases ag
   ·rcases getNK_at c (Nat.mul b z) (fin C) (fb C) with e2 | ⟨v, hc, e2⟩
    ·exact e2
    ·rw [if_neg (by simp), e2]
     exact run v (part_cell hg (hc C.m))
   ·rcases takeK_at c (Nat.mul b z) z (finA C) (fb C) with e2 | ⟨r, hc, e2⟩
    ·exact e2
    ·rw [if_pos rfl, e2]
     exact run (.agg r) (part_row hg hz hc)
  ·rw [if_neg hlt]
theorem box_run {t : Nat} {v c : SV} (hc : cellsS v = some c) (m : Mem) : boxS t v m = some [(.ptr m.seg m.next (.lit 0), { m with heap := { s := m.seg, k := m.next, ro := false, t, base := .lit 0, c } :: m.heap, next := m.next + 1 })] := by
 unfold boxS
 rw [hc, bind_one (a := c) (m' := m) rfl, allocX_eq]
theorem al_ok (h : Fits T cx C) {t : Nat} {z c : SV} (ho : C.o.op = .alloc t) (hz : T.zero t = some z) (hc : cellsS z = some c) : alK t c C = fb C := by
 rw [alK_eq]
 refine h.val (by unfold appArgs; rw [ho]) ?_
 unfold opS
 rw [ho]
 dsimp only
 unfold Sx.valX allocS
 have e : (X.bind (X.ofOption (T.zero t)) fun z => boxS t z) C.m = boxS t z C.m := by rw [hz]; exact bind_one (m' := C.m) rfl
 rw [bind_one (e.trans (box_run hc C.m))]
 rfl
theorem bx_ok (h : Fits T cx C) {t : Nat} {x : Operand} (ho : C.o.op = .box t x) : bxK t (coOf x) C = fb C := by
 unfold bxK
 rw [opdC_eq]
 have key : ∀ c, cellsS ((coOf x).of C.t) = some c → (coOf x).of C.t ≠ .nil → alK t c C = fb C := fun c hc hv => by
  rw [alK_eq]
  refine h.val (by unfold appArgs; rw [ho]) ?_
  unfold opS
  rw [ho]
  dsimp only
  rw [coOf_ok hv]
  dsimp only
  unfold Sx.valX
  rw [bind_one (box_run hc C.m)]
  rfl
 unfold bx0
 generalize (coOf x).of C.t = v at key
 cases v <;> first | rfl | exact key _ rfl (by intro hh; cases hh)
theorem pi_ok (h : Fits T cx C) {c a b : Operand} (ho : C.o.op = .pick c a b) : piK (coOf c) (coOf a) (coOf b) C = fb C := by
 unfold piK
 rw [opdC_eq]
 unfold pi0
 cases hv : (coOf c).of C.t <;> try rfl
 rename_i t
 show beLitR t (pi2 C (coOf a) (coOf b)) (fb C) = _
 cases t <;> try rfl
 rename_i r
 show pi2 C (coOf a) (coOf b) r = _
 unfold pi2
 rw [opdC_eq]
 by_cases ha : (coOf a).of C.t = .nil
 ·rw [ha]; rfl
 ·rw [nnS_eq _ _ ha, opdC_eq]
  by_cases hb : (coOf b).of C.t = .nil
  ·rw [hb]; rfl
  ·rw [nnS_eq _ _ hb, yes_eq]
   have hc : opd ⟨C.n, C.t⟩ c = some (.bool (.lit r)) := by rw [coOf_ok (by rw [hv]; exact fun e => (by cases e)), hv]
   have : fin C (if r then (coOf a).of C.t else (coOf b).of C.t) = fb C := by
    refine h.valX (by unfold appArgs; rw [ho]) (x := pickS (.bool (.lit r)) ((coOf a).of C.t) ((coOf b).of C.t)) (by unfold opS; rw [ho]; dsimp only; rw [hc, coOf_ok ha, coOf_ok hb]) ?_
    cases r <;> rfl
   cases r <;> exact this
theorem le_ok (h : Fits T cx C) {c : Call} {x : Operand} {t : Nat} (ho : C.o.op = .call c) (hc : c.callee = .builtin .len) (hx : c.args.toList = [x]) (ht : c.argTypes[0]? = some t) (hu : ∃ e, T.under t = some (.slice e)) : leK (fun kn v => lenS T kn t v) (coOf x) C = fb C := by
 have p : P1 T C x (fun kn v => lenS T kn t v) := ⟨by unfold appArgs; rw [ho]; dsimp only; rw [hc], fun v hv => by
  unfold opS; rw [ho]; dsimp only
  unfold callS
  rw [hx]
  have e : opds ⟨C.n, C.t⟩ [x] = some [v] := by show (match opd ⟨C.n, C.t⟩ x, some [] with | some v, some l => some (v :: l) | _, _ => none) = _; rw [hv]
  rw [e, hc, ht]
  rfl⟩
 unfold leK
 rw [opdC_eq]
 have key : ∀ r, lenS T C.m.know t ((coOf x).of C.t) = some r → (coOf x).of C.t ≠ .nil → fin C r = fb C := fun r hr hv => p.fin h hv hr
 have key2 := p.p1a h
 have key3 := fun hv => p.know h (g := fun kn v => lenS T kn t v) hv
 generalize (coOf x).of C.t = v at key key2 key3
 unfold le0
 cases v <;> try exact key2
 rename_i s k o len cap
 show le1 _ C s k o len cap = _
 unfold le1
 rw [key3 (by intro hh; cases hh)]
 rcases ieNat_eq len (fun _ => fin C (.int .i64 len)) (fb C) with e | ⟨n, hn, e⟩
 ·exact e
 ·rw [e]
  refine key _ ?_ (by intro hh; cases hh)
  obtain ⟨el, hu⟩ := hu
  unfold lenS
  rw [hu, hn]
  dsimp only
  rw [if_pos (nonneg_lit _ n)]
end
noncomputable def consL (k : List SV → R) (v : SV) (l : List SV) : R := k (v :: l)
noncomputable def arg2 (ih : (List SV → R) → R) (k : List SV → R) (v : SV) : R := ih (consL k v)
noncomputable def arg1 (C : Ctx) (ih : Ctx → (List SV → R) → R) (k : List SV → R) (v : SV) : R := nnS v (arg2 (ih C) k) (fb C)
noncomputable def argsK (l : List CO) : Ctx → (List SV → R) → R :=
 List.rec (motive := fun _ => Ctx → (List SV → R) → R) (fun _ k => k []) (fun x _ ih C k => opdC x C (arg1 C ih k)) l
theorem argsK_eq (C : Ctx) : ∀ (xs : List Operand) (k : List SV → R), argsK (xs.map coOf) C k = fb C ∨ ∃ l, opds ⟨C.n, C.t⟩ xs = some l ∧ argsK (xs.map coOf) C k = k l
 | [], k => .inr ⟨[], rfl, rfl⟩
 | x :: xs, k => by
  show opdC (coOf x) C (arg1 C (argsK (xs.map coOf)) k) = fb C ∨ ∃ l, _ ∧ opdC (coOf x) C (arg1 C (argsK (xs.map coOf)) k) = k l
  rw [opdC_eq]
  unfold arg1
  by_cases hv : (coOf x).of C.t = .nil
  ·rw [hv]; exact .inl rfl
  ·rw [nnS_eq _ _ hv]
   unfold arg2
   rcases argsK_eq C xs (consL k ((coOf x).of C.t)) with e | ⟨l, hl, e⟩
   ·exact .inl e
   ·refine .inr ⟨(coOf x).of C.t :: l, ?_, e⟩
    show (match opd ⟨C.n, C.t⟩ x, opds ⟨C.n, C.t⟩ xs with | some v, some l => some (v :: l) | _, _ => none) = _
    rw [coOf_ok hv, hl]
noncomputable def nvOk (m' m : Mem) (t : FT) : Bool := Bool.rec (motive := fun _ => Bool) (t.all (SV.nm m.nv)) true (Nat.beq m'.nv m.nv)
theorem nvOk_eq (m' m : Mem) (t : FT) : nvOk m' m t = (Nat.beq m'.nv m.nv || t.all (SV.nm m.nv)) := by unfold nvOk; cases Nat.beq m'.nv m.nv <;> rfl
noncomputable def ret1 (C : Ctx) (m' : Mem) (v : SV) : R := finM C v m'
noncomputable def retK (C : Ctx) (v : SV) (m' : Mem) : R :=
 Ctx.rec (motive := fun _ => Ctx → SV → Mem → R) (fun _ _ _ _ t m _ C v m' => yes (nvOk m' m t) (nfS v (ret1 C m')) none) C C v m'
theorem retK_eq (C : Ctx) (v : SV) (m' : Mem) : retK C v m' = if (Nat.beq m'.nv C.m.nv || C.t.all (SV.nm C.m.nv)) = true then finM C v m' else none := by
 show yes (nvOk m' C.m C.t) (nfS v (ret1 C m')) none = _
 rw [yes_eq, nvOk_eq, nfS_eq]
 rfl
noncomputable def enterK (cx : CX) (f : Nat) (C : Ctx) (l : List SV) : R := Ctx.rec (motive := fun _ => CX → Nat → Ctx → List SV → R) (fun _ _ _ _ _ m _ cx f C l => bindR (cx f l m) (retK C)) C cx f C l
noncomputable def calK (f : Nat) (args : List CO) (cx : CX) (C : Ctx) : R := argsK args C (enterK cx f C)
noncomputable def lstK (c : SV) : (List SV → R) → R → R := SV.rec (motive := fun _ => (List SV → R) → R → R) (fun _ N => N) (fun _ _ N => N) (fun _ _ _ N => N) (fun _ _ N => N) (fun _ N => N) (fun _ _ _ _ N => N) (fun _ N => N) (fun _ _ _ _ _ _ N => N) (fun _ _ _ _ N => N) (fun _ N => N) (fun _ _ _ _ N => N) (fun _ N => N) (fun _ _ _ N => N) (fun _ _ _ N => N) (fun k _ => k []) (fun a _ _ ih k N => vOr a (ih (consL k a) N) N) (fun _ _ _ _ _ _ N => N) (fun _ _ _ _ _ N => N) (fun _ _ _ _ N => N) c
noncomputable def appL (l : List SV) : List SV → (List SV → R) → R := List.rec (motive := fun _ => List SV → (List SV → R) → R) (fun b k => k b) (fun x _ ih b k => ih b (consL k x)) l
noncomputable def clv3 (cx : CX) (f : Nat) (C : Ctx) (cl l : List SV) : R := appL l cl (enterK cx f C)
noncomputable def clv2 (args : List CO) (cx : CX) (f : Nat) (C : Ctx) (cl : List SV) : R := argsK args C (clv3 cx f C cl)
noncomputable def clv1 (cf : Nat → Bool) (args : List CO) (cx : CX) (C : Ctx) (f : Nat) (caps : SV) : R := yes (cf f) (lstK caps (clv2 args cx f C) (fb C)) (fb C)
noncomputable def clv0 (cf : Nat → Bool) (args : List CO) (cx : CX) (C : Ctx) (v : SV) : R := onFn v (clv1 cf args cx C) (fb C)
noncomputable def clvK (cf : Nat → Bool) (x : CO) (args : List CO) (cx : CX) (C : Ctx) : R := opdC x C (clv0 cf args cx C)
noncomputable def inv2 (args : List CO) (cx : CX) (C : Ctx) (v : SV) (f : Nat) : R := argsK args C (consL (enterK cx f C) v)
noncomputable def inv1 (mf : Nat → Option Nat) (args : List CO) (cx : CX) (C : Ctx) (t : Nat) (v : SV) : R :=
 Option.rec (motive := fun _ => List CO → CX → Ctx → SV → R) (fun _ _ C _ => fb C) (fun f args cx C v => vOr v (inv2 args cx C v f) (fb C)) (mf t) args cx C v
noncomputable def inv0 (mf : Nat → Option Nat) (args : List CO) (cx : CX) (C : Ctx) (v : SV) : R := onIfc v (inv1 mf args cx C) (fb C)
noncomputable def invK (mf : Nat → Option Nat) (x : CO) (args : List CO) (cx : CX) (C : Ctx) : R := opdC x C (inv0 mf args cx C)
noncomputable def methOf {P : Program} (T : Tab P) (name : String) (t : Nat) : Option Nat := match T.meth t name with
 | some f => if T.call f = true then some f else none
 | none => none
theorem lstK_eq : ∀ (c : SV) (k : List SV → R) (N : R), lstK c k N = N ∨ ∃ l, listOf c = some l ∧ lstK c k N = k l
 | .nil, k, N => .inr ⟨[], rfl, rfl⟩
 | .cons x r, k, N => by
  show vOr x (lstK r (consL k x) N) N = N ∨ ∃ l, _ ∧ vOr x (lstK r (consL k x) N) N = k l
  rw [vOr_eq]
  by_cases hx : x.isV = true
  ·rw [if_pos hx]
   rcases lstK_eq r (consL k x) N with e | ⟨l, hl, e⟩
   ·exact .inl e
   ·exact .inr ⟨x :: l, by unfold listOf; rw [if_pos hx, hl], e⟩
  ·rw [if_neg hx]; exact .inl rfl
 | .undef, _, _ | .opq _, _, _ | .int _ _, _, _ | .bool _, _, _ | .nilp, _, _ | .ptr _ _ _, _, _ | .nils, _, _ | .sli _ _ _ _ _, _, _ | .fn _ _, _, _ | .nilf, _, _ | .ifc _ _, _, _ | .nili, _, _ | .agg _, _, _ | .tup _, _, _ | .arr _ _ _ _, _, _ | .wr _ _ _, _, _ | .rep _ _, _, _ => .inl rfl
theorem appL_eq : ∀ (l b : List SV) (k : List SV → R), appL l b k = k (l ++ b)
 | [], _, _ => rfl
 | x :: l, b, k => appL_eq l b (consL k x)
section
variable {P : Program} {T : Tab P} {cx : CX} {C : Ctx}
theorem enter_fin (h : Fits T cx C) (ha : appArgs T ⟨C.n, C.t⟩ C.o = none) {f : Nat} {l : List SV} (hv : opS T ⟨C.n, C.t⟩ C.o C.m = some [(.enter f l, C.m)]) : enterK cx f C l = fb C := by
 rw [← h.enter ha hv]
 show bindR (cx f l C.m) (retK C) = _
 congr 1
 funext v m'
 exact retK_eq C v m'
theorem cal_ok (h : Fits T cx C) {c : Call} {f : Nat} (ho : C.o.op = .call c) (hc : c.callee = .value (.func f)) (hf : T.call f = true) : calK f (c.args.toList.map coOf) cx C = fb C := by
 unfold calK
 rcases argsK_eq C c.args.toList (enterK cx f C) with e | ⟨l, hl, e⟩
 ·exact e
 ·rw [e]
  refine enter_fin h (by unfold appArgs; rw [ho]; dsimp only; rw [hc]) ?_
  unfold opS
  rw [ho]
  dsimp only
  unfold callS
  rw [hl]
  dsimp only
  rw [hc]
  show (if T.call f = true then X.pure (NX.enter f (l ++ [])) else X.none) C.m = _
  rw [if_pos hf, List.append_nil]
  rfl
theorem clv_ok (h : Fits T cx C) {c : Call} {x : Operand} (ho : C.o.op = .call c) (hc : c.callee = .value x) : clvK T.call (coOf x) (c.args.toList.map coOf) cx C = fb C := by
 unfold clvK
 rw [opdC_eq]
 unfold clv0
 cases hv : (coOf x).of C.t <;> try rfl
 rename_i f caps
 show clv1 T.call _ cx C f caps = _
 unfold clv1
 rw [yes_eq]
 split
 ·rename_i hf
  rcases lstK_eq caps (clv2 (c.args.toList.map coOf) cx f C) (fb C) with e | ⟨cl, hcl, e⟩
  ·exact e
  ·rw [e]
   unfold clv2
   rcases argsK_eq C c.args.toList (clv3 cx f C cl) with e2 | ⟨l, hl, e2⟩
   ·exact e2
   ·rw [e2]
    unfold clv3
    rw [appL_eq]
    refine enter_fin h (by unfold appArgs; rw [ho]; dsimp only; rw [hc]) ?_
    have hx : opd ⟨C.n, C.t⟩ x = some (.fn f caps) := by rw [coOf_ok (by rw [hv]; exact fun e => (by cases e)), hv]
    unfold opS
    rw [ho]
    dsimp only
    unfold callS
    rw [hl]
    dsimp only
    rw [hc]
    dsimp only
    rw [hx]
    dsimp only
    rw [hcl]
    dsimp only
    rw [if_pos hf]
    rfl
 ·rfl
theorem inv_ok (h : Fits T cx C) {c : Call} {x : Operand} {name : String} (ho : C.o.op = .call c) (hc : c.callee = .invoke x name) : invK (methOf T name) (coOf x) (c.args.toList.map coOf) cx C = fb C := by
 unfold invK
 rw [opdC_eq]
 unfold inv0
 cases hv : (coOf x).of C.t <;> try rfl
 rename_i t v
 show inv1 (methOf T name) _ cx C t v = _
 unfold inv1
 cases hm : methOf T name t with
 | none => rfl
 | some f =>
  show vOr v (inv2 (c.args.toList.map coOf) cx C v f) (fb C) = _
  rw [vOr_eq]
  split
  ·rename_i hV
   unfold inv2
   rcases argsK_eq C c.args.toList (consL (enterK cx f C) v) with e | ⟨l, hl, e⟩
   ·exact e
   ·rw [e]
    show enterK cx f C (v :: l) = _
    refine enter_fin h (by unfold appArgs; rw [ho]; dsimp only; rw [hc]) ?_
    have hx : opd ⟨C.n, C.t⟩ x = some (.ifc t v) := by rw [coOf_ok (by rw [hv]; exact fun e => (by cases e)), hv]
    unfold methOf at hm
    unfold opS
    rw [ho]
    dsimp only
    unfold callS
    rw [hl]
    dsimp only
    rw [hc]
    dsimp only
    rw [hx]
    dsimp only
    cases hme : T.meth t name with
    | none => rw [hme] at hm; cases hm
    | some f' =>
     rw [hme] at hm
     dsimp only at hm
     split at hm
     ·rename_i hf
      cases hm
      dsimp only
      rw [if_pos ⟨hf, hV⟩]
      rfl
     ·cases hm
  ·rfl
end
noncomputable def spl4 (x : SV) (K : SV → R) (b : SV) : R := appK x x b K
noncomputable def spl3 (v : SV) (K : SV → R) (x y : SV) : R := appK v v y (spl4 x K)
noncomputable def spl2 (c : SV) (o n : Nat) (v : SV) (K : SV → R) (N : R) (w : Nat) (x : SV) : R := takeK c (Nat.add o n) (Nat.sub w (Nat.add o n)) (spl3 v K x) N
noncomputable def spl1 (c : SV) (o n : Nat) (v : SV) (K : SV → R) (N : R) (w : Nat) : R := takeK c 0 o (spl2 c o n v K N w) N
noncomputable def splK (c : SV) (o n : Nat) (v : SV) (K : SV → R) (N : R) : R := wdK c 0 (spl1 c o n v K N) N
theorem splK_at (c : SV) (o n : Nat) (v : SV) (K : SV → R) (N : R) : splK c o n v K N = N ∨ ∃ r, spliceC c o n v = some r ∧ splK c o n v K N = K r := by
 unfold splK
 rcases wdK_at c 0 (spl1 c o n v K N) N with e | ⟨w, hw, e⟩
 ·exact .inl e
 ·rw [e]
  unfold spl1
  rcases takeK_at c 0 o (spl2 c o n v K N (0 + w)) N with e2 | ⟨x, hx, e2⟩
  ·exact .inl e2
  ·rw [e2]
   unfold spl2
   rcases takeK_at c (Nat.add o n) (Nat.sub (0 + w) (Nat.add o n)) (spl3 v K x) N with e3 | ⟨y, hy, e3⟩
   ·exact .inl e3
   ·rw [e3]
    unfold spl3
    rw [appK_eq]
    unfold spl4
    rw [appK_eq]
    refine .inr ⟨appC x (appC v y), ?_, rfl⟩
    unfold spliceC
    rw [hw]
    dsimp only
    rw [hx]
    rw [Nat.zero_add] at hy
    rw [show takeC c (o + n) (w - (o + n)) = some y from hy]
abbrev BldT := SV → Ctx → R
noncomputable def bl3 (off sz : Nat) (c vc : SV) (ih : BldT) (C : Ctx) (w : Nat) : R := yes (Nat.beq w sz) (splK c off sz vc (fun c => ih c C) (fb C)) (fb C)
noncomputable def bl2 (off sz : Nat) (c : SV) (ih : BldT) (C : Ctx) (vc : SV) : R := wdK vc 0 (bl3 off sz c vc ih C) (fb C)
noncomputable def bl1 (off sz : Nat) (c : SV) (ih : BldT) (C : Ctx) (v : SV) : R := onAgg v (bl2 off sz c ih C) (cOr v (bl2 off sz c ih C (.cons v .nil)) (fb C))
abbrev PartC := (Nat × Nat) × CO
noncomputable def bldK (ps : List PartC) : BldT :=
 List.rec (motive := fun _ => BldT) (fun c C => finA C c)
  (fun p _ ih c C => Prod.rec (motive := fun _ => BldT → SV → Ctx → R) (fun os x ih c C => Prod.rec (motive := fun _ => CO → BldT → SV → Ctx → R) (fun off sz x ih c C => opdC x C (bl1 off sz c ih C)) os x ih c C) p ih c C) ps
noncomputable def placesOf (place : Nat → Option (Nat × Nat)) : List (Nat × Operand) → Option (List ((Nat × Nat) × Operand))
 | [] => some []
 | (i, x) :: r => match place i, placesOf place r with
  | some p, some l => some ((p, x) :: l)
  | _, _ => none
theorem bldK_at (C : Ctx) (place : Nat → Option (Nat × Nat)) : ∀ (ps : List (Nat × Operand)) (qs : List ((Nat × Nat) × Operand)) (c : SV), placesOf place ps = some qs → bldK (qs.map fun q => (q.1, coOf q.2)) c C = fb C ∨ ∃ l r, partsS ⟨C.n, C.t⟩ ps = some l ∧ fillS place c l = some r ∧ bldK (qs.map fun q => (q.1, coOf q.2)) c C = fin C (.agg r)
 | [], qs, c, h => by cases h; exact .inr ⟨[], c, rfl, rfl, rfl⟩
 | (i, x) :: ps, qs, c, h => by
  unfold placesOf at h
  cases hp : place i with
  | none => rw [hp] at h; cases h
  | some p =>
   cases hq : placesOf place ps with
   | none => rw [hp, hq] at h; cases h
   | some qs' =>
    rw [hp, hq] at h
    cases h
    obtain ⟨off, sz⟩ := p
    show opdC (coOf x) C (bl1 off sz c (bldK (qs'.map fun q => (q.1, coOf q.2))) C) = fb C ∨ ∃ l r, _ ∧ _ ∧ opdC (coOf x) C (bl1 off sz c (bldK (qs'.map fun q => (q.1, coOf q.2))) C) = fin C (.agg r)
    rw [opdC_eq]
    have key : ∀ vc, cellsS ((coOf x).of C.t) = some vc → (coOf x).of C.t ≠ .nil → bl2 off sz c (bldK (qs'.map fun q => (q.1, coOf q.2))) C vc = fb C ∨ ∃ l r, partsS ⟨C.n, C.t⟩ ((i, x) :: ps) = some l ∧ fillS place c l = some r ∧ bl2 off sz c (bldK (qs'.map fun q => (q.1, coOf q.2))) C vc = fin C (.agg r) := fun vc hc hv => by
     unfold bl2
     rcases wdK_at vc 0 (bl3 off sz c vc (bldK (qs'.map fun q => (q.1, coOf q.2))) C) (fb C) with e | ⟨w, hw, e⟩
     ·exact .inl e
     ·rw [e]
      unfold bl3
      rw [yes_beq]
      by_cases h0 : 0 + w = sz
      ·rw [if_pos h0]
       rw [Nat.zero_add] at h0
       rcases splK_at c off sz vc (fun c => bldK (qs'.map fun q => (q.1, coOf q.2)) c C) (fb C) with e2 | ⟨c', hc', e2⟩
       ·exact .inl e2
       ·rw [e2]
        rcases bldK_at C place ps qs' c' hq with e3 | ⟨l, r, hl, hr, e3⟩
        ·exact .inl e3
        ·refine .inr ⟨(i, (coOf x).of C.t) :: l, r, ?_, ?_, e3⟩
         ·unfold partsS
          rw [coOf_ok hv, hl]
         ·unfold fillS
          rw [hp, hc]
          dsimp only
          rw [if_pos (by rw [hw, h0]), hc']
          exact hr
      ·rw [if_neg h0]; exact .inl rfl
    unfold bl1
    generalize (coOf x).of C.t = v at key
    cases v <;> first | exact .inl rfl | exact key _ rfl (by intro hh; cases hh)
section
variable {P : Program} {T : Tab P} {cx : CX} {C : Ctx}
noncomputable def placeOf' (T : Tab P) (t : Nat) : Option (Nat → Option (Nat × Nat)) :=
 match T.under t with
 | some (.struct fs) => match sizesOf T fs.toList with
  | some pl => some (pl.toArray[·]?)
  | none => none
 | some (.array _ elem) => match sizeIn T elem with
  | some n => some fun i => some (i * n, n)
  | none => none
 | _ => none
theorem bld_ok (h : Fits T cx C) {t : Nat} {ps : Array (Nat × Operand)} {z : SV} {place : Nat → Option (Nat × Nat)} {qs : List ((Nat × Nat) × Operand)} (ho : C.o.op = .build t ps) (hz : T.zero t = some (.agg z)) (hp : placeOf' T t = some place) (hq : placesOf place ps.toList = some qs) :
  bldK (qs.map fun q => (q.1, coOf q.2)) z C = fb C := by
 rcases bldK_at C place ps.toList qs z hq with e | ⟨l, r, hl, hr, e⟩
 ·exact e
 ·rw [e]
  refine h.valX (by unfold appArgs; rw [ho]) (x := X.ofOption (some (.agg r))) ?_ rfl
  unfold opS
  rw [ho]
  dsimp only
  rw [hl]
  dsimp only
  have : buildS T t l = some (.agg r) := by
   unfold buildS
   unfold placeOf' at hp
   rw [hz]
   dsimp only
   split
   ·rename_i fs hu
    rw [hu] at hp
    dsimp only at hp
    split
    ·rename_i pl hpl
     rw [hpl] at hp
     cases hp
     rw [hr]
    ·rename_i hpl
     rw [hpl] at hp
     cases hp
   ·rename_i elem hu
    rw [hu] at hp
    dsimp only at hp
    split
    ·rename_i n hn
     rw [hn] at hp
     cases hp
     rw [hr]
    ·rename_i hn
     rw [hn] at hp
     cases hp
   ·rename_i h1 h2
    exfalso
    revert hp
    cases hu : T.under t with
    | none => intro hp; cases hp
    | some d => cases d <;> first | (intro hp; cases hp; done) | exact absurd hu (h1 _) | exact absurd hu (h2 _ _)
  rw [this]
  rfl
end
end Go.Sx
namespace Go.Sx
open Go
abbrev Leaf := Nat × Nat × Nat
abbrev EqxT := Nat → SV → SV → X BE
abbrev SlowT := SV → SV → List Leaf → X BE
abbrev BEK := BE → Mem → R
abbrev EqKT := EqxT → SlowT → SV → SV → Mem → BEK → R
noncomputable def brQ (c : BE) (m : Mem) (k : Bool → Mem → R) : R :=
 BE.rec (motive := fun _ => BE → Mem → (Bool → Mem → R) → R) (fun b _ m k => k b m) (fun _ c m k => bindR (branch c m) k) (fun _ _ c m k => bindR (branch c m) k) (fun _ _ c m k => bindR (branch c m) k) (fun _ _ c m k => bindR (branch c m) k) c c m k
theorem zEq_refl (z : Int) : zEq z z = true := by cases z <;> exact Nat.beq_refl _
theorem ieEq_refl (e : IE) : ieEq e e = true := by
 induction e with
 | lit z => exact zEq_refl z
 | var i => exact Nat.beq_refl i
 | sel r i ih => show andB (Nat.beq r r) (ieEq i i) = true; rw [Nat.beq_refl, ih]; rfl
 | add a b iha ihb => show andB (ieEq a a) (ieEq b b) = true; rw [iha, ihb]; rfl
 | sub a b iha ihb => show andB (ieEq a a) (ieEq b b) = true; rw [iha, ihb]; rfl
 | mul a b iha ihb => show andB (ieEq a a) (ieEq b b) = true; rw [iha, ihb]; rfl
 | quo a b iha ihb => show andB (ieEq a a) (ieEq b b) = true; rw [iha, ihb]; rfl
 | rem a b iha ihb => show andB (ieEq a a) (ieEq b b) = true; rw [iha, ihb]; rfl
 | wrap k a ih => show andB (Nat.beq (kindNo k) (kindNo k)) (ieEq a a) = true; rw [Nat.beq_refl, ih]; rfl
 | bit op k a b iha ihb => show andB (decide (op = op)) (andB (Nat.beq (kindNo k) (kindNo k)) (andB (ieEq a a) (ieEq b b))) = true; rw [Nat.beq_refl, iha, ihb, decide_eq_true rfl]; rfl
 | shr a n ih => show andB (ieEq a a) (Nat.beq n n) = true; rw [Nat.beq_refl, ih]; rfl
 | app f x ih => show andB (Nat.beq f f) (ieEq x x) = true; rw [Nat.beq_refl, ih]; rfl
 | arg a r iha ihr => show andB (ieEq a a) (ieEq r r) = true; rw [iha, ihr]; rfl
 | noarg => rfl
 | ite k a b x y iha ihb ihx ihy => show andB (bEq k k) (andB (ieEq a a) (andB (ieEq b b) (andB (ieEq x x) (ieEq y y)))) = true; rw [iha, ihb, ihx, ihy]; cases k <;> rfl
 | bv i => exact Nat.beq_refl i
theorem brQ_eq (c : BE) (m : Mem) (k : Bool → Mem → R) : brQ c m k = bindR (branch c m) k := by cases c <;> rfl
noncomputable def eq5 (ih : EqKT) (ex : EqxT) (sl : SlowT) (xs ys : SV) (K : BEK) (r : Bool) (m : Mem) : R :=
 Bool.rec (motive := fun _ => EqKT → EqxT → SlowT → SV → SV → Mem → BEK → R) (fun _ _ _ _ _ m K => K (.lit false) m) (fun ih ex sl xs ys m K => ih ex sl xs ys m K) r ih ex sl xs ys m K
noncomputable def eq4 (ih : EqKT) (ex : EqxT) (sl : SlowT) (xs ys : SV) (K : BEK) (c : BE) (m : Mem) : R := brQ c m (eq5 ih ex sl xs ys K)
noncomputable def eqI (a b : SV) : Bool := vbInt a fun k e => vbInt b fun k' e' => andB (Nat.beq (kindNo k) (kindNo k')) (ieEq e e')
noncomputable def eqB (a b : SV) : Bool := vbBool a fun e => vbBool b fun e' => beEq e e'
noncomputable def same1 (kd : Nat) (a b : SV) : Bool := Nat.rec (motive := fun _ => SV → SV → Bool) (fun _ _ => false) (fun n _ a b => Nat.rec (motive := fun _ => SV → SV → Bool) (fun a b => eqI a b) (fun _ _ a b => eqB a b) n a b) kd a b
noncomputable def eq3 (ih : EqKT) (ex : EqxT) (sl : SlowT) (xs ys : SV) (m : Mem) (K : BEK) (t kd : Nat) (a b : SV) : R := yes (same1 kd a b) (ih ex sl xs ys m K) (bindR (ex t a b m) (eq4 ih ex sl xs ys K))
noncomputable def eq2 (ih : EqKT) (ex : EqxT) (sl : SlowT) (xs ys : SV) (m : Mem) (K : BEK) (N : R) (off t kd : Nat) (a : SV) : R := getNK ys off (eq3 ih ex sl xs ys m K t kd a) N
noncomputable def eq1 (ih : EqKT) (ex : EqxT) (sl : SlowT) (xs ys : SV) (m : Mem) (K : BEK) (N : R) (off t kd : Nat) : R := getNK xs off (eq2 ih ex sl xs ys m K N off t kd) N
noncomputable def eqK (l : List Leaf) : EqKT :=
 List.rec (motive := fun _ => EqKT) (fun _ _ _ _ m K => K (.lit true) m)
  (fun p r ih ex sl xs ys m K => Prod.rec (motive := fun _ => List Leaf → Leaf → EqKT → EqKT) (fun off q r p ih ex sl xs ys m K => Prod.rec (motive := fun _ => Nat → R → EqKT → EqKT) (fun t kd off N ih ex sl xs ys m K => eq1 ih ex sl xs ys m K N off t kd) q off (bindR (sl xs ys (p :: r) m) K) ih ex sl xs ys m K) p r p ih ex sl xs ys m K) l
noncomputable def leafKind {P : Program} (T : Tab P) (t : Nat) : Nat := match T.under t with
 | some (.int _) => 1
 | some .bool => 2
 | _ => 0
noncomputable def leafOf {P : Program} (T : Tab P) (p : Nat × Nat) : Leaf := (p.1, p.2, leafKind T p.2)
noncomputable def slowOf {P : Program} (T : Tab P) : SlowT := fun xs ys l => eqFieldsS T xs ys (l.map fun p => (p.1, p.2.1))
theorem eqI_ok {a b : SV} (h : eqI a b = true) : ∃ k e, a = .int k e ∧ b = .int k e := by
 obtain ⟨k, e, rfl, h⟩ := vbInt_ok (vv := a) h
 obtain ⟨k', e', rfl, h⟩ := vbInt_ok (vv := b) h
 obtain ⟨h1, h2⟩ := andB_ok h
 rw [kindNo_eq h1, ieEq_ok h2]
 exact ⟨_, _, rfl, rfl⟩
theorem eqB_ok {a b : SV} (h : eqB a b = true) : ∃ e, a = .bool e ∧ b = .bool e := by
 obtain ⟨e, rfl, h⟩ := vbBool_ok (vv := a) h
 obtain ⟨e', rfl, h⟩ := vbBool_ok (vv := b) h
 rw [beEq_ok h]
 exact ⟨_, rfl, rfl⟩
theorem mkEq_same (kn : Know) (e : IE) : mkEq kn e e = .lit true := by
 unfold mkEq
 split
 ·simp
 ·rw [if_pos (ieEq_refl _)]
theorem same1_ok {P : Program} {T : Tab P} {t : Nat} {a b : SV} (h : same1 (leafKind T t) a b = true) (m : Mem) : eqX T t a b m = some [(.lit true, m)] := by
 unfold leafKind at h
 cases hu : T.under t with
 | none => rw [hu] at h; cases h
 | some d =>
  rw [hu] at h
  cases d <;> first | (cases h; done) | skip
  case bool =>
   obtain ⟨e, rfl, rfl⟩ := eqB_ok (show eqB a b = true from h)
   unfold eqX
   rw [hu]
   dsimp only
   rw [if_pos rfl]
   rfl
  case int k =>
   obtain ⟨k', e, rfl, rfl⟩ := eqI_ok (show eqI a b = true from h)
   unfold eqX
   rw [hu]
   show (X.ofOption (eqCell T m.know t (.int k' e) (.int k' e))) m = _
   unfold eqCell
   rw [hu]
   dsimp only
   rw [if_pos rfl, mkEq_same]
   rfl
theorem eqK_eq {P : Program} (T : Tab P) : ∀ (l : List (Nat × Nat)) (xs ys : SV) (m : Mem) (K : BEK), eqK (l.map (leafOf T)) (eqX T) (slowOf T) xs ys m K = bindR (eqFieldsS T xs ys l m) K
 | [], xs, ys, m, K => rfl
 | (off, t) :: l, xs, ys, m, K => by
  have hs : slowOf T xs ys (leafOf T (off, t) :: l.map (leafOf T)) = eqFieldsS T xs ys ((off, t) :: l) := by
   unfold slowOf
   rw [List.map_cons, List.map_map]
   congr 1
   show (off, t) :: l.map _ = _
   congr 1
   exact List.map_id' l
  show eq1 (eqK (l.map (leafOf T))) (eqX T) (slowOf T) xs ys m K (bindR (slowOf T xs ys (leafOf T (off, t) :: l.map (leafOf T)) m) K) off t (leafKind T t) = _
  rw [hs]
  unfold eq1
  rcases getNK_at xs off (eq2 (eqK (l.map (leafOf T))) (eqX T) (slowOf T) xs ys m K (bindR (eqFieldsS T xs ys ((off, t) :: l) m) K) off t (leafKind T t)) (bindR (eqFieldsS T xs ys ((off, t) :: l) m) K) with e | ⟨a, ha, e⟩
  ·exact e
  ·rw [e]
   unfold eq2
   rcases getNK_at ys off (eq3 (eqK (l.map (leafOf T))) (eqX T) (slowOf T) xs ys m K t (leafKind T t) a) (bindR (eqFieldsS T xs ys ((off, t) :: l) m) K) with e | ⟨b, hb, e⟩
   ·exact e
   ·rw [e]
    have step : bindR (eqFieldsS T xs ys ((off, t) :: l) m) K = bindR (eqX T t a b m) (eq4 (eqK (l.map (leafOf T))) (eqX T) (slowOf T) xs ys K) := by
     show bindR (X.bind (getC xs (.lit off)) (fun a => X.bind (getC ys (.lit off)) fun b => X.bind (eqX T t a b) fun c => X.bind (branch c) fun r => if r then eqFieldsS T xs ys l else X.pure (.lit false)) m) K = _
     rw [bind_one (ha m), bind_one (hb m), bindR_bind]
     congr 1
     funext c m'
     rw [bindR_bind]
     show _ = brQ c m' _
     rw [brQ_eq]
     congr 1
     funext r m2
     cases r
     ·rfl
     ·exact (eqK_eq T l xs ys m2 K).symm
    unfold eq3
    rw [yes_eq]
    split
    ·rename_i hsm
     rw [step, same1_ok hsm m, bindR_one]
     show _ = brQ (.lit true) m _
     exact rfl
    ·rw [step]
noncomputable def yesB (b : Bool) (x y : BE) : BE := match b with | true => x | false => y
noncomputable def finQ (ng : Bool) (C : Ctx) (c : BE) (m : Mem) : R :=
 BE.rec (motive := fun _ => Bool → Ctx → BE → Mem → R) (fun b ng C _ m => yes (bEq b ng) (finM C (.bool (.lit false)) m) (finM C (.bool (.lit true)) m))
  (fun _ ng C c m => finM C (.bool (yesB ng (mkNot c) c)) m) (fun _ _ ng C c m => finM C (.bool (yesB ng (mkNot c) c)) m) (fun _ _ ng C c m => finM C (.bool (yesB ng (mkNot c) c)) m) (fun _ _ ng C c m => finM C (.bool (yesB ng (mkNot c) c)) m) c ng C c m
theorem finQ_eq (ng : Bool) (C : Ctx) (c : BE) (m : Mem) : finQ ng C c m = finM C (.bool (if ng then mkNot c else c)) m := by
 cases c with
 | lit b => cases ng <;> cases b <;> rfl
 | _ => cases ng <;> rfl
noncomputable def qa5 (ng : Bool) (l : List Leaf) (ex : EqxT) (sl : SlowT) (xs ys : SV) (C : Ctx) : R := Ctx.rec (motive := fun _ => Bool → List Leaf → EqxT → SlowT → SV → SV → Ctx → R) (fun _ _ _ _ _ m _ ng l ex sl xs ys C => eqK l ex sl xs ys m (finQ ng C)) C ng l ex sl xs ys C
noncomputable def qa4 (ng : Bool) (l : List Leaf) (n : Nat) (ex : EqxT) (sl : SlowT) (xs ys : SV) (C : Ctx) (b : Nat) : R := yes (Nat.beq b n) (qa5 ng l ex sl xs ys C) (fb C)
noncomputable def qa3 (ng : Bool) (l : List Leaf) (n : Nat) (ex : EqxT) (sl : SlowT) (xs ys : SV) (C : Ctx) (a : Nat) : R := yes (Nat.beq a n) (wdK ys 0 (qa4 ng l n ex sl xs ys C) (fb C)) (fb C)
noncomputable def qa2 (ng : Bool) (l : List Leaf) (n : Nat) (ex : EqxT) (sl : SlowT) (C : Ctx) (xs ys : SV) : R := wdK xs 0 (qa3 ng l n ex sl xs ys C) (fb C)
noncomputable def qa1 (ng : Bool) (l : List Leaf) (n : Nat) (ex : EqxT) (sl : SlowT) (C : Ctx) (xs : SV) (w : SV) : R := onAgg w (qa2 ng l n ex sl C xs) (fb C)
noncomputable def qaB (ng : Bool) (l : List Leaf) (n : Nat) (ex : EqxT) (sl : SlowT) (y : CO) (C : Ctx) (xs : SV) : R := opdC y C (qa1 ng l n ex sl C xs)
noncomputable def qa0 (ng : Bool) (l : List Leaf) (n : Nat) (ex : EqxT) (sl : SlowT) (y : CO) (C : Ctx) (v : SV) : R := onAgg v (qaB ng l n ex sl y C) (fb C)
noncomputable def qaK (ng : Bool) (l : List Leaf) (n : Nat) (ex : EqxT) (sl : SlowT) (x y : CO) (C : Ctx) : R := opdC x C (qa0 ng l n ex sl y C)
section
variable {P : Program} {T : Tab P} {cx : CX} {C : Ctx}
theorem Fits.multi (h : Fits T cx C) (ha : appArgs T ⟨C.n, C.t⟩ C.o = none) {x : X SV} (ho : opS T ⟨C.n, C.t⟩ C.o = Sx.valX x) : bindR (x C.m) (fun v m' => finM C v m') = fb C := by
 rw [h.fb_eq, h.step ha, ho, bindR_bind]
 unfold Sx.valX
 rw [bindR_bind]
 congr 1
 funext v m'
 rw [bindR_pure]
 show _ = bindR (putX' ⟨C.n, C.t⟩ C.o.dst v m') C.K
 rw [putX'_eq, bindR_pure, finM_eq C v m' h.d]
theorem qa_ok (h : Fits T cx C) {op : BinOp} {t t' n : Nat} {x y : Operand} {l : List (Nat × Nat)} {ng : Bool} (hop : op = if ng then .neq else .eql) (ho : C.o.op = .binOp op t x y t') (hl : T.eqs t = some l) (hn : sizeIn T t = some n) :
  qaK ng (l.map (leafOf T)) n (eqX T) (slowOf T) (coOf x) (coOf y) C = fb C := by
 unfold qaK
 rw [opdC_eq]
 unfold qa0
 cases hv : (coOf x).of C.t <;> try rfl
 rename_i xs
 show opdC (coOf y) C (qa1 ng (l.map (leafOf T)) n (eqX T) (slowOf T) C xs) = _
 rw [opdC_eq]
 unfold qa1
 cases hw : (coOf y).of C.t <;> try rfl
 rename_i ys
 show qa2 ng (l.map (leafOf T)) n (eqX T) (slowOf T) C xs ys = _
 unfold qa2
 rcases wdK_at xs 0 (qa3 ng (l.map (leafOf T)) n (eqX T) (slowOf T) xs ys C) (fb C) with e | ⟨a, ha, e⟩
 ·exact e
 ·rw [e]
  unfold qa3
  rw [yes_beq]
  by_cases h1 : 0 + a = n
  ·rw [if_pos h1]
   rcases wdK_at ys 0 (qa4 ng (l.map (leafOf T)) n (eqX T) (slowOf T) xs ys C) (fb C) with e2 | ⟨b, hb, e2⟩
   ·exact e2
   ·rw [e2]
    unfold qa4
    rw [yes_beq]
    by_cases h2 : 0 + b = n
    ·rw [if_pos h2]
     show eqK (l.map (leafOf T)) (eqX T) (slowOf T) xs ys C.m (finQ ng C) = _
     rw [eqK_eq]
     have hx : opd ⟨C.n, C.t⟩ x = some (.agg xs) := by rw [coOf_ok (by rw [hv]; exact fun e => (by cases e)), hv]
     have hy : opd ⟨C.n, C.t⟩ y = some (.agg ys) := by rw [coOf_ok (by rw [hw]; exact fun e => (by cases e)), hw]
     have hs : eqS T t (.agg xs) (.agg ys) = eqFieldsS T xs ys l := by
      unfold eqS
      dsimp only
      rw [hl, ha, hb, hn]
      dsimp only
      rw [if_pos ⟨by omega, by omega⟩]
     have hB : opS T ⟨C.n, C.t⟩ C.o = Sx.valX (X.bind (eqFieldsS T xs ys l) fun c => X.pure (.bool (if ng then mkNot c else c))) := by
      unfold opS
      rw [ho]
      dsimp only
      rw [hx, hy]
      dsimp only
      congr 1
      unfold binS
      rw [hop]
      cases ng
      ·simp only [Bool.false_eq_true, if_false]
       rw [if_neg (by simp), hs]
      ·simp only [if_true]
       rw [if_neg (by simp), hs]
     rw [← h.multi (by unfold appArgs; rw [ho]) hB, bindR_bind]
     congr 1
     funext c m'
     rw [bindR_pure, finQ_eq]
    ·rw [if_neg h2]
  ·rw [if_neg h1]
end
end Go.Sx
