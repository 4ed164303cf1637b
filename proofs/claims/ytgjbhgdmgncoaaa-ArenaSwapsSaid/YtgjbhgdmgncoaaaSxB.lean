/- The executor's values, cells and memory. -/
import Derived.Test.YtgjbhgdmgncoaaaSxA
namespace Go.Sx
open Go

inductive SV where
  | undef
  | opq (j : Nat)
  | int (k : IntKind) (e : IE)
  | bool (b : BE)
  | nilp
  | ptr (s k : Nat) (off : IE)
  | nils
  | sli (s k : Nat) (off len cap : IE)
  | fn (f : Nat) (caps : SV)
  | nilf
  | ifc (t : Nat) (v : SV)
  | nili
  | agg (cs : SV)
  | tup (cs : SV)
  | nil
  | cons (a b : SV)
  | arr (k : IntKind) (r : Nat) (n : IE) (ws : SV)
  | wr (i x : IE) (ws : SV)
  deriving DecidableEq, Repr, Inhabited

section
variable (E : Env)
def wsVal (r : Nat) : SV → Nat → Int
  | .wr i x ws, j => if ev E i = (j : Int) then ev E x else wsVal r ws j
  | _, j => (E.row r).getD j 0
def arrCells (k : IntKind) (r : Nat) (n : Nat) (ws : SV) : List Value := (List.range n).map fun j => .int k (wsVal E r ws j)
def addrOf (s k : Nat) (off : IE) : Addr := ⟨E.base s + k, E.o s + (ev E off).toNat, none⟩
/-- the cells of a chain; a value is a chain of itself alone -/
def dl : SV → List Value
  | .undef => [.tuple #[]]
  | .opq j => [E.v j]
  | .int k e => [.int k (ev E e)]
  | .bool b => [.bool (evB E b)]
  | .nilp => [.pointer none]
  | .ptr s k off => [.pointer (some (addrOf E s k off))]
  | .nils => [.slice none 0 0]
  | .sli s k off len cap => [.slice (some (addrOf E s k off)) (ev E len).toNat (ev E cap).toNat]
  | .fn f caps => [.func (.func f) #[] (dl caps).toArray]
  | .nilf => [.nilFunc]
  | .ifc t v => [.iface t ((dl v).headD (.tuple #[]))]
  | .nili => [.nilIface]
  | .agg cs => [.agg (dl cs).toArray]
  | .tup cs => [.tuple (dl cs).toArray]
  | .nil => []
  | .cons a b => dl a ++ dl b
  | .arr k r n ws => arrCells E k r (ev E n).toNat ws
  | .wr _ _ _ => []
def dv (v : SV) : Value := (dl E v).headD (.tuple #[])
end

/-- no chain -/
def SV.isV : SV → Bool
  | .opq _ | .nil | .cons _ _ | .arr _ _ _ _ | .wr _ _ _ => false
  | _ => true
/-- the value of one cell -/
def SV.isC : SV → Bool
  | .opq _ | .nil | .cons _ _ | .arr _ _ _ _ | .wr _ _ _ | .agg _ | .tup _ | .undef => false
  | _ => true
theorem SV.isC_isV {v : SV} (h : v.isC = true) : v.isV = true := by cases v <;> simp_all [SV.isC, SV.isV]
theorem dl_isV (E : Env) {v : SV} (h : v.isV = true) : dl E v = [dv E v] := by
  cases v <;> simp_all [SV.isV, dv, dl]
def Value.isCell : Value → Bool
  | .agg _ | .tuple _ => false
  | _ => true
theorem dv_isC (E : Env) {v : SV} (h : v.isC = true) : Value.isCell (dv E v) = true := by
  cases v <;> simp_all [SV.isC, dv, dl, Value.isCell]

/-- the cells of a value -/
def cellsS : SV → Option SV
  | .agg cs => some cs
  | v => if v.isC then some (.cons v .nil) else none
theorem cellsS_ok (E : Env) {v c : SV} (h : cellsS v = some c) : (dv E v).cells = (dl E c).toArray := by
  unfold cellsS at h
  split at h
  · cases h; simp [dv, dl, Value.cells]
  · split at h
    · rename_i hc
      cases h
      have hv := dl_isV E (SV.isC_isV hc)
      have hcell := dv_isC E hc
      simp only [dl, List.append_nil]
      rw [hv]
      cases hh : dv E v <;> simp_all [Value.cells, Value.isCell]
    · cases h

theorem dl_len_isV (E : Env) {v : SV} (h : v.isV = true) : (dl E v).length = 1 := by rw [dl_isV E h]; rfl
/-- how many cells a chain has -/
def wd : SV → Option Nat
  | .nil => some 0
  | .cons a b => match wd a, wd b with | some x, some y => some (x + y) | _, _ => none
  | .arr _ _ n _ => match n with | .lit z => some z.toNat | _ => none
  | .wr _ _ _ => none
  | .opq _ => none
  | _v => some 1
theorem wd_ok (E : Env) : ∀ (c : SV) (n : Nat), wd c = some n → (dl E c).length = n := by
  intro c
  induction c with
  | cons a b iha ihb =>
    intro n h
    simp only [wd] at h
    split at h
    · rename_i x y hx hy
      cases h
      simp only [dl, List.length_append, iha x hx, ihb y hy]
    · cases h
  | arr k r n ws _ =>
    intro m h
    simp only [wd] at h
    split at h
    · cases h; simp [dl, arrCells, ev_lit]
    · cases h
  | wr i x ws _ => intro n h; simp [wd] at h
  | opq j => intro n h; simp [wd] at h
  | _ => intro n h; simp [wd] at h; subst h; simp [dl]


/- normal forms, made at once: 'nf x k' is 'k x' -/
noncomputable def nfN {α : Type} (n : Nat) (k : Nat → α) : α := Nat.rec (motive := fun _ => α) (k 0) (fun m _ => k (m + 1)) n
theorem nfN_eq {α : Type} (n : Nat) (k : Nat → α) : nfN n k = k n := by cases n <;> rfl
noncomputable def nfZ {α : Type} (z : Int) (k : Int → α) : α := Int.rec (motive := fun _ => α) (fun n => nfN n fun n => k (.ofNat n)) (fun n => nfN n fun n => k (.negSucc n)) z
theorem nfZ_eq {α : Type} (z : Int) (k : Int → α) : nfZ z k = k z := by
  cases z with
  | ofNat n => exact nfN_eq n fun n => k (.ofNat n)
  | negSucc n => exact nfN_eq n fun n => k (.negSucc n)
noncomputable def nfI {α : Type} (e : IE) : (IE → α) → α :=
  IE.rec (motive := fun _ => (IE → α) → α)
    (fun z k => nfZ z fun z => k (.lit z)) (fun i k => nfN i fun i => k (.var i)) (fun r _ ih k => nfN r fun r => ih fun i => k (.sel r i))
    (fun _ _ ha hb k => ha fun a => hb fun b => k (.add a b)) (fun _ _ ha hb k => ha fun a => hb fun b => k (.sub a b)) (fun _ _ ha hb k => ha fun a => hb fun b => k (.mul a b))
    (fun _ _ ha hb k => ha fun a => hb fun b => k (.quo a b)) (fun _ _ ha hb k => ha fun a => hb fun b => k (.rem a b)) (fun kd _ ha k => ha fun a => k (.wrap kd a))
    (fun op kd _ _ ha hb k => ha fun a => hb fun b => k (.bit op kd a b)) (fun _ n ha k => ha fun a => nfN n fun n => k (.shr a n)) (fun f _ ha k => nfN f fun f => ha fun a => k (.app f a))
    (fun _ _ ha hb k => ha fun a => hb fun b => k (.arg a b)) (fun k => k .noarg) e
theorem nfI_eq {α : Type} (e : IE) : ∀ k : IE → α, nfI e k = k e := by
  induction e with
  | lit z => intro k; exact nfZ_eq z fun z => k (.lit z)
  | var i => intro k; exact nfN_eq i fun i => k (.var i)
  | sel r i ih => intro k; show (nfN r fun r => nfI i fun i => k (.sel r i)) = _; rw [nfN_eq]; exact ih _
  | wrap kd a ih => intro k; exact ih _
  | shr a n ih => intro k; show (nfI a fun a => nfN n fun n => k (.shr a n)) = _; rw [ih, nfN_eq]
  | app f a ih => intro k; show (nfN f fun f => nfI a fun a => k (.app f a)) = _; rw [nfN_eq]; exact ih _
  | noarg => intro k; rfl
  | _ => rename_i a b iha ihb; intro k; show nfI a _ = _; rw [iha]; exact ihb _
noncomputable def nfB {α : Type} (c : BE) : (BE → α) → α :=
  BE.rec (motive := fun _ => (BE → α) → α)
    (fun b k => Bool.rec (motive := fun _ => α) (k (.lit false)) (k (.lit true)) b) (fun i k => nfN i fun i => k (.var i)) (fun a b k => nfI a fun a => nfI b fun b => k (.lt a b)) (fun a b k => nfI a fun a => nfI b fun b => k (.eq a b))
    (fun _ ih k => ih fun a => k (.not a)) c
theorem nfB_eq {α : Type} (c : BE) : ∀ k : BE → α, nfB c k = k c := by
  induction c with
  | lit b => intro k; cases b <;> rfl
  | var i => intro k; exact nfN_eq i fun i => k (.var i)
  | lt a b => intro k; show nfI a _ = _; rw [nfI_eq, nfI_eq]
  | eq a b => intro k; show nfI a _ = _; rw [nfI_eq, nfI_eq]
  | not a ih => intro k; exact ih _
noncomputable def nfS {α : Type} (v : SV) : (SV → α) → α :=
  SV.rec (motive := fun _ => (SV → α) → α)
    (fun k => k .undef) (fun j k => nfN j fun j => k (.opq j)) (fun kd e k => nfI e fun e => k (.int kd e)) (fun b k => nfB b fun b => k (.bool b)) (fun k => k .nilp)
    (fun s i off k => nfN s fun s => nfN i fun i => nfI off fun off => k (.ptr s i off)) (fun k => k .nils)
    (fun s i off len cap k => nfN s fun s => nfN i fun i => nfI off fun off => nfI len fun len => nfI cap fun cap => k (.sli s i off len cap))
    (fun f _ ih k => nfN f fun f => ih fun c => k (.fn f c)) (fun k => k .nilf) (fun t _ ih k => nfN t fun t => ih fun v => k (.ifc t v)) (fun k => k .nili)
    (fun _ ih k => ih fun c => k (.agg c)) (fun _ ih k => ih fun c => k (.tup c)) (fun k => k .nil) (fun _ _ ha hb k => ha fun a => hb fun b => k (.cons a b))
    (fun kd r n _ ih k => nfN r fun r => nfI n fun n => ih fun ws => k (.arr kd r n ws)) (fun i x _ ih k => nfI i fun i => nfI x fun x => ih fun ws => k (.wr i x ws)) v
theorem nfS_eq {α : Type} (v : SV) : ∀ k : SV → α, nfS v k = k v := by
  induction v with
  | opq j => intro k; exact nfN_eq j fun j => k (.opq j)
  | int kd e => intro k; exact nfI_eq _ _
  | bool b => intro k; exact nfB_eq _ _
  | ptr s i off => intro k; show (nfN s fun s => nfN i fun i => nfI off fun off => k (.ptr s i off)) = _; rw [nfN_eq, nfN_eq, nfI_eq]
  | sli s i off len cap => intro k; show (nfN s fun s => nfN i fun i => nfI off fun off => nfI len fun len => nfI cap fun cap => k (.sli s i off len cap)) = _; rw [nfN_eq, nfN_eq, nfI_eq, nfI_eq, nfI_eq]
  | fn f c ih => intro k; show (nfN f fun f => nfS c fun c => k (.fn f c)) = _; rw [nfN_eq]; exact ih _
  | ifc t v ih => intro k; show (nfN t fun t => nfS v fun v => k (.ifc t v)) = _; rw [nfN_eq]; exact ih _
  | agg c ih => intro k; exact ih _
  | tup c ih => intro k; exact ih _
  | cons a b iha ihb => intro k; show nfS a _ = _; rw [iha]; exact ihb _
  | arr kd r n ws ih => intro k; show (nfN r fun r => nfI n fun n => nfS ws fun ws => k (.arr kd r n ws)) = _; rw [nfN_eq, nfI_eq]; exact ih _
  | wr i x ws ih => intro k; show nfI i _ = _; rw [nfI_eq, nfI_eq]; exact ih _
  | _ => intro k; rfl
/-- the spine of a list, and each piece by its own -/
noncomputable def nfL {α β : Type} (f : β → (β → α) → α) (l : List β) : (List β → α) → α :=
  List.rec (motive := fun _ => (List β → α) → α) (fun k => k []) (fun x _ ih k => f x fun x => ih fun r => k (x :: r)) l
theorem nfL_eq {α β : Type} {f : β → (β → α) → α} (hf : ∀ x k, f x k = k x) (l : List β) : ∀ k, nfL f l k = k l := by
  induction l with
  | nil => intro k; rfl
  | cons x r ih => intro k; show f x _ = _; rw [hf]; exact ih _
noncomputable def nfFact {α : Type} (f : Fact) (k : Fact → α) : α := nfI f.1 fun e => nfZ f.2.1 fun a => nfZ f.2.2 fun b => k (e, a, b)
theorem nfFact_eq {α : Type} (f : Fact) (k : Fact → α) : nfFact f k = k f := by unfold nfFact; rw [nfI_eq, nfZ_eq, nfZ_eq]
/-- the spine of a list alone -/
noncomputable def nfSp {α β : Type} (l : List β) (k : List β → α) : α := nfL (fun x k => k x) l k
theorem nfSp_eq {α β : Type} (l : List β) (k : List β → α) : nfSp l k = k l := nfL_eq (fun _ _ => rfl) l k

/- memory -/
structure Ent where
  s : Nat
  k : Nat
  ro : Bool
  t : Nat
  base : IE
  c : SV
  deriving DecidableEq, Repr, Inhabited
structure Mem where
  know : Know
  heap : List Ent
  seg : Nat
  next : Nat
  nv : Nat
  deriving DecidableEq, Inhabited

def Ent.blk (E : Env) (e : Ent) : Nat := E.base e.s + e.k
structure EntOk (E : Env) (w : World) (e : Ent) : Prop where
  lt : e.blk E < w.heap.size
  ro : e.ro = true → ∀ (j : Nat) (v : Value), (dl E e.c)[j]? = some v → w.cell? ⟨e.blk E, E.o e.s + ((ev E e.base).toNat + j), none⟩ = some v
  own : e.ro = false → (E.o e.s = 0 ∧ ev E e.base = 0) ∧ w.heap[e.blk E]? = some (.cells (dl E e.c).toArray e.t (0, 0))

structure Ext (F : Nat → Prop) (w0 w : World) : Prop where
  os : w.os = w0.os
  tape : w.tape = w0.tape
  output : w.output = w0.output
  size : w0.heap.size ≤ w.heap.size
  block : ∀ x, x < w0.heap.size → ¬ F x → w.heap[x]? = w0.heap[x]?
theorem Ext.refl (F : Nat → Prop) (w : World) : Ext F w w := ⟨rfl, rfl, rfl, Nat.le_refl _, fun _ _ _ => rfl⟩

def Ent.parted (E : Env) (x y : Ent) : Prop := ¬ (x.ro = true ∧ y.ro = true) → x.blk E ≠ y.blk E
structure MemOk (F : Nat → Prop) (w0 : World) (E : Env) (m : Mem) (w : World) : Prop where
  know : KnowOk E m.know
  size : w.heap.size = E.base m.seg + m.next
  ents : ∀ e ∈ m.heap, EntOk E w e
  apart : m.heap.Pairwise (Ent.parted E)
  mine : ∀ e ∈ m.heap, e.ro = false → w0.heap.size ≤ e.blk E ∨ F (e.blk E)
  ext : Ext F w0 w
  seg0 : E.o m.seg = 0

/- the monad: the ways on -/
abbrev X (α : Type) := Mem → Option (List (α × Mem))
def X.pure {α : Type} (a : α) : X α := fun m => some [(a, m)]
def X.none {α : Type} : X α := fun _ => Option.none
def gather {α β : Type} (f : α → X β) : List (α × Mem) → Option (List (β × Mem))
  | [] => some []
  | [p] => f p.1 p.2
  | p :: q :: rest => match f p.1 p.2 with
    | Option.none => Option.none
    | some l => match gather f (q :: rest) with
      | Option.none => Option.none
      | some l' => some (l ++ l')
def X.bind {α β : Type} (x : X α) (f : α → X β) : X β := fun m =>
  match x m with
  | Option.none => Option.none
  | some l => gather f l
def X.ofOption {α : Type} : Option α → X α
  | some a => X.pure a
  | Option.none => X.none

theorem gather_mem {α β : Type} {f : α → X β} : ∀ {l : List (α × Mem)} {outs : List (β × Mem)}, gather f l = some outs →
    ∀ p ∈ l, ∃ l', f p.1 p.2 = some l' ∧ ∀ q ∈ l', q ∈ outs := by
  intro l
  induction l with
  | nil => intro outs _ p hp; cases hp
  | cons a rest ih =>
    intro outs h p hp
    cases rest with
    | nil =>
      simp only [gather] at h
      simp only [List.mem_cons, List.not_mem_nil, or_false] at hp
      subst hp
      exact ⟨outs, h, fun _ hq => hq⟩
    | cons b rest =>
      simp only [gather] at h
      split at h
      · cases h
      · rename_i l1 h1
        split at h
        · cases h
        · rename_i l2 h2
          cases h
          rcases List.mem_cons.1 hp with rfl | hp
          · exact ⟨l1, h1, fun q hq => List.mem_append_left _ hq⟩
          · obtain ⟨l', e, hs⟩ := ih h2 p hp
            exact ⟨l', e, fun q hq => List.mem_append_right _ (hs q hq)⟩

section
variable (F : Nat → Prop) (w0 : World) (E : Env)
/-- what a step of the executor says of the world -/
def GX {α : Type} (x : X α) (m : Mem) (w : World) (Q : α → World → Prop) : Prop :=
  ∀ outs, x m = some outs → MemOk F w0 E m w → ∃ p ∈ outs, ∃ w', MemOk F w0 E p.2 w' ∧ p.2.nv = m.nv ∧ Q p.1 w'
end
section
variable {F : Nat → Prop} {w0 : World} {E : Env}
theorem GX.pure {α : Type} {a : α} {m : Mem} {w : World} {Q : α → World → Prop} (h : MemOk F w0 E m w → Q a w) : GX F w0 E (X.pure a) m w Q := by
  intro outs ho hm; cases ho; exact ⟨_, List.mem_cons_self, w, hm, rfl, h hm⟩
theorem GX.none {α : Type} {m : Mem} {w : World} {Q : α → World → Prop} : GX F w0 E (X.none) m w Q := by
  intro outs ho; cases ho
theorem GX.bind {α β : Type} {x : X α} {f : α → X β} {m : Mem} {w : World} {Q : α → World → Prop} {R : β → World → Prop}
    (h : GX F w0 E x m w Q) (hf : ∀ a m' w', Q a w' → GX F w0 E (f a) m' w' R) : GX F w0 E (X.bind x f) m w R := by
  intro outs ho hm
  unfold X.bind at ho
  split at ho
  · cases ho
  · rename_i l hl
    obtain ⟨p, hp, w', hm', hn, hq⟩ := h l hl hm
    obtain ⟨l', e, hs⟩ := gather_mem ho p hp
    obtain ⟨q, hq', w'', hm'', hn', hr⟩ := hf _ _ _ hq l' e hm'
    exact ⟨q, hs q hq', w'', hm'', hn'.trans hn, hr⟩
theorem GX.mono {α : Type} {x : X α} {m : Mem} {w : World} {Q R : α → World → Prop} (h : GX F w0 E x m w Q) (hr : ∀ a w, Q a w → R a w) : GX F w0 E x m w R := by
  intro outs ho hm
  obtain ⟨p, hp, w', hm', hn, hq⟩ := h outs ho hm
  exact ⟨p, hp, w', hm', hn, hr _ _ hq⟩
theorem GX.ofOption {α : Type} {o : Option α} {m : Mem} {w : World} {Q : α → World → Prop} (h : ∀ a, o = some a → Q a w) : GX F w0 E (X.ofOption o) m w Q := by
  cases o with
  | none => exact GX.none
  | some a => exact GX.pure fun _ => h a rfl
end

def withKnow {α : Type} (f : Know → X α) : X α := fun m => f m.know m
theorem GX.withKnow {F : Nat → Prop} {w0 : World} {E : Env} {α : Type} {f : Know → X α} {m : Mem} {w : World} {Q : α → World → Prop}
    (h : KnowOk E m.know → GX F w0 E (f m.know) m w Q) : GX F w0 E (Sx.withKnow f) m w Q := by
  intro outs ho hm
  exact h hm.know outs ho hm

noncomputable def Mem.tell (m : Mem) (c : BE) : Mem := { m with know := m.know.tell c }
/-- what a test's answer adds to the facts, made at once -/
noncomputable def tellK {α : Type} (m : Mem) (c : BE) (k : Mem → α) : α :=
  match m with
  | ⟨⟨fs, cs⟩, h, s, n, v⟩ => nfB c fun c => nfL nfFact (learn fs c) fun l => nfSp (l ++ fs) fun fs' => k ⟨⟨fs', c :: cs⟩, h, s, n, v⟩
theorem tellK_eq {α : Type} (m : Mem) (c : BE) (k : Mem → α) : tellK m c k = k (m.tell c) := by
  unfold tellK
  obtain ⟨⟨fs, cs⟩, h, s, n, v⟩ := m
  dsimp only
  rw [nfB_eq, nfL_eq (fun _ _ => nfFact_eq _ _), nfSp_eq]
  rfl
theorem MemOk.tell {F : Nat → Prop} {w0 : World} {E : Env} {m : Mem} {w : World} (h : MemOk F w0 E m w) {c : BE} (hc : evB E c = true) : MemOk F w0 E (m.tell c) w :=
  ⟨tell_ok h.know hc, h.size, h.ents, h.apart, h.mine, h.ext, h.seg0⟩
/-- a test: its two ways -/
noncomputable def branch (c : BE) : X Bool := fun m =>
  match again m.know c with
  | .lit b => some [(b, m)]
  | c' => tellK m c' fun m1 => tellK m (mkNot c') fun m2 => some [(true, m1), (false, m2)]
theorem branch_ok {F : Nat → Prop} {w0 : World} {E : Env} (c : BE) (m : Mem) (w : World) : GX F w0 E (branch c) m w fun b w' => w' = w ∧ b = evB E c := by
  intro outs ho hm
  have ha := again_ok hm.know c
  unfold branch at ho
  split at ho
  · rename_i b hb
    cases ho
    rw [hb] at ha
    exact ⟨_, List.mem_cons_self, w, hm, rfl, rfl, ha⟩
  · rename_i hb
    rw [tellK_eq, tellK_eq] at ho
    cases ho
    cases hv : evB E c with
    | true => exact ⟨_, List.mem_cons_self, w, hm.tell (by rw [ha, hv]), rfl, rfl, rfl⟩
    | false => exact ⟨_, List.mem_cons_of_mem _ List.mem_cons_self, w, hm.tell (by rw [mkNot_ok, ha, hv]; rfl), rfl, rfl, rfl⟩

/- cells of a chain, by place -/
/-- the number at a place of an array -/
noncomputable def getW (k : IntKind) (r : Nat) : SV → IE → X SV
  | .wr i x ws, idx => X.bind (withKnow fun kn => branch (mkEq kn i idx)) fun b => if b then X.pure (.int k x) else getW k r ws idx
  | .nil, idx => X.pure (.int k (if r = 0 then .lit 0 else .sel r idx))
  | _, _ => X.none
theorem getW_ok {F : Nat → Prop} {w0 : World} {E : Env} (k : IntKind) (r : Nat) : ∀ (ws : SV) (idx : IE) (m : Mem) (w : World), 0 ≤ ev E idx →
    GX F w0 E (getW k r ws idx) m w fun v w' => w' = w ∧ v.isC = true ∧ dv E v = .int k (wsVal E r ws (ev E idx).toNat) := by
  intro ws
  induction ws with
  | wr i x ws ih =>
    intro idx m w h0
    have hj : ((ev E idx).toNat : Int) = ev E idx := Int.toNat_of_nonneg h0
    unfold getW
    refine GX.bind (GX.withKnow fun hk => (branch_ok _ m w).mono (R := fun b w' => w' = w ∧ b = decide (ev E i = ev E idx)) fun b w' h => ⟨h.1, h.2.trans (mkEq_ok hk _ _)⟩) ?_
    rintro b m' w' ⟨rfl, rfl⟩
    split
    · rename_i he
      exact GX.pure fun _ => ⟨rfl, rfl, by simp only [dv, dl, List.headD_cons, wsVal, hj]; rw [if_pos (by simpa using he)]⟩
    · rename_i he
      refine (ih idx m' w' h0).mono fun v w'' h => ⟨h.1, h.2.1, ?_⟩
      rw [h.2.2]
      simp only [wsVal, hj]
      rw [if_neg (by simpa using he)]
  | nil =>
    intro idx m w h0
    unfold getW
    exact GX.pure fun _ => ⟨rfl, rfl, by
      simp only [dv, dl, List.headD_cons, wsVal]
      split
      · rename_i hr; simp [hr, Env.row, ev_lit]
      · rw [ev_sel]⟩
  | _ => intro idx m w h0; unfold getW; exact GX.none

noncomputable def getC : SV → IE → X SV
  | .cons a rest, idx =>
    match a with
    | .arr k r n ws => withKnow fun kn =>
      if 0 ≤ (rng kn.facts idx).1 then
        match mkLt kn idx n with
        | .lit true => getW k r ws idx
        | .lit false => if 0 ≤ (rng kn.facts n).1 then getC rest (mkSub idx n) else X.none
        | _ => X.none
      else X.none
    | a => if a.isC then
        if idx = .lit 0 then X.pure a else withKnow fun kn => if 1 ≤ (rng kn.facts idx).1 then getC rest (mkSub idx (.lit 1)) else X.none
      else X.none
  | _, _ => X.none

theorem arrCells_get (E : Env) (k : IntKind) (r n : Nat) (ws : SV) (j : Nat) (h : j < n) : (arrCells E k r n ws)[j]? = some (.int k (wsVal E r ws j)) := by
  simp [arrCells, h]
theorem arrCells_len (E : Env) (k : IntKind) (r n : Nat) (ws : SV) : (arrCells E k r n ws).length = n := by simp [arrCells]
theorem getC_ok {F : Nat → Prop} {w0 : World} {E : Env} : ∀ (c : SV) (idx : IE) (m : Mem) (w : World),
    GX F w0 E (getC c idx) m w fun v w' => w' = w ∧ v.isC = true ∧ 0 ≤ ev E idx ∧ (dl E c)[(ev E idx).toNat]? = some (dv E v) := by
  intro c
  induction c with
  | cons a rest _ ih =>
    intro idx m w
    unfold getC
    split
    · rename_i k r n ws _
      refine GX.withKnow fun hk => ?_
      have p := rng_ok hk.env hk.facts idx
      split
      · rename_i h0
        have hlt := mkLt_ok hk idx n
        split
        · rename_i hc
          rw [hc] at hlt
          have hlt : ev E idx < ev E n := by simpa [evB] using hlt.symm
          refine (getW_ok k r ws idx m w (by omega)).mono fun v w' h => ⟨h.1, h.2.1, by omega, ?_⟩
          simp only [dl]
          rw [List.getElem?_append_left (by rw [arrCells_len]; omega), arrCells_get _ _ _ _ _ _ (by omega), h.2.2]
        · rename_i hc
          rw [hc] at hlt
          have hge : ¬ ev E idx < ev E n := by simpa [evB] using hlt.symm
          split
          · rename_i hn
            have q := rng_ok hk.env hk.facts n
            refine (ih (mkSub idx n) m w).mono fun v w' h => ⟨h.1, h.2.1, by omega, ?_⟩
            have h3 := h.2.2.2
            rw [mkSub_ok] at h3
            simp only [dl]
            rw [List.getElem?_append_right (by rw [arrCells_len]; omega), arrCells_len, show (ev E idx).toNat - (ev E n).toNat = (ev E idx - ev E n).toNat by omega]
            exact h3
          · exact GX.none
        · exact GX.none
      · exact GX.none
    · split
      · rename_i hC
        have hv := SV.isC_isV hC
        split
        · rename_i h0
          subst h0
          exact GX.pure fun _ => ⟨rfl, hC, by simp [ev_lit], by simp only [dl, ev_lit]; rw [dl_isV E hv]; simp⟩
        · refine GX.withKnow fun hk => ?_
          split
          · rename_i h1
            have p := rng_ok hk.env hk.facts idx
            refine (ih (mkSub idx (.lit 1)) m w).mono fun v w' h => ⟨h.1, h.2.1, by omega, ?_⟩
            have h3 := h.2.2.2
            rw [mkSub_ok, ev_lit] at h3
            simp only [dl]
            rw [dl_isV E hv, List.getElem?_append_right (by simp <;> omega), show (ev E idx).toNat - [dv E a].length = (ev E idx - 1).toNat by simp <;> omega]
            exact h3
          · exact GX.none
      · exact GX.none
  | _ => intro idx m w; unfold getC; exact GX.none

/-- a row of cells, one after the other -/
noncomputable def getN (c : SV) : Nat → IE → X SV
  | 0, _ => X.pure .nil
  | n + 1, idx => X.bind (getC c idx) fun v => X.bind (getN c n (mkAdd idx (.lit 1))) fun rest => X.pure (.cons v rest)
theorem getN_ok {F : Nat → Prop} {w0 : World} {E : Env} (c : SV) : ∀ (n : Nat) (idx : IE) (m : Mem) (w : World),
    GX F w0 E (getN c n idx) m w fun v w' => w' = w ∧ (dl E v).length = n ∧ (0 < n → 0 ≤ ev E idx) ∧ ∀ j, j < n → (dl E c)[(ev E idx).toNat + j]? = (dl E v)[j]? := by
  intro n
  induction n with
  | zero => intro idx m w; exact GX.pure fun _ => ⟨rfl, rfl, by omega, by omega⟩
  | succ n ih =>
    intro idx m w
    unfold getN
    refine GX.bind (getC_ok c idx m w) ?_
    rintro v m' w' ⟨rfl, hC, h0, hg⟩
    refine GX.bind (ih (mkAdd idx (.lit 1)) m' w') ?_
    rintro rest m'' w'' ⟨rfl, hl, _, hr⟩
    refine GX.pure fun _ => ⟨rfl, ?_, fun _ => h0, ?_⟩
    · simp only [dl, List.length_append, hl, dl_len_isV E (SV.isC_isV hC)]; omega
    · intro j hj
      rw [mkAdd_ok, ev_lit] at hr
      simp only [dl]
      rw [dl_isV E (SV.isC_isV hC)]
      cases j with
      | zero => simpa using hg
      | succ j =>
        have := hr j (by omega)
        rw [show (ev E idx).toNat + (j + 1) = (ev E idx + 1).toNat + j by omega, this]
        simp

/-- a piece of a chain, by places that are known; arrays are not cut -/
def takeC : SV → Nat → Nat → Option SV
  | .nil, o, n => if o = 0 ∧ n = 0 then some .nil else none
  | .cons a rest, o, n =>
    if o = 0 ∧ n = 0 then some .nil else
    match wd a with
    | none => none
    | some x =>
      if x ≤ o then takeC rest (o - x) n
      else if o = 0 ∧ x ≤ n then match takeC rest 0 (n - x) with
        | some r => some (.cons a r)
        | none => none
      else none
  | _, _, _ => none
theorem takeC_ok (E : Env) : ∀ (c : SV) (o n : Nat) (r : SV), takeC c o n = some r → dl E r = ((dl E c).drop o).take n ∧ o + n ≤ (dl E c).length := by
  intro c
  induction c with
  | nil =>
    intro o n r h
    simp only [takeC] at h
    split at h
    · rename_i hh; cases h; simp [dl, hh.1, hh.2]
    · cases h
  | cons a rest _ ih =>
    intro o n r h
    simp only [takeC] at h
    split at h
    · rename_i hh; cases h; simp [dl, hh.1, hh.2]
    · split at h
      · cases h
      · rename_i x hx
        have hl := wd_ok E a x hx
        split at h
        · rename_i hxo
          obtain ⟨e, hle⟩ := ih _ _ _ h
          refine ⟨?_, ?_⟩
          · have q : List.drop o (dl E a ++ dl E rest) = List.drop (o - x) (dl E rest) := by
              rw [List.drop_append, List.drop_of_length_le (show (dl E a).length ≤ o by omega), List.nil_append, hl]
            simp only [dl]
            rw [e, q]
          · simp only [dl, List.length_append]; omega
        · split at h
          · rename_i hh
            split at h
            · rename_i r' hr'
              cases h
              obtain ⟨e, hle⟩ := ih _ _ _ hr'
              refine ⟨?_, ?_⟩
              · simp only [dl]
                rw [e, hh.1, List.drop_zero, List.drop_zero, List.take_append, hl, List.take_of_length_le (show (dl E a).length ≤ n by omega)]
              · simp only [dl, List.length_append]; omega
            · cases h
          · cases h
  | _ => intro o n r h; simp [takeC] at h

def dropW (idx : IE) : SV → SV
  | .wr i x ws => if i = idx then dropW idx ws else .wr i x (dropW idx ws)
  | v => v
theorem dropW_ok (E : Env) (r : Nat) (idx : IE) : ∀ (ws : SV) (j : Nat), (j : Int) ≠ ev E idx → wsVal E r (dropW idx ws) j = wsVal E r ws j := by
  intro ws
  induction ws with
  | wr i x ws ih =>
    intro j hj
    simp only [dropW]
    split
    · rename_i he
      rw [ih j hj]
      simp only [wsVal]
      rw [if_neg (by rw [he]; omega)]
    · simp only [wsVal]
      rw [ih j hj]
  | _ => intro j _; rfl

/-- what is written over, dropped; what was there anyway is not written -/
def addW (r : Nat) (idx x : IE) (ws : SV) : SV :=
  if dropW idx ws = .nil ∧ x = .sel r idx ∧ r ≠ 0 then .nil else .wr idx x (dropW idx ws)
/-- one cell, put anew -/
noncomputable def setC : SV → IE → SV → X SV
  | .cons a rest, idx, v =>
    match a with
    | .arr k r n ws => withKnow fun kn =>
      if 0 ≤ (rng kn.facts idx).1 then
        match mkLt kn idx n with
        | .lit true => match v with
          | .int k' x => if k' = k then X.pure (.cons (.arr k r n (addW r idx x ws)) rest) else X.none
          | _ => X.none
        | .lit false => if 0 ≤ (rng kn.facts n).1 then X.bind (setC rest (mkSub idx n) v) fun rest' => X.pure (.cons (.arr k r n ws) rest') else X.none
        | _ => X.none
      else X.none
    | a => if a.isC && v.isC then
        if idx = .lit 0 then X.pure (.cons v rest) else withKnow fun kn => if 1 ≤ (rng kn.facts idx).1 then X.bind (setC rest (mkSub idx (.lit 1)) v) fun rest' => X.pure (.cons a rest') else X.none
      else X.none
  | _, _, _ => X.none

theorem arrCells_set (E : Env) (k : IntKind) (r n : Nat) (ws : SV) (idx x : IE) (h0 : 0 ≤ ev E idx) (h : ev E idx < (n : Int)) :
    arrCells E k r n (addW r idx x ws) = (arrCells E k r n ws).set (ev E idx).toNat (.int k (ev E x)) := by
  have hval : ∀ j : Nat, wsVal E r (addW r idx x ws) j = wsVal E r (.wr idx x (dropW idx ws)) j := by
    intro j
    unfold addW
    split
    · rename_i hh
      obtain ⟨h1, rfl, hr⟩ := hh
      rw [h1]
      simp only [wsVal]
      split
      · rename_i he
        rw [ev_sel, he]; rfl
      · rfl
    · rfl
  refine List.ext_getElem? fun j => ?_
  rw [List.getElem?_set]
  by_cases hj : j < n
  · rw [arrCells_get _ _ _ _ _ _ hj, arrCells_get _ _ _ _ _ _ hj, hval]
    simp only [wsVal, arrCells_len]
    by_cases he : (ev E idx).toNat = j
    · rw [if_pos (by omega), if_pos he, if_pos (by omega)]
    · rw [if_neg (by omega), if_neg he, dropW_ok _ _ _ _ _ (by omega)]
  · rw [List.getElem?_eq_none (by rw [arrCells_len]; omega), if_neg (by omega), List.getElem?_eq_none (by rw [arrCells_len]; omega)]
theorem setC_ok {F : Nat → Prop} {w0 : World} {E : Env} : ∀ (c : SV) (idx : IE) (v : SV) (m : Mem) (w : World),
    GX F w0 E (setC c idx v) m w fun c' w' => w' = w ∧ v.isC = true ∧ 0 ≤ ev E idx ∧ (ev E idx).toNat < (dl E c).length ∧ dl E c' = (dl E c).set (ev E idx).toNat (dv E v) := by
  intro c
  induction c with
  | cons a rest _ ih =>
    intro idx v m w
    unfold setC
    split
    · rename_i k r n ws _
      refine GX.withKnow fun hk => ?_
      have p := rng_ok hk.env hk.facts idx
      split
      · rename_i h0
        have hlt := mkLt_ok hk idx n
        split
        · rename_i hc
          rw [hc] at hlt
          have hlt : ev E idx < ev E n := by simpa [evB] using hlt.symm
          split
          · rename_i k' x
            split
            · rename_i hk'
              subst hk'
              refine GX.pure fun _ => ⟨rfl, rfl, by omega, ?_, ?_⟩
              · simp only [dl, List.length_append, arrCells_len]; omega
              · simp only [dl, dv, List.headD_cons]
                rw [arrCells_set _ _ _ _ _ _ _ (by omega) (by omega), List.set_append_left _ _ (by rw [arrCells_len]; omega)]
            · exact GX.none
          · exact GX.none
        · rename_i hc
          rw [hc] at hlt
          have hge : ¬ ev E idx < ev E n := by simpa [evB] using hlt.symm
          split
          · rename_i hn
            have q := rng_ok hk.env hk.facts n
            refine GX.bind (ih (mkSub idx n) v m w) ?_
            rintro c' m' w' ⟨rfl, hC, h1, h2, h3⟩
            rw [mkSub_ok] at h1 h2 h3
            refine GX.pure fun _ => ⟨rfl, hC, by omega, ?_, ?_⟩
            · simp only [dl, List.length_append, arrCells_len]; omega
            · simp only [dl]
              rw [h3, List.set_append_right _ _ (by rw [arrCells_len]; omega), arrCells_len, show (ev E idx).toNat - (ev E n).toNat = (ev E idx - ev E n).toNat by omega]
          · exact GX.none
        · exact GX.none
      · exact GX.none
    · split
      · rename_i hC
        simp only [Bool.and_eq_true] at hC
        have hv := SV.isC_isV hC.1
        split
        · rename_i h0
          subst h0
          exact GX.pure fun _ => ⟨rfl, hC.2, by simp [ev_lit], by simp [dl, ev_lit, dl_len_isV E hv]; omega, by
            simp only [dl, ev_lit]; rw [dl_isV E hv, dl_isV E (SV.isC_isV hC.2)]; simp⟩
        · refine GX.withKnow fun hk => ?_
          split
          · rename_i h1
            have p := rng_ok hk.env hk.facts idx
            refine GX.bind (ih (mkSub idx (.lit 1)) v m w) ?_
            rintro c' m' w' ⟨rfl, hC', h2, h3, h4⟩
            rw [mkSub_ok, ev_lit] at h2 h3 h4
            refine GX.pure fun _ => ⟨rfl, hC', by omega, ?_, ?_⟩
            · simp only [dl, List.length_append, dl_len_isV E hv]; omega
            · simp only [dl]
              rw [h4, dl_isV E hv, List.set_append_right _ _ (by simp <;> omega), show (ev E idx).toNat - [dv E a].length = (ev E idx - 1).toNat by simp <;> omega]
          · exact GX.none
      · exact GX.none
  | _ => intro idx v m w; unfold setC; exact GX.none
end Go.Sx
