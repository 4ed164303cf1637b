/- The executor over loops: a state seen as a pattern's instance. -/
import Derived.Test.YtgjbhgdmgncoaaaSxL
namespace Go.Sx
open Go

/-- what the names of a pattern stand for -/
structure Sub where
  i : List (Nat × IE)
  b : List (Nat × BE)
  l : List (Nat × Nat × Nat × SV)   -- a list: the row it is read from, how long it is, what was written
  base : List (Nat × Nat × Nat)
  v : List (Nat × SV)
  deriving Repr, Inhabited
def look {α : Type} (k : Nat) : List (Nat × α) → Option α
  | [] => none
  | x :: r => cond (Nat.beq x.1 k) (some x.2) (look k r)
theorem look_mem {α : Type} {k : Nat} {a : α} : ∀ {l : List (Nat × α)}, look k l = some a → (k, a) ∈ l := by
  intro l
  induction l with
  | nil => intro h; cases h
  | cons x r ih =>
    intro h
    unfold look at h
    cases hb : Nat.beq x.1 k with
    | true =>
      rw [hb] at h
      cases h
      have := Nat.eq_of_beq_eq_true hb
      subst this
      exact List.mem_cons_self
    | false => rw [hb] at h; exact List.mem_cons_of_mem _ (ih h)

def Env.by (E : Env) (σ : Sub) : Env where
  i j := match look j σ.i with | some e => ev E e | none => E.i j
  b j := match look j σ.b with | some c => evB E c | none => E.b j
  l r := match look r σ.l with | some (r', n, ws) => (List.range n).map (wsVal E r' ws) | none => E.l r
  base s := match look s σ.base with | some (s', k) => E.base s' + k | none => E.base s
  o s := match look s σ.base with | some (s', _) => E.o s' | none => E.o s
  v j := match look j σ.v with | some x => dv E x | none => E.v j
  f := E.f

def IE.isArg : IE → Bool | .arg _ _ => true | _ => false
theorem evp_snd (E : Env) {e : IE} (h : e.isArg = false) : evp E e = (ev E e, []) := by
  cases e <;> first | rfl | (simp [IE.isArg] at h)
def inst2 (f : IE → IE → IE) (a b : Option IE) : Option IE :=
  match a, b with
  | some a, some b => some (f a b)
  | _, _ => none
def instI (σ : Sub) : IE → Option IE
  | .lit z => some (.lit z)
  | .var i => match look i σ.i with
    | some e => if e.isArg then none else some e
    | none => some (.var i)
  | .sel r i => match instI σ i with
    | some i' => if r = 0 ∨ look r σ.l = none then some (.sel r i') else none
    | none => none
  | .add a b => inst2 .add (instI σ a) (instI σ b)
  | .sub a b => inst2 .sub (instI σ a) (instI σ b)
  | .mul a b => inst2 .mul (instI σ a) (instI σ b)
  | .quo a b => inst2 .quo (instI σ a) (instI σ b)
  | .rem a b => inst2 .rem (instI σ a) (instI σ b)
  | .wrap k a => (instI σ a).map (.wrap k)
  | .bit op k a b => inst2 (.bit op k) (instI σ a) (instI σ b)
  | .shr a n => (instI σ a).map (.shr · n)
  | .app f a => (instI σ a).map (.app f)
  | .arg a b => inst2 .arg (instI σ a) (instI σ b)
  | .noarg => some .noarg
theorem inst2_ok {f : IE → IE → IE} {a b : Option IE} {r : IE} (h : inst2 f a b = some r) : ∃ x y, a = some x ∧ b = some y ∧ r = f x y := by
  unfold inst2 at h
  split at h
  · cases h; exact ⟨_, _, rfl, rfl, rfl⟩
  · cases h
theorem instI_ok (E : Env) (σ : Sub) : ∀ (e e' : IE), instI σ e = some e' → evp (E.by σ) e = evp E e' := by
  intro e
  induction e with
  | lit z => intro e' h; cases h; rfl
  | noarg => intro e' h; cases h; rfl
  | var i =>
    intro e' h
    unfold instI at h
    show ((E.by σ).i i, []) = _
    unfold Env.by
    dsimp only
    split at h
    · rename_i x hx
      split at h
      · cases h
      · rename_i ha
        cases h
        rw [evp_snd E (by simpa using ha)]
    · rename_i hx
      cases h
      rfl
  | sel r i ih =>
    intro e' h
    unfold instI at h
    split at h
    · rename_i i' hi
      split at h
      · rename_i hr
        cases h
        have hrow : (E.by σ).row r = E.row r := by
          unfold Env.row
          rcases hr with rfl | hr
          · rfl
          · simp only [Env.by, hr]
        simp only [evp, ih _ hi, hrow]
      · cases h
    · cases h
  | wrap k a ih => intro e' h; simp only [instI, Option.map_eq_some_iff] at h; obtain ⟨a', h1, rfl⟩ := h; simp only [evp, ih _ h1]
  | shr a n ih => intro e' h; simp only [instI, Option.map_eq_some_iff] at h; obtain ⟨a', h1, rfl⟩ := h; simp only [evp, ih _ h1]
  | app f a ih => intro e' h; simp only [instI, Option.map_eq_some_iff] at h; obtain ⟨a', h1, rfl⟩ := h; simp only [evp, ih _ h1]; rfl
  | _ =>
    rename_i a b iha ihb
    intro e' h
    obtain ⟨x, y, h1, h2, rfl⟩ := inst2_ok h
    simp only [evp, iha _ h1, ihb _ h2]
theorem instI_ev {E : Env} {σ : Sub} {e e' : IE} (h : instI σ e = some e') : ev (E.by σ) e = ev E e' := by unfold ev; rw [instI_ok E σ e e' h]
def instB (σ : Sub) : BE → Option BE
  | .lit b => some (.lit b)
  | .var i => some (match look i σ.b with | some c => c | none => .var i)
  | .lt a b => match instI σ a, instI σ b with | some a, some b => some (.lt a b) | _, _ => none
  | .eq a b => match instI σ a, instI σ b with | some a, some b => some (.eq a b) | _, _ => none
  | .not a => (instB σ a).map .not
theorem instB_ok (E : Env) (σ : Sub) : ∀ (c c' : BE), instB σ c = some c' → evB (E.by σ) c = evB E c' := by
  intro c
  induction c with
  | lit b => intro c' h; cases h; rfl
  | var i =>
    intro c' h
    cases h
    show (E.by σ).b i = _
    unfold Env.by
    dsimp only
    cases look i σ.b <;> rfl
  | lt a b =>
    intro c' h
    unfold instB at h
    split at h
    · rename_i x y hx hy; cases h; simp only [evB, instI_ev hx, instI_ev hy]
    · cases h
  | eq a b =>
    intro c' h
    unfold instB at h
    split at h
    · rename_i x y hx hy; cases h; simp only [evB, instI_ev hx, instI_ev hy]
    · cases h
  | not a ih => intro c' h; simp only [instB, Option.map_eq_some_iff] at h; obtain ⟨a', h1, rfl⟩ := h; simp only [evB, ih _ h1]
def inst2S (f : SV → SV → SV) (a b : Option SV) : Option SV :=
  match a, b with
  | some a, some b => some (f a b)
  | _, _ => none
theorem inst2S_ok {f : SV → SV → SV} {a b : Option SV} {r : SV} (h : inst2S f a b = some r) : ∃ x y, a = some x ∧ b = some y ∧ r = f x y := by
  unfold inst2S at h
  split at h
  · cases h; exact ⟨_, _, rfl, rfl, rfl⟩
  · cases h
def blockOf (σ : Sub) (s k : Nat) : Nat × Nat := match look s σ.base with
  | some (s', k') => (s', k' + k)
  | none => (s, k)
theorem blockOf_ok (E : Env) (σ : Sub) (s k : Nat) : (E.by σ).base s + k = E.base (blockOf σ s k).1 + (blockOf σ s k).2 := by
  unfold blockOf Env.by
  dsimp only
  cases look s σ.base with
  | none => rfl
  | some p => obtain ⟨s', k'⟩ := p; simp only [Nat.add_assoc]
theorem blockO_ok (E : Env) (σ : Sub) (s k : Nat) : (E.by σ).o s = E.o (blockOf σ s k).1 := by
  unfold blockOf Env.by
  dsimp only
  cases look s σ.base with
  | none => rfl
  | some p => rfl
def instW (σ : Sub) : SV → Option SV
  | .nil => some .nil
  | .wr i x ws => match instI σ i, instI σ x, instW σ ws with
    | some i, some x, some ws => some (.wr i x ws)
    | _, _, _ => none
  | _ => none
theorem instW_ok {E : Env} {σ : Sub} {r : Nat} (hr : (E.by σ).row r = E.row r) : ∀ (ws ws' : SV), instW σ ws = some ws' → ∀ j, wsVal (E.by σ) r ws j = wsVal E r ws' j := by
  intro ws
  induction ws with
  | nil => intro ws' h j; cases h; simp only [wsVal, hr]
  | wr i x ws ih =>
    intro ws' h j
    unfold instW at h
    split at h
    · rename_i i' x' w' hi hx hw
      cases h
      simp only [wsVal, instI_ev hi, instI_ev hx, ih _ hw]
    · cases h
  | _ => intro ws' h; simp [instW] at h
def instS (σ : Sub) : SV → Option SV
  | .opq j => match look j σ.v with
    | some x => some x
    | none => some (.opq j)
  | .int k e => (instI σ e).map (.int k)
  | .bool b => (instB σ b).map .bool
  | .ptr s k off => (instI σ off).map (.ptr (blockOf σ s k).1 (blockOf σ s k).2)
  | .sli s k off len cap => match instI σ off, instI σ len, instI σ cap with
    | some off, some len, some cap => some (.sli (blockOf σ s k).1 (blockOf σ s k).2 off len cap)
    | _, _, _ => none
  | .fn f c => (instS σ c).map (.fn f)
  | .ifc t v => (instS σ v).map (.ifc t)
  | .agg c => (instS σ c).map .agg
  | .tup c => (instS σ c).map .tup
  | .cons a b => inst2S .cons (instS σ a) (instS σ b)
  | .arr k r n ws => match instI σ n with
    | none => none
    | some n' => match (if r = 0 then none else look r σ.l) with
      | some (r', N, ws') => match ws, n' with
        | .nil, .lit z => if z.toNat ≤ N then some (.arr k r' (.lit z) ws') else none
        | _, _ => none
      | none => (instW σ ws).map (.arr k r n')
  | .wr _ _ _ => none
  | .undef => some .undef
  | .nilp => some .nilp
  | .nils => some .nils
  | .nilf => some .nilf
  | .nili => some .nili
  | .nil => some .nil
/-- no open value within (as a frame's slot of its own it may stand) -/
def SV.plain : SV → Bool
  | .opq _ => false
  | .fn _ c | .ifc _ c | .agg c | .tup c => c.plain
  | .cons a b => a.plain && b.plain
  | _ => true
theorem row_by {E : Env} {σ : Sub} {r : Nat} (h : (if r = 0 then none else look r σ.l) = none) : (E.by σ).row r = E.row r := by
  unfold Env.row
  split
  · rfl
  · rename_i hr
    rw [if_neg hr] at h
    simp only [Env.by, h]
theorem instS_ok (E : Env) (σ : Sub) : ∀ (v v' : SV), v.plain = true → instS σ v = some v' → dl (E.by σ) v = dl E v' := by
  intro v
  induction v with
  | opq j => intro v' hp; simp [SV.plain] at hp
  | int k e => intro v' _ h; simp only [instS, Option.map_eq_some_iff] at h; obtain ⟨a', h1, rfl⟩ := h; simp only [dl, instI_ev h1]
  | bool b => intro v' _ h; simp only [instS, Option.map_eq_some_iff] at h; obtain ⟨a', h1, rfl⟩ := h; simp only [dl, instB_ok E σ _ _ h1]
  | ptr s k off => intro v' _ h; simp only [instS, Option.map_eq_some_iff] at h; obtain ⟨a', h1, rfl⟩ := h; simp only [dl, addrOf, instI_ev h1, blockOf_ok, blockO_ok E σ s k]
  | sli s k off len cap =>
    intro v' _ h
    unfold instS at h
    split at h
    · rename_i o l c h1 h2 h3
      cases h
      simp only [dl, addrOf, instI_ev h1, instI_ev h2, instI_ev h3, blockOf_ok, blockO_ok E σ s k]
    · cases h
  | fn f c ih => intro v' hp h; simp only [instS, Option.map_eq_some_iff] at h; obtain ⟨a', h1, rfl⟩ := h; simp only [dl, ih _ hp h1]
  | ifc f c ih => intro v' hp h; simp only [instS, Option.map_eq_some_iff] at h; obtain ⟨a', h1, rfl⟩ := h; simp only [dl, ih _ hp h1]
  | agg c ih => intro v' hp h; simp only [instS, Option.map_eq_some_iff] at h; obtain ⟨a', h1, rfl⟩ := h; simp only [dl, ih _ hp h1]
  | tup c ih => intro v' hp h; simp only [instS, Option.map_eq_some_iff] at h; obtain ⟨a', h1, rfl⟩ := h; simp only [dl, ih _ hp h1]
  | cons a b iha ihb =>
    intro v' hp h
    simp only [SV.plain, Bool.and_eq_true] at hp
    obtain ⟨x, y, h1, h2, rfl⟩ := inst2S_ok h
    simp only [dl, iha _ hp.1 h1, ihb _ hp.2 h2]
  | arr k r n ws _ =>
    intro v' _ h
    unfold instS at h
    split at h
    · cases h
    · rename_i n' hn
      split at h
      · rename_i r' N ws' hl
        split at h
        · rename_i z
          split at h
          · rename_i hz
            cases h
            simp only [dl, instI_ev hn, ev_lit]
            unfold arrCells
            refine List.map_congr_left fun j hj => ?_
            have hj : j < N := by have := List.mem_range.1 hj; omega
            simp only [wsVal]
            have hr0 : r ≠ 0 := by rintro rfl; simp at hl
            rw [if_neg hr0] at hl
            unfold Env.row
            rw [if_neg hr0]
            simp [Env.by, hl, List.getD_eq_getElem?_getD, hj]
          · cases h
        · cases h
      · rename_i hl
        simp only [Option.map_eq_some_iff] at h
        obtain ⟨ws', h1, rfl⟩ := h
        simp only [dl, instI_ev hn]
        unfold arrCells
        refine List.map_congr_left fun j _ => ?_
        rw [instW_ok (row_by hl) _ _ h1]
  | wr i x ws _ => intro v' _ h; cases h
  | _ => intro v' _ h; cases h; rfl
/-- a slot: an open one, or a plain value -/
def slotOk (σ : Sub) (p v : SV) : Bool :=
  match p with
  | .opq j => match look j σ.v with
    | some x => x == v
    | none => false
  | p => p.plain && (instS σ p == some v)
theorem slotOk_ok {E : Env} {σ : Sub} {p v : SV} (h : slotOk σ p v = true) : dv (E.by σ) p = dv E v := by
  unfold slotOk at h
  split at h
  · rename_i j
    split at h
    · rename_i x hx
      rw [beq_iff_eq] at h
      subst h
      simp only [dv, dl, List.headD_cons, Env.by, hx]
    · cases h
  · simp only [Bool.and_eq_true, beq_iff_eq] at h
    unfold dv
    rw [instS_ok E σ p v h.1 h.2]
def slotsOk (σ : Sub) : Fr → Fr → Bool
  | [], [] => true
  | p :: ps, v :: vs => slotOk σ p v && slotsOk σ ps vs
  | _, _ => false
theorem slotsOk_ok {E : Env} {σ : Sub} : ∀ {ps vs : Fr}, slotsOk σ ps vs = true → ps.map (dv (E.by σ)) = vs.map (dv E) := by
  intro ps
  induction ps with
  | nil => intro vs h; cases vs <;> first | rfl | (simp [slotsOk] at h)
  | cons p ps ih =>
    intro vs h
    cases vs with
    | nil => simp [slotsOk] at h
    | cons v vs =>
      simp only [slotsOk, Bool.and_eq_true] at h
      rw [List.map_cons, List.map_cons, slotOk_ok h.1, ih h.2]

/- memory -/
/-- one chain at another one's head -/
def prefixC : SV → SV → Bool
  | .nil, _ => true
  | .cons a r, .cons a' r' => (a == a') && prefixC r r'
  | _, _ => false
theorem prefixC_ok (E : Env) : ∀ {c e : SV}, prefixC c e = true → ∀ (j : Nat) (v : Value), (dl E c)[j]? = some v → (dl E e)[j]? = some v := by
  intro c
  induction c with
  | nil => intro e _ j v h; simp [dl] at h
  | cons a r _ ih =>
    intro e h j v hj
    cases e <;> first | (simp [prefixC] at h; done) | skip
    rename_i a' r'
    simp only [prefixC, Bool.and_eq_true, beq_iff_eq] at h
    obtain ⟨rfl, h⟩ := h
    simp only [dl] at hj ⊢
    rw [List.getElem?_append] at hj ⊢
    split
    · rename_i hlt; rw [if_pos hlt] at hj; exact hj
    · rename_i hlt; rw [if_neg hlt] at hj; exact ih h _ _ hj
  | _ => intro e h; cases e <;> simp [prefixC] at h
noncomputable def entOk (σ : Sub) (m : Mem) (p : Ent) : Bool :=
  match m.find (blockOf σ p.s p.k).1 (blockOf σ p.s p.k).2 with
  | some e => (instI σ p.base == some e.base) && p.c.plain && (match instS σ p.c with
    | some c => if p.ro then prefixC c e.c else !e.ro && (e.t == p.t) && (c == e.c)
    | none => false)
  | none => false
/-- the blocks of a pattern's entries are different entries' -/
def keysApart (σ : Sub) : List Ent → Bool
  | [] => true
  | p :: r => r.all (fun q => (p.ro && q.ro) || !(blockOf σ p.s p.k == blockOf σ q.s q.k)) && keysApart σ r
noncomputable def factsOk (σ : Sub) (kn : Know) : List Fact → Bool
  | [] => true
  | f :: r => (match instI σ f.1 with
    | some e => decide (f.2.1 ≤ (rng kn.facts e).1) && decide ((rng kn.facts e).2 ≤ f.2.2)
    | none => false) && factsOk σ kn r
noncomputable def condsOk (σ : Sub) (kn : Know) : List BE → Bool
  | [] => true
  | c :: r => (match instB σ c with
    | some c' => again kn c' == .lit true
    | none => false) && condsOk σ kn r
noncomputable def in64S (kn : Know) (e : IE) : Bool := decide (lo64 ≤ (rng kn.facts e).1) && decide ((rng kn.facts e).2 ≤ hi64)
noncomputable def in64W (kn : Know) : SV → Bool
  | .wr _ x ws => in64S kn x && in64W kn ws
  | _ => true
noncomputable def subOk (n : Nat) (σ : Sub) (kn : Know) : Bool :=
  σ.i.all (fun p => Nat.ble n p.1 && in64S kn p.2) && σ.b.all (fun p => Nat.ble n p.1) && σ.l.all (fun p => Nat.ble n p.1 && in64W kn p.2.2.2) && σ.base.all (fun p => Nat.ble n p.1) && σ.v.all fun p => Nat.ble n p.1
noncomputable def sizeOk (σ : Sub) (mH m : Mem) : Bool := blockOf σ mH.seg mH.next == (m.seg, m.next)
/-- is (tm, m) an instance of (tmH, mH)? names below n are left alone -/
noncomputable def reroot (n : Nat) (σ : Sub) (tmH : Fr) (mH : Mem) (tm : Fr) (m : Mem) : Bool :=
  subOk n σ m.know && slotsOk σ tmH tm && mH.heap.all (entOk σ m) && keysApart σ mH.heap && factsOk σ m.know mH.know.facts && condsOk σ m.know mH.know.conds && sizeOk σ mH m

theorem by_agree {n : Nat} {σ : Sub} {kn : Know} (h : subOk n σ kn = true) (E : Env) : Agree n E (E.by σ) := by
  simp only [subOk, Bool.and_eq_true, List.all_eq_true] at h
  obtain ⟨⟨⟨⟨h1, h2⟩, h3⟩, h4⟩, h5⟩ := h
  have none_of : ∀ {α : Type} {l : List (Nat × α)} {k : Nat}, (∀ p ∈ l, Nat.ble n p.1 = true) → k < n → look k l = none := by
    intro α l k hl hk
    cases hq : look k l with
    | none => rfl
    | some a =>
      have := Nat.le_of_ble_eq_true (hl _ (look_mem hq))
      dsimp only at this
      omega
  refine ⟨fun k hk => ?_, fun k hk => ?_, fun k hk => ?_, fun k hk => ?_, fun k hk => ?_, fun k hk => ?_, rfl⟩
  · simp only [Env.by, none_of (fun p hp => (h1 p hp).1) hk]
  · simp only [Env.by, none_of h2 hk]
  · simp only [Env.by, none_of (fun p hp => (h3 p hp).1) hk]
  · simp only [Env.by, none_of h4 hk]
  · simp only [Env.by, none_of h4 hk]
  · simp only [Env.by, none_of h5 hk]
theorem in64S_ok {E : Env} {kn : Know} (hk : KnowOk E kn) {e : IE} (h : in64S kn e = true) : in64 (ev E e) := by
  simp only [in64S, Bool.and_eq_true, decide_eq_true_eq] at h
  have := rng_ok hk.env hk.facts e
  exact ⟨by omega, by omega⟩
theorem in64W_ok {E : Env} {kn : Know} (hk : KnowOk E kn) (r : Nat) : ∀ (ws : SV), in64W kn ws = true → ∀ j, in64 (wsVal E r ws j) := by
  intro ws
  induction ws with
  | wr i x ws ih =>
    intro h j
    simp only [in64W, Bool.and_eq_true] at h
    simp only [wsVal]
    split
    · exact in64S_ok hk h.1
    · exact ih h.2 j
  | _ => intro _ j; exact row_ok hk.env r j
theorem by_ok {n : Nat} {σ : Sub} {kn : Know} (h : subOk n σ kn = true) {E : Env} (hk : KnowOk E kn) : (E.by σ).Ok := by
  simp only [subOk, Bool.and_eq_true, List.all_eq_true] at h
  obtain ⟨⟨⟨⟨h1, _⟩, h3⟩, _⟩, _⟩ := h
  refine ⟨fun j => ?_, fun r x hx => ?_, hk.env.f⟩
  · simp only [Env.by]
    split
    · rename_i e he; exact in64S_ok hk (h1 _ (look_mem he)).2
    · exact hk.env.i j
  · simp only [Env.by] at hx
    split at hx
    · rename_i r' N ws he
      obtain ⟨j, _, rfl⟩ := List.mem_map.1 hx
      exact in64W_ok hk r' ws (h3 _ (look_mem he)).2 j
    · exact hk.env.l r x hx
theorem factsOk_ok {E : Env} {σ : Sub} {kn : Know} (hk : KnowOk E kn) : ∀ {fs : List Fact}, factsOk σ kn fs = true → ∀ f ∈ fs, FactOk (E.by σ) f := by
  intro fs
  induction fs with
  | nil => intro _ f hf; cases hf
  | cons g r ih =>
    intro h f hf
    simp only [factsOk, Bool.and_eq_true] at h
    rcases List.mem_cons.1 hf with rfl | hf
    · have h1 := h.1
      split at h1
      · rename_i e he
        simp only [Bool.and_eq_true, decide_eq_true_eq] at h1
        have := rng_ok hk.env hk.facts e
        unfold FactOk
        rw [instI_ev he]
        omega
      · cases h1
    · exact ih h.2 f hf
theorem condsOk_ok {E : Env} {σ : Sub} {kn : Know} (hk : KnowOk E kn) : ∀ {cs : List BE}, condsOk σ kn cs = true → ∀ c ∈ cs, evB (E.by σ) c = true := by
  intro cs
  induction cs with
  | nil => intro _ f hf; cases hf
  | cons g r ih =>
    intro h c hc
    simp only [condsOk, Bool.and_eq_true] at h
    rcases List.mem_cons.1 hc with rfl | hc
    · have h1 := h.1
      split at h1
      · rename_i c' hc'
        rw [beq_iff_eq] at h1
        rw [instB_ok E σ _ _ hc', ← again_ok hk c', h1]
        rfl
      · cases h1
    · exact ih h.2 c hc
theorem entOk_ok {E : Env} {σ : Sub} {m : Mem} {F : Nat → Prop} {w0 w : World} (hm : MemOk F w0 E m w) {p : Ent} (hp : entOk σ m p = true) :
    ∃ e ∈ m.heap, (e.s, e.k) = blockOf σ p.s p.k ∧ p.blk (E.by σ) = e.blk E ∧ ((E.by σ).o p.s = E.o e.s ∧ ev (E.by σ) p.base = ev E e.base) ∧ EntOk E w e ∧
      (∀ (j : Nat) (v : Value), (dl (E.by σ) p.c)[j]? = some v → (dl E e.c)[j]? = some v) ∧ (p.ro = false → e.ro = false) ∧ (p.ro = false → e.t = p.t ∧ dl (E.by σ) p.c = dl E e.c) := by
  unfold entOk at hp
  split at hp
  · rename_i e he
    simp only [Bool.and_eq_true, beq_iff_eq] at hp
    obtain ⟨⟨q1, q2⟩, q3⟩ := hp
    obtain ⟨k1, k2, k3⟩ := Mem.find_ok he
    split at q3
    · rename_i c hc
      have hd := instS_ok E σ _ _ q2 hc
      refine ⟨e, k1, by rw [k2, k3], by simp only [Ent.blk, blockOf_ok, k2, k3], ⟨by rw [blockO_ok E σ p.s p.k, k2], instI_ev q1⟩, hm.ents e k1, ?_, ?_, ?_⟩
      · intro j v hj
        rw [hd] at hj
        split at q3
        · exact prefixC_ok E q3 j v hj
        · simp only [Bool.and_eq_true, beq_iff_eq] at q3
          rw [← q3.2]; exact hj
      · intro hr
        rw [hr] at q3
        simp only [Bool.false_eq_true, if_false, Bool.and_eq_true, Bool.not_eq_true'] at q3
        exact q3.1.1
      · intro hr
        rw [hr] at q3
        simp only [Bool.false_eq_true, if_false, Bool.and_eq_true, beq_iff_eq] at q3
        exact ⟨q3.1.2, by rw [hd, q3.2]⟩
    · cases q3
  · cases hp
theorem keysApart_ok {E : Env} {σ : Sub} {m : Mem} {F : Nat → Prop} {w0 w : World} (hm : MemOk F w0 E m w) : ∀ {l : List Ent}, (∀ p ∈ l, entOk σ m p = true) → keysApart σ l = true → l.Pairwise (Ent.parted (E.by σ)) := by
  have entry : ∀ p : Ent, entOk σ m p = true → ∃ e ∈ m.heap, (p.ro = false → e.ro = false) ∧ (e.s, e.k) = blockOf σ p.s p.k ∧ p.blk (E.by σ) = e.blk E := by
    intro p hp
    obtain ⟨e, h1, h2, h3, _, _, h4, h5, h6⟩ := entOk_ok hm hp
    exact ⟨e, h1, h5, h2, h3⟩
  intro l
  induction l with
  | nil => intro _ _; exact List.Pairwise.nil
  | cons p r ih =>
    intro hl h
    simp only [keysApart, Bool.and_eq_true, List.all_eq_true] at h
    refine List.Pairwise.cons (fun q hq hro => ?_) (ih (fun p hp => hl p (List.mem_cons_of_mem _ hp)) h.2)
    obtain ⟨e, he, hro1, hk1, hb1⟩ := entry p (hl p List.mem_cons_self)
    obtain ⟨e', he', hro2, hk2, hb2⟩ := entry q (hl q (List.mem_cons_of_mem _ hq))
    rw [hb1, hb2]
    intro hb
    have hne : e.ro = false ∨ e'.ro = false := by
      cases h1 : p.ro with
      | false => exact .inl (hro1 h1)
      | true =>
        cases h2 : q.ro with
        | false => exact .inr (hro2 h2)
        | true => exact absurd ⟨h1, h2⟩ hro
    have := hm.same he he' hne hb
    subst this
    have := h.1 q hq
    rw [hk1] at hk2
    simp only [Bool.or_eq_true, Bool.and_eq_true, Bool.not_eq_true', beq_eq_false_iff_ne] at this
    rcases this with h3 | h3
    · exact hro h3
    · exact h3 hk2
theorem reroot_ok {F : Nat → Prop} {w0 w : World} {E : Env} {n : Nat} {σ : Sub} {tmH tm : Fr} {mH m : Mem} (h : reroot n σ tmH mH tm m = true) {a : Act} (hm : MemOk F w0 E m w) (ha : FrOk E tm a) :
    Agree n E (E.by σ) ∧ MemOk F w0 (E.by σ) mH w ∧ FrOk (E.by σ) tmH a := by
  simp only [reroot, Bool.and_eq_true] at h
  obtain ⟨⟨⟨⟨⟨⟨h1, h2⟩, h3⟩, h4⟩, h5⟩, h6⟩, h7⟩ := h
  have h3' : ∀ p ∈ mH.heap, entOk σ m p = true := List.all_eq_true.1 h3
  refine ⟨by_agree h1 E, ⟨⟨by_ok h1 hm.know, factsOk_ok hm.know h5, condsOk_ok hm.know h6⟩, ?_, ?_, keysApart_ok hm h3' h4, ?_, hm.ext, ?_⟩, ⟨?_, ha.defers⟩⟩
  · simp only [sizeOk, beq_iff_eq] at h7
    rw [blockOf_ok, h7, hm.size]
  · intro p hp
    obtain ⟨e, k1, k2, hb, ⟨hoo, hbase⟩, ok, hcells, hro, hown⟩ := entOk_ok hm (h3' p hp)
    refine ⟨by rw [hb]; exact ok.lt, fun hr j v hj => ?_, fun hr => ?_⟩
    · rw [hb, hbase, hoo]
      exact ok.cell j v (hcells j v hj)
    · obtain ⟨o1, o2⟩ := ok.own (hro hr)
      obtain ⟨t1, t2⟩ := hown hr
      rw [hb, hbase, hoo, t2, ← t1]
      exact ⟨o1, o2⟩
  · intro p hp hr
    obtain ⟨e, k1, k2, hb, hbase, ok, hcells, hro, hown⟩ := entOk_ok hm (h3' p hp)
    rw [hb]
    exact hm.mine e k1 (hro hr)
  · simp only [sizeOk, beq_iff_eq] at h7
    rw [blockO_ok E σ mH.seg mH.next, h7]
    exact hm.seg0
  · rw [ha.tmps, slotsOk_ok h2]
end Go.Sx
