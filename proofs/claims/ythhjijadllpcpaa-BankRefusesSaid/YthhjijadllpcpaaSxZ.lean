/- Arguments: values of types whose cells are numbers and bools, as chains of names. -/
import Derived.Test.YthhjijadllpcpaaSxY
import GoSem.ClaimWide
namespace Go.Sx
open Go

/-- the kinds of a type's cells: a bool, or an int -/
def kindOf (P : Program) (u : Nat) : Option Bool :=
  match P.underlying u with
  | some .bool => some true
  | some (.int .i64) => some false
  | _ => none
def kindsOf (P : Program) (t : Nat) : Option (List Bool) :=
  match P.cellTypes P.depth t with
  | some ts => ts.mapM (kindOf P)
  | none => none
def isAggB (P : Program) (t : Nat) : Bool :=
  match P.underlying t with
  | some (.struct _) | some (.array _ _) => true
  | _ => false
theorem mapM_at {α β : Type} {f : α → Option β} : ∀ {l : List α} {r : List β}, l.mapM f = some r → l.length = r.length ∧ ∀ (i : Nat) (x : α), l[i]? = some x → ∃ y, f x = some y ∧ r[i]? = some y := by
  intro l
  induction l with
  | nil => intro r h; simp at h; subst h; exact ⟨rfl, fun i x hx => by simp at hx⟩
  | cons a l ih =>
    intro r h
    rw [List.mapM_cons] at h
    cases ha : f a with
    | none => rw [ha] at h; cases h
    | some b =>
      cases hl : l.mapM f with
      | none => rw [ha, hl] at h; cases h
      | some bs =>
        rw [ha, hl] at h
        cases h
        obtain ⟨h1, h2⟩ := ih hl
        refine ⟨by simp [h1], fun i x hx => ?_⟩
        cases i with
        | zero => simp at hx; subst hx; exact ⟨b, ha, rfl⟩
        | succ i => simpa using h2 i x (by simpa using hx)
def intAt (cs : List Value) (i : Nat) : Int := match cs[i]? with | some (.int _ n) => n | _ => 0
def boolAt (cs : List Value) (i : Nat) : Bool := match cs[i]? with | some (.bool b) => b | _ => false
theorem intAt_in {cs : List Value} (h : ∀ (i : Nat) (k : IntKind) (n : Int), cs[i]? = some (.int k n) → in64 n) (i : Nat) : in64 (intAt cs i) := by
  unfold intAt
  split
  · exact h _ _ _ ‹_›
  · simp [in64, lo64, hi64]
/-- a cell, as its kind reads it -/
def cellV (k : Bool) (cs : List Value) (i : Nat) : Value := match k with
  | true => .bool (boolAt cs i)
  | false => .int .i64 (intAt cs i)
/-- a value of such a type: its cells -/
theorem open_flat {P : Program} {w : World} {r : Reach} {b0 t : Nat} {v : Value} {ks : List Bool} (ha : isAggB P t = true) (hk : kindsOf P t = some ks) (hn : P.cellsOf t = ks.length) (hv : Value.okWide P w r b0 t v) :
    ∃ cs : List Value, v = .agg cs.toArray ∧ cs.length = ks.length ∧ (∀ i (_ : i < ks.length), cs[i]? = some (cellV (ks.getD i false) cs i)) ∧ ∀ i, in64 (intAt cs i) := by
  have hv' : ∃ cs, v = .agg cs ∧ cs.size = P.cellsOf t ∧ Row.okWide P w r b0 t cs := by
    unfold Value.okWide at hv
    unfold isAggB at ha
    split at ha
    · rename_i hu; rw [hu] at hv; exact hv
    · rename_i hu; rw [hu] at hv; exact hv
    · cases ha
  obtain ⟨cs, rfl, hsz, ts, hts, _, hcell⟩ := hv'
  unfold kindsOf at hk
  rw [hts] at hk
  obtain ⟨hlen, hat⟩ := mapM_at hk
  have hsize : cs.size = ks.length := hsz.trans hn
  have each : ∀ (i : Nat) (x : Value), cs[i]? = some x → i < ks.length → ∃ k, ks[i]? = some k ∧ ((k = true ∧ ∃ b, x = .bool b) ∨ (k = false ∧ ∃ n, x = .int .i64 n ∧ in64 n)) := by
    intro i x hx hi
    obtain ⟨u, hu, hok⟩ := hcell i x hx
    rw [Nat.mod_eq_of_lt (by omega)] at hu
    obtain ⟨k, hk1, hk2⟩ := hat i u hu
    refine ⟨k, hk2, ?_⟩
    unfold kindOf at hk1
    unfold Cell.okWide at hok
    split at hk1
    · rename_i hb
      cases hk1
      rw [hb] at hok
      left
      refine ⟨rfl, ?_⟩
      cases x <;> first | exact ⟨_, rfl⟩ | (simp [Cell.ok, hb] at hok)
    · rename_i hb
      cases hk1
      rw [hb] at hok
      right
      refine ⟨rfl, ?_⟩
      cases x <;> first | (simp [Cell.ok, hb] at hok; done) | skip
      rename_i k n
      simp [Cell.ok, hb] at hok
      obtain ⟨rfl, hh⟩ := hok
      refine ⟨n, rfl, ?_⟩
      have : IntKind.i64.min = lo64 := by decide
      have : IntKind.i64.max = hi64 := by decide
      unfold IntKind.has at hh
      simp only [in64]
      omega
    · cases hk1
  refine ⟨cs.toList, rfl, by simpa using hsize, fun i hi => ?_, fun i => intAt_in (fun j k n hj => ?_) i⟩
  · have hlt : i < cs.size := by omega
    have hx : cs[i]? = some cs[i] := Array.getElem?_eq_getElem hlt
    have hx' : cs.toList[i]? = some cs[i] := by simp only [Array.getElem?_toList]; exact hx
    obtain ⟨k, hk1, hk2⟩ := each i _ hx hi
    have hg : ks.getD i false = k := by simp [List.getD_eq_getElem?_getD, hk1]
    rw [hg]
    rcases hk2 with ⟨rfl, b, hb⟩ | ⟨rfl, n, hb, _⟩
    · simp only [cellV, boolAt, hx', hb]
    · simp only [cellV, intAt, hx', hb]
  · have hj' : cs[j]? = some (.int k n) := by simpa using hj
    have hlt := (Array.getElem?_eq_some_iff.1 hj').1
    obtain ⟨k', _, hk2⟩ := each j _ hj' (by omega)
    rcases hk2 with ⟨_, b, hb⟩ | ⟨_, n', hb, hin⟩
    · cases hb
    · cases hb; exact hin

/-- how a value's cells are named: one by one, or a run of ints as a row -/
inductive Sg where
  | cell (bool : Bool)
  | row (r n : Nat)
def Sg.kinds : List Sg → List Bool
  | [] => []
  | .cell k :: s => k :: Sg.kinds s
  | .row _ n :: s => List.replicate n false ++ Sg.kinds s
/-- the chain: cell number i has the name a + i -/
def segP : Nat → List Sg → SV
  | _, [] => .nil
  | a, .cell k :: s => .cons (if k then .bool (.var a) else .int .i64 (.var a)) (segP (a + 1) s)
  | a, .row r n :: s => .cons (.arr .i64 r (.lit n) .nil) (segP (a + n) s)
/-- the rows, with where they begin -/
def rowsP : Nat → List Sg → List (Nat × Nat × Nat)
  | _, [] => []
  | o, .cell _ :: s => rowsP (o + 1) s
  | o, .row r n :: s => (r, o, n) :: rowsP (o + n) s
theorem segP_ok (E : Env) (a : Nat) (cs : List Value) : ∀ (s : List Sg) (o : Nat), (Sg.kinds s).length + o = cs.length →
    (∀ i (_ : i < (Sg.kinds s).length), cs[o + i]? = some (cellV ((Sg.kinds s).getD i false) cs (o + i))) →
    (∀ i, i < cs.length → E.i (a + i) = intAt cs i) → (∀ i, i < cs.length → E.b (a + i) = boolAt cs i) →
    (∀ x ∈ rowsP o s, x.1 ≠ 0 ∧ E.l x.1 = (List.range x.2.2).map fun j => intAt cs (x.2.1 + j)) → dl E (segP (a + o) s) = cs.drop o := by
  intro s
  induction s with
  | nil =>
    intro o h _ _ _ _
    simp [Sg.kinds] at h
    simp [segP, dl, h]
  | cons g s ih =>
    intro o h hc hi hb hr
    cases g with
    | cell k =>
      simp only [Sg.kinds, List.length_cons] at h hc
      have hlt : o < cs.length := by omega
      have h0 := hc 0 (by omega)
      simp only [Nat.add_zero, List.getD_cons_zero] at h0
      have ihs := ih (o + 1) (by omega) (fun i hi => by
        have := hc (i + 1) (by omega)
        simp only [List.getD_cons_succ] at this
        rw [show o + 1 + i = o + (i + 1) by omega]; exact this) hi hb (fun x hx => hr x hx)
      unfold segP
      simp only [dl]
      rw [show a + o + 1 = a + (o + 1) by omega, ihs, List.drop_eq_getElem_cons hlt]
      have hget : cs[o] = cellV k cs o := by
        have := List.getElem?_eq_getElem hlt
        rw [this] at h0
        exact Option.some.inj h0
      rw [hget]
      cases k
      · simp only [Bool.false_eq_true, if_false, dl, List.singleton_append, cellV]
        rw [show ev E (.var (a + o)) = E.i (a + o) from rfl, hi o hlt]
      · simp only [if_true, dl, List.singleton_append, cellV]
        rw [show evB E (.var (a + o)) = E.b (a + o) from rfl, hb o hlt]
    | row r n =>
      simp only [Sg.kinds, List.length_append, List.length_replicate] at h hc
      have ihs := ih (o + n) (by omega) (fun i hi => by
        have := hc (n + i) (by omega)
        have e : (List.replicate n false ++ Sg.kinds s).getD (n + i) false = (Sg.kinds s).getD i false := by
          rw [List.getD_eq_getElem?_getD, List.getElem?_append_right (by simp), List.length_replicate, Nat.add_sub_cancel_left, ← List.getD_eq_getElem?_getD]
        rw [e] at this
        rw [show o + n + i = o + (n + i) by omega]; exact this) hi hb (fun x hx => hr x (by simp only [rowsP]; exact List.mem_cons_of_mem _ hx))
      obtain ⟨hr0, hrl⟩ := hr (r, o, n) (by simp [rowsP])
      unfold segP
      simp only [dl]
      rw [show a + o + n = a + (o + n) by omega, ihs]
      have e1 : arrCells E .i64 r (ev E (.lit n)).toNat .nil = (cs.drop o).take n := by
        refine List.ext_getElem? fun j => ?_
        rw [ev_lit, Int.toNat_natCast, List.getElem?_take]
        by_cases hj : j < n
        · rw [arrCells_get _ _ _ _ _ _ hj, if_pos hj, List.getElem?_drop]
          have := hc j (by omega)
          have e : (List.replicate n false ++ Sg.kinds s).getD j false = false := by
            rw [List.getD_eq_getElem?_getD, List.getElem?_append_left (by simpa using hj)]
            simp [hj]
          rw [e] at this
          rw [this]
          simp only [wsVal, Env.row, cellV]
          rw [if_neg hr0, hrl]
          simp [List.getD_eq_getElem?_getD, hj]
        · rw [if_neg hj, List.getElem?_eq_none (by rw [arrCells_len]; omega)]
      rw [e1, ← List.drop_drop, List.take_append_drop]

/- an environment of arguments -/
/-- cells that have names: the first name, how many, the cells -/
abbrev Named := Nat × Nat × List Value
def lookN {α : Type} (k : Nat) (f : List Value → Nat → α) (d : α) : List Named → α
  | [] => d
  | (a, n, cs) :: r => if a ≤ k ∧ k < a + n then f cs (k - a) else lookN k f d r
def lookR (k : Nat) : List (Nat × List Int) → List Int
  | [] => []
  | (r, l) :: rest => if k = r then l else lookR k rest
/-- slices: the name, block, place -/
def lookB (k : Nat) (d : Nat) : List (Nat × Nat) → Nat
  | [] => d
  | (a, b) :: rest => if k = a then b else lookB k d rest
def envOf (w : World) (cells : List Named) (rows : List (Nat × List Int)) (ints : List (Nat × List Int)) (bases : List (Nat × Nat)) (offs : List (Nat × Nat)) : Env where
  i k := match lookR k ints with
    | z :: _ => z
    | [] => lookN k intAt 0 cells
  b k := lookN k boolAt false cells
  l k := lookR k rows
  base k := lookB k w.heap.size bases
  o k := lookB k 0 offs
  v _ := .tuple #[]
  f _ _ := 0
theorem lookN_in {k : Nat} : ∀ {l : List Named}, (∀ x ∈ l, ∀ i, in64 (intAt x.2.2 i)) → in64 (lookN k intAt 0 l) := by
  intro l
  induction l with
  | nil => intro _; simp [lookN, in64, lo64, hi64]
  | cons x r ih =>
    obtain ⟨a, n, cs⟩ := x
    intro h
    unfold lookN
    split
    · exact h _ List.mem_cons_self _
    · exact ih fun y hy => h y (List.mem_cons_of_mem _ hy)
theorem lookR_mem {k : Nat} {z : Int} : ∀ {l : List (Nat × List Int)}, z ∈ lookR k l → ∃ x ∈ l, z ∈ x.2 := by
  intro l
  induction l with
  | nil => intro h; simp [lookR] at h
  | cons x r ih =>
    obtain ⟨a, xs⟩ := x
    intro h
    unfold lookR at h
    split at h
    · exact ⟨_, List.mem_cons_self, h⟩
    · obtain ⟨y, hy, hz⟩ := ih h
      exact ⟨y, List.mem_cons_of_mem _ hy, hz⟩
theorem envOf_ok {w : World} {cells : List Named} {rows ints : List (Nat × List Int)} {bases offs : List (Nat × Nat)} (hc : ∀ x ∈ cells, ∀ i, in64 (intAt x.2.2 i)) (hr : ∀ x ∈ rows, ∀ z ∈ x.2, in64 z) (hi : ∀ x ∈ ints, ∀ z ∈ x.2, in64 z) :
    (envOf w cells rows ints bases offs).Ok := by
  refine ⟨fun k => ?_, fun k z hz => ?_, fun _ _ => (by simp [envOf, in64, lo64, hi64])⟩
  · simp only [envOf]
    split
    · rename_i z zs hz
      obtain ⟨x, hx, hzx⟩ := lookR_mem (k := k) (z := z) (l := ints) (by rw [hz]; exact List.mem_cons_self)
      exact hi x hx z hzx
    · exact lookN_in hc
  · obtain ⟨x, hx, hzx⟩ := lookR_mem (l := rows) hz
    exact hr x hx z hzx

/- slices of numbers, or of structs of numbers, that came in -/
/-- the names of a slice's block, place, length, room, row; cells of an element; what it is -/
structure SlArg where
  s : Nat
  of : Nat
  ln : Nat
  cp : Nat
  r : Nat
  z : Nat
  b : Nat
  o : Nat
  len : Nat
  cap : Nat
  zs : List Int
structure SlArg.Holds (S : SlArg) (w : World) : Prop where
  block : S.b < w.heap.size
  room : S.len ≤ S.cap
  max : S.cap ≤ maxLen
  size : S.zs.length = S.len * S.z
  nums : ∀ x ∈ S.zs, in64 x
  cells : ∀ j, j < S.zs.length → w.cell? ⟨S.b, S.o + j, none⟩ = some (.int .i64 (S.zs.getD j 0))
structure SlArg.Named (S : SlArg) (E : Env) : Prop where
  base : E.base S.s = S.b
  o : E.o S.s = S.o
  of : E.i S.of = 0
  ln : E.i S.ln = S.len
  cp : E.i S.cp = S.cap
  l : E.l S.r = S.zs
  r0 : S.r ≠ 0
def slV (s of ln cp : Nat) : SV := .sli s 0 (.var of) (.var ln) (.var cp)
theorem SlArg.val {S : SlArg} {E : Env} (h : S.Named E) : dv E (slV S.s S.of S.ln S.cp) = .slice (some ⟨S.b, S.o, none⟩) S.len S.cap := by
  show Value.slice (some (addrOf E S.s 0 (.var S.of))) (ev E (.var S.ln)).toNat (ev E (.var S.cp)).toNat = _
  have e1 : ev E (.var S.of) = 0 := h.of
  have e2 : ev E (.var S.ln) = S.len := h.ln
  have e3 : ev E (.var S.cp) = S.cap := h.cp
  simp [addrOf, e1, e2, e3, h.base, h.o]
def lenE (ln z : Nat) : IE := if z = 1 then .var ln else .mul (.var ln) (.lit z)
def slE (s of ln r z : Nat) : Ent := ⟨s, 0, true, 0, .var of, .cons (.arr .i64 r (lenE ln z) .nil) .nil⟩
def slF (of ln cp : Nat) (most : Int) : List Fact := [(.var of, 0, hi64), (.var ln, 0, most), (.var cp, 0, hi64), (.sub (.var cp) (.var ln), 0, hi64)]
theorem SlArg.facts {S : SlArg} {E : Env} {w : World} (h : S.Named E) (hh : S.Holds w) {most : Int} (hm : (S.len : Int) ≤ most) : ∀ f ∈ slF S.of S.ln S.cp most, FactOk E f := by
  have e1 : ev E (.var S.of) = 0 := h.of
  have e2 : ev E (.var S.ln) = S.len := h.ln
  have e3 : ev E (.var S.cp) = S.cap := h.cp
  have h1 := hh.room
  have h2 := hh.max
  simp only [maxLen] at h2
  intro f hf
  simp only [slF, List.mem_cons, List.not_mem_nil, or_false] at hf
  have hhi : hi64 = 9223372036854775807 := rfl
  rcases hf with rfl | rfl | rfl | rfl <;> unfold FactOk <;> dsimp only
  · rw [e1, hhi]; omega
  · rw [e2]; omega
  · rw [e3, hhi]; omega
  · rw [ev_sub, e2, e3, hhi]; omega
theorem SlArg.ent {S : SlArg} {E : Env} {w : World} (h : S.Named E) (hh : S.Holds w) : EntOk E w (slE S.s S.of S.ln S.r S.z) := by
  have e1 : ev E (.var S.of) = 0 := h.of
  have e2 : ev E (.var S.ln) = S.len := h.ln
  have hl : (ev E (lenE S.ln S.z)).toNat = S.len * S.z := by
    unfold lenE
    split
    · rename_i hz; rw [e2, hz]; simp
    · rw [ev_mul, e2, ev_lit, Int.toNat_mul (by omega) (by omega)]; simp
  refine ⟨?_, fun _ j v hj => ?_, fun hr => (by cases hr)⟩
  · show E.base S.s + 0 < _
    rw [h.base]; exact hh.block
  · simp only [slE, dl, List.append_nil, hl] at hj
    have hjl : j < S.len * S.z := by
      have := (List.getElem?_eq_some_iff.1 hj).1
      rwa [arrCells_len] at this
    rw [arrCells_get _ _ _ _ _ _ hjl] at hj
    cases hj
    have hc := hh.cells j (by rw [hh.size]; exact hjl)
    have hadr : (⟨(slE S.s S.of S.ln S.r S.z).blk E, E.o (slE S.s S.of S.ln S.r S.z).s + ((ev E (slE S.s S.of S.ln S.r S.z).base).toNat + j), none⟩ : Addr) = ⟨S.b, S.o + j, none⟩ := by
      show (⟨E.base S.s + 0, E.o S.s + ((ev E (.var S.of)).toNat + j), none⟩ : Addr) = _
      rw [h.base, h.o, e1]; simp
    rw [hadr, hc]
    simp only [wsVal, Env.row]
    rw [if_neg h.r0, h.l]
/-- the memory that a law starts from: slices that came in, facts -/
def slMem (ents : List Ent) (fs : List Fact) (nv : Nat) : Mem := { know := ⟨fs, []⟩, heap := ents, seg := 0, next := 0, nv }
theorem slMem_ok {w : World} {E : Env} {ents : List Ent} {fs : List Fact} (nv : Nat) (hE : E.Ok) (hb : E.base 0 = w.heap.size) (ho : E.o 0 = 0) (hents : ∀ e ∈ ents, e.ro = true ∧ EntOk E w e) (hf : ∀ f ∈ fs, FactOk E f) :
    MemOk (fun _ => False) w E (slMem ents fs nv) w := by
  refine ⟨⟨hE, hf, fun c hc => (by cases hc)⟩, by show w.heap.size = E.base 0 + 0; omega, fun e he => (hents e he).2, ?_, fun e he hr => ?_, Ext.refl _ _, ho⟩
  · have all : ∀ l : List Ent, (∀ e ∈ l, e.ro = true) → l.Pairwise (Ent.parted E) := by
      intro l
      induction l with
      | nil => intro _; exact List.Pairwise.nil
      | cons a l ih =>
        intro h
        exact List.Pairwise.cons (fun b hb hn => absurd ⟨h a List.mem_cons_self, h b (List.mem_cons_of_mem _ hb)⟩ hn) (ih fun e he => h e (List.mem_cons_of_mem _ he))
    exact all ents fun e he => (hents e he).1
  · have := (hents e he).1
    rw [this] at hr; cases hr
end Go.Sx
