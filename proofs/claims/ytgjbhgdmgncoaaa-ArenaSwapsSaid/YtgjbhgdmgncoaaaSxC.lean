/- The executor reads, writes and makes memory. -/
import Derived.Test.YtgjbhgdmgncoaaaSxT
namespace Go.Sx
open Go

noncomputable def findE (s k : Nat) (l : List Ent) : Option Ent :=
  List.rec (motive := fun _ => Option Ent) none (fun x _ ih => cond (Nat.beq x.k k && Nat.beq x.s s) (some x) ih) l
theorem findE_ok {s k : Nat} {e : Ent} : ∀ {l : List Ent}, findE s k l = some e → e ∈ l ∧ e.s = s ∧ e.k = k := by
  intro l
  induction l with
  | nil => intro h; cases h
  | cons x r ih =>
    intro h
    have h' : cond (Nat.beq x.k k && Nat.beq x.s s) (some x) (findE s k r) = some e := h
    cases hb : (Nat.beq x.k k && Nat.beq x.s s) with
    | true =>
      rw [hb] at h'
      cases h'
      simp only [Bool.and_eq_true] at hb
      exact ⟨List.mem_cons_self, Nat.eq_of_beq_eq_true hb.2, Nat.eq_of_beq_eq_true hb.1⟩
    | false =>
      rw [hb] at h'
      obtain ⟨h1, h2⟩ := ih h'
      exact ⟨List.mem_cons_of_mem _ h1, h2⟩
noncomputable def Mem.find (m : Mem) (s k : Nat) : Option Ent := findE s k m.heap
theorem Mem.find_ok {m : Mem} {s k : Nat} {e : Ent} (h : m.find s k = some e) : e ∈ m.heap ∧ e.s = s ∧ e.k = k := findE_ok h

section
variable {F : Nat → Prop} {w0 : World} {E : Env}

theorem EntOk.cell {w : World} {e : Ent} (h : EntOk E w e) (j : Nat) (v : Value) (hj : (dl E e.c)[j]? = some v) : w.cell? ⟨e.blk E, E.o e.s + ((ev E e.base).toNat + j), none⟩ = some v := by
  cases hr : e.ro with
  | true => exact h.ro hr j v hj
  | false =>
    obtain ⟨⟨o0, h0⟩, h1⟩ := h.own hr
    simp only [World.cell?, h1, h0, o0]
    simpa using hj
end

def aggOf {P : Program} (T : Tab P) (t : Nat) : Option Bool :=
  match T.under t with
  | some (.struct _) | some (.array _ _) => some true
  | some _ => some false
  | none => none
abbrev sizeIn {P : Program} (T : Tab P) (t : Nat) : Option Nat := T.size t
theorem run_isAgg {P : Program} {T : Tab P} {t : Nat} {b : Bool} (h : aggOf T t = some b) (w : World) : (isAgg t).run P w = .ok b w := by
  unfold aggOf at h
  unfold isAgg
  split at h
  · rename_i hu; cases h; simp [run_underlying (T.under_ok _ _ hu)]
  · rename_i hu; cases h; simp [run_underlying (T.under_ok _ _ hu)]
  · rename_i d h1 h2 hu
    cases h
    simp only [Sem.run_bind, run_underlying (T.under_ok _ _ hu), Result.andThen_ok]
    cases d <;> first | rfl | exact absurd hu (h1 _) | exact absurd hu (h2 _ _)
  · cases h
theorem run_sizeOf {P : Program} {T : Tab P} {t n : Nat} (h : sizeIn T t = some n) (w : World) : (sizeOf t).run P w = .ok n w := by
  replace h := T.size_ok _ _ h
  simp only [Option.map_eq_some_iff] at h
  obtain ⟨i, hi, rfl⟩ := h
  simp [sizeOf, typeInfo, hi]

theorem toNat_add {x : Int} (h : 0 ≤ x) (j : Nat) : (x + j).toNat = x.toNat + j := by omega
theorem addr_add (b o j : Nat) : (⟨b, o, none⟩ : Addr).add j = ⟨b, o + j, none⟩ := by unfold Addr.add; split <;> simp_all

/-- where in an entry's chain an address lies -/
def place (kn : Know) (e : Ent) (off : IE) : Option IE :=
  if 0 ≤ (rng kn.facts e.base).1 ∧ 0 ≤ (rng kn.facts (mkSub off e.base)).1 then some (mkSub off e.base) else none
theorem place_ok {E : Env} {kn : Know} (h : KnowOk E kn) {e : Ent} {off idx : IE} (hp : place kn e off = some idx) :
    0 ≤ ev E idx ∧ (ev E off).toNat = (ev E e.base).toNat + (ev E idx).toNat := by
  unfold place at hp
  split at hp
  · rename_i hh
    cases hp
    have p := rng_ok h.env h.facts e.base
    have q := rng_ok h.env h.facts (mkSub off e.base)
    rw [mkSub_ok] at q
    rw [mkSub_ok]
    omega
  · cases hp

noncomputable def findX (s k : Nat) : X Ent := fun m => (X.ofOption (m.find s k)) m
theorem findX_ok {F : Nat → Prop} {w0 : World} {E : Env} (s k : Nat) (m : Mem) (w : World) :
    GX F w0 E (findX s k) m w fun e w' => w' = w ∧ EntOk E w e ∧ e.blk E = E.base s + k ∧ e.s = s := by
  intro outs ho hm
  unfold findX at ho
  cases hf : m.find s k with
  | none => rw [hf] at ho; cases ho
  | some e =>
    rw [hf] at ho
    cases ho
    obtain ⟨h1, h2, h3⟩ := Mem.find_ok hf
    exact ⟨_, List.mem_cons_self, w, hm, rfl, rfl, hm.ents e h1, by simp [Ent.blk, h2, h3], h2⟩

/-- the cells of a value of n cells at a place -/
noncomputable def rowAt (c : SV) (n : Nat) (idx : IE) : X SV :=
  match idx with
  | .lit z => match (if 0 ≤ z then takeC c z.toNat n else none) with
    | some r => X.pure r
    | none => getN c n idx
  | _ => getN c n idx
theorem rowAt_ok {F : Nat → Prop} {w0 : World} {E : Env} (c : SV) (n : Nat) (idx : IE) (h0 : 0 ≤ ev E idx) (m : Mem) (w : World) :
    GX F w0 E (rowAt c n idx) m w fun v w' => w' = w ∧ (dl E v).length = n ∧ ∀ j, j < n → (dl E c)[(ev E idx).toNat + j]? = (dl E v)[j]? := by
  have key := (getN_ok (F := F) (w0 := w0) (E := E) c n idx m w).mono fun v w' h => (⟨h.1, h.2.1, h.2.2.2⟩ : w' = w ∧ (dl E v).length = n ∧ ∀ j, j < n → (dl E c)[(ev E idx).toNat + j]? = (dl E v)[j]?)
  unfold rowAt
  split
  · rename_i z
    split
    · rename_i r hr
      split at hr
      · obtain ⟨e, hl⟩ := takeC_ok E c _ _ _ hr
        refine GX.pure fun _ => ⟨rfl, ?_, ?_⟩
        · rw [e, List.length_take, List.length_drop]; omega
        · intro j hj
          rw [e, ev_lit, List.getElem?_take_of_lt hj, List.getElem?_drop]
      · cases hr
    · exact key
  · exact key

noncomputable def loadS {P : Program} (T : Tab P) (t : Nat) (a : SV) : X SV :=
  match a with
  | .ptr s k off => X.bind (findX s k) fun e => withKnow fun kn => X.bind (X.ofOption (place kn e off)) fun idx =>
    match aggOf T t with
    | some false => getC e.c idx
    | some true => match sizeIn T t with
      | some n => X.bind (rowAt e.c n idx) fun r => X.pure (.agg r)
      | none => X.none
    | none => X.none
  | _ => X.none
theorem loadS_ok {F : Nat → Prop} {w0 : World} {E : Env} {P : Program} (T : Tab P) (t : Nat) (a : SV) (m : Mem) (w : World) :
    GX F w0 E (loadS T t a) m w fun v w' => w' = w ∧ v.isV = true ∧ (Instr.loadAt t (dv E a)).run P w = .ok (dv E v) w := by
  unfold loadS
  split
  · rename_i s k off
    have hdv : dv E (.ptr s k off) = .pointer (some (addrOf E s k off)) := rfl
    refine GX.bind (findX_ok s k m w) ?_
    rintro e m1 w1 ⟨rfl, he, hb, hes⟩
    refine GX.withKnow fun hk => GX.bind (GX.ofOption (Q := fun idx w' => w' = w1 ∧ place m1.know e off = some idx) fun _ h => ⟨rfl, h⟩) ?_
    rintro idx m2 w2 ⟨rfl, hp⟩
    obtain ⟨h0, hadd⟩ := place_ok hk hp
    have haddr : addrOf E s k off = ⟨e.blk E, E.o e.s + ((ev E e.base).toNat + (ev E idx).toNat), none⟩ := by simp [addrOf, hb, hadd, hes]
    split
    · rename_i hag
      refine (getC_ok e.c idx m2 w2).mono fun v w' h => ⟨h.1, SV.isC_isV h.2.1, ?_⟩
      have hc := he.cell _ _ h.2.2.2
      rw [hdv]
      simp only [Instr.loadAt, Instr.sureAddr, loadVar, Sem.run_bind, Sem.run_pure, Result.andThen_ok, run_isAgg hag, Bool.false_eq_true, if_false, Sem.run_ite, run_load, haddr, hc]
    · rename_i hag
      split
      · rename_i n hn
        refine GX.bind (rowAt_ok e.c n idx h0 m2 w2) ?_
        rintro r m3 w3 ⟨rfl, hl, hj⟩
        refine GX.pure fun _ => ⟨rfl, rfl, ?_⟩
        have hcells : ∀ (j : Nat) v, (dl E r)[j]? = some v → w3.cell? ((⟨e.blk E, E.o e.s + ((ev E e.base).toNat + (ev E idx).toNat), none⟩ : Addr).add j) = some v := by
          intro j v hv
          have hjn : j < n := by rw [← hl]; exact (List.getElem?_eq_some_iff.1 hv).1
          rw [addr_add, Nat.add_assoc, Nat.add_assoc]
          exact he.cell _ _ ((hj j hjn).trans hv)
        have hload := run_loadCells_list (P := P) w3 _ _ hcells
        rw [hl] at hload
        rw [hdv]
        simp only [Instr.loadAt, Instr.sureAddr, loadVar, Sem.run_bind, Sem.run_pure, Result.andThen_ok, run_isAgg hag, if_true, Sem.run_ite, run_sizeOf hn, haddr, hload]
        rfl
      · exact GX.none
    · exact GX.none
  · exact GX.none

/- storing -/
theorem MemOk.same {F : Nat → Prop} {w0 : World} {E : Env} {m : Mem} {w : World} (h : MemOk F w0 E m w) {x e : Ent} (hx : x ∈ m.heap) (he : e ∈ m.heap) (hown : x.ro = false ∨ e.ro = false) (hb : x.blk E = e.blk E) : x = e := by
  have key : ∀ l : List Ent, l.Pairwise (Ent.parted E) → x ∈ l → e ∈ l → x = e := by
    intro l
    induction l with
    | nil => intro _ hx; cases hx
    | cons a l ih =>
      intro hp hx he
      rw [List.pairwise_cons] at hp
      have hne : ¬ (x.ro = true ∧ e.ro = true) := by rcases hown with h | h <;> simp [h]
      have hne' : ¬ (e.ro = true ∧ x.ro = true) := fun h => hne ⟨h.2, h.1⟩
      rcases List.mem_cons.1 hx with rfl | hx1
      · rcases List.mem_cons.1 he with rfl | he1
        · rfl
        · exact absurd hb (hp.1 e he1 hne)
      · rcases List.mem_cons.1 he with rfl | he1
        · exact absurd hb.symm (hp.1 x hx1 hne')
        · exact ih hp.2 hx1 he1
  exact key _ h.apart hx he
def Mem.put (m : Mem) (s k : Nat) (c : SV) : Mem := { m with heap := m.heap.map fun x => if x.s = s ∧ x.k = k then { x with c := c } else x }
theorem MemOk.put {F : Nat → Prop} {w0 : World} {E : Env} {m : Mem} {w : World} (h : MemOk F w0 E m w) {e : Ent} (he : e ∈ m.heap) (hr : e.ro = false) (c : SV) :
    MemOk F w0 E (m.put e.s e.k c) (w.setRow (e.blk E) (dl E c).toArray) := by
  have hblk : ∀ x : Ent, (if x.s = e.s ∧ x.k = e.k then { x with c := c } else x).blk E = x.blk E := by intro x; split <;> rfl
  have hro : ∀ x : Ent, (if x.s = e.s ∧ x.k = e.k then { x with c := c } else x).ro = x.ro := by intro x; split <;> rfl
  refine ⟨h.know, by simpa [Mem.put] using h.size, ?_, ?_, ?_, ?_, h.seg0⟩
  · intro y hy
    obtain ⟨x, hx, rfl⟩ := List.mem_map.1 hy
    have ok := h.ents x hx
    by_cases hk : x.s = e.s ∧ x.k = e.k
    · have hb : x.blk E = e.blk E := by simp [Ent.blk, hk.1, hk.2]
      have hxe : x = e := h.same hx he (.inr hr) hb
      subst hxe
      rw [if_pos hk]
      obtain ⟨h0, h1⟩ := ok.own hr
      refine ⟨(by rw [setRow_size]; exact ok.lt), fun h' => (by simp [hr] at h'), fun _ => ⟨h0, ?_⟩⟩
      exact setRow_heap w _ _ _ _ _ h1
    · rw [if_neg hk]
      by_cases hb : x.blk E = e.blk E
      · have hxe : x = e := h.same hx he (.inr hr) hb
        subst hxe
        exact absurd ⟨rfl, rfl⟩ hk
      · refine ⟨(by rw [setRow_size]; exact ok.lt), fun h' j v hj => ?_, fun h' => ?_⟩
        · rw [cell_setRow_other _ _ _ _ (by simpa using hb)]
          exact ok.ro h' j v hj
        · obtain ⟨h0, h1⟩ := ok.own h'
          exact ⟨h0, by rw [setRow_other _ _ _ _ hb]; exact h1⟩
  · simp only [Mem.put]
    refine List.Pairwise.map _ ?_ h.apart
    intro x y hxy
    unfold Ent.parted
    rw [hblk, hblk, hro, hro]
    exact hxy
  · intro y hy
    obtain ⟨x, hx, rfl⟩ := List.mem_map.1 hy
    rw [hblk, hro]
    exact h.mine x hx
  · have hm := h.mine e he hr
    refine ⟨h.ext.os, h.ext.tape, h.ext.output, by simpa using h.ext.size, fun x hx hF => ?_⟩
    have hne : x ≠ e.blk E := by
      rintro rfl
      rcases hm with hm | hm
      · omega
      · exact hF hm
    rw [setRow_other _ _ _ _ hne]
    exact h.ext.block x hx hF
noncomputable def upd1K {α : Type} (s k : Nat) (c : SV) (l : List Ent) : (List Ent → α) → α :=
  List.rec (motive := fun _ => (List Ent → α) → α) (fun K => K [])
    (fun x r ih K => cond (Nat.beq x.k k && Nat.beq x.s s) (K (⟨x.s, x.k, x.ro, x.t, x.base, c⟩ :: r)) (ih fun r' => K (x :: r'))) l
def upd1 (s k : Nat) (c : SV) : List Ent → List Ent
  | [] => []
  | x :: r => if x.s = s ∧ x.k = k then { x with c := c } :: r else x :: upd1 s k c r
theorem upd1K_eq {α : Type} (s k : Nat) (c : SV) : ∀ (l : List Ent) (K : List Ent → α), upd1K s k c l K = K (upd1 s k c l) := by
  intro l
  induction l with
  | nil => intro K; rfl
  | cons x r ih =>
    intro K
    show cond (Nat.beq x.k k && Nat.beq x.s s) (K (⟨x.s, x.k, x.ro, x.t, x.base, c⟩ :: r)) (upd1K s k c r fun r' => K (x :: r')) = K (upd1 s k c (x :: r))
    unfold upd1
    by_cases h : x.s = s ∧ x.k = k
    · rw [if_pos h, h.1, h.2]
      simp
    · rw [if_neg h, ih]
      have : (Nat.beq x.k k && Nat.beq x.s s) = false := by
        cases hb : (Nat.beq x.k k && Nat.beq x.s s) with
        | false => rfl
        | true =>
          simp only [Bool.and_eq_true] at hb
          exact absurd ⟨Nat.eq_of_beq_eq_true hb.2, Nat.eq_of_beq_eq_true hb.1⟩ h
      rw [this]
      rfl
theorem upd1_eq {E : Env} {s k : Nat} {c : SV} : ∀ {l : List Ent}, l.Pairwise (Ent.parted E) → (∀ x ∈ l, x.s = s ∧ x.k = k → x.ro = false) → upd1 s k c l = l.map fun x => if x.s = s ∧ x.k = k then { x with c := c } else x := by
  intro l
  induction l with
  | nil => intro _ _; rfl
  | cons x r ih =>
    intro hp hr
    rw [List.pairwise_cons] at hp
    unfold upd1
    rw [List.map_cons]
    by_cases h : x.s = s ∧ x.k = k
    · rw [if_pos h, if_pos h]
      congr 1
      refine (List.map_id' _).symm.trans (List.map_congr_left fun y hy => ?_)
      rw [if_neg]
      intro hk
      have h1 := hp.1 y hy (fun hh => by rw [hr x List.mem_cons_self h] at hh; cases hh.1)
      exact h1 (by simp [Ent.blk, h.1, h.2, hk.1, hk.2])
    · rw [if_neg h, if_neg h, ih hp.2 fun y hy => hr y (List.mem_cons_of_mem _ hy)]
noncomputable def putX (s k : Nat) (c : SV) : X Unit := fun m => match m with
  | ⟨kn, h, sg, nx, nv⟩ => nfS c fun c => upd1K s k c h fun h' => some [((), ⟨kn, h', sg, nx, nv⟩)]
theorem putX_eq {F : Nat → Prop} {w0 : World} {E : Env} {m : Mem} {w : World} (hm : MemOk F w0 E m w) {e : Ent} (he : e ∈ m.heap) (hr : e.ro = false) (c : SV) : putX e.s e.k c m = some [((), m.put e.s e.k c)] := by
  unfold putX
  have hu := upd1_eq (E := E) (s := e.s) (k := e.k) (c := c) hm.apart (fun x hx hk => by
    have := hm.same hx he (.inr hr) (by simp [Ent.blk, hk.1, hk.2])
    rw [this]; exact hr)
  unfold Mem.put
  rw [← hu]
  obtain ⟨kn, h, sg, nx, nv⟩ := m
  dsimp only
  rw [nfS_eq, upd1K_eq]

/-- all cells of a chain are cells -/
def flat : SV → Bool
  | .nil => true
  | .cons a b => (a.isC || (match a with | .arr _ _ _ _ => true | _ => false)) && flat b
  | _ => false
theorem isCell_one {v : Value} (h : Value.isCell v = true) : v.oneCell' = true := by cases v <;> simp_all [Value.isCell, Value.oneCell']
theorem flat_ok (E : Env) : ∀ c : SV, flat c = true → ∀ v ∈ dl E c, v.oneCell' = true := by
  intro c
  induction c with
  | nil => intro _ v hv; cases hv
  | cons a b _ ihb =>
    intro h v hv
    simp only [flat, Bool.and_eq_true, Bool.or_eq_true] at h
    simp only [dl, List.mem_append] at hv
    rcases hv with hv | hv
    · rcases h.1 with ha | ha
      · rw [dl_isV E (SV.isC_isV ha)] at hv
        simp only [List.mem_cons, List.not_mem_nil, or_false] at hv
        subst hv
        exact isCell_one (dv_isC E ha)
      · split at ha
        · simp only [dl, arrCells, List.mem_map] at hv
          obtain ⟨j, _, rfl⟩ := hv
          rfl
        · cases ha
    · exact ihb h.2 v hv
  | _ => intro h; cases h
/-- a chain with a piece of it put anew, cut at the pieces' ends -/
def spliceC (c : SV) (o n : Nat) (v : SV) : Option SV :=
  match wd c with
  | none => none
  | some N => match takeC c 0 o, takeC c (o + n) (N - (o + n)) with
    | some x, some y => some (appC x (appC v y))
    | _, _ => none
theorem spliceC_ok (E : Env) {c v r : SV} {o n : Nat} (h : spliceC c o n v = some r) (_hv : (dl E v).length = n) :
    o + n ≤ (dl E c).length ∧ dl E r = (dl E c).take o ++ dl E v ++ (dl E c).drop (o + n) := by
  unfold spliceC at h
  split at h
  · cases h
  · rename_i N hN
    have hl := wd_ok E c N hN
    split at h
    · rename_i x y hx hy
      cases h
      obtain ⟨ex, lx⟩ := takeC_ok E c _ _ _ hx
      obtain ⟨ey, ly⟩ := takeC_ok E c _ _ _ hy
      refine ⟨by omega, ?_⟩
      rw [appC_ok, appC_ok, ex, ey, List.drop_zero, List.append_assoc, List.take_of_length_le (l := List.drop (o + n) (dl E c)) (by rw [List.length_drop]; omega)]
    · cases h
/-- cells put anew one by one -/
noncomputable def setN : SV → SV → IE → X SV
  | c, .nil, _ => X.pure c
  | c, .cons v rest, idx => if v.isC then X.bind (setC c idx v) fun c' => setN c' rest (mkAdd idx (.lit 1)) else X.none
  | _, _, _ => X.none
theorem setN_ok {F : Nat → Prop} {w0 : World} {E : Env} : ∀ (v : SV) (c : SV) (idx : IE) (m : Mem) (w : World), 0 ≤ ev E idx → (ev E idx).toNat ≤ (dl E c).length →
    GX F w0 E (setN c v idx) m w fun c' w' => w' = w ∧ flat v = true ∧ (ev E idx).toNat + (dl E v).length ≤ (dl E c).length ∧ dl E c' = (dl E c).take (ev E idx).toNat ++ dl E v ++ (dl E c).drop ((ev E idx).toNat + (dl E v).length) := by
  intro v
  induction v with
  | nil => intro c idx m w h0 hle; unfold setN; exact GX.pure fun _ => ⟨rfl, rfl, by simpa [dl] using hle, by simp [dl]⟩
  | cons a rest _ ih =>
    intro c idx m w h0 hle
    unfold setN
    split
    · rename_i hC
      refine GX.bind (setC_ok c idx a m w) ?_
      rintro c' m' w' ⟨rfl, _, _, hlt, hc'⟩
      have hlen : (dl E c').length = (dl E c).length := by rw [hc', List.length_set]
      refine (ih c' (mkAdd idx (.lit 1)) m' w' (by rw [mkAdd_ok, ev_lit]; omega) (by rw [mkAdd_ok, ev_lit, hlen]; omega)).mono fun c'' w'' h => ?_
      obtain ⟨h1, h2, h3, h4⟩ := h
      rw [mkAdd_ok, ev_lit, show (ev E idx + 1).toNat = (ev E idx).toNat + 1 by omega] at h3 h4
      rw [hlen] at h3
      refine ⟨h1, by simp [flat, hC, h2], ?_, ?_⟩
      · simp only [dl, List.length_append, dl_len_isV E (SV.isC_isV hC)]; omega
      · rw [h4, hc', list_seg_step _ _ _ _ (by omega)]
        simp only [dl, dl_isV E (SV.isC_isV hC), List.length_cons, List.singleton_append]
    · exact GX.none
  | _ => intro c idx m w h0 hle; unfold setN; exact GX.none

/-- a row of cells put anew at a place -/
noncomputable def rowPut (c v : SV) (n : Nat) (idx : IE) : X SV :=
  match idx with
  | .lit z => match (if 0 ≤ z ∧ flat v = true then spliceC c z.toNat n v else none) with
    | some r => X.pure r
    | none => setN c v idx
  | _ => setN c v idx
theorem rowPut_ok {F : Nat → Prop} {w0 : World} {E : Env} (c v : SV) (n : Nat) (idx : IE) (h0 : 0 ≤ ev E idx) (hle : (ev E idx).toNat ≤ (dl E c).length) (hn : (dl E v).length = n) (m : Mem) (w : World) :
    GX F w0 E (rowPut c v n idx) m w fun c' w' => w' = w ∧ flat v = true ∧ (ev E idx).toNat + n ≤ (dl E c).length ∧ dl E c' = (dl E c).take (ev E idx).toNat ++ dl E v ++ (dl E c).drop ((ev E idx).toNat + n) := by
  have key := setN_ok (F := F) (w0 := w0) (E := E) v c idx m w h0 hle
  rw [hn] at key
  unfold rowPut
  split
  · rename_i z
    split
    · rename_i r hr
      split at hr
      · rename_i hz
        obtain ⟨h1, h2⟩ := spliceC_ok E hr hn
        exact GX.pure fun _ => ⟨rfl, hz.2, by simpa [ev_lit] using h1, by simpa [ev_lit] using h2⟩
      · cases hr
    · exact key
  · exact key

def fitsIn (kn : Know) (c : SV) (idx : IE) : Bool :=
  match wd c with
  | some N => decide (0 ≤ (rng kn.facts idx).1) && decide ((rng kn.facts idx).2 ≤ N)
  | none => false
noncomputable def storeS {P : Program} (T : Tab P) (t : Nat) (a v : SV) : X Unit :=
  match a with
  | .ptr s k off => X.bind (findX s k) fun e => withKnow fun kn => X.bind (X.ofOption (place kn e off)) fun idx =>
    match cellsS v, sizeIn T t with
    | some vc, some n =>
      if e.ro = false ∧ wd vc = some n ∧ fitsIn kn e.c idx = true then
        X.bind (rowPut e.c vc n idx) fun c' => putX e.s e.k c'
      else X.none
    | _, _ => X.none
  | _ => X.none
/-- a step that knows the memory it starts from, and leaves the heap's list as it is -/
def Keeps {α : Type} (x : X α) : Prop := ∀ m outs, x m = some outs → ∀ p ∈ outs, p.2.heap = m.heap ∧ p.2.seg = m.seg ∧ p.2.next = m.next
theorem Keeps.pure {α : Type} (a : α) : Keeps (X.pure a) := by
  intro m outs h p hp; cases h; simp only [List.mem_cons, List.not_mem_nil, or_false] at hp; subst hp; exact ⟨rfl, rfl, rfl⟩
theorem Keeps.none {α : Type} : Keeps (X.none : X α) := by intro m outs h; cases h
theorem gather_from {α β : Type} {f : α → X β} : ∀ {l : List (α × Mem)} {outs : List (β × Mem)}, gather f l = some outs →
    ∀ q ∈ outs, ∃ p ∈ l, ∃ l', f p.1 p.2 = some l' ∧ q ∈ l' := by
  intro l
  induction l with
  | nil => intro outs h q hq; cases h; cases hq
  | cons a rest ih =>
    intro outs h q hq
    cases rest with
    | nil =>
      simp only [gather] at h
      exact ⟨a, List.mem_cons_self, outs, h, hq⟩
    | cons b rest =>
      simp only [gather] at h
      split at h
      · cases h
      · rename_i l1 h1
        split at h
        · cases h
        · rename_i l2 h2
          cases h
          rcases List.mem_append.1 hq with hq | hq
          · exact ⟨a, List.mem_cons_self, l1, h1, hq⟩
          · obtain ⟨p, hp, l', e, hs⟩ := ih h2 q hq
            exact ⟨p, List.mem_cons_of_mem _ hp, l', e, hs⟩
theorem Keeps.bind {α β : Type} {x : X α} {f : α → X β} (hx : Keeps x) (hf : ∀ a, Keeps (f a)) : Keeps (X.bind x f) := by
  intro m outs h q hq
  unfold X.bind at h
  split at h
  · cases h
  · rename_i l hl
    obtain ⟨p, hp, l', e, hs⟩ := gather_from h q hq
    obtain ⟨a1, a2, a3⟩ := hx m l hl p hp
    obtain ⟨b1, b2, b3⟩ := hf _ _ _ e q hs
    exact ⟨b1.trans a1, b2.trans a2, b3.trans a3⟩
theorem Keeps.withKnow {α : Type} {f : Know → X α} (h : ∀ k, Keeps (f k)) : Keeps (withKnow f) := fun m outs ho => h m.know m outs ho
theorem Keeps.branch (c : BE) : Keeps (branch c) := by
  intro m outs h p hp
  unfold Sx.branch at h
  split at h
  · cases h; simp only [List.mem_cons, List.not_mem_nil, or_false] at hp; subst hp; exact ⟨rfl, rfl, rfl⟩
  · rw [tellK_eq, tellK_eq] at h; cases h; simp only [List.mem_cons, List.not_mem_nil, or_false] at hp; rcases hp with rfl | rfl <;> exact ⟨rfl, rfl, rfl⟩
theorem Keeps.ofOption {α : Type} (o : Option α) : Keeps (X.ofOption o) := by cases o; exact Keeps.none; exact Keeps.pure _
theorem Keeps.setC : ∀ (c : SV) (idx : IE) (v : SV), Keeps (setC c idx v) := by
  intro c
  induction c with
  | cons a rest _ ih =>
    intro idx v
    unfold Sx.setC
    repeat' first
      | exact Keeps.none
      | exact Keeps.pure _
      | exact ih _ _
      | refine Keeps.withKnow fun _ => ?_
      | refine Keeps.bind ?_ fun _ => ?_
      | split
  | _ => intro idx v; unfold Sx.setC; exact Keeps.none
theorem Keeps.setN : ∀ (v c : SV) (idx : IE), Keeps (setN c v idx) := by
  intro v
  induction v with
  | nil => intro c idx; unfold Sx.setN; exact Keeps.pure _
  | cons a rest _ ih =>
    intro c idx
    unfold Sx.setN
    split
    · exact Keeps.bind (Keeps.setC _ _ _) fun _ => ih _ _
    · exact Keeps.none
  | _ => intro c idx; unfold Sx.setN; exact Keeps.none
theorem Keeps.rowPut (c v : SV) (n : Nat) (idx : IE) : Keeps (rowPut c v n idx) := by
  unfold Sx.rowPut
  repeat' first
    | exact Keeps.pure _
    | exact Keeps.setN _ _ _
    | split

theorem bind_one {α β : Type} {x : X α} {f : α → X β} {m m' : Mem} {a : α} (h : x m = some [(a, m')]) : X.bind x f m = f a m' := by
  unfold X.bind
  rw [h]
  simp only [gather]
theorem bind_zero {α β : Type} {x : X α} {f : α → X β} {m : Mem} (h : x m = none) : X.bind x f m = none := by
  unfold X.bind; rw [h]
theorem storeS_ok {F : Nat → Prop} {w0 : World} {E : Env} {P : Program} (T : Tab P) (t : Nat) (a v : SV) (m : Mem) (w : World) :
    GX F w0 E (storeS T t a v) m w fun _ w' => (Instr.storeAt t (dv E a) (dv E v)).run P w = .ok () w' := by
  unfold storeS
  split
  case h_2 => exact GX.none
  rename_i s k off
  have hdv : dv E (.ptr s k off) = .pointer (some (addrOf E s k off)) := rfl
  intro outs ho hm
  cases hf : m.find s k with
  | none => rw [bind_zero (by simp [findX, hf, X.ofOption, X.none])] at ho; cases ho
  | some e =>
    obtain ⟨hem, hes, hek⟩ := Mem.find_ok hf
    rw [bind_one (m' := m) (a := e) (by simp [findX, hf, X.ofOption, X.pure])] at ho
    unfold withKnow at ho
    dsimp only at ho
    cases hp : place m.know e off with
    | none => rw [hp, bind_zero (by simp [X.ofOption, X.none])] at ho; cases ho
    | some idx =>
      rw [hp, bind_one (m' := m) (a := idx) (by simp [X.ofOption, X.pure])] at ho
      obtain ⟨h0, hadd⟩ := place_ok hm.know hp
      have hb : e.blk E = E.base s + k := by simp [Ent.blk, hes, hek]
      cases hvc : cellsS v with
      | none => rw [hvc] at ho; cases ho
      | some vc =>
        cases hn : sizeIn T t with
        | none => rw [hvc, hn] at ho; cases ho
        | some n =>
          rw [hvc, hn] at ho
          dsimp only at ho
          split at ho
          case isFalse => cases ho
          rename_i hc
          obtain ⟨hro, hwd, hN⟩ := hc
          have hlen := wd_ok E vc n hwd
          have hcl : (ev E idx).toNat ≤ (dl E e.c).length := by
            unfold fitsIn at hN
            split at hN
            · rename_i N hN'
              rw [wd_ok E e.c N hN']
              have p := rng_ok hm.know.env hm.know.facts idx
              simp only [Bool.and_eq_true, decide_eq_true_eq] at hN
              omega
            · cases hN
          obtain ⟨⟨ho0, hb0⟩, hheap⟩ := (hm.ents e hem).own hro
          have haddr : addrOf E s k off = ⟨e.blk E, (ev E e.base).toNat + (ev E idx).toNat, none⟩ := by
            rw [hes] at ho0
            simp [addrOf, hb, hadd, ho0]
          have hrow := rowPut_ok (F := F) (w0 := w0) (E := E) e.c vc n idx h0 hcl hlen m w
          unfold X.bind at ho
          cases hr : rowPut e.c vc n idx m with
          | none => rw [hr] at ho; cases ho
          | some l =>
            rw [hr] at ho
            dsimp only at ho
            obtain ⟨p, hpl, w1, hm1, hnv, rfl, hflat, hfit, hc'⟩ := hrow l hr hm
            obtain ⟨k1, k2, k3⟩ := Keeps.rowPut e.c vc n idx m l hr p hpl
            obtain ⟨l', e', hs⟩ := gather_mem ho p hpl
            rw [putX_eq hm1 (by rw [k1]; exact hem) hro] at e'
            cases e'
            refine ⟨_, hs _ List.mem_cons_self, w1.setRow (e.blk E) (dl E p.1).toArray, ?_, ?_, ?_⟩
            · exact hm1.put (by rw [k1]; exact hem) hro p.1
            · exact hnv
            · rw [hdv]
              have hcells := cellsS_ok E hvc
              have hsz : (dv E v).cells.size = n := by rw [hcells]; simpa using hlen
              have hstore := run_storeCells_at P (e.blk E) ((ev E e.base).toNat + (ev E idx).toNat) e.t (dl E vc) 0 (dl E e.c).toArray w1 hheap (by rw [hb0, hlen]; simpa using hfit) (flat_ok E vc hflat)
              simp only [Instr.storeAt, Instr.sureAddr, storeVar, Sem.run_bind, Sem.run_pure, Result.andThen_ok, run_sizeOf hn, Sem.run_ite, ne_eq, haddr, hcells]
              rw [hstore, hb0]
              simp only [hlen, hc', Int.toNat_zero, Nat.zero_add, Nat.add_zero, List.size_toArray, not_true_eq_false, if_false]

/-- a new block -/
noncomputable def allocX (t : Nat) (c : SV) : X SV := fun m => match m with
  | ⟨kn, h, sg, nx, nv⟩ => nfS c fun c => nfN (nx + 1) fun nx' => some [(.ptr sg nx (.lit 0), ⟨kn, { s := sg, k := nx, ro := false, t, base := .lit 0, c } :: h, sg, nx', nv⟩)]
theorem allocX_eq (t : Nat) (c : SV) (m : Mem) : allocX t c m = some [(.ptr m.seg m.next (.lit 0), { m with heap := { s := m.seg, k := m.next, ro := false, t, base := .lit 0, c } :: m.heap, next := m.next + 1 })] := by
  unfold allocX
  obtain ⟨kn, h, sg, nx, nv⟩ := m
  dsimp only
  rw [nfS_eq, nfN_eq]
theorem cell_alloc_lt (w : World) (o : Obj) (b : Nat) (h : b < w.heap.size) : (w.alloc o).heap[b]? = w.heap[b]? := by
  simp only [World.alloc, Array.getElem?_push]; rw [if_neg (by omega)]
theorem allocX_ok {F : Nat → Prop} {w0 : World} {E : Env} (t : Nat) (c : SV) (m : Mem) (w : World) :
    GX F w0 E (allocX t c) m w fun v w' => v.isV = true ∧ w' = w.alloc (.cells (dl E c).toArray t) ∧ dv E v = .pointer (some ⟨w.heap.size, 0, none⟩) := by
  intro outs ho hm
  rw [allocX_eq] at ho
  cases ho
  refine ⟨_, List.mem_cons_self, w.alloc (.cells (dl E c).toArray t), ?_, rfl, rfl, rfl, by simp [dv, dl, addrOf, ev_lit, hm.size, hm.seg0]⟩
  have hblk : E.base m.seg + m.next = w.heap.size := hm.size.symm
  refine ⟨hm.know, by simp [hm.size]; omega, ?_, ?_, ?_, ?_, hm.seg0⟩
  · intro e he
    rcases List.mem_cons.1 he with rfl | he
    · refine ⟨(by simp [Ent.blk, hblk]), fun h => (by cases h), fun _ => ⟨⟨hm.seg0, rfl⟩, ?_⟩⟩
      simp only [Ent.blk, hblk, World.alloc, Array.getElem?_push_size]
    · have ok := hm.ents e he
      refine ⟨?_, fun h j v hj => ?_, fun h => ?_⟩
      · rw [World.size_alloc]; exact Nat.lt_succ_of_lt ok.lt
      · rw [World.cell?_alloc_lt _ _ _ ok.lt]; exact ok.ro h j v hj
      · rw [cell_alloc_lt _ _ _ ok.lt]; exact ok.own h
  · refine List.Pairwise.cons ?_ hm.apart
    intro e he _
    have := (hm.ents e he).lt
    simp only [Ent.blk] at *
    rw [hblk]
    omega
  · intro e he hr
    rcases List.mem_cons.1 he with rfl | he
    · left; simp only [Ent.blk]; rw [hblk]; exact hm.ext.size
    · exact hm.mine e he hr
  · refine ⟨hm.ext.os, hm.ext.tape, hm.ext.output, by have := hm.ext.size; simp; omega, fun x hx hF => ?_⟩
    rw [cell_alloc_lt _ _ _ (by have := hm.ext.size; omega)]
    exact hm.ext.block x hx hF
end Go.Sx
