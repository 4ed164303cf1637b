/- Contracts whose ways are made one again: what differs by way stands behind its test. -/
import Derived.Test.YtbohfnlpghojnaaSxQ
namespace Go.Sx
open Go

def condI : BE → IE → IE → IE
  | .lit true, x, _ => x
  | .lit false, _, y => y
  | .lt a b, x, y => if x = y then x else .ite true a b x y
  | .eq a b, x, y => if x = y then x else .ite false a b x y
  | .var i, x, y => if x = y then x else .ite false (.bv i) (.lit 1) x y
  | .not c, x, y => condI c y x
theorem condI_ok (E : Env) : ∀ (c : BE) (x y : IE), ev E (condI c x y) = if evB E c then ev E x else ev E y := by
  intro c
  induction c with
  | lit b => intro x y; cases b <;> rfl
  | var i =>
    intro x y
    unfold condI
    split
    · subst_vars; simp
    · rw [ev_ite, ev_bv, ev_lit]
      show _ = if E.b i = true then _ else _
      cases E.b i <;> simp
  | lt a b =>
    intro x y
    unfold condI
    split
    · subst_vars; simp
    · rw [ev_ite]; rfl
  | eq a b =>
    intro x y
    unfold condI
    split
    · subst_vars; simp
    · rw [ev_ite]; rfl
  | not c ih =>
    intro x y
    unfold condI
    rw [ih]
    have e : evB E (.not c) = !evB E c := rfl
    rw [e]
    by_cases h : evB E c = true
    · simp [h]
    · simp [h]
/-- a number that is 0 or 1 -/
def is01 : IE → Bool
  | .lit z => decide (z = 0 ∨ z = 1)
  | .ite _ _ _ x y => is01 x && is01 y
  | .bv _ => true
  | _ => false
theorem is01_ok (E : Env) : ∀ e : IE, is01 e = true → ev E e = 0 ∨ ev E e = 1 := by
  intro e
  induction e with
  | lit z => intro h; simpa [is01, ev_lit] using h
  | bv i => intro _; rw [ev_bv]; split <;> simp
  | ite k a b x y _ _ hx hy =>
    intro h
    simp only [is01, Bool.and_eq_true] at h
    rw [ev_ite]
    by_cases hc : (if k then decide (ev E a < ev E b) else decide (ev E a = ev E b)) = true
    · rw [if_pos hc]; exact hx h.1
    · rw [if_neg hc]; exact hy h.2
  | _ => intro h; simp [is01] at h
def boolI : BE → IE
  | .eq a (.lit z) => if z = 1 ∧ is01 a = true then a else condI (.eq a (.lit z)) (.lit 1) (.lit 0)
  | c => condI c (.lit 1) (.lit 0)
theorem boolI_ok (E : Env) (c : BE) : ev E (boolI c) = if evB E c then 1 else 0 := by
  unfold boolI
  split
  · rename_i a z
    split
    · rename_i h
      obtain ⟨rfl, h⟩ := h
      have e : evB E (.eq a (.lit 1)) = decide (ev E a = 1) := rfl
      rw [e]
      rcases is01_ok E a h with h | h <;> simp [h]
    · rw [condI_ok, ev_lit, ev_lit]
  · rw [condI_ok, ev_lit, ev_lit]
def condB (c : BE) (x y : BE) : BE :=
  if x = y then x else match x, y with
    | .lit true, .lit false => c
    | .lit false, .lit true => mkNot c
    | x, y => .eq (condI c (boolI x) (boolI y)) (.lit 1)
theorem condB_ok (E : Env) (c x y : BE) : evB E (condB c x y) = if evB E c then evB E x else evB E y := by
  unfold condB
  split
  · subst_vars; simp
  · split
    · cases h : evB E c <;> simp [evB]
    · rw [mkNot_ok]; cases h : evB E c <;> simp [evB]
    · simp only [evB, condI_ok, boolI_ok, ev_lit]
      cases evB E c <;> simp only [if_true, Bool.false_eq_true, if_false]
      · cases evB E y <;> simp
      · cases evB E x <;> simp
/-- the number at a place of an array whose writes stand at known places -/
def cellW (r : Nat) : SV → Nat → Option IE
  | .wr (.lit z) x ws, j => if z = (j : Int) then some x else cellW r ws j
  | .nil, j => some (if r = 0 then .lit 0 else .sel r (.lit j))
  | _, _ => none
theorem cellW_ok (E : Env) (r : Nat) : ∀ (ws : SV) (j : Nat) (e : IE), cellW r ws j = some e → wsVal E r ws j = ev E e := by
  intro ws
  induction ws with
  | wr i x ws ih =>
    intro j e h
    cases i <;> first | (simp [cellW] at h; done) | skip
    rename_i z
    simp only [cellW] at h
    show (if ev E (.lit z) = (j : Int) then ev E x else wsVal E r ws j) = ev E e
    split at h
    · rename_i hz; cases h; rw [if_pos (by rw [ev_lit]; exact hz)]
    · rename_i hz; rw [if_neg (by rw [ev_lit]; exact hz)]; exact ih j e h
  | nil =>
    intro j e h
    simp only [cellW, Option.some.injEq] at h
    subst h
    simp only [wsVal]
    split
    · rename_i hr; subst hr; simp [Env.row, ev_lit]
    · rw [ev_sel, ev_lit, Int.toNat_natCast]
  | _ => intro j e h; simp [cellW] at h
def cellsW (k : IntKind) (r : Nat) (ws : SV) : Nat → Nat → Option SV
  | _, 0 => some .nil
  | j, n + 1 => match cellW r ws j, cellsW k r ws (j + 1) n with
    | some e, some c => some (.cons (.int k e) c)
    | _, _ => none
theorem cellsW_ok (E : Env) (k : IntKind) (r : Nat) (ws : SV) : ∀ (n j : Nat) (c : SV), cellsW k r ws j n = some c → dl E c = (List.range' j n).map fun i => .int k (wsVal E r ws i) := by
  intro n
  induction n with
  | zero => intro j c h; cases h; rfl
  | succ n ih =>
    intro j c h
    unfold cellsW at h
    split at h
    · rename_i e c' h1 h2
      cases h
      rw [List.range'_succ, List.map_cons, cellW_ok E r ws j e h1, ← ih _ _ h2]
      rfl
    · cases h
/-- a chain, its arrays in cells -/
def expandC : SV → Option SV
  | .nil => some .nil
  | .cons a rest => match expandC rest with
    | some q => match a with
      | .arr k r (.lit z) ws => if z ≤ 64 then match cellsW k r ws 0 z.toNat with
        | some c => some (appC c q)
        | none => none else none
      | a => some (.cons a q)
    | none => none
  | _ => none
theorem expandC_ok (E : Env) : ∀ (c r : SV), expandC c = some r → dl E r = dl E c := by
  intro c
  induction c with
  | nil => intro r h; cases h; rfl
  | cons a rest _ ih =>
    intro r h
    unfold expandC at h
    split at h
    · rename_i q hq
      split at h
      · rename_i k rr z ws _
        split at h
        · split at h
          · rename_i c hc
            cases h
            rw [appC_ok, cellsW_ok E _ _ _ _ _ _ hc, ih _ hq]
            simp only [dl, arrCells, ev_lit, List.range_eq_range']
          · cases h
        · cases h
      · cases h
        simp only [dl, ih _ hq]
    · cases h
  | _ => intro r h; simp [expandC] at h
/-- one of two values, by a test -/
def condS (c : BE) : SV → SV → Option SV
  | .int k a, y => match y with
    | .int k' b => if k = k' then some (.int k (condI c a b)) else none
    | _ => none
  | .bool a, y => match y with
    | .bool b => some (.bool (condB c a b))
    | _ => none
  | .agg a, y => match y with
    | .agg b => if a = b then some (.agg a) else match expandC a, expandC b with
      | some a', some b' => match condC c a' b' with
        | some r => some (.agg r)
        | none => none
      | _, _ => none
    | _ => none
  | .tup a, y => match y with
    | .tup b => match condC c a b with
      | some r => some (.tup r)
      | none => none
    | _ => none
  | x, y => if x = y then some x else none
where
  condC (c : BE) : SV → SV → Option SV
  | .nil, .nil => some .nil
  | .cons a r, .cons b s => match (match a, b with
      | .int k x, .int k' y => if k = k' then some (SV.int k (condI c x y)) else none
      | .bool x, .bool y => some (.bool (condB c x y))
      | .agg x, .agg y => if x = y then some (.agg x) else match expandC x, expandC y with
        | some x', some y' => match condF c x' y' with
          | some r => some (.agg r)
          | none => none
        | _, _ => none
      | a, b => if a = b ∧ a.isV = true then some a else none), condC c r s with
    | some v, some t => some (.cons v t)
    | _, _ => none
  | _, _ => none
  condF (c : BE) : SV → SV → Option SV
  | .nil, .nil => some .nil
  | .cons a r, .cons b s => match (match a, b with
      | .int k x, .int k' y => if k = k' then some (SV.int k (condI c x y)) else none
      | .bool x, .bool y => some (.bool (condB c x y))
      | a, b => if a = b ∧ a.isV = true then some a else none), condF c r s with
    | some v, some t => some (.cons v t)
    | _, _ => none
  | _, _ => none
theorem one_int (E : Env) (c : BE) {k : IntKind} {a b : IE} : dl E (.int k (condI c a b)) = if evB E c then dl E (.int k a) else dl E (.int k b) := by
  simp only [dl, condI_ok]; split <;> rfl
theorem one_bool (E : Env) (c : BE) {a b : BE} : dl E (.bool (condB c a b)) = if evB E c then dl E (.bool a) else dl E (.bool b) := by
  simp only [dl, condB_ok]; split <;> rfl
theorem condF_ok (E : Env) (c : BE) : ∀ (x y r : SV), condS.condF c x y = some r → dl E r = if evB E c then dl E x else dl E y := by
  intro x
  induction x with
  | nil =>
    intro y r h
    cases y <;> simp [condS.condF] at h
    subst h; simp [dl]
  | cons a ra _ ih =>
    intro y r h
    cases y <;> first | (simp [condS.condF] at h; done) | skip
    rename_i b rb
    unfold condS.condF at h
    split at h
    · rename_i v t hv ht
      cases h
      have h2 := ih _ _ ht
      have h1 : dl E v = if evB E c then dl E a else dl E b := by
        split at hv
        · split at hv
          · cases hv; subst_vars; exact one_int E c
          · cases hv
        · cases hv; exact one_bool E c
        · split at hv
          · rename_i hh
            cases hv
            rw [← hh.1]; simp
          · cases hv
      simp only [dl, h1, h2]
      split <;> rfl
    · cases h
  | _ => intro y r h; cases y <;> simp [condS.condF] at h
theorem condC_ok (E : Env) (c : BE) : ∀ (x y r : SV), condS.condC c x y = some r → dl E r = if evB E c then dl E x else dl E y := by
  intro x
  induction x with
  | nil =>
    intro y r h
    cases y <;> simp [condS.condC] at h
    subst h; simp [dl]
  | cons a ra _ ih =>
    intro y r h
    cases y <;> first | (simp [condS.condC] at h; done) | skip
    rename_i b rb
    unfold condS.condC at h
    split at h
    · rename_i v t hv ht
      cases h
      have h2 := ih _ _ ht
      have h1 : dl E v = if evB E c then dl E a else dl E b := by
        split at hv
        · split at hv
          · cases hv; subst_vars; exact one_int E c
          · cases hv
        · cases hv; exact one_bool E c
        · split at hv
          · cases hv; subst_vars; simp
          · split at hv
            · rename_i x' y' hx hy
              split at hv
              · rename_i q hq
                cases hv
                have := condF_ok E c _ _ _ hq
                rw [expandC_ok E _ _ hx, expandC_ok E _ _ hy] at this
                simp only [dl, this]
                split <;> rfl
              · cases hv
            · cases hv
        · split at hv
          · rename_i hh
            cases hv
            rw [← hh.1]; simp
          · cases hv
      simp only [dl, h1, h2]
      split <;> rfl
    · cases h
  | _ => intro y r h; cases y <;> simp [condS.condC] at h
theorem condS_ok (E : Env) (c : BE) {x y r : SV} (h : condS c x y = some r) : dl E r = if evB E c then dl E x else dl E y := by
  unfold condS at h
  split at h
  · split at h
    · split at h
      · cases h; subst_vars; exact one_int E c
      · cases h
    · cases h
  · split at h
    · cases h; exact one_bool E c
    · cases h
  · split at h
    · split at h
      · cases h; subst_vars; simp
      · split at h
        · rename_i x' y' hx hy
          split at h
          · rename_i q hq
            cases h
            have := condC_ok E c _ _ _ hq
            rw [expandC_ok E _ _ hx, expandC_ok E _ _ hy] at this
            simp only [dl, this]
            split <;> rfl
          · cases h
        · cases h
    · cases h
  · split at h
    · split at h
      · rename_i q hq
        cases h
        have := condC_ok E c _ _ _ hq
        simp only [dl, this]
        split <;> rfl
      · cases h
    · cases h
  · split at h
    · cases h; subst_vars; simp
    · cases h

/-- the ways whose first test is c, and those whose first is not c; nothing, if there is another one -/
def partC (c : BE) : List (List BE × SV) → Option (List (List BE × SV) × List (List BE × SV))
  | [] => some ([], [])
  | (d :: ds, v) :: rest => match partC c rest with
    | some (A, B) => if d = c then some ((ds, v) :: A, B) else if d = mkNot c then some (A, (ds, v) :: B) else none
    | none => none
  | _ => none
theorem partC_ok {c : BE} : ∀ {l A B : List (List BE × SV)}, partC c l = some (A, B) → ∀ p ∈ l, ∃ d ds, p.1 = d :: ds ∧ ((d = c ∧ (ds, p.2) ∈ A) ∨ (d = mkNot c ∧ (ds, p.2) ∈ B)) := by
  intro l
  induction l with
  | nil => intro A B _ p hp; cases hp
  | cons q rest ih =>
    intro A B h p hp
    obtain ⟨cs, v⟩ := q
    cases cs with
    | nil => simp [partC] at h
    | cons d ds =>
      unfold partC at h
      split at h
      · rename_i A' B' hr
        rcases List.mem_cons.1 hp with rfl | hp
        · split at h
          · rename_i hd; cases h; exact ⟨d, ds, rfl, .inl ⟨hd, List.mem_cons_self⟩⟩
          · split at h
            · rename_i hd; cases h; exact ⟨d, ds, rfl, .inr ⟨hd, List.mem_cons_self⟩⟩
            · cases h
        · obtain ⟨d', ds', e, hm⟩ := ih hr p hp
          refine ⟨d', ds', e, ?_⟩
          split at h
          · cases h
            rcases hm with ⟨h1, h2⟩ | ⟨h1, h2⟩
            · exact .inl ⟨h1, List.mem_cons_of_mem _ h2⟩
            · exact .inr ⟨h1, h2⟩
          · split at h
            · cases h
              rcases hm with ⟨h1, h2⟩ | ⟨h1, h2⟩
              · exact .inl ⟨h1, h2⟩
              · exact .inr ⟨h1, List.mem_cons_of_mem _ h2⟩
            · cases h
      · cases h
def mergeT : Nat → List (List BE × SV) → Option SV
  | 0, _ => none
  | n + 1, l => match l with
    | [(_, v)] => some v
    | (c :: cs, v) :: rest => match partC c ((c :: cs, v) :: rest) with
      | some (A, B) => match mergeT n A with
        | some a => match mergeT n B with
          | some b => condS c a b
          | none => none
        | none => none
      | none => none
    | _ => none
theorem mergeT_ok (E : Env) : ∀ (n : Nat) (l : List (List BE × SV)) (V : SV), mergeT n l = some V → ∀ p ∈ l, (∀ c ∈ p.1, evB E c = true) → dl E V = dl E p.2 := by
  intro n
  induction n with
  | zero => intro l V h; cases h
  | succ n ih =>
    intro l V h p hp hall
    unfold mergeT at h
    split at h
    · cases h
      simp only [List.mem_cons, List.not_mem_nil, or_false] at hp
      subst hp; rfl
    · rename_i c cs v rest _
      split at h
      case h_2 => cases h
      rename_i A B hpt
      split at h
      case h_2 => cases h
      rename_i a ha
      split at h
      case h_2 => cases h
      rename_i b hb
      obtain ⟨d, ds, e, hm⟩ := partC_ok hpt p hp
      rw [e] at hall
      have hd := hall d List.mem_cons_self
      have hds : ∀ c ∈ ds, evB E c = true := fun c hc => hall c (List.mem_cons_of_mem _ hc)
      have hc := condS_ok E c h
      rcases hm with ⟨rfl, hm⟩ | ⟨rfl, hm⟩
      · rw [hd, if_pos rfl] at hc
        rw [hc]
        exact ih A a ha (ds, p.2) hm hds
      · rw [mkNot_ok, Bool.not_eq_true'] at hd
        rw [hd] at hc
        simp only [Bool.false_eq_true, if_false] at hc
        rw [hc]
        exact ih B b hb (ds, p.2) hm hds
    · cases h

/-- the tests that a way was answered, the eldest first -/
def newC (m q : Mem) : List BE := (q.know.conds.take (q.know.conds.length - m.know.conds.length)).reverse
def sameM (m q : Mem) : Bool := Nat.beq q.nv m.nv && Nat.beq q.seg m.seg && decide (q.heap = m.heap)
noncomputable def mergeL (m : Mem) (outs : List (SV × Mem)) : List (SV × Mem) :=
  match outs with
  | q :: _ :: _ =>
    if outs.all (fun p => sameM m p.2) then
      match mergeT 300 (outs.map fun p => (newC m p.2, p.1)) with
      | some V => if outs.all (fun p => Nat.beq p.2.next q.2.next) then nfS V fun V => [(V, { m with next := q.2.next })]
        else if m.nm m.nv && V.nm m.nv then nfS V fun V => nfN (m.nv + 1) fun s => nfN (m.nv + 2) fun v => [(V, { m with seg := s, next := 0, nv := v })]
        else outs
      | none => outs
    else outs
  | _ => outs
noncomputable def mergeX (s : List SV → X SV) : List SV → X SV := fun args m => match s args m with
  | some outs => some (mergeL m outs)
  | none => none
theorem mergeX_ok {P : Program} {f : Nat} {s : List SV → X SV} (hs : SpecOk P f s) : SpecOk P f (mergeX s) := by
  intro F w0 E args m outs' w ho hm
  unfold mergeX at ho
  cases hr : s args m with
  | none => rw [hr] at ho; cases ho
  | some outs =>
  rw [hr] at ho
  cases ho
  refine (hs F w0 E args m outs w hr hm).mono ?_
  rintro e w' ⟨q, hq, E', hL, rfl, hm'⟩
  have plain : ∃ p ∈ outs, ∃ E'', Later m.nv p.2.nv E E'' ∧ Ending.returned (dv E' q.1) = .returned (dv E'' p.1) ∧ MemOk F w0 E'' p.2 w' := ⟨q, hq, E', hL, rfl, hm'⟩
  unfold mergeL
  split
  case h_2 => exact plain
  rename_i q0 q1 rest
  split
  case isFalse => exact plain
  rename_i hall
  split
  case h_2 => exact plain
  rename_i V hV
  rw [List.all_eq_true] at hall
  have hsame := hall q hq
  simp only [sameM, Bool.and_eq_true, decide_eq_true_eq] at hsame
  obtain ⟨⟨s1, s2⟩, s3⟩ := hsame
  have s1 := Nat.eq_of_beq_eq_true s1
  have s2 := Nat.eq_of_beq_eq_true s2
  have hEE : E' = E := hL.same s1
  subst hEE
  have hval : dv E' V = dv E' q.1 := by
    unfold dv
    rw [mergeT_ok E' 300 _ V hV (newC m q.2, q.1) (List.mem_map.2 ⟨q, hq, rfl⟩) (fun c hc => ?_)]
    refine hm'.know.conds c ?_
    have := List.mem_reverse.1 hc
    exact List.mem_of_mem_take this
  have hnext : ∀ nx, q.2.next = nx → MemOk F w0 E' { m with next := nx } w' := by
    intro nx hnx
    refine ⟨hm.know, by rw [← hnx, ← s2]; exact hm'.size, ?_, ?_, ?_, hm'.ext, hm.seg0⟩
    · rw [← s3]; exact hm'.ents
    · rw [← s3]; exact hm'.apart
    · rw [← s3]; exact hm'.mine
  split
  · rename_i hnx
    rw [List.all_eq_true] at hnx
    rw [nfS_eq]
    exact ⟨_, List.mem_cons_self, E', Later.of rfl E', by rw [hval], hnext _ (Nat.eq_of_beq_eq_true (hnx q hq))⟩
  · split
    case isFalse => exact plain
    rename_i hnm
    rw [Bool.and_eq_true] at hnm
    rw [nfS_eq, nfN_eq, nfN_eq]
    have hA := two_agree E' m.nv 0 w'.heap.size
    refine ⟨_, List.mem_cons_self, E'.two m.nv 0 w'.heap.size, ⟨hA, by show m.nv ≤ m.nv + 2; omega, fun h => by have : m.nv + 2 = m.nv := h; omega⟩, ?_, ?_⟩
    · rw [dv_agree hA hnm.2, hval]
    · have hmid := hnext q.2.next rfl
      exact hmid.moved (n := m.nv) hnm.1 hA ⟨hm.know.env.i, hm.know.env.l, hm.know.env.f⟩ (Ext.refl _ _) (by simp [Env.two]) (by simp [Env.two])
end Go.Sx
