/- The executor over regions whose order is open. -/
import Derived.Test.YtgjbhgdmgncoaaaSxJ
namespace Go.Sx
open Go

/-- operations that look at no memory -/
def pureS {P : Program} (T : Tab P) (kn : Know) (tm : Fr) (o : Oper) : Option SV :=
  match o.op with
  | .move x => opd tm x
  | .assign x => opd tm x
  | .nilCheck x => match opd tm x with
    | some v => nilCheckS v
    | none => none
  | .fieldAddr t x i => match opd tm x with
    | some v => fieldAddrS T kn t v i
    | none => none
  | .indexAddr t x i => match opd tm x, opd tm i with
    | some v, some j => indexAddrS T kn t v j
    | _, _ => none
  | .unOp op _ x => match opd tm x with
    | some v => unOpS kn op v
    | none => none
  | .convert s d x => match opd tm x with
    | some v => convertS T kn s d v
    | none => none
  | .extract x i => match opd tm x with
    | some v => extractS v i
    | none => none
  | .makeInterface t x => match opd tm x with
    | some v => makeIfaceS T t v
    | none => none
  | .build t ps => match partsS tm ps.toList with
    | some l => buildS T t l
    | none => none
  | .binOp op _ x y _ => match opd tm x, opd tm y with
    | some (.int k a), some (.int k' b) => if k = k' then intBin kn op k a b else none
    | _, _ => none
  | .call c => match c.callee, c.args.toList, c.argTypes[0]? with
    | .builtin .len, [x], some t => match opd tm x with
      | some v => lenS T kn t v
      | none => none
    | _, _, _ => none
  | _ => none
theorem pureS_ok {E : Env} {P : Program} {T : Tab P} {kn : Know} (hk : KnowOk E kn) {tm : Fr} {a : Act} (ha : a.tmps = (tm.map (dv E)).toArray) {o : Oper} {v : SV} (h : pureS T kn tm o = some v) (w : World) :
    (execOp a.eval o).run P w = .ok (.value (dv E v)) w := by
  unfold pureS at h
  split at h
  · rename_i x hop
    simp only [execOp, hop, opd_ok ha h]; rfl
  · rename_i x hop
    simp only [execOp, hop, opd_ok ha h]; rfl
  · rename_i x hop
    split at h
    · rename_i u hu
      simp only [execOp, hop, opd_ok ha hu]
      unfold nilCheckS at h
      split at h <;> cases h <;> rfl
    · cases h
  · rename_i t x i hop
    split at h
    · rename_i u hu
      simp only [execOp, hop, opd_ok ha hu, Sem.run_bind, fieldAddrS_ok hk h, Result.andThen_ok]; rfl
    · cases h
  · rename_i t x i hop
    split at h
    · rename_i u j hu hj
      simp only [execOp, hop, opd_ok ha hu, opd_ok ha hj, Sem.run_bind, indexAddrS_ok hk h, Result.andThen_ok]; rfl
    · cases h
  · rename_i op t x hop
    split at h
    · rename_i u hu
      simp only [execOp, hop, opd_ok ha hu, Sem.run_bind, unOpS_ok hk h, Result.andThen_ok]; rfl
    · cases h
  · rename_i s d x hop
    split at h
    · rename_i u hu
      simp only [execOp, hop, opd_ok ha hu, Sem.run_bind, convertS_ok hk h, Result.andThen_ok]; rfl
    · cases h
  · rename_i x i hop
    split at h
    · rename_i u hu
      simp only [execOp, hop, opd_ok ha hu, Sem.run_bind, extractS_ok h, Result.andThen_ok]; rfl
    · cases h
  · rename_i t x hop
    split at h
    · rename_i u hu
      simp only [execOp, hop, opd_ok ha hu, Sem.run_bind, makeIfaceS_ok h, Result.andThen_ok]; rfl
    · cases h
  · rename_i t ps hop
    split at h
    · rename_i l hl
      have h1 := buildS_ok (E := E) h w
      have e : (ps.map fun (p : Nat × Operand) => (p.1, a.eval p.2)) = (l.map fun p => (p.1, dv E p.2)).toArray := by
        apply Array.ext'
        rw [Array.toList_map, partsS_ok ha hl]
      simp only [execOp, hop, Sem.run_bind]
      rw [e, h1]; rfl
    · cases h
  · rename_i op t x y yt hop
    split at h
    · rename_i k u k' u' hx hy
      split at h
      · rename_i hkk
        subst hkk
        have e1 : a.eval x = .int k (ev E u) := opd_ok ha hx
        have e2 : a.eval y = .int k (ev E u') := opd_ok ha hy
        have hg : (eqGuard op t x y (.int k (ev E u)) (.int k (ev E u'))).run P w = .ok () w := run_eqGuard_cells op t x y rfl rfl (fun h => by cases h.1) w
        have hb := intBin_ok (P := P) hk h t w
        simp only [execOp, hop, e1, e2]
        simp only [Sem.run_bind, hg, Result.andThen_ok]
        rw [hb]; rfl
      · cases h
    · cases h
  · rename_i c hop
    split at h
    · rename_i x t hcal hargs ht
      split at h
      · rename_i u hu
        have h1 := lenS_ok hk h c.argTypes ht o.type w
        have hmap : c.args.map a.eval = #[dv E u] := by
          apply Array.ext'
          rw [Array.toList_map, hargs]
          simp only [List.map_cons, List.map_nil, opd_ok ha hu]
        simp only [execOp, hop, resolve, hcal, Sem.run_bind, Sem.run_pure, Result.andThen_ok, hmap, invoke, builtin]
        rw [h1]; rfl
      · cases h
    · cases h
  · cases h

/- what has been done, as the bits of a number -/
def predMask (o : Oper) : Nat := o.after.toList.foldl (fun s e => if Region.binds .any e then s ||| 2 ^ e.on else s) 0
def readyGo (L : Nat) : List Oper → Nat → List Nat
  | [], _ => []
  | o :: rest, i => if (!L.testBit i && (predMask o &&& L == predMask o)) = true then i :: readyGo L rest (i + 1) else readyGo L rest (i + 1)
structure Rep (n : Nat) (ls : Array Bool) (L : Nat) : Prop where
  size : ls.size = n
  bit : ∀ i, ls.getD i false = L.testBit i
theorem Rep.start (n : Nat) : Rep n (Array.replicate n false) 0 := by
  refine ⟨by simp, fun i => ?_⟩
  rw [Nat.zero_testBit, Array.getD_eq_getD_getElem?]
  by_cases h : i < n
  · simp [h]
  · rw [Array.getElem?_eq_none (by simp; omega)]; rfl
theorem Rep.set {n : Nat} {ls : Array Bool} {L : Nat} (h : Rep n ls L) {i : Nat} (hi : i < n) : Rep n (ls.setIfInBounds i true) (L ||| 2 ^ i) := by
  refine ⟨by simpa using h.size, fun j => ?_⟩
  rw [Nat.testBit_or, Nat.testBit_two_pow, ← h.bit j, Array.getD_eq_getD_getElem?, Array.getD_eq_getD_getElem?, Array.getElem?_setIfInBounds]
  by_cases hj : i = j
  · subst hj
    rw [if_pos rfl, if_pos (by rw [h.size]; exact hi)]
    simp
  · rw [if_neg hj]; simp [hj]
theorem predMask_bit (l : List Edge) (s j : Nat) : (l.foldl (fun s e => if Region.binds .any e then s ||| 2 ^ e.on else s) s).testBit j = (s.testBit j || l.any fun e => Region.binds .any e && decide (e.on = j)) := by
  induction l generalizing s with
  | nil => simp
  | cons e l ih =>
    rw [List.foldl_cons, ih, List.any_cons]
    split
    · rename_i hb
      rw [Nat.testBit_or, Nat.testBit_two_pow, hb, Bool.true_and, Bool.or_assoc]
    · rename_i hb
      simp [hb]
theorem mask_sub {m L : Nat} : (m &&& L == m) = true ↔ ∀ j, m.testBit j = true → L.testBit j = true := by
  rw [beq_iff_eq]
  constructor
  · intro h j hj
    have := congrArg (Nat.testBit · j) h
    simp only [Nat.testBit_and, hj, Bool.true_and] at this
    exact this
  · intro h
    refine Nat.eq_of_testBit_eq fun j => ?_
    rw [Nat.testBit_and]
    cases hm : m.testBit j with
    | false => rfl
    | true => rw [h j hm]; rfl
theorem after_mask {ls : Array Bool} {L n : Nat} (h : Rep n ls L) (o : Oper) : (o.after.all fun e => !Region.binds .any e || ls.getD e.on false) = (predMask o &&& L == predMask o) := by
  rw [Bool.eq_iff_iff, mask_sub, Array.all_eq_true_iff_forall_mem]
  have hb : ∀ j, (predMask o).testBit j = (o.after.toList.any fun e => Region.binds .any e && decide (e.on = j)) := by
    intro j
    unfold predMask
    rw [predMask_bit, Nat.zero_testBit, Bool.false_or]
  constructor
  · intro hall j hj
    rw [hb, List.any_eq_true] at hj
    obtain ⟨e, he, hc⟩ := hj
    simp only [Bool.and_eq_true, decide_eq_true_eq] at hc
    obtain ⟨hc, rfl⟩ := hc
    have := hall e (by simpa using he)
    rw [hc] at this
    simpa [h.bit] using this
  · intro hall e he
    cases hc : Region.binds .any e with
    | false => rfl
    | true =>
      have := hall e.on (by rw [hb, List.any_eq_true]; exact ⟨e, by simpa using he, by simp [hc]⟩)
      simpa [h.bit] using this
theorem readyGo_ok {ops : Array Oper} {ls : Array Bool} {L : Nat} (h : Rep ops.size ls L) : ∀ (l : List Oper) (k : Nat), ops.toList.drop k = l →
    readyGo L l k = (List.range' k l.length).filter fun i => !ls.getD i true && ((ops[i]?).map (·.after.all fun e => !Region.binds .any e || ls.getD e.on false)).getD false := by
  intro l
  induction l with
  | nil => intro k _; rfl
  | cons o rest ih =>
    intro k hk
    have hlt : k < ops.size := by
      have := congrArg List.length hk
      simp only [List.length_drop, Array.length_toList, List.length_cons] at this
      omega
    have hok : ops[k]? = some o := by
      have h1 := List.getElem?_drop (xs := ops.toList) (i := k) (j := 0)
      rw [hk] at h1
      simpa using h1.symm
    have hrest : ops.toList.drop (k + 1) = rest := by
      have := congrArg (List.drop 1) hk
      simpa [List.drop_drop, Nat.add_comm] using this
    have hget : ls.getD k true = L.testBit k := by
      rw [← h.bit k]
      have : k < ls.size := by rw [h.size]; exact hlt
      simp [Array.getD, this]
    rw [List.length_cons, List.range'_succ, List.filter_cons, hok, Option.map_some, Option.getD_some, after_mask h o, hget]
    unfold readyGo
    rw [ih (k + 1) hrest]
theorem ready_ok {ops : Array Oper} {ls : Array Bool} {L : Nat} (h : Rep ops.size ls L) : Region.ready .any ops ls = readyGo L ops.toList 0 := by
  rw [readyGo_ok h ops.toList 0 (by simp)]
  unfold Region.ready
  rw [List.range_eq_range', Array.length_toList]
def freeAll (ops : Array Oper) (i : Nat) : Bool :=
  match ops[i]? with
  | some o => Region.free .any ops ((List.range ops.size).map fun j => (predMask o).testBit j).toArray i
  | none => false
theorem freeAll_ok {ops : Array Oper} {i : Nat} (h : freeAll ops i = true) {ls : Array Bool} {L : Nat} (hrep : Rep ops.size ls L) (hi : i ∈ Region.ready .any ops ls) : Region.free .any ops ls i = true := by
  unfold freeAll at h
  cases ho : ops[i]? with
  | none => rw [ho] at h; cases h
  | some o =>
    rw [ho] at h
    dsimp only at h
    have hm : (predMask o &&& L == predMask o) = true := by
      unfold Region.ready at hi
      simp only [List.mem_filter, Bool.and_eq_true, ho, Option.map_some, Option.getD_some] at hi
      rw [← after_mask hrep o]
      exact hi.2.2
    rw [mask_sub] at hm
    unfold Region.free at h ⊢
    rw [ho] at h ⊢
    dsimp only at h ⊢
    rw [List.all_eq_true] at h ⊢
    intro j hj
    have := h j hj
    have hlt : j < ops.size := by simpa using hj
    have e : ((List.range ops.size).map fun j => (predMask o).testBit j).toArray.getD j true = (predMask o).testBit j := by simp [Array.getD, hlt]
    have e2 : ls.getD j true = L.testBit j := by
      rw [← hrep.bit j]
      have : j < ls.size := by rw [hrep.size]; exact hlt
      simp [Array.getD, this]
    rw [e] at this
    rw [e2]
    cases hb : (predMask o).testBit j with
    | false =>
      rw [hb, Bool.or_false] at this
      rw [Bool.or_eq_true] at this
      rcases this with h1 | h1
      · simp [h1]
      · simp [h1]
    | true => simp [hm j hb]

/-- an operation that may be taken first -/
def takeFirst {P : Program} (T : Tab P) (kn : Know) (ops : Array Oper) (tm : Fr) : List Nat → Option (Nat × Option Nat × SV)
  | [] => none
  | i :: rest => match ops[i]? with
    | none => takeFirst T kn ops tm rest
    | some o => match (if o.guard.isNone && freeAll ops i then pureS T kn tm o else none) with
      | some v => some (i, o.dst, v)
      | none => takeFirst T kn ops tm rest
theorem takeFirst_ok {P : Program} {T : Tab P} {kn : Know} {ops : Array Oper} {tm : Fr} : ∀ {rs : List Nat} {i : Nat} {d : Option Nat} {v : SV}, takeFirst T kn ops tm rs = some (i, d, v) →
    i ∈ rs ∧ ∃ o, ops[i]? = some o ∧ o.guard = none ∧ o.dst = d ∧ freeAll ops i = true ∧ pureS T kn tm o = some v := by
  intro rs
  induction rs with
  | nil => intro i d v h; cases h
  | cons j rest ih =>
    intro i d v h
    unfold takeFirst at h
    split at h
    · obtain ⟨h1, h2⟩ := ih h; exact ⟨List.mem_cons_of_mem _ h1, h2⟩
    · rename_i o hj
      split at h
      · rename_i u hu
        cases h
        split at hu
        · rename_i hg
          simp only [Bool.and_eq_true, Option.isNone_iff_eq_none] at hg
          exact ⟨List.mem_cons_self, o, hj, hg.1, rfl, hg.2, hu⟩
        · cases hu
      · obtain ⟨h1, h2⟩ := ih h; exact ⟨List.mem_cons_of_mem _ h1, h2⟩

abbrev BS := Nat × Fr × Mem
/-- every operation that may come next -/
noncomputable def everyNext {P : Program} (T : Tab P) (cx : CX) (ops : Array Oper) (s : BS) : List Nat → Option (List BS)
  | [] => some []
  | i :: rest => match ops[i]? with
    | none => none
    | some o => match stepOp T cx ops s.2.1 o s.2.2, everyNext T cx ops s rest with
      | some l, some r => some (l.map (fun q => (s.1 ||| 2 ^ i, q.1, q.2)) ++ r)
      | _, _ => none
theorem everyNext_ok {P : Program} {T : Tab P} {cx : CX} {ops : Array Oper} {s : BS} : ∀ {rs : List Nat} {L : List BS}, everyNext T cx ops s rs = some L →
    ∀ i ∈ rs, ∃ o, ops[i]? = some o ∧ ∃ l, stepOp T cx ops s.2.1 o s.2.2 = some l ∧ ∀ q ∈ l, (s.1 ||| 2 ^ i, q.1, q.2) ∈ L := by
  intro rs
  induction rs with
  | nil => intro L _ i hi; cases hi
  | cons j rest ih =>
    intro L h i hi
    unfold everyNext at h
    split at h
    · cases h
    · rename_i o hj
      split at h
      · rename_i l r hl hr
        cases h
        rcases List.mem_cons.1 hi with rfl | hi
        · exact ⟨o, hj, l, hl, fun q hq => List.mem_append_left _ (List.mem_map.2 ⟨q, hq, rfl⟩)⟩
        · obtain ⟨o', ho', l', hl', hs⟩ := ih hr i hi
          exact ⟨o', ho', l', hl', fun q hq => List.mem_append_right _ (hs q hq)⟩
      · cases h

noncomputable def nexts {P : Program} (T : Tab P) (cx : CX) (ops : Array Oper) (s : BS) (rs : List Nat) : Option (List BS) :=
  match takeFirst T s.2.2.know ops s.2.1 rs with
  | some (i, d, v) => nfS v fun v => nfSp (putS s.2.1 d v) fun tm' => nfN (s.1 ||| 2 ^ i) fun L => some [(L, tm', s.2.2)]
  | none => everyNext T cx ops s rs

def dedup : List BS → List BS
  | [] => []
  | [s] => [s]
  | s :: rest => let r := dedup rest; if r.contains s then r else s :: r
theorem dedup_mem : ∀ {L : List BS} {s : BS}, s ∈ L → s ∈ dedup L := by
  intro L
  induction L with
  | nil => intro s h; cases h
  | cons a rest ih =>
    intro s h
    cases rest with
    | nil => exact h
    | cons b rest =>
      unfold dedup
      dsimp only
      split
      · rename_i hc
        rcases List.mem_cons.1 h with rfl | h
        · exact List.contains_iff_mem.1 hc
        · exact ih h
      · rcases List.mem_cons.1 h with rfl | h
        · exact List.mem_cons_self
        · exact List.mem_cons_of_mem _ (ih h)

/-- one step of all states: what is at its end, and what goes on -/
noncomputable def level {P : Program} (T : Tab P) (cx : CX) (ops : Array Oper) : List BS → Option (List (Fr × Mem) × List BS)
  | [] => some ([], [])
  | s :: rest => match level T cx ops rest with
    | none => none
    | some (fin, L) => match readyGo s.1 ops.toList 0 with
      | [] => some ((s.2.1, s.2.2) :: fin, L)
      | i :: rs => match nexts T cx ops s (i :: rs) with
        | none => none
        | some N => some (fin, N ++ L)
noncomputable def bfs {P : Program} (T : Tab P) (cx : CX) (ops : Array Oper) : Nat → List BS → Option (List (Fr × Mem))
  | 0, L => if L.all (fun s => (readyGo s.1 ops.toList 0).isEmpty) then some (L.map fun s => (s.2.1, s.2.2)) else none
  | n + 1, L => match level T cx ops L with
    | none => none
    | some (fin, L') => match bfs T cx ops n (dedup L') with
      | none => none
      | some r => some (fin ++ r)
theorem level_ok {P : Program} {T : Tab P} {cx : CX} {ops : Array Oper} : ∀ {L L' : List BS} {fin : List (Fr × Mem)}, level T cx ops L = some (fin, L') → ∀ s ∈ L,
    (readyGo s.1 ops.toList 0 = [] ∧ (s.2.1, s.2.2) ∈ fin) ∨ ∃ rs N, readyGo s.1 ops.toList 0 = rs ∧ rs ≠ [] ∧ nexts T cx ops s rs = some N ∧ ∀ q ∈ N, q ∈ L' := by
  intro L
  induction L with
  | nil => intro L' fin _ s hs; cases hs
  | cons a rest ih =>
    intro L' fin h s hs
    unfold level at h
    split at h
    · cases h
    · rename_i fin1 L1 h1
      split at h
      · rename_i hr
        cases h
        rcases List.mem_cons.1 hs with rfl | hs
        · exact .inl ⟨hr, List.mem_cons_self⟩
        · rcases ih h1 s hs with ⟨p, q⟩ | p
          · exact .inl ⟨p, List.mem_cons_of_mem _ q⟩
          · exact .inr p
      · rename_i i rs hr
        split at h
        · cases h
        · rename_i N hN
          cases h
          rcases List.mem_cons.1 hs with rfl | hs
          · exact .inr ⟨i :: rs, N, hr, by simp, hN, fun q hq => List.mem_append_left _ hq⟩
          · rcases ih h1 s hs with p | ⟨rs', N', p1, p2, p3, p4⟩
            · exact .inl p
            · exact .inr ⟨rs', N', p1, p2, p3, fun q hq => List.mem_append_right _ (p4 q hq)⟩

theorem bfs_ok {F : Nat → Prop} {w0 : World} {P : Program} {T : Tab P} {cx : CX} (hcx : CallsOk P cx) {ops : Array Oper} (hsel : Region.noSelect ops = true) {Q : Exit → Act → World → Prop}
    (hQ : ∀ c a w, ¬ Q (.panic c) a w) : ∀ (n : Nat) {L : List BS} {outs : List (Fr × Mem)}, bfs T cx ops n L = some outs → ∀ s ∈ L, ∀ {ls : Array Bool}, Rep ops.size ls s.1 → ∀ {E : Env} {a : Act} {w : World},
    MemOk F w0 E s.2.2 w → FrOk E s.2.1 a → Goes F w0 E s.2.2 outs (Q .normal) → wpAny P .any ops Q n ls a w := by
  have nextOk : ∀ (n : Nat) {L' : List BS} {outs : List (Fr × Mem)} (ih : ∀ s ∈ L', ∀ {ls : Array Bool}, Rep ops.size ls s.1 → ∀ {E : Env} {a : Act} {w : World},
      MemOk F w0 E s.2.2 w → FrOk E s.2.1 a → Goes F w0 E s.2.2 outs (Q .normal) → wpAny P .any ops Q n ls a w)
      {s : BS} {ls : Array Bool} (hrep : Rep ops.size ls s.1) {rs : List Nat} {N : List BS} (hr : Region.ready .any ops ls = rs) (hne : rs ≠ []) (hN : nexts T cx ops s rs = some N) (hL : ∀ q ∈ N, q ∈ L')
      {E : Env} {a : Act} {w : World}, MemOk F w0 E s.2.2 w → FrOk E s.2.1 a → Goes F w0 E s.2.2 outs (Q .normal) → wpAny P .any ops Q (n + 1) ls a w := by
    intro n L' outs ih s ls hrep rs N hr hne hN hL E a w hm ha hG
    have hlt : ∀ (i : Nat) (o : Oper), ops[i]? = some o → i < ops.size := fun i o h => (Array.getElem?_eq_some_iff.1 h).1
    unfold nexts at hN
    split at hN
    · rename_i i d v ht
      rw [nfS_eq, nfSp_eq, nfN_eq] at hN
      cases hN
      obtain ⟨hi, o, ho, hg, rfl, hf, hp⟩ := takeFirst_ok ht
      refine wpAny_take (v := dv E v) ho hsel (freeAll_ok hf hrep (by rw [hr]; exact hi)) (by rw [hr]; simpa using hi) (fun c a w h => absurd h (hQ _ _ _)) (.inl ⟨by simp [Region.wanted, hg], fun w' => pureS_ok hm.know ha.tmps hp w'⟩) ?_
      exact ih _ (hL _ List.mem_cons_self) (hrep.set (hlt i o ho)) hm (ha.put o.dst v) hG
    · refine wpAny_all hr hne fun i hi => ?_
      obtain ⟨o, ho, l, hl, hs⟩ := everyNext_ok hN i hi
      unfold wpOp
      simp only [ho]
      have := stepOp_ok (Q := Q) (K := wpAny P .any ops Q n (ls.setIfInBounds i true)) hcx hl hm ha (fun q hq E' a' w' hA hm' ha' =>
        ih _ (hL _ (hs q hq)) (hrep.set (hlt i o ho)) hm' ha' (hG.later hA fun _ h => h))
      by_cases hw : Region.wanted o (yielded ops a.tmps) = true
      · rw [if_pos hw] at this ⊢; exact .inl this
      · rw [if_neg hw] at this ⊢; exact this
  intro n
  induction n with
  | zero =>
    intro L outs h s hs ls hrep E a w hm ha hG
    unfold bfs at h
    split at h
    · rename_i hall
      cases h
      have hr : readyGo s.1 ops.toList 0 = [] := by simpa using List.all_eq_true.1 hall s hs
      exact wpAny_done (by rw [ready_ok hrep]; exact hr) (hG _ (List.mem_map.2 ⟨s, hs, rfl⟩) E a w (Later.refl _ _) hm ha) 0
    · cases h
  | succ n ih =>
    intro L outs h s hs ls hrep E a w hm ha hG
    unfold bfs at h
    split at h
    · cases h
    · rename_i fin L' hl
      split at h
      · cases h
      · rename_i r hr
        cases h
        rcases level_ok hl s hs with ⟨p, q⟩ | ⟨rs, N, p1, p2, p3, p4⟩
        · exact wpAny_done (by rw [ready_ok hrep]; exact p) (hG _ (List.mem_append_left _ q) E a w (Later.refl _ _) hm ha) _
        · exact nextOk n (L' := L') (outs := r) (fun s hs ls hrep {E a w} hm ha hG => ih hr s (dedup_mem hs) hrep hm ha hG) hrep ((ready_ok hrep).trans p1) p2 p3 p4 hm ha
            (hG.later (Later.refl _ _) fun q hq => List.mem_append_right _ hq)
end Go.Sx
