/- Numbers that are the same under a guard: by the cases of the guard's own tests. -/
import Derived.Test.YtdngeccbmalbnaaE4
namespace Go.Sx
open Go

/-- what is known, and one answer more -/
noncomputable def tellN {α : Type} (kn : Know) (c : BE) (k : Know → α) : α := match kn with
  | ⟨fs, cs⟩ => nfB c fun c => nfL nfFact (learn fs c) fun l => nfOnto l fs fun fs' => k ⟨fs', c :: cs⟩
theorem tellN_eq {α : Type} (kn : Know) (c : BE) (k : Know → α) : tellN kn c k = k (kn.tell c) := by
  unfold tellN
  obtain ⟨fs, cs⟩ := kn
  dsimp only
  rw [nfB_eq, nfL_eq (fun _ _ => nfFact_eq _ _), nfOnto_eq]
  rfl
/-- simI, within an unknown function of one number, too -/
noncomputable def simP (kn : Know) : IE → IE
  | .app f (.arg a .noarg) => .app f (.arg (simI kn a) .noarg)
  | e => simI kn e
theorem simP_ok {E : Env} {kn : Know} (h : KnowOk E kn) (e : IE) : ev E (simP kn e) = ev E e := by
  unfold simP
  split
  · rename_i f a
    rw [ev_app, ev_app, evA_arg, evA_arg, simI_ok h]
  · exact simI_ok h _
noncomputable def testK (kn : Know) (kd : Bool) (x y : IE) : BE := if kd then mkLt kn (simP kn x) (simP kn y) else mkEq kn (simP kn x) (simP kn y)
theorem testK_ok {E : Env} {kn : Know} (h : KnowOk E kn) (kd : Bool) (x y : IE) : evB E (testK kn kd x y) = (if kd then decide (ev E x < ev E y) else decide (ev E x = ev E y)) := by
  unfold testK
  cases kd
  · simp only [Bool.false_eq_true, if_false]; rw [mkEq_ok h, simP_ok h, simP_ok h]
  · simp only [if_true]; rw [mkLt_ok h, simP_ok h, simP_ok h]
noncomputable def simQ (kn : Know) : IE → IE
  | .ite kd a b x y => match testK kn kd a b with
    | .lit true => simQ kn x
    | .lit false => simQ kn y
    | _ => cond (ieEq (simQ kn x) (simQ kn y)) (simQ kn x) (.ite kd (simP kn a) (simP kn b) (simQ kn x) (simQ kn y))
  | e => simP kn e
theorem simQ_ok {E : Env} {kn : Know} (h : KnowOk E kn) : ∀ e : IE, ev E (simQ kn e) = ev E e := by
  intro e
  induction e with
  | ite kd a b x y ha hb hx hy =>
    clear ha hb
    have hc := testK_ok h kd a b
    unfold simQ
    rw [ev_ite]
    split
    · rename_i he
      rw [he] at hc
      rw [← hc, hx]; rfl
    · rename_i he
      rw [he] at hc
      rw [← hc, hy]; rfl
    · cases hq : ieEq (simQ kn x) (simQ kn y) with
      | true =>
        have := ieEq_ok hq
        dsimp only [cond]
        have h1 : ev E x = ev E y := by rw [← hx, ← hy, this]
        rw [hx]
        cases (if kd = true then decide (ev E a < ev E b) else decide (ev E a = ev E b)) with
        | true => rfl
        | false => exact h1
      | false =>
        dsimp only [cond]
        rw [ev_ite, hx, hy, simP_ok h, simP_ok h]
  | _ => exact simP_ok h _
noncomputable def eqIp (kn : Know) (a b : IE) : Bool := cond (ieEq a b) true (match mkEq kn (simQ kn a) (simQ kn b) with
  | .lit c => c
  | _ => false)
theorem eqIp_ok {E : Env} {kn : Know} (h : KnowOk E kn) {a b : IE} (hc : eqIp kn a b = true) : ev E a = ev E b := by
  unfold eqIp at hc
  cases hi : ieEq a b with
  | true => rw [ieEq_ok hi]
  | false =>
    rw [hi] at hc
    dsimp only [cond] at hc
    split at hc
    · rename_i c he
      have := mkEq_ok h (simQ kn a) (simQ kn b)
      rw [he, simQ_ok h, simQ_ok h, hc] at this
      exact of_decide_eq_true this.symm
    · cases hc
/-- a merged value's test, as a test -/
noncomputable def testB (kd : Bool) (x y : IE) : BE := match kd, x, y with
  | false, .bv i, .lit (.ofNat 1) => .var i
  | true, x, y => .lt x y
  | false, x, y => .eq x y
theorem testB_ok (E : Env) (kd : Bool) (x y : IE) : evB E (testB kd x y) = (if kd then decide (ev E x < ev E y) else decide (ev E x = ev E y)) := by
  unfold testB
  split
  · rename_i i
    show E.b i = _
    rw [ev_bv, ev_lit]
    cases E.b i <;> rfl
  · rfl
  · rfl
noncomputable def sameT (kn : Know) (kd : Bool) (x y : IE) (kd' : Bool) (x' y' : IE) : Bool := cond kd kd' (!kd') && (ieEq y y' && (ieEq x x' || ieEq x (simP kn x')))
theorem sameT_ok {E : Env} {kn : Know} (h : KnowOk E kn) {kd kd' : Bool} {x y x' y' : IE} (hs : sameT kn kd x y kd' x' y' = true) : kd = kd' ∧ ev E y = ev E y' ∧ ev E x = ev E x' := by
  unfold sameT at hs
  simp only [Bool.and_eq_true, Bool.or_eq_true] at hs
  obtain ⟨h1, h2, h3⟩ := hs
  refine ⟨by revert h1; cases kd <;> cases kd' <;> simp, by rw [ieEq_ok h2], ?_⟩
  rcases h3 with h3 | h3
  · rw [ieEq_ok h3]
  · rw [ieEq_ok h3, simP_ok h]
/-- a number, when a test has just been answered: its own test on top, if it is the same, is answered, too -/
noncomputable def redK {α : Type} (kn : Know) (kd : Bool) (x y : IE) (v : Bool) : IE → (IE → α) → α
  | .ite kd' x' y' t e, k => match x', y', kd' with
    | .bv i, .lit (.ofNat 1), false => (match asked kn.conds (.var i) with
      | .lit true => redK kn kd x y v t k
      | .lit false => redK kn kd x y v e k
      | _ => redK kn kd x y v t fun t => k (.ite false (.bv i) (.lit 1) t e))
    | x', y', kd' => cond (sameT kn kd x y kd' x' y') (k (cond v t e)) (k (.ite kd' x' y' t e))
  | a, k => k a
theorem redK_ok {α : Type} {E : Env} {kn : Know} (h : KnowOk E kn) {kd : Bool} {x y : IE} {v : Bool} (hv : (if kd then decide (ev E x < ev E y) else decide (ev E x = ev E y)) = v) : ∀ (a : IE) (k : IE → α), ∃ a', redK kn kd x y v a k = k a' ∧ ev E a' = ev E a := by
  intro a
  induction a with
  | ite kd' x' y' t e hx hy ht he =>
    clear hx hy
    intro k
    unfold redK
    split
    · rename_i i
      have hc := asked_ok h.conds (.var i)
      split
      · rename_i hq
        rw [hq] at hc
        obtain ⟨a', h1, h2⟩ := ht k
        refine ⟨a', h1, ?_⟩
        rw [h2, ev_iteF, ev_bv, show E.b i = true from hc.symm]; rfl
      · rename_i hq
        rw [hq] at hc
        obtain ⟨a', h1, h2⟩ := he k
        refine ⟨a', h1, ?_⟩
        rw [h2, ev_iteF, ev_bv, show E.b i = false from hc.symm]; rfl
      · obtain ⟨a', h1, h2⟩ := ht fun t => k (.ite false (.bv i) (.lit 1) t e)
        refine ⟨_, h1, ?_⟩
        rw [ev_iteF, ev_iteF, h2]; rfl
    · cases hs : sameT kn kd x y kd' x' y' with
      | false => exact ⟨_, rfl, rfl⟩
      | true =>
        obtain ⟨rfl, h1, h2⟩ := sameT_ok h hs
        refine ⟨_, rfl, ?_⟩
        rw [ev_ite, ← h1, ← h2, hv]
        cases v <;> rfl
  | _ => intro k; exact ⟨_, rfl, rfl⟩
noncomputable def redL {α : Type} (kn : Know) (kd : Bool) (x y : IE) (v : Bool) : List (IE × IE) → (List (IE × IE) → α) → α
  | [], k => k []
  | p :: r, k => redK kn kd x y v p.1 fun a => redK kn kd x y v p.2 fun b => redL kn kd x y v r fun r => k ((a, b) :: r)
def sameP (E : Env) (l l' : List (IE × IE)) : Prop := (∀ p ∈ l', ev E p.1 = ev E p.2) → ∀ p ∈ l, ev E p.1 = ev E p.2
theorem redL_ok {α : Type} {E : Env} {kn : Know} (h : KnowOk E kn) {kd : Bool} {x y : IE} {v : Bool} (hv : (if kd then decide (ev E x < ev E y) else decide (ev E x = ev E y)) = v) : ∀ (l : List (IE × IE)) (k : List (IE × IE) → α), ∃ l', redL kn kd x y v l k = k l' ∧ sameP E l l'
  | [], k => ⟨[], rfl, fun h => h⟩
  | p :: r, k => by
    unfold redL
    obtain ⟨a, h1, h2⟩ := redK_ok h hv p.1 (fun a => redK kn kd x y v p.2 fun b => redL kn kd x y v r fun r => k ((a, b) :: r))
    obtain ⟨b, h3, h4⟩ := redK_ok h hv p.2 (fun b => redL kn kd x y v r fun r => k ((a, b) :: r))
    obtain ⟨l', h5, h6⟩ := redL_ok h hv r fun r => k ((a, b) :: r)
    refine ⟨(a, b) :: l', by rw [h1, h3, h5], fun hall q hq => ?_⟩
    rcases List.mem_cons.1 hq with rfl | hq
    · have := hall _ List.mem_cons_self
      rw [← h2, ← h4]; exact this
    · exact h6 (fun z hz => hall z (List.mem_cons_of_mem _ hz)) q hq
/-- a guard's ways, all pairs of numbers brought along: does each end do? -/
noncomputable def allL (P : Int → List (IE × IE) → Know → Bool) : IE → List (IE × IE) → Know → Bool
  | .ite kd x y t e, l, kn => match testK kn kd x y with
    | .lit true => redL kn kd x y true l fun l => allL P t l kn
    | .lit false => redL kn kd x y false l fun l => allL P e l kn
    | _ => cond (tellN kn (testB kd x y) fun k1 => redL k1 kd x y true l fun l => allL P t l k1) (tellN kn (.not (testB kd x y)) fun k2 => redL k2 kd x y false l fun l => allL P e l k2) false
  | .lit v, l, kn => P v l kn
  | _, _, _ => false
theorem allL_ok {E : Env} {P : Int → List (IE × IE) → Know → Bool} : ∀ (g : IE) (l : List (IE × IE)) (kn : Know), KnowOk E kn → allL P g l kn = true → ∃ l' kn', KnowOk E kn' ∧ sameP E l l' ∧ P (ev E g) l' kn' = true := by
  intro g
  induction g with
  | ite kd x y t e hx hy ht he =>
    clear hx hy
    intro l kn hk hc
    unfold allL at hc
    rw [ev_ite]
    have h1 := testK_ok hk kd x y
    have h2 := testB_ok E kd x y
    have step : ∀ {k : Know} (v : Bool) (g : IE) (_ : ∀ (l : List (IE × IE)) (kn : Know), KnowOk E kn → allL P g l kn = true → ∃ l' kn', KnowOk E kn' ∧ sameP E l l' ∧ P (ev E g) l' kn' = true),
        KnowOk E k → (if kd then decide (ev E x < ev E y) else decide (ev E x = ev E y)) = v → (redL k kd x y v l fun l => allL P g l k) = true → ∃ l' kn', KnowOk E kn' ∧ sameP E l l' ∧ P (ev E g) l' kn' = true := by
      intro k v g ih hk' hv hr
      obtain ⟨l1, h3, h4⟩ := redL_ok hk' hv l (fun l => allL P g l k)
      rw [h3] at hr
      obtain ⟨l', kn', a1, a2, a3⟩ := ih l1 k hk' hr
      exact ⟨l', kn', a1, fun h => h4 (a2 h), a3⟩
    split at hc
    · rename_i hq
      rw [hq] at h1
      have h1 : true = _ := h1
      rw [← h1]
      exact step true t ht hk h1.symm hc
    · rename_i hq
      rw [hq] at h1
      have h1 : false = _ := h1
      rw [← h1]
      exact step false e he hk h1.symm hc
    · rw [tellN_eq, tellN_eq] at hc
      cases h3 : (redL (kn.tell (testB kd x y)) kd x y true l fun l => allL P t l (kn.tell (testB kd x y))) with
      | false => rw [h3] at hc; cases hc
      | true =>
        rw [h3] at hc
        cases hq : (if kd = true then decide (ev E x < ev E y) else decide (ev E x = ev E y)) with
        | true =>
          rw [hq] at h2
          exact step true t ht (tell_ok hk h2) hq h3
        | false =>
          rw [hq] at h2
          exact step false e he (tell_ok hk (by simp [evB, h2])) hq hc
  | lit v => intro l kn hk hc; exact ⟨l, kn, hk, fun h => h, hc⟩
  | _ => intro l kn _ hc; cases hc
/-- where the guard is z, are the pairs the same? -/
noncomputable def endZ (z : Int) (v : Int) (l : List (IE × IE)) (kn : Know) : Bool := cond (zEq v z) (l.all fun p => eqIp kn p.1 p.2) true
noncomputable def slim {α : Type} (kn : Know) (k : Know → α) : α := nfSp (kn.facts.filter fun f => match f.1 with | .sel _ _ => false | _ => true) fun fs => k ⟨fs, kn.conds⟩
theorem slim_ok {E : Env} {kn : Know} (h : KnowOk E kn) {α : Type} (k : Know → α) : ∃ kn', KnowOk E kn' ∧ slim kn k = k kn' := by
  unfold slim
  rw [nfSp_eq]
  refine ⟨_, ?_, rfl⟩
  exact ⟨h.env, fun f hf => h.facts f (List.mem_filter.1 hf).1, h.conds⟩
noncomputable def eqGL (z : Int) (l : List (IE × IE)) (g : IE) (kn : Know) : Bool := slim kn fun kn => allL (endZ z) g l kn
theorem eqGL_ok {E : Env} {z : Int} {l : List (IE × IE)} {g : IE} {kn : Know} (hk : KnowOk E kn) (h : eqGL z l g kn = true) (hg : ev E g = z) : ∀ p ∈ l, ev E p.1 = ev E p.2 := by
  unfold eqGL at h
  obtain ⟨kn', h1, h2⟩ := slim_ok hk (fun kn => allL (endZ z) g l kn)
  rw [h2] at h
  obtain ⟨l', k2, h3, h4, h5⟩ := allL_ok g l kn' h1 h
  unfold endZ at h5
  rw [hg] at h5
  have : zEq z z = true := by rw [zEq_of]; exact decide_eq_true rfl
  rw [this] at h5
  dsimp only [cond] at h5
  rw [List.all_eq_true] at h5
  exact h4 fun p hp => eqIp_ok h3 (h5 p hp)
/-- the pairs of numbers that must be the same, that two values are -/
noncomputable def addP (a b : IE) (l : List (IE × IE)) : List (IE × IE) := cond (ieEq a b) l ((a, b) :: l)
noncomputable def pairsW (r r' : Nat) (ws ws' : SV) : Nat → List (IE × IE) → Option (List (IE × IE))
  | 0, l => some l
  | n + 1, l => match litWk r n ws, litWk r' n ws' with
    | some a, some b => pairsW r r' ws ws' n (addP a b l)
    | _, _ => none
noncomputable def orNone (c : Bool) (o : Option (List (IE × IE))) : Option (List (IE × IE)) := cond c o none
theorem orNone_ok {c : Bool} {o : Option (List (IE × IE))} {l : List (IE × IE)} (h : orNone c o = some l) : c = true ∧ o = some l := by
  unfold orNone at h
  cases c with
  | true => exact ⟨rfl, h⟩
  | false => cases h
noncomputable def orElseP (c : Bool) (l : List (IE × IE)) (o : Option (List (IE × IE))) : Option (List (IE × IE)) := cond c (some l) o
noncomputable def pairsV : SV → SV → List (IE × IE) → Option (List (IE × IE))
  | .int k e, .int k' e', l => orNone (Nat.beq (kindNo k) (kindNo k')) (some (addP e e' l))
  | .cons a b, .cons a' b', l => match pairsV a a' l with
    | some l => pairsV b b' l
    | none => none
  | .agg a, .agg b, l => pairsV a b l
  | .tup a, .tup b, l => pairsV a b l
  | .arr k r (.lit z) ws, .arr k' r' (.lit z') ws', l => orElseP (svEq (.arr k r (.lit z) ws) (.arr k' r' (.lit z') ws')) l (orNone (Nat.beq (kindNo k) (kindNo k') && zEq z z') (pairsW r r' ws ws' z.toNat l))
  | a, b, l => orNone (svEq a b) (some l)
theorem addP_ok {E : Env} {a b : IE} {l : List (IE × IE)} (h : ∀ p ∈ addP a b l, ev E p.1 = ev E p.2) : ev E a = ev E b ∧ ∀ p ∈ l, ev E p.1 = ev E p.2 := by
  unfold addP at h
  cases hc : ieEq a b with
  | true => rw [hc] at h; exact ⟨by rw [ieEq_ok hc], h⟩
  | false => rw [hc] at h; exact ⟨h _ List.mem_cons_self, fun p hp => h p (List.mem_cons_of_mem _ hp)⟩
theorem pairsW_ok {E : Env} {r r' : Nat} {ws ws' : SV} : ∀ {n : Nat} {l l' : List (IE × IE)}, pairsW r r' ws ws' n l = some l' → (∀ p ∈ l', ev E p.1 = ev E p.2) → (∀ j, j < n → wsVal E r ws j = wsVal E r' ws' j) ∧ ∀ p ∈ l, ev E p.1 = ev E p.2
  | 0, l, l', h, hp => by cases h; exact ⟨fun j hj => by omega, hp⟩
  | n + 1, l, l', h, hp => by
    unfold pairsW at h
    split at h
    · rename_i a b ha hb
      obtain ⟨h1, h2⟩ := pairsW_ok h hp
      obtain ⟨h3, h4⟩ := addP_ok h2
      refine ⟨fun j hj => ?_, h4⟩
      by_cases e : j = n
      · subst e; rw [litWk_ok ha, litWk_ok hb]; exact h3
      · exact h1 j (by omega)
    · cases h
theorem pairsV_ok {E : Env} : ∀ {a b : SV} {l l' : List (IE × IE)}, pairsV a b l = some l' → (∀ p ∈ l', ev E p.1 = ev E p.2) → dl E a = dl E b ∧ ∀ p ∈ l, ev E p.1 = ev E p.2 := by
  intro a b l
  induction a, b, l using pairsV.induct with
  | case1 k e k' e' l =>
    intro l' h hp
    unfold pairsV at h
    obtain ⟨hk, h⟩ := orNone_ok h
    cases h
    obtain ⟨h1, h2⟩ := addP_ok hp
    exact ⟨by simp only [dl, kindNo_eq hk, h1], h2⟩
  | case2 a b a' b' l l1 h1 iha ihb =>
    intro l' h hp
    unfold pairsV at h
    rw [h1] at h
    obtain ⟨h3, h4⟩ := ihb h hp
    obtain ⟨h5, h6⟩ := iha h1 h4
    exact ⟨by simp only [dl, h5, h3], h6⟩
  | case3 a b a' b' l h1 _ =>
    intro l' h hp
    unfold pairsV at h
    rw [h1] at h; cases h
  | case4 a b l ih =>
    intro l' h hp
    unfold pairsV at h
    obtain ⟨h1, h2⟩ := ih h hp
    exact ⟨by simp only [dl, h1], h2⟩
  | case5 a b l ih =>
    intro l' h hp
    unfold pairsV at h
    obtain ⟨h1, h2⟩ := ih h hp
    exact ⟨by simp only [dl, h1], h2⟩
  | case6 k r z ws k' r' z' ws' l =>
    intro l' h hp
    unfold pairsV orElseP at h
    cases hs : svEq (.arr k r (.lit z) ws) (.arr k' r' (.lit z') ws') with
    | true => rw [hs] at h; cases h; exact ⟨by rw [svEq_ok hs], hp⟩
    | false =>
      rw [hs] at h
      dsimp only [cond] at h
      obtain ⟨hk, h0⟩ := orNone_ok h
      clear h
      rw [Bool.and_eq_true] at hk
      have hz := zEq_ok hk.2
      subst hz
      obtain ⟨h1, h2⟩ := pairsW_ok h0 hp
      refine ⟨?_, h2⟩
      simp only [dl, arrCells, kindNo_eq hk.1, ev_lit]
      exact List.map_congr_left fun j hj => by rw [h1 j (List.mem_range.1 hj)]
  | case7 a b l h1 h2 h3 h4 h5 =>
    intro l' h hp
    have h : orNone (svEq a b) (some l) = some l' := by
      unfold pairsV at h
      split at h <;> first | exact h | (exfalso; first | exact h1 _ _ _ _ rfl rfl | exact h2 _ _ _ _ rfl rfl | exact h3 _ _ rfl rfl | exact h4 _ _ rfl rfl | exact h5 _ _ _ _ _ _ _ _ rfl rfl)
    obtain ⟨hs, h⟩ := orNone_ok h
    cases h
    exact ⟨by rw [svEq_ok hs], hp⟩
/-- a call's ways, each told in other words, or as several -/
noncomputable def mapWaysX (g : List SV → SV × Mem → List (SV × Mem)) (s : List SV → X SV) : List SV → X SV := fun args m => match s args m with
  | some outs => some (nfL (fun p k => nfS p.1 fun v => nfMem p.2 fun m => k (v, m)) (outs.flatMap (g args)) fun l => l)
  | none => none
theorem mapWaysX_ok {G : Gf} {P : Program} {f : Nat} {s : List SV → X SV} (hs : SpecOk G P f s) {g : List SV → SV × Mem → List (SV × Mem)}
    (hg : ∀ (F : Nat → Prop) (w0 w : World) (E : Env) (args : List SV) (q : SV × Mem), MemOk F w0 E q.2 w → ∃ p ∈ g args q, dv E p.1 = dv E q.1 ∧ p.2.nv = q.2.nv ∧ MemOk F w0 E p.2 w) : SpecOk G P f (mapWaysX g s) := by
  intro F w0 E args m outs' w hgf ho hm
  unfold mapWaysX at ho
  cases hr : s args m with
  | none => rw [hr] at ho; cases ho
  | some outs =>
  rw [hr] at ho
  cases ho
  rw [nfL_eq (fun p k => by rw [nfS_eq, nfMem_eq])]
  refine (hs F w0 E args m outs w hgf hr hm).mono ?_
  rintro e w' ⟨q, hq, E', hL, rfl, hm'⟩
  obtain ⟨p, hp, h1, h2, h3⟩ := hg F w0 w' E' args q hm'
  exact ⟨p, List.mem_flatMap.2 ⟨q, hq, hp⟩, E', by rw [h2]; exact hL, by rw [h1], h3⟩
/-- a block's cells told in other words -/
theorem MemOk.recell {F : Nat → Prop} {w0 w : World} {E : Env} {m : Mem} {e : Ent} {rest : List Ent} {c : SV} (hm : MemOk F w0 E m w) (hh : m.heap = e :: rest) (hro : e.ro = false) (hd : dl E e.c = dl E c) : MemOk F w0 E { m with heap := { e with c := c } :: rest } w := by
  obtain ⟨h1, h2, h3, h4, h5, h6, h7⟩ := hm
  rw [hh] at h3 h4 h5
  refine ⟨h1, h2, ?_, ?_, ?_, h6, h7⟩
  · intro x hx
    rcases List.mem_cons.1 hx with rfl | hx
    · have ok := h3 e List.mem_cons_self
      refine ⟨ok.lt, fun h => ?_, fun h => ⟨(ok.own hro).1, ?_⟩, fun h => ?_⟩
      · have h : e.ro = true := h
        rw [hro] at h; cases h
      · have := (ok.own hro).2
        rw [hd] at this
        exact this
      · have h : e.ro = true := h
        rw [hro] at h; cases h
    · exact h3 x (List.mem_cons_of_mem _ hx)
  · have h := List.pairwise_cons.1 h4
    exact List.Pairwise.cons (fun y hy => h.1 y hy) h.2
  · intro x hx hr
    rcases List.mem_cons.1 hx with rfl | hx
    · exact h5 e List.mem_cons_self hr
    · exact h5 x (List.mem_cons_of_mem _ hx) hr
/-- a number, where what it hangs on is known: 'known ? a : b', b no known number, is a -/
noncomputable def stripE : IE → IE
  | .ite kd x y t e => match kd, x, y, e with
    | false, .bv i, .lit (.ofNat 1), .lit z => .ite false (.bv i) (.lit 1) (stripE t) (.lit z)
    | false, .bv i, .lit (.ofNat 1), .ite k2 a2 b2 x2 y2 => .ite false (.bv i) (.lit 1) (stripE t) (stripE (.ite k2 a2 b2 x2 y2))
    | false, .bv _, .lit (.ofNat 1), _ => stripE t
    | kd, x, y, e => .ite kd (stripE x) (stripE y) (stripE t) (stripE e)
  | .app f a => .app f (stripE a)
  | .arg a r => .arg (stripE a) (stripE r)
  | .add a b => .add (stripE a) (stripE b)
  | e => e
noncomputable def stripV : SV → SV
  | .int k e => nfI (stripE e) fun e => .int k e
  | .cons a b => .cons (stripV a) (stripV b)
  | v => v
noncomputable def nthMap (f : SV → SV) : Nat → SV → SV
  | 0, .cons a b => .cons (f a) b
  | n + 1, .cons a b => .cons a (nthMap f n b)
  | _, v => v
/-- a cell that is not known, where i tells whether it is -/
noncomputable def elseE (i : Nat) : IE → IE
  | .ite false (.bv j) (.lit (.ofNat 1)) x y => cond (Nat.beq i j) y (.ite false (.bv j) (.lit 1) x y)
  | e => e
/-- a row's cells that an operation may have written: what is not known is as it was -/
noncomputable def rowG (ch : SV) (r : Nat) (ws wsu : SV) : Nat → SV → SV
  | 0, acc => acc
  | j + 1, acc => rowG ch r ws wsu j (match litWk r j ws, litWk r j wsu, nthC j ch with
    | some a, some b, some (.bool (.var i)) => cond (ieEq a b) acc (nfI (stripE a) fun a => .wr (.lit (.ofNat j)) (.ite false (.bv i) (.lit 1) a (elseE i b)) acc)
    | _, _, _ => acc)
noncomputable def rowV (ach : SV) : SV → SV
  | .arr k r (.lit z) ws => match nthC 17 ach with
    | some (.arr _ _ _ wsu) => nfS (.arr k r (.lit z) (rowG ach r ws wsu z.toNat wsu)) fun v => v
    | _ => .arr k r (.lit z) ws
  | v => v
noncomputable def valG (ach : SV) : SV → SV
  | .tup (.cons (.agg ch) tl) => .tup (.cons (.agg (nthMap (rowV ach) 18 ch)) tl)
  | .agg ch => .agg (nthMap (rowV ach) 18 ch)
  | v => v
noncomputable def sameV (kn : Know) (g : IE) (a a' b b' : SV) : Bool := match pairsV a a' [] with
  | some l => (match pairsV b b' l with
    | some l => eqGL (-1) l g kn
    | none => false)
  | none => false
noncomputable def retell (kn : Know) (g : IE) (ach : SV) (q : SV × Mem) : List (SV × Mem) := nfS (valG ach q.1) fun v => match q.2.heap with
  | e :: rest => nfS (stripV e.c) fun c => cond (!e.ro && sameV kn g q.1 v e.c c) [(v, { q.2 with heap := { e with c := c } :: rest })] [q]
  | [] => [q]
noncomputable def insZ (z : Int) (l : List Int) : List Int := if l.any (zEq z) then l else z :: l
noncomputable def leavesI : IE → List Int → Option (List Int)
  | .lit z, l => some (insZ z l)
  | .ite _ _ _ x y, l => match leavesI x l with
    | some l => leavesI y l
    | none => none
  | _, _ => none
theorem insZ_mem {z x : Int} {l : List Int} (h : x = z ∨ x ∈ l) : x ∈ insZ z l := by
  unfold insZ
  by_cases hc : l.any (zEq z) = true
  · rw [if_pos hc]
    rcases h with rfl | h
    · rw [List.any_eq_true] at hc
      obtain ⟨y, hy, he⟩ := hc
      rw [zEq_ok he]; exact hy
    · exact h
  · rw [if_neg hc]
    rcases h with rfl | h
    · exact List.mem_cons_self
    · exact List.mem_cons_of_mem _ h
theorem leavesI_ok (E : Env) : ∀ (e : IE) (l r : List Int), leavesI e l = some r → (∀ x ∈ l, x ∈ r) ∧ ev E e ∈ r := by
  intro e
  induction e with
  | lit z => intro l r h; cases h; exact ⟨fun x hx => insZ_mem (.inr hx), insZ_mem (.inl rfl)⟩
  | ite k a b x y ha hb hx hy =>
    clear ha hb
    intro l r h
    unfold leavesI at h
    split at h
    · rename_i l1 h1
      obtain ⟨p1, p2⟩ := hx _ _ h1
      obtain ⟨q1, q2⟩ := hy _ _ h
      refine ⟨fun z hz => q1 z (p1 z hz), ?_⟩
      rw [ev_ite]
      by_cases hc : (if k = true then decide (ev E a < ev E b) else decide (ev E a = ev E b)) = true
      · rw [if_pos hc]; exact q1 _ p2
      · rw [if_neg hc]; exact q2
    · cases h
  | _ => intro l r h; cases h
/-- what is needed, told as a known number -/
noncomputable def setNeed (t : IE) (z : Int) : SV → Option SV
  | .tup (.cons (.agg (.cons (.int k e) r)) tl) => cond (ieEq e t) (some (.tup (.cons (.agg (.cons (.int k (.lit z)) r)) tl))) none
  | .agg (.cons (.int k e) r) => cond (ieEq e t) (some (.agg (.cons (.int k (.lit z)) r))) none
  | _ => none
noncomputable def needWay (t : IE) (ach : SV) (q : SV × Mem) (z : Int) : Option (SV × Mem) := match setNeed t z q.1, nthC z.toNat ach with
  | some v, some (.bool (.var j)) => (nfN j fun j => tellN q.2.know (.not (.var j)) fun kn => some (v, { q.2 with know := ⟨(.bv j, 0, 0) :: kn.facts, kn.conds⟩ }))
  | _, _ => none
noncomputable def needWays (t : IE) (ach : SV) (q : SV × Mem) : List Int → Option (List (SV × Mem))
  | [] => some []
  | z :: r => cond (zEq z (-1)) (needWays t ach q r) (match needWay t ach q z, needWays t ach q r with
    | some p, some l => some (p :: l)
    | _, _ => none)
/-- what is needed is not known -/
noncomputable def endN (ach : SV) (v : Int) (_ : List (IE × IE)) (kn : Know) : Bool := cond (zEq v (-1)) true (match nthC v.toNat ach with
  | some (.bool (.var j)) => eqIp kn (.bv j) (.lit 0)
  | _ => false)
noncomputable def gWays (args : List SV) (q : SV × Mem) : List (SV × Mem) := match args, q.2.know.conds with
  | .agg ach :: _, .eq t (.lit (.negSucc 0)) :: _ => nfI (stripE t) fun g => cond (hasB (.eq g (.lit (-1))) q.2.know.conds) (retell q.2.know g ach q) [q]
  | .agg ach :: _, .not (.eq t (.lit (.negSucc 0))) :: _ => nfI (stripE t) fun g => cond (hasB (.eq g (.lit (-1))) q.2.know.conds && eqGL (-1) [(t, .lit (-1))] g q.2.know) [] (cond (slim q.2.know fun kn => allL (endN ach) t [] kn) (match leavesI t [] with
    | some l => (match needWays t ach q l with | some ws => ws | none => [q])
    | none => [q]) [q])
  | _, _ => [q]
theorem setNeed_ok {E : Env} {t : IE} {z : Int} (h : ev E t = z) {v v' : SV} (hs : setNeed t z v = some v') : dv E v' = dv E v := by
  unfold setNeed at hs
  split at hs
  · rename_i k e r tl
    cases hc : ieEq e t with
    | false => rw [hc] at hs; cases hs
    | true =>
      rw [hc] at hs
      cases hs
      have := ieEq_ok hc
      subst this
      unfold dv
      simp only [dl, ev_lit, h]
  · rename_i k e r
    cases hc : ieEq e t with
    | false => rw [hc] at hs; cases hs
    | true =>
      rw [hc] at hs
      cases hs
      have := ieEq_ok hc
      subst this
      unfold dv
      simp only [dl, ev_lit, h]
  · cases hs
theorem needWays_mem {t : IE} {ach : SV} {q : SV × Mem} {z : Int} (hz : z ≠ -1) : ∀ {l : List Int} {ws : List (SV × Mem)}, needWays t ach q l = some ws → z ∈ l → ∃ p ∈ ws, needWay t ach q z = some p
  | [], _, _, h => by cases h
  | y :: r, ws, hw, h => by
    unfold needWays at hw
    cases hy : zEq y (-1) with
    | true =>
      rw [hy] at hw
      have hy := zEq_ok hy
      rcases List.mem_cons.1 h with rfl | h
      · exact absurd hy hz
      · exact needWays_mem hz hw h
    | false =>
      rw [hy] at hw
      dsimp only [cond] at hw
      split at hw
      · rename_i p l h1 h2
        cases hw
        rcases List.mem_cons.1 h with rfl | h
        · exact ⟨p, List.mem_cons_self, h1⟩
        · obtain ⟨p', h3, h4⟩ := needWays_mem hz h2 h
          exact ⟨p', List.mem_cons_of_mem _ h3, h4⟩
      · cases hw
theorem sameV_ok {E : Env} {kn : Know} {g : IE} (hk : KnowOk E kn) (hg : ev E g = -1) {a a' b b' : SV} (h : sameV kn g a a' b b' = true) : dl E a = dl E a' ∧ dl E b = dl E b' := by
  unfold sameV at h
  split at h
  · rename_i l hl
    split at h
    · rename_i l2 hl2
      obtain ⟨h1, h2⟩ := pairsV_ok hl2 (eqGL_ok hk h hg)
      exact ⟨(pairsV_ok hl h2).1, h1⟩
    · cases h
  · cases h
theorem gWays_ok (F : Nat → Prop) (w0 w : World) (E : Env) (args : List SV) (q : SV × Mem) (hm : MemOk F w0 E q.2 w) : ∃ p ∈ gWays args q, dv E p.1 = dv E q.1 ∧ p.2.nv = q.2.nv ∧ MemOk F w0 E p.2 w := by
  have self : ∃ p ∈ [q], dv E p.1 = dv E q.1 ∧ p.2.nv = q.2.nv ∧ MemOk F w0 E p.2 w := ⟨q, List.mem_singleton.2 rfl, rfl, rfl, hm⟩
  unfold gWays
  split
  · rename_i ach _ t cs _
    rw [nfI_eq]
    cases hc : hasB (.eq (stripE t) (.lit (-1))) q.2.know.conds with
    | false => exact self
    | true =>
      dsimp only [cond]
      have hg := hm.know.conds _ (hasB_ok hc)
      have hg : ev E (stripE t) = -1 := of_decide_eq_true hg
      unfold retell
      rw [nfS_eq]
      split
      · rename_i e rest hh
        rw [nfS_eq]
        cases h1 : (!e.ro && sameV q.2.know (stripE t) q.1 (valG ach q.1) e.c (stripV e.c)) with
        | false => exact self
        | true =>
          simp only [Bool.and_eq_true, Bool.not_eq_true'] at h1
          obtain ⟨h1, h2⟩ := h1
          obtain ⟨h2, h3⟩ := sameV_ok hm.know hg h2
          refine ⟨_, List.mem_singleton.2 rfl, ?_, rfl, hm.recell hh h1 h3⟩
          unfold dv
          rw [h2]
      · exact self
  · rename_i ach _ t cs hcs
    rw [nfI_eq]
    have hn : ev E t ≠ -1 := by
      have := hm.know.conds (.not (.eq t (.lit (.negSucc 0)))) (by rw [hcs]; exact List.mem_cons_self)
      intro he
      have h2 : evB E (.eq t (.lit (.negSucc 0))) = true := decide_eq_true he
      have h3 : (!evB E (.eq t (.lit (.negSucc 0)))) = true := this
      rw [h2] at h3; cases h3
    cases hc : (hasB (.eq (stripE t) (.lit (-1))) q.2.know.conds && eqGL (-1) [(t, .lit (-1))] (stripE t) q.2.know) with
    | true =>
      exfalso
      rw [Bool.and_eq_true] at hc
      have hg : ev E (stripE t) = -1 := of_decide_eq_true (hm.know.conds _ (hasB_ok hc.1))
      exact hn (eqGL_ok hm.know hc.2 hg _ List.mem_cons_self)
    | false =>
      dsimp only [cond]
      cases hal : (slim q.2.know fun kn => allL (endN ach) t [] kn) with
      | false => exact self
      | true =>
      dsimp only [cond]
      split
      · rename_i l hl
        split
        · rename_i ws hw
          obtain ⟨p, hp, h1⟩ := needWays_mem hn hw (leavesI_ok E _ _ _ hl).2
          refine ⟨p, hp, ?_⟩
          unfold needWay at h1
          split at h1
          · rename_i v j h2 h3
            rw [nfN_eq, tellN_eq] at h1
            cases h1
            obtain ⟨kn', s1, s2⟩ := slim_ok hm.know (fun kn => allL (endN ach) t [] kn)
            rw [s2] at hal
            obtain ⟨l', k2, s3, _, s4⟩ := allL_ok t [] kn' s1 hal
            unfold endN at s4
            have hz : zEq (ev E t) (-1) = false := by rw [zEq_of]; exact decide_eq_false hn
            rw [hz, h3] at s4
            have hb : ev E (.bv j) = ev E (.lit 0) := eqIp_ok s3 s4
            rw [ev_bv, ev_lit] at hb
            have hb : E.b j = false := by
              cases h : E.b j with
              | false => rfl
              | true => rw [h] at hb; cases hb
            have hk := tell_ok hm.know (c := .not (.var j)) (by show (!E.b j) = true; rw [hb]; rfl)
            refine ⟨setNeed_ok rfl h2, rfl, ⟨⟨hk.env, fun f hf => ?_, hk.conds⟩, hm.size, hm.ents, hm.apart, hm.mine, hm.ext, hm.seg0⟩⟩
            rcases List.mem_cons.1 hf with rfl | hf
            · show 0 ≤ ev E (.bv j) ∧ ev E (.bv j) ≤ 0
              rw [ev_bv, hb]; exact ⟨by decide, by decide⟩
            · exact hk.facts f hf
          · cases h1
        · exact self
      · exact self
  · exact self
noncomputable def guardX (s : List SV → X SV) : List SV → X SV := mapWaysX gWays s
theorem guardX_ok {G : Gf} {P : Program} {f : Nat} {s : List SV → X SV} (hs : SpecOk G P f s) : SpecOk G P f (guardX s) := mapWaysX_ok hs gWays_ok
/-- names for numbers -/
noncomputable def Env.more (E : Env) (n : Nat) (es : List IE) : Env := { E with i := fun k => if n ≤ k ∧ k < n + es.length then ev E (es.getD (k - n) (.lit 0)) else E.i k }
theorem more_agree (E : Env) (n : Nat) (es : List IE) : Agree n E (E.more n es) :=
  ⟨fun k hk => by show (if n ≤ k ∧ k < n + es.length then _ else E.i k) = E.i k; rw [if_neg (by omega)], fun _ _ => rfl, fun _ _ => rfl, fun _ _ => rfl, fun _ _ => rfl, fun _ _ => rfl, rfl⟩
noncomputable def defC : Nat → List IE → List BE
  | _, [] => []
  | n, e :: r => .eq (.var n) e :: defC (n + 1) r
theorem defC_mem : ∀ {n : Nat} {es : List IE} {c : BE}, c ∈ defC n es → ∃ i, i < es.length ∧ c = .eq (.var (n + i)) (es.getD i (.lit 0))
  | _, [], _, h => by cases h
  | n, e :: r, c, h => by
    rcases List.mem_cons.1 h with rfl | h
    · exact ⟨0, by simp, rfl⟩
    · obtain ⟨i, h1, h2⟩ := defC_mem h
      exact ⟨i + 1, by simp only [List.length_cons]; omega, by rw [h2, show n + 1 + i = n + (i + 1) by omega]; rfl⟩
/-- the same, by numbers that have names -/
noncomputable def eqD (cs : List BE) : IE → IE → Bool
  | a, .var j => ieEq a (.var j) || hasB (.eq (.var j) a) cs
  | .ite k x y t e, .ite k' x' y' (.var j) e' => Bool.rec (!k') k' k && ieEq x x' && ieEq y y' && ieEq e e' && (ieEq t (.var j) || hasB (.eq (.var j) t) cs)
  | a, b => ieEq a b
theorem eqD_ok {E : Env} {cs : List BE} (hc : ∀ c ∈ cs, evB E c = true) {a b : IE} (h : eqD cs a b = true) : ev E a = ev E b := by
  have nm : ∀ (t : IE) (j : Nat), (ieEq t (.var j) || hasB (.eq (.var j) t) cs) = true → ev E t = ev E (.var j) := by
    intro t j h
    rw [Bool.or_eq_true] at h
    rcases h with h | h
    · rw [ieEq_ok h]
    · exact (of_decide_eq_true (hc _ (hasB_ok h))).symm
  unfold eqD at h
  split at h
  · exact nm _ _ h
  · rename_i k x y t e k' x' y' j e'
    simp only [Bool.and_eq_true] at h
    obtain ⟨⟨⟨⟨h1, h2⟩, h3⟩, h4⟩, h5⟩ := h
    have hk : k = k' := by revert h1; cases k <;> cases k' <;> simp
    rw [hk, ieEq_ok h2, ieEq_ok h3, ieEq_ok h4, ev_ite, ev_ite, nm _ _ h5]
  · rw [ieEq_ok h]
noncomputable def defOf (a : IE) : List BE → Option Nat
  | [] => none
  | c :: r => match c with
    | .eq (.var j) t => cond (ieEq t a) (some j) (defOf a r)
    | _ => defOf a r
noncomputable def esIdx (a : IE) : List IE → Nat → Option Nat
  | [], _ => none
  | e :: r, n => cond (ieEq e a) (some n) (esIdx a r (n + 1))
noncomputable def nameE {α : Type} (cs : List BE) (n : Nat) (a : IE) (es : List IE) (k : IE → List IE → α) : α := match a with
  | .ite kd x y t e => match defOf (.ite kd x y t e) cs with
    | some j => nfN j fun j => k (.var j) es
    | none => match esIdx (.ite kd x y t e) es n with
      | some j => nfN j fun j => k (.var j) es
      | none => nfN (n + es.length) fun j => nfSp (es ++ [.ite kd x y t e]) fun es => k (.var j) es
  | a => k a es
noncomputable def nameI {α : Type} (cs : List BE) (n : Nat) (a : IE) (es : List IE) (k : IE → List IE → α) : α := match a with
  | .ite false (.bv i) (.lit (.ofNat 1)) t e => nameE cs n t es fun t es => k (.ite false (.bv i) (.lit 1) t e) es
  | a => nameE cs n a es k
noncomputable def nameV {α : Type} (cs : List BE) (n : Nat) : SV → List IE → (SV → List IE → α) → α
  | .int kd e, es, k => nameI cs n e es fun e es => k (.int kd e) es
  | .cons a b, es, k => nameV cs n a es fun a es => nameV cs n b es fun b es => k (.cons a b) es
  | .agg c, es, k => nameV cs n c es fun c es => k (.agg c) es
  | .tup c, es, k => nameV cs n c es fun c es => k (.tup c) es
  | .arr kd r z ws, es, k => nameV cs n ws es fun ws es => k (.arr kd r z ws) es
  | .wr i x ws, es, k => nameI cs n x es fun x es => nameV cs n ws es fun ws es => k (.wr i x ws) es
  | v, es, k => k v es
noncomputable def letsOk (m : Mem) (es : List IE) : Bool := es.all fun e => e.nm m.nv && in64S m.know e
noncomputable def letSame (cs : List BE) (a a' b b' : SV) : Bool := match pairsV a a' [] with
  | some l => (match pairsV b b' l with
    | some l => l.all fun p => eqD cs p.1 p.2
    | none => false)
  | none => false
noncomputable def letTo (q : SV × Mem) (e : Ent) (rest : List Ent) (v c : SV) (es : List IE) : List (SV × Mem) := nfSp (defC q.2.nv es ++ q.2.know.conds) fun cs =>
  cond (letsOk q.2 es && q.2.nm q.2.nv && q.1.nm q.2.nv && !e.ro && letSame cs q.1 v e.c c) (nfN (q.2.nv + es.length) fun nv => [(v, { q.2 with know := ⟨q.2.know.facts, cs⟩, heap := { e with c := c } :: rest, nv := nv })]) [q]
noncomputable def letWay (q : SV × Mem) : List (SV × Mem) := match q.2.heap with
  | e :: rest => nameV q.2.know.conds q.2.nv q.1 [] fun v es => nameV q.2.know.conds q.2.nv e.c es fun c es => match es with
    | [] => cond (svEq q.1 v && svEq e.c c) [q] (letTo q e rest v c [])
    | x :: r => letTo q e rest v c (x :: r)
  | [] => [q]
theorem letTo_ok {F : Nat → Prop} {w0 w : World} {E : Env} {q : SV × Mem} {e : Ent} {rest : List Ent} {v c : SV} {es : List IE} (hh : q.2.heap = e :: rest) (hm : MemOk F w0 E q.2 w) :
    ∃ p ∈ letTo q e rest v c es, ∃ E', Later q.2.nv p.2.nv E E' ∧ dv E' p.1 = dv E q.1 ∧ MemOk F w0 E' p.2 w := by
  have self : ∃ p ∈ [q], ∃ E', Later q.2.nv p.2.nv E E' ∧ dv E' p.1 = dv E q.1 ∧ MemOk F w0 E' p.2 w := ⟨q, List.mem_singleton.2 rfl, E, Later.of rfl E, rfl, hm⟩
  unfold letTo
  rw [nfSp_eq]
  cases hc : (letsOk q.2 es && q.2.nm q.2.nv && q.1.nm q.2.nv && !e.ro && letSame (defC q.2.nv es ++ q.2.know.conds) q.1 v e.c c) with
  | false => exact self
  | true =>
  simp only [Bool.and_eq_true, Bool.not_eq_true'] at hc
  obtain ⟨⟨⟨⟨h1, h2⟩, h3⟩, h4⟩, h5⟩ := hc
  unfold letSame at h5
  split at h5
  case h_2 => cases h5
  rename_i l1 hl1
  split at h5
  case h_2 => cases h5
  rename_i l2 hl2
  rw [List.all_eq_true] at h5
  dsimp only [cond]
  unfold letsOk at h1
  rw [List.all_eq_true] at h1
  rw [nfN_eq]
  let E' := E.more q.2.nv es
  have hA : Agree q.2.nv E E' := more_agree E _ es
  have getm : ∀ i, i < es.length → es.getD i (.lit 0) ∈ es := fun i hi => by
    rw [List.getD_eq_getElem?_getD, List.getElem?_eq_getElem hi]
    exact List.getElem_mem hi
  have hOk : E'.Ok := ⟨fun k => by
    show in64 (if q.2.nv ≤ k ∧ k < q.2.nv + es.length then ev E (es.getD (k - q.2.nv) (.lit 0)) else E.i k)
    split
    · rename_i hk
      have := h1 _ (getm (k - q.2.nv) (by omega))
      rw [Bool.and_eq_true] at this
      exact in64S_ok hm.know this.2
    · exact hm.know.env.i k, hm.know.env.l, hm.know.env.f⟩
  have hm2 : MemOk F w0 E' { q.2 with nv := q.2.nv + es.length } w := hm.moved h2 hA hOk (Ext.refl _ _) (sg := q.2.seg) (nx := q.2.next) hm.size hm.seg0
  have hcs : ∀ x ∈ defC q.2.nv es ++ q.2.know.conds, evB E' x = true := by
    intro x hx
    rcases List.mem_append.1 hx with hx | hx
    · obtain ⟨i, hi, rfl⟩ := defC_mem hx
      have hn := h1 _ (getm i hi)
      rw [Bool.and_eq_true] at hn
      show decide (ev E' (.var (q.2.nv + i)) = ev E' (es.getD i (.lit 0))) = true
      rw [ev_agree hA hn.1]
      refine decide_eq_true ?_
      show (if q.2.nv ≤ q.2.nv + i ∧ q.2.nv + i < q.2.nv + es.length then ev E (es.getD (q.2.nv + i - q.2.nv) (.lit 0)) else E.i (q.2.nv + i)) = _
      rw [if_pos (by omega), Nat.add_sub_cancel_left]
    · exact hm2.know.conds x hx
  obtain ⟨p1, p2⟩ := pairsV_ok (E := E') hl2 (fun p hp => eqD_ok hcs (h5 p hp))
  obtain ⟨p3, _⟩ := pairsV_ok (E := E') hl1 p2
  have hm3 : MemOk F w0 E' { q.2 with know := ⟨q.2.know.facts, defC q.2.nv es ++ q.2.know.conds⟩, nv := q.2.nv + es.length } w :=
    ⟨⟨hm2.know.env, hm2.know.facts, hcs⟩, hm2.size, hm2.ents, hm2.apart, hm2.mine, hm2.ext, hm2.seg0⟩
  refine ⟨_, List.mem_singleton.2 rfl, E', ⟨hA, by show q.2.nv ≤ q.2.nv + es.length; omega, fun h => ?_⟩, ?_, hm3.recell (e := e) (rest := rest) hh h4 p1⟩
  · have h : q.2.nv + es.length = q.2.nv := h
    have : es = [] := List.length_eq_zero_iff.1 (by omega)
    show E.more q.2.nv es = E
    rw [this]
    unfold Env.more
    simp only [List.length_nil, Nat.add_zero]
    have : (fun k => if q.2.nv ≤ k ∧ k < q.2.nv then ev E (([] : List IE).getD (k - q.2.nv) (.lit 0)) else E.i k) = E.i := by
      funext k
      rw [if_neg (by omega)]
    rw [this]
  · unfold dv
    rw [← p3, dl_agree hA _ h3]
theorem nameE_use {α : Type} (cs : List BE) (n : Nat) (a : IE) (es : List IE) (k : IE → List IE → α) : ∃ b es', nameE cs n a es k = k b es' := by
  unfold nameE
  split
  · split
    · rw [nfN_eq]; exact ⟨_, _, rfl⟩
    · split
      · rw [nfN_eq]; exact ⟨_, _, rfl⟩
      · rw [nfN_eq, nfSp_eq]; exact ⟨_, _, rfl⟩
  · exact ⟨_, _, rfl⟩
theorem nameI_use {α : Type} (cs : List BE) (n : Nat) (a : IE) (es : List IE) (k : IE → List IE → α) : ∃ b es', nameI cs n a es k = k b es' := by
  unfold nameI
  split
  · obtain ⟨b, es', h⟩ := nameE_use cs n _ es (fun t es => k (.ite false (.bv _) (.lit 1) t _) es)
    exact ⟨_, _, h⟩
  · exact nameE_use cs n a es k
theorem nameV_use {α : Type} (cs : List BE) (n : Nat) : ∀ (v : SV) (es : List IE) (k : SV → List IE → α), ∃ b es', nameV cs n v es k = k b es' := by
  intro v
  induction v with
  | int kd e =>
    intro es k
    unfold nameV
    obtain ⟨b, es', h⟩ := nameI_use cs n e es fun e es => k (.int kd e) es
    exact ⟨_, _, h⟩
  | cons a b iha ihb =>
    intro es k
    unfold nameV
    obtain ⟨a', es1, h1⟩ := iha es fun a es => nameV cs n b es fun b es => k (.cons a b) es
    obtain ⟨b', es2, h2⟩ := ihb es1 fun b es => k (.cons a' b) es
    exact ⟨_, _, h1.trans h2⟩
  | agg c ih =>
    intro es k
    unfold nameV
    obtain ⟨a', es1, h1⟩ := ih es fun c es => k (.agg c) es
    exact ⟨_, _, h1⟩
  | tup c ih =>
    intro es k
    unfold nameV
    obtain ⟨a', es1, h1⟩ := ih es fun c es => k (.tup c) es
    exact ⟨_, _, h1⟩
  | arr kd r z ws ih =>
    intro es k
    unfold nameV
    obtain ⟨a', es1, h1⟩ := ih es fun ws es => k (.arr kd r z ws) es
    exact ⟨_, _, h1⟩
  | wr i x ws ih =>
    intro es k
    unfold nameV
    obtain ⟨x', es1, h1⟩ := nameI_use cs n x es fun x es => nameV cs n ws es fun ws es => k (.wr i x ws) es
    obtain ⟨b', es2, h2⟩ := ih es1 fun ws es => k (.wr i x' ws) es
    exact ⟨_, _, h1.trans h2⟩
  | _ => intro es k; exact ⟨_, _, rfl⟩
theorem letWay_ok {F : Nat → Prop} {w0 w : World} {E : Env} {q : SV × Mem} (hm : MemOk F w0 E q.2 w) : ∃ p ∈ letWay q, ∃ E', Later q.2.nv p.2.nv E E' ∧ dv E' p.1 = dv E q.1 ∧ MemOk F w0 E' p.2 w := by
  have self : ∃ p ∈ [q], ∃ E', Later q.2.nv p.2.nv E E' ∧ dv E' p.1 = dv E q.1 ∧ MemOk F w0 E' p.2 w := ⟨q, List.mem_singleton.2 rfl, E, Later.of rfl E, rfl, hm⟩
  unfold letWay
  split
  · rename_i e rest hh
    obtain ⟨v, es1, h1⟩ := nameV_use q.2.know.conds q.2.nv q.1 [] (fun v es => nameV q.2.know.conds q.2.nv e.c es fun c es => match es with
      | [] => cond (svEq q.1 v && svEq e.c c) [q] (letTo q e rest v c [])
      | x :: r => letTo q e rest v c (x :: r))
    obtain ⟨c, es2, h2⟩ := nameV_use q.2.know.conds q.2.nv e.c es1 (fun c es => match es with
      | [] => cond (svEq q.1 v && svEq e.c c) [q] (letTo q e rest v c [])
      | x :: r => letTo q e rest v c (x :: r))
    rw [h1, h2]
    cases es2 with
    | nil =>
      dsimp only
      cases (svEq q.1 v && svEq e.c c) with
      | true => exact self
      | false => exact letTo_ok hh hm
    | cons x r => exact letTo_ok hh hm
  · exact self
noncomputable def letX (s : List SV → X SV) : List SV → X SV := fun args m => match s args m with
  | some outs => some (nfL (fun p k => nfS p.1 fun v => nfMem p.2 fun m => k (v, m)) (outs.flatMap letWay) fun l => l)
  | none => none
theorem letX_ok {G : Gf} {P : Program} {f : Nat} {s : List SV → X SV} (hs : SpecOk G P f s) : SpecOk G P f (letX s) := by
  intro F w0 E args m outs' w hgf ho hm
  unfold letX at ho
  cases hr : s args m with
  | none => rw [hr] at ho; cases ho
  | some outs =>
  rw [hr] at ho
  cases ho
  rw [nfL_eq (fun p k => by rw [nfS_eq, nfMem_eq])]
  refine (hs F w0 E args m outs w hgf hr hm).mono ?_
  rintro e w' ⟨q, hq, E', hL, rfl, hm'⟩
  obtain ⟨p, hp, E2, h1, h2, h3⟩ := letWay_ok hm'
  refine ⟨p, List.mem_flatMap.2 ⟨q, hq, hp⟩, E2, ⟨hL.agree.trans h1.agree hL.le, Nat.le_trans hL.le h1.le, fun h => ?_⟩, by rw [h2], h3⟩
  have a1 := hL.le
  have a2 := h1.le
  rw [h1.same (by omega), hL.same (by omega)]
theorem loopPe_ok {G : Gf} {P : Program} {T : Tab P} {cx : CX} (hcx : CallsOk G P cx) {bx : BX} {jm : Option Nat} {fuel id : Nat} {body : Code} (hb : BlocksOk G P bx body) {n : Nat} {heads : List HeadP} {leaves : List LeaveP}
    (hall : ∀ h ∈ heads, ∃ cs : List (List Fact × List BE), (∀ E : Env, E.f = G → E.Ok → (∀ f ∈ h.mem.know.facts, FactOk E f) → ∃ c ∈ cs, (∀ f ∈ c.1, FactOk E f) ∧ ∀ b ∈ c.2, evB E b = true) ∧ ∀ c ∈ cs, headOk T cx bx jm fuel id body n heads leaves (h.moreC c) = true) : CodeOk G P (.block id (.loop body)) (loopP n heads leaves) := by
  intro F w0 E0 tm a m w exits hgf ho hm ha
  unfold loopP at ho
  split at ho
  case isFalse => cases ho
  rename_i hc
  simp only [Bool.and_eq_true, List.all_eq_true] at hc
  obtain ⟨⟨⟨hn, hh⟩, hl⟩, hany⟩ := hc
  have hn := Nat.eq_of_beq_eq_true hn
  cases ho
  obtain ⟨h0, hh0, hf0⟩ := anyS_ok hany
  obtain ⟨hA0, hm0, hl0⟩ := rerootF_ok hf0 hm
  have toFr : ∀ {E E' : Env} {tm : Fr} {tmH : List SV} {a : Act}, FrOk E tm a → Slots E' E tmH tm.toL → FrOk E' (Fr.ofL tmH) a := fun h he => h.slots he
  have ha0 := toFr ha hl0
  have nvh : ∀ h ∈ heads, n + 1 ≤ h.mem.nv ∧ h.mu.nm h.mem.nv = true := fun h hm => ⟨Nat.le_of_ble_eq_true (hh h hm).1, (hh h hm).2⟩
  have nvl : ∀ x ∈ leaves, n + 1 ≤ x.mem.nv := fun x hx => Nat.le_of_ble_eq_true (hl x hx)
  have key : ∀ (k : Nat) (h : HeadP), h ∈ heads → ∀ (E : Env) (a : Act) (w : World), Agree n E0 E → MemOk F w0 E h.mem w → FrOk E (Fr.ofL h.tm) a → (ev E h.mu).toNat < k →
      Code.rounds P body (Exit.inBlock id (Post F w0 E0 m (leaves.map fun x => ((x.e, Fr.ofL x.tm), x.mem)))) k a w := by
    intro k
    induction k with
    | zero => intro h _ E a w _ _ _ hlt; omega
    | succ k ih =>
      intro h hmem E a w hL hm ha hk
      obtain ⟨cs, hcov, hall2⟩ := hall h hmem
      obtain ⟨c, hc, hcf⟩ := hcov E (hL.f.trans hgf) hm.know.env hm.know.facts
      have hok := hall2 c hc
      unfold headOk at hok
      split at hok
      · cases hok
      rename_i outs hrun
      rw [List.all_eq_true] at hok
      rw [rounds_succ]
      refine wp_mono ((runC_ok hcx fuel).1 body hb F w0 E (Fr.ofL h.tm) a (h.moreC c).mem w outs (hL.f.trans hgf) hrun (hm.moreC hcf) ha) ?_
      rintro e a' w' ⟨q, hq, E', hA, he, hf, hm'⟩
      replace hA : Later h.mem.nv q.2.nv E E' := hA
      have hq' := hok q hq
      have leave : ∀ e0 : SX, q.1.1 = e0 → anyS (fun x => (x.e == leaveOf id e0) && fits n x.tm x.mem q.1.2.toL q.2) leaves = true →
          ∃ y ∈ leaves.map (fun x => ((x.e, Fr.ofL x.tm), x.mem)), ∃ E'', Later m.nv y.2.nv E0 E'' ∧ leaveOf id e0 = y.1.1 ∧ FrOk E'' y.1.2 a' ∧ MemOk F w0 E'' y.2 w' := by
        intro e0 _ hany
        obtain ⟨x, hx, hfx⟩ := anyS_ok hany
        simp only [Bool.and_eq_true, beq_iff_eq] at hfx
        obtain ⟨hxe, hfx⟩ := hfx
        obtain ⟨hA2, hm2, hl2⟩ := rerootF_ok hfx hm'
        refine ⟨_, List.mem_map.2 ⟨x, hx, rfl⟩, E'.by (matchAll n x.tm x.mem q.1.2.toL q.2), ⟨?_, ?_, ?_⟩, hxe.symm, toFr hf hl2, hm2⟩
        · rw [hn]
          exact (hL.trans ⟨fun k hk => hA.agree.i k (by have := (nvh h hmem).1; omega), fun k hk => hA.agree.b k (by have := (nvh h hmem).1; omega), fun k hk => hA.agree.l k (by have := (nvh h hmem).1; omega), fun k hk => hA.agree.base k (by have := (nvh h hmem).1; omega), fun k hk => hA.agree.o k (by have := (nvh h hmem).1; omega), fun k hk => hA.agree.v k (by have := (nvh h hmem).1; omega), hA.agree.f⟩ (Nat.le_refl _)).trans hA2 (Nat.le_refl _)
        · have := nvl x hx; dsimp only; omega
        · intro hnv; have := nvl x hx; dsimp only at hnv; omega
      cases hx : q.1.1 with
      | normal =>
        rw [hx] at he hq'
        subst he
        obtain ⟨g, hg, hfg⟩ := anyS_ok hq'
        simp only [Bool.and_eq_true] at hfg
        obtain ⟨⟨hfit, hd⟩, hlt⟩ := hfg
        obtain ⟨hA2, hm2, hl2⟩ := rerootF_ok hfit hm'
        generalize hσ : matchAll n g.tm g.mem q.1.2.toL q.2 = σ at *
        unfold nonnegI at hd
        cases hμ' : instI σ g.mu with
        | none => rw [hμ'] at hd; cases hd
        | some μ' =>
        rw [hμ'] at hd hlt
        have e1 : ev (E'.by σ) g.mu = ev E' μ' := instI_ev hμ'
        have e2 : ev E' (norm μ') < ev E' h.mu := isLt_ok hm'.know hlt
        have e3 := nonneg_ok hm'.know hd
        rw [norm_ok] at e2 e3
        have e4 : ev E' h.mu = ev E h.mu := ev_agree hA.agree (nvh h hmem).2
        show Code.rounds P body (Exit.inBlock id _) k a' w'
        refine ih g hg (E'.by σ) a' w' ?_ hm2 (toFr hf hl2) ?_
        · exact (hL.trans ⟨fun k hk => hA.agree.i k (by have := (nvh h hmem).1; omega), fun k hk => hA.agree.b k (by have := (nvh h hmem).1; omega), fun k hk => hA.agree.l k (by have := (nvh h hmem).1; omega), fun k hk => hA.agree.base k (by have := (nvh h hmem).1; omega), fun k hk => hA.agree.o k (by have := (nvh h hmem).1; omega), fun k hk => hA.agree.v k (by have := (nvh h hmem).1; omega), hA.agree.f⟩ (Nat.le_refl _)).trans hA2 (Nat.le_refl _)
        · rw [e1]; omega
      | exit i =>
        rw [hx] at he hq'
        subst he
        obtain ⟨y, hy, E'', h1, h2, h3, h4⟩ := leave (.exit i) hx hq'
        show if i = id then _ else _
        replace h2 : (if i = id then SX.normal else .exit i) = y.1.1 := h2
        by_cases hi : i = id
        · rw [if_pos hi] at h2 ⊢
          exact ⟨y, hy, E'', h1, by rw [← h2]; rfl, h3, h4⟩
        · rw [if_neg hi] at h2 ⊢
          exact ⟨y, hy, E'', h1, by rw [← h2]; rfl, h3, h4⟩
      | ret =>
        rw [hx] at he hq'
        subst he
        obtain ⟨y, hy, E'', h1, h2, h3, h4⟩ := leave .ret hx hq'
        exact ⟨y, hy, E'', h1, by rw [← h2]; rfl, h3, h4⟩
  refine wp_block (wp_loop_rounds ((ev (E0.by (matchAll n h0.tm h0.mem tm.toL m)) h0.mu).toNat + 1) ?_)
  exact key _ h0 hh0 _ a w hA0 hm0 ha0 (by omega)
end Go.Sx
