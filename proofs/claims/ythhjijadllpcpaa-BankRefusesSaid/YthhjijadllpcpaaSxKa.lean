/- Ways made one: what differs by way stands behind its test. -/
import Derived.Test.YthhjijadllpcpaaSxKb
namespace Go.Sx
open Go

def condI : BE → IE → IE → IE
  | .lit true, x, _ => x
  | .lit false, _, y => y
  | .lt a b, x, y => if x = y then x else .ite true a b x y
  | .eq a b, x, y => if x = y then x else .ite false a b x y
  | .var i, x, y => if x = y then x else .ite false (.bv i) (.lit 1) x y
  | .not c, x, y => condI c y x
theorem condI_ok (E : Env) : ∀ (c : BE) (x y : IE), ev E (condI c x y) = if evB E c then ev E x else ev E y := by
  intro c
  induction c with
  | lit b => intro x y; cases b <;> rfl
  | var i =>
    intro x y
    unfold condI
    split
    · subst_vars; simp
    · rw [ev_ite, ev_bv, ev_lit]
      show _ = if E.b i = true then _ else _
      cases E.b i <;> simp
  | lt a b =>
    intro x y
    unfold condI
    split
    · subst_vars; simp
    · rw [ev_ite]; rfl
  | eq a b =>
    intro x y
    unfold condI
    split
    · subst_vars; simp
    · rw [ev_ite]; rfl
  | not c ih =>
    intro x y
    unfold condI
    rw [ih]
    have e : evB E (.not c) = !evB E c := rfl
    rw [e]
    by_cases h : evB E c = true
    · simp [h]
    · simp [h]
/-- a number that is 0 or 1 -/
def is01 : IE → Bool
  | .lit z => decide (z = 0 ∨ z = 1)
  | .ite _ _ _ x y => is01 x && is01 y
  | .bv _ => true
  | _ => false
theorem is01_ok (E : Env) : ∀ e : IE, is01 e = true → ev E e = 0 ∨ ev E e = 1 := by
  intro e
  induction e with
  | lit z => intro h; simpa [is01, ev_lit] using h
  | bv i => intro _; rw [ev_bv]; split <;> simp
  | ite k a b x y _ _ hx hy =>
    intro h
    simp only [is01, Bool.and_eq_true] at h
    rw [ev_ite]
    by_cases hc : (if k then decide (ev E a < ev E b) else decide (ev E a = ev E b)) = true
    · rw [if_pos hc]; exact hx h.1
    · rw [if_neg hc]; exact hy h.2
  | _ => intro h; simp [is01] at h
def boolI : BE → IE
  | .eq a (.lit z) => if z = 1 ∧ is01 a = true then a else condI (.eq a (.lit z)) (.lit 1) (.lit 0)
  | c => condI c (.lit 1) (.lit 0)
theorem boolI_ok (E : Env) (c : BE) : ev E (boolI c) = if evB E c then 1 else 0 := by
  unfold boolI
  split
  · rename_i a z
    split
    · rename_i h
      obtain ⟨rfl, h⟩ := h
      have e : evB E (.eq a (.lit 1)) = decide (ev E a = 1) := rfl
      rw [e]
      rcases is01_ok E a h with h | h <;> simp [h]
    · rw [condI_ok, ev_lit, ev_lit]
  · rw [condI_ok, ev_lit, ev_lit]
def condB (c : BE) (x y : BE) : BE :=
  if x = y then x else match x, y with
    | .lit true, .lit false => c
    | .lit false, .lit true => mkNot c
    | x, y => .eq (condI c (boolI x) (boolI y)) (.lit 1)
theorem condB_ok (E : Env) (c x y : BE) : evB E (condB c x y) = if evB E c then evB E x else evB E y := by
  unfold condB
  split
  · subst_vars; simp
  · split
    · cases h : evB E c <;> simp [evB]
    · rw [mkNot_ok]; cases h : evB E c <;> simp [evB]
    · simp only [evB, condI_ok, boolI_ok, ev_lit]
      cases evB E c <;> simp only [if_true, Bool.false_eq_true, if_false]
      · cases evB E y <;> simp
      · cases evB E x <;> simp
/-- the number at a place of an array whose writes stand at known places -/
def cellW (r : Nat) : SV → Nat → Option IE
  | .wr (.lit z) x ws, j => if z = (j : Int) then some x else cellW r ws j
  | .nil, j => some (if r = 0 then .lit 0 else .sel r (.lit j))
  | _, _ => none
theorem cellW_ok (E : Env) (r : Nat) : ∀ (ws : SV) (j : Nat) (e : IE), cellW r ws j = some e → wsVal E r ws j = ev E e := by
  intro ws
  induction ws with
  | wr i x ws ih =>
    intro j e h
    cases i <;> first | (simp [cellW] at h; done) | skip
    rename_i z
    simp only [cellW] at h
    show (if ev E (.lit z) = (j : Int) then ev E x else wsVal E r ws j) = ev E e
    split at h
    · rename_i hz; cases h; rw [if_pos (by rw [ev_lit]; exact hz)]
    · rename_i hz; rw [if_neg (by rw [ev_lit]; exact hz)]; exact ih j e h
  | nil =>
    intro j e h
    simp only [cellW, Option.some.injEq] at h
    subst h
    simp only [wsVal]
    split
    · rename_i hr; subst hr; simp [Env.row, ev_lit]
    · rw [ev_sel, ev_lit, Int.toNat_natCast]
  | _ => intro j e h; simp [cellW] at h
def cellsW (k : IntKind) (r : Nat) (ws : SV) : Nat → Nat → Option SV
  | _, 0 => some .nil
  | j, n + 1 => match cellW r ws j, cellsW k r ws (j + 1) n with
    | some e, some c => some (.cons (.int k e) c)
    | _, _ => none
theorem cellsW_ok (E : Env) (k : IntKind) (r : Nat) (ws : SV) : ∀ (n j : Nat) (c : SV), cellsW k r ws j n = some c → dl E c = (List.range' j n).map fun i => .int k (wsVal E r ws i) := by
  intro n
  induction n with
  | zero => intro j c h; cases h; rfl
  | succ n ih =>
    intro j c h
    unfold cellsW at h
    split at h
    · rename_i e c' h1 h2
      cases h
      rw [List.range'_succ, List.map_cons, cellW_ok E r ws j e h1, ← ih _ _ h2]
      rfl
    · cases h
/-- a chain, its arrays in cells -/
def expandC : SV → Option SV
  | .nil => some .nil
  | .cons a rest => match expandC rest with
    | some q => match a with
      | .arr k r (.lit z) ws => if z ≤ 64 then match cellsW k r ws 0 z.toNat with
        | some c => some (appC c q)
        | none => none else none
      | a => some (.cons a q)
    | none => none
  | _ => none
theorem expandC_ok (E : Env) : ∀ (c r : SV), expandC c = some r → dl E r = dl E c := by
  intro c
  induction c with
  | nil => intro r h; cases h; rfl
  | cons a rest _ ih =>
    intro r h
    unfold expandC at h
    split at h
    · rename_i q hq
      split at h
      · rename_i k rr z ws _
        split at h
        · split at h
          · rename_i c hc
            cases h
            rw [appC_ok, cellsW_ok E _ _ _ _ _ _ hc, ih _ hq]
            simp only [dl, arrCells, ev_lit, List.range_eq_range']
          · cases h
        · cases h
      · cases h
        simp only [dl, ih _ hq]
    · cases h
  | _ => intro r h; simp [expandC] at h
/-- the same, its arrays in cells wherever they stand -/
def expandD : SV → SV
  | .cons a rest => match a with
    | .arr k r (.lit z) ws => if z ≤ 64 then match cellsW k r ws 0 z.toNat with
      | some c => appC c (expandD rest)
      | none => .cons a (expandD rest) else .cons a (expandD rest)
    | a => .cons (expandD a) (expandD rest)
  | .agg c => .agg (expandD c)
  | .tup c => .tup (expandD c)
  | v => v
theorem expandD_ok (E : Env) : ∀ v : SV, dl E (expandD v) = dl E v := by
  intro v
  induction v with
  | cons a rest iha ih =>
    unfold expandD
    split
    · rename_i k r z ws
      split
      · split
        · rename_i c hc
          rw [appC_ok, cellsW_ok E _ _ _ _ _ _ hc, ih]
          simp only [dl, arrCells, ev_lit, List.range_eq_range']
        · simp only [dl, ih]
      · simp only [dl, ih]
    · simp only [dl, ih, iha]
  | agg c ih => simp only [expandD, dl, ih]
  | tup c ih => simp only [expandD, dl, ih]
  | _ => rfl

/- two rows of writes over one row of cells -/
def lenW : SV → Nat
  | .wr _ _ ws => lenW ws + 1
  | _ => 0
def cutW : Nat → SV → SV
  | 0, ws => ws
  | n + 1, .wr _ _ ws => cutW n ws
  | _, ws => ws
def placesW : Nat → SV → Option (List IE)
  | 0, _ => some []
  | n + 1, .wr z _ ws => match placesW n ws with
    | some l => some (z :: l)
    | none => none
  | _, _ => none
theorem placesW_ok (E : Env) (r : Nat) : ∀ (n : Nat) (ws : SV) (l : List IE), placesW n ws = some l → ∀ j : Nat, (∀ z ∈ l, ev E z ≠ (j : Int)) → wsVal E r ws j = wsVal E r (cutW n ws) j := by
  intro n
  induction n with
  | zero => intro ws l _ j _; rfl
  | succ n ih =>
    intro ws l h j hj
    unfold placesW at h
    split at h
    · rename_i h0; cases h0
    · rename_i n' z x ws' he
      cases he
      split at h
      · rename_i l' hl
        cases h
        show (if ev E z = (j : Int) then ev E x else wsVal E r ws' j) = wsVal E r (cutW n ws') j
        rw [if_neg (hj z List.mem_cons_self)]
        exact ih ws' l' hl j fun y hy => hj y (List.mem_cons_of_mem _ hy)
      · cases h
    · cases h
/-- the number at a place that may be open -/
def cellE (r : Nat) : SV → IE → Option IE
  | .wr i x ws, e => if i = e then some x else match i, e with
    | .lit _, .lit _ => cellE r ws e
    | _, _ => none
  | .nil, e => some (if r = 0 then .lit 0 else .sel r e)
  | _, _ => none
theorem cellE_ok (E : Env) (r : Nat) : ∀ (ws : SV) (e x : IE), cellE r ws e = some x → ∀ j : Nat, ev E e = (j : Int) → wsVal E r ws j = ev E x := by
  intro ws
  induction ws with
  | wr i y ws ih =>
    intro e x h j hj
    unfold cellE at h
    show (if ev E i = (j : Int) then ev E y else wsVal E r ws j) = ev E x
    split at h
    · rename_i he; cases h; subst he; rw [if_pos hj]
    · rename_i he
      split at h
      · rename_i a b
        have hne : ¬ ev E (.lit a) = (j : Int) := by
          rw [ev_lit] at hj ⊢
          intro hc
          exact he (by rw [hc, ← hj])
        rw [if_neg hne]
        exact ih _ x h j hj
      · cases h
  | nil =>
    intro e x h j hj
    cases h
    show (E.row r).getD j 0 = _
    split
    · rename_i hr; subst hr; simp [Env.row, ev_lit]
    · rw [ev_sel, hj, Int.toNat_natCast]
  | _ => intro e x h; simp [cellE] at h
def mkW (c : BE) (r : Nat) (ws ws' : SV) : List IE → SV → Option SV
  | [], base => some base
  | z :: l, base => match mkW c r ws ws' l base with
    | some b => match cellE r ws z, cellE r ws' z with
      | some x, some y => some (.wr z (condI c x y) b)
      | _, _ => none
    | none => none
theorem mkW_ok (E : Env) (c : BE) (r : Nat) (ws ws' base : SV) : ∀ (l : List IE) (R : SV), mkW c r ws ws' l base = some R →
    ∀ j : Nat, ((∃ z ∈ l, ev E z = (j : Int)) → wsVal E r R j = if evB E c then wsVal E r ws j else wsVal E r ws' j) ∧ ((∀ z ∈ l, ev E z ≠ (j : Int)) → wsVal E r R j = wsVal E r base j) := by
  intro l
  induction l with
  | nil => intro R h j; cases h; exact ⟨fun ⟨z, hz, _⟩ => (by cases hz), fun _ => rfl⟩
  | cons z l ih =>
    intro R h j
    unfold mkW at h
    split at h
    · rename_i b hb
      split at h
      · rename_i x y hx hy
        cases h
        have e : wsVal E r (.wr z (condI c x y) b) j = if ev E z = (j : Int) then ev E (condI c x y) else wsVal E r b j := rfl
        rw [e]
        by_cases hz : ev E z = (j : Int)
        · rw [if_pos hz, condI_ok, cellE_ok E r ws z x hx j hz, cellE_ok E r ws' z y hy j hz]
          exact ⟨fun _ => rfl, fun h => absurd hz (h z List.mem_cons_self)⟩
        · rw [if_neg hz]
          refine ⟨fun ⟨y', hy', he⟩ => ?_, fun h => (ih b hb j).2 fun y hy => h y (List.mem_cons_of_mem _ hy)⟩
          rcases List.mem_cons.1 hy' with rfl | hy'
          · exact absurd he hz
          · exact (ih b hb j).1 ⟨y', hy', he⟩
      · cases h
    · cases h
def uniq : List IE → List IE
  | [] => []
  | x :: l => if l.contains x then uniq l else x :: uniq l
theorem mem_uniq : ∀ (l : List IE) (j : IE), j ∈ uniq l ↔ j ∈ l := by
  intro l
  induction l with
  | nil => intro j; rfl
  | cons x l ih =>
    intro j
    unfold uniq
    split
    · rename_i h
      rw [ih, List.mem_cons]
      constructor
      · exact fun h => .inr h
      · rintro (rfl | h')
        · simpa using h
        · exact h'
    · rw [List.mem_cons, List.mem_cons, ih]
def tryW (c : BE) (r : Nat) (ws ws' : SV) (a b : Nat) : Option SV := match placesW a ws, placesW b ws' with
  | some p, some q => mkW c r ws ws' (uniq (p ++ q)) (cutW a ws)
  | _, _ => none
theorem tryW_ok (E : Env) (c : BE) (r : Nat) (ws ws' : SV) (a b : Nat) (heq : cutW a ws = cutW b ws') (R : SV) (h : tryW c r ws ws' a b = some R) (j : Nat) :
    wsVal E r R j = if evB E c then wsVal E r ws j else wsVal E r ws' j := by
  unfold tryW at h
  split at h
  · rename_i p q hp hq
    obtain ⟨k1, k2⟩ := mkW_ok E c r ws ws' _ _ _ h j
    by_cases hj : ∃ z ∈ uniq (p ++ q), ev E z = (j : Int)
    · exact k1 hj
    · have hn : ∀ z ∈ p ++ q, ev E z ≠ (j : Int) := fun z hz he => hj ⟨z, (mem_uniq _ _).2 hz, he⟩
      rw [k2 fun z hz => hn z ((mem_uniq _ _).1 hz)]
      have h1 := placesW_ok E r _ _ _ hp j fun z hz => hn z (List.mem_append_left _ hz)
      have h2 := placesW_ok E r _ _ _ hq j fun z hz => hn z (List.mem_append_right _ hz)
      rw [← heq] at h2
      rw [h1, h2]; simp
  · cases h
def findW (c : BE) (r : Nat) (ws ws' : SV) (la lb : Nat) : Nat → Option SV
  | 0 => if cutW la ws = cutW lb ws' then tryW c r ws ws' la lb else none
  | m + 1 => if cutW (la - (m + 1)) ws = cutW (lb - (m + 1)) ws' then tryW c r ws ws' (la - (m + 1)) (lb - (m + 1)) else findW c r ws ws' la lb m
theorem findW_ok (E : Env) (c : BE) (r : Nat) (ws ws' : SV) (la lb : Nat) : ∀ (m : Nat) (R : SV), findW c r ws ws' la lb m = some R →
    ∀ j, wsVal E r R j = if evB E c then wsVal E r ws j else wsVal E r ws' j := by
  intro m
  induction m with
  | zero =>
    intro R h j
    unfold findW at h
    split at h
    · rename_i heq; exact tryW_ok E c r ws ws' _ _ heq R h j
    · cases h
  | succ m ih =>
    intro R h j
    unfold findW at h
    split at h
    · rename_i heq; exact tryW_ok E c r ws ws' _ _ heq R h j
    · exact ih R h j
def joinW (c : BE) (r : Nat) (ws ws' : SV) : Option SV := if ws = ws' then some ws else findW c r ws ws' (lenW ws) (lenW ws') (min (lenW ws) (lenW ws'))
theorem joinW_ok (E : Env) (c : BE) (r : Nat) {ws ws' R : SV} (h : joinW c r ws ws' = some R) (j : Nat) : wsVal E r R j = if evB E c then wsVal E r ws j else wsVal E r ws' j := by
  unfold joinW at h
  split at h
  · cases h; subst_vars; simp
  · exact findW_ok E c r ws ws' _ _ _ R h j

/-- one of two values, by a test -/
def condG (c : BE) : SV → SV → Option SV
  | .int k a, y => match y with
    | .int k' b => if k = k' then some (.int k (condI c a b)) else none
    | _ => none
  | .bool a, y => match y with
    | .bool b => some (.bool (condB c a b))
    | _ => none
  | .agg a, y => match y with
    | .agg b => match condG c a b with
      | some r => some (.agg r)
      | none => none
    | _ => none
  | .tup a, y => match y with
    | .tup b => match condG c a b with
      | some r => some (.tup r)
      | none => none
    | _ => none
  | .cons a r, y => match y with
    | .cons b s => match condG c a b with
      | some v => match condG c r s with
        | some t => some (.cons v t)
        | none => none
      | none => none
    | _ => none
  | .arr k r n ws, y => match y with
    | .arr k' r' n' ws' => if k = k' ∧ r = r' ∧ n = n' then match joinW c r ws ws' with
      | some w => some (.arr k r n w)
      | none => none else none
    | _ => none
  | .ptr s k o, y => match y with
    | .ptr s' k' o' => if s = s' ∧ k = k' then some (.ptr s k (condI c o o')) else none
    | _ => none
  | .sli s k o l p, y => match y with
    | .sli s' k' o' l' p' => if s = s' ∧ k = k' then some (.sli s k (condI c o o') (condI c l l') (condI c p p')) else none
    | _ => none
  | .ifc t v, y => match y with
    | .ifc t' v' => if t = t' then match condG c v v' with
      | some r => some (.ifc t r)
      | none => none else none
    | _ => none
  | x, y => if x = y then some x else none
theorem condG_ok (E : Env) (c : BE) : ∀ (x y r : SV), condG c x y = some r → dl E r = if evB E c then dl E x else dl E y := by
  have eq : ∀ {x y r : SV}, (if x = y then some x else none) = some r → dl E r = if evB E c then dl E x else dl E y := by
    intro x y r h
    split at h
    · cases h; subst_vars; simp
    · cases h
  intro x
  induction x with
  | int k a =>
    intro y r h
    unfold condG at h
    split at h
    · split at h
      · cases h; subst_vars; simp only [dl, condI_ok]; split <;> rfl
      · cases h
    · cases h
  | bool a =>
    intro y r h
    unfold condG at h
    split at h
    · cases h; simp only [dl, condB_ok]; split <;> rfl
    · cases h
  | agg a ih =>
    intro y r h
    unfold condG at h
    split at h
    · split at h
      · rename_i q hq; cases h; simp only [dl, ih _ _ hq]; split <;> rfl
      · cases h
    · cases h
  | tup a ih =>
    intro y r h
    unfold condG at h
    split at h
    · split at h
      · rename_i q hq; cases h; simp only [dl, ih _ _ hq]; split <;> rfl
      · cases h
    · cases h
  | cons a r iha ihr =>
    intro y q h
    unfold condG at h
    split at h
    · split at h
      · rename_i v hv
        split at h
        · rename_i t ht
          cases h; simp only [dl, iha _ _ hv, ihr _ _ ht]; split <;> rfl
        · cases h
      · cases h
    · cases h
  | arr k r n ws _ =>
    intro y q h
    unfold condG at h
    split at h
    · split at h
      · rename_i hh
        obtain ⟨rfl, rfl, rfl⟩ := hh
        split at h
        · rename_i w hw
          cases h
          simp only [dl, arrCells]
          split
          · rename_i hc
            refine List.map_congr_left fun j _ => ?_
            rw [joinW_ok E c r hw j, if_pos hc]
          · rename_i hc
            refine List.map_congr_left fun j _ => ?_
            rw [joinW_ok E c r hw j, if_neg hc]
        · cases h
      · cases h
    · cases h
  | ptr s k o =>
    intro y r h
    unfold condG at h
    split at h
    · split at h
      · rename_i hh
        obtain ⟨rfl, rfl⟩ := hh
        cases h; simp only [dl, addrOf, condI_ok]; split <;> rfl
      · cases h
    · cases h
  | sli s k o l p =>
    intro y r h
    unfold condG at h
    split at h
    · split at h
      · rename_i hh
        obtain ⟨rfl, rfl⟩ := hh
        cases h; simp only [dl, addrOf, condI_ok]; split <;> rfl
      · cases h
    · cases h
  | ifc t v ih =>
    intro y r h
    unfold condG at h
    split at h
    · split at h
      · subst_vars
        split at h
        · rename_i q hq; cases h; simp only [dl, ih _ _ hq]; split <;> rfl
        · cases h
      · cases h
    · cases h
  | _ => intro y r h; exact eq h
def condS (c : BE) (x y : SV) : Option SV := match condG c x y with
  | some r => some r
  | none => condG c (expandD x) (expandD y)
theorem condS_ok (E : Env) (c : BE) {x y r : SV} (h : condS c x y = some r) : dl E r = if evB E c then dl E x else dl E y := by
  unfold condS at h
  split at h
  · rename_i q hq; cases h; exact condG_ok E c _ _ _ hq
  · rw [condG_ok E c _ _ _ h, expandD_ok, expandD_ok]

/- which way it was, by the tests that it was answered -/
inductive DT where
  | no
  | leaf (j : Nat)
  | node (c : BE) (a b : DT)
  deriving DecidableEq, Repr, Inhabited
def DT.walk (E : Env) : DT → Option Nat
  | .no => none
  | .leaf j => some j
  | .node c a b => if evB E c then a.walk E else b.walk E
def mkN (c : BE) : DT → DT → DT
  | .no, b => b
  | a, .no => a
  | a, b => .node c a b
theorem mkN_walk (E : Env) (c : BE) (a b : DT) (j : Nat) (h : (if evB E c then a.walk E else b.walk E) = some j) : (mkN c a b).walk E = some j := by
  unfold mkN
  split
  · split at h
    · cases h
    · exact h
  · split at h
    · exact h
    · cases h
  · exact h
/-- the ways whose first test is c, and those whose first is not c; nothing, if there is another one -/
def partC (c : BE) : List (List BE × Nat) → Option (List (List BE × Nat) × List (List BE × Nat))
  | [] => some ([], [])
  | (d :: ds, v) :: rest => match partC c rest with
    | some (A, B) => if d = c then some ((ds, v) :: A, B) else if d = mkNot c then some (A, (ds, v) :: B) else none
    | none => none
  | _ => none
theorem partC_ok {c : BE} : ∀ {l A B : List (List BE × Nat)}, partC c l = some (A, B) → ∀ p ∈ l, ∃ d ds, p.1 = d :: ds ∧ ((d = c ∧ (ds, p.2) ∈ A) ∨ (d = mkNot c ∧ (ds, p.2) ∈ B)) := by
  intro l
  induction l with
  | nil => intro A B _ p hp; cases hp
  | cons q rest ih =>
    intro A B h p hp
    obtain ⟨cs, v⟩ := q
    cases cs with
    | nil => simp [partC] at h
    | cons d ds =>
      unfold partC at h
      split at h
      · rename_i A' B' hr
        rcases List.mem_cons.1 hp with rfl | hp
        · split at h
          · rename_i hd; cases h; exact ⟨d, ds, rfl, .inl ⟨hd, List.mem_cons_self⟩⟩
          · split at h
            · rename_i hd; cases h; exact ⟨d, ds, rfl, .inr ⟨hd, List.mem_cons_self⟩⟩
            · cases h
        · obtain ⟨d', ds', e, hm⟩ := ih hr p hp
          refine ⟨d', ds', e, ?_⟩
          split at h
          · cases h
            rcases hm with ⟨h1, h2⟩ | ⟨h1, h2⟩
            · exact .inl ⟨h1, List.mem_cons_of_mem _ h2⟩
            · exact .inr ⟨h1, h2⟩
          · split at h
            · cases h
              rcases hm with ⟨h1, h2⟩ | ⟨h1, h2⟩
              · exact .inl ⟨h1, h2⟩
              · exact .inr ⟨h1, List.mem_cons_of_mem _ h2⟩
            · cases h
      · cases h
def mkT : Nat → List (List BE × Nat) → Option DT
  | 0, _ => none
  | n + 1, l => match l with
    | [] => some .no
    | [(_, j)] => some (.leaf j)
    | (c :: cs, j) :: rest => match partC c ((c :: cs, j) :: rest) with
      | some (A, B) => match mkT n A with
        | some a => match mkT n B with
          | some b => some (mkN c a b)
          | none => none
        | none => none
      | none => none
    | _ => none
theorem mkT_ok (E : Env) : ∀ (n : Nat) (l : List (List BE × Nat)) (T : DT), mkT n l = some T → ∀ p ∈ l, (∀ c ∈ p.1, evB E c = true) → T.walk E = some p.2 := by
  intro n
  induction n with
  | zero => intro l V h; cases h
  | succ n ih =>
    intro l V h p hp hall
    unfold mkT at h
    split at h
    · cases hp
    · cases h
      simp only [List.mem_cons, List.not_mem_nil, or_false] at hp
      subst hp; rfl
    · rename_i c cs v rest _
      split at h
      case h_2 => cases h
      rename_i A B hpt
      split at h
      case h_2 => cases h
      rename_i a ha
      split at h
      case h_2 => cases h
      rename_i b hb
      cases h
      obtain ⟨d, ds, e, hm⟩ := partC_ok hpt p hp
      rw [e] at hall
      have hd := hall d List.mem_cons_self
      have hds : ∀ c ∈ ds, evB E c = true := fun c hc => hall c (List.mem_cons_of_mem _ hc)
      refine mkN_walk E c a b p.2 ?_
      rcases hm with ⟨rfl, hm⟩ | ⟨rfl, hm⟩
      · rw [hd, if_pos rfl]
        exact ih A a ha (ds, p.2) hm hds
      · rw [mkNot_ok, Bool.not_eq_true'] at hd
        rw [hd]
        simp only [Bool.false_eq_true, if_false]
        exact ih B b hb (ds, p.2) hm hds
    · cases h
/-- a value by the way -/
def DT.val (get : Nat → Option SV) : DT → Option SV
  | .no => none
  | .leaf j => get j
  | .node c a b => match a.val get with
    | some x => match b.val get with
      | some y => condS c x y
      | none => none
    | none => none
theorem DT.val_ok (E : Env) (get : Nat → Option SV) : ∀ (T : DT) (V : SV) (j : Nat), T.val get = some V → T.walk E = some j → ∃ v, get j = some v ∧ dl E V = dl E v := by
  intro T
  induction T with
  | no => intro V j h; cases h
  | leaf i => intro V j h hw; cases hw; exact ⟨V, h, rfl⟩
  | node c a b iha ihb =>
    intro V j h hw
    unfold DT.val at h
    split at h
    · rename_i x hx
      split at h
      · rename_i y hy
        have := condS_ok E c h
        unfold DT.walk at hw
        split at hw
        · rename_i hc
          rw [if_pos hc] at this
          obtain ⟨v, h1, h2⟩ := iha x j hx hw
          exact ⟨v, h1, this.trans h2⟩
        · rename_i hc
          rw [if_neg hc] at this
          obtain ⟨v, h1, h2⟩ := ihb y j hy hw
          exact ⟨v, h1, this.trans h2⟩
      · cases h
    · cases h
/-- 1 at the ways of a kind -/
def DT.ind (g : Nat → Bool) : DT → IE
  | .no => .lit 0
  | .leaf j => .lit (if g j then 1 else 0)
  | .node c a b => condI c (a.ind g) (b.ind g)
theorem DT.ind_ok (E : Env) (g : Nat → Bool) : ∀ (T : DT) (j : Nat), T.walk E = some j → ev E (T.ind g) = if g j then 1 else 0 := by
  intro T
  induction T with
  | no => intro j h; cases h
  | leaf i => intro j h; cases h; rfl
  | node c a b iha ihb =>
    intro j h
    unfold DT.walk at h
    unfold DT.ind
    rw [condI_ok]
    split at h
    · rename_i hc; rw [if_pos hc]; exact iha j h
    · rename_i hc; rw [if_neg hc]; exact ihb j h
/-- are all ways of one kind? -/
def DT.all (g : Nat → Bool) : DT → Bool
  | .no => true
  | .leaf j => g j
  | .node _ a b => a.all g && b.all g
theorem DT.all_ok (E : Env) (g : Nat → Bool) : ∀ (T : DT) (j : Nat), T.all g = true → T.walk E = some j → g j = true := by
  intro T
  induction T with
  | no => intro j _ h; cases h
  | leaf i => intro j h hw; cases hw; exact h
  | node c a b iha ihb =>
    intro j h hw
    simp only [DT.all, Bool.and_eq_true] at h
    unfold DT.walk at hw
    split at hw
    · exact iha j h.1 hw
    · exact ihb j h.2 hw
/-- the test that tells the ways of a kind -/
def DT.test (g : Nat → Bool) : DT → BE
  | .node c a b => if a.all g && b.all (fun j => !g j) then c else if b.all g && a.all (fun j => !g j) then mkNot c else .eq (DT.ind g (.node c a b)) (.lit 1)
  | T => .eq (T.ind g) (.lit 1)
theorem DT.test_ok (E : Env) (g : Nat → Bool) (T : DT) (j : Nat) (h : T.walk E = some j) : evB E (T.test g) = g j := by
  have gen : evB E (.eq (T.ind g) (.lit 1)) = g j := by
    have := T.ind_ok E g j h
    show decide (ev E (T.ind g) = ev E (.lit 1)) = _
    rw [this, ev_lit]
    cases g j <;> simp
  unfold DT.test
  split
  · rename_i c a b
    have hw := h
    unfold DT.walk at hw
    split
    · rename_i hh
      simp only [Bool.and_eq_true] at hh
      split at hw
      · rename_i hc; rw [hc, a.all_ok E g j hh.1 hw]
      · rename_i hc
        have := b.all_ok E _ j hh.2 hw
        simp only [Bool.not_eq_true'] at this
        rw [this]; simpa using hc
    · split
      · rename_i hh
        simp only [Bool.and_eq_true] at hh
        rw [mkNot_ok]
        split at hw
        · rename_i hc
          have := a.all_ok E _ j hh.2 hw
          simp only [Bool.not_eq_true'] at this
          rw [this, hc]; rfl
        · rename_i hc
          rw [b.all_ok E g j hh.1 hw]; simpa using hc
      · exact gen
  · exact gen
def DT.only (g : Nat → Bool) : DT → DT
  | .no => .no
  | .leaf j => if g j then .leaf j else .no
  | .node c a b => mkN c (a.only g) (b.only g)
theorem DT.only_ok (E : Env) (g : Nat → Bool) : ∀ (T : DT) (j : Nat), T.walk E = some j → g j = true → (T.only g).walk E = some j := by
  intro T
  induction T with
  | no => intro j h; cases h
  | leaf i => intro j h hg; cases h; simp [DT.only, hg, DT.walk]
  | node c a b iha ihb =>
    intro j h hg
    unfold DT.walk at h
    refine mkN_walk E c _ _ j ?_
    split at h
    · rename_i hc; rw [if_pos hc]; exact iha j h hg
    · rename_i hc; rw [if_neg hc]; exact ihb j h hg
/- frames, cells, facts -/
noncomputable def slotJ (dead : Bool) (c : BE) (v v' : SV) : Option SV :=
  cond dead (some .nil) (if v = v' then some v else match v with
    | .nil => some .nil
    | .undef => some .nil
    | v => match v' with
      | .nil => some .nil
      | .undef => some .nil
      | v' => condS c v v')
theorem slotJ_ok (E : Env) {dead : Bool} {c : BE} {v v' r : SV} (h : slotJ dead c v v' = some r) : r = .nil ∨ (v ≠ .nil ∧ v' ≠ .nil ∧ dv E r = if evB E c then dv E v else dv E v') := by
  unfold slotJ at h
  cases dead
  case true => cases h; exact .inl rfl
  simp only [cond_false] at h
  split at h
  · rename_i he
    cases h
    subst he
    by_cases hn : v = .nil
    · exact .inl hn
    · exact .inr ⟨hn, hn, by simp⟩
  · split at h
    · cases h; exact .inl rfl
    · cases h; exact .inl rfl
    · rename_i h1 _
      split at h
      · cases h; exact .inl rfl
      · cases h; exact .inl rfl
      · rename_i h2 _
        refine .inr ⟨h1, h2, ?_⟩
        have := condS_ok E c h
        unfold dv
        rw [this]
        split <;> rfl
noncomputable def bitN (dead b : Nat) : Bool := Nat.beq (Nat.mod (Nat.shiftRight dead b) 2) 1
noncomputable def FT.joinR (dead : Nat) (c : BE) (t : FT) : FT → Nat → Nat → Option FT :=
  FT.rec (motive := fun _ => FT → Nat → Nat → Option FT)
    (fun t' _ _ => match t' with
      | .tip => some .tip
      | .node _ _ _ => none)
    (fun v _ _ jl jr t' a b => match t' with
      | .tip => none
      | .node v' l' r' => match slotJ (bitN dead b) c v v' with
        | none => none
        | some x => nfS x fun x => match jl l' (Nat.mul 2 a) (Nat.add a b) with
          | none => none
          | some l => match jr r' (Nat.mul 2 a) (Nat.add (Nat.mul 2 a) b) with
            | none => none
            | some r => some (.node x l r)) t
theorem FT.joinR_ok (E : Env) (dead : Nat) (c : BE) : ∀ (t t' r : FT) (a b : Nat), t.joinR dead c t' a b = some r →
    (∀ i, r.has i = t.has i) ∧ (∀ i, r.has i = t'.has i) ∧ ∀ i, r.get i = .nil ∨ (t.get i ≠ .nil ∧ t'.get i ≠ .nil ∧ dv E (r.get i) = if evB E c then dv E (t.get i) else dv E (t'.get i)) := by
  intro t
  induction t with
  | tip =>
    intro t' r a b h
    cases t' with
    | tip => cases h; exact ⟨fun _ => rfl, fun _ => rfl, fun i => .inr ⟨by rw [FT.get_tip]; simp, by rw [FT.get_tip]; simp, by simp⟩⟩
    | node v l r => cases h
  | node v l r ihl ihr =>
    intro t' R a b h
    cases t' with
    | tip => cases h
    | node v' l' r' =>
      have h' : (match slotJ (bitN dead b) c v v' with
        | none => none
        | some x => nfS x fun x => match l.joinR dead c l' (Nat.mul 2 a) (Nat.add a b) with
          | none => none
          | some l => match r.joinR dead c r' (Nat.mul 2 a) (Nat.add (Nat.mul 2 a) b) with
            | none => none
            | some r => some (FT.node x l r)) = some R := h
      split at h'
      · cases h'
      rename_i x hx
      rw [nfS_eq] at h'
      split at h'
      · cases h'
      rename_i L hL
      split at h'
      · cases h'
      rename_i R' hR
      cases h'
      obtain ⟨a1, a2, a3⟩ := ihl _ _ _ _ hL
      obtain ⟨b1, b2, b3⟩ := ihr _ _ _ _ hR
      refine ⟨fun i => ?_, fun i => ?_, fun i => ?_⟩
      · rw [FT.has_node, FT.has_node, a1, b1]
      · rw [FT.has_node, FT.has_node, a2, b2]
      · rw [FT.get_node, FT.get_node, FT.get_node]
        split
        · exact slotJ_ok E hx
        · split
          · exact a3 _
          · exact b3 _
noncomputable def Fr.joinR (dead : Nat) (c : BE) (f g : Fr) : Option Fr :=
  if Nat.beq f.n g.n then match f.t.joinR dead c g.t 1 0 with
    | some t => some ⟨f.n, t⟩
    | none => none else none
theorem Fr.joinR_ok {E : Env} {a : Act} {dead : Nat} {c : BE} {f g r : Fr} (h : f.joinR dead c g = some r) (hf : evB E c = true → FrOk E f a) (hg : evB E c = false → FrOk E g a) : FrOk E r a := by
  unfold Fr.joinR at h
  split at h
  case isFalse => cases h
  rename_i hn
  have hn := Nat.eq_of_beq_eq_true hn
  split at h
  case h_2 => cases h
  rename_i t ht
  cases h
  obtain ⟨h1, h2, h3⟩ := FT.joinR_ok E dead c _ _ _ _ _ ht
  cases hc : evB E c with
  | true =>
    have H := hf hc
    refine ⟨⟨H.tmps.size, fun i => ?_, fun i => ?_⟩, H.defers⟩
    · rcases h3 i with h | ⟨h4, _, h5⟩
      · exact .inl h
      · right
        rw [hc, if_pos rfl] at h5
        rcases H.tmps.slot i with h6 | h6
        · exact absurd h6 h4
        · exact h6.trans h5.symm
    · show t.has i = decide (i < f.n); rw [h1]; exact H.tmps.wf i
  | false =>
    have H := hg hc
    refine ⟨⟨by rw [H.tmps.size]; exact hn.symm, fun i => ?_, fun i => ?_⟩, H.defers⟩
    · rcases h3 i with h | ⟨_, h4, h5⟩
      · exact .inl h
      · right
        rw [hc] at h5
        simp only [Bool.false_eq_true, if_false] at h5
        rcases H.tmps.slot i with h6 | h6
        · exact absurd h6 h4
        · exact h6.trans h5.symm
    · show t.has i = decide (i < f.n); rw [h2, hn]; exact H.tmps.wf i
noncomputable def Ent.joinR (c : BE) (x y : Ent) : Option Ent :=
  if Nat.beq x.s y.s && Nat.beq x.k y.k && (x.ro == y.ro) && Nat.beq x.t y.t && decide (x.base = y.base) then
    (if x.c = y.c then some x else match condS c x.c y.c with
      | some r => nfS r fun r => some ⟨x.s, x.k, x.ro, x.t, x.base, r⟩
      | none => none) else none
structure Ent.As (E : Env) (r x : Ent) : Prop where
  s : r.s = x.s
  k : r.k = x.k
  ro : r.ro = x.ro
  t : r.t = x.t
  base : r.base = x.base
  c : dl E r.c = dl E x.c
theorem Ent.joinR_ok {E : Env} {c : BE} {x y r : Ent} (h : Ent.joinR c x y = some r) : Ent.As E r (if evB E c then x else y) := by
  unfold Ent.joinR at h
  split at h
  case isFalse => cases h
  rename_i hh
  simp only [Bool.and_eq_true, beq_iff_eq, decide_eq_true_eq] at hh
  obtain ⟨⟨⟨⟨h1, h2⟩, h3⟩, h4⟩, h5⟩ := hh
  have h1 := Nat.eq_of_beq_eq_true h1
  have h2 := Nat.eq_of_beq_eq_true h2
  have h4 := Nat.eq_of_beq_eq_true h4
  split at h
  · rename_i hc
    cases h
    split
    · exact ⟨rfl, rfl, rfl, rfl, rfl, rfl⟩
    · exact ⟨h1, h2, h3, h4, h5, by rw [hc]⟩
  · split at h
    case h_2 => cases h
    rename_i q hq
    rw [nfS_eq] at h
    cases h
    have := condS_ok E c hq
    split
    · rename_i hc; rw [if_pos hc] at this; exact ⟨rfl, rfl, rfl, rfl, rfl, this⟩
    · rename_i hc; rw [if_neg hc] at this; exact ⟨h1, h2, h3, h4, h5, this⟩
noncomputable def heapJ (c : BE) : List Ent → List Ent → Option (List Ent)
  | [], [] => some []
  | x :: xs, y :: ys => match Ent.joinR c x y with
    | none => none
    | some e => match heapJ c xs ys with
      | none => none
      | some r => some (e :: r)
  | _, _ => none
inductive HAs (E : Env) : List Ent → List Ent → Prop
  | nil : HAs E [] []
  | cons {x y : Ent} {r s : List Ent} : Ent.As E x y → HAs E r s → HAs E (x :: r) (y :: s)
theorem heapJ_ok {E : Env} {c : BE} : ∀ {xs ys r : List Ent}, heapJ c xs ys = some r → HAs E r (if evB E c then xs else ys) := by
  intro xs
  induction xs with
  | nil =>
    intro ys r h
    cases ys with
    | nil => cases h; simp; exact HAs.nil
    | cons y ys => cases h
  | cons x xs ih =>
    intro ys r h
    cases ys with
    | nil => cases h
    | cons y ys =>
      unfold heapJ at h
      split at h
      · cases h
      rename_i e he
      split at h
      · cases h
      rename_i q hq
      cases h
      have h1 := Ent.joinR_ok (E := E) he
      have h2 := ih (r := q) hq
      split
      · rename_i hc; rw [if_pos hc] at h1 h2; exact HAs.cons h1 h2
      · rename_i hc; rw [if_neg hc] at h1 h2; exact HAs.cons h1 h2
theorem HAs.mem {E : Env} {r s : List Ent} (h : HAs E r s) : ∀ x ∈ r, ∃ y ∈ s, Ent.As E x y := by
  induction h with
  | nil => intro x hx; cases hx
  | cons h _ ih =>
    intro x hx
    rcases List.mem_cons.1 hx with rfl | hx
    · exact ⟨_, List.mem_cons_self, h⟩
    · obtain ⟨y, hy, h'⟩ := ih x hx
      exact ⟨y, List.mem_cons_of_mem _ hy, h'⟩
theorem Ent.As.blk {E : Env} {r x : Ent} (h : Ent.As E r x) : r.blk E = x.blk E := by simp only [Ent.blk, h.s, h.k]
theorem HAs.apart {E : Env} {r s : List Ent} (h : HAs E r s) : s.Pairwise (Ent.parted E) → r.Pairwise (Ent.parted E) := by
  induction h with
  | nil => intro _; exact List.Pairwise.nil
  | cons h hr ih =>
    intro hp
    cases hp with
    | cons h1 h2 =>
      refine List.Pairwise.cons (fun z hz hro => ?_) (ih h2)
      obtain ⟨y, hy, hzy⟩ := hr.mem z hz
      rw [h.blk, hzy.blk]
      exact h1 y hy (by rw [← h.ro, ← hzy.ro]; exact hro)
/-- what holds of a number on both ways -/
noncomputable def factsJ (f0 f1 f2 : List Fact) : List Fact :=
  (f1.take (f1.length - f0.length)).foldr (fun f acc =>
    nfZ (min (rng f1 f.1).1 (rng f2 f.1).1) fun lo => nfZ (max (rng f1 f.1).2 (rng f2 f.1).2) fun hi =>
      if decide ((rng f0 f.1).1 < lo) || decide (hi < (rng f0 f.1).2) then (f.1, lo, hi) :: acc else acc) f0
theorem factsJ_ok {E : Env} (hE : E.Ok) {f0 f1 f2 : List Fact} (h0 : ∀ f ∈ f0, FactOk E f) (h12 : (∀ f ∈ f1, FactOk E f) ∨ ∀ f ∈ f2, FactOk E f) : ∀ f ∈ factsJ f0 f1 f2, FactOk E f := by
  unfold factsJ
  generalize f1.take (f1.length - f0.length) = l
  induction l with
  | nil => exact h0
  | cons g l ih =>
    intro f hf
    rw [List.foldr_cons, nfZ_eq, nfZ_eq] at hf
    split at hf
    · rcases List.mem_cons.1 hf with rfl | hf
      · unfold FactOk
        rcases h12 with h | h
        · have := rng_ok hE h g.1
          dsimp only; omega
        · have := rng_ok hE h g.1
          dsimp only; omega
      · exact ih f hf
    · exact ih f hf
/-- two states made one -/
noncomputable def stJ (dead : Nat) (kn : Know) (c : BE) (s1 s2 : Fr × Mem) : Option (Fr × Mem) :=
  if Nat.beq s1.2.seg s2.2.seg && Nat.beq s1.2.next s2.2.next then
    match s1.1.joinR dead c s2.1 with
    | none => none
    | some f => match heapJ c s1.2.heap s2.2.heap with
      | none => none
      | some h => nfSp (factsJ kn.facts s1.2.know.facts s2.2.know.facts) fun fs => some (f, ⟨⟨fs, kn.conds⟩, h, s1.2.seg, s1.2.next, s1.2.nv⟩)
  else none
structure StOk (F : Nat → Prop) (w0 : World) (E : Env) (a : Act) (w : World) (s : Fr × Mem) : Prop where
  fr : FrOk E s.1 a
  mem : MemOk F w0 E s.2 w
theorem stJ_ok {F : Nat → Prop} {w0 : World} {E : Env} {a : Act} {w : World} {dead : Nat} {kn : Know} (hk : KnowOk E kn) {c : BE} {s1 s2 s : Fr × Mem} (h : stJ dead kn c s1 s2 = some s)
    (h1 : evB E c = true → StOk F w0 E a w s1) (h2 : evB E c = false → StOk F w0 E a w s2) : StOk F w0 E a w s := by
  unfold stJ at h
  split at h
  case isFalse => cases h
  rename_i hsn
  rw [Bool.and_eq_true] at hsn
  have hseg := Nat.eq_of_beq_eq_true hsn.1
  have hnext := Nat.eq_of_beq_eq_true hsn.2
  split at h
  · cases h
  rename_i f hf
  split at h
  · cases h
  rename_i hp hh
  rw [nfSp_eq] at h
  cases h
  have hAs := heapJ_ok (E := E) hh
  have hfr := Fr.joinR_ok hf (fun hc => (h1 hc).fr) (fun hc => (h2 hc).fr)
  have mk : ∀ s' : Fr × Mem, StOk F w0 E a w s' → s'.2.seg = s1.2.seg → s'.2.next = s1.2.next → HAs E hp s'.2.heap → ((∀ f ∈ s1.2.know.facts, FactOk E f) ∨ ∀ f ∈ s2.2.know.facts, FactOk E f) →
      StOk F w0 E a w (f, ⟨⟨factsJ kn.facts s1.2.know.facts s2.2.know.facts, kn.conds⟩, hp, s1.2.seg, s1.2.next, s1.2.nv⟩) := by
    intro s' hs e1 e2 hA hfs
    have hm := hs.mem
    refine ⟨hfr, ⟨⟨hk.env, factsJ_ok hk.env hk.facts hfs, hk.conds⟩, ?_, ?_, hA.apart hm.apart, ?_, hm.ext, ?_⟩⟩
    · show w.heap.size = E.base s1.2.seg + s1.2.next
      rw [← e1, ← e2]; exact hm.size
    · intro x hx
      obtain ⟨y, hy, hxy⟩ := hA.mem x hx
      have ok := hm.ents y hy
      refine ⟨by rw [hxy.blk]; exact ok.lt, fun hr j v hj => ?_, fun hr => ?_⟩
      · rw [hxy.blk, hxy.s, hxy.base]
        rw [hxy.c] at hj
        exact ok.ro (by rw [← hxy.ro]; exact hr) j v hj
      · rw [hxy.blk, hxy.s, hxy.base, hxy.c, hxy.t]
        exact ok.own (by rw [← hxy.ro]; exact hr)
    · intro x hx hr
      obtain ⟨y, hy, hxy⟩ := hA.mem x hx
      rw [hxy.blk]
      exact hm.mine y hy (by rw [← hxy.ro]; exact hr)
    · show E.o s1.2.seg = 0
      rw [← e1]; exact hm.seg0
  cases hc : evB E c with
  | true =>
    rw [if_pos hc] at hAs
    exact mk s1 (h1 hc) rfl rfl hAs (.inl (h1 hc).mem.know.facts)
  | false =>
    rw [hc] at hAs
    simp only [Bool.false_eq_true, if_false] at hAs
    exact mk s2 (h2 hc) hseg.symm hnext.symm hAs (.inr (h2 hc).mem.know.facts)
noncomputable def DT.st (dead : Nat) (kn : Know) (get : Nat → Option (Fr × Mem)) (T : DT) : Option (Fr × Mem) :=
  DT.rec (motive := fun _ => Option (Fr × Mem)) none (fun j => get j) (fun c _ _ x y => match x with
    | none => none
    | some x => match y with
      | none => none
      | some y => stJ dead kn c x y) T
theorem DT.st_ok {F : Nat → Prop} {w0 : World} {E : Env} {a : Act} {w : World} {dead : Nat} {kn : Know} (hk : KnowOk E kn) {get : Nat → Option (Fr × Mem)} : ∀ (T : DT) (s : Fr × Mem) (j : Nat), T.st dead kn get = some s → T.walk E = some j →
    (∀ x, get j = some x → StOk F w0 E a w x) → StOk F w0 E a w s := by
  intro T
  induction T with
  | no => intro s j h; cases h
  | leaf i => intro s j h hw hj; cases hw; exact hj s h
  | node c x y ihx ihy =>
    intro s j h hw hj
    have h' : (match x.st dead kn get with
      | none => none
      | some x => match y.st dead kn get with
        | none => none
        | some y => stJ dead kn c x y) = some s := h
    split at h'
    · cases h'
    rename_i s1 h1
    split at h'
    · cases h'
    rename_i s2 h2
    unfold DT.walk at hw
    refine stJ_ok hk h' (fun hc => ?_) (fun hc => ?_)
    · rw [if_pos hc] at hw; exact ihx s1 j h1 hw hj
    · rw [hc] at hw
      simp only [Bool.false_eq_true, if_false] at hw
      exact ihy s2 j h2 hw hj
end Go.Sx
