/- The executor made fast, 3: memory. -/
import Derived.Test.YthhjijadllpcpaaSyB
namespace Go.Sx
open Go

noncomputable def cOr (v : SV) (a b : R) : R := SV.rec (motive := fun _ => R → R → R) (fun _ b => b) (fun _ _ b => b) (fun _ _ a _ => a) (fun _ a _ => a) (fun a _ => a) (fun _ _ _ a _ => a) (fun a _ => a) (fun _ _ _ _ _ a _ => a) (fun _ _ _ a _ => a) (fun a _ => a) (fun _ _ _ a _ => a) (fun a _ => a) (fun _ _ _ b => b) (fun _ _ _ b => b) (fun _ b => b) (fun _ _ _ _ _ b => b) (fun _ _ _ _ _ _ b => b) (fun _ _ _ _ _ b => b) (fun _ _ _ _ b => b) v a b
theorem cOr_eq (v : SV) (a b : R) : cOr v a b = if v.isC = true then a else b := by cases v <;> rfl
/- a cell by its number -/
noncomputable def getS1 (r n : Nat) (k : IntKind) (K : SV → R) : R := yes (Nat.beq r 0) (K (.int k (.lit 0))) (K (.int k (.sel r (.lit (.ofNat n)))))
noncomputable def getSel (k : IntKind) (r n : Nat) (K : SV → R) : R := forceN n fun n => getS1 r n k K
noncomputable def wrI (k : IntKind) (x : IE) (ih : R) (n : Nat) (K : SV → R) (p : Nat) : R := yes (Nat.beq p n) (K (.int k x)) ih
noncomputable def wrZ (k : IntKind) (x : IE) (ih : R) (n : Nat) (K : SV → R) (N : R) (z : Int) : R := onNat z (wrI k x ih n K) N
noncomputable def getWK (k : IntKind) (r : Nat) (ws : SV) (n : Nat) (K : SV → R) (N : R) : R :=
  SV.rec (motive := fun _ => IntKind → Nat → Nat → (SV → R) → R → R)
    (fun _ _ _ _ N => N) (fun _ _ _ _ _ N => N) (fun _ _ _ _ _ _ N => N) (fun _ _ _ _ _ N => N) (fun _ _ _ _ N => N) (fun _ _ _ _ _ _ _ N => N) (fun _ _ _ _ N => N) (fun _ _ _ _ _ _ _ _ _ N => N)
    (fun _ _ _ _ _ _ _ N => N) (fun _ _ _ _ N => N) (fun _ _ _ _ _ _ _ N => N) (fun _ _ _ _ N => N) (fun _ _ _ _ _ _ N => N) (fun _ _ _ _ _ _ N => N)
    (fun k r n K _ => getSel k r n K) (fun _ _ _ _ _ _ _ _ N => N) (fun _ _ _ _ _ _ _ _ _ N => N)
    (fun i x _ ih k r n K N => ieLit i (wrZ k x (ih k r n K N) n K N) N) (fun _ _ _ _ _ _ _ N => N) ws k r n K N
theorem branch_lit (b : Bool) (m : Mem) : branch (.lit b) m = some [(b, m)] := rfl
theorem getW_at (k : IntKind) (r : Nat) : ∀ (ws : SV) (n : Nat) (K : SV → R) (N : R), getWK k r ws n K N = N ∨ ∃ v, (∀ m, getW k r ws (.lit n) m = some [(v, m)]) ∧ getWK k r ws n K N = K v
  | .nil, n, K, N => by
    refine .inr ⟨.int k (if r = 0 then .lit 0 else .sel r (.lit n)), fun m => rfl, ?_⟩
    show forceN n (fun n => getS1 r n k K) = _
    rw [forceN_eq]
    unfold getS1
    rw [yes_beq]
    by_cases h : r = 0
    · rw [if_pos h, if_pos h]
    · rw [if_neg h, if_neg h]; rfl
  | .wr i x ws, n, K, N => by
    show ieLit i (wrZ k x (getWK k r ws n K N) n K N) N = N ∨ _
    cases i <;> try exact .inl rfl
    rename_i z
    cases z with
    | negSucc z => exact .inl rfl
    | ofNat p =>
      show yes (Nat.beq p n) (K (.int k x)) (getWK k r ws n K N) = N ∨ ∃ v, _ ∧ yes (Nat.beq p n) (K (.int k x)) (getWK k r ws n K N) = K v
      have hb : ∀ m, getW k r (.wr (.lit (.ofNat p)) x ws) (.lit n) m = if p = n then some [(.int k x, m)] else getW k r ws (.lit n) m := by
        intro m
        show X.bind (withKnow fun kn => branch (mkEq kn (.lit (Int.ofNat p)) (.lit (n : Int)))) (fun b => if b then X.pure (.int k x) else getW k r ws (.lit n)) m = _
        rw [bind_one (m' := m) (a := decide ((Int.ofNat p) = (n : Int))) (by rfl)]
        by_cases h : p = n
        · subst h; simp [X.pure]
        · have : decide ((Int.ofNat p) = (n : Int)) = false := by simp; omega
          rw [this, if_neg h]; rfl
      rw [yes_beq]
      by_cases h : p = n
      · rw [if_pos h]
        exact .inr ⟨_, fun m => by rw [hb, if_pos h], rfl⟩
      · rw [if_neg h]
        rcases getW_at k r ws n K N with h1 | ⟨v, h1, h2⟩
        · exact .inl h1
        · exact .inr ⟨v, fun m => by rw [hb, if_neg h, h1], h2⟩
  | .undef, _, _, _ | .opq _, _, _, _ | .int _ _, _, _, _ | .bool _, _, _, _ | .nilp, _, _, _ | .ptr _ _ _, _, _, _ | .nils, _, _, _ | .sli _ _ _ _ _, _, _, _ | .fn _ _, _, _, _ | .nilf, _, _, _ | .ifc _ _, _, _, _ | .nili, _, _, _ | .agg _, _, _, _ | .tup _, _, _, _ | .cons _ _, _, _, _ | .arr _ _ _ _, _, _, _ | .rep _ _, _, _, _ => .inl rfl
abbrev GetT := Nat → (SV → R) → R → R
noncomputable def arrL (k : IntKind) (r : Nat) (ws : SV) (ih : GetT) (n : Nat) (K : SV → R) (N : R) (l : Nat) : R := yes (Nat.ble (Nat.succ n) l) (getWK k r ws n K N) (ih (Nat.sub n l) K N)
noncomputable def arrZ (k : IntKind) (r : Nat) (ws : SV) (ih : GetT) (n : Nat) (K : SV → R) (N : R) (z : Int) : R := onNat z (arrL k r ws ih n K N) N
noncomputable def arrG (k : IntKind) (r : Nat) (len : IE) (ws : SV) (ih : GetT) (n : Nat) (K : SV → R) (N : R) : R := ieLit len (arrZ k r ws ih n K N) N
noncomputable def cellG (a : SV) (ih : GetT) (n : Nat) (K : SV → R) (N : R) : R :=
  SV.rec (motive := fun _ => SV → GetT → Nat → (SV → R) → R → R) (fun _ _ _ _ N => N) (fun _ _ _ _ _ N => N) (fun _ _ v ih n K N => yes (Nat.beq n 0) (K v) (ih (Nat.pred n) K N)) (fun _ v ih n K N => yes (Nat.beq n 0) (K v) (ih (Nat.pred n) K N)) (fun v ih n K N => yes (Nat.beq n 0) (K v) (ih (Nat.pred n) K N)) (fun _ _ _ v ih n K N => yes (Nat.beq n 0) (K v) (ih (Nat.pred n) K N)) (fun v ih n K N => yes (Nat.beq n 0) (K v) (ih (Nat.pred n) K N)) (fun _ _ _ _ _ v ih n K N => yes (Nat.beq n 0) (K v) (ih (Nat.pred n) K N)) (fun _ _ _ v ih n K N => yes (Nat.beq n 0) (K v) (ih (Nat.pred n) K N)) (fun v ih n K N => yes (Nat.beq n 0) (K v) (ih (Nat.pred n) K N)) (fun _ _ _ v ih n K N => yes (Nat.beq n 0) (K v) (ih (Nat.pred n) K N)) (fun v ih n K N => yes (Nat.beq n 0) (K v) (ih (Nat.pred n) K N)) (fun _ _ _ _ _ _ N => N) (fun _ _ _ _ _ _ N => N) (fun _ _ _ _ N => N) (fun _ _ _ _ _ _ _ _ N => N) (fun k r len ws _ _ ih n K N => arrG k r len ws ih n K N) (fun _ _ _ _ _ _ _ _ N => N) (fun _ _ _ _ _ _ _ N => N) a a ih n K N
noncomputable def getNK (c : SV) : GetT :=
  SV.rec (motive := fun _ => GetT)
    (fun _ _ N => N) (fun _ _ _ N => N) (fun _ _ _ _ N => N) (fun _ _ _ N => N) (fun _ _ N => N) (fun _ _ _ _ _ N => N) (fun _ _ N => N) (fun _ _ _ _ _ _ _ N => N)
    (fun _ _ _ _ _ N => N) (fun _ _ N => N) (fun _ _ _ _ _ N => N) (fun _ _ N => N) (fun _ _ _ _ N => N) (fun _ _ _ _ N => N)
    (fun _ _ N => N) (fun a _ _ ih n K N => cellG a ih n K N) (fun _ _ _ _ _ _ _ N => N)
    (fun _ _ _ _ _ _ N => N) (fun _ _ _ _ _ N => N) c
theorem lit_succ (n : Nat) : mkSub (.lit ((n + 1 : Nat) : Int)) (.lit 1) = .lit (n : Int) := by
  show IE.lit (((n + 1 : Nat) : Int) + -1) = _
  congr 1 <;> omega
theorem getC_lit (a rest : SV) (ha : a.isC = true) (n : Nat) (m : Mem) : getC (.cons a rest) (.lit n) m = if n = 0 then some [(a, m)] else getC rest (.lit ((n - 1 : Nat) : Int)) m := by
  have e : getC (.cons a rest) (.lit (n : Int)) = (if a.isC then
        if IE.lit (n : Int) = .lit 0 then X.pure a else withKnow fun kn =>
          if 1 ≤ (rng kn.facts (.lit (n : Int))).1 then getC rest (mkSub (.lit (n : Int)) (.lit 1)) else
          if 0 ≤ (rng kn.facts (.lit (n : Int))).1 then X.bind (branch (mkEq kn (.lit (n : Int)) (.lit 0))) fun b => if b then X.pure a else getC rest (mkSub (.lit (n : Int)) (.lit 1)) else X.none
      else X.none) := by cases a <;> first | rfl | cases ha
  rw [e, if_pos ha]
  cases n with
  | zero => rfl
  | succ n =>
    rw [if_neg (by intro h; injection h with h; omega)]
    unfold withKnow
    dsimp only
    rw [if_pos (by show (1 : Int) ≤ ((n + 1 : Nat) : Int); omega), lit_succ, if_neg (by omega)]
    rfl
theorem getC_arr (k : IntKind) (r l : Nat) (ws rest : SV) (n : Nat) (m : Mem) : getC (.cons (.arr k r (.lit l) ws) rest) (.lit n) m = if n < l then getW k r ws (.lit n) m else getC rest (.lit ((n - l : Nat) : Int)) m := by
  show (withKnow fun kn =>
      if 0 ≤ (rng kn.facts (.lit (n : Int))).1 then
        X.bind (branch (mkLt kn (.lit (n : Int)) (.lit l))) fun b => if b then getW k r ws (.lit (n : Int)) else
          withKnow fun kn => if 0 ≤ (rng kn.facts (.lit l)).1 then getC rest (mkSub (.lit (n : Int)) (.lit l)) else X.none
      else X.none) m = _
  unfold withKnow
  dsimp only
  rw [if_pos (by show (0 : Int) ≤ (n : Int); omega), bind_one (m' := m) (a := decide ((n : Int) < l)) rfl]
  by_cases h : n < l
  · rw [if_pos h, if_pos (by simpa using h)]
  · rw [if_neg h, if_neg (by simpa using h), if_pos (by show (0 : Int) ≤ (l : Int); omega)]
    rw [show mkSub (.lit (n : Int)) (.lit (l : Int)) = .lit ((n - l : Nat) : Int) by
      show IE.lit ((n : Int) + -(l : Int)) = _
      congr 1 <;> omega]
theorem getNK_at : ∀ (c : SV) (n : Nat) (K : SV → R) (N : R), getNK c n K N = N ∨ ∃ v, (∀ m, getC c (.lit n) m = some [(v, m)]) ∧ getNK c n K N = K v
  | .cons a rest, n, K, N => by
    show cellG a (getNK rest) n K N = N ∨ ∃ v, _ ∧ cellG a (getNK rest) n K N = K v
    by_cases ha : a.isC = true
    · have e : cellG a (getNK rest) n K N = yes (Nat.beq n 0) (K a) (getNK rest (Nat.pred n) K N) := by cases a <;> first | rfl | cases ha
      rw [e, yes_beq]
      by_cases h : n = 0
      · rw [if_pos h]
        exact .inr ⟨a, fun m => by rw [getC_lit a rest ha, if_pos h], rfl⟩
      · rw [if_neg h]
        rcases getNK_at rest (Nat.pred n) K N with h1 | ⟨v, h1, h2⟩
        · exact .inl h1
        · exact .inr ⟨v, fun m => by rw [getC_lit a rest ha, if_neg h]; exact h1 m, h2⟩
    · cases a with
      | arr k r len ws =>
        show ieLit len (arrZ k r ws (getNK rest) n K N) N = N ∨ ∃ v, _ ∧ ieLit len (arrZ k r ws (getNK rest) n K N) N = K v
        cases len <;> try exact .inl rfl
        rename_i z
        cases z with
        | negSucc z => exact .inl rfl
        | ofNat l =>
          show yes (Nat.ble (Nat.succ n) l) (getWK k r ws n K N) (getNK rest (Nat.sub n l) K N) = N ∨ ∃ v, _ ∧ yes (Nat.ble (Nat.succ n) l) (getWK k r ws n K N) (getNK rest (Nat.sub n l) K N) = K v
          rw [yes_ble]
          by_cases h : Nat.succ n ≤ l
          · rw [if_pos h]
            rcases getW_at k r ws n K N with h1 | ⟨v, h1, h2⟩
            · exact .inl h1
            · exact .inr ⟨v, fun m => by
                show getC (.cons (.arr k r (.lit (l : Int)) ws) rest) (.lit n) m = _
                rw [getC_arr, if_pos (show n < l from h), h1], h2⟩
          · rw [if_neg h]
            rcases getNK_at rest (Nat.sub n l) K N with h1 | ⟨v, h1, h2⟩
            · exact .inl h1
            · exact .inr ⟨v, fun m => by
                show getC (.cons (.arr k r (.lit (l : Int)) ws) rest) (.lit n) m = _
                rw [getC_arr, if_neg (show ¬ n < l from h)]; exact h1 m, h2⟩
      | _ => first | exact .inl rfl | exact absurd rfl ha
  | .undef, _, _, _ | .opq _, _, _, _ | .int _ _, _, _, _ | .bool _, _, _, _ | .nilp, _, _, _ | .ptr _ _ _, _, _, _ | .nils, _, _, _ | .sli _ _ _ _ _, _, _, _ | .fn _ _, _, _, _ | .nilf, _, _, _ | .ifc _ _, _, _, _ | .nili, _, _, _ | .agg _, _, _, _ | .tup _, _, _, _ | .nil, _, _, _ | .arr _ _ _ _, _, _, _ | .wr _ _ _, _, _, _ | .rep _ _, _, _, _ => .inl rfl
/- a block by its name -/
noncomputable def hitE (a b c d : Nat) : Bool := Bool.rec (motive := fun _ => Bool) false (Nat.beq c d) (Nat.beq a b)
theorem hitE_eq (a b c d : Nat) : hitE a b c d = (Nat.beq a b && Nat.beq c d) := by unfold hitE; cases Nat.beq a b <;> rfl
abbrev EntK := Bool → IE → SV → R
noncomputable def findK (l : List Ent) : Nat → Nat → EntK → R → R :=
  List.rec (motive := fun _ => Nat → Nat → EntK → R → R) (fun _ _ _ N => N)
    (fun x _ ih s k K N => Ent.rec (motive := fun _ => (Nat → Nat → EntK → R → R) → Nat → Nat → EntK → R → R) (fun s' k' ro _ b c ih s k K N => yes (hitE k' k s' s) (K ro b c) (ih s k K N)) x ih s k K N) l
theorem findK_eq (K : EntK) (N : R) (s k : Nat) : ∀ l : List Ent, findK l s k K N = match findE s k l with | some e => K e.ro e.base e.c | none => N
  | [] => rfl
  | x :: l => by
    obtain ⟨s', k', ro, t, b, c⟩ := x
    show yes (hitE k' k s' s) (K ro b c) (findK l s k K N) = match (cond (Nat.beq k' k && Nat.beq s' s) (some ⟨s', k', ro, t, b, c⟩) (findE s k l)) with | some e => K e.ro e.base e.c | none => N
    rw [hitE_eq, yes_eq, findK_eq K N s k l]
    cases Nat.beq k' k && Nat.beq s' s <;> rfl
/-- an address: its block, its number, in this memory -/
noncomputable def litN (f : Nat → R) (g : R) (z : Int) : R := onNat z f g
noncomputable def ieNat (e : IE) (f : Nat → R) (g : R) : R := ieLit e (litN f g) g
theorem ieNat_eq (e : IE) (f : Nat → R) (g : R) : ieNat e f g = g ∨ ∃ n : Nat, e = .lit n ∧ ieNat e f g = f n := by
  cases e <;> try exact .inl rfl
  rename_i z
  cases z with
  | negSucc z => exact .inl rfl
  | ofNat n => exact .inr ⟨n, rfl, rfl⟩
noncomputable def base0 (g : R) (K : R) (n : Nat) : R := yes (Nat.beq n 0) K g
noncomputable def atE (g : R) (K : SV → R) (_ : Bool) (b : IE) (c : SV) : R := ieNat b (base0 g (K c)) g
noncomputable def heapOf (m : Mem) (s k : Nat) (K : EntK) (g : R) : R := Mem.rec (motive := fun _ => Nat → Nat → EntK → R → R) (fun _ h _ _ _ s k K g => findK h s k K g) m s k K g
theorem heapOf_eq (m : Mem) (s k : Nat) (K : EntK) (g : R) : heapOf m s k K g = match m.find s k with | some e => K e.ro e.base e.c | none => g := findK_eq K g s k m.heap
noncomputable def blockOfC (C : Ctx) (s k : Nat) (K : EntK) : R := Ctx.rec (motive := fun _ => Ctx → Nat → Nat → EntK → R) (fun _ _ _ _ _ m _ C s k K => heapOf m s k K (fb C)) C C s k K
theorem blockOfC_eq (C : Ctx) (s k : Nat) (K : EntK) : blockOfC C s k K = match C.m.find s k with | some e => K e.ro e.base e.c | none => fb C := heapOf_eq C.m s k K (fb C)
noncomputable def ptrN (C : Ctx) (K : Nat → Nat → Nat → R) (s k : Nat) (off : IE) : R := ieNat off (K s k) (fb C)
noncomputable def onPtrN (v : SV) (C : Ctx) (K : Nat → Nat → Nat → R) : R := onPtr v (ptrN C K) (fb C)
theorem onPtrN_eq (v : SV) (C : Ctx) (K : Nat → Nat → Nat → R) : onPtrN v C K = fb C ∨ ∃ s k n : Nat, v = .ptr s k (.lit n) ∧ onPtrN v C K = K s k n := by
  cases v <;> try exact .inl rfl
  rename_i s k off
  rcases ieNat_eq off (K s k) (fb C) with h | ⟨n, h1, h2⟩
  · exact .inl h
  · exact .inr ⟨s, k, n, by rw [h1], h2⟩
theorem place_lit (kn : Know) {e : Ent} (hb : e.base = .lit 0) (n : Nat) : place kn e (.lit n) = some (.lit n) := by
  unfold place
  rw [hb]
  have e1 : mkSub (.lit (n : Int)) (.lit 0) = .lit (n : Int) := by
    show IE.lit ((n : Int) + -0) = _
    congr 1 <;> omega
  rw [e1, if_pos]
  exact ⟨Int.le_refl _, (by show (0 : Int) ≤ (n : Int); omega)⟩
/- loads -/
noncomputable def ld2 (C : Ctx) (n : Nat) (c : SV) : R := getNK c n (fin C) (fb C)
noncomputable def ld1 (C : Ctx) (s k n : Nat) : R := blockOfC C s k (atE (fb C) (ld2 C n))
noncomputable def ld0 (C : Ctx) (v : SV) : R := onPtrN v C (ld1 C)
noncomputable def ldK (x : CO) (C : Ctx) : R := opdC x C (ld0 C)
section
variable {P : Program} {T : Tab P} {cx : CX} {C : Ctx}
theorem atE_eq (g : R) (K : SV → R) (ro : Bool) (b : IE) (c : SV) : atE g K ro b c = g ∨ (b = .lit 0 ∧ atE g K ro b c = K c) := by
  rcases ieNat_eq b (base0 g (K c)) g with h | ⟨n, h1, h2⟩
  · exact .inl h
  · show ieNat b (base0 g (K c)) g = g ∨ (b = .lit 0 ∧ ieNat b (base0 g (K c)) g = K c)
    rw [h2]
    unfold base0
    rw [yes_beq]
    by_cases h0 : n = 0
    · rw [if_pos h0]
      subst h0
      exact .inr ⟨h1, rfl⟩
    · rw [if_neg h0]; exact .inl rfl
theorem ld_ok (h : Fits T cx C) {t : Nat} {x : Operand} (ho : C.o.op = .load t x) (ht : aggOf T t = some false) : ldK (coOf x) C = fb C := by
  unfold ldK
  rw [opdC_eq]
  unfold ld0
  rcases onPtrN_eq ((coOf x).of C.t) C (ld1 C) with e | ⟨s, k, n, hv, e⟩
  · exact e
  · rw [e]
    unfold ld1
    rw [blockOfC_eq]
    cases hf : C.m.find s k with
    | none => rfl
    | some en =>
      dsimp only
      rcases atE_eq (fb C) (ld2 C n) en.ro en.base en.c with e2 | ⟨hb, e2⟩
      · exact e2
      · rw [e2]
        unfold ld2
        rcases getNK_at en.c n (fin C) (fb C) with e3 | ⟨v, hg, e3⟩
        · exact e3
        · rw [e3, ← finM_self]
          have ha : appArgs T ⟨C.n, C.t⟩ C.o = none := by unfold appArgs; rw [ho]
          refine h.val ha ?_
          have hx : opd ⟨C.n, C.t⟩ x = some (.ptr s k (.lit n)) := by rw [coOf_ok (by rw [hv]; exact fun e => (by cases e)), hv]
          unfold opS
          rw [ho]
          dsimp only
          rw [hx]
          dsimp only
          unfold valX
          refine bind_one (a := v) (m' := C.m) ?_
          unfold loadS
          dsimp only
          rw [bind_one (a := en) (m' := C.m) (by unfold findX; rw [hf]; rfl)]
          unfold withKnow
          dsimp only
          rw [place_lit _ hb, bind_one (a := IE.lit n) (m' := C.m) rfl, ht]
          exact hg C.m
end
/- pieces of chains -/
noncomputable def litW (K : Nat → R) (N : R) (z : Int) : R := onNat z K N
noncomputable def widK (a : SV) (K : Nat → R) (N : R) : R := SV.rec (motive := fun _ => (Nat → R) → R → R) (fun _ N => N) (fun _ _ N => N) (fun _ _ K _ => K 1) (fun _ K _ => K 1) (fun K _ => K 1) (fun _ _ _ K _ => K 1) (fun K _ => K 1) (fun _ _ _ _ _ K _ => K 1) (fun _ _ _ K _ => K 1) (fun K _ => K 1) (fun _ _ _ K _ => K 1) (fun K _ => K 1) (fun _ _ _ N => N) (fun _ _ _ N => N) (fun _ N => N) (fun _ _ _ _ _ N => N) (fun _ _ len _ _ K N => ieLit len (litW K N) N) (fun _ _ _ _ _ N => N) (fun _ _ _ _ N => N) a K N
theorem widK_at (a : SV) (K : Nat → R) (N : R) : widK a K N = N ∨ ∃ x, wd a = some x ∧ widK a K N = K x := by
  cases a <;> first | exact .inl rfl | exact .inr ⟨1, rfl, rfl⟩ | skip
  rename_i k r len ws
  cases len <;> try exact .inl rfl
  rename_i z
  cases z with
  | negSucc z => exact .inl rfl
  | ofNat l => exact .inr ⟨l, rfl, rfl⟩
noncomputable def consK (a : SV) (K : SV → R) (r : SV) : R := K (.cons a r)
abbrev TakeT := Nat → Nat → (SV → R) → R → R
noncomputable def take2 (a : SV) (ih : TakeT) (o n : Nat) (K : SV → R) (N : R) (x : Nat) : R :=
  yes (Nat.ble x o) (ih (Nat.sub o x) n K N) (yes (Nat.beq o 0) (yes (Nat.ble x n) (ih 0 (Nat.sub n x) (consK a K) N) N) N)
noncomputable def both0 (o n : Nat) : Bool := Bool.rec (motive := fun _ => Bool) false (Nat.beq n 0) (Nat.beq o 0)
theorem both0_eq (o n : Nat) : both0 o n = decide (o = 0 ∧ n = 0) := by
  unfold both0
  cases o with
  | zero => cases n with
    | zero => rfl
    | succ n => simp [Nat.beq]
  | succ o => simp [Nat.beq]
theorem yes_both0 (o n : Nat) (a b : R) : yes (both0 o n) a b = if o = 0 ∧ n = 0 then a else b := by
  rw [yes_eq]
  by_cases h : o = 0 ∧ n = 0
  · rw [if_pos h, if_pos (by rw [both0_eq]; exact decide_eq_true h)]
  · rw [if_neg h, if_neg (by rw [both0_eq]; simpa using h)]
noncomputable def takeK (c : SV) : TakeT :=
  SV.rec (motive := fun _ => TakeT)
    (fun _ _ _ N => N) (fun _ _ _ _ N => N) (fun _ _ _ _ _ N => N) (fun _ _ _ _ N => N) (fun _ _ _ N => N) (fun _ _ _ _ _ _ N => N) (fun _ _ _ N => N) (fun _ _ _ _ _ _ _ _ N => N)
    (fun _ _ _ _ _ _ N => N) (fun _ _ _ N => N) (fun _ _ _ _ _ _ N => N) (fun _ _ _ N => N) (fun _ _ _ _ _ N => N) (fun _ _ _ _ _ N => N)
    (fun o n K N => yes (both0 o n) (K .nil) N) (fun a _ _ ih o n K N => yes (both0 o n) (K .nil) (widK a (take2 a ih o n K N) N)) (fun _ _ _ _ _ _ _ _ N => N)
    (fun _ _ _ _ _ _ _ N => N) (fun _ _ _ _ _ _ N => N) c
theorem takeK_at : ∀ (c : SV) (o n : Nat) (K : SV → R) (N : R), takeK c o n K N = N ∨ ∃ r, takeC c o n = some r ∧ takeK c o n K N = K r
  | .nil, o, n, K, N => by
    show yes (both0 o n) (K .nil) N = N ∨ ∃ r, (if o = 0 ∧ n = 0 then some SV.nil else none) = some r ∧ yes (both0 o n) (K .nil) N = K r
    rw [yes_both0]
    by_cases h : o = 0 ∧ n = 0
    · simp [h]
    · simp [h]
  | .cons a rest, o, n, K, N => by
    show yes (both0 o n) (K .nil) (widK a (take2 a (takeK rest) o n K N) N) = N ∨ ∃ r, takeC (.cons a rest) o n = some r ∧ yes (both0 o n) (K .nil) (widK a (take2 a (takeK rest) o n K N) N) = K r
    rw [yes_both0]
    unfold takeC
    by_cases h : o = 0 ∧ n = 0
    · simp [h]
    · rw [if_neg h, if_neg h]
      rcases widK_at a (take2 a (takeK rest) o n K N) N with e | ⟨x, hx, e⟩
      · exact .inl e
      · rw [e, hx]
        unfold take2
        rw [yes_ble]
        dsimp only
        by_cases h1 : x ≤ o
        · rw [if_pos h1, if_pos h1]
          exact takeK_at rest (o - x) n K N
        · rw [if_neg h1, if_neg h1, yes_beq]
          by_cases h2 : o = 0
          · rw [if_pos h2, yes_ble]
            by_cases h3 : x ≤ n
            · rw [if_pos h3, if_pos ⟨h2, h3⟩]
              rcases takeK_at rest 0 (Nat.sub n x) (consK a K) N with e2 | ⟨r, hr, e2⟩
              · exact .inl e2
              · refine .inr ⟨.cons a r, ?_, e2⟩
                show (match takeC rest 0 (Nat.sub n x) with | some r => some (SV.cons a r) | none => none) = _
                rw [hr]
            · rw [if_neg h3]; exact .inl rfl
          · rw [if_neg h2]; exact .inl rfl
  | .undef, _, _, _, _ | .opq _, _, _, _, _ | .int _ _, _, _, _, _ | .bool _, _, _, _, _ | .nilp, _, _, _, _ | .ptr _ _ _, _, _, _, _ | .nils, _, _, _, _ | .sli _ _ _ _ _, _, _, _, _ | .fn _ _, _, _, _, _ | .nilf, _, _, _, _ | .ifc _ _, _, _, _, _ | .nili, _, _, _, _ | .agg _, _, _, _, _ | .tup _, _, _, _, _ | .arr _ _ _ _, _, _, _, _ | .wr _ _ _, _, _, _, _ | .rep _ _, _, _, _, _ => .inl rfl
noncomputable def finA (C : Ctx) (r : SV) : R := fin C (.agg r)
noncomputable def lda2 (C : Ctx) (z n : Nat) (c : SV) : R := takeK c n z (finA C) (fb C)
noncomputable def lda1 (C : Ctx) (z s k n : Nat) : R := blockOfC C s k (atE (fb C) (lda2 C z n))
noncomputable def lda0 (C : Ctx) (z : Nat) (v : SV) : R := onPtrN v C (lda1 C z)
noncomputable def ldaK (z : Nat) (x : CO) (C : Ctx) : R := opdC x C (lda0 C z)
theorem rowAt_lit {c r : SV} {z n : Nat} (h : takeC c n z = some r) (m : Mem) : rowAt c z (.lit n) m = some [(r, m)] := by
  unfold rowAt
  dsimp only
  rw [if_pos (by omega), Int.toNat_natCast, h]
  rfl
section
variable {P : Program} {T : Tab P} {cx : CX} {C : Ctx}
theorem lda_ok (h : Fits T cx C) {t z : Nat} {x : Operand} (ho : C.o.op = .load t x) (ht : aggOf T t = some true) (hz : sizeIn T t = some z) : ldaK z (coOf x) C = fb C := by
  unfold ldaK
  rw [opdC_eq]
  unfold lda0
  rcases onPtrN_eq ((coOf x).of C.t) C (lda1 C z) with e | ⟨s, k, n, hv, e⟩
  · exact e
  · rw [e]
    unfold lda1
    rw [blockOfC_eq]
    cases hf : C.m.find s k with
    | none => rfl
    | some en =>
      dsimp only
      rcases atE_eq (fb C) (lda2 C z n) en.ro en.base en.c with e2 | ⟨hb, e2⟩
      · exact e2
      · rw [e2]
        unfold lda2
        rcases takeK_at en.c n z (finA C) (fb C) with e3 | ⟨r, hg, e3⟩
        · exact e3
        · rw [e3]
          show fin C (.agg r) = _
          rw [← finM_self]
          have ha : appArgs T ⟨C.n, C.t⟩ C.o = none := by unfold appArgs; rw [ho]
          refine h.val ha ?_
          have hx : opd ⟨C.n, C.t⟩ x = some (.ptr s k (.lit n)) := by rw [coOf_ok (by rw [hv]; exact fun e => (by cases e)), hv]
          unfold opS
          rw [ho]
          dsimp only
          rw [hx]
          dsimp only
          unfold valX
          refine bind_one (a := SV.agg r) (m' := C.m) ?_
          unfold loadS
          dsimp only
          rw [bind_one (a := en) (m' := C.m) (by unfold findX; rw [hf]; rfl)]
          unfold withKnow
          dsimp only
          rw [place_lit _ hb, bind_one (a := IE.lit n) (m' := C.m) rfl, ht]
          dsimp only
          rw [hz]
          dsimp only
          rw [bind_one (rowAt_lit hg C.m)]
          rfl
end
end Go.Sx
