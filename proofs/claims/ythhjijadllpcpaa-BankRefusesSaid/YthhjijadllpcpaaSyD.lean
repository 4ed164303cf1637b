/- The executor made fast, 4: what is written. -/
import Derived.Test.YthhjijadllpcpaaSyC
namespace Go.Sx
open Go

theorem widK_lo (a : SV) (K : Nat → R) (N : R) : widK a K N = N ∨ ∃ x : Nat, (∀ kn, oneLo kn a = x) ∧ wd a = some x ∧ widK a K N = K x := by
  cases a <;> first | exact .inl rfl | exact .inr ⟨1, fun _ => rfl, rfl, rfl⟩ | skip
  rename_i k r len ws
  cases len <;> try exact .inl rfl
  rename_i z
  cases z with
  | negSucc z => exact .inl rfl
  | ofNat l => exact .inr ⟨l, fun kn => by
      show (if 0 ≤ (rng kn.facts (.lit (l : Int))).1 then (rng kn.facts (.lit (l : Int))).1 else 0) = _
      rw [if_pos (by show (0 : Int) ≤ (l : Int); omega)]; rfl, rfl, rfl⟩
theorem oneLo_nonneg (kn : Know) (a : SV) : 0 ≤ oneLo kn a := by
  unfold oneLo
  split
  · split <;> omega
  · split <;> omega
theorem wdLo_nonneg (kn : Know) : ∀ c : SV, 0 ≤ wdLo kn c
  | .cons a r => by
    have h1 := oneLo_nonneg kn a
    have h2 := wdLo_nonneg kn r
    show 0 ≤ oneLo kn a + wdLo kn r
    omega
  | .undef | .opq _ | .int _ _ | .bool _ | .nilp | .ptr _ _ _ | .nils | .sli _ _ _ _ _ | .fn _ _ | .nilf | .ifc _ _ | .nili | .agg _ | .tup _ | .arr _ _ _ _ | .wr _ _ _ | .rep _ _ => Int.le_refl _
  | .nil => Int.le_refl _
theorem takeK_lo : ∀ (c : SV) (o n : Nat) (K : SV → R) (N : R), takeK c o n K N = N ∨ ∃ r, takeC c o n = some r ∧ takeK c o n K N = K r ∧ ∀ kn, ((o + n : Nat) : Int) ≤ wdLo kn c
  | .nil, o, n, K, N => by
    show yes (both0 o n) (K .nil) N = N ∨ ∃ r, (if o = 0 ∧ n = 0 then some SV.nil else none) = some r ∧ yes (both0 o n) (K .nil) N = K r ∧ _
    rw [yes_both0]
    by_cases h : o = 0 ∧ n = 0
    · refine .inr ⟨.nil, by rw [if_pos h], by rw [if_pos h], fun kn => ?_⟩
      rw [h.1, h.2]; exact wdLo_nonneg kn _
    · simp [h]
  | .cons a rest, o, n, K, N => by
    show yes (both0 o n) (K .nil) (widK a (take2 a (takeK rest) o n K N) N) = N ∨ ∃ r, takeC (.cons a rest) o n = some r ∧ yes (both0 o n) (K .nil) (widK a (take2 a (takeK rest) o n K N) N) = K r ∧ ∀ kn, ((o + n : Nat) : Int) ≤ wdLo kn (.cons a rest)
    rw [yes_both0]
    unfold takeC
    by_cases h : o = 0 ∧ n = 0
    · rw [if_pos h, if_pos h]
      refine .inr ⟨.nil, rfl, rfl, fun kn => ?_⟩
      rw [h.1, h.2]; exact wdLo_nonneg kn _
    · rw [if_neg h, if_neg h]
      rcases widK_lo a (take2 a (takeK rest) o n K N) N with e | ⟨x, hlo, hx, e⟩
      · exact .inl e
      · rw [e, hx]
        unfold take2
        rw [yes_ble]
        dsimp only
        by_cases h1 : x ≤ o
        · rw [if_pos h1, if_pos h1]
          rcases takeK_lo rest (o - x) n K N with e2 | ⟨r, hr, e2, hl⟩
          · exact .inl e2
          · refine .inr ⟨r, hr, e2, fun kn => ?_⟩
            have := hl kn
            show _ ≤ oneLo kn a + wdLo kn rest
            rw [hlo kn]; omega
        · rw [if_neg h1, if_neg h1, yes_beq]
          by_cases h2 : o = 0
          · rw [if_pos h2, yes_ble]
            by_cases h3 : x ≤ n
            · rw [if_pos h3, if_pos ⟨h2, h3⟩]
              rcases takeK_lo rest 0 (Nat.sub n x) (consK a K) N with e2 | ⟨r, hr, e2, hl⟩
              · exact .inl e2
              · refine .inr ⟨.cons a r, ?_, e2, fun kn => ?_⟩
                · show (match takeC rest 0 (Nat.sub n x) with | some r => some (SV.cons a r) | none => none) = _
                  rw [hr]
                · have := hl kn
                  show _ ≤ oneLo kn a + wdLo kn rest
                  rw [hlo kn]
                  have e3 : Nat.sub n x = n - x := rfl
                  rw [e3] at this
                  omega
            · rw [if_neg h3]; exact .inl rfl
          · rw [if_neg h2]; exact .inl rfl
  | .undef, _, _, _, _ | .opq _, _, _, _, _ | .int _ _, _, _, _, _ | .bool _, _, _, _, _ | .nilp, _, _, _, _ | .ptr _ _ _, _, _, _, _ | .nils, _, _, _, _ | .sli _ _ _ _ _, _, _, _, _ | .fn _ _, _, _, _, _ | .nilf, _, _, _, _ | .ifc _ _, _, _, _, _ | .nili, _, _, _, _ | .agg _, _, _, _, _ | .tup _, _, _, _, _ | .arr _ _ _ _, _, _, _, _ | .wr _ _ _, _, _, _, _ | .rep _ _, _, _, _, _ => .inl rfl
/- one cell put -/
abbrev DropT := SV → Nat → (SV → R) → R
noncomputable def keepW (i y : IE) (K : SV → R) (r : SV) : R := K (.wr i y r)
noncomputable def dropN (i y : IE) (r : SV) (ih : DropT) (n : Nat) (K : SV → R) (p : Nat) : R := yes (Nat.beq p n) (ih r n K) (ih r n (keepW i y K))
noncomputable def dropI (i y : IE) (r : SV) (ih : DropT) (n : Nat) (K : SV → R) : R := ieNat i (dropN i y r ih n K) (ih r n (keepW i y K))
noncomputable def dropK (ws : SV) : DropT := SV.rec (motive := fun _ => DropT) (fun v _ K => K v) (fun _ v _ K => K v) (fun _ _ v _ K => K v) (fun _ v _ K => K v) (fun v _ K => K v) (fun _ _ _ v _ K => K v) (fun v _ K => K v) (fun _ _ _ _ _ v _ K => K v) (fun _ _ _ v _ K => K v) (fun v _ K => K v) (fun _ _ _ v _ K => K v) (fun v _ K => K v) (fun _ _ v _ K => K v) (fun _ _ v _ K => K v) (fun v _ K => K v) (fun _ _ _ _ v _ K => K v) (fun _ _ _ _ _ v _ K => K v) (fun i y r ih _ n K => dropI i y r ih n K) (fun _ _ _ v _ K => K v) ws
theorem dropW_wr (idx i y : IE) (r : SV) : dropW idx (.wr i y r) = if i = idx then dropW idx r else .wr i y (dropW idx r) := rfl
theorem dropK_eq : ∀ (ws : SV) (n : Nat) (K : SV → R), dropK ws ws n K = K (dropW (.lit n) ws)
  | .wr i y r, n, K => by
    show ieNat i (dropN i y r (dropK r) n K) (dropK r r n (keepW i y K)) = _
    have key : dropK r r n (keepW i y K) = K (.wr i y (dropW (.lit n) r)) := dropK_eq r n (keepW i y K)
    rcases ieNat_eq i (dropN i y r (dropK r) n K) (dropK r r n (keepW i y K)) with e | ⟨p, hp, e⟩
    · rw [e, key, dropW_wr]
      by_cases h : i = .lit n
      · subst h
        have e' : ieNat (.lit (n : Int)) (dropN (.lit n) y r (dropK r) n K) (dropK r r n (keepW (.lit n) y K)) = dropN (.lit n) y r (dropK r) n K n := rfl
        have e2 : dropN (.lit n) y r (dropK r) n K n = dropK r r n K := by unfold dropN; rw [yes_beq, if_pos rfl]
        rw [if_pos rfl, ← dropK_eq r n K, ← e2, ← e', e, key]
      · rw [if_neg h]
    · rw [e]
      unfold dropN
      rw [yes_beq]
      subst hp
      rw [dropW_wr]
      by_cases h : p = n
      · rw [if_pos h, if_pos (by rw [h]), dropK_eq r n K]
      · rw [if_neg h, if_neg (by intro h2; injection h2 with h2; omega), key]
  | .undef, _, _ | .opq _, _, _ | .int _ _, _, _ | .bool _, _, _ | .nilp, _, _ | .ptr _ _ _, _, _ | .nils, _, _ | .sli _ _ _ _ _, _, _ | .fn _ _, _, _ | .nilf, _, _ | .ifc _ _, _, _ | .nili, _, _ | .agg _, _, _ | .tup _, _, _ | .arr _ _ _ _, _, _ | .rep _ _, _, _ => rfl
  | .nil, _, _ => rfl
  | .cons _ _, _, _ => rfl
noncomputable def onNil (v : SV) (a b : R) : R := SV.rec (motive := fun _ => R → R → R) (fun _ b => b) (fun _ _ b => b) (fun _ _ _ b => b) (fun _ _ b => b) (fun _ b => b) (fun _ _ _ _ b => b) (fun _ b => b) (fun _ _ _ _ _ _ b => b) (fun _ _ _ _ b => b) (fun _ b => b) (fun _ _ _ _ b => b) (fun _ b => b) (fun _ _ _ b => b) (fun _ _ _ b => b) (fun a _ => a) (fun _ _ _ _ _ b => b) (fun _ _ _ _ _ _ b => b) (fun _ _ _ _ _ b => b) (fun _ _ _ _ b => b) v a b
theorem onNil_eq (v : SV) (a b : R) : onNil v a b = if v = .nil then a else b := by cases v <;> rfl
noncomputable def sel2 (r n r' : Nat) (A B : R) (p : Nat) : R := yes (Nat.beq p n) (yes (Nat.beq r' r) (yes (Nat.beq r 0) B A) B) B
noncomputable def sel1 (r n : Nat) (A B : R) (r' : Nat) (i : IE) : R := ieNat i (sel2 r n r' A B) B
noncomputable def isSelK (e : IE) (r n : Nat) (A B : R) : R := ieSel e (sel1 r n A B) B
theorem isSelK_eq (e : IE) (r n : Nat) (A B : R) : isSelK e r n A B = if e = .sel r (.lit n) ∧ r ≠ 0 then A else B := by
  unfold isSelK
  cases e <;> try (rw [if_neg (by intro h; cases h.1)]; rfl)
  rename_i r' i
  show ieNat i (sel2 r n r' A B) B = _
  by_cases hi : ∃ p : Nat, i = .lit p
  · obtain ⟨p, rfl⟩ := hi
    show sel2 r n r' A B p = _
    unfold sel2
    rw [yes_beq, yes_beq, yes_beq]
    by_cases h1 : p = n
    · by_cases h2 : r' = r
      · by_cases h3 : r = 0
        · rw [if_pos h1, if_pos h2, if_pos h3, if_neg (fun h => h.2 h3)]
        · rw [if_pos h1, if_pos h2, if_neg h3, if_pos ⟨by rw [h1, h2], h3⟩]
      · rw [if_pos h1, if_neg h2, if_neg (by intro h; injection h.1 with h4; exact h2 h4)]
    · rw [if_neg h1, if_neg (by intro h; injection h.1 with _ h4; injection h4 with h4; omega)]
  · rw [if_neg (by intro h; injection h.1 with _ h4; exact hi ⟨n, h4⟩)]
    rcases ieNat_eq i (sel2 r n r' A B) B with e | ⟨p, hp, _⟩
    · exact e
    · exact absurd ⟨p, hp⟩ hi
noncomputable def addW1 (r n : Nat) (x : IE) (K : SV → R) (ws : SV) : R := onNil ws (isSelK x r n (K .nil) (K (.wr (.lit (.ofNat n)) x ws))) (K (.wr (.lit (.ofNat n)) x ws))
noncomputable def addWN (r : Nat) (x : IE) (ws : SV) (K : SV → R) (n : Nat) : R := dropK ws ws n (addW1 r n x K)
noncomputable def addWK (r n : Nat) (x : IE) (ws : SV) (K : SV → R) : R := forceN n (addWN r x ws K)
theorem addWK_eq (r n : Nat) (x : IE) (ws : SV) (K : SV → R) : addWK r n x ws K = K (addW r (.lit n) x ws) := by
  unfold addWK
  rw [forceN_eq]
  unfold addWN
  rw [dropK_eq]
  unfold addW1 addW
  rw [onNil_eq]
  by_cases h : dropW (.lit n) ws = .nil
  · rw [if_pos h, isSelK_eq]
    by_cases h2 : x = .sel r (.lit n) ∧ r ≠ 0
    · rw [if_pos h2, if_pos ⟨h, h2⟩]
    · rw [if_neg h2, if_neg (fun e => h2 e.2)]; rfl
  · rw [if_neg h, if_neg (fun e => h e.1)]; rfl
abbrev SetT := Nat → SV → (SV → R) → R → R
noncomputable def arrPut (k : IntKind) (r : Nat) (len : IE) (rest : SV) (K : SV → R) (ws : SV) : R := K (.cons (.arr k r len ws) rest)
noncomputable def arrSet (k : IntKind) (r : Nat) (len : IE) (ws rest : SV) (n : Nat) (K : SV → R) (N : R) (k' : IntKind) (e : IE) : R := yes (Nat.beq (kindNo k') (kindNo k)) (addWK r n e ws (arrPut k r len rest K)) N
noncomputable def arrS1 (k : IntKind) (r : Nat) (len : IE) (ws rest : SV) (ih : SetT) (n : Nat) (x : SV) (K : SV → R) (N : R) (l : Nat) : R :=
  yes (Nat.ble (Nat.succ n) l) (onInt x (arrSet k r len ws rest n K N) N) (ih (Nat.sub n l) x (consK (.arr k r len ws) K) N)
noncomputable def arrS (k : IntKind) (r : Nat) (len : IE) (ws rest : SV) (ih : SetT) (n : Nat) (x : SV) (K : SV → R) (N : R) : R := ieNat len (arrS1 k r len ws rest ih n x K N) N
noncomputable def cellS (a rest : SV) (ih : SetT) (n : Nat) (x : SV) (K : SV → R) (N : R) : R := yes (Nat.beq n 0) (K (.cons x rest)) (ih (Nat.pred n) x (consK a K) N)
noncomputable def setCell (a rest : SV) (ih : SetT) (n : Nat) (x : SV) (K : SV → R) (N : R) : R :=
  SV.rec (motive := fun _ => SV → SV → SetT → Nat → SV → (SV → R) → R → R) (fun _ _ _ _ _ _ N => N) (fun _ _ _ _ _ _ _ N => N) (fun _ _ v rest ih n x K N => cellS v rest ih n x K N) (fun _ v rest ih n x K N => cellS v rest ih n x K N) (fun v rest ih n x K N => cellS v rest ih n x K N) (fun _ _ _ v rest ih n x K N => cellS v rest ih n x K N) (fun v rest ih n x K N => cellS v rest ih n x K N) (fun _ _ _ _ _ v rest ih n x K N => cellS v rest ih n x K N) (fun _ _ _ v rest ih n x K N => cellS v rest ih n x K N) (fun v rest ih n x K N => cellS v rest ih n x K N) (fun _ _ _ v rest ih n x K N => cellS v rest ih n x K N) (fun v rest ih n x K N => cellS v rest ih n x K N) (fun _ _ _ _ _ _ _ _ N => N) (fun _ _ _ _ _ _ _ _ N => N) (fun _ _ _ _ _ _ N => N) (fun _ _ _ _ _ _ _ _ _ _ N => N) (fun k r len ws _ _ rest ih n x K N => arrS k r len ws rest ih n x K N) (fun _ _ _ _ _ _ _ _ _ _ N => N) (fun _ _ _ _ _ _ _ _ _ N => N) a a rest ih n x K N
noncomputable def setNK (c : SV) : SetT :=
  SV.rec (motive := fun _ => SetT)
    (fun _ _ _ N => N) (fun _ _ _ _ N => N) (fun _ _ _ _ _ N => N) (fun _ _ _ _ N => N) (fun _ _ _ N => N) (fun _ _ _ _ _ _ N => N) (fun _ _ _ N => N) (fun _ _ _ _ _ _ _ _ N => N)
    (fun _ _ _ _ _ _ N => N) (fun _ _ _ N => N) (fun _ _ _ _ _ _ N => N) (fun _ _ _ N => N) (fun _ _ _ _ _ N => N) (fun _ _ _ _ _ N => N)
    (fun _ _ _ N => N) (fun a rest _ ih n x K N => setCell a rest ih n x K N) (fun _ _ _ _ _ _ _ _ N => N)
    (fun _ _ _ _ _ _ _ N => N) (fun _ _ _ _ _ _ N => N) c
theorem setC_lit (a rest x : SV) (ha : a.isC = true) (hx : x.isC = true) (n : Nat) (m : Mem) : setC (.cons a rest) (.lit n) x m = if n = 0 then some [(.cons x rest, m)] else X.bind (setC rest (.lit ((n - 1 : Nat) : Int)) x) (fun r => X.pure (.cons a r)) m := by
  have e : setC (.cons a rest) (.lit (n : Int)) x = (if a.isC && x.isC then
        if IE.lit (n : Int) = .lit 0 then X.pure (.cons x rest) else withKnow fun kn =>
          if 1 ≤ (rng kn.facts (.lit (n : Int))).1 then X.bind (setC rest (mkSub (.lit (n : Int)) (.lit 1)) x) fun rest' => X.pure (.cons a rest') else
          if 0 ≤ (rng kn.facts (.lit (n : Int))).1 then X.bind (branch (mkEq kn (.lit (n : Int)) (.lit 0))) fun b => if b then X.pure (.cons x rest) else X.bind (setC rest (mkSub (.lit (n : Int)) (.lit 1)) x) fun rest' => X.pure (.cons a rest') else X.none
      else X.none) := by cases a <;> first | rfl | cases ha
  rw [e, if_pos (by rw [ha, hx]; rfl)]
  cases n with
  | zero => rfl
  | succ n =>
    rw [if_neg (by intro h; injection h with h; omega)]
    unfold withKnow
    dsimp only
    rw [if_pos (by show (1 : Int) ≤ ((n + 1 : Nat) : Int); omega), lit_succ, if_neg (by omega)]
    rfl
theorem setC_arr (k : IntKind) (r l : Nat) (ws rest x : SV) (n : Nat) (m : Mem) : setC (.cons (.arr k r (.lit l) ws) rest) (.lit n) x m = if n < l then (match x with | .int k' e => if k' = k then some [(.cons (.arr k r (.lit l) (addW r (.lit n) e ws)) rest, m)] else none | _ => none) else X.bind (setC rest (.lit ((n - l : Nat) : Int)) x) (fun r' => X.pure (.cons (.arr k r (.lit l) ws) r')) m := by
  show (withKnow fun kn =>
      if 0 ≤ (rng kn.facts (.lit (n : Int))).1 then
        X.bind (branch (mkLt kn (.lit (n : Int)) (.lit l))) fun b => if b then (match x with
          | .int k' e => if k' = k then X.pure (SV.cons (.arr k r (.lit l) (addW r (.lit n) e ws)) rest) else X.none
          | _ => X.none) else
          withKnow fun kn => if 0 ≤ (rng kn.facts (.lit l)).1 then X.bind (setC rest (mkSub (.lit (n : Int)) (.lit l)) x) fun rest' => X.pure (SV.cons (.arr k r (.lit l) ws) rest') else X.none
      else X.none) m = _
  unfold withKnow
  dsimp only
  rw [if_pos (by show (0 : Int) ≤ (n : Int); omega), bind_one (m' := m) (a := decide ((n : Int) < l)) rfl]
  by_cases h : n < l
  · rw [if_pos h, if_pos (by simpa using h)]
    cases x <;> try rfl
    rename_i k' e
    dsimp only
    by_cases hk : k' = k
    · rw [if_pos hk, if_pos hk]; rfl
    · rw [if_neg hk, if_neg hk]; rfl
  · rw [if_neg h, if_neg (by simpa using h), if_pos (by show (0 : Int) ≤ (l : Int); omega)]
    rw [show mkSub (.lit (n : Int)) (.lit (l : Int)) = .lit ((n - l : Nat) : Int) by
      show IE.lit ((n : Int) + -(l : Int)) = _
      congr 1 <;> omega]
theorem setNK_at : ∀ (c : SV) (n : Nat) (x : SV) (K : SV → R) (N : R), x.isC = true → setNK c n x K N = N ∨ ∃ c', (∀ m, setC c (.lit n) x m = some [(c', m)]) ∧ (∀ kn, (n : Int) ≤ wdLo kn c) ∧ setNK c n x K N = K c'
  | .cons a rest, n, x, K, N, hx => by
    show setCell a rest (setNK rest) n x K N = N ∨ ∃ c', _ ∧ _ ∧ setCell a rest (setNK rest) n x K N = K c'
    by_cases ha : a.isC = true
    · have e : setCell a rest (setNK rest) n x K N = yes (Nat.beq n 0) (K (.cons x rest)) (setNK rest (Nat.pred n) x (consK a K) N) := by cases a <;> first | rfl | cases ha
      have hlo : ∀ kn, oneLo kn a = 1 := fun kn => by cases a <;> first | rfl | cases ha
      rw [e, yes_beq]
      by_cases h : n = 0
      · rw [if_pos h]
        refine .inr ⟨.cons x rest, fun m => by rw [setC_lit a rest x ha hx, if_pos h], fun kn => ?_, rfl⟩
        rw [h]; exact wdLo_nonneg kn _
      · rw [if_neg h]
        rcases setNK_at rest (Nat.pred n) x (consK a K) N hx with h1 | ⟨v, h1, h3, h2⟩
        · exact .inl h1
        · refine .inr ⟨.cons a v, fun m => by rw [setC_lit a rest x ha hx, if_neg h]; exact bind_one (f := fun r => X.pure (SV.cons a r)) (h1 m), fun kn => ?_, h2⟩
          have := h3 kn
          show _ ≤ oneLo kn a + wdLo kn rest
          rw [hlo kn]
          have e3 : Nat.pred n = n - 1 := rfl
          rw [e3] at this
          omega
    · cases a with
      | arr k r len ws =>
        show ieNat len (arrS1 k r len ws rest (setNK rest) n x K N) N = N ∨ ∃ c', _ ∧ _ ∧ ieNat len (arrS1 k r len ws rest (setNK rest) n x K N) N = K c'
        rcases ieNat_eq len (arrS1 k r len ws rest (setNK rest) n x K N) N with e | ⟨l, hl, e⟩
        · exact .inl e
        · subst hl
          have hlo : ∀ kn, oneLo kn (.arr k r (.lit l) ws) = l := fun kn => by
            show (if 0 ≤ (rng kn.facts (.lit (l : Int))).1 then (rng kn.facts (.lit (l : Int))).1 else 0) = _
            rw [if_pos (by show (0 : Int) ≤ (l : Int); omega)]; rfl
          rw [e]
          unfold arrS1
          rw [yes_ble]
          by_cases h : Nat.succ n ≤ l
          · rw [if_pos h]
            cases x with
            | int k' y =>
              show yes (Nat.beq (kindNo k') (kindNo k)) (addWK r n y ws (arrPut k r (.lit l) rest K)) N = N ∨ ∃ c', _ ∧ _ ∧ yes (Nat.beq (kindNo k') (kindNo k)) (addWK r n y ws (arrPut k r (.lit l) rest K)) N = K c'
              rw [yes_eq]
              split
              · rename_i hk
                have hk := kindNo_eq hk
                subst hk
                rw [addWK_eq]
                refine .inr ⟨_, fun m => by rw [setC_arr, if_pos (show n < l from h)]; dsimp only; rw [if_pos rfl], fun kn => ?_, rfl⟩
                have := wdLo_nonneg kn rest
                show _ ≤ oneLo kn _ + wdLo kn rest
                rw [hlo kn]
                have : n < l := h
                omega
              · exact .inl rfl
            | _ => exact .inl rfl
          · rw [if_neg h]
            rcases setNK_at rest (Nat.sub n l) x (consK (.arr k r (.lit l) ws) K) N hx with h1 | ⟨v, h1, h3, h2⟩
            · exact .inl h1
            · refine .inr ⟨.cons (.arr k r (.lit l) ws) v, fun m => by rw [setC_arr, if_neg (show ¬ n < l from h)]; exact bind_one (f := fun r' => X.pure (SV.cons (.arr k r (.lit l) ws) r')) (h1 m), fun kn => ?_, h2⟩
              have := h3 kn
              show _ ≤ oneLo kn _ + wdLo kn rest
              rw [hlo kn]
              have e3 : Nat.sub n l = n - l := rfl
              rw [e3] at this
              have : ¬ n < l := h
              omega
      | _ => first | exact .inl rfl | exact absurd rfl ha
  | .undef, _, _, _, _, _ | .opq _, _, _, _, _, _ | .int _ _, _, _, _, _, _ | .bool _, _, _, _, _, _ | .nilp, _, _, _, _, _ | .ptr _ _ _, _, _, _, _, _ | .nils, _, _, _, _, _ | .sli _ _ _ _ _, _, _, _, _, _ | .fn _ _, _, _, _, _, _ | .nilf, _, _, _, _, _ | .ifc _ _, _, _, _, _, _ | .nili, _, _, _, _, _ | .agg _, _, _, _, _, _ | .tup _, _, _, _, _, _ | .arr _ _ _ _, _, _, _, _, _ | .wr _ _ _, _, _, _, _, _ | .rep _ _, _, _, _, _, _ => .inl rfl
  | .nil, _, _, _, _, _ => .inl rfl
/- a block's cells put -/
noncomputable def consE (x : Ent) (K : List Ent → R) (r : List Ent) : R := K (x :: r)
noncomputable def updF (l : List Ent) : Nat → Nat → SV → (List Ent → R) → R :=
  List.rec (motive := fun _ => Nat → Nat → SV → (List Ent → R) → R) (fun _ _ _ K => K [])
    (fun x r ih s k c K => Ent.rec (motive := fun _ => Ent → List Ent → (Nat → Nat → SV → (List Ent → R) → R) → Nat → Nat → SV → (List Ent → R) → R)
      (fun s' k' ro t b _ x r ih s k c K => yes (hitE k' k s' s) (K (⟨s', k', ro, t, b, c⟩ :: r)) (ih s k c (consE x K))) x x r ih s k c K) l
theorem updF_eq (s k : Nat) (c : SV) : ∀ (l : List Ent) (K : List Ent → R), updF l s k c K = K (upd1 s k c l)
  | [], _ => rfl
  | x :: l, K => by
    obtain ⟨s', k', ro, t, b, c'⟩ := x
    show yes (hitE k' k s' s) (K (⟨s', k', ro, t, b, c⟩ :: l)) (updF l s k c (consE ⟨s', k', ro, t, b, c'⟩ K)) = _
    rw [hitE_eq, yes_eq, updF_eq s k c l]
    show _ = K (if s' = s ∧ k' = k then (⟨s', k', ro, t, b, c⟩ : Ent) :: l else ⟨s', k', ro, t, b, c'⟩ :: upd1 s k c l)
    by_cases h : s' = s ∧ k' = k
    · rw [if_pos h, if_pos (by rw [h.1, h.2, Nat.beq_refl, Nat.beq_refl]; rfl)]
    · rw [if_neg h, if_neg (by
        intro e
        simp only [Bool.and_eq_true] at e
        exact h ⟨Nat.eq_of_beq_eq_true e.2, Nat.eq_of_beq_eq_true e.1⟩)]
      rfl
noncomputable def put1 (C : Ctx) (v : SV) (kn : Know) (sg nx nv : Nat) (h : List Ent) : R := finM C v ⟨kn, h, sg, nx, nv⟩
/-- a block's cells put anew, and on -/
noncomputable def putC (C : Ctx) (s k : Nat) (c : SV) : R :=
  Ctx.rec (motive := fun _ => Ctx → Nat → Nat → SV → R) (fun _ _ _ _ _ m _ C s k c => Mem.rec (motive := fun _ => Ctx → Nat → Nat → SV → R) (fun kn h sg nx nv C s k c => updF h s k c (put1 C .undef kn sg nx nv)) m C s k c) C C s k c
theorem putC_eq (C : Ctx) (s k : Nat) (c : SV) : putC C s k c = finM C .undef { C.m with heap := upd1 s k c C.m.heap } := by
  show updF C.m.heap s k c (put1 C .undef C.m.know C.m.seg C.m.next C.m.nv) = _
  rw [updF_eq]
  rfl
theorem putX_run (s k : Nat) (c : SV) (m : Mem) : putX s k c m = some [((), { m with heap := upd1 s k c m.heap })] := by
  obtain ⟨kn, h, sg, nx, nv⟩ := m
  show nfS c (fun c => upd1K s k c h fun h' => some [((), (⟨kn, h', sg, nx, nv⟩ : Mem))]) = _
  rw [nfS_eq, upd1K_eq]
noncomputable def st6 (C : Ctx) (s k n : Nat) (x c : SV) : R := setNK c n x (putC C s k) (fb C)
noncomputable def st5 (C : Ctx) (s k n : Nat) (x : SV) (ro : Bool) (b : IE) (c : SV) : R := yes ro (fb C) (atE (fb C) (st6 C s k n x) ro b c)
noncomputable def st4 (C : Ctx) (s k n : Nat) (x : SV) : R := cOr x (blockOfC C s k (st5 C s k n x)) (fb C)
noncomputable def st3 (v : CO) (C : Ctx) (s k n : Nat) : R := opdC v C (st4 C s k n)
noncomputable def st2 (v : CO) (C : Ctx) (p : SV) : R := onPtrN p C (st3 v C)
noncomputable def stK (x v : CO) (C : Ctx) : R := opdC x C (st2 v C)
theorem rowPut_one {c x c' : SV} {n : Nat} {m : Mem} (hx : x.isC = true) (h : setC c (.lit n) x m = some [(c', m)]) : rowPut c (.cons x .nil) 1 (.lit n) m = some [(c', m)] := by
  unfold rowPut
  rw [if_pos (by show x.isC = true; exact hx)]
  unfold setN
  rw [if_pos hx, bind_one h]
  rfl
section
variable {P : Program} {T : Tab P} {cx : CX} {C : Ctx}
/-- what a store comes to -/
theorem storeS_run {t z s k n : Nat} {v vc c' : SV} {en : Ent} {m : Mem} (hf : m.find s k = some en) (hr : en.ro = false) (hb : en.base = .lit 0) (hz : sizeIn T t = some z) (hv : cellsS v = some vc) (hw : wd vc = some z)
    (hlo : ∀ kn, (n : Int) ≤ wdLo kn en.c) (hp : rowPut en.c vc z (.lit n) m = some [(c', m)]) : storeS T t (.ptr s k (.lit n)) v m = some [((), { m with heap := upd1 s k c' m.heap })] := by
  unfold storeS
  dsimp only
  rw [bind_one (a := en) (m' := m) (by unfold findX; rw [hf]; rfl)]
  unfold withKnow
  dsimp only
  rw [place_lit _ hb, bind_one (a := IE.lit n) (m' := m) rfl, hv, hz]
  dsimp only
  rw [if_pos ⟨hr, hw, by
    unfold fitsIn
    simp only [Bool.and_eq_true, decide_eq_true_eq]
    exact ⟨by show (0 : Int) ≤ (n : Int); omega, hlo _⟩⟩, bind_one hp]
  obtain ⟨_, h1, h2⟩ := Mem.find_ok hf
  rw [h1, h2]
  exact putX_run s k c' m
theorem st_fin (h : Fits T cx C) {t s k n : Nat} {x y : Operand} {v c' : SV} (ho : C.o.op = .store t x y) (hx : opd ⟨C.n, C.t⟩ x = some (.ptr s k (.lit n))) (hy : opd ⟨C.n, C.t⟩ y = some v)
    (hs : storeS T t (.ptr s k (.lit n)) v C.m = some [((), { C.m with heap := upd1 s k c' C.m.heap })]) : putC C s k c' = fb C := by
  rw [putC_eq]
  have ha : appArgs T ⟨C.n, C.t⟩ C.o = none := by unfold appArgs; rw [ho]
  refine h.skip ha ?_
  unfold opS
  rw [ho]
  dsimp only
  rw [hx, hy]
  dsimp only
  rw [bind_one hs]
  rfl
theorem st_ok (h : Fits T cx C) {t : Nat} {x y : Operand} (ho : C.o.op = .store t x y) (hz : sizeIn T t = some 1) : stK (coOf x) (coOf y) C = fb C := by
  unfold stK
  rw [opdC_eq]
  unfold st2
  rcases onPtrN_eq ((coOf x).of C.t) C (st3 (coOf y) C) with e | ⟨s, k, n, hv, e⟩
  · exact e
  · rw [e]
    unfold st3
    rw [opdC_eq]
    unfold st4
    rw [cOr_eq]
    split
    · rename_i hc
      rw [blockOfC_eq]
      cases hf : C.m.find s k with
      | none => rfl
      | some en =>
        dsimp only
        unfold st5
        rw [yes_eq]
        split
        · rfl
        · rename_i hr
          have hr : en.ro = false := by simpa using hr
          rcases atE_eq (fb C) (st6 C s k n ((coOf y).of C.t)) en.ro en.base en.c with e2 | ⟨hb, e2⟩
          · exact e2
          · rw [e2]
            unfold st6
            rcases setNK_at en.c n ((coOf y).of C.t) (putC C s k) (fb C) hc with e3 | ⟨c', hg, hlo, e3⟩
            · exact e3
            · rw [e3]
              have hx : opd ⟨C.n, C.t⟩ x = some (.ptr s k (.lit n)) := by rw [coOf_ok (by rw [hv]; exact fun e => (by cases e)), hv]
              have hy : opd ⟨C.n, C.t⟩ y = some ((coOf y).of C.t) := coOf_ok (by intro e; rw [e] at hc; cases hc)
              refine st_fin h ho hx hy (storeS_run hf hr hb hz (vc := .cons ((coOf y).of C.t) .nil) ?_ ?_ hlo (rowPut_one hc (hg C.m)))
              · revert hc; cases (coOf y).of C.t <;> intro hc <;> first | rfl | cases hc
              · revert hc; cases (coOf y).of C.t <;> intro hc <;> first | rfl | cases hc
    · rfl
end
/- a row put -/
abbrev FlatT := Nat → (SV → R) → R → R
noncomputable def flat1 (a : SV) (ih : FlatT) (n : Nat) (K : SV → R) (N : R) (x : Nat) : R := yes (Nat.ble x n) (ih (Nat.sub n x) (consK a K) N) N
noncomputable def flatK (c : SV) : FlatT := SV.rec (motive := fun _ => FlatT) (fun _ _ N => N) (fun _ _ _ N => N) (fun _ _ _ _ N => N) (fun _ _ _ N => N) (fun _ _ N => N) (fun _ _ _ _ _ N => N) (fun _ _ N => N) (fun _ _ _ _ _ _ _ N => N) (fun _ _ _ _ _ N => N) (fun _ _ N => N) (fun _ _ _ _ _ N => N) (fun _ _ N => N) (fun _ _ _ _ N => N) (fun _ _ _ _ N => N) (fun n K N => yes (Nat.beq n 0) (K .nil) N) (fun a _ _ ih n K N => widK a (flat1 a ih n K N) N) (fun _ _ _ _ _ _ _ N => N) (fun _ _ _ _ _ _ N => N) (fun _ _ _ _ _ N => N) c
theorem widK_flat (a : SV) (K : Nat → R) (N : R) : widK a K N = N ∨ ∃ x, (a.isC || (match a with | .arr _ _ _ _ => true | _ => false)) = true ∧ wd a = some x ∧ widK a K N = K x := by
  rcases widK_at a K N with e | ⟨x, h1, h2⟩
  · exact .inl e
  · cases a <;> first | exact .inl rfl | exact .inr ⟨x, rfl, h1, h2⟩
theorem flatK_at : ∀ (c : SV) (n : Nat) (K : SV → R) (N : R), flatK c n K N = N ∨ (flat c = true ∧ wd c = some n ∧ flatK c n K N = K c)
  | .nil, n, K, N => by
    show yes (Nat.beq n 0) (K .nil) N = N ∨ (_ ∧ _ ∧ yes (Nat.beq n 0) (K .nil) N = K .nil)
    rw [yes_beq]
    by_cases h : n = 0
    · subst h; exact .inr ⟨rfl, rfl, by rw [if_pos rfl]⟩
    · rw [if_neg h]; exact .inl rfl
  | .cons a r, n, K, N => by
    show widK a (flat1 a (flatK r) n K N) N = N ∨ (_ ∧ _ ∧ widK a (flat1 a (flatK r) n K N) N = K (.cons a r))
    rcases widK_flat a (flat1 a (flatK r) n K N) N with e | ⟨x, h1, h2, e⟩
    · exact .inl e
    · rw [e]
      unfold flat1
      rw [yes_ble]
      by_cases h : x ≤ n
      · rw [if_pos h]
        rcases flatK_at r (Nat.sub n x) (consK a K) N with e2 | ⟨h3, h4, e2⟩
        · exact .inl e2
        · refine .inr ⟨?_, ?_, e2⟩
          · unfold flat
            rw [h3, Bool.and_true]
            exact h1
          · show (match wd a, wd r with | some x, some y => some (x + y) | _, _ => none) = _
            rw [h2, h4]
            show some (x + (n - x)) = _
            congr 1 <;> omega
      · rw [if_neg h]; exact .inl rfl
  | .undef, _, _, _ | .opq _, _, _, _ | .int _ _, _, _, _ | .bool _, _, _, _ | .nilp, _, _, _ | .ptr _ _ _, _, _, _ | .nils, _, _, _ | .sli _ _ _ _ _, _, _, _ | .fn _ _, _, _, _ | .nilf, _, _, _ | .ifc _ _, _, _, _ | .nili, _, _, _ | .agg _, _, _, _ | .tup _, _, _, _ | .arr _ _ _ _, _, _, _ | .wr _ _ _, _, _, _ | .rep _ _, _, _, _ => .inl rfl
noncomputable def wdt1 (ih : Nat → (Nat → R) → R → R) (n : Nat) (K : Nat → R) (N : R) (x : Nat) : R := ih (Nat.add n x) K N
noncomputable def wdK (c : SV) : Nat → (Nat → R) → R → R := SV.rec (motive := fun _ => Nat → (Nat → R) → R → R) (fun _ _ N => N) (fun _ _ _ N => N) (fun _ _ _ _ N => N) (fun _ _ _ N => N) (fun _ _ N => N) (fun _ _ _ _ _ N => N) (fun _ _ N => N) (fun _ _ _ _ _ _ _ N => N) (fun _ _ _ _ _ N => N) (fun _ _ N => N) (fun _ _ _ _ _ N => N) (fun _ _ N => N) (fun _ _ _ _ N => N) (fun _ _ _ _ N => N) (fun n K _ => K n) (fun a _ _ ih n K N => widK a (wdt1 ih n K N) N) (fun _ _ _ _ _ _ _ N => N) (fun _ _ _ _ _ _ N => N) (fun _ _ _ _ _ N => N) c
theorem wdK_at : ∀ (c : SV) (n : Nat) (K : Nat → R) (N : R), wdK c n K N = N ∨ ∃ x, wd c = some x ∧ wdK c n K N = K (n + x)
  | .nil, n, K, N => .inr ⟨0, rfl, rfl⟩
  | .cons a r, n, K, N => by
    show widK a (wdt1 (wdK r) n K N) N = N ∨ ∃ x, _ ∧ widK a (wdt1 (wdK r) n K N) N = K (n + x)
    rcases widK_at a (wdt1 (wdK r) n K N) N with e | ⟨x, h1, e⟩
    · exact .inl e
    · rw [e]
      unfold wdt1
      rcases wdK_at r (Nat.add n x) K N with e2 | ⟨y, h2, e2⟩
      · exact .inl e2
      · refine .inr ⟨x + y, ?_, ?_⟩
        · show (match wd a, wd r with | some x, some y => some (x + y) | _, _ => none) = _
          rw [h1, h2]
        · rw [e2]
          show K (n + x + y) = _
          congr 1; omega
  | .undef, _, _, _ | .opq _, _, _, _ | .int _ _, _, _, _ | .bool _, _, _, _ | .nilp, _, _, _ | .ptr _ _ _, _, _, _ | .nils, _, _, _ | .sli _ _ _ _ _, _, _, _ | .fn _ _, _, _, _ | .nilf, _, _, _ | .ifc _ _, _, _, _ | .nili, _, _, _ | .agg _, _, _, _ | .tup _, _, _, _ | .arr _ _ _ _, _, _, _ | .wr _ _ _, _, _, _ | .rep _ _, _, _, _ => .inl rfl
noncomputable def appK (c : SV) : SV → SV → (SV → R) → R := SV.rec (motive := fun _ => SV → SV → (SV → R) → R) (fun v b K => K (.cons v b)) (fun _ v b K => K (.cons v b)) (fun _ _ v b K => K (.cons v b)) (fun _ v b K => K (.cons v b)) (fun v b K => K (.cons v b)) (fun _ _ _ v b K => K (.cons v b)) (fun v b K => K (.cons v b)) (fun _ _ _ _ _ v b K => K (.cons v b)) (fun _ _ _ v b K => K (.cons v b)) (fun v b K => K (.cons v b)) (fun _ _ _ v b K => K (.cons v b)) (fun v b K => K (.cons v b)) (fun _ _ v b K => K (.cons v b)) (fun _ _ v b K => K (.cons v b)) (fun _ b K => K b) (fun a r _ ih _ b K => ih r b (consK a K)) (fun _ _ _ _ _ v b K => K (.cons v b)) (fun _ _ _ _ v b K => K (.cons v b)) (fun _ _ _ v b K => K (.cons v b)) c
theorem appK_eq : ∀ (a b : SV) (K : SV → R), appK a a b K = K (appC a b)
  | .nil, _, _ => rfl
  | .cons a r, b, K => appK_eq r b (consK a K)
  | .undef, _, _ | .opq _, _, _ | .int _ _, _, _ | .bool _, _, _ | .nilp, _, _ | .ptr _ _ _, _, _ | .nils, _, _ | .sli _ _ _ _ _, _, _ | .fn _ _, _, _ | .nilf, _, _ | .ifc _ _, _, _ | .nili, _, _ | .agg _, _, _ | .tup _, _, _ | .arr _ _ _ _, _, _ | .wr _ _ _, _, _ | .rep _ _, _, _ => rfl
noncomputable def sa9 (C : Ctx) (s k : Nat) (x b : SV) : R := appK x x b (putC C s k)
noncomputable def sa8 (C : Ctx) (s k : Nat) (vc x y : SV) : R := appK vc vc y (sa9 C s k x)
noncomputable def sa7 (C : Ctx) (s k n z : Nat) (vc c : SV) (N : Nat) (x : SV) : R := takeK c (Nat.add n z) (Nat.sub N (Nat.add n z)) (sa8 C s k vc x) (fb C)
noncomputable def sa6 (C : Ctx) (s k n z : Nat) (vc c : SV) (N : Nat) : R := takeK c 0 n (sa7 C s k n z vc c N) (fb C)
noncomputable def sa5 (C : Ctx) (s k n z : Nat) (vc c : SV) : R := wdK c 0 (sa6 C s k n z vc c) (fb C)
noncomputable def sa4 (C : Ctx) (s k n z : Nat) (vc : SV) (ro : Bool) (b : IE) (c : SV) : R := yes ro (fb C) (atE (fb C) (sa5 C s k n z vc) ro b c)
noncomputable def sa3 (C : Ctx) (z s k n : Nat) (vc : SV) : R := blockOfC C s k (sa4 C s k n z vc)
noncomputable def sa2 (C : Ctx) (z s k n : Nat) (vc : SV) : R := flatK vc z (sa3 C z s k n) (fb C)
noncomputable def sa1 (C : Ctx) (z s k n : Nat) (v : SV) : R := onAgg v (sa2 C z s k n) (fb C)
noncomputable def sa0 (z : Nat) (v : CO) (C : Ctx) (s k n : Nat) : R := opdC v C (sa1 C z s k n)
noncomputable def saP (z : Nat) (v : CO) (C : Ctx) (p : SV) : R := onPtrN p C (sa0 z v C)
noncomputable def stAK (z : Nat) (x v : CO) (C : Ctx) : R := opdC x C (saP z v C)
theorem rowPut_row {c vc x y : SV} {n z N : Nat} {m : Mem} (hz : z ≠ 1) (hf : flat vc = true) (hw : wd vc = some z) (hN : wd c = some N) (hx : takeC c 0 n = some x) (hy : takeC c (n + z) (N - (n + z)) = some y) :
    rowPut c vc z (.lit n) m = some [(appC x (appC vc y), m)] := by
  have hs : single vc = false := by
    cases h : single vc with
    | false => rfl
    | true =>
      exfalso
      unfold single at h
      split at h
      · rename_i a
        have : wd (SV.cons a .nil) = some 1 := by
          have e : wd a = some 1 := by cases a <;> first | rfl | cases h
          show (match wd a, wd .nil with | some x, some y => some (x + y) | _, _ => none) = _
          rw [e]; rfl
        rw [this] at hw
        cases hw
        exact hz rfl
      · cases h
  unfold rowPut
  rw [if_neg (by rw [hs]; exact fun e => by cases e)]
  dsimp only
  rw [if_pos ⟨by omega, hf⟩, Int.toNat_natCast]
  unfold spliceC
  rw [hN]
  dsimp only
  rw [hx, hy]
  rfl
section
variable {P : Program} {T : Tab P} {cx : CX} {C : Ctx}
theorem sta_ok (h : Fits T cx C) {t z : Nat} {x y : Operand} (ho : C.o.op = .store t x y) (hz : sizeIn T t = some z) (h1 : z ≠ 1) : stAK z (coOf x) (coOf y) C = fb C := by
  unfold stAK
  rw [opdC_eq]
  unfold saP
  rcases onPtrN_eq ((coOf x).of C.t) C (sa0 z (coOf y) C) with e | ⟨s, k, n, hv, e⟩
  · exact e
  · rw [e]
    unfold sa0
    rw [opdC_eq]
    unfold sa1
    cases hw : (coOf y).of C.t <;> try rfl
    rename_i vc
    show sa2 C z s k n vc = _
    unfold sa2
    rcases flatK_at vc z (sa3 C z s k n) (fb C) with e2 | ⟨hfl, hwd, e2⟩
    · exact e2
    · rw [e2]
      unfold sa3
      rw [blockOfC_eq]
      cases hf : C.m.find s k with
      | none => rfl
      | some en =>
        dsimp only
        unfold sa4
        rw [yes_eq]
        split
        · rfl
        · rename_i hr
          have hr : en.ro = false := by simpa using hr
          rcases atE_eq (fb C) (sa5 C s k n z vc) en.ro en.base en.c with e3 | ⟨hb, e3⟩
          · exact e3
          · rw [e3]
            unfold sa5
            rcases wdK_at en.c 0 (sa6 C s k n z vc en.c) (fb C) with e4 | ⟨N, hN, e4⟩
            · exact e4
            · rw [e4]
              unfold sa6
              rcases takeK_lo en.c 0 n (sa7 C s k n z vc en.c (0 + N)) (fb C) with e5 | ⟨p, hp, e5, hlo⟩
              · exact e5
              · rw [e5]
                unfold sa7
                rcases takeK_at en.c (Nat.add n z) (Nat.sub (0 + N) (Nat.add n z)) (sa8 C s k vc p) (fb C) with e6 | ⟨q, hq, e6⟩
                · exact e6
                · rw [e6]
                  unfold sa8
                  rw [appK_eq]
                  unfold sa9
                  rw [appK_eq]
                  have hx : opd ⟨C.n, C.t⟩ x = some (.ptr s k (.lit n)) := by rw [coOf_ok (by rw [hv]; exact fun e => (by cases e)), hv]
                  have hy : opd ⟨C.n, C.t⟩ y = some (.agg vc) := by rw [coOf_ok (by rw [hw]; exact fun e => (by cases e)), hw]
                  refine st_fin h ho hx hy (storeS_run hf hr hb hz (vc := vc) rfl hwd (fun kn => by have := hlo kn; omega) ?_)
                  refine rowPut_row h1 hfl hwd hN hp ?_
                  rw [Nat.zero_add] at hq
                  exact hq
end
end Go.Sx
