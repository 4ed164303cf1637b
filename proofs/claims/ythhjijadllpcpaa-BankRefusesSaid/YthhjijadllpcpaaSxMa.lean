/- The executor: ways that differ by the names of new blocks alone, made one. -/
import Derived.Test.YthhjijadllpcpaaSxM
namespace Go.Sx
open Go

/- finding what a pattern's names stand for; that it fits is looked at behind -/
def Sub.setI (σ : Sub) (k : Nat) (e : IE) : Sub := if (look k σ.i).isSome then σ else { σ with i := (k, e) :: σ.i }
def Sub.setB (σ : Sub) (k : Nat) (e : BE) : Sub := if (look k σ.b).isSome then σ else { σ with b := (k, e) :: σ.b }
def Sub.setL (σ : Sub) (k : Nat) (e : Nat × Nat × SV) : Sub := if (look k σ.l).isSome then σ else { σ with l := (k, e) :: σ.l }
def Sub.setBase (σ : Sub) (k : Nat) (e : Nat × Nat) : Sub := if (look k σ.base).isSome then σ else { σ with base := (k, e) :: σ.base }
def Sub.setV (σ : Sub) (k : Nat) (e : SV) : Sub := if (look k σ.v).isSome then σ else { σ with v := (k, e) :: σ.v }
def matchI (n : Nat) (p e : IE) (σ : Sub) : Sub :=
  match p with
  | .var i => if n ≤ i then σ.setI i e else σ
  | _ => σ
def matchB (n : Nat) (p e : BE) (σ : Sub) : Sub :=
  match p with
  | .var i => if n ≤ i then σ.setB i e else σ
  | _ => σ
def matchS (n : Nat) : SV → SV → Sub → Sub
  | .opq j, v, σ => if n ≤ j then σ.setV j v else σ
  | .int _ p, .int _ e, σ => matchI n p e σ
  | .bool p, .bool e, σ => matchB n p e σ
  | .ptr s k p, .ptr s' k' e, σ => matchI n p e (if n ≤ s then σ.setBase s (s', k' - k) else σ)
  | .sli s k p pl pc, .sli s' k' e el ec, σ => matchI n pc ec (matchI n pl el (matchI n p e (if n ≤ s then σ.setBase s (s', k' - k) else σ)))
  | .fn _ p, .fn _ v, σ => matchS n p v σ
  | .ifc _ p, .ifc _ v, σ => matchS n p v σ
  | .agg p, .agg v, σ => matchS n p v σ
  | .tup p, .tup v, σ => matchS n p v σ
  | .cons p q, .cons v u, σ => matchS n q u (matchS n p v σ)
  | .arr _ r pn .nil, .arr _ r' e ws, σ => matchI n pn e (match e with
    | .lit z => if n ≤ r then σ.setL r (r', z.toNat, ws) else σ
    | _ => σ)
  | .rep c p, .rep c' e, σ => matchI n p e (matchS n c c' σ)
  | _, _, σ => σ
def matchF (n : Nat) : List SV → List SV → Sub → Sub
  | p :: ps, v :: vs, σ => matchF n ps vs (matchS n p v σ)
  | _, _, σ => σ
noncomputable def matchH (n : Nat) (m : Mem) : List Ent → Sub → Sub
  | [], σ => σ
  | p :: r, σ => matchH n m r (match m.find (blockOf σ p.s p.k).1 (blockOf σ p.s p.k).2 with
    | some e => matchS n p.c e.c (matchI n p.base e.base σ)
    | none => σ)
noncomputable def matchAll (n : Nat) (tmH : List SV) (mH : Mem) (tm : List SV) (m : Mem) : Sub :=
  matchH n m mH.heap (matchH n m mH.heap (matchF n tmH tm { i := [], b := [], l := [], base := if n ≤ mH.seg then [(mH.seg, m.seg, m.next - mH.next)] else [], v := [] }))

theorem know_agree {E E' : Env} {n : Nat} {kn : Know} (hk : KnowOk E kn) (hE : E'.Ok) (hA : Agree n E E') (hf : kn.facts.all (fun f => f.1.nm n) = true) (hc : kn.conds.all (BE.nm n) = true) : KnowOk E' kn := by
  rw [List.all_eq_true] at hf hc
  refine ⟨hE, fun f h => ?_, fun c h => ?_⟩
  · have := hk.facts f h
    unfold FactOk at this ⊢
    rw [ev_agree hA (hf f h)]; exact this
  · rw [evB_agree hA c (hc c h)]; exact hk.conds c h

/- a renaming of blocks alone -/
abbrev BM := List (Nat × Nat × Nat)
def subB (σ : BM) : Sub := ⟨[], [], [], σ, []⟩
theorem instI_id (σ : BM) : ∀ e : IE, instI (subB σ) e = some e
  | .lit _ => rfl
  | .var _ => rfl
  | .sel r i => by
    unfold instI
    rw [instI_id σ i]
    dsimp only
    split
    · rfl
    · rfl
  | .add a b | .sub a b | .mul a b | .quo a b | .rem a b | .bit _ _ a b | .arg a b => by unfold instI; rw [instI_id σ a, instI_id σ b]; rfl
  | .wrap _ a | .shr a _ | .app _ a => by unfold instI; rw [instI_id σ a]; rfl
  | .noarg => rfl
  | .ite _ a b x y => by unfold instI; rw [instI_id σ a, instI_id σ b, instI_id σ x, instI_id σ y]
  | .bv _ => rfl
theorem instB_id (σ : BM) : ∀ c : BE, instB (subB σ) c = some c
  | .lit _ => rfl
  | .var _ => rfl
  | .lt a b | .eq a b => by unfold instB; rw [instI_id σ a, instI_id σ b]
  | .not a => by unfold instB; rw [instB_id σ a]; rfl
/-- a row of writes -/
noncomputable def wOk (v : SV) : Bool := SV.rec (motive := fun _ => Bool) false (fun _ => false) (fun _ _ => false) (fun _ => false) false (fun _ _ _ => false) false (fun _ _ _ _ _ => false) (fun _ _ _ => false) false (fun _ _ _ => false) false (fun _ _ => false) (fun _ _ => false) true (fun _ _ _ _ => false) (fun _ _ _ _ _ => false) (fun _ _ _ ih => ih) (fun _ _ _ => false) v
theorem instW_id (σ : BM) : ∀ ws : SV, wOk ws = true → instW (subB σ) ws = some ws
  | .nil, _ => rfl
  | .wr i x ws, h => by
    unfold instW
    rw [instI_id σ i, instI_id σ x, instW_id σ ws h]
  | .undef, h | .opq _, h | .int _ _, h | .bool _, h | .nilp, h | .ptr _ _ _, h | .nils, h | .sli _ _ _ _ _, h | .fn _ _, h | .nilf, h | .ifc _ _, h | .nili, h | .agg _, h | .tup _, h | .cons _ _, h | .arr _ _ _ _, h | .rep _ _, h => by cases h
/-- a chain that comes to an end -/
noncomputable def cOk (v : SV) : Bool := SV.rec (motive := fun _ => Bool) false (fun _ => false) (fun _ _ => false) (fun _ => false) false (fun _ _ _ => false) false (fun _ _ _ _ _ => false) (fun _ _ _ => false) false (fun _ _ _ => false) false (fun _ _ => false) (fun _ _ => false) true (fun _ _ _ ih => ih) (fun _ _ _ _ _ => false) (fun _ _ _ _ => false) (fun _ _ _ => false) v
theorem prefixC_refl : ∀ c : SV, cOk c = true → prefixC c c = true
  | .nil, _ => rfl
  | .cons a r, h => by
    unfold prefixC
    rw [prefixC_refl r h]
    simp
  | .undef, h | .opq _, h | .int _ _, h | .bool _, h | .nilp, h | .ptr _ _ _, h | .nils, h | .sli _ _ _ _ _, h | .fn _ _, h | .nilf, h | .ifc _ _, h | .nili, h | .agg _, h | .tup _, h | .arr _ _ _ _, h | .wr _ _ _, h | .rep _ _, h => by cases h
abbrev BK := BM → Bool
noncomputable def segC (s k s' k' : Nat) (σ0 : BM) (K : BK) (l : BM) : Bool :=
  List.rec (motive := fun _ => Nat → Nat → Nat → Nat → BM → BK → Bool) (fun s k s' k' σ0 K => andB (Nat.ble k k') (K ((s, s', Nat.sub k' k) :: σ0)))
    (fun x _ ih s k s' k' σ0 K => Bool.rec (motive := fun _ => (Nat → Nat → Nat → Nat → BM → BK → Bool) → Nat → Nat → Nat → Nat → BM → BK → Bool) (fun ih s k s' k' σ0 K => ih s k s' k' σ0 K)
      (fun _ _ k s' k' σ0 K => andB (Nat.beq s' x.2.1) (andB (Nat.beq k' (Nat.add x.2.2 k)) (K σ0))) (Nat.beq x.1 s) ih s k s' k' σ0 K) l s k s' k' σ0 K
noncomputable def segB (n s k s' k' : Nat) (σ : BM) (K : BK) : Bool :=
  Bool.rec (motive := fun _ => Nat → Nat → Nat → Nat → BM → BK → Bool) (fun s k s' k' σ K => andB (Nat.beq s s') (andB (Nat.beq k k') (K σ))) (fun s k s' k' σ K => segC s k s' k' σ K σ) (Nat.ble n s) s k s' k' σ K
def Good (n : Nat) (σ : BM) : Prop := ∀ x ∈ σ, n ≤ x.1
def Exts (σ τ : BM) : Prop := ∀ s x, look s σ = some x → look s τ = some x
theorem Exts.refl (σ : BM) : Exts σ σ := fun _ _ h => h
theorem Exts.trans {a b c : BM} (h : Exts a b) (h' : Exts b c) : Exts a c := fun s x e => h' s x (h s x e)
theorem look_none {n s : Nat} {σ : BM} (hg : Good n σ) (hs : s < n) : look s σ = none := by
  cases h : look s σ with
  | none => rfl
  | some x => have := hg _ (look_mem h); exact absurd this (by dsimp only; omega)
theorem segC_ok {s k s' k' : Nat} {σ0 : BM} {K : BK} : ∀ {l : BM}, segC s k s' k' σ0 K l = true →
    (∃ x, look s l = some x ∧ s' = x.1 ∧ k' = x.2 + k ∧ K σ0 = true) ∨ (look s l = none ∧ k ≤ k' ∧ K ((s, s', k' - k) :: σ0) = true)
  | [], h => by
    obtain ⟨h1, h2⟩ := andB_ok (show andB (Nat.ble k k') (K ((s, s', Nat.sub k' k) :: σ0)) = true from h)
    exact .inr ⟨rfl, Nat.le_of_ble_eq_true h1, h2⟩
  | x :: l, h => by
    have e : look s (x :: l) = cond (Nat.beq x.1 s) (some x.2) (look s l) := rfl
    rw [e]
    cases hb : Nat.beq x.1 s with
    | false =>
      have : segC s k s' k' σ0 K (x :: l) = segC s k s' k' σ0 K l := by unfold segC; dsimp only; rw [hb]
      rw [this] at h
      exact segC_ok h
    | true =>
      have : segC s k s' k' σ0 K (x :: l) = andB (Nat.beq s' x.2.1) (andB (Nat.beq k' (Nat.add x.2.2 k)) (K σ0)) := by unfold segC; dsimp only; rw [hb]
      rw [this] at h
      obtain ⟨h1, h⟩ := andB_ok h
      obtain ⟨h2, h3⟩ := andB_ok h
      exact .inl ⟨x.2, rfl, Nat.eq_of_beq_eq_true h1, Nat.eq_of_beq_eq_true h2, h3⟩
theorem blockOf_sub {ρ : BM} {s k : Nat} {x : Nat × Nat} (h : look s ρ = some x) : blockOf (subB ρ) s k = (x.1, x.2 + k) := by unfold blockOf; show (match look s ρ with | some (s', k') => (s', k' + k) | none => (s, k)) = _; rw [h]
theorem blockOf_id {ρ : BM} {s k : Nat} (h : look s ρ = none) : blockOf (subB ρ) s k = (s, k) := by unfold blockOf; show (match look s ρ with | some (s', k') => (s', k' + k) | none => (s, k)) = _; rw [h]
theorem segB_ok {n s k s' k' : Nat} {σ : BM} {K : BK} (h : segB n s k s' k' σ K = true) (hg : Good n σ) :
    ∃ τ, Good n τ ∧ Exts σ τ ∧ K τ = true ∧ ∀ ρ, Good n ρ → Exts τ ρ → blockOf (subB ρ) s k = (s', k') := by
  unfold segB at h
  cases hn : Nat.ble n s with
  | false =>
    rw [hn] at h
    obtain ⟨h1, h⟩ := andB_ok h
    obtain ⟨h2, h3⟩ := andB_ok h
    have h1 := Nat.eq_of_beq_eq_true h1
    have h2 := Nat.eq_of_beq_eq_true h2
    have hlt : s < n := by
      rcases Nat.lt_or_ge s n with h | h
      · exact h
      · rw [Nat.ble_eq_true_of_le h] at hn; cases hn
    refine ⟨σ, hg, Exts.refl σ, h3, fun ρ hr _ => ?_⟩
    rw [blockOf_id (look_none hr hlt), h1, h2]
  | true =>
    rw [hn] at h
    have hn := Nat.le_of_ble_eq_true hn
    rcases segC_ok h with ⟨x, hx, h1, h2, h3⟩ | ⟨hx, hle, h3⟩
    · refine ⟨σ, hg, Exts.refl σ, h3, fun ρ _ he => ?_⟩
      rw [blockOf_sub (he s x hx), h1, h2]
    · refine ⟨(s, s', k' - k) :: σ, ?_, ?_, h3, fun ρ _ he => ?_⟩
      · intro y hy
        rcases List.mem_cons.1 hy with rfl | hy
        · exact hn
        · exact hg y hy
      · intro t y hy
        show cond (Nat.beq s t) (some (s', k' - k)) (look t σ) = some y
        cases hb : Nat.beq s t with
        | false => exact hy
        | true =>
          have := Nat.eq_of_beq_eq_true hb
          subst this
          rw [hx] at hy; cases hy
      · have : look s ρ = some (s', k' - k) := he s _ (by show cond (Nat.beq s s) _ _ = _; rw [Nat.beq_refl]; rfl)
        rw [blockOf_sub this]
        show (s', k' - k + k) = (s', k')
        rw [Nat.sub_add_cancel hle]
/-- a value against another one, block by block -/
abbrev CmpT := Nat → SV → BM → BK → Bool
noncomputable def cmp2 (ih : CmpT) (n : Nat) (b : SV) (K : BK) (τ : BM) : Bool := ih n b τ K
noncomputable def cmpS (p : SV) : CmpT :=
  SV.rec (motive := fun _ => CmpT)
    (fun _ q σ K => vbUndef q (K σ))
    (fun _ _ _ _ _ => false)
    (fun k e _ q σ K => vbInt q fun k' e' => andB (Nat.beq (kindNo k) (kindNo k')) (andB (ieEq e e') (K σ)))
    (fun b _ q σ K => vbBool q fun b' => andB (beEq b b') (K σ))
    (fun _ q σ K => vbNilp q (K σ))
    (fun s k off n q σ K => vbPtr q fun s' k' off' => andB (ieEq off off') (segB n s k s' k' σ K))
    (fun _ q σ K => vbNils q (K σ))
    (fun s k off len cap n q σ K => vbSli q fun s' k' off' len' cap' => andB (ieEq off off') (andB (ieEq len len') (andB (ieEq cap cap') (segB n s k s' k' σ K))))
    (fun i _ ih n q σ K => vbFn q fun i' c' => andB (Nat.beq i i') (ih n c' σ K))
    (fun _ q σ K => vbNilf q (K σ))
    (fun t _ ih n q σ K => vbIfc q fun t' v' => andB (Nat.beq t t') (ih n v' σ K))
    (fun _ q σ K => vbNili q (K σ))
    (fun _ ih n q σ K => vbAgg q fun c' => ih n c' σ K)
    (fun _ ih n q σ K => vbTup q fun c' => ih n c' σ K)
    (fun _ q σ K => vbNil q (K σ))
    (fun _ _ iha ihb n q σ K => vbCons q fun a' b' => iha n a' σ (cmp2 ihb n b' K))
    (fun k r len ws _ _ q σ K => vbArr q fun k' r' len' ws' => andB (Nat.beq (kindNo k) (kindNo k')) (andB (Nat.beq r r') (andB (ieEq len len') (andB (svEq ws ws') (andB (wOk ws) (K σ))))))
    (fun _ _ _ _ _ _ _ _ => false)
    (fun _ len ih n q σ K => vbRep q fun c' len' => andB (ieEq len len') (ih n c' σ K)) p
theorem cmpS_ok {n : Nat} : ∀ {p q : SV} {σ : BM} {K : BK}, cmpS p n q σ K = true → Good n σ →
    ∃ τ, Good n τ ∧ Exts σ τ ∧ K τ = true ∧ p.plain = true ∧ ∀ ρ, Good n ρ → Exts τ ρ → instS (subB ρ) p = some q := by
  intro p
  induction p with
  | undef => intro q σ K h hg; obtain ⟨rfl, h⟩ := vbUndef_ok (vv := q) h; exact ⟨σ, hg, Exts.refl σ, h, rfl, fun _ _ _ => rfl⟩
  | nilp => intro q σ K h hg; obtain ⟨rfl, h⟩ := vbNilp_ok (vv := q) h; exact ⟨σ, hg, Exts.refl σ, h, rfl, fun _ _ _ => rfl⟩
  | nils => intro q σ K h hg; obtain ⟨rfl, h⟩ := vbNils_ok (vv := q) h; exact ⟨σ, hg, Exts.refl σ, h, rfl, fun _ _ _ => rfl⟩
  | nilf => intro q σ K h hg; obtain ⟨rfl, h⟩ := vbNilf_ok (vv := q) h; exact ⟨σ, hg, Exts.refl σ, h, rfl, fun _ _ _ => rfl⟩
  | nili => intro q σ K h hg; obtain ⟨rfl, h⟩ := vbNili_ok (vv := q) h; exact ⟨σ, hg, Exts.refl σ, h, rfl, fun _ _ _ => rfl⟩
  | nil => intro q σ K h hg; obtain ⟨rfl, h⟩ := vbNil_ok (vv := q) h; exact ⟨σ, hg, Exts.refl σ, h, rfl, fun _ _ _ => rfl⟩
  | opq j => intro q σ K h hg; cases h
  | wr i x ws ih => intro q σ K h hg; cases h
  | int k e =>
    intro q σ K h hg
    obtain ⟨k', e', rfl, h⟩ := vbInt_ok (vv := q) h
    obtain ⟨h1, h⟩ := andB_ok h
    obtain ⟨h2, h⟩ := andB_ok h
    refine ⟨σ, hg, Exts.refl σ, h, rfl, fun ρ _ _ => ?_⟩
    unfold instS
    rw [instI_id, kindNo_eq h1, ieEq_ok h2]
    rfl
  | bool b =>
    intro q σ K h hg
    obtain ⟨b', rfl, h⟩ := vbBool_ok (vv := q) h
    obtain ⟨h1, h⟩ := andB_ok h
    refine ⟨σ, hg, Exts.refl σ, h, rfl, fun ρ _ _ => ?_⟩
    unfold instS
    rw [instB_id, beEq_ok h1]
    rfl
  | ptr s k off =>
    intro q σ K h hg
    obtain ⟨s', k', off', rfl, h⟩ := vbPtr_ok (vv := q) h
    obtain ⟨h1, h⟩ := andB_ok h
    obtain ⟨τ, hg', he, hK, hb⟩ := segB_ok h hg
    refine ⟨τ, hg', he, hK, rfl, fun ρ hr hx => ?_⟩
    unfold instS
    rw [instI_id, hb ρ hr hx, ieEq_ok h1]
    rfl
  | sli s k off len cap =>
    intro q σ K h hg
    obtain ⟨s', k', off', len', cap', rfl, h⟩ := vbSli_ok (vv := q) h
    obtain ⟨h1, h⟩ := andB_ok h
    obtain ⟨h2, h⟩ := andB_ok h
    obtain ⟨h3, h⟩ := andB_ok h
    obtain ⟨τ, hg', he, hK, hb⟩ := segB_ok h hg
    refine ⟨τ, hg', he, hK, rfl, fun ρ hr hx => ?_⟩
    unfold instS
    rw [instI_id, instI_id, instI_id, hb ρ hr hx, ieEq_ok h1, ieEq_ok h2, ieEq_ok h3]
  | fn i c ih =>
    intro q σ K h hg
    obtain ⟨i', c', rfl, h⟩ := vbFn_ok (vv := q) h
    obtain ⟨h1, h⟩ := andB_ok h
    obtain ⟨τ, hg', he, hK, hp, hb⟩ := ih h hg
    refine ⟨τ, hg', he, hK, hp, fun ρ hr hx => ?_⟩
    unfold instS
    rw [hb ρ hr hx, Nat.eq_of_beq_eq_true h1]
    rfl
  | ifc t v ih =>
    intro q σ K h hg
    obtain ⟨t', v', rfl, h⟩ := vbIfc_ok (vv := q) h
    obtain ⟨h1, h⟩ := andB_ok h
    obtain ⟨τ, hg', he, hK, hp, hb⟩ := ih h hg
    refine ⟨τ, hg', he, hK, hp, fun ρ hr hx => ?_⟩
    unfold instS
    rw [hb ρ hr hx, Nat.eq_of_beq_eq_true h1]
    rfl
  | agg c ih =>
    intro q σ K h hg
    obtain ⟨c', rfl, h⟩ := vbAgg_ok (vv := q) h
    obtain ⟨τ, hg', he, hK, hp, hb⟩ := ih h hg
    refine ⟨τ, hg', he, hK, hp, fun ρ hr hx => ?_⟩
    unfold instS
    rw [hb ρ hr hx]
    rfl
  | tup c ih =>
    intro q σ K h hg
    obtain ⟨c', rfl, h⟩ := vbTup_ok (vv := q) h
    obtain ⟨τ, hg', he, hK, hp, hb⟩ := ih h hg
    refine ⟨τ, hg', he, hK, hp, fun ρ hr hx => ?_⟩
    unfold instS
    rw [hb ρ hr hx]
    rfl
  | cons a b iha ihb =>
    intro q σ K h hg
    obtain ⟨a', b', rfl, h⟩ := vbCons_ok (vv := q) h
    obtain ⟨τ, hg', he, hK, hp, hb⟩ := iha h hg
    obtain ⟨τ', hg2, he2, hK2, hp2, hb2⟩ := ihb (show cmpS b n b' τ K = true from hK) hg'
    refine ⟨τ', hg2, he.trans he2, hK2, by unfold SV.plain; rw [hp, hp2]; rfl, fun ρ hr hx => ?_⟩
    unfold instS
    rw [hb ρ hr (he2.trans hx), hb2 ρ hr hx]
    rfl
  | arr k r len ws ih =>
    intro q σ K h hg
    obtain ⟨k', r', len', ws', rfl, h⟩ := vbArr_ok (vv := q) h
    obtain ⟨h1, h⟩ := andB_ok h
    obtain ⟨h2, h⟩ := andB_ok h
    obtain ⟨h3, h⟩ := andB_ok h
    obtain ⟨h4, h⟩ := andB_ok h
    obtain ⟨h5, h⟩ := andB_ok h
    refine ⟨σ, hg, Exts.refl σ, h, rfl, fun ρ _ _ => ?_⟩
    have e4 := svEq_ok h4
    unfold instS
    rw [instI_id]
    dsimp only
    have e0 : (if r = 0 then none else look r (subB ρ).l) = none := by split <;> rfl
    rw [e0]
    dsimp only
    rw [instW_id ρ ws h5, kindNo_eq h1, Nat.eq_of_beq_eq_true h2, ieEq_ok h3, e4]
    rfl
  | rep c len ih =>
    intro q σ K h hg
    obtain ⟨c', len', rfl, h⟩ := vbRep_ok (vv := q) h
    obtain ⟨h1, h⟩ := andB_ok h
    obtain ⟨τ, hg', he, hK, hp, hb⟩ := ih h hg
    refine ⟨τ, hg', he, hK, hp, fun ρ hr hx => ?_⟩
    unfold instS
    rw [hb ρ hr hx, instI_id, ieEq_ok h1]

noncomputable def onNilB (v : SV) (a b : Bool) : Bool := SV.rec (motive := fun _ => Bool → Bool → Bool) (fun _ b => b) (fun _ _ b => b) (fun _ _ _ b => b) (fun _ _ b => b) (fun _ b => b) (fun _ _ _ _ b => b) (fun _ b => b) (fun _ _ _ _ _ _ b => b) (fun _ _ _ _ b => b) (fun _ b => b) (fun _ _ _ _ b => b) (fun _ b => b) (fun _ _ _ b => b) (fun _ _ _ b => b) (fun a _ => a) (fun _ _ _ _ _ b => b) (fun _ _ _ _ _ _ b => b) (fun _ _ _ _ _ b => b) (fun _ _ _ _ b => b) v a b
theorem onNilB_eq (v : SV) (a b : Bool) : onNilB v a b = if v = .nil then a else b := by cases v <;> rfl
theorem instS_nil {σ : Sub} : ∀ {p : SV}, p.plain = true → instS σ p = some .nil → p = .nil := by
  intro p hp h
  cases p with
  | nil => rfl
  | opq j => cases hp
  | wr i x ws => cases h
  | arr k r n ws =>
    exfalso
    unfold instS at h
    split at h
    · cases h
    · split at h
      · split at h
        · split at h <;> cases h
        · cases h
      · cases hw : instW σ ws <;> rw [hw] at h <;> cases h
  | _ =>
    exfalso
    revert h
    unfold instS
    first
      | (intro h; cases h; done)
      | (split <;> (intro h; cases h); done)
      | (unfold inst2S; split <;> (intro h; cases h); done)
      | (cases instI σ _ <;> (intro h; cases h); done)
      | (cases instB σ _ <;> (intro h; cases h); done)
      | (cases instS σ _ <;> (intro h; cases h); done)
/- frames -/
noncomputable def slotB (n : Nat) (v v' : SV) (σ : BM) (K : BK) : Bool := onNilB v (K σ) (cmpS v n v' σ K)
abbrev CmpF := Nat → FT → BM → BK → Bool
noncomputable def ftK1 (ih : CmpF) (n : Nat) (r' : FT) (K : BK) (τ : BM) : Bool := ih n r' τ K
noncomputable def ftK2 (ihl ihr : CmpF) (n : Nat) (l' r' : FT) (K : BK) (τ : BM) : Bool := ihl n l' τ (ftK1 ihr n r' K)
noncomputable def cmpFT (p : FT) : CmpF :=
  FT.rec (motive := fun _ => CmpF) (fun _ t σ K => FT.rec (motive := fun _ => BM → BK → Bool) (fun σ K => K σ) (fun _ _ _ _ _ _ _ => false) t σ K)
    (fun v _ _ ihl ihr n t σ K => FT.rec (motive := fun _ => SV → CmpF → CmpF → Nat → BM → BK → Bool) (fun _ _ _ _ _ _ => false) (fun v' l' r' _ _ v ihl ihr n σ K => slotB n v v' σ (ftK2 ihl ihr n l' r' K)) t v ihl ihr n σ K) p
def SlotR (ρ : BM) (p q : FT) : Prop := ∀ i, p.has i = q.has i ∧ (p.get i = .nil ∨ (q.get i ≠ .nil ∧ (p.get i).plain = true ∧ instS (subB ρ) (p.get i) = some (q.get i)))
theorem slotB_ok {n : Nat} {v v' : SV} {σ : BM} {K : BK} (h : slotB n v v' σ K = true) (hg : Good n σ) :
    ∃ τ, Good n τ ∧ Exts σ τ ∧ K τ = true ∧ ∀ ρ, Good n ρ → Exts τ ρ → (v = .nil ∨ (v' ≠ .nil ∧ v.plain = true ∧ instS (subB ρ) v = some v')) := by
  unfold slotB at h
  rw [onNilB_eq] at h
  by_cases hv : v = .nil
  · rw [if_pos hv] at h
    exact ⟨σ, hg, Exts.refl σ, h, fun _ _ _ => .inl hv⟩
  · rw [if_neg hv] at h
    obtain ⟨τ, h1, h2, h3, h4, h5⟩ := cmpS_ok h hg
    refine ⟨τ, h1, h2, h3, fun ρ hr hx => .inr ⟨?_, h4, h5 ρ hr hx⟩⟩
    intro e
    have := h5 ρ hr hx
    rw [e] at this
    exact hv (instS_nil h4 this)
theorem cmpFT_ok {n : Nat} : ∀ {p q : FT} {σ : BM} {K : BK}, cmpFT p n q σ K = true → Good n σ →
    ∃ τ, Good n τ ∧ Exts σ τ ∧ K τ = true ∧ ∀ ρ, Good n ρ → Exts τ ρ → SlotR ρ p q := by
  intro p
  induction p with
  | tip =>
    intro q σ K h hg
    cases q with
    | tip => exact ⟨σ, hg, Exts.refl σ, h, fun _ _ _ i => ⟨rfl, .inr ⟨(by rw [FT.get_tip]; intro e; cases e), rfl, rfl⟩⟩⟩
    | node v l r => cases h
  | node v l r ihl ihr =>
    intro q σ K h hg
    cases q with
    | tip => cases h
    | node v' l' r' =>
      obtain ⟨τ1, g1, x1, k1, s1⟩ := slotB_ok (show slotB n v v' σ (ftK2 (cmpFT l) (cmpFT r) n l' r' K) = true from h) hg
      obtain ⟨τ2, g2, x2, k2, s2⟩ := ihl (show cmpFT l n l' τ1 (ftK1 (cmpFT r) n r' K) = true from k1) g1
      obtain ⟨τ3, g3, x3, k3, s3⟩ := ihr (show cmpFT r n r' τ2 K = true from k2) g2
      refine ⟨τ3, g3, x1.trans (x2.trans x3), k3, fun ρ hr hx i => ?_⟩
      rw [FT.has_node, FT.has_node, FT.get_node, FT.get_node]
      by_cases h0 : i = 0
      · rw [if_pos h0, if_pos h0, if_pos h0, if_pos h0]
        exact ⟨rfl, s1 ρ hr (x2.trans (x3.trans hx))⟩
      · simp only [if_neg h0]
        by_cases h1 : i % 2 = 1
        · simp only [if_pos h1]
          exact s2 ρ hr (x3.trans hx) (i / 2)
        · simp only [if_neg h1]
          exact s3 ρ hr hx (i / 2 - 1)
/- heaps -/
abbrev RK := Bool × Nat × Nat
abbrev HK := BM → List RK → Bool
noncomputable def findB (l : List Ent) : Nat → Nat → (Bool → Nat → IE → SV → Bool) → Bool :=
  List.rec (motive := fun _ => Nat → Nat → (Bool → Nat → IE → SV → Bool) → Bool) (fun _ _ _ => false)
    (fun x _ ih s k G => Ent.rec (motive := fun _ => (Nat → Nat → (Bool → Nat → IE → SV → Bool) → Bool) → Nat → Nat → (Bool → Nat → IE → SV → Bool) → Bool)
      (fun s' k' ro t b c ih s k G => Bool.rec (motive := fun _ => Bool) (ih s k G) (G ro t b c) (andB (Nat.beq k' k) (Nat.beq s' s))) x ih s k G) l
theorem andB_eq (a b : Bool) : andB a b = (a && b) := by cases a <;> rfl
theorem findB_eq (s k : Nat) (G : Bool → Nat → IE → SV → Bool) : ∀ l : List Ent, findB l s k G = match findE s k l with | some e => G e.ro e.t e.base e.c | none => false
  | [] => rfl
  | x :: l => by
    obtain ⟨s', k', ro, t, b, c⟩ := x
    show Bool.rec (motive := fun _ => Bool) (findB l s k G) (G ro t b c) (andB (Nat.beq k' k) (Nat.beq s' s)) = match (cond (Nat.beq k' k && Nat.beq s' s) (some (⟨s', k', ro, t, b, c⟩ : Ent)) (findE s k l)) with | some e => G e.ro e.t e.base e.c | none => false
    rw [andB_eq, findB_eq s k G l]
    cases Nat.beq k' k && Nat.beq s' s <;> rfl
/-- which block an entry stands for -/
noncomputable def resL (s k : Nat) (K : Nat → Nat → Bool) (l : BM) : Bool :=
  List.rec (motive := fun _ => Nat → Nat → (Nat → Nat → Bool) → Bool) (fun _ _ _ => false)
    (fun x _ ih s k K => Bool.rec (motive := fun _ => Bool) (ih s k K) (K x.2.1 (Nat.add x.2.2 k)) (Nat.beq x.1 s)) l s k K
noncomputable def resB (n s k : Nat) (σ : BM) (K : Nat → Nat → Bool) : Bool := Bool.rec (motive := fun _ => Bool) (K s k) (resL s k K σ) (Nat.ble n s)
theorem resL_ok {s k : Nat} {K : Nat → Nat → Bool} : ∀ {l : BM}, resL s k K l = true → ∃ x, look s l = some x ∧ K x.1 (x.2 + k) = true
  | [], h => by cases h
  | x :: l, h => by
    have e : look s (x :: l) = cond (Nat.beq x.1 s) (some x.2) (look s l) := rfl
    have e2 : resL s k K (x :: l) = Bool.rec (motive := fun _ => Bool) (resL s k K l) (K x.2.1 (Nat.add x.2.2 k)) (Nat.beq x.1 s) := rfl
    rw [e]
    rw [e2] at h
    cases hb : Nat.beq x.1 s with
    | false => rw [hb] at h; exact resL_ok h
    | true => rw [hb] at h; exact ⟨x.2, rfl, h⟩
theorem resB_ok {n s k : Nat} {σ : BM} {K : Nat → Nat → Bool} (h : resB n s k σ K = true) : ∃ s' k', K s' k' = true ∧ ∀ ρ, Good n ρ → Exts σ ρ → blockOf (subB ρ) s k = (s', k') := by
  unfold resB at h
  cases hn : Nat.ble n s with
  | false =>
    rw [hn] at h
    have hlt : s < n := by
      rcases Nat.lt_or_ge s n with h | h
      · exact h
      · rw [Nat.ble_eq_true_of_le h] at hn; cases hn
    exact ⟨s, k, h, fun ρ hr _ => blockOf_id (look_none hr hlt)⟩
  | true =>
    rw [hn] at h
    obtain ⟨x, hx, hK⟩ := resL_ok h
    exact ⟨x.1, x.2 + k, hK, fun ρ _ he => blockOf_sub (he s x hx)⟩
abbrev CmpH := Nat → List Ent → BM → List RK → HK → Bool
noncomputable def chk (ro : Bool) (c' : SV) (x : Bool) : Bool := Bool.rec (motive := fun _ => SV → Bool → Bool) (fun _ x => x) (fun c' x => andB (cOk c') x) ro c' x
noncomputable def hp3 (ih : CmpH) (n : Nat) (l : List Ent) (acc : List RK) (K : HK) (τ : BM) : Bool := ih n l τ acc K
noncomputable def hp2 (ih : CmpH) (n : Nat) (l : List Ent) (σ : BM) (acc : List RK) (K : HK) (ro : Bool) (t : Nat) (b : IE) (c : SV) (s' k' : Nat) (ro' : Bool) (t' : Nat) (b' : IE) (c' : SV) : Bool :=
  andB (bEq ro ro') (andB (Nat.beq t t') (andB (ieEq b b') (chk ro c' (cmpS c n c' σ (hp3 ih n l ((ro, s', k') :: acc) K)))))
noncomputable def hp1 (ih : CmpH) (n : Nat) (l : List Ent) (σ : BM) (acc : List RK) (K : HK) (ro : Bool) (t : Nat) (b : IE) (c : SV) (s' k' : Nat) : Bool := findB l s' k' (hp2 ih n l σ acc K ro t b c s' k')
noncomputable def cmpH (h : List Ent) : CmpH :=
  List.rec (motive := fun _ => CmpH) (fun _ _ σ acc K => K σ acc)
    (fun e _ ih n l σ acc K => Ent.rec (motive := fun _ => CmpH → CmpH) (fun s k ro t b c ih n l σ acc K => resB n s k σ (hp1 ih n l σ acc K ro t b c)) e ih n l σ acc K) h
def resOf (ρ : BM) (p : Ent) : RK := (p.ro, (blockOf (subB ρ) p.s p.k).1, (blockOf (subB ρ) p.s p.k).2)
theorem cmpH_ok {n : Nat} {m : Mem} : ∀ {h : List Ent} {σ : BM} {acc : List RK} {K : HK}, cmpH h n m.heap σ acc K = true → Good n σ →
    ∃ τ, Good n τ ∧ Exts σ τ ∧ ∀ ρ, Good n ρ → Exts τ ρ → (∀ p ∈ h, entOk (subB ρ) m p = true) ∧ K τ ((h.map (resOf ρ)).reverse ++ acc) = true
  | [], σ, acc, K, h, hg => ⟨σ, hg, Exts.refl σ, fun ρ _ _ => ⟨fun p hp => (by cases hp), h⟩⟩
  | e :: hs, σ, acc, K, h, hg => by
    obtain ⟨s, k, ro, t, b, c⟩ := e
    obtain ⟨s', k', h, hblk⟩ := resB_ok (show resB n s k σ (hp1 (cmpH hs) n m.heap σ acc K ro t b c) = true from h)
    unfold hp1 at h
    rw [findB_eq] at h
    cases hf : findE s' k' m.heap with
    | none => rw [hf] at h; cases h
    | some en =>
      rw [hf] at h
      dsimp only at h
      unfold hp2 at h
      obtain ⟨h1, h⟩ := andB_ok h
      obtain ⟨h2, h⟩ := andB_ok h
      obtain ⟨h3, h⟩ := andB_ok h
      have h1 := bEq_ok h1
      have h2 := Nat.eq_of_beq_eq_true h2
      have h3 := ieEq_ok h3
      have hc : (ro = true → cOk en.c = true) ∧ cmpS c n en.c σ (hp3 (cmpH hs) n m.heap ((ro, s', k') :: acc) K) = true := by
        unfold chk at h
        cases ro
        · exact ⟨fun e => (by cases e), h⟩
        · obtain ⟨a, b⟩ := andB_ok h
          exact ⟨fun _ => a, b⟩
      obtain ⟨τ1, g1, x1, k1, pl, s1⟩ := cmpS_ok hc.2 hg
      obtain ⟨τ2, g2, x2, s2⟩ := cmpH_ok (show cmpH hs n m.heap τ1 ((ro, s', k') :: acc) K = true from k1) g1
      refine ⟨τ2, g2, x1.trans x2, fun ρ hr hx => ?_⟩
      obtain ⟨q1, q2⟩ := s2 ρ hr hx
      have hb := hblk ρ hr (x1.trans (x2.trans hx))
      refine ⟨fun p hp => ?_, ?_⟩
      · rcases List.mem_cons.1 hp with rfl | hp
        · unfold entOk
          dsimp only
          rw [hb]
          dsimp only
          have hfm : m.find s' k' = some en := hf
          rw [hfm]
          dsimp only
          rw [instI_id, h3, pl, s1 ρ hr (x2.trans hx)]
          dsimp only
          cases hro : ro with
          | true => simp [prefixC_refl _ (hc.1 hro)]
          | false => simp [← h1, hro, ← h2]
        · exact q1 p hp
      · have e : ((⟨s, k, ro, t, b, c⟩ :: hs : List Ent).map (resOf ρ)).reverse ++ acc = (hs.map (resOf ρ)).reverse ++ (ro, s', k') :: acc := by
          rw [List.map_cons, List.reverse_cons, List.append_assoc]
          show _ ++ ([(ro, (blockOf (subB ρ) s k).1, (blockOf (subB ρ) s k).2)] ++ acc) = _
          rw [hb]
          rfl
        rw [e]
        exact q2
/- that no two stand for one block -/
noncomputable def differ (x y : RK) : Bool := Bool.rec (motive := fun _ => Bool) (Bool.rec (motive := fun _ => Bool) true (Bool.rec (motive := fun _ => Bool) true false (Nat.beq x.2.1 y.2.1)) (Nat.beq x.2.2 y.2.2)) true (andB x.1 y.1)
theorem differ_ok {x y : RK} (h : differ x y = true) : (x.1 = true ∧ y.1 = true) ∨ x.2 ≠ y.2 := by
  obtain ⟨a, b, c⟩ := x
  obtain ⟨a', b', c'⟩ := y
  unfold differ at h
  dsimp only at h
  cases ha : andB a a' with
  | true =>
    obtain ⟨h1, h2⟩ := andB_ok ha
    exact .inl ⟨h1, h2⟩
  | false =>
    rw [ha] at h
    right
    intro e
    injection e with e1 e2
    subst e1; subst e2
    rw [Nat.beq_refl, Nat.beq_refl] at h
    cases h
noncomputable def differs (x : RK) (l : List RK) : Bool := List.rec (motive := fun _ => RK → Bool) (fun _ => true) (fun y _ ih x => andB (differ x y) (ih x)) l x
noncomputable def apartL (l : List RK) : Bool := List.rec (motive := fun _ => Bool) true (fun x r ih => andB (differs x r) ih) l
theorem differs_ok {x : RK} : ∀ {l : List RK}, differs x l = true → ∀ y ∈ l, (x.1 = true ∧ y.1 = true) ∨ x.2 ≠ y.2
  | z :: l, h, y, hy => by
    obtain ⟨h1, h2⟩ := andB_ok (show andB (differ x z) (differs x l) = true from h)
    rcases List.mem_cons.1 hy with rfl | hy
    · exact differ_ok h1
    · exact differs_ok h2 y hy
theorem apartL_ok : ∀ {l : List RK}, apartL l = true → l.Pairwise fun x y => (x.1 = true ∧ y.1 = true) ∨ x.2 ≠ y.2
  | [], _ => List.Pairwise.nil
  | x :: l, h => by
    obtain ⟨h1, h2⟩ := andB_ok (show andB (differs x l) (apartL l) = true from h)
    exact List.Pairwise.cons (differs_ok h1) (apartL_ok h2)
theorem keysApart_of {ρ : BM} : ∀ {h : List Ent}, ((h.map (resOf ρ)).Pairwise fun x y => (x.1 = true ∧ y.1 = true) ∨ x.2 ≠ y.2) → keysApart (subB ρ) h = true
  | [], _ => rfl
  | p :: r, h => by
    rw [List.map_cons, List.pairwise_cons] at h
    unfold keysApart
    rw [keysApart_of h.2, Bool.and_true, List.all_eq_true]
    intro q hq
    rcases h.1 (resOf ρ q) (List.mem_map.2 ⟨q, hq, rfl⟩) with h1 | h1
    · have a : p.ro = true := h1.1
      have b : q.ro = true := h1.2
      rw [a, b]; rfl
    · have : (blockOf (subB ρ) p.s p.k == blockOf (subB ρ) q.s q.k) = false := by
        rw [beq_eq_false_iff_ne]
        intro e
        apply h1
        show ((blockOf (subB ρ) p.s p.k).1, (blockOf (subB ρ) p.s p.k).2) = ((blockOf (subB ρ) q.s q.k).1, (blockOf (subB ρ) q.s q.k).2)
        rw [e]
      rw [this]
      simp
/- states -/
abbrev St := Fr × Mem
noncomputable def ft3 (_ : BM) (acc : List RK) : Bool := apartL acc
noncomputable def ft2 (n : Nat) (hp hq : List Ent) (σ : BM) : Bool := cmpH hp n hq σ [] ft3
noncomputable def fitsC (n : Nat) (p q : St) : Bool :=
  andB (knEq p.2.know q.2.know) (andB (Nat.ble (n + 1) p.2.nv) (andB (Nat.beq p.1.n q.1.n) (andB (Nat.beq p.2.next 0) (andB (Nat.ble n p.2.seg)
    (andB (q.2.know.facts.all (fun f => f.1.nm n)) (andB (q.2.know.conds.all (BE.nm n)) (cmpFT p.1.t n q.1.t [(p.2.seg, q.2.seg, q.2.next)] (ft2 n p.2.heap q.2.heap))))))))
theorem fitsC_later {F : Nat → Prop} {w0 w : World} {E0 E : Env} {m0 : Mem} {p q : St} {a : Act} (h : fitsC m0.nv p q = true) (hL : Later m0.nv q.2.nv E0 E) (hm : MemOk F w0 E q.2 w) (hf : FrT E q.1 a) :
    ∃ E', Later m0.nv p.2.nv E0 E' ∧ MemOk F w0 E' p.2 w ∧ FrT E' p.1 a := by
  unfold fitsC at h
  obtain ⟨k1, h⟩ := andB_ok h
  obtain ⟨k2, h⟩ := andB_ok h
  obtain ⟨k3, h⟩ := andB_ok h
  obtain ⟨k4, h⟩ := andB_ok h
  obtain ⟨k5, h⟩ := andB_ok h
  obtain ⟨k6, h⟩ := andB_ok h
  obtain ⟨k7, h⟩ := andB_ok h
  have k1 := knEq_ok k1
  have k2 := Nat.le_of_ble_eq_true k2
  have k3 := Nat.eq_of_beq_eq_true k3
  have k4 := Nat.eq_of_beq_eq_true k4
  have k5 := Nat.le_of_ble_eq_true k5
  have g0 : Good m0.nv [(p.2.seg, q.2.seg, q.2.next)] := fun x hx => by
    rcases List.mem_cons.1 hx with rfl | hx
    · exact k5
    · cases hx
  obtain ⟨τ1, g1, x1, c1, s1⟩ := cmpFT_ok h g0
  obtain ⟨ρ, g2, x2, s2⟩ := cmpH_ok (m := q.2) (show cmpH p.2.heap m0.nv q.2.heap τ1 [] ft3 = true from c1) g1
  obtain ⟨h3', hap⟩ := s2 ρ g2 (Exts.refl ρ)
  have hs := s1 ρ g2 x2
  rw [List.append_nil] at hap
  have hap : keysApart (subB ρ) p.2.heap = true := keysApart_of (by
    have := apartL_ok (show apartL _ = true from hap)
    rw [List.pairwise_reverse] at this
    exact this.imp fun h => h.imp (fun e => ⟨e.2, e.1⟩) (fun e => Ne.symm e))
  have hsub : subOk m0.nv (subB ρ) q.2.know = true := by
    unfold subOk subB
    simp only [List.all_nil, Bool.true_and, Bool.and_true, List.all_eq_true]
    intro x hx
    exact Nat.ble_eq_true_of_le (g2 x hx)
  have hA := by_agree hsub E
  have hblk : blockOf (subB ρ) p.2.seg p.2.next = (q.2.seg, q.2.next) := by
    have : look p.2.seg ρ = some (q.2.seg, q.2.next) := x2 _ _ (x1 _ _ (by show cond (Nat.beq p.2.seg p.2.seg) _ _ = _; rw [Nat.beq_refl]; rfl))
    rw [blockOf_sub this, k4]
    rfl
  refine ⟨E.by (subB ρ), ⟨hL.agree.trans hA (Nat.le_refl _), by omega, fun e => by omega⟩, ⟨by rw [k1]; exact know_agree hm.know (by_ok hsub hm.know) hA k6 k7, ?_, ?_, keysApart_ok hm h3' hap, ?_, hm.ext, ?_⟩, ⟨by rw [hf.size, k3], fun i => ?_, fun i => ?_⟩⟩
  · rw [blockOf_ok, hblk, hm.size]
  · intro p' hp
    obtain ⟨e, k1, k2, hb, ⟨hoo, hbase⟩, ok, hcells, hro, hown⟩ := entOk_ok hm (h3' p' hp)
    refine ⟨by rw [hb]; exact ok.lt, fun hr j v hj => ?_, fun hr => ?_⟩
    · rw [hb, hbase, hoo]
      exact ok.cell j v (hcells j v hj)
    · obtain ⟨o1, o2⟩ := ok.own (hro hr)
      obtain ⟨t1, t2⟩ := hown hr
      rw [hb, hbase, hoo, t2, ← t1]
      exact ⟨o1, o2⟩
  · intro p' hp hr
    obtain ⟨e, k1, k2, hb, hbase, ok, hcells, hro, hown⟩ := entOk_ok hm (h3' p' hp)
    rw [hb]
    exact hm.mine e k1 (hro hr)
  · rw [blockO_ok E (subB ρ) p.2.seg p.2.next, hblk]
    exact hm.seg0
  · obtain ⟨_, h1⟩ := hs i
    show p.1.t.get i = .nil ∨ a.tmps.getD i undef = dv (E.by (subB ρ)) (p.1.t.get i)
    rcases h1 with h1 | ⟨h1, h2, h3⟩
    · exact .inl h1
    · right
      rcases hf.slot i with h4 | h4
      · exact absurd h4 h1
      · have : dv E (q.1.t.get i) = dv (E.by (subB ρ)) (p.1.t.get i) := by
          unfold dv
          rw [instS_ok E (subB ρ) _ _ h2 h3]
        rw [h4]
        exact this
  · have := (hs i).1
    rw [this, k3]
    exact hf.wf i
/- a state with its new blocks named anew -/
def idxOf (k : Nat) : List Nat → Nat
  | [] => 0
  | x :: r => cond (Nat.beq x k) 0 (idxOf k r + 1)
noncomputable def renP {α : Type} (s k s0 n0 N : Nat) (ks : List Nat) (K : Nat → Nat → α) : α :=
  Bool.rec (motive := fun _ => α) (K s k) (nfN (N + 1 + idxOf k ks) fun s => K s 0) (andB (Nat.beq s s0) (Nat.ble n0 k))
theorem renP_ex (s k s0 n0 N : Nat) (ks : List Nat) : ∃ s' k', ∀ {α : Type} (K : Nat → Nat → α), renP s k s0 n0 N ks K = K s' k' := by
  unfold renP
  cases andB (Nat.beq s s0) (Nat.ble n0 k)
  · exact ⟨s, k, fun K => rfl⟩
  · exact ⟨N + 1 + idxOf k ks, 0, fun K => nfN_eq _ _⟩
noncomputable def renK {α : Type} (v : SV) : Nat → Nat → Nat → List Nat → (SV → α) → α := SV.rec (motive := fun _ => Nat → Nat → Nat → List Nat → (SV → α) → α) (fun _ _ _ _ K => K (.undef)) (fun j _ _ _ _ K => K (.opq j)) (fun k e _ _ _ _ K => K (.int k e)) (fun b _ _ _ _ K => K (.bool b)) (fun _ _ _ _ K => K (.nilp)) (fun s k off s0 n0 N ks K => renP s k s0 n0 N ks (fun s k => K (.ptr s k off))) (fun _ _ _ _ K => K (.nils)) (fun s k off len cap s0 n0 N ks K => renP s k s0 n0 N ks (fun s k => K (.sli s k off len cap))) (fun i _ ih s0 n0 N ks K => ih s0 n0 N ks fun v => K (.fn i v)) (fun _ _ _ _ K => K (.nilf)) (fun t _ ih s0 n0 N ks K => ih s0 n0 N ks fun v => K (.ifc t v)) (fun _ _ _ _ K => K (.nili)) (fun _ ih s0 n0 N ks K => ih s0 n0 N ks fun v => K (.agg v)) (fun _ ih s0 n0 N ks K => ih s0 n0 N ks fun v => K (.tup v)) (fun _ _ _ _ K => K (.nil)) (fun _ _ iha ihb s0 n0 N ks K => iha s0 n0 N ks fun a => ihb s0 n0 N ks fun b => K (.cons a b)) (fun k r n ws _ _ _ _ _ K => K (.arr k r n ws)) (fun i x ws _ _ _ _ _ K => K (.wr i x ws)) (fun _ n ih s0 n0 N ks K => ih s0 n0 N ks fun v => K (.rep v n)) v
theorem renK_ex (s0 n0 N : Nat) (ks : List Nat) (v : SV) : ∃ u, ∀ {α : Type} (K : SV → α), renK v s0 n0 N ks K = K u := by
  induction v with
  | ptr s k off => obtain ⟨s', k', h⟩ := renP_ex s k s0 n0 N ks; exact ⟨.ptr s' k' off, fun K => h (fun s k => K (.ptr s k off))⟩
  | sli s k off len cap => obtain ⟨s', k', h⟩ := renP_ex s k s0 n0 N ks; exact ⟨.sli s' k' off len cap, fun K => h (fun s k => K (.sli s k off len cap))⟩
  | cons a b iha ihb => obtain ⟨a', ha⟩ := iha; obtain ⟨b', hb⟩ := ihb; exact ⟨.cons a' b', fun K => (ha _).trans (hb _)⟩
  | fn i c ih => obtain ⟨c', h⟩ := ih; exact ⟨.fn i c', fun K => h _⟩
  | ifc t c ih => obtain ⟨c', h⟩ := ih; exact ⟨.ifc t c', fun K => h _⟩
  | agg c ih => obtain ⟨c', h⟩ := ih; exact ⟨.agg c', fun K => h _⟩
  | tup c ih => obtain ⟨c', h⟩ := ih; exact ⟨.tup c', fun K => h _⟩
  | rep c n ih => obtain ⟨c', h⟩ := ih; exact ⟨.rep c' n, fun K => h _⟩
  | _ => exact ⟨_, fun K => rfl⟩
noncomputable def renFT {α : Type} (s0 n0 N : Nat) (ks : List Nat) (t : FT) : (FT → α) → α :=
  FT.rec (motive := fun _ => (FT → α) → α) (fun k => k .tip) (fun v _ _ hl hr k => renK v s0 n0 N ks fun v => hl fun l => hr fun r => k (.node v l r)) t
theorem renFT_ex (s0 n0 N : Nat) (ks : List Nat) (t : FT) : ∃ u, ∀ {α : Type} (K : FT → α), renFT s0 n0 N ks t K = K u := by
  induction t with
  | tip => exact ⟨.tip, fun K => rfl⟩
  | node v l r hl hr =>
    obtain ⟨v', hv⟩ := renK_ex s0 n0 N ks v
    obtain ⟨l', hl⟩ := hl
    obtain ⟨r', hr⟩ := hr
    exact ⟨.node v' l' r', fun K => (hv _).trans ((hl _).trans (hr _))⟩
noncomputable def renE {α : Type} (s0 n0 N : Nat) (ks : List Nat) (e : Ent) (K : Ent → α) : α :=
  Ent.rec (motive := fun _ => α) (fun s k ro t b c => renP s k s0 n0 N ks fun s k => renK c s0 n0 N ks fun c => K ⟨s, k, ro, t, b, c⟩) e
theorem renE_ex (s0 n0 N : Nat) (ks : List Nat) (e : Ent) : ∃ u, ∀ {α : Type} (K : Ent → α), renE s0 n0 N ks e K = K u := by
  obtain ⟨s, k, ro, t, b, c⟩ := e
  obtain ⟨s', k', h⟩ := renP_ex s k s0 n0 N ks
  obtain ⟨c', hc⟩ := renK_ex s0 n0 N ks c
  exact ⟨⟨s', k', ro, t, b, c'⟩, fun K => (h (fun s k => renK c s0 n0 N ks fun c => K ⟨s, k, ro, t, b, c⟩)).trans (hc (fun c => K ⟨s', k', ro, t, b, c⟩))⟩
theorem nfL_ex {β : Type} {f : ∀ {α : Type}, β → (β → α) → α} (hf : ∀ x, ∃ u, ∀ {α : Type} (K : β → α), f x K = K u) (l : List β) : ∃ u, ∀ {α : Type} (K : List β → α), nfL f l K = K u := by
  induction l with
  | nil => exact ⟨[], fun K => rfl⟩
  | cons x r ih =>
    obtain ⟨x', hx⟩ := hf x
    obtain ⟨r', hr⟩ := ih
    exact ⟨x' :: r', fun K => (hx _).trans (hr _)⟩
def newE (m0 : Mem) (e : Ent) : Bool := Nat.beq e.s m0.seg && Nat.ble m0.next e.k
def newKs (m0 : Mem) (q : St) : List Nat := (q.2.heap.filter (newE m0)).map fun e => e.k
noncomputable def patOfK {α : Type} (m0 : Mem) (q : St) (k : St → α) : α :=
  nfL (fun x k => nfN x k) (newKs m0 q) fun ks => renFT m0.seg m0.next q.2.nv ks q.1.t fun t => nfL (fun e k => renE m0.seg m0.next q.2.nv ks e k) q.2.heap fun h =>
    nfN q.2.nv fun sg => nfN (q.2.nv + 1 + ks.length) fun nv => k (⟨q.1.n, t⟩, ⟨q.2.know, h, sg, 0, nv⟩)
theorem patOfK_ex (m0 : Mem) (q : St) : ∃ p, ∀ {α : Type} (k : St → α), patOfK m0 q k = k p := by
  obtain ⟨t, ht⟩ := renFT_ex m0.seg m0.next q.2.nv (newKs m0 q) q.1.t
  obtain ⟨h, hh⟩ := nfL_ex (f := fun e k => renE m0.seg m0.next q.2.nv (newKs m0 q) e k) (fun e => renE_ex m0.seg m0.next q.2.nv (newKs m0 q) e) q.2.heap
  refine ⟨(⟨q.1.n, t⟩, ⟨q.2.know, h, q.2.nv, 0, q.2.nv + 1 + (newKs m0 q).length⟩), fun k => ?_⟩
  unfold patOfK
  rw [nfL_eq (fun x k => nfN_eq x k), ht, hh, nfN_eq, nfN_eq]
noncomputable def anyK (n : Nat) (q : St) (l : List St) : Bool := List.rec (motive := fun _ => Bool) false (fun p _ ih => cond (fitsC n p q) true ih) l
theorem anyK_ok {n : Nat} {q : St} : ∀ {l : List St}, anyK n q l = true → ∃ p ∈ l, fitsC n p q = true
  | p :: l, h => by
    have e : anyK n q (p :: l) = cond (fitsC n p q) true (anyK n q l) := rfl
    rw [e] at h
    cases hp : fitsC n p q with
    | true => exact ⟨p, List.mem_cons_self, hp⟩
    | false =>
      rw [hp] at h
      obtain ⟨x, hx, hf⟩ := anyK_ok h
      exact ⟨x, List.mem_cons_of_mem _ hx, hf⟩
noncomputable def canonL (m0 : Mem) (l : List St) : List St → List St :=
  List.rec (motive := fun _ => List St → List St) (fun acc => acc)
    (fun q _ ih acc => cond (anyK m0.nv q acc) (ih acc) (patOfK m0 q fun p => cond (fitsC m0.nv p q) (ih (p :: acc)) (ih (q :: acc)))) l
theorem canonL_cons (m0 : Mem) (q : St) (r acc : List St) : ∃ p, canonL m0 (q :: r) acc = cond (anyK m0.nv q acc) (canonL m0 r acc) (cond (fitsC m0.nv p q) (canonL m0 r (p :: acc)) (canonL m0 r (q :: acc))) := by
  obtain ⟨p, hp⟩ := patOfK_ex m0 q
  refine ⟨p, ?_⟩
  show cond (anyK m0.nv q acc) (canonL m0 r acc) (patOfK m0 q fun p => cond (fitsC m0.nv p q) (canonL m0 r (p :: acc)) (canonL m0 r (q :: acc))) = _
  rw [hp]
theorem canonL_sub (m0 : Mem) : ∀ (l acc : List St) (p : St), p ∈ acc → p ∈ canonL m0 l acc
  | [], acc, p, h => h
  | q :: r, acc, p, h => by
    obtain ⟨x, e⟩ := canonL_cons m0 q r acc
    rw [e]
    cases anyK m0.nv q acc
    · cases fitsC m0.nv x q
      · exact canonL_sub m0 r _ p (List.mem_cons_of_mem _ h)
      · exact canonL_sub m0 r _ p (List.mem_cons_of_mem _ h)
    · exact canonL_sub m0 r _ p h
theorem canonL_mem (m0 : Mem) : ∀ (l acc : List St) (q : St), q ∈ l → ∃ p ∈ canonL m0 l acc, p = q ∨ fitsC m0.nv p q = true
  | x :: r, acc, q, h => by
    obtain ⟨y, e⟩ := canonL_cons m0 x r acc
    rw [e]
    rcases List.mem_cons.1 h with rfl | h
    · cases ha : anyK m0.nv q acc with
      | true =>
        obtain ⟨p, hp, hf⟩ := anyK_ok ha
        exact ⟨p, canonL_sub m0 r _ p hp, .inr hf⟩
      | false =>
        cases hf : fitsC m0.nv y q with
        | true => exact ⟨y, canonL_sub m0 r _ _ List.mem_cons_self, .inr hf⟩
        | false => exact ⟨q, canonL_sub m0 r _ _ List.mem_cons_self, .inl rfl⟩
    · cases anyK m0.nv x acc
      · cases fitsC m0.nv y x
        · exact canonL_mem m0 r _ q h
        · exact canonL_mem m0 r _ q h
      · exact canonL_mem m0 r _ q h
/-- frames, their ways made one -/
noncomputable def canonF (m0 : Mem) (l : List (Fr × Mem)) : List (Fr × Mem) := match l with
  | q0 :: q1 :: r => nfSp (canonL m0 (q0 :: q1 :: r) []) fun ps => cond (Nat.beq ps.length (q0 :: q1 :: r).length) (q0 :: q1 :: r) ps
  | l => l
theorem canonF_ok {F : Nat → Prop} {w0 w : World} {E0 E : Env} {m0 : Mem} {l : List (Fr × Mem)} {q : Fr × Mem} {a : Act} (hq : q ∈ l) (hL : Later m0.nv q.2.nv E0 E) (hm : MemOk F w0 E q.2 w) (hf : FrOk E q.1 a) :
    ∃ p ∈ canonF m0 l, ∃ E', Later m0.nv p.2.nv E0 E' ∧ FrOk E' p.1 a ∧ MemOk F w0 E' p.2 w := by
  unfold canonF
  split
  · rename_i q0 q1 r
    rw [nfSp_eq]
    cases Nat.beq (canonL m0 (q0 :: q1 :: r) []).length (q0 :: q1 :: r).length
    · dsimp only [cond]
      obtain ⟨p, hp, hpq⟩ := canonL_mem m0 (q0 :: q1 :: r) [] q hq
      rcases hpq with rfl | hfit
      · exact ⟨p, hp, E, hL, hf, hm⟩
      · obtain ⟨E', h1, h2, h3⟩ := fitsC_later hfit hL hm hf.tmps
        exact ⟨p, hp, E', h1, ⟨h3, hf.defers⟩, h2⟩
    · exact ⟨q, hq, E, hL, hf, hm⟩
  · exact ⟨q, hq, E, hL, hf, hm⟩
/-- values, their ways made one -/
def frV (v : SV) : Fr := ⟨1, .node v .tip .tip⟩
theorem frV_ok (E : Env) (v : SV) : FrT E (frV v) { tmps := #[dv E v], defers := [] } := by
  refine ⟨rfl, fun i => ?_, fun i => ?_⟩
  · right
    show _ = dv E (FT.get (.node v .tip .tip) i)
    rw [FT.get_node]
    cases i with
    | zero => rfl
    | succ i =>
      have : (#[dv E v] : Array Value).getD (i + 1) undef = undef := by simp [Array.getD]
      rw [this, if_neg (by omega)]
      split <;> rfl
  · show FT.has (.node v .tip .tip) i = decide (i < 1)
    rw [FT.has_node]
    cases i with
    | zero => rfl
    | succ i => rw [if_neg (by omega)]; split <;> (simp; rfl)
noncomputable def valF (q : St) : SV × Mem := (q.1.t.get 0, q.2)
noncomputable def canonV (m0 : Mem) (l : List (SV × Mem)) : List (SV × Mem) := match l with
  | q0 :: q1 :: r => nfSp (canonL m0 ((q0 :: q1 :: r).map fun q => (frV q.1, q.2)) []) fun ps =>
      cond (Nat.beq ps.length (q0 :: q1 :: r).length || ps.any fun p => (p.1.t.get 0).isNil) (q0 :: q1 :: r) (nfL (fun p k => nfS p.1 fun v => k (v, p.2)) (ps.map valF) fun x => x)
  | l => l
theorem canonV_ok {F : Nat → Prop} {w0 w : World} {E0 E : Env} {m0 : Mem} {l : List (SV × Mem)} {q : SV × Mem} (hq : q ∈ l) (hL : Later m0.nv q.2.nv E0 E) (hm : MemOk F w0 E q.2 w) :
    ∃ p ∈ canonV m0 l, ∃ E', Later m0.nv p.2.nv E0 E' ∧ dv E q.1 = dv E' p.1 ∧ MemOk F w0 E' p.2 w := by
  unfold canonV
  split
  · rename_i q0 q1 r
    rw [nfSp_eq, nfL_eq (fun p k => by rw [nfS_eq])]
    generalize hc : (Nat.beq _ _ || List.any _ _) = c
    cases c
    · dsimp only [cond]
      rw [Bool.or_eq_false_iff] at hc
      have hc := hc.2
      obtain ⟨p, hp, hpq⟩ := canonL_mem m0 ((q0 :: q1 :: r).map fun q => (frV q.1, q.2)) [] (frV q.1, q.2) (List.mem_map.2 ⟨q, hq, rfl⟩)
      refine ⟨valF p, List.mem_map.2 ⟨p, hp, rfl⟩, ?_⟩
      rcases hpq with rfl | hfit
      · exact ⟨E, hL, rfl, hm⟩
      · obtain ⟨E', h1, h2, h3⟩ := fitsC_later hfit hL hm (frV_ok E q.1)
        refine ⟨E', h1, ?_, h2⟩
        rw [List.any_eq_false] at hc
        have hn := hc p hp
        rcases h3.slot 0 with h | h
        · have e : p.1.t.get 0 = .nil := h
          rw [e] at hn; exact absurd rfl hn
        · exact h
    · exact ⟨q, hq, E, hL, rfl, hm⟩
  · exact ⟨q, hq, E, hL, rfl, hm⟩
noncomputable def canonX (s : List SV → X SV) : List SV → X SV := fun args m => match s args m with
  | some outs => some (canonV m outs)
  | none => none
end Go.Sx
