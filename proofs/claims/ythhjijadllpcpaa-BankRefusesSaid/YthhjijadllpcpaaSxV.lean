/- The executor's operations, 7: names that are new; append. -/
import Derived.Test.YthhjijadllpcpaaSxU
import Derived.Laws.AppendOwn
namespace Go.Sx
open Go

/- environments that agree on what has been named so far -/
structure Agree (n : Nat) (E E' : Env) : Prop where
  i : ∀ k, k < n → E'.i k = E.i k
  b : ∀ k, k < n → E'.b k = E.b k
  l : ∀ k, k < n → E'.l k = E.l k
  base : ∀ k, k < n → E'.base k = E.base k
  o : ∀ k, k < n → E'.o k = E.o k
  v : ∀ k, k < n → E'.v k = E.v k
  f : E'.f = E.f
/-- one environment behind another -/
structure Later (n n' : Nat) (E E' : Env) : Prop where
  agree : Agree n E E'
  le : n ≤ n'
  same : n' = n → E' = E
theorem Agree.refl (n : Nat) (E : Env) : Agree n E E := ⟨fun _ _ => rfl, fun _ _ => rfl, fun _ _ => rfl, fun _ _ => rfl, fun _ _ => rfl, fun _ _ => rfl, rfl⟩
theorem Agree.trans {n n' : Nat} {A B C : Env} (h : Agree n A B) (h' : Agree n' B C) (hn : n ≤ n') : Agree n A C :=
  ⟨fun k hk => (h'.i k (by omega)).trans (h.i k hk), fun k hk => (h'.b k (by omega)).trans (h.b k hk), fun k hk => (h'.l k (by omega)).trans (h.l k hk),
   fun k hk => (h'.base k (by omega)).trans (h.base k hk), fun k hk => (h'.o k (by omega)).trans (h.o k hk), fun k hk => (h'.v k (by omega)).trans (h.v k hk), h'.f.trans h.f⟩

theorem Later.refl (n : Nat) (E : Env) : Later n n E E := ⟨Agree.refl _ _, Nat.le_refl _, fun _ => rfl⟩
theorem Later.of {n n' : Nat} (h : n' = n) (E : Env) : Later n n' E E := ⟨Agree.refl _ _, by omega, fun _ => rfl⟩
theorem Later.trans {n n' n'' : Nat} {A B C : Env} (h : Later n n' A B) (h' : Later n' n'' B C) : Later n n'' A C :=
  ⟨h.agree.trans h'.agree h.le, Nat.le_trans h.le h'.le, fun e => by
    have h1 := h.le
    have h2 := h'.le
    rw [h'.same (by omega), h.same (by omega)]⟩

def IE.nm (n : Nat) : IE → Bool
  | .lit _ => true
  | .var i => decide (i < n)
  | .sel r i => (decide (r = 0) || decide (r < n)) && i.nm n
  | .add a b | .sub a b | .mul a b | .quo a b | .rem a b | .bit _ _ a b | .arg a b => a.nm n && b.nm n
  | .wrap _ a | .shr a _ | .app _ a => a.nm n
  | .noarg => true
  | .ite _ a b x y => a.nm n && b.nm n && x.nm n && y.nm n
  | .bv i => decide (i < n)
def BE.nm (n : Nat) : BE → Bool
  | .lit _ => true
  | .var i => decide (i < n)
  | .lt a b | .eq a b => a.nm n && b.nm n
  | .not a => a.nm n
def SV.nm (n : Nat) : SV → Bool
  | .opq j => decide (j < n)
  | .int _ e => e.nm n
  | .bool b => b.nm n
  | .ptr s _ off => decide (s < n) && off.nm n
  | .sli s _ off len cap => decide (s < n) && off.nm n && len.nm n && cap.nm n
  | .fn _ c | .ifc _ c | .agg c | .tup c => c.nm n
  | .cons a b => a.nm n && b.nm n
  | .arr _ r e ws => (decide (r = 0) || decide (r < n)) && e.nm n && ws.nm n
  | .wr i x ws => i.nm n && x.nm n && ws.nm n
  | .rep c k => c.nm n && k.nm n
  | _ => true
section
theorem row_agree {n : Nat} {E E' : Env} (h : Agree n E E') {r : Nat} (hr : (decide (r = 0) || decide (r < n)) = true) : E'.row r = E.row r := by
  simp only [Bool.or_eq_true, decide_eq_true_eq] at hr
  unfold Env.row
  split
  · rfl
  · exact h.l r (by omega)
theorem evp_agree {n : Nat} {E E' : Env} (h : Agree n E E') : ∀ e : IE, e.nm n = true → evp E' e = evp E e := by
  intro e
  induction e with
  | var i => intro hb; simp only [IE.nm, decide_eq_true_eq] at hb; simp only [evp, h.i i hb]
  | sel r i ih => intro hb; simp only [IE.nm, Bool.and_eq_true] at hb; simp only [evp, ih hb.2, row_agree h hb.1]
  | app f a ih => intro hb; simp only [evp, ih hb, h.f]
  | lit _ => intro _; rfl
  | noarg => intro _; rfl
  | wrap k a ih => intro hb; simp only [evp, ih hb]
  | shr a n ih => intro hb; simp only [evp, ih hb]
  | bv i => intro hb; simp only [IE.nm, decide_eq_true_eq] at hb; simp only [evp, h.b i hb]
  | ite k a b x y ha hb' hx hy => intro hb; simp only [IE.nm, Bool.and_eq_true] at hb; simp only [evp, ha hb.1.1.1, hb' hb.1.1.2, hx hb.1.2, hy hb.2]
  | _ => rename_i a b iha ihb; intro hb; simp only [IE.nm, Bool.and_eq_true] at hb; simp only [evp, iha hb.1, ihb hb.2]
theorem ev_agree {n : Nat} {E E' : Env} (h : Agree n E E') {e : IE} (hb : e.nm n = true) : ev E' e = ev E e := by unfold ev; rw [evp_agree h e hb]
theorem evB_agree {n : Nat} {E E' : Env} (h : Agree n E E') : ∀ c : BE, c.nm n = true → evB E' c = evB E c := by
  intro c
  induction c with
  | lit _ => intro _; rfl
  | var i => intro hb; simp only [BE.nm, decide_eq_true_eq] at hb; simp only [evB, h.b i hb]
  | lt a b => intro hb; simp only [BE.nm, Bool.and_eq_true] at hb; simp only [evB, ev_agree h hb.1, ev_agree h hb.2]
  | eq a b => intro hb; simp only [BE.nm, Bool.and_eq_true] at hb; simp only [evB, ev_agree h hb.1, ev_agree h hb.2]
  | not a ih => intro hb; simp only [evB, ih hb]
theorem wsVal_agree {n : Nat} {E E' : Env} (h : Agree n E E') {r : Nat} (hr : E'.row r = E.row r) : ∀ ws : SV, ws.nm n = true → ∀ j, wsVal E' r ws j = wsVal E r ws j := by
  intro ws
  induction ws with
  | wr i x ws ih =>
    intro hb j
    simp only [SV.nm, Bool.and_eq_true] at hb
    simp only [wsVal, ev_agree h hb.1.1, ev_agree h hb.1.2, ih hb.2]
  | _ => intro _ j; simp only [wsVal, hr]
theorem dl_agree {n : Nat} {E E' : Env} (h : Agree n E E') : ∀ v : SV, v.nm n = true → dl E' v = dl E v := by
  intro v
  induction v with
  | opq j => intro hb; simp only [SV.nm, decide_eq_true_eq] at hb; simp only [dl, h.v j hb]
  | int k e => intro hb; simp only [dl, ev_agree h hb]
  | bool b => intro hb; simp only [dl, evB_agree h b hb]
  | ptr s k off => intro hb; simp only [SV.nm, Bool.and_eq_true, decide_eq_true_eq] at hb; simp only [dl, addrOf, ev_agree h hb.2, h.base s hb.1, h.o s hb.1]
  | sli s k off len cap =>
    intro hb
    simp only [SV.nm, Bool.and_eq_true, decide_eq_true_eq] at hb
    obtain ⟨⟨⟨h1, h2⟩, h3⟩, h4⟩ := hb
    simp only [dl, addrOf, ev_agree h h2, ev_agree h h3, ev_agree h h4, h.base s h1, h.o s h1]
  | fn f c ih => intro hb; simp only [dl, ih hb]
  | ifc t c ih => intro hb; simp only [dl, ih hb]
  | agg c ih => intro hb; simp only [dl, ih hb]
  | tup c ih => intro hb; simp only [dl, ih hb]
  | cons a b iha ihb => intro hb; simp only [SV.nm, Bool.and_eq_true] at hb; simp only [dl, iha hb.1, ihb hb.2]
  | arr k r e ws =>
    intro hb
    simp only [SV.nm, Bool.and_eq_true] at hb
    have hr := row_agree h hb.1.1
    simp only [dl, arrCells, ev_agree h hb.1.2, wsVal_agree h hr ws hb.2]
  | rep c k ih => intro hb; simp only [SV.nm, Bool.and_eq_true] at hb; simp only [dl, ih hb.1, ev_agree h hb.2]
  | _ => intro _; rfl
theorem dv_agree {n : Nat} {E E' : Env} (h : Agree n E E') {v : SV} (hb : v.nm n = true) : dv E' v = dv E v := by unfold dv; rw [dl_agree h v hb]
end

def Ent.nm (n : Nat) (e : Ent) : Bool := decide (e.s < n) && e.base.nm n && e.c.nm n
def Mem.nm (n : Nat) (m : Mem) : Bool := m.heap.all (Ent.nm n) && m.know.facts.all (fun f => f.1.nm n) && m.know.conds.all (BE.nm n)
/-- a memory whose names are all old, behind a call that left its blocks alone, under an environment that agrees on them; the next block may lie anew -/
theorem MemOk.moved {F : Nat → Prop} {w0 w w' : World} {E E' : Env} {m : Mem} {n : Nat} (hm : MemOk F w0 E m w) (hn : m.nm n = true) (hA : Agree n E E') (hE : E'.Ok) (hx : Ext (fun _ => False) w w') {sg nx nv : Nat} (hsize : w'.heap.size = E'.base sg + nx) (ho : E'.o sg = 0) :
    MemOk F w0 E' { m with seg := sg, next := nx, nv := nv } w' := by
  simp only [Mem.nm, Bool.and_eq_true, List.all_eq_true] at hn
  obtain ⟨⟨hh, hf⟩, hc⟩ := hn
  have hblk : ∀ e ∈ m.heap, e.blk E' = e.blk E := by
    intro e he
    have := hh e he
    simp only [Ent.nm, Bool.and_eq_true, decide_eq_true_eq] at this
    simp only [Ent.blk, hA.base _ this.1.1]
  have hsz := hx.size
  refine ⟨⟨hE, fun f hf' => ?_, fun c hc' => ?_⟩, hsize, fun e he => ?_, ?_, fun e he hr => ?_, ?_, ho⟩
  · have := hm.know.facts f hf'
    unfold FactOk at this ⊢
    rw [ev_agree hA (hf f hf')]; exact this
  · rw [evB_agree hA c (hc c hc')]; exact hm.know.conds c hc'
  · have ok := hm.ents e he
    have h1 := hh e he
    simp only [Ent.nm, Bool.and_eq_true, decide_eq_true_eq] at h1
    obtain ⟨⟨h1, h2⟩, h3⟩ := h1
    have hk := hx.block (e.blk E) ok.lt (fun h => h)
    refine ⟨by rw [hblk e he]; exact Nat.lt_of_lt_of_le ok.lt hsz, fun hr j v hj => ?_, fun hr => ?_⟩
    · rw [hblk e he, hA.o _ h1, ev_agree hA h2]
      have := ok.ro hr j v (by rw [← dl_agree hA e.c h3]; exact hj)
      simp only [World.cell?] at this ⊢
      rw [hk]; exact this
    · rw [hblk e he, hA.o _ h1, ev_agree hA h2, dl_agree hA e.c h3, hk]
      exact ok.own hr
  · refine hm.apart.imp_of_mem ?_
    intro x y hx hy hxy
    unfold Ent.parted at hxy ⊢
    rw [hblk x hx, hblk y hy]; exact hxy
  · rw [hblk e he]; exact hm.mine e he hr
  · refine ⟨hx.os.trans hm.ext.os, hx.tape.trans hm.ext.tape, hx.output.trans hm.ext.output, Nat.le_trans hm.ext.size hsz, fun x h1 h2 => ?_⟩
    rw [hx.block x (Nat.lt_of_lt_of_le h1 hm.ext.size) (fun h => h)]
    exact hm.ext.block x h1 h2


/- pieces of chains, by expressions -/
/-- what is behind so many cells -/
def dropC (kn : Know) : SV → IE → Option SV
  | .cons a rest, e => if e = .lit 0 then some (.cons a rest) else
    match a with
    | .arr _k _r n _ws => if nonneg kn n && isLe kn n e then dropC kn rest (mkSub e n) else none
    | a => if a.isC && isLe kn (.lit 1) e then dropC kn rest (mkSub e (.lit 1)) else none
  | c, e => if e = .lit 0 then some c else none
theorem dropC_ok {E : Env} {kn : Know} (h : KnowOk E kn) : ∀ (c : SV) (e : IE) (r : SV), dropC kn c e = some r → 0 ≤ ev E e ∧ dl E r = (dl E c).drop (ev E e).toNat := by
  have zero : ∀ (c : SV) (e : IE) (r : SV), e = .lit 0 → some c = some r → 0 ≤ ev E e ∧ dl E r = (dl E c).drop (ev E e).toNat := by
    rintro c e r rfl hr
    cases hr
    simp [ev_lit]
  intro c
  induction c with
  | cons a rest _ ih =>
    intro e r hr
    unfold dropC at hr
    split at hr
    · exact zero _ _ _ ‹_› hr
    · split at hr
      · rename_i k rr n ws
        split at hr
        · rename_i hc
          simp only [Bool.and_eq_true] at hc
          have n0 := nonneg_ok h hc.1
          have ne := isLe_ok h hc.2
          obtain ⟨_, h2⟩ := ih _ _ hr
          rw [mkSub_ok] at h2
          refine ⟨by omega, ?_⟩
          rw [h2]
          simp only [dl]
          rw [List.drop_append, List.drop_of_length_le (l := arrCells _ _ _ _ _) (by rw [arrCells_len]; omega), List.nil_append, arrCells_len]
          congr 1; omega
        · cases hr
      · split at hr
        · rename_i hc
          simp only [Bool.and_eq_true] at hc
          have ne := isLe_ok h hc.2
          rw [ev_lit] at ne
          obtain ⟨_, h2⟩ := ih _ _ hr
          rw [mkSub_ok, ev_lit] at h2
          refine ⟨by omega, ?_⟩
          rw [h2]
          simp only [dl]
          have hl := dl_len_isV E (SV.isC_isV hc.1)
          rw [List.drop_append, List.drop_of_length_le (l := dl E a) (by omega), List.nil_append, hl]
          congr 1; omega
        · cases hr
  | _ =>
    intro e r hr
    unfold dropC at hr
    split at hr
    · exact zero _ _ _ ‹_› hr
    · cases hr
/-- the first so many cells -/
def headC (kn : Know) : SV → IE → Option SV
  | .cons a rest, e => if e = .lit 0 then some .nil else
    match a with
    | .arr k r n ws => if nonneg kn e && isLe kn e n then some (.cons (.arr k r e ws) .nil)
      else if nonneg kn n && isLe kn n e then match headC kn rest (mkSub e n) with
        | some q => some (.cons (.arr k r n ws) q)
        | none => none
      else none
    | a => if a.isC && isLe kn (.lit 1) e then match headC kn rest (mkSub e (.lit 1)) with
        | some q => some (.cons a q)
        | none => none
      else none
  | _, e => if e = .lit 0 then some .nil else none
theorem headC_ok {E : Env} {kn : Know} (h : KnowOk E kn) : ∀ (c : SV) (e : IE) (r : SV), headC kn c e = some r → 0 ≤ ev E e ∧ dl E r = (dl E c).take (ev E e).toNat ∧ (ev E e).toNat ≤ (dl E c).length := by
  have zero : ∀ (c : SV) (e : IE) (r : SV), e = .lit 0 → some SV.nil = some r → 0 ≤ ev E e ∧ dl E r = (dl E c).take (ev E e).toNat ∧ (ev E e).toNat ≤ (dl E c).length := by
    rintro c e r rfl hr
    cases hr
    simp [ev_lit, dl]
  intro c
  induction c with
  | cons a rest _ ih =>
    intro e r hr
    unfold headC at hr
    split at hr
    · exact zero _ _ _ ‹_› hr
    · split at hr
      · rename_i k rr n ws
        split at hr
        · rename_i hc
          cases hr
          simp only [Bool.and_eq_true] at hc
          have e0 := nonneg_ok h hc.1
          have en := isLe_ok h hc.2
          refine ⟨e0, ?_, ?_⟩
          · simp only [dl, List.append_nil]
            rw [List.take_append_of_le_length (by rw [arrCells_len]; omega)]
            refine List.ext_getElem? fun j => ?_
            rw [List.getElem?_take]
            by_cases hj : j < (ev E e).toNat
            · rw [if_pos hj, arrCells_get _ _ _ _ _ _ hj, arrCells_get _ _ _ _ _ _ (by omega)]
            · rw [if_neg hj, List.getElem?_eq_none (by rw [arrCells_len]; omega)]
          · simp only [dl, List.length_append, arrCells_len]; omega
        · split at hr
          · rename_i hc
            split at hr
            · rename_i q hq
              cases hr
              simp only [Bool.and_eq_true] at hc
              have n0 := nonneg_ok h hc.1
              have ne := isLe_ok h hc.2
              obtain ⟨_, h2, h3⟩ := ih _ _ hq
              rw [mkSub_ok] at h2 h3
              refine ⟨by omega, ?_, ?_⟩
              · simp only [dl]
                rw [h2, List.take_append, List.take_of_length_le (l := arrCells _ _ _ _ _) (by rw [arrCells_len]; omega), arrCells_len]
                congr 2; omega
              · simp only [dl, List.length_append, arrCells_len]; omega
            · cases hr
          · cases hr
      · split at hr
        · rename_i hc
          split at hr
          · rename_i q hq
            cases hr
            simp only [Bool.and_eq_true] at hc
            have ne := isLe_ok h hc.2
            rw [ev_lit] at ne
            obtain ⟨_, h2, h3⟩ := ih _ _ hq
            rw [mkSub_ok, ev_lit] at h2 h3
            have hl := dl_len_isV E (SV.isC_isV hc.1)
            refine ⟨by omega, ?_, ?_⟩
            · simp only [dl]
              rw [h2, List.take_append, List.take_of_length_le (l := dl E a) (by omega), hl]
              congr 2; omega
            · simp only [dl, List.length_append]; omega
          · cases hr
        · cases hr
  | _ =>
    intro e r hr
    unfold headC at hr
    split at hr
    · exact zero _ _ _ ‹_› hr
    · cases hr

/-- the cells that a slice's elements have, so many -/
noncomputable def rowsOf (p : Option (Nat × Nat × IE)) (n : IE) : X SV :=
  match p with
  | none => withKnow fun kn => if (rng kn.facts n).2 ≤ 0 then X.pure .nil else X.none
  | some (s, k, off) => X.bind (findX s k) fun e => withKnow fun kn => X.bind (X.ofOption (place kn e off)) fun idx => withKnow fun kn =>
    match dropC kn e.c idx with
    | some c => X.ofOption (headC kn c n)
    | none => X.none
def baseV (E : Env) (p : Option (Nat × Nat × IE)) : Option Addr := p.map fun x => addrOf E x.1 x.2.1 x.2.2
theorem rowsOf_ok {F : Nat → Prop} {w0 : World} {E : Env} (p : Option (Nat × Nat × IE)) (n : IE) (m : Mem) (w : World) :
    GX F w0 E (rowsOf p n) m w fun c w' => w' = w ∧ (dl E c).length = (ev E n).toNat ∧ match baseV E p with
      | none => dl E c = []
      | some a => ∀ (j : Nat) (v : Value), (dl E c)[j]? = some v → w.cell? (a.add j) = some v := by
  unfold rowsOf
  split
  · refine GX.withKnow fun hk => ?_
    split
    · rename_i hn
      have := rng_ok hk.env hk.facts n
      exact GX.pure fun _ => ⟨rfl, by simp [dl]; omega, rfl⟩
    · exact GX.none
  · rename_i s k off
    refine GX.bind (findX_ok s k m w) ?_
    rintro e m1 w1 ⟨rfl, he, hb, hes⟩
    refine GX.withKnow fun hk => GX.bind (GX.ofOption (Q := fun idx w' => w' = w1 ∧ place m1.know e off = some idx) fun _ h => ⟨rfl, h⟩) ?_
    rintro idx m2 w2 ⟨rfl, hp⟩
    obtain ⟨h0, hadd⟩ := place_ok hk hp
    refine GX.withKnow fun hk2 => ?_
    split
    · rename_i c hc
      refine GX.ofOption fun r hr => ?_
      obtain ⟨_, hd⟩ := dropC_ok hk2 _ _ _ hc
      obtain ⟨n0, ht, hl⟩ := headC_ok hk2 _ _ _ hr
      refine ⟨rfl, by rw [ht, List.length_take]; omega, ?_⟩
      show ∀ (j : Nat) (v : Value), (dl E r)[j]? = some v → w2.cell? ((addrOf E s k off).add j) = some v
      intro j v hj
      rw [ht, List.getElem?_take] at hj
      split at hj
      case isFalse => cases hj
      rw [hd, List.getElem?_drop] at hj
      have := he.cell _ _ hj
      rw [← this]
      simp only [addrOf, addr_add, hb, hadd, hes, Nat.add_assoc]
    · exact GX.none

/-- a row put where a row of zeros begins -/
def tailPut (kn : Know) (v : SV) (n : Nat) : SV → IE → Option SV
  | .cons a rest, e => match a with
    | .arr k r t ws => if e = .lit 0 ∧ r = 0 ∧ ws = .nil ∧ isLe kn (.lit n) t = true then some (appC v (.cons (.arr k 0 (mkSub t (.lit n)) .nil) rest))
      else if nonneg kn t && isLe kn t e then match tailPut kn v n rest (mkSub e t) with
        | some q => some (.cons (.arr k r t ws) q)
        | none => none
      else none
    | .rep c t => if e = .lit 0 ∧ wd c = some n ∧ isLe kn (.lit 1) t = true then some (appC v (.cons (.rep c (mkSub t (.lit 1))) rest)) else none
    | a => if a.isC && isLe kn (.lit 1) e then match tailPut kn v n rest (mkSub e (.lit 1)) with
        | some q => some (.cons a q)
        | none => none
      else none
  | _, _ => none
theorem tailPut_ok {E : Env} {kn : Know} (h : KnowOk E kn) {v : SV} {n : Nat} (hv : (dl E v).length = n) : ∀ (c : SV) (e : IE) (r : SV), tailPut kn v n c e = some r →
    0 ≤ ev E e ∧ (ev E e).toNat + n ≤ (dl E c).length ∧ dl E r = (dl E c).take (ev E e).toNat ++ dl E v ++ (dl E c).drop ((ev E e).toNat + n) := by
  intro c
  induction c with
  | cons a rest _ ih =>
    intro e r hr
    unfold tailPut at hr
    split at hr
    · rename_i k rr t ws _
      split at hr
      · rename_i hc
        obtain ⟨rfl, rfl, rfl, hle⟩ := hc
        cases hr
        have := isLe_ok h hle
        rw [ev_lit] at this
        refine ⟨by simp [ev_lit], by simp only [dl, List.length_append, arrCells_len, ev_lit]; omega, ?_⟩
        rw [appC_ok]
        simp only [dl, ev_lit, Int.toNat_zero, List.take_zero, List.nil_append, Nat.zero_add, mkSub_ok]
        rw [List.drop_append_of_le_length (by rw [arrCells_len]; omega)]
        congr 2
        refine List.ext_getElem? fun j => ?_
        rw [List.getElem?_drop]
        by_cases hj : j < (ev E t - ↑n).toNat
        · rw [arrCells_get _ _ _ _ _ _ hj, arrCells_get _ _ _ _ _ _ (by omega)]
          simp [wsVal, Env.row]
        · rw [List.getElem?_eq_none (by rw [arrCells_len]; omega), List.getElem?_eq_none (by rw [arrCells_len]; omega)]
      · split at hr
        · rename_i hc
          split at hr
          · rename_i q hq
            cases hr
            simp only [Bool.and_eq_true] at hc
            have n0 := nonneg_ok h hc.1
            have ne := isLe_ok h hc.2
            obtain ⟨_, h2, h3⟩ := ih _ _ hq
            rw [mkSub_ok] at h2 h3
            refine ⟨by omega, by simp only [dl, List.length_append, arrCells_len]; omega, ?_⟩
            simp only [dl]
            rw [h3, List.take_append, List.take_of_length_le (l := arrCells _ _ _ _ _) (by rw [arrCells_len]; omega), List.drop_append, List.drop_of_length_le (l := arrCells _ _ _ _ _) (by rw [arrCells_len]; omega), arrCells_len,
              show (ev E e - ev E t).toNat = (ev E e).toNat - (ev E t).toNat by omega, show (ev E e).toNat - (ev E t).toNat + n = (ev E e).toNat + n - (ev E t).toNat by omega]
            simp only [List.append_assoc, List.nil_append]
          · cases hr
        · cases hr
    · rename_i c t _
      split at hr
      · rename_i hc
        obtain ⟨rfl, hw, hle⟩ := hc
        cases hr
        have := isLe_ok h hle
        rw [ev_lit] at this
        have hl := wd_ok E c n hw
        obtain ⟨q, hq⟩ : ∃ q, (ev E t).toNat = q + 1 := ⟨(ev E t).toNat - 1, by omega⟩
        have hq' : (ev E t - 1).toNat = q := by omega
        refine ⟨by simp [ev_lit], ?_, ?_⟩
        · simp only [dl, List.length_append, ev_lit, hq, List.replicate_succ, List.flatten_cons]; simp; omega
        · rw [appC_ok]
          simp only [dl, ev_lit, Int.toNat_zero, List.take_zero, List.nil_append, Nat.zero_add, mkSub_ok, hq, hq', List.replicate_succ, List.flatten_cons, List.append_assoc]
          rw [List.drop_append, List.drop_of_length_le (l := dl E c) (by omega), hl, Nat.sub_self, List.drop_zero, List.nil_append]
      · cases hr
    · split at hr
      · rename_i hc
        split at hr
        · rename_i q hq
          cases hr
          simp only [Bool.and_eq_true] at hc
          have ne := isLe_ok h hc.2
          rw [ev_lit] at ne
          obtain ⟨_, h2, h3⟩ := ih _ _ hq
          rw [mkSub_ok, ev_lit] at h2 h3
          have hl := dl_len_isV E (SV.isC_isV hc.1)
          refine ⟨by omega, by simp only [dl, List.length_append]; omega, ?_⟩
          simp only [dl]
          rw [h3, List.take_append, List.take_of_length_le (l := dl E a) (by omega), List.drop_append, List.drop_of_length_le (l := dl E a) (by omega), hl,
            show (ev E e - 1).toNat = (ev E e).toNat - 1 by omega, show (ev E e).toNat - 1 + n = (ev E e).toNat + n - 1 by omega]
          simp only [List.append_assoc, List.nil_append]
        · cases hr
      · cases hr
  | _ => intro e r hr; simp [tailPut] at hr
end Go.Sx
