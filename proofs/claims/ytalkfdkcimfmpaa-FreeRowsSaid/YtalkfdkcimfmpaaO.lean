/- once: each slot just once in a row and what is had; a call that touches blocks and makes others. -/
import Derived.Test.YtalkfdkcimfmpaaN
namespace Go.Proofs.Ytalkfdkcimfmpaa
open Go.Sx Go Go.FreeInv
set_option maxRecDepth 100000
noncomputable def touchM (p : Pat) : List SV → X SV := fun args m =>
 if reroot 0 (matchAll 0 p.args p.mem args m) p.args p.mem args m && m.nm m.nv then nfN (m.nv + 1) fun sg => nfN (m.nv + 2) fun nv => some [(p.val, { m.without (p.keys (matchAll 0 p.args p.mem args m)) with seg := sg, next := 0, nv := nv })] else none
noncomputable def patOkM (p : Pat) (outs : List (SV × Mem)) : Bool := outs.all (fun q => q.1 == p.val) && p.val.nm 0
theorem withoutM_ok {F : Nat → Prop} {w0 w w' : World} {E : Env} {m : Mem} (hm : MemOk F w0 E m w) (hn : m.nm m.nv = true) {ks : List (Nat × Nat)} {F' : Nat → Prop} (hF : ∀ b, F' b → ∃ e ∈ m.heap, e.ro = false ∧ ks.contains (e.s, e.k) = true ∧ e.blk E = b)
  (hext : Ext F' w w') : MemOk F w0 (E.two m.nv 0 w'.heap.size) { m.without ks with seg := m.nv + 1, next := 0, nv := m.nv + 2 } w' := by
 have hA : Agree m.nv E (E.two m.nv 0 w'.heap.size) := two_agree E m.nv _ _
 have hsub : (m.without ks).heap.Sublist m.heap := List.filter_sublist
 have hn' := hn
 simp only [Mem.nm, Bool.and_eq_true] at hn'
 obtain ⟨⟨hh, hf⟩, hc⟩ := hn'
 rw [List.all_eq_true] at hh
 have hblk : ∀ e ∈ m.heap, e.blk (E.two m.nv 0 w'.heap.size) = e.blk E := by
  intro e he
  have := hh e he
  simp only [Ent.nm, Bool.and_eq_true, decide_eq_true_eq] at this
  simp only [Ent.blk, hA.base _ this.1.1]
 have keep : ∀ e ∈ (m.without ks).heap, w'.heap[e.blk E]? = w.heap[e.blk E]? := by
  intro e he
  have hem := hsub.subset he
  refine hext.block _ (hm.ents e hem).lt (fun hf => ?_)
  obtain ⟨e', he', hro, hk, hb⟩ := hF _ hf
  have := hm.same he' hem (.inl hro) hb
  subst this
  have := (List.mem_filter.1 he).2
  rw [hk] at this
  cases this
 refine ⟨know_agree hm.know ⟨hm.know.env.i, hm.know.env.l, hm.know.env.f⟩ hA hf hc, by simp [Env.two], ?_, ?_, ?_, ?_, by simp [Env.two]⟩
 ·intro e he
  have hem := hsub.subset he
  have ok := hm.ents e hem
  have hk := keep e he
  have h1 := hh e hem
  simp only [Ent.nm, Bool.and_eq_true, decide_eq_true_eq] at h1
  obtain ⟨⟨h1, h2⟩, h3⟩ := h1
  refine ⟨by rw [hblk e hem]; exact Nat.lt_of_lt_of_le ok.lt hext.size, fun hr j v hj => ?_, fun hr => ?_, fun hr z hz => ?_⟩
  ·rw [hblk e hem, hA.o _ h1, ev_agree hA h2]
   have := ok.ro hr j v (by rw [← dl_agree hA e.c h3]; exact hj)
   simp only [World.cell?] at this ⊢
   rw [hk]; exact this
  ·rw [hblk e hem, hA.o _ h1, ev_agree hA h2, dl_agree hA e.c h3, hk]
   exact ok.own hr
  ·rw [hz] at h3
   simp only [SV.nm, Bool.and_eq_true] at h3
   rw [hblk e hem, dl_agree hA z h3.1, hk]
   exact ok.mp hr z hz
 ·refine (hm.apart.sublist hsub).imp_of_mem ?_
  intro x y hx hy hxy
  unfold Ent.parted at hxy ⊢
  rw [hblk x (hsub.subset hx), hblk y (hsub.subset hy)]; exact hxy
 ·intro e he hr
  have hem := hsub.subset he
  rw [hblk e hem]; exact hm.mine e hem hr
 ·refine ⟨hext.os.trans hm.ext.os, hext.tape.trans hm.ext.tape, hext.output.trans hm.ext.output, Nat.le_trans hm.ext.size hext.size, fun x hx hx' => ?_⟩
  rw [hext.block x (by have := hm.ext.size; omega) (fun hf => ?_)]
  ·exact hm.ext.block x hx hx'
  ·obtain ⟨e', he', hro, _, hb⟩ := hF _ hf
   rcases hm.mine e' he' hro with h | h
   ·omega
   ·exact hx' (hb ▸ h)
theorem touchM_ok {G : Gf} {P : Program} {f : Nat} {s : List SV → X SV} (hs : SpecOk G P f s) (p : Pat) {outs : List (SV × Mem)} (hrun : s p.args p.mem = some outs) (hp : patOkM p outs = true) : SpecOk G P f (touchM p) := by
 intro F w0 E args m outs' w hgf ho hm
 unfold touchM at ho
 split at ho
 case isFalse => cases ho
 rename_i hre
 rw [nfN_eq, nfN_eq] at ho
 cases ho
 rw [Bool.and_eq_true] at hre
 obtain ⟨hre, hnm⟩ := hre
 generalize matchAll 0 p.args p.mem args m = σ at hre ⊢
 simp only [patOkM, Bool.and_eq_true, List.all_eq_true] at hp
 obtain ⟨hp1, hp2⟩ := hp
 obtain ⟨_, hmC, hargs⟩ := reroot_ok hre hm
 let F' : Nat → Prop := fun b => ∃ e ∈ p.mem.heap, e.ro = false ∧ e.blk (E.by σ) = b
 have hmF : MemOk F' w (E.by σ) p.mem w := ⟨hmC.know, hmC.size, hmC.ents, hmC.apart, fun e he hr => .inr ⟨e, he, hr, rfl⟩, Ext.refl _ _, hmC.seg0⟩
 have := hs F' w (E.by σ) p.args p.mem outs w hgf hrun hmF
 rw [hargs] at this
 refine this.mono ?_
 rintro e w' ⟨q, hq, E', hL, rfl, hm'⟩
 have v1 := hp1 q hq
 rw [beq_iff_eq] at v1
 have hA : Agree m.nv E (E.two m.nv 0 w'.heap.size) := two_agree E m.nv _ _
 have hval : dv E' q.1 = dv (E.two m.nv 0 w'.heap.size) p.val := by
  rw [v1]
  have h0 : Agree 0 E (E.by σ) := ⟨fun k h => absurd h (Nat.not_lt_zero k), fun k h => absurd h (Nat.not_lt_zero k), fun k h => absurd h (Nat.not_lt_zero k), fun k h => absurd h (Nat.not_lt_zero k), fun k h => absurd h (Nat.not_lt_zero k), fun k h => absurd h (Nat.not_lt_zero k), rfl⟩
  have h1 : Agree 0 (E.by σ) E' := ⟨fun k h => absurd h (Nat.not_lt_zero k), fun k h => absurd h (Nat.not_lt_zero k), fun k h => absurd h (Nat.not_lt_zero k), fun k h => absurd h (Nat.not_lt_zero k), fun k h => absurd h (Nat.not_lt_zero k), fun k h => absurd h (Nat.not_lt_zero k), hL.agree.f⟩
  have h2 : Agree 0 E (E.two m.nv 0 w'.heap.size) := ⟨fun k h => absurd h (Nat.not_lt_zero k), fun k h => absurd h (Nat.not_lt_zero k), fun k h => absurd h (Nat.not_lt_zero k), fun k h => absurd h (Nat.not_lt_zero k), fun k h => absurd h (Nat.not_lt_zero k), fun k h => absurd h (Nat.not_lt_zero k), hA.f⟩
  rw [dv_agree h1 hp2, dv_agree h0 hp2, dv_agree h2 hp2]
 simp only [reroot, Bool.and_eq_true] at hre
 have hents : ∀ x ∈ p.mem.heap, entOk σ m x = true := List.all_eq_true.1 hre.1.1.1.1.2
 refine ⟨_, List.mem_cons_self, E.two m.nv 0 w'.heap.size, ⟨hA, by show m.nv ≤ m.nv + 2; omega, fun h => by have h : m.nv + 2 = m.nv := h; omega⟩, by rw [hval], withoutM_ok hm hnm (F' := F') ?_ hm'.ext⟩
 rintro b ⟨x, hx, hr, rfl⟩
 obtain ⟨e0, k1, k2, hb, _, _, _, hro, _⟩ := entOk_ok hm (hents x hx)
 refine ⟨e0, k1, hro hr, ?_, hb.symm⟩
 simp only [Pat.keys, List.contains_iff_mem]
 exact List.mem_map.2 ⟨x, List.mem_filter.2 ⟨hx, by simp [hr]⟩, k2.symm⟩
noncomputable def rsO (a : Nat) (n : Nat) : List IE := (List.range n).map fun j => .var (a + j)
noncomputable def bsO : List IE := (List.range 12).map fun x => .bv (330 + x)
noncomputable def boolsO : Nat → SV → SV
 | 0, r => r
 | n + 1, r => boolsO n (.cons (.bool (.var (330 + n))) r)
noncomputable def headO (j : Nat) : HeadJ := ⟨{
 tm := slotsN 60 [(0, .sli 301 0 (.lit 0) (.lit 12) (.var 302)), (4, .bool (.lit false)), (6, .ptr 303 0 (.lit 0)), (7, .int .i64 (.lit (.ofNat j)))], mem := { know := ⟨(.var 302, 12, hi64) :: (rsO 310 12).map (fun e => (e, 0, 11)), []⟩, heap := [⟨301, 0, false, 3, .lit 0, chainI (rsO 310 12) (tailI 302 12)⟩, ⟨303, 0, false, 104, .lit 0, boolsO 12 .nil⟩], seg := 345, next := 0, nv := 350 }
 mu := .lit (.ofNat (12 - j)) }, .lit (.ofNat j) :: (rsO 310 12 ++ bsO)⟩
noncomputable def leaveO : LeaveP := { e := .normal, tm := slotsN 60 [(0, .sli 301 0 (.lit 0) (.lit 12) (.var 302)), (4, .bool (.lit false))], mem := { know := ⟨[], []⟩, heap := [], seg := 345, next := 0, nv := 350 } }
noncomputable def headsO : List HeadJ := (List.range 13).map headO
structure Seen (xs : List Int) : Prop where
 len : xs.length = 25
 j0 : 0 ≤ xs.headD 0
 nd : ((xs.drop 1).take 12).Nodup
 seen : ∀ x, x < 12 → ((xs.drop 13).getD x 0 = 1 ↔ ∃ k : Nat, (k : Int) < xs.headD 0 ∧ k < 12 ∧ ((xs.drop 1).take 12).getD k 0 = (x : Int))
noncomputable def atL (l : List IE) (j : Nat) : IE := l.getD j (.lit 0)
theorem atL_ev (E : Env) (l : List IE) (j : Nat) : (l.map (ev E)).getD j 0 = ev E (atL l j) := fT_ev E l j
noncomputable def jOf (l : List IE) : Option Nat := match l with
 | .lit (.ofNat j) :: _ => cond (Nat.blt j 12 && Nat.beq l.length 25) (some j) none
 | _ => none
noncomputable def pinN (kn : Know) (e : IE) : Option Nat := cond (zEq (rng kn.facts e).1 (rng kn.facts e).2 && (Nat.blt (rng kn.facts e).1.toNat 12 && zEq (rng kn.facts e).1 (rng kn.facts e).1.toNat)) (some (rng kn.facts e).1.toNat) none
theorem pinN_ok {E : Env} {kn : Know} (hk : KnowOk E kn) {e : IE} {x : Nat} (h : pinN kn e = some x) : x < 12 ∧ ev E e = (x : Int) := by
 unfold pinN at h
 cases hc : (zEq (rng kn.facts e).1 (rng kn.facts e).2 && (Nat.blt (rng kn.facts e).1.toNat 12 && zEq (rng kn.facts e).1 (rng kn.facts e).1.toNat)) with
 | false => rw [hc] at h; cases h
 | true =>
  rw [hc] at h
  cases h
  simp only [Bool.and_eq_true] at hc
  obtain ⟨c1, c2, c3⟩ := hc
  have c1 := zEq_ok c1
  have c3 := zEq_ok c3
  have h1 := rng_ok hk.env hk.facts e
  exact ⟨by simpa [Nat.blt_eq] using c2, by omega⟩
noncomputable def deadO (kn : Know) (old : List IE) : Bool := match jOf old with
 | some j => (match pinN kn (atL old (1 + j)) with
  | some x => (match atL old (13 + x) with
   | .bv i => yes kn (.var i)
   | _ => false)
  | none => false)
 | none => false
noncomputable def setO (old new : List IE) (x : Nat) : Bool := (List.range 12).all fun y => cond (Nat.beq x y) (ieEq (atL new (13 + y)) (.lit 1)) (ieEq (atL new (13 + y)) (atL old (13 + y)))
noncomputable def stepO (kn : Know) (old new : List IE) : Bool := match jOf old with
 | some j => Nat.beq new.length 25 && (ieEq (atL new 0) (.lit (.ofNat (j + 1))) && (allEq ((new.drop 1).take 12) ((old.drop 1).take 12) && (match pinN kn (atL old (1 + j)) with
  | some x => setO old new x
  | none => false)))
 | none => false
noncomputable def initO (kn : Know) (new : List IE) : Bool := match ghostF 751 kn.facts with
 | some l => Nat.beq new.length 25 && (ieEq (atL new 0) (.lit 0) && (allEq l ((new.drop 1).take 12) && (List.range 12).all fun y => ieEq (atL new (13 + y)) (.lit 0)))
 | none => false
theorem jOf_ok {l : List IE} {j : Nat} (h : jOf l = some j) : j < 12 ∧ l.length = 25 ∧ atL l 0 = .lit (.ofNat j) := by
 unfold jOf at h
 split at h
 ·rename_i j' r
  cases hc : (Nat.blt j' 12 && Nat.beq (IE.lit (.ofNat j') :: r).length 25) with
  | false => rw [hc] at h; cases h
  | true =>
   rw [hc] at h
   cases h
   rw [Bool.and_eq_true] at hc
   exact ⟨by simpa [Nat.blt_eq] using hc.1, Nat.eq_of_beq_eq_true hc.2, rfl⟩
 ·cases h
theorem rs_at {E : Env} {l : List IE} {k : Nat} (hk : k < 12) : (((l.map (ev E)).drop 1).take 12).getD k 0 = ev E (atL l (1 + k)) := by
 rw [List.getD_eq_getElem?_getD, List.getElem?_take_of_lt hk, List.getElem?_drop, ← List.getD_eq_getElem?_getD, atL_ev]
theorem bs_at {E : Env} {l : List IE} {x : Nat} : ((l.map (ev E)).drop 13).getD x 0 = ev E (atL l (13 + x)) := by
 rw [List.getD_eq_getElem?_getD, List.getElem?_drop, ← List.getD_eq_getElem?_getD, atL_ev]
theorem hd_at {E : Env} {l : List IE} : (l.map (ev E)).headD 0 = ev E (atL l 0) := by cases l <;> rfl
theorem deadO_ok (E : Env) (kn : Know) (old : List IE) (_ : E.f = G0) (hk : KnowOk E kn) (h : deadO kn old = true) : ¬ Seen (old.map (ev E)) := by
 intro hs
 unfold deadO at h
 split at h
 case h_2 => cases h
 rename_i j hj
 obtain ⟨j1, j2, j3⟩ := jOf_ok hj
 split at h
 case h_2 => cases h
 rename_i x hpin
 obtain ⟨hx, hrx⟩ := pinN_ok hk hpin
 split at h
 case h_2 => cases h
 rename_i i hi
 have h2 := h
 have hb : evB E (.var i) = true := yes_ok hk h2
 have hb1 : ((old.map (ev E)).drop 13).getD x 0 = 1 := by
  rw [bs_at, hi, ev_bv]
  have : E.b i = true := hb
  rw [this]
  rfl
 obtain ⟨k, k1, k2, k3⟩ := (hs.seen x hx).1 hb1
 rw [hd_at, j3, ev_lit] at k1
 have k1 : (k : Int) < (j : Int) := k1
 rw [rs_at k2] at k3
 have hlen : ((old.map (ev E)).drop 1).length = 24 := by rw [List.length_drop, List.length_map, j2]
 have hkj : (((old.map (ev E)).drop 1).take 12)[k]? = (((old.map (ev E)).drop 1).take 12)[j]? := by
  have e : ∀ q, q < 12 → (((old.map (ev E)).drop 1).take 12)[q]? = some ((((old.map (ev E)).drop 1).take 12).getD q 0) := fun q hq => by
   rw [List.getD_eq_getElem?_getD, List.getElem?_eq_getElem (by rw [List.length_take]; omega)]
   rfl
  rw [e k k2, e j j1, rs_at k2, rs_at j1, k3]
  rw [hrx]
 have hkj2 : k = j := (List.getElem?_inj (show k < (((old.map (ev E)).drop 1).take 12).length by rw [List.length_take]; omega) hs.nd).1 hkj
 have k1 : k < j := by exact_mod_cast k1
 omega
theorem stepO_ok (E : Env) (kn : Know) (old new : List IE) (_ : E.f = G0) (hk : KnowOk E kn) (h : stepO kn old new = true) (hs : Seen (old.map (ev E))) : Seen (new.map (ev E)) := by
 unfold stepO at h
 split at h
 case h_2 => cases h
 rename_i j hj
 obtain ⟨j1, j2, j3⟩ := jOf_ok hj
 rw [Bool.and_eq_true, Bool.and_eq_true, Bool.and_eq_true] at h
 obtain ⟨g1, g2, g3, g4⟩ := h
 have g1 := Nat.eq_of_beq_eq_true g1
 have g2 := ieEq_ok g2
 have g3 := allEq_ok g3
 split at g4
 case h_2 => cases g4
 rename_i x hpin
 obtain ⟨hx, hrj⟩ := pinN_ok hk hpin
 have hrs : ((new.map (ev E)).drop 1).take 12 = ((old.map (ev E)).drop 1).take 12 := by
  rw [← List.map_drop, ← List.map_take, ← List.map_drop, ← List.map_take, g3]
 refine ⟨by rw [List.length_map, g1], by rw [hd_at, g2, ev_lit]; exact Int.natCast_nonneg _, by rw [hrs]; exact hs.nd, fun y hy => ?_⟩
 have h2 := List.all_eq_true.1 g4 y (List.mem_range.2 hy)
 rw [hrs, hd_at, g2, ev_lit, bs_at]
 have hold := hs.seen y hy
 rw [hd_at, j3, ev_lit, bs_at] at hold
 cases hxy : Nat.beq x y with
 | true =>
  have hxy := Nat.eq_of_beq_eq_true hxy
  subst hxy
  rw [show Nat.beq x x = true from Nat.beq_refl x] at h2
  have h2 := ieEq_ok h2
  rw [h2, ev_lit]
  refine ⟨fun _ => ⟨j, by show (j : Int) < ((j + 1 : Nat) : Int); omega, j1, by rw [rs_at j1]; exact hrj⟩, fun _ => rfl⟩
 | false =>
  rw [hxy] at h2
  have h2 := ieEq_ok h2
  rw [h2, hold]
  constructor
  ·rintro ⟨k, k1, k2, k3⟩
   exact ⟨k, by have k1 : (k : Int) < (j : Int) := k1; show (k : Int) < ((j + 1 : Nat) : Int); omega, k2, k3⟩
  ·rintro ⟨k, k1, k2, k3⟩
   have k1 : (k : Int) < ((j + 1 : Nat) : Int) := k1
   by_cases hkj : k = j
   ·subst hkj
    rw [rs_at k2, hrj] at k3
    have : x = y := by omega
    rw [this, Nat.beq_refl] at hxy
    cases hxy
   ·exact ⟨k, by show (k : Int) < (j : Int); omega, k2, k3⟩
theorem initO_ok (E : Env) (kn : Know) (new : List IE) (hgf : E.f = G0) (hk : KnowOk E kn) (h : initO kn new = true) : Seen (new.map (ev E)) := by
 unfold initO at h
 split at h
 case h_2 => cases h
 rename_i l hl
 have h0 := ghostF_ok hk.facts hl
 rw [hgf] at h0
 have h0 := f751 h0
 rw [Bool.and_eq_true, Bool.and_eq_true, Bool.and_eq_true] at h
 obtain ⟨g1, g2, g3, g4⟩ := h
 have g1 := Nat.eq_of_beq_eq_true g1
 have g2 := ieEq_ok g2
 have g3 := allEq_ok g3
 refine ⟨by rw [List.length_map, g1], by rw [hd_at, g2, ev_lit]; exact Int.le_refl 0, by rw [← List.map_drop, ← List.map_take, ← g3]; exact h0.1, fun y hy => ?_⟩
 have h2 := ieEq_ok (List.all_eq_true.1 g4 y (List.mem_range.2 hy))
 rw [bs_at, h2, hd_at, g2, ev_lit]
 constructor
 ·intro h; cases h
 ·rintro ⟨k, k1, _⟩
  omega
noncomputable def JO : InvJ G0 := ⟨Seen, stepO, deadO, initO, stepO_ok, deadO_ok, initO_ok⟩
noncomputable def okO1 (j g : Nat) : Bool := headOkJ JO (tabJ []) cx0 (fun _ => none) none 400 2 (loopBody 2 (bodyOf Try.f25)) 300 [headO g] [leaveO] (headO j).h (headO j).sys
theorem headOkJ_sub {P : Program} {G : Gf} {J : InvJ G} {T : Tab P} {cx : CX} {bx : BX} {jm : Option Nat} {fuel id : Nat} {body : Code} {n : Nat} {heads heads' : List HeadJ} {leaves : List LeaveP} {h : HeadP} {old : List IE} (hs : ∀ x ∈ heads', x ∈ heads)
  (ho : headOkJ J T cx bx jm fuel id body n heads' leaves h old = true) : headOkJ J T cx bx jm fuel id body n heads leaves h old = true := by
 unfold headOkJ at ho ⊢
 cases hr : runC T cx bx jm fuel body (Fr.ofL h.tm) h.mem with
 | none => rw [hr] at ho; cases ho
 | some outs =>
 rw [hr] at ho
 dsimp only at ho ⊢
 rw [List.all_eq_true] at ho ⊢
 intro q hq
 have h1 := ho q hq
 cases hd : J.dead q.2.know old with
 | true => rfl
 | false =>
  rw [hd] at h1
  dsimp only [cond] at h1 ⊢
  revert h1
  split
  ·exact anyS_sub hs
  ·exact fun h => h
theorem o0 : okO1 0 1 = true := by kernel_rfl
theorem o1 : okO1 1 2 = true := by kernel_rfl
theorem o2 : okO1 2 3 = true := by kernel_rfl
theorem o3 : okO1 3 4 = true := by kernel_rfl
theorem o4 : okO1 4 5 = true := by kernel_rfl
theorem o5 : okO1 5 6 = true := by kernel_rfl
theorem o6 : okO1 6 7 = true := by kernel_rfl
theorem o7 : okO1 7 8 = true := by kernel_rfl
theorem o8 : okO1 8 9 = true := by kernel_rfl
theorem o9 : okO1 9 10 = true := by kernel_rfl
theorem o10 : okO1 10 11 = true := by kernel_rfl
theorem o11 : okO1 11 12 = true := by kernel_rfl
theorem o12 : okO1 12 12 = true := by kernel_rfl
theorem okO_all {j : Nat} (hj : j < 13) : headOkJ JO (tabJ []) cx0 (fun _ => none) none 400 2 (loopBody 2 (bodyOf Try.f25)) 300 headsO [leaveO] (headO j).h (headO j).sys = true := by
 have use : ∀ {g : Nat}, g < 13 → okO1 j g = true → headOkJ JO (tabJ []) cx0 (fun _ => none) none 400 2 (loopBody 2 (bodyOf Try.f25)) 300 headsO [leaveO] (headO j).h (headO j).sys = true := fun hg h => headOkJ_sub (fun x hx => by
  rcases List.mem_singleton.1 hx with rfl
  exact List.mem_map.2 ⟨_, List.mem_range.2 hg, rfl⟩) h
 rcases (by omega : j = 0 ∨ j = 1 ∨ j = 2 ∨ j = 3 ∨ j = 4 ∨ j = 5 ∨ j = 6 ∨ j = 7 ∨ j = 8 ∨ j = 9 ∨ j = 10 ∨ j = 11 ∨ j = 12) with rfl | rfl | rfl | rfl | rfl | rfl | rfl | rfl | rfl | rfl | rfl | rfl | rfl
 ·exact use (by decide : 1 < 13) o0
 ·exact use (by decide : 2 < 13) o1
 ·exact use (by decide : 3 < 13) o2
 ·exact use (by decide : 4 < 13) o3
 ·exact use (by decide : 5 < 13) o4
 ·exact use (by decide : 6 < 13) o5
 ·exact use (by decide : 7 < 13) o6
 ·exact use (by decide : 8 < 13) o7
 ·exact use (by decide : 9 < 13) o8
 ·exact use (by decide : 10 < 13) o9
 ·exact use (by decide : 11 < 13) o10
 ·exact use (by decide : 12 < 13) o11
 ·exact use (by decide : 12 < 13) o12
theorem loopO_ok : LxOk G0 Try.prog (25, 2, liftB 300 (loopJ JO 300 headsO [leaveO])) := lx_ok Try.func25 (c := bodyOf Try.f25) rfl (b := loopBody 2 (bodyOf Try.f25)) (by kernel_rfl) (liftB_ok (loopJ_ok JO (T := tabJ []) (cx := cx0) cx0_ok (jm := none) (fuel := 400) (noBlocks_ok _ _) (fun h hh => by
 obtain ⟨j, hj, rfl⟩ := List.mem_map.1 hh
 exact ⟨[([], [])], fun _ _ _ _ _ => ⟨_, List.mem_singleton_self _, fun _ h => absurd h List.not_mem_nil, fun _ h => absurd h List.not_mem_nil⟩, fun c hc => by
  rcases List.mem_singleton.1 hc with rfl
  exact okO_all (List.mem_range.1 hj)⟩)))
noncomputable def funO : List SV → X SV := callF (tabJ []) (spOf []) (bxOf [(25, 2, liftB 300 (loopJ JO 300 headsO [leaveO]))]) 400 12 25
theorem funO_ok : SpecOk G0 Try.prog 25 funO := callF_ok noSpecs (bxOf_ok (by
 intro y hy
 rcases List.mem_singleton.1 hy with rfl
 exact loopO_ok)) 400 12 25
abbrev Mask := Bool × Bool × Bool
noncomputable def hsO (k : Mask) : List IE := cond k.1 [.var 40] [] ++ (cond k.2.1 [.var 41] [] ++ cond k.2.2 [.var 42] [])
noncomputable def hvO (b : Bool) (v : Nat) : SV := .int .i64 (cond b (.var v) (.lit (-1)))
noncomputable def patO (k : Mask) : Pat := { args := [.sli 46 0 (.lit 0) (.lit (.ofNat (12 - (hsO k).length))) (.var 20), .sli 47 0 (.lit 0) (.lit 3) (.lit 3)], mem := { know := ⟨(.app 751 (argsE (rsO 21 (12 - (hsO k).length) ++ hsO k)), 1, 1) :: (.var 20, .ofNat (12 - (hsO k).length), hi64) :: ((rsO 21 (12 - (hsO k).length) ++ hsO k).map fun e => (e, 0, 11)), []⟩, heap := [⟨46, 0, false, 3, .lit 0, chainI (rsO 21 (12 - (hsO k).length)) (tailI 20 (.ofNat (12 - (hsO k).length)))⟩, ⟨47, 0, true, 0, .lit 0, .cons (hvO k.1 40) (.cons (hvO k.2.1 41) (.cons (hvO k.2.2 42) .nil))⟩], seg := 50, next := 0, nv := 60 }, val := .bool (.lit true) }
noncomputable def masks : List Mask := [(false, false, false), (true, false, false), (false, true, false), (false, false, true), (true, true, false), (true, false, true), (false, true, true), (true, true, true)]
noncomputable def patRunM (k : Mask) : Bool := match funO (patO k).args (patO k).mem with
 | some outs => patOkM (patO k) outs
 | none => false
theorem once_runs : masks.all patRunM = true := by kernel_rfl
noncomputable def onceL : List Mask → List SV → X SV
 | [] => fun _ _ => none
 | k :: l => orX (touchM (patO k)) (onceL l)
theorem onceL_ok : ∀ {l : List Mask}, (∀ k ∈ l, patRunM k = true) → SpecOk G0 Try.prog 25 (onceL l)
 | [], _ => fun _ _ _ _ _ _ _ _ h => by cases h
 | k :: l, h => orX_ok (by
   have h1 := h k List.mem_cons_self
   unfold patRunM at h1
   split at h1
   ·rename_i outs ho
    exact touchM_ok funO_ok (patO k) ho h1
   ·cases h1) (onceL_ok fun k hk => h k (List.mem_cons_of_mem _ hk))
noncomputable def onceX : List SV → X SV := onceL masks
theorem onceX_ok : SpecOk G0 Try.prog 25 onceX := onceL_ok (List.all_eq_true.1 once_runs)
end Go.Proofs.Ytalkfdkcimfmpaa
