/- The executor's operations, 8: append. -/
import Derived.Test.YthhjijadllpcpaaSxV
namespace Go.Sx
open Go

theorem bind_inv {α β : Type} {x : X α} {f : α → X β} {m : Mem} {outs : List (β × Mem)} (h : X.bind x f m = some outs) : ∃ l, x m = some l ∧ gather f l = some outs := by
  unfold X.bind at h
  split at h
  · cases h
  · exact ⟨_, ‹_›, h⟩
theorem ite_inv {α : Type} {c : Prop} [Decidable c] {x : X α} {m : Mem} {outs : List (α × Mem)} (h : (if c then x else X.none) m = some outs) : c ∧ x m = some outs := by
  by_cases hc : c
  · rw [if_pos hc] at h; exact ⟨hc, h⟩
  · rw [if_neg hc] at h; cases h
/-- a row put at a place in a block of its own -/
noncomputable def storeC (s k : Nat) (off : IE) (vc : SV) (n : Nat) : X Unit :=
  X.bind (findX s k) fun e => withKnow fun kn => X.bind (X.ofOption (place kn e off)) fun idx => withKnow fun kn =>
    if e.ro = false ∧ wd vc = some n ∧ flat vc = true then
      match tailPut kn vc n e.c idx with
      | some c' => putX e.s e.k c'
      | none => if fitsIn kn e.c idx = true then X.bind (rowPut e.c vc n idx) fun c' => putX e.s e.k c' else X.none
    else X.none
theorem storeC_ok {F : Nat → Prop} {w0 : World} {E : Env} {P : Program} (s k : Nat) (off : IE) (vc : SV) (n : Nat) (m : Mem) (w : World) :
    GX F w0 E (storeC s k off vc n) m w fun _ w' => (storeCells (addrOf E s k off) (dl E vc)).run P w = .ok () w' := by
  intro outs ho hm
  unfold storeC at ho
  cases hf : m.find s k with
  | none => rw [bind_zero (by simp [findX, hf, X.ofOption, X.none])] at ho; cases ho
  | some e =>
    obtain ⟨hem, hes, hek⟩ := Mem.find_ok hf
    rw [bind_one (m' := m) (a := e) (by simp [findX, hf, X.ofOption, X.pure])] at ho
    unfold withKnow at ho
    dsimp only at ho
    cases hp : place m.know e off with
    | none => rw [hp, bind_zero (by simp [X.ofOption, X.none])] at ho; cases ho
    | some idx =>
      rw [hp, bind_one (m' := m) (a := idx) (by simp [X.ofOption, X.pure])] at ho
      obtain ⟨h0, hadd⟩ := place_ok hm.know hp
      have hb : e.blk E = E.base s + k := by simp [Ent.blk, hes, hek]
      obtain ⟨⟨hro, hwd, hflat⟩, ho⟩ := ite_inv ho
      have hlen := wd_ok E vc n hwd
      obtain ⟨⟨ho0, hb0⟩, hheap⟩ := (hm.ents e hem).own hro
      have haddr : addrOf E s k off = ⟨e.blk E, (ev E idx).toNat, none⟩ := by
        rw [hes] at ho0
        simp [addrOf, hb, hadd, ho0, hb0]
      have fin : ∀ (c' : SV) (w1 : World) (m1 : Mem), MemOk F w0 E m1 w1 → e ∈ m1.heap → w1 = w → m1.nv = m.nv → (ev E idx).toNat + n ≤ (dl E e.c).length → dl E c' = (dl E e.c).take (ev E idx).toNat ++ dl E vc ++ (dl E e.c).drop ((ev E idx).toNat + n) →
          ∀ outs', putX e.s e.k c' m1 = some outs' → ∃ p ∈ outs', ∃ w', MemOk F w0 E p.2 w' ∧ p.2.nv = m.nv ∧ (storeCells (addrOf E s k off) (dl E vc)).run P w = .ok () w' := by
        rintro c' w1 m1 hm1 he1 rfl hnv hfit hc' outs' ho'
        rw [putX_eq hm1 he1 hro] at ho'
        cases ho'
        refine ⟨_, List.mem_cons_self, w1.setRow (e.blk E) (dl E c').toArray, hm1.put he1 hro c', hnv, ?_⟩
        have hstore := run_storeCells_at P (e.blk E) (ev E idx).toNat e.t (dl E vc) 0 (dl E e.c).toArray w1 hheap (by rw [hlen]; simpa using hfit) (flat_ok E vc hflat)
        rw [haddr, hstore]
        simp only [hlen, hc', Nat.add_zero]
      cases ht : tailPut m.know vc n e.c idx with
      | some c' =>
        rw [ht] at ho
        obtain ⟨_, h2, h3⟩ := tailPut_ok hm.know hlen _ _ _ ht
        exact fin c' w m hm hem rfl rfl h2 h3 outs ho
      | none =>
        rw [ht] at ho
        obtain ⟨hN, ho⟩ := ite_inv ho
        have hcl : (ev E idx).toNat ≤ (dl E e.c).length := by
          unfold fitsIn at hN
          have p := rng_ok hm.know.env hm.know.facts idx
          have q := wdLo_ok hm.know e.c
          simp only [Bool.and_eq_true, decide_eq_true_eq] at hN
          omega
        have hrow := rowPut_ok (F := F) (w0 := w0) (E := E) e.c vc n idx h0 hcl hlen m w
        unfold X.bind at ho
        cases hr : rowPut e.c vc n idx m with
        | none => rw [hr] at ho; cases ho
        | some l =>
          rw [hr] at ho
          dsimp only at ho
          obtain ⟨p, hpl, w1, hm1, hnv, rfl, _, hfit, hc'⟩ := hrow l hr hm
          obtain ⟨k1, k2, k3⟩ := Keeps.rowPut e.c vc n idx m l hr p hpl
          obtain ⟨l', e', hs⟩ := gather_mem ho p hpl
          obtain ⟨q, hq, w', hq1, hq2, hq3⟩ := fin p.1 w1 p.2 hm1 (by rw [k1]; exact hem) rfl hnv hfit hc' l' e'
          exact ⟨q, hs q hq, w', hq1, hq2, hq3⟩

/- the zeros behind what is appended -/
def uniI : SV → Option IntKind
  | .cons (.int k (.lit z)) r => if z = 0 then (match r with
    | .nil => some k
    | r => match uniI r with
      | some k' => if k' = k then some k else none
      | none => none) else none
  | _ => none
theorem uniI_ok (E : Env) : ∀ (c : SV) (k : IntKind), uniI c = some k → ∀ v ∈ dl E c, v = .int k 0 := by
  intro c
  induction c with
  | cons a r _ ih =>
    intro k h v hv
    unfold uniI at h
    split at h
    · rename_i k' z r' heq
      cases heq
      split at h
      case isFalse => cases h
      rename_i hz
      subst hz
      simp only [dl, List.mem_append, List.mem_cons, List.not_mem_nil, or_false] at hv
      split at h
      · cases h
        rcases hv with rfl | hv
        · rfl
        · cases hv
      · split at h
        · rename_i k2 hk2
          split at h
          · rename_i he
            cases h
            subst he
            rcases hv with rfl | hv
            · rfl
            · exact ih _ hk2 v hv
          · cases h
        · cases h
    · cases h
  | _ => intro k h; simp [uniI] at h
def tailC (zc : SV) (z : Nat) (d : IE) : SV :=
  match uniI zc with
  | some k => .cons (.arr k 0 (mkMul d (.lit z)) .nil) .nil
  | none => .cons (.rep zc d) .nil
theorem tailC_ok {E : Env} {zc : SV} {z : Nat} {d : IE} (hz : (dl E zc).length = z) (h0 : 0 < z) (hd : 0 ≤ ev E d) : dl E (tailC zc z d) = (List.replicate (ev E d).toNat (dl E zc)).flatten := by
  unfold tailC
  split
  · rename_i k hk
    have hall := uniI_ok E zc k hk
    have e1 : (ev E (mkMul d (.lit z))).toNat = (ev E d).toNat * z := by
      rw [mkMul_ok, ev_lit, Int.toNat_mul hd (by omega), Int.toNat_natCast]
    simp only [dl, List.append_nil, e1]
    refine List.ext_getElem? fun j => ?_
    by_cases hj : j < (ev E d).toNat * z
    · rw [arrCells_get _ _ _ _ _ _ hj, flat_get (by omega) _ _ (by rw [hz]; exact hj)]
      have hm : j % (dl E zc).length < (dl E zc).length := Nat.mod_lt _ (by omega)
      rw [List.getElem?_eq_getElem hm, hall _ (List.getElem_mem hm)]
      simp [wsVal, Env.row]
    · rw [List.getElem?_eq_none (by rw [arrCells_len]; omega), List.getElem?_eq_none (by rw [flat_len, hz]; omega)]
  · simp [dl]

/-- an environment with one number more -/
def Env.one (E : Env) (n : Nat) (x : Int) : Env := { E with i := fun k => if k = n then x else E.i k }
theorem one_agree (E : Env) (n : Nat) (x : Int) : Agree n E (E.one n x) := by
  refine ⟨fun k hk => ?_, fun _ _ => rfl, fun _ _ => rfl, fun _ _ => rfl, fun _ _ => rfl, fun _ _ => rfl, rfl⟩
  simp only [Env.one]; rw [if_neg (by omega)]
noncomputable def growM (e : Nat) (zc : SV) (z : Nat) (need : IE) (olds news : SV) : X SV := fun m => match m with
  | ⟨⟨fs, cs⟩, h, sg, nx, nv⟩ =>
    if Mem.nm nv ⟨⟨fs, cs⟩, h, sg, nx, nv⟩ && olds.nm nv && news.nm nv && need.nm nv && zc.nm nv && Nat.blt sg nv then
      nfI (mkSub (.var nv) need) fun d => nfL nfFact [(.var nv, (rng fs need).1, hi64), (d, 0, hi64)] fun l => nfN (nv + 1) fun nv' => nfSp (l ++ fs) fun fs' =>
        (X.bind (allocX e (appC olds (appC news (tailC zc z d)))) fun p => match p with
          | .ptr s k off => X.pure (.sli s k off need (.var nv))
          | _ => X.none) ⟨⟨fs', cs⟩, h, sg, nx, nv'⟩
    else none
theorem growM_ok {F : Nat → Prop} {w0 : World} {E : Env} (e : Nat) (zc : SV) (z : Nat) (need : IE) (olds news : SV) (m : Mem) (w : World) {outs : List (SV × Mem)} (ho : growM e zc z need olds news m = some outs) (hm : MemOk F w0 E m w)
    (hz : ∀ E, (dl E zc).length = z) (h0 : 0 < z) (hn0 : 0 ≤ ev E need) (x : Nat) (hx : ev E need ≤ x) (hx2 : (x : Int) ≤ hi64) {zv : Value} (hzv : ∀ E, zv.cells = (dl E zc).toArray) :
    ∃ p ∈ outs, ∃ E', Later m.nv p.2.nv E E' ∧ MemOk F w0 E' p.2 (w.drew.alloc (.cells ((dl E olds).toArray ++ (dl E news).toArray ++ Builtin.zeroCells zv.cells (x - (ev E need).toNat)) e)) ∧
      dv E' p.1 = .slice (some ⟨w.heap.size, 0, none⟩) (ev E need).toNat x := by
  obtain ⟨⟨fs, cs⟩, h, sg, nx, nv⟩ := m
  unfold growM at ho
  dsimp only at ho
  split at ho
  case isFalse => cases ho
  rename_i hc
  simp only [Bool.and_eq_true] at hc
  obtain ⟨⟨⟨⟨⟨c1, c2⟩, c3⟩, c4⟩, c5⟩, c6⟩ := hc
  have c6 : sg < nv := by simpa [Nat.blt_eq] using c6
  rw [nfI_eq, nfL_eq (fun _ _ => nfFact_eq _ _), nfN_eq, nfSp_eq] at ho
  have hA := one_agree E nv x
  have rn := rng_ok hm.know.env hm.know.facts need
  have eneed : ev (E.one nv x) need = ev E need := ev_agree hA c4
  have evar : ev (E.one nv x) (.var nv) = x := by show (E.one nv x).i nv = _; simp [Env.one]
  have hE : (E.one nv x).Ok := by
    refine ⟨fun k => ?_, hm.know.env.l, hm.know.env.f⟩
    simp only [Env.one]
    split
    · exact ⟨by simp only [lo64]; omega, hx2⟩
    · exact hm.know.env.i k
  have hm1 : MemOk F w0 (E.one nv x) ⟨⟨fs, cs⟩, h, sg, nx, nv + 1⟩ w.drew := by
    refine hm.moved c1 hA hE (w' := w.drew) ⟨rfl, rfl, rfl, Nat.le_refl _, fun _ _ _ => rfl⟩ (sg := sg) (nx := nx) (nv := nv + 1) ?_ ?_
    · exact hm.size
    · exact hm.seg0
  have hm2 : MemOk F w0 (E.one nv x) ⟨⟨[(.var nv, (rng fs need).1, hi64), (mkSub (.var nv) need, 0, hi64)] ++ fs, cs⟩, h, sg, nx, nv + 1⟩ w.drew := by
    refine ⟨⟨hm1.know.env, ?_, hm1.know.conds⟩, hm1.size, hm1.ents, hm1.apart, hm1.mine, hm1.ext, hm1.seg0⟩
    intro f hf
    rcases List.mem_append.1 hf with hf | hf
    · simp only [List.mem_cons, List.not_mem_nil, or_false] at hf
      rcases hf with rfl | rfl
      · unfold FactOk
        dsimp only at rn ⊢
        rw [evar]; omega
      · unfold FactOk
        dsimp only
        rw [mkSub_ok, evar, eneed]; omega
    · exact hm1.know.facts f hf
  obtain ⟨p, hp, w', hmw, hnv, hw, hv⟩ := alloc_sli e _ need (.var nv) _ w.drew outs ho hm2
  have hd : 0 ≤ ev (E.one nv x) (mkSub (.var nv) need) := by rw [mkSub_ok, evar, eneed]; omega
  have hdn : (ev (E.one nv x) (mkSub (.var nv) need)).toNat = x - (ev E need).toNat := by rw [mkSub_ok, evar, eneed]; omega
  have hcells : (dl (E.one nv x) (appC olds (appC news (tailC zc z (mkSub (.var nv) need))))).toArray = (dl E olds).toArray ++ (dl E news).toArray ++ Builtin.zeroCells zv.cells (x - (ev E need).toNat) := by
    rw [appC_ok, appC_ok, dl_agree hA olds c2, dl_agree hA news c3, tailC_ok (hz _) h0 hd, hdn]
    have e1 : Builtin.zeroCells zv.cells (x - (ev E need).toNat) = ((List.replicate (x - (ev E need).toNat) (dl (E.one nv x) zc)).flatten).toArray := by
      rw [made_times (by rw [hz]; exact h0), ← hzv]
      unfold Builtin.zeroCells madeCells
      rw [hzv (E.one nv x)]
      simp
    rw [e1]
    apply Array.ext'
    simp [List.append_assoc]
  refine ⟨p, hp, E.one nv x, ⟨hA, by rw [hnv]; exact Nat.le_succ _, fun he => by rw [hnv] at he; dsimp only at he; omega⟩, ?_, ?_⟩
  · rw [← hcells, ← hw]; exact hmw
  · rw [hv, eneed, evar]
    show Value.slice (some ⟨w.heap.size, 0, none⟩) _ _ = _
    rw [Int.toNat_natCast]

def sliParts : SV → Option (Option (Nat × Nat × IE) × IE × IE)
  | .nils => some (none, .lit 0, .lit 0)
  | .sli s k off len cap => some (some (s, k, off), len, cap)
  | _ => none
theorem sliParts_ok {E : Env} {v : SV} {p : Option (Nat × Nat × IE)} {len cap : IE} (h : sliParts v = some (p, len, cap)) : dv E v = .slice (baseV E p) (ev E len).toNat (ev E cap).toNat ∧ (p = none → len = .lit 0 ∧ cap = .lit 0) := by
  unfold sliParts at h
  split at h <;> cases h
  · exact ⟨rfl, fun _ => ⟨rfl, rfl⟩⟩
  · exact ⟨rfl, fun h => (by cases h)⟩
def sliOf (p : Option (Nat × Nat × IE)) (len cap : IE) : SV :=
  match p with
  | none => .nils
  | some (s, k, off) => .sli s k off len cap
noncomputable def appS {P : Program} (T : Tab P) (e : Nat) (s x : SV) : X SV :=
  match sliParts s, sliParts x, zeroRow T e, T.byt e with
  | some (ps, len, cap), some (px, n, _), some (zc, z), some by_ => withKnow fun kn =>
    if nonneg kn len = true ∧ nonneg kn n = true ∧ nonneg kn cap = true ∧ isLe kn len cap = true then
      X.bind (branch (mkLt kn cap (mkAdd len n))) fun grow =>
        if grow then
          X.bind (rowsOf ps (mkMul len (.lit z))) fun olds => X.bind (rowsOf px (mkMul n (.lit z))) fun news => withKnow fun kn =>
            if by_ * (rng kn.facts (mkAdd len n)).2 ≤ 140737488355328 ∧ (rng kn.facts (mkAdd len n)).2 ≤ hi64 then growM e zc z (mkAdd len n) olds news else X.none
        else withKnow fun kn =>
          if (rng kn.facts n).2 ≤ 0 then X.pure (sliOf ps (mkAdd len n) cap)
          else match ps with
            | some (s, k, off) => X.bind (rowsOf px (mkMul n (.lit z))) fun news => match wd news with
              | some N => withKnow fun kn => if nonneg kn off = true then X.bind (storeC s k (mkAdd off (mkMul len (.lit z))) news N) fun _ => X.pure (.sli s k off (mkAdd len n) cap) else X.none
              | none => X.none
            | none => X.none
    else X.none
  | _, _, _, _ => X.none

section
variable {P : Program}
theorem run_append_none (w : World) (t ty e : TypeId) (i : TypeInfo) (ht : P.underlying t = some (.slice e)) (hi : P.info? e = some i) (b : Option Addr) (sLen sCap : Nat) (bx : Option Addr) (c : Nat) (hl : sLen ≤ sCap) :
    (Builtin.append_ #[t, t] ty #[.slice b sLen sCap, .slice bx 0 c]).run P w = .ok (.slice b sLen sCap) w := by
  have hf : (Builtin.firstCells i.size 0 (.slice bx 0 c)).run P w = .ok #[] w := by
    cases bx with
    | none => exact run_firstCells_none w _ _ _ _
    | some a => exact run_firstCells_some w i.size 0 a 0 c [] (by simp) (by simp)
  have hf2 : (Builtin.firstCells (i.size) 0 (.slice bx 0 c)) = Builtin.firstCells i.size 0 (.slice bx 0 c) := rfl
  cases b with
  | none => simp [Builtin.append_, run_underlying ht, sizeOf, typeInfo, hi, Builtin.lenOf, hl, hf]
  | some a => simp [Builtin.append_, run_underlying ht, sizeOf, typeInfo, hi, Builtin.lenOf, hl, hf, storeCells]
theorem run_append_in (w w' : World) (t ty e : TypeId) (i : TypeInfo) (ht : P.underlying t = some (.slice e)) (hi : P.info? e = some i) (b : Addr) (sLen sCap : Nat) (a : Addr) (m c : Nat) (news : List Value)
    (hl : news.length = m * i.size) (hnews : ∀ j u, news[j]? = some u → w.cell? (a.add j) = some u) (hroom : sLen + m ≤ sCap)
    (hst : (storeCells (b.add (sLen * i.size)) news).run P w = .ok () w') :
    (Builtin.append_ #[t, t] ty #[.slice (some b) sLen sCap, .slice (some a) m c]).run P w = .ok (.slice (some b) (sLen + m) sCap) w' := by
  have hf := run_firstCells_some (P := P) w i.size m a m c news hl hnews
  simp [Builtin.append_, run_underlying ht, sizeOf, typeInfo, hi, Builtin.lenOf, hroom, hf, hst]
end

theorem appS_ok {F : Nat → Prop} {w0 : World} {E : Env} {P : Program} (T : Tab P) {t e : Nat} (ht : P.underlying t = some (.slice e)) (ty : Nat) (s x : SV) (m : Mem) (w : World) {outs : List (SV × Mem)} (ho : appS T e s x m = some outs) (hm : MemOk F w0 E m w) :
    ∃ p ∈ outs, ∃ E' w', Later m.nv p.2.nv E E' ∧ MemOk F w0 E' p.2 w' ∧ (Builtin.append_ #[t, t] ty #[dv E s, dv E x]).run P w = .ok (dv E' p.1) w' := by
  unfold appS at ho
  rcases hs : sliParts s with _ | ⟨ps, len, cap⟩
  · rw [hs] at ho; cases ho
  rcases hx : sliParts x with _ | ⟨px, n, xc⟩
  · rw [hs, hx] at ho; cases ho
  rcases hz : zeroRow T e with _ | ⟨zc, z⟩
  · rw [hs, hx, hz] at ho; cases ho
  rcases hby : T.byt e with _ | by_
  · rw [hs, hx, hz, hby] at ho; cases ho
  rw [hs, hx, hz, hby] at ho
  dsimp only at ho
  obtain ⟨i, zv, hi, hzv, rfl, hpos, hcells⟩ := zeroRow_ok hz
  obtain ⟨es, esn⟩ := sliParts_ok (E := E) hs
  obtain ⟨ex, exn⟩ := sliParts_ok (E := E) hx
  have hbytes : i.bytes = by_ := by
    have := T.byt_ok _ _ hby
    rw [hi] at this
    simpa using this
  unfold withKnow at ho
  obtain ⟨⟨c1, c2, c3, c4⟩, ho⟩ := ite_inv ho
  have l0 := nonneg_ok hm.know c1
  have n0 := nonneg_ok hm.know c2
  have k0 := nonneg_ok hm.know c3
  have lc := isLe_ok hm.know c4
  have elt := mkLt_ok hm.know cap (mkAdd len n)
  rw [mkAdd_ok] at elt
  have mulNat : ∀ (a : IE), 0 ≤ ev E a → (ev E (mkMul a (.lit i.size))).toNat = (ev E a).toNat * i.size := by
    intro a ha
    rw [mkMul_ok, ev_lit, Int.toNat_mul ha (by omega), Int.toNat_natCast]
  -- the two ways
  obtain ⟨l, hl, ho⟩ := bind_inv ho
  obtain ⟨p, hp, w1, hm1, hnv1, rfl, hgv⟩ := branch_ok _ m w l hl hm
  obtain ⟨l', e', hsub⟩ := gather_mem ho p hp
  rw [elt] at hgv
  have back : (∃ q ∈ l', ∃ E' w', Later m.nv q.2.nv E E' ∧ MemOk F w0 E' q.2 w' ∧ (Builtin.append_ #[t, t] ty #[dv E s, dv E x]).run P w1 = .ok (dv E' q.1) w') →
      ∃ p ∈ outs, ∃ E' w', Later m.nv p.2.nv E E' ∧ MemOk F w0 E' p.2 w' ∧ (Builtin.append_ #[t, t] ty #[dv E s, dv E x]).run P w1 = .ok (dv E' p.1) w' := by
    rintro ⟨q, hq, r⟩; exact ⟨q, hsub q hq, r⟩
  apply back
  rw [es, ex]
  cases hg : p.1 with
  | true =>
    rw [hg] at hgv e'
    replace e' : (X.bind (rowsOf ps (mkMul len (.lit i.size))) fun olds => X.bind (rowsOf px (mkMul n (.lit i.size))) fun news => withKnow fun kn =>
            if by_ * (rng kn.facts (mkAdd len n)).2 ≤ 140737488355328 ∧ (rng kn.facts (mkAdd len n)).2 ≤ hi64 then growM e zc i.size (mkAdd len n) olds news else X.none) p.2 = some l' := e'
    have hlt : ev E cap < ev E len + ev E n := of_decide_eq_true hgv.symm
    -- what was there, what comes
    obtain ⟨l1, hl1, e'⟩ := bind_inv e'
    obtain ⟨p1, hp1, w2, hm2, hnv2, rfl, hol, hoc⟩ := rowsOf_ok ps (mkMul len (.lit i.size)) p.2 w1 l1 hl1 hm1
    obtain ⟨l2, e2, s2⟩ := gather_mem e' p1 hp1
    obtain ⟨l3, hl3, e2⟩ := bind_inv e2
    obtain ⟨p2, hp2, w3, hm3, hnv3, rfl, hnl, hnc⟩ := rowsOf_ok px (mkMul n (.lit i.size)) p1.2 w2 l3 hl3 hm2
    obtain ⟨l4, e4, s4⟩ := gather_mem e2 p2 hp2
    unfold withKnow at e4
    obtain ⟨hfit, e4⟩ := ite_inv e4
    have rn := rng_ok hm3.know.env hm3.know.facts (mkAdd len n)
    rw [mkAdd_ok] at rn
    rw [mulNat len l0] at hol
    rw [mulNat n n0] at hnl
    have hneed : (ev E (mkAdd len n)).toNat = (ev E len).toNat + (ev E n).toNat := by rw [mkAdd_ok]; omega
    have hh : hi64 = 9223372036854775807 := rfl
    have hf1 := hfit.1
    have hf2 := hfit.2
    rw [hh] at hf2
    have hmul : (i.bytes : Int) * (ev E len + ev E n) ≤ 140737488355328 := by
      rw [hbytes]
      exact Int.le_trans (Int.mul_le_mul_of_nonneg_left rn.2 (by omega)) hf1
    have hmulN : ((ev E len).toNat + (ev E n).toNat) * i.bytes ≤ 140737488355328 := by
      have : ((((ev E len).toNat + (ev E n).toNat) * i.bytes : Nat) : Int) = (i.bytes : Int) * (ev E len + ev E n) := by
        rw [Int.natCast_mul, Int.natCast_add, Int.toNat_of_nonneg l0, Int.toNat_of_nonneg n0, Int.mul_comm]
      omega
    have hmax : (ev E len).toNat + (ev E n).toNat ≤ maxLen := by simp only [maxLen]; omega
    have grown : ∀ old : Nat, ∃ q ∈ l4, ∃ E', Later p2.2.nv q.2.nv E E' ∧ MemOk F w0 E' q.2 (w3.drew.alloc (.cells ((dl E p1.1).toArray ++ (dl E p2.1).toArray ++ Builtin.zeroCells zv.cells (grownCap w3 ((ev E len).toNat + (ev E n).toNat) old e - ((ev E len).toNat + (ev E n).toNat))) e)) ∧
        dv E' q.1 = .slice (some ⟨w3.heap.size, 0, none⟩) ((ev E len).toNat + (ev E n).toNat) (grownCap w3 ((ev E len).toNat + (ev E n).toNat) old e) := by
      intro old
      have g1 := grownCap_ge w3 ((ev E len).toNat + (ev E n).toNat) old e
      have g2 := grownCap_le_maxLen w3 ((ev E len).toNat + (ev E n).toNat) old e hmax
      have := growM_ok e zc i.size (mkAdd len n) p1.1 p2.1 p2.2 w3 e4 hm3 (fun E => (hcells E).2) hpos (by rw [mkAdd_ok]; omega) (grownCap w3 ((ev E len).toNat + (ev E n).toNat) old e) (by rw [mkAdd_ok]; omega) (by simp only [maxLen] at g2; rw [hh]; omega) (fun E => (hcells E).1)
      rw [hneed] at this
      exact this
    have nvs : p2.2.nv = m.nv := by rw [hnv3, hnv2, hnv1]
    have done : ∀ (old : Nat) (r : Result Value), r = .ok (.slice (some ⟨w3.heap.size, 0, none⟩) ((ev E len).toNat + (ev E n).toNat) (grownCap w3 ((ev E len).toNat + (ev E n).toNat) old e)) (w3.drew.alloc (.cells ((dl E p1.1).toArray ++ (dl E p2.1).toArray ++ Builtin.zeroCells zv.cells (grownCap w3 ((ev E len).toNat + (ev E n).toNat) old e - ((ev E len).toNat + (ev E n).toNat))) e)) →
        ∃ q ∈ l', ∃ E' w', Later m.nv q.2.nv E E' ∧ MemOk F w0 E' q.2 w' ∧ r = .ok (dv E' q.1) w' := by
      intro old r hr
      obtain ⟨q, hq, E', hL, hmq, hdv⟩ := grown old
      exact ⟨q, s2 q (s4 q hq), E', _, nvs ▸ hL, hmq, by rw [hr, hdv]⟩
    cases px with
    | none =>
      obtain ⟨h1, _⟩ := exn rfl
      subst h1
      rw [ev_lit] at hlt
      omega
    | some a =>
      cases ps with
      | none =>
        obtain ⟨h1, h2⟩ := esn rfl
        subst h1
        subst h2
        have e0 : dl E p1.1 = [] := hoc
        have hl0 : (ev E (.lit 0)).toNat = 0 := rfl
        rw [hl0] at done hmax hmulN ⊢
        refine done 0 _ ?_
        rw [e0]
        simp only [Nat.zero_add] at hmulN ⊢
        rw [show (#[] : Array Value) = ([] : List Value).toArray from rfl] 
        have := run_append_nil (P := P) w3 t ty e i zv ht hi hzv (addrOf E a.1 a.2.1 a.2.2) (ev E n).toNat (ev E xc).toNat (dl E p2.1) hnl hnc (by rw [ev_lit] at hlt; omega) (by rw [ev_lit] at rn; omega) (by omega)
        rw [show baseV E none = none from rfl, show baseV E (some a) = some (addrOf E a.1 a.2.1 a.2.2) from rfl, this]
        simp
      | some b =>
        refine done (ev E cap).toNat _ ?_
        exact run_append_grow (P := P) w3 t ty e i zv ht hi hzv (addrOf E b.1 b.2.1 b.2.2) (ev E len).toNat (ev E cap).toNat (dl E p1.1) hol hoc (addrOf E a.1 a.2.1 a.2.2) (ev E n).toNat (ev E xc).toNat (dl E p2.1) hnl hnc (by omega) (by omega) (growslice_fits (by omega) hmulN)
  | false =>
    rw [hg] at hgv e'
    rw [if_neg (by simp)] at e'
    dsimp only at e'
    have hle : ¬ ev E cap < ev E len + ev E n := of_decide_eq_false hgv.symm
    by_cases hn : (rng p.2.know.facts n).2 ≤ 0
    · rw [if_pos hn] at e'
      cases e'
      have rn := rng_ok hm1.know.env hm1.know.facts n
      have hn0 : (ev E n).toNat = 0 := by omega
      refine ⟨_, List.mem_cons_self, E, w1, Later.of hnv1 E, hm1, ?_⟩
      rw [hn0, run_append_none w1 t ty e i ht hi _ _ _ _ _ (by omega)]
      congr 1
      cases ps with
      | none =>
        obtain ⟨h1, h2⟩ := esn rfl
        subst h1; subst h2; rfl
      | some b =>
        show _ = Value.slice (some (addrOf E b.1 b.2.1 b.2.2)) (ev E (mkAdd len n)).toNat (ev E cap).toNat
        rw [mkAdd_ok, show (ev E len + ev E n).toNat = (ev E len).toNat by omega]
        rfl
    · rw [if_neg hn] at e'
      rcases ps with _ | ⟨s', k', off⟩
      · cases e'
      obtain ⟨l1, hl1, e'⟩ := bind_inv e'
      obtain ⟨p1, hp1, w2, hm2, hnv2, rfl, hnl, hnc⟩ := rowsOf_ok px (mkMul n (.lit i.size)) p.2 w1 l1 hl1 hm1
      obtain ⟨l2, e2, s2⟩ := gather_mem e' p1 hp1
      rw [mulNat n n0] at hnl
      rcases hN : wd p1.1 with _ | N
      · rw [hN] at e2; cases e2
      rw [hN] at e2
      replace e2 : (withKnow fun kn => if nonneg kn off = true then X.bind (storeC s' k' (mkAdd off (mkMul len (.lit i.size))) p1.1 N) fun _ => X.pure (.sli s' k' off (mkAdd len n) cap) else X.none) p1.2 = some l2 := e2
      unfold withKnow at e2
      obtain ⟨hoff, e2⟩ := ite_inv e2
      have off0 := nonneg_ok hm2.know hoff
      obtain ⟨l3, hl3, e2⟩ := bind_inv e2
      obtain ⟨p2, hp2, w3, hm3, hnv3, hst⟩ := storeC_ok (P := P) s' k' (mkAdd off (mkMul len (.lit i.size))) p1.1 N p1.2 w2 l3 hl3 hm2
      obtain ⟨l4, e4, s4⟩ := gather_mem e2 p2 hp2
      cases e4
      refine ⟨_, s2 _ (s4 _ List.mem_cons_self), E, w3, Later.of (by rw [hnv3, hnv2, hnv1]) E, hm3, ?_⟩
      have hadr : addrOf E s' k' (mkAdd off (mkMul len (.lit i.size))) = (addrOf E s' k' off).add ((ev E len).toNat * i.size) :=
        (addrOf_add off0 _ _ (by rw [mkMul_ok, ev_lit, Int.natCast_mul, Int.toNat_of_nonneg l0])).symm
      rw [hadr] at hst
      have eb : baseV E (some (s', k', off)) = some (addrOf E s' k' off) := rfl
      have er : dv E (.sli s' k' off (mkAdd len n) cap) = .slice (some (addrOf E s' k' off)) ((ev E len).toNat + (ev E n).toNat) (ev E cap).toNat := by
        show Value.slice _ (ev E (mkAdd len n)).toNat _ = _
        rw [mkAdd_ok, show (ev E len + ev E n).toNat = (ev E len).toNat + (ev E n).toNat by omega]
      rw [eb, er]
      cases px with
      | none =>
        obtain ⟨h1, _⟩ := exn rfl
        subst h1
        have rn := rng_ok hm1.know.env hm1.know.facts (IE.lit 0)
        exact absurd (by show (0 : Int) ≤ 0; decide) hn
      | some a =>
        exact run_append_in w2 w3 t ty e i ht hi (addrOf E s' k' off) (ev E len).toNat (ev E cap).toNat (addrOf E a.1 a.2.1 a.2.2) (ev E n).toNat (ev E xc).toNat (dl E p1.1) hnl hnc (by omega) hst
end Go.Sx
