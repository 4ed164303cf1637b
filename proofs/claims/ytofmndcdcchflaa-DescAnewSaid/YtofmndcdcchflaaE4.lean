/- The executor, part 4. -/
import Derived.Test.YtofmndcdcchflaaE3
import GoSem.ClaimWide
import Derived.WalkKit
import Derived.ProofKit
import Derived.OpenShut
import Derived.Lib.SmallJoins
import Derived.Deep.Slices
import Derived.Deep.Fields
import Derived.ChangeSame
import Derived.SizedLaws
namespace Go.Sx
open Go
noncomputable def instA (σ : Sub) (base : SV) : SV → Option SV
 | .nil => some base
 | .wr i x ws => match instI σ i, instI σ x, instA σ base ws with
  | some i, some x, some ws => some (.wr i x ws)
  | _, _, _ => none
 | _ => none
theorem instA_ok {E : Env} {σ : Sub} {r r' : Nat} {N : IE} {ws' : SV} (hl : look r σ.l = some (r', N, ws')) (hr0 : ¬ fixR r) : ∀ (ws v : SV), instA σ ws' ws = some v → ∀ j, j < (ev E N).toNat → wsVal (E.by σ) r ws j = wsVal E r' v j := by
 intro ws
 induction ws with
 | nil =>
  intro v h j hj
  cases h
  simp only [wsVal]
  rw [Env.row_l hr0]
  simp [Env.by, hl, List.getD_eq_getElem?_getD, hj]
 | wr i x ws ih =>
  intro v h j hj
  unfold instA at h
  split at h
  ·rename_i i' x' w' h1 h2 h3
   cases h
   simp only [wsVal, instI_ev h1, instI_ev h2, ih _ h3 j hj]
  ·cases h
 | _ => intro v h; simp [instA] at h
noncomputable def instT (σ : Sub) : SV → Option SV
 | .agg c => (instT σ c).map .agg
 | .tup c => (instT σ c).map .tup
 | .cons a b => inst2S .cons (instT σ a) (instT σ b)
 | .arr k r n ws => match (if fixR r then none else look r σ.l) with
  | some (_, N, ws') => match N, instI σ n, instA σ ws' ws with
   | .lit M, some (.lit z), some v => if z.toNat ≤ M.toNat then (match look r σ.l with | some (r', _, _) => some (.arr k r' (.lit z) v) | none => none) else none
   | _, _, _ => none
  | none => instS σ (.arr k r n ws)
 | v => instS σ v
theorem instT_ok (E : Env) (σ : Sub) : ∀ (v v' : SV), v.plain = true → instT σ v = some v' → dl (E.by σ) v = dl E v' := by
 intro v
 induction v with
 | agg c ih => intro v' hp h; simp only [instT, Option.map_eq_some_iff] at h; obtain ⟨a', h1, rfl⟩ := h; simp only [dl, ih _ hp h1]
 | tup c ih => intro v' hp h; simp only [instT, Option.map_eq_some_iff] at h; obtain ⟨a', h1, rfl⟩ := h; simp only [dl, ih _ hp h1]
 | cons a b iha ihb =>
  intro v' hp h
  simp only [SV.plain, Bool.and_eq_true] at hp
  obtain ⟨x, y, h1, h2, rfl⟩ := inst2S_ok h
  simp only [dl, iha _ hp.1 h1, ihb _ hp.2 h2]
 | arr k r n ws _ =>
  intro v' hp h
  unfold instT at h
  split at h
  ·rename_i r0 N ws' hl
   split at h
   case h_2 => cases h
   rename_i M z v hn hv
   by_cases hr0 : fixR r
   ·rw [if_pos hr0] at hl; cases hl
   rw [if_neg hr0] at hl
   split at h
   case isFalse => cases h
   rename_i hz
   rw [hl] at h
   cases h
   simp only [dl, instI_ev hn, ev_lit]
   unfold arrCells
   refine List.map_congr_left fun j hj => ?_
   have hj : j < (ev E (.lit M)).toNat := by have := List.mem_range.1 hj; rw [ev_lit]; omega
   rw [instA_ok hl hr0 ws v hv j hj]
  ·exact instS_ok E σ _ _ hp h
 | _ => intro v' hp h; exact instS_ok E σ _ _ hp (by unfold instT at h; exact h)
theorem evp_same {E E' : Env} (hi : E.i = E'.i) (hb : E.b = E'.b) (hl : E.l = E'.l) (hf : E.f = E'.f) : ∀ e : IE, evp E e = evp E' e := by
 intro e
 induction e with
 | var i => simp only [evp, hi]
 | bv i => simp only [evp, hb]
 | sel r i ih => simp only [evp, ih, Env.row, hl, hf]
 | app f x ih => simp only [evp, ih, hf]
 | _ => simp only [evp, *]
theorem evB_same {E E' : Env} (hi : E.i = E'.i) (hb : E.b = E'.b) (hl : E.l = E'.l) (hf : E.f = E'.f) : ∀ c : BE, evB E c = evB E' c := by
 intro c
 induction c with
 | var i => simp only [evB, hb]
 | lt a b => unfold evB ev; rw [evp_same hi hb hl hf a, evp_same hi hb hl hf b]
 | eq a b => unfold evB ev; rw [evp_same hi hb hl hf a, evp_same hi hb hl hf b]
 | not a ih => simp only [evB, ih]
 | _ => rfl
theorem wsVal_same {E E' : Env} (hi : E.i = E'.i) (hb : E.b = E'.b) (hl : E.l = E'.l) (hf : E.f = E'.f) (r : Nat) : ∀ (ws : SV) (j : Nat), wsVal E r ws j = wsVal E' r ws j := by
 intro ws
 induction ws with
 | wr i x ws ih => intro j; unfold wsVal ev; rw [evp_same hi hb hl hf i, evp_same hi hb hl hf x, ih]
 | _ => intro j; simp only [wsVal, Env.row, hl, hf]
noncomputable def blkS (σ : Sub) : SV → Option SV
 | .int k e => some (.int k e)
 | .bool b => some (.bool b)
 | .arr k r n ws => some (.arr k r n ws)
 | .agg c => (blkS σ c).map .agg
 | .tup c => (blkS σ c).map .tup
 | .cons a b => inst2S .cons (blkS σ a) (blkS σ b)
 | v => instS σ v
theorem blkS_ok (E : Env) (f s k : Nat) : ∀ (v v' : SV), v.plain = true → blkS (baseSub f s k) v = some v' → dl (E.by (baseSub f s k)) v = dl E v' := by
 have hi : (E.by (baseSub f s k)).i = E.i := rfl
 have hb : (E.by (baseSub f s k)).b = E.b := rfl
 have hl : (E.by (baseSub f s k)).l = E.l := rfl
 have hf : (E.by (baseSub f s k)).f = E.f := rfl
 intro v
 induction v with
 | int q e => intro v' _ h; cases h; simp only [dl, ev, evp_same hi hb hl hf]
 | bool b => intro v' _ h; cases h; simp only [dl, evB_same hi hb hl hf]
 | arr q r n ws => intro v' _ h; cases h; simp only [dl, arrCells, ev, evp_same hi hb hl hf, wsVal_same hi hb hl hf]
 | agg c ih => intro v' hp h; simp only [blkS, Option.map_eq_some_iff] at h; obtain ⟨a', h1, rfl⟩ := h; simp only [dl, ih _ hp h1]
 | tup c ih => intro v' hp h; simp only [blkS, Option.map_eq_some_iff] at h; obtain ⟨a', h1, rfl⟩ := h; simp only [dl, ih _ hp h1]
 | cons a b iha ihb =>
  intro v' hp h
  simp only [SV.plain, Bool.and_eq_true] at hp
  obtain ⟨x, y, h1, h2, rfl⟩ := inst2S_ok h
  simp only [dl, iha _ hp.1 h1, ihb _ hp.2 h2]
 | _ => intro v' hp h; exact instS_ok E _ _ _ hp (by unfold blkS at h; exact h)
structure FormY where
 args : List SV
 mem : Mem
 e : IE
 val : SV
 t : Nat
 c : SV
 no : SV
 deriving Inhabited
noncomputable def FormY.test (p : FormY) : BE := .eq p.e (.lit (-1))
noncomputable def FormY.z (p : FormY) : FormZ := ⟨p.args, p.mem, p.val, p.t, p.c⟩
noncomputable def yWay1 (p : FormY) (q : SV × Mem) : Bool := match refsV q.1 [] with
 | (s, k) :: _ => (match blkS (baseSub p.mem.nv s k) p.val, blkS (baseSub p.mem.nv s k) p.c, q.2.find s k with
  | some v, some c, some x => !x.ro && Nat.beq x.t p.t && eqU q.2.know q.1 v && eqU q.2.know x.c c
  | _, _, _ => false)
 | [] => false
noncomputable def yWay (p : FormY) (q : SV × Mem) : Bool := Nat.beq q.2.nv p.mem.nv && match mkEq q.2.know (simD q.2.know p.e) (.lit (-1)) with
 | .lit true => yWay1 p q
 | .lit false => eqU q.2.know q.1 p.no
 | _ => false
noncomputable def yRun (s : List SV → X SV) (p : FormY) : Bool :=
 p.mem.heap.isEmpty && p.val.plain && p.c.plain && p.no.plain && p.val.nm (p.mem.nv + 1) && p.c.nm (p.mem.nv + 1) && match s p.args p.mem with
 | some outs => outs.all fun q => wrongs q.2.know || yWay p q
 | none => false
noncomputable def yYes (p : FormY) (σ : Sub) (m : Mem) (c : BE) : Option (SV × Mem) := match instT σ p.val, instT σ p.c with
 | some v, some d => nfS v fun v => nfS d fun d => nfN (m.nv + 1) fun sg => nfN (m.nv + 2) fun nv => some (v, { m with know := ⟨m.know.facts, c :: m.know.conds⟩, heap := ⟨m.nv, 0, false, p.t, .lit 0, d⟩ :: m.heap, seg := sg, next := 0, nv := nv })
 | _, _ => none
noncomputable def yNo (p : FormY) (σ : Sub) (m : Mem) (c : BE) : Option (SV × Mem) := match instT σ p.no with
 | some v => nfS v fun v => cond (!v.nm m.nv) none <| nfN (m.nv + 1) fun sg => nfN (m.nv + 2) fun nv => some (v, { m with know := ⟨m.know.facts, c :: m.know.conds⟩, seg := sg, next := 0, nv := nv })
 | none => none
noncomputable def yX (p : FormY) : List SV → X SV := fun args m =>
 if reroot 0 (matchAll 0 p.args p.mem args m) p.args p.mem args m && m.nm m.nv && Nat.ble (p.mem.nv + 1) m.nv && nmSub m.nv (matchAll 0 p.args p.mem args m) then
  match instB (matchAll 0 p.args p.mem args m) p.test with
  | some c => nfB c fun c => cond (c.nm m.nv) (match asked m.know.conds c with
   | .lit true => (yYes p ((matchAll 0 p.args p.mem args m).zed p.mem.nv m.nv) m c).map fun a => [a]
   | .lit false => (yNo p (matchAll 0 p.args p.mem args m) m (.not c)).map fun b => [b]
   | _ => match yYes p ((matchAll 0 p.args p.mem args m).zed p.mem.nv m.nv) m c, yNo p (matchAll 0 p.args p.mem args m) m (.not c) with
    | some a, some b => some [a, b]
    | _, _ => none) none
  | none => none
 else none
noncomputable def FormY.more (p : FormY) (fs : List Fact) : FormY := { p with mem := { p.mem with know := ⟨fs ++ p.mem.know.facts, p.mem.know.conds⟩ } }
theorem yXc_ok {G : Gf} {P : Program} {f : Nat} {s : List SV → X SV} (hs : SpecOk G P f s) (p : FormY) {fss : List (List Fact)} (hcov : ∀ E : Env, E.f = G → E.Ok → ∃ fs ∈ fss, ∀ x ∈ fs, FactOk E x) (hall : ∀ fs ∈ fss, yRun s (p.more fs) = true) : SpecOk G P f (yX p) := by
 intro F w0 E args m outs' w hgf ho hm
 unfold yX at ho
 split at ho
 case isFalse => cases ho
 rename_i hre
 simp only [Bool.and_eq_true] at hre
 generalize matchAll 0 p.args p.mem args m = σ at hre ho
 obtain ⟨⟨⟨hre, hnm⟩, hfn⟩, hsn⟩ := hre
 have hfn := Nat.le_of_ble_eq_true hfn
 split at ho
 case h_2 => cases ho
 rename_i c0 hc0
 rw [nfB_eq] at ho
 cases hcn : c0.nm m.nv with
 | false => rw [hcn] at ho; cases ho
 | true =>
 rw [hcn] at ho
 dsimp only [cond] at ho
 have hct : evB (E.by σ) p.test = evB E c0 := instB_ok E σ _ _ hc0
 obtain ⟨_, hmC, hargs⟩ := reroot_ok hre hm
 obtain ⟨fs, hfs, hft⟩ := hcov (E.by σ) hgf hmC.know.env
 have hall := hall fs hfs
 unfold yRun at hall
 simp only [Bool.and_eq_true] at hall
 obtain ⟨⟨⟨⟨⟨⟨hemp, hvp⟩, hcp⟩, hnp⟩, hvn⟩, hdn⟩, h⟩ := hall
 replace hemp : p.mem.heap.isEmpty = true := hemp
 replace hvp : p.val.plain = true := hvp
 replace hcp : p.c.plain = true := hcp
 replace hnp : p.no.plain = true := hnp
 replace hvn : p.val.nm (p.mem.nv + 1) = true := hvn
 replace hdn : p.c.nm (p.mem.nv + 1) = true := hdn
 split at h
 case h_2 => cases h
 rename_i outs hrun
 rw [List.all_eq_true] at h
 have hemp : p.mem.heap = [] := by simpa using hemp
 have hmF : MemOk (fun _ => False) w (E.by σ) (p.more fs).mem w := ⟨⟨hmC.know.env, fun x hx => (List.mem_append.1 hx).elim (hft x) (hmC.know.facts x), hmC.know.conds⟩, hmC.size, hmC.ents, hmC.apart, fun e he => (by
  replace he : e ∈ p.mem.heap := he
  rw [hemp] at he; cases he), Ext.refl _ _, hmC.seg0⟩
 have := hs _ w (E.by σ) p.args (p.more fs).mem outs w hgf hrun hmF
 rw [hargs] at this
 refine this.mono ?_
 rintro e w' ⟨q, hq, E', hL, rfl, hm'⟩
 have hq1 := h q hq
 rw [wrongs_ok hm'.know, Bool.false_or] at hq1
 unfold yWay at hq1
 rw [Bool.and_eq_true] at hq1
 obtain ⟨n1, hq1⟩ := hq1
 have hE : E' = E.by σ := hL.same (Nat.eq_of_beq_eq_true n1)
 subst hE
 have hmk := mkEq_ok hm'.know (simD q.2.know p.e) (.lit (-1))
 replace hL : Later p.mem.nv q.2.nv (E.by σ) (E.by σ) := hL
 rw [simD_ok hm'.know] at hmk
 -- the ways that are there
 have yes : evB E c0 = true → ∃ o ∈ outs', yYes p (σ.zed p.mem.nv m.nv) m c0 = some o := by
  intro ht
  have ha := asked_ok hm.know.conds c0
  split at ho
  ·simp only [Option.map_eq_some_iff] at ho
   obtain ⟨a, ha, rfl⟩ := ho
   exact ⟨a, List.mem_cons_self, ha⟩
  ·rename_i he; rw [he, ht] at ha; cases ha
  ·split at ho
   ·rename_i a b h1 _
    cases ho
    exact ⟨a, List.mem_cons_self, h1⟩
   ·cases ho
 have no : evB E c0 = false → ∃ o ∈ outs', yNo p σ m (.not c0) = some o := by
  intro ht
  have ha := asked_ok hm.know.conds c0
  split at ho
  ·rename_i he; rw [he, ht] at ha; cases ha
  ·simp only [Option.map_eq_some_iff] at ho
   obtain ⟨b, hb, rfl⟩ := ho
   exact ⟨b, List.mem_cons_self, hb⟩
  ·split at ho
   ·rename_i a b _ h2
    cases ho
    exact ⟨b, List.mem_cons_of_mem _ List.mem_cons_self, h2⟩
   ·cases ho
 split at hq1
 case h_3 => cases hq1
 ·-- the number is -1
  rename_i hlit
  replace hlit : mkEq q.2.know (simD q.2.know p.e) (.lit (-1)) = _ := hlit
  rw [hlit] at hmk
  have ht : evB E c0 = true := by rw [← hct]; exact hmk.symm
  obtain ⟨o, hoM, ho1⟩ := yes ht
  unfold yYes at ho1
  split at ho1
  case h_2 => cases ho1
  rename_i v c hv hc
  rw [nfS_eq, nfS_eq, nfN_eq, nfN_eq] at ho1
  cases ho1
  unfold yWay1 at hq1
  split at hq1
  case h_2 => cases hq1
  rename_i s0 k0 _ _
  split at hq1
  case h_2 => cases hq1
  rename_i v1 c1 x hv1 hc1 hx
  replace hv1 : blkS (baseSub p.mem.nv s0 k0) p.val = some v1 := hv1
  replace hc1 : blkS (baseSub p.mem.nv s0 k0) p.c = some c1 := hc1
  simp only [Bool.and_eq_true, Bool.not_eq_true'] at hq1
  obtain ⟨⟨⟨e2, e3⟩, e1⟩, e4⟩ := hq1
  have e3 : x.t = p.t := Nat.eq_of_beq_eq_true e3
  obtain ⟨x1, x2, x3⟩ := Mem.find_ok hx
  have ok := hm'.ents x x1
  obtain ⟨⟨o1, _⟩, hheap⟩ := ok.own e2
  have hbx : x.blk (E.by σ) = (E.by σ).base s0 + k0 := by simp only [Ent.blk, x2, x3]
  have hge : w.heap.size ≤ x.blk (E.by σ) := by
   rcases hm'.mine x x1 e2 with h | h
   ·exact h
   ·exact h.elim
  let E2 := E.two m.nv (x.blk (E.by σ)) w'.heap.size
  have hA : Agree m.nv E E2 := two_agree E m.nv _ _
  have hb2 : E2.base m.nv = x.blk (E.by σ) := by simp [E2, Env.two]
  have ho2 : E2.o m.nv = 0 := by simp [E2, Env.two]
  have hz := zed_agree (f := p.mem.nv) (s := s0) (k := k0) hA hsn hfn (by rw [hb2, hbx]) (by rw [ho2, ← x2]; exact o1)
  have hm2 : MemOk F w0 E2 { m with seg := m.nv + 1, next := 0, nv := m.nv + 2 } w' := by
   refine hm.moved hnm hA ⟨hm.know.env.i, hm.know.env.l, hm.know.env.f⟩ hm'.ext ?_ ?_
   ·simp [E2, Env.two]
   ·simp [E2, Env.two]
  have hvd : dv E2 v = dv (E.by σ) q.1 := by
   unfold dv
   rw [← instT_ok E2 (σ.zed p.mem.nv m.nv) _ _ hvp hv, dl_agree hz _ hvn, blkS_ok (E.by σ) p.mem.nv s0 k0 _ _ hvp hv1, eqU_ok hm'.know e1]
  have hcd : dl E2 c = dl (E.by σ) x.c := by
   rw [← instT_ok E2 (σ.zed p.mem.nv m.nv) _ _ hcp hc, dl_agree hz _ hdn, blkS_ok (E.by σ) p.mem.nv s0 k0 _ _ hcp hc1, eqU_ok hm'.know e4]
  refine ⟨_, hoM, E2, ⟨hA, by show m.nv ≤ m.nv + 2; omega, fun h => by have : m.nv + 2 = m.nv := h; omega⟩, ?_, ?_⟩
  ·show _ = Ending.returned (dv E2 v)
   rw [hvd]
  ·refine ⟨⟨hm2.know.env, hm2.know.facts, fun d hd => ?_⟩, hm2.size, ?_, ?_, ?_, hm2.ext, hm2.seg0⟩
   ·rcases List.mem_cons.1 hd with rfl | hd
    ·rw [evB_agree hA _ hcn]; exact ht
    ·exact hm2.know.conds d hd
   ·intro y hy
    rcases List.mem_cons.1 hy with rfl | hy
    ·refine ⟨?_, fun h => (by cases h), fun _ => ⟨⟨ho2, rfl⟩, ?_⟩, fun h => (by cases h)⟩
     ·simp only [Ent.blk, hb2, Nat.add_zero]; exact ok.lt
     ·simp only [Ent.blk, hb2, Nat.add_zero]
      rw [hcd, ← e3]; exact hheap
    ·exact hm2.ents y hy
   ·refine List.Pairwise.cons ?_ hm2.apart
    intro y hy _
    have h1 : y.blk E2 < w.heap.size := by
     have h3 := (hm.ents y hy).lt
     have hn2 := hnm
     simp only [Mem.nm, Bool.and_eq_true, List.all_eq_true] at hn2
     have h4 := hn2.1.1 y hy
     simp only [Ent.nm, Bool.and_eq_true, decide_eq_true_eq] at h4
     have : y.blk E2 = y.blk E := by simp only [Ent.blk, hA.base _ h4.1.1]
     rw [this]; exact h3
    simp only [Ent.blk, hb2, Nat.add_zero] at *
    omega
   ·intro y hy hr
    rcases List.mem_cons.1 hy with rfl | hy
    ·left
     simp only [Ent.blk, hb2, Nat.add_zero] at *
     have := hm.ext.size
     omega
    ·exact hm2.mine y hy hr
 ·-- it is another one
  rename_i hlit
  replace hlit : mkEq q.2.know (simD q.2.know p.e) (.lit (-1)) = _ := hlit
  rw [hlit] at hmk
  have ht : evB E c0 = false := by rw [← hct]; exact hmk.symm
  obtain ⟨o, hoM, ho1⟩ := no ht
  unfold yNo at ho1
  split at ho1
  case h_2 => cases ho1
  rename_i v hv
  rw [nfS_eq, nfN_eq, nfN_eq] at ho1
  cases hvm : v.nm m.nv with
  | false => rw [hvm] at ho1; cases ho1
  | true =>
  rw [hvm] at ho1
  cases ho1
  replace hq1 : eqU q.2.know q.1 p.no = true := hq1
  let E2 := E.two m.nv 0 w'.heap.size
  have hA : Agree m.nv E E2 := two_agree E m.nv _ _
  have hm2 : MemOk F w0 E2 { m with seg := m.nv + 1, next := 0, nv := m.nv + 2 } w' := by
   refine hm.moved hnm hA ⟨hm.know.env.i, hm.know.env.l, hm.know.env.f⟩ hm'.ext ?_ ?_
   ·simp [E2, Env.two]
   ·simp [E2, Env.two]
  have hvd : dv E2 v = dv (E.by σ) q.1 := by
   unfold dv
   rw [dl_agree hA _ hvm, ← instT_ok E σ _ _ hnp hv, eqU_ok hm'.know hq1]
  refine ⟨_, hoM, E2, ⟨hA, by show m.nv ≤ m.nv + 2; omega, fun h => by have : m.nv + 2 = m.nv := h; omega⟩, ?_, ?_⟩
  ·show _ = Ending.returned (dv E2 v)
   rw [hvd]
  ·refine ⟨⟨hm2.know.env, hm2.know.facts, fun d hd => ?_⟩, hm2.size, hm2.ents, hm2.apart, hm2.mine, hm2.ext, hm2.seg0⟩
   rcases List.mem_cons.1 hd with rfl | hd
   ·show (!evB E2 c0) = true
    rw [evB_agree hA _ hcn, ht]; rfl
   ·exact hm2.know.conds d hd
noncomputable def dd : List Nat → IE → IE
 | seen, .ite k a b x y => match k, a, b with
  | false, .bv i, .lit (.ofNat 1) => cond (seen.any (Nat.beq i)) (dd seen x) (.ite false (.bv i) (.lit 1) (dd (i :: seen) x) y)
  | k, a, b => .ite k a b x y
 | _, e => e
theorem dd_ok (E : Env) : ∀ (e : IE) (seen : List Nat), (∀ i ∈ seen, E.b i = true) → ev E (dd seen e) = ev E e := by
 intro e
 induction e with
 | ite k a b x y ha hb hx hy =>
  clear ha hb hy
  intro seen hs
  unfold dd
  split
  ·rename_i i
   cases hc : seen.any (Nat.beq i) with
   | true =>
    dsimp only [cond]
    rw [hx _ hs, ev_iteF]
    rw [List.any_eq_true] at hc
    obtain ⟨j, hj, he⟩ := hc
    have he := Nat.eq_of_beq_eq_true he
    subst he
    rw [ev_bv, hs _ hj, ev_lit]
    rfl
   | false =>
    dsimp only [cond]
    rw [ev_iteF, ev_iteF, ev_bv, ev_lit, ev_lit]
    cases hb : E.b i with
    | false => rfl
    | true =>
     rw [hx (i :: seen) (fun j hj => (List.mem_cons.1 hj).elim (fun e => e ▸ hb) (hs j))]
     rfl
  ·rfl
 | _ => intro seen _; rfl
noncomputable def chainD (e : IE) : IE := dd [] (chainN e)
theorem chainD_ok (E : Env) (e : IE) : ev E (chainD e) = ev E e := by unfold chainD; rw [dd_ok E _ _ (fun _ h => by cases h), chainN_ok]
noncomputable def chainE (e : IE) : IE := dd [] (chainF e)
theorem chainE_ok (E : Env) (e : IE) : ev E (chainE e) = ev E e := by unfold chainE; rw [dd_ok E _ _ (fun _ h => by cases h), chainF_ok]
noncomputable def forkV : SV → X SV
 | .int k (.ite kd a b x y) => X.bind (withKnow fun kn => branch (if kd then mkLt kn a b else mkEq kn a b)) fun c => if c then X.pure (.int k x) else X.pure (.int k y)
 | v => X.pure v
theorem forkV_ok {F : Nat → Prop} {w0 : World} {E : Env} (v : SV) (m : Mem) (w : World) : GX F w0 E (forkV v) m w fun u w' => w' = w ∧ dv E u = dv E v := by
 unfold forkV
 split
 ·rename_i k kd a b x y
  refine GX.bind (Q := fun c w' => w' = w ∧ c = (if kd then decide (ev E a < ev E b) else decide (ev E a = ev E b))) (GX.withKnow fun hk => (branch_ok _ m w).mono fun b w' h => ⟨h.1, ?_⟩) ?_
  ·rw [h.2]
   cases kd
   ·simp only [Bool.false_eq_true, if_false]; rw [mkEq_ok hk]
   ·simp only [if_true]; rw [mkLt_ok hk]
  ·rintro c m' w' ⟨rfl, hc⟩
   cases c
   ·refine GX.pure fun _ => ⟨rfl, ?_⟩
    show Value.int k (ev E y) = Value.int k (ev E (.ite kd a b x y))
    rw [ev_ite, if_neg (by rw [← hc]; decide)]
   ·refine GX.pure fun _ => ⟨rfl, ?_⟩
    show Value.int k (ev E x) = Value.int k (ev E (.ite kd a b x y))
    rw [ev_ite, if_pos hc.symm]
 ·exact GX.pure fun _ => ⟨rfl, rfl⟩
noncomputable def forkOutX (s : List SV → X SV) : List SV → X SV := fun args => X.bind (s args) forkV
theorem forkOutX_ok {G : Gf} {P : Program} {f : Nat} {s : List SV → X SV} (hs : SpecOk G P f s) : SpecOk G P f (forkOutX s) := by
 intro F w0 E args m outs' w hgf ho hm
 unfold forkOutX X.bind at ho
 split at ho
 ·cases ho
 rename_i outs hr
 refine (hs F w0 E args m outs w hgf hr hm).mono ?_
 rintro e w' ⟨q, hq, E', hL, rfl, hm'⟩
 obtain ⟨l', e', hsub⟩ := gather_mem ho q hq
 obtain ⟨p, hp, w2, hm2, hnv, rfl, hd⟩ := forkV_ok q.1 q.2 w' l' e' hm'
 exact ⟨p, hsub p hp, E', by rw [hnv]; exact hL, by rw [hd], hm2⟩
theorem yX_ok {G : Gf} {P : Program} {f : Nat} {s : List SV → X SV} (hs : SpecOk G P f s) (p : FormY) (h : yRun s p = true) : SpecOk G P f (yX p) :=
 yXc_ok hs p (fss := [[]]) (fun _ _ _ => ⟨[], List.mem_cons_self, fun _ h => (by cases h)⟩) (fun fs hf => by
  rcases List.mem_singleton.1 hf with rfl
  exact h)
inductive CT where
 | leaf
 | node (e : IE) (lo mid hi : Int) (l r : CT)
noncomputable def CT.ways : CT → List Fact → List (List Fact)
 | .leaf, fs => [fs]
 | .node e lo mid hi l r, fs => l.ways ((e, lo, mid) :: fs) ++ r.ways ((e, mid + 1, hi) :: fs)
noncomputable def CT.ok : CT → List Fact → Bool
 | .leaf, _ => true
 | .node e lo mid hi l r, fs => inR (rng fs e) lo hi && l.ok ((e, lo, mid) :: fs) && r.ok ((e, mid + 1, hi) :: fs)
theorem CT.cover {E : Env} (hE : E.Ok) : ∀ (t : CT) (fs : List Fact), t.ok fs = true → (∀ x ∈ fs, FactOk E x) → ∃ fs' ∈ t.ways fs, ∀ x ∈ fs', FactOk E x
 | .leaf, fs, _, h => ⟨fs, List.mem_cons_self, h⟩
 | .node e lo mid hi l r, fs, hk, h => by
  unfold CT.ok at hk
  simp only [Bool.and_eq_true, inR, decide_eq_true_eq] at hk
  obtain ⟨⟨⟨h1, h2⟩, hl⟩, hr⟩ := hk
  have hr0 := rng_ok hE h e
  by_cases hc : ev E e ≤ mid
  ·obtain ⟨fs', h3, h4⟩ := CT.cover hE l _ hl (fun x hx => (List.mem_cons.1 hx).elim (fun q => q ▸ (by show lo ≤ ev E e ∧ ev E e ≤ mid; omega)) (h x))
   exact ⟨fs', List.mem_append_left _ h3, h4⟩
  ·obtain ⟨fs', h3, h4⟩ := CT.cover hE r _ hr (fun x hx => (List.mem_cons.1 hx).elim (fun q => q ▸ (by show mid + 1 ≤ ev E e ∧ ev E e ≤ hi; omega)) (h x))
   exact ⟨fs', List.mem_append_right _ h3, h4⟩
theorem all_idx {α : Type} {P : α → Prop} {d : α} {l : List α} {n : Nat} (hn : l.length = n) (h : ∀ i, i < n → P (l.getD i d)) : ∀ x ∈ l, P x := by
 intro x hx
 obtain ⟨i, hi, rfl⟩ := List.mem_iff_getElem.1 hx
 have := h i (by omega)
 rw [List.getD_eq_getElem?_getD, List.getElem?_eq_getElem hi] at this
 exact this
end Go.Sx
namespace Go.Sx
open Go
noncomputable def tellN {α : Type} (kn : Know) (c : BE) (k : Know → α) : α := match kn with
 | ⟨fs, cs⟩ => nfB c fun c => nfL nfFact (learn fs c) fun l => nfOnto l fs fun fs' => k ⟨fs', c :: cs⟩
theorem tellN_eq {α : Type} (kn : Know) (c : BE) (k : Know → α) : tellN kn c k = k (kn.tell c) := by
 unfold tellN
 obtain ⟨fs, cs⟩ := kn
 dsimp only
 rw [nfB_eq, nfL_eq (fun _ _ => nfFact_eq _ _), nfOnto_eq]
 rfl
noncomputable def simP (kn : Know) : IE → IE
 | .app f (.arg a .noarg) => .app f (.arg (simI kn a) .noarg)
 | e => simI kn e
theorem simP_ok {E : Env} {kn : Know} (h : KnowOk E kn) (e : IE) : ev E (simP kn e) = ev E e := by
 unfold simP
 split
 ·rename_i f a
  rw [ev_app, ev_app, evA_arg, evA_arg, simI_ok h]
 ·exact simI_ok h _
noncomputable def testK (kn : Know) (kd : Bool) (x y : IE) : BE := if kd then mkLt kn (simP kn x) (simP kn y) else mkEq kn (simP kn x) (simP kn y)
theorem testK_ok {E : Env} {kn : Know} (h : KnowOk E kn) (kd : Bool) (x y : IE) : evB E (testK kn kd x y) = (if kd then decide (ev E x < ev E y) else decide (ev E x = ev E y)) := by
 unfold testK
 cases kd
 ·simp only [Bool.false_eq_true, if_false]; rw [mkEq_ok h, simP_ok h, simP_ok h]
 ·simp only [if_true]; rw [mkLt_ok h, simP_ok h, simP_ok h]
noncomputable def simQ (kn : Know) : IE → IE
 | .ite kd a b x y => match testK kn kd a b with
  | .lit true => simQ kn x
  | .lit false => simQ kn y
  | _ => cond (ieEq (simQ kn x) (simQ kn y)) (simQ kn x) (.ite kd (simP kn a) (simP kn b) (simQ kn x) (simQ kn y))
 | e => simP kn e
theorem simQ_ok {E : Env} {kn : Know} (h : KnowOk E kn) : ∀ e : IE, ev E (simQ kn e) = ev E e := by
 intro e
 induction e with
 | ite kd a b x y ha hb hx hy =>
  clear ha hb
  have hc := testK_ok h kd a b
  unfold simQ
  rw [ev_ite]
  split
  ·rename_i he
   rw [he] at hc
   rw [← hc, hx]; rfl
  ·rename_i he
   rw [he] at hc
   rw [← hc, hy]; rfl
  ·cases hq : ieEq (simQ kn x) (simQ kn y) with
   | true =>
    have := ieEq_ok hq
    dsimp only [cond]
    have h1 : ev E x = ev E y := by rw [← hx, ← hy, this]
    rw [hx]
    cases (if kd = true then decide (ev E a < ev E b) else decide (ev E a = ev E b)) with
    | true => rfl
    | false => exact h1
   | false =>
    dsimp only [cond]
    rw [ev_ite, hx, hy, simP_ok h, simP_ok h]
 | _ => exact simP_ok h _
noncomputable def eqIp (kn : Know) (a b : IE) : Bool := cond (ieEq a b) true (match mkEq kn (simQ kn a) (simQ kn b) with
 | .lit c => c
 | _ => false)
theorem eqIp_ok {E : Env} {kn : Know} (h : KnowOk E kn) {a b : IE} (hc : eqIp kn a b = true) : ev E a = ev E b := by
 unfold eqIp at hc
 cases hi : ieEq a b with
 | true => rw [ieEq_ok hi]
 | false =>
  rw [hi] at hc
  dsimp only [cond] at hc
  split at hc
  ·rename_i c he
   have := mkEq_ok h (simQ kn a) (simQ kn b)
   rw [he, simQ_ok h, simQ_ok h, hc] at this
   exact of_decide_eq_true this.symm
  ·cases hc
noncomputable def testB (kd : Bool) (x y : IE) : BE := match kd, x, y with
 | false, .bv i, .lit (.ofNat 1) => .var i
 | true, x, y => .lt x y
 | false, x, y => .eq x y
theorem testB_ok (E : Env) (kd : Bool) (x y : IE) : evB E (testB kd x y) = (if kd then decide (ev E x < ev E y) else decide (ev E x = ev E y)) := by
 unfold testB
 split
 ·rename_i i
  show E.b i = _
  rw [ev_bv, ev_lit]
  cases E.b i <;> rfl
 ·rfl
 ·rfl
noncomputable def sameT (kn : Know) (kd : Bool) (x y : IE) (kd' : Bool) (x' y' : IE) : Bool := cond kd kd' (!kd') && (ieEq y y' && (ieEq x x' || ieEq x (simP kn x')))
theorem sameT_ok {E : Env} {kn : Know} (h : KnowOk E kn) {kd kd' : Bool} {x y x' y' : IE} (hs : sameT kn kd x y kd' x' y' = true) : kd = kd' ∧ ev E y = ev E y' ∧ ev E x = ev E x' := by
 unfold sameT at hs
 simp only [Bool.and_eq_true, Bool.or_eq_true] at hs
 obtain ⟨h1, h2, h3⟩ := hs
 refine ⟨by revert h1; cases kd <;> cases kd' <;> simp, by rw [ieEq_ok h2], ?_⟩
 rcases h3 with h3 | h3
 ·rw [ieEq_ok h3]
 ·rw [ieEq_ok h3, simP_ok h]
noncomputable def redK {α : Type} (kn : Know) (kd : Bool) (x y : IE) (v : Bool) : IE → (IE → α) → α
 | .ite kd' x' y' t e, k => match x', y', kd' with
  | .bv i, .lit (.ofNat 1), false => (match asked kn.conds (.var i) with
   | .lit true => redK kn kd x y v t k
   | .lit false => redK kn kd x y v e k
   | _ => redK kn kd x y v t fun t => k (.ite false (.bv i) (.lit 1) t e))
  | x', y', kd' => cond (sameT kn kd x y kd' x' y') (k (cond v t e)) (k (.ite kd' x' y' t e))
 | a, k => k a
theorem redK_ok {α : Type} {E : Env} {kn : Know} (h : KnowOk E kn) {kd : Bool} {x y : IE} {v : Bool} (hv : (if kd then decide (ev E x < ev E y) else decide (ev E x = ev E y)) = v) : ∀ (a : IE) (k : IE → α), ∃ a', redK kn kd x y v a k = k a' ∧ ev E a' = ev E a := by
 intro a
 induction a with
 | ite kd' x' y' t e hx hy ht he =>
  clear hx hy
  intro k
  unfold redK
  split
  ·rename_i i
   have hc := asked_ok h.conds (.var i)
   split
   ·rename_i hq
    rw [hq] at hc
    obtain ⟨a', h1, h2⟩ := ht k
    refine ⟨a', h1, ?_⟩
    rw [h2, ev_iteF, ev_bv, show E.b i = true from hc.symm]; rfl
   ·rename_i hq
    rw [hq] at hc
    obtain ⟨a', h1, h2⟩ := he k
    refine ⟨a', h1, ?_⟩
    rw [h2, ev_iteF, ev_bv, show E.b i = false from hc.symm]; rfl
   ·obtain ⟨a', h1, h2⟩ := ht fun t => k (.ite false (.bv i) (.lit 1) t e)
    refine ⟨_, h1, ?_⟩
    rw [ev_iteF, ev_iteF, h2]; rfl
  ·cases hs : sameT kn kd x y kd' x' y' with
   | false => exact ⟨_, rfl, rfl⟩
   | true =>
    obtain ⟨rfl, h1, h2⟩ := sameT_ok h hs
    refine ⟨_, rfl, ?_⟩
    rw [ev_ite, ← h1, ← h2, hv]
    cases v <;> rfl
 | _ => intro k; exact ⟨_, rfl, rfl⟩
noncomputable def redL {α : Type} (kn : Know) (kd : Bool) (x y : IE) (v : Bool) : List (IE × IE) → (List (IE × IE) → α) → α
 | [], k => k []
 | p :: r, k => redK kn kd x y v p.1 fun a => redK kn kd x y v p.2 fun b => redL kn kd x y v r fun r => k ((a, b) :: r)
def sameP (E : Env) (l l' : List (IE × IE)) : Prop := (∀ p ∈ l', ev E p.1 = ev E p.2) → ∀ p ∈ l, ev E p.1 = ev E p.2
theorem redL_ok {α : Type} {E : Env} {kn : Know} (h : KnowOk E kn) {kd : Bool} {x y : IE} {v : Bool} (hv : (if kd then decide (ev E x < ev E y) else decide (ev E x = ev E y)) = v) : ∀ (l : List (IE × IE)) (k : List (IE × IE) → α), ∃ l', redL kn kd x y v l k = k l' ∧ sameP E l l'
 | [], k => ⟨[], rfl, fun h => h⟩
 | p :: r, k => by
  unfold redL
  obtain ⟨a, h1, h2⟩ := redK_ok h hv p.1 (fun a => redK kn kd x y v p.2 fun b => redL kn kd x y v r fun r => k ((a, b) :: r))
  obtain ⟨b, h3, h4⟩ := redK_ok h hv p.2 (fun b => redL kn kd x y v r fun r => k ((a, b) :: r))
  obtain ⟨l', h5, h6⟩ := redL_ok h hv r fun r => k ((a, b) :: r)
  refine ⟨(a, b) :: l', by rw [h1, h3, h5], fun hall q hq => ?_⟩
  rcases List.mem_cons.1 hq with rfl | hq
  ·have := hall _ List.mem_cons_self
   rw [← h2, ← h4]; exact this
  ·exact h6 (fun z hz => hall z (List.mem_cons_of_mem _ hz)) q hq
noncomputable def allL (P : Int → List (IE × IE) → Know → Bool) : IE → List (IE × IE) → Know → Bool
 | .ite kd x y t e, l, kn => match testK kn kd x y with
  | .lit true => redL kn kd x y true l fun l => allL P t l kn
  | .lit false => redL kn kd x y false l fun l => allL P e l kn
  | _ => cond (tellN kn (testB kd x y) fun k1 => redL k1 kd x y true l fun l => allL P t l k1) (tellN kn (.not (testB kd x y)) fun k2 => redL k2 kd x y false l fun l => allL P e l k2) false
 | .lit v, l, kn => P v l kn
 | _, _, _ => false
theorem allL_ok {E : Env} {P : Int → List (IE × IE) → Know → Bool} : ∀ (g : IE) (l : List (IE × IE)) (kn : Know), KnowOk E kn → allL P g l kn = true → ∃ l' kn', KnowOk E kn' ∧ sameP E l l' ∧ P (ev E g) l' kn' = true := by
 intro g
 induction g with
 | ite kd x y t e hx hy ht he =>
  clear hx hy
  intro l kn hk hc
  unfold allL at hc
  rw [ev_ite]
  have h1 := testK_ok hk kd x y
  have h2 := testB_ok E kd x y
  have step : ∀ {k : Know} (v : Bool) (g : IE) (_ : ∀ (l : List (IE × IE)) (kn : Know), KnowOk E kn → allL P g l kn = true → ∃ l' kn', KnowOk E kn' ∧ sameP E l l' ∧ P (ev E g) l' kn' = true),
    KnowOk E k → (if kd then decide (ev E x < ev E y) else decide (ev E x = ev E y)) = v → (redL k kd x y v l fun l => allL P g l k) = true → ∃ l' kn', KnowOk E kn' ∧ sameP E l l' ∧ P (ev E g) l' kn' = true := by
   intro k v g ih hk' hv hr
   obtain ⟨l1, h3, h4⟩ := redL_ok hk' hv l (fun l => allL P g l k)
   rw [h3] at hr
   obtain ⟨l', kn', a1, a2, a3⟩ := ih l1 k hk' hr
   exact ⟨l', kn', a1, fun h => h4 (a2 h), a3⟩
  split at hc
  ·rename_i hq
   rw [hq] at h1
   have h1 : true = _ := h1
   rw [← h1]
   exact step true t ht hk h1.symm hc
  ·rename_i hq
   rw [hq] at h1
   have h1 : false = _ := h1
   rw [← h1]
   exact step false e he hk h1.symm hc
  ·rw [tellN_eq, tellN_eq] at hc
   cases h3 : (redL (kn.tell (testB kd x y)) kd x y true l fun l => allL P t l (kn.tell (testB kd x y))) with
   | false => rw [h3] at hc; cases hc
   | true =>
    rw [h3] at hc
    cases hq : (if kd = true then decide (ev E x < ev E y) else decide (ev E x = ev E y)) with
    | true =>
     rw [hq] at h2
     exact step true t ht (tell_ok hk h2) hq h3
    | false =>
     rw [hq] at h2
     exact step false e he (tell_ok hk (by simp [evB, h2])) hq hc
 | lit v => intro l kn hk hc; exact ⟨l, kn, hk, fun h => h, hc⟩
 | _ => intro l kn _ hc; cases hc
noncomputable def endZ (z : Int) (v : Int) (l : List (IE × IE)) (kn : Know) : Bool := cond (zEq v z) (l.all fun p => eqIp kn p.1 p.2) true
noncomputable def slim {α : Type} (kn : Know) (k : Know → α) : α := nfSp (kn.facts.filter fun f => match f.1 with | .sel _ _ => false | _ => true) fun fs => k ⟨fs, kn.conds⟩
theorem slim_ok {E : Env} {kn : Know} (h : KnowOk E kn) {α : Type} (k : Know → α) : ∃ kn', KnowOk E kn' ∧ slim kn k = k kn' := by
 unfold slim
 rw [nfSp_eq]
 refine ⟨_, ?_, rfl⟩
 exact ⟨h.env, fun f hf => h.facts f (List.mem_filter.1 hf).1, h.conds⟩
noncomputable def eqGL (z : Int) (l : List (IE × IE)) (g : IE) (kn : Know) : Bool := slim kn fun kn => allL (endZ z) g l kn
theorem eqGL_ok {E : Env} {z : Int} {l : List (IE × IE)} {g : IE} {kn : Know} (hk : KnowOk E kn) (h : eqGL z l g kn = true) (hg : ev E g = z) : ∀ p ∈ l, ev E p.1 = ev E p.2 := by
 unfold eqGL at h
 obtain ⟨kn', h1, h2⟩ := slim_ok hk (fun kn => allL (endZ z) g l kn)
 rw [h2] at h
 obtain ⟨l', k2, h3, h4, h5⟩ := allL_ok g l kn' h1 h
 unfold endZ at h5
 rw [hg] at h5
 have : zEq z z = true := by rw [zEq_of]; exact decide_eq_true rfl
 rw [this] at h5
 dsimp only [cond] at h5
 rw [List.all_eq_true] at h5
 exact h4 fun p hp => eqIp_ok h3 (h5 p hp)
noncomputable def addP (a b : IE) (l : List (IE × IE)) : List (IE × IE) := cond (ieEq a b) l ((a, b) :: l)
noncomputable def pairsW (r r' : Nat) (ws ws' : SV) : Nat → List (IE × IE) → Option (List (IE × IE))
 | 0, l => some l
 | n + 1, l => match litWk r n ws, litWk r' n ws' with
  | some a, some b => pairsW r r' ws ws' n (addP a b l)
  | _, _ => none
noncomputable def orNone (c : Bool) (o : Option (List (IE × IE))) : Option (List (IE × IE)) := cond c o none
theorem orNone_ok {c : Bool} {o : Option (List (IE × IE))} {l : List (IE × IE)} (h : orNone c o = some l) : c = true ∧ o = some l := by
 unfold orNone at h
 cases c with
 | true => exact ⟨rfl, h⟩
 | false => cases h
noncomputable def orElseP (c : Bool) (l : List (IE × IE)) (o : Option (List (IE × IE))) : Option (List (IE × IE)) := cond c (some l) o
noncomputable def pairsV : SV → SV → List (IE × IE) → Option (List (IE × IE))
 | .int k e, .int k' e', l => orNone (Nat.beq (kindNo k) (kindNo k')) (some (addP e e' l))
 | .cons a b, .cons a' b', l => match pairsV a a' l with
  | some l => pairsV b b' l
  | none => none
 | .agg a, .agg b, l => pairsV a b l
 | .tup a, .tup b, l => pairsV a b l
 | .arr k r (.lit z) ws, .arr k' r' (.lit z') ws', l => orElseP (svEq (.arr k r (.lit z) ws) (.arr k' r' (.lit z') ws')) l (orNone (Nat.beq (kindNo k) (kindNo k') && zEq z z') (pairsW r r' ws ws' z.toNat l))
 | a, b, l => orNone (svEq a b) (some l)
theorem addP_ok {E : Env} {a b : IE} {l : List (IE × IE)} (h : ∀ p ∈ addP a b l, ev E p.1 = ev E p.2) : ev E a = ev E b ∧ ∀ p ∈ l, ev E p.1 = ev E p.2 := by
 unfold addP at h
 cases hc : ieEq a b with
 | true => rw [hc] at h; exact ⟨by rw [ieEq_ok hc], h⟩
 | false => rw [hc] at h; exact ⟨h _ List.mem_cons_self, fun p hp => h p (List.mem_cons_of_mem _ hp)⟩
theorem pairsW_ok {E : Env} {r r' : Nat} {ws ws' : SV} : ∀ {n : Nat} {l l' : List (IE × IE)}, pairsW r r' ws ws' n l = some l' → (∀ p ∈ l', ev E p.1 = ev E p.2) → (∀ j, j < n → wsVal E r ws j = wsVal E r' ws' j) ∧ ∀ p ∈ l, ev E p.1 = ev E p.2
 | 0, l, l', h, hp => by cases h; exact ⟨fun j hj => by omega, hp⟩
 | n + 1, l, l', h, hp => by
  unfold pairsW at h
  split at h
  ·rename_i a b ha hb
   obtain ⟨h1, h2⟩ := pairsW_ok h hp
   obtain ⟨h3, h4⟩ := addP_ok h2
   refine ⟨fun j hj => ?_, h4⟩
   by_cases e : j = n
   ·subst e; rw [litWk_ok ha, litWk_ok hb]; exact h3
   ·exact h1 j (by omega)
  ·cases h
theorem pairsV_ok {E : Env} : ∀ {a b : SV} {l l' : List (IE × IE)}, pairsV a b l = some l' → (∀ p ∈ l', ev E p.1 = ev E p.2) → dl E a = dl E b ∧ ∀ p ∈ l, ev E p.1 = ev E p.2 := by
 intro a b l
 induction a, b, l using pairsV.induct with
 | case1 k e k' e' l =>
  intro l' h hp
  unfold pairsV at h
  obtain ⟨hk, h⟩ := orNone_ok h
  cases h
  obtain ⟨h1, h2⟩ := addP_ok hp
  exact ⟨by simp only [dl, kindNo_eq hk, h1], h2⟩
 | case2 a b a' b' l l1 h1 iha ihb =>
  intro l' h hp
  unfold pairsV at h
  rw [h1] at h
  obtain ⟨h3, h4⟩ := ihb h hp
  obtain ⟨h5, h6⟩ := iha h1 h4
  exact ⟨by simp only [dl, h5, h3], h6⟩
 | case3 a b a' b' l h1 _ =>
  intro l' h hp
  unfold pairsV at h
  rw [h1] at h; cases h
 | case4 a b l ih =>
  intro l' h hp
  unfold pairsV at h
  obtain ⟨h1, h2⟩ := ih h hp
  exact ⟨by simp only [dl, h1], h2⟩
 | case5 a b l ih =>
  intro l' h hp
  unfold pairsV at h
  obtain ⟨h1, h2⟩ := ih h hp
  exact ⟨by simp only [dl, h1], h2⟩
 | case6 k r z ws k' r' z' ws' l =>
  intro l' h hp
  unfold pairsV orElseP at h
  cases hs : svEq (.arr k r (.lit z) ws) (.arr k' r' (.lit z') ws') with
  | true => rw [hs] at h; cases h; exact ⟨by rw [svEq_ok hs], hp⟩
  | false =>
   rw [hs] at h
   dsimp only [cond] at h
   obtain ⟨hk, h0⟩ := orNone_ok h
   clear h
   rw [Bool.and_eq_true] at hk
   have hz := zEq_ok hk.2
   subst hz
   obtain ⟨h1, h2⟩ := pairsW_ok h0 hp
   refine ⟨?_, h2⟩
   simp only [dl, arrCells, kindNo_eq hk.1, ev_lit]
   exact List.map_congr_left fun j hj => by rw [h1 j (List.mem_range.1 hj)]
 | case7 a b l h1 h2 h3 h4 h5 =>
  intro l' h hp
  have h : orNone (svEq a b) (some l) = some l' := by
   unfold pairsV at h
   split at h <;> first | exact h | (exfalso; first | exact h1 _ _ _ _ rfl rfl | exact h2 _ _ _ _ rfl rfl | exact h3 _ _ rfl rfl | exact h4 _ _ rfl rfl | exact h5 _ _ _ _ _ _ _ _ rfl rfl)
  obtain ⟨hs, h⟩ := orNone_ok h
  cases h
  exact ⟨by rw [svEq_ok hs], hp⟩
noncomputable def mapWaysX (g : List SV → SV × Mem → List (SV × Mem)) (s : List SV → X SV) : List SV → X SV := fun args m => match s args m with
 | some outs => some (nfL (fun p k => nfS p.1 fun v => nfMem p.2 fun m => k (v, m)) (outs.flatMap (g args)) fun l => l)
 | none => none
theorem mapWaysX_ok {G : Gf} {P : Program} {f : Nat} {s : List SV → X SV} (hs : SpecOk G P f s) {g : List SV → SV × Mem → List (SV × Mem)}
  (hg : ∀ (F : Nat → Prop) (w0 w : World) (E : Env) (args : List SV) (q : SV × Mem), MemOk F w0 E q.2 w → ∃ p ∈ g args q, dv E p.1 = dv E q.1 ∧ p.2.nv = q.2.nv ∧ MemOk F w0 E p.2 w) : SpecOk G P f (mapWaysX g s) := by
 intro F w0 E args m outs' w hgf ho hm
 unfold mapWaysX at ho
 cases hr : s args m with
 | none => rw [hr] at ho; cases ho
 | some outs =>
 rw [hr] at ho
 cases ho
 rw [nfL_eq (fun p k => by rw [nfS_eq, nfMem_eq])]
 refine (hs F w0 E args m outs w hgf hr hm).mono ?_
 rintro e w' ⟨q, hq, E', hL, rfl, hm'⟩
 obtain ⟨p, hp, h1, h2, h3⟩ := hg F w0 w' E' args q hm'
 exact ⟨p, List.mem_flatMap.2 ⟨q, hq, hp⟩, E', by rw [h2]; exact hL, by rw [h1], h3⟩
theorem MemOk.recell {F : Nat → Prop} {w0 w : World} {E : Env} {m : Mem} {e : Ent} {rest : List Ent} {c : SV} (hm : MemOk F w0 E m w) (hh : m.heap = e :: rest) (hro : e.ro = false) (hd : dl E e.c = dl E c) : MemOk F w0 E { m with heap := { e with c := c } :: rest } w := by
 obtain ⟨h1, h2, h3, h4, h5, h6, h7⟩ := hm
 rw [hh] at h3 h4 h5
 refine ⟨h1, h2, ?_, ?_, ?_, h6, h7⟩
 ·intro x hx
  rcases List.mem_cons.1 hx with rfl | hx
  ·have ok := h3 e List.mem_cons_self
   refine ⟨ok.lt, fun h => ?_, fun h => ⟨(ok.own hro).1, ?_⟩, fun h => ?_⟩
   ·have h : e.ro = true := h
    rw [hro] at h; cases h
   ·have := (ok.own hro).2
    rw [hd] at this
    exact this
   ·have h : e.ro = true := h
    rw [hro] at h; cases h
  ·exact h3 x (List.mem_cons_of_mem _ hx)
 ·have h := List.pairwise_cons.1 h4
  exact List.Pairwise.cons (fun y hy => h.1 y hy) h.2
 ·intro x hx hr
  rcases List.mem_cons.1 hx with rfl | hx
  ·exact h5 e List.mem_cons_self hr
  ·exact h5 x (List.mem_cons_of_mem _ hx) hr
noncomputable def stripE : IE → IE
 | .ite kd x y t e => match kd, x, y, e with
  | false, .bv i, .lit (.ofNat 1), .lit z => .ite false (.bv i) (.lit 1) (stripE t) (.lit z)
  | false, .bv i, .lit (.ofNat 1), .ite k2 a2 b2 x2 y2 => .ite false (.bv i) (.lit 1) (stripE t) (stripE (.ite k2 a2 b2 x2 y2))
  | false, .bv _, .lit (.ofNat 1), _ => stripE t
  | kd, x, y, e => .ite kd (stripE x) (stripE y) (stripE t) (stripE e)
 | .app f a => .app f (stripE a)
 | .arg a r => .arg (stripE a) (stripE r)
 | .add a b => .add (stripE a) (stripE b)
 | e => e
noncomputable def stripV : SV → SV
 | .int k e => nfI (stripE e) fun e => .int k e
 | .cons a b => .cons (stripV a) (stripV b)
 | v => v
noncomputable def nthMap (f : SV → SV) : Nat → SV → SV
 | 0, .cons a b => .cons (f a) b
 | n + 1, .cons a b => .cons a (nthMap f n b)
 | _, v => v
noncomputable def elseE (i : Nat) : IE → IE
 | .ite false (.bv j) (.lit (.ofNat 1)) x y => cond (Nat.beq i j) y (.ite false (.bv j) (.lit 1) x y)
 | e => e
noncomputable def rowG (ch : SV) (r : Nat) (ws wsu : SV) : Nat → SV → SV
 | 0, acc => acc
 | j + 1, acc => rowG ch r ws wsu j (match litWk r j ws, litWk r j wsu, nthC j ch with
  | some a, some b, some (.bool (.var i)) => cond (ieEq a b) acc (nfI (stripE a) fun a => .wr (.lit (.ofNat j)) (.ite false (.bv i) (.lit 1) a (elseE i b)) acc)
  | _, _, _ => acc)
noncomputable def rowV (ach : SV) : SV → SV
 | .arr k r (.lit z) ws => match nthC 17 ach with
  | some (.arr _ _ _ wsu) => nfS (.arr k r (.lit z) (rowG ach r ws wsu z.toNat wsu)) fun v => v
  | _ => .arr k r (.lit z) ws
 | v => v
noncomputable def valG (ach : SV) : SV → SV
 | .tup (.cons (.agg ch) tl) => .tup (.cons (.agg (nthMap (rowV ach) 18 ch)) tl)
 | .agg ch => .agg (nthMap (rowV ach) 18 ch)
 | v => v
noncomputable def sameV (kn : Know) (g : IE) (a a' b b' : SV) : Bool := match pairsV a a' [] with
 | some l => (match pairsV b b' l with
  | some l => eqGL (-1) l g kn
  | none => false)
 | none => false
noncomputable def retell (kn : Know) (g : IE) (ach : SV) (q : SV × Mem) : List (SV × Mem) := nfS (valG ach q.1) fun v => match q.2.heap with
 | e :: rest => nfS (stripV e.c) fun c => cond (!e.ro && sameV kn g q.1 v e.c c) [(v, { q.2 with heap := { e with c := c } :: rest })] [q]
 | [] => [q]
noncomputable def insZ (z : Int) (l : List Int) : List Int := if l.any (zEq z) then l else z :: l
noncomputable def leavesI : IE → List Int → Option (List Int)
 | .lit z, l => some (insZ z l)
 | .ite _ _ _ x y, l => match leavesI x l with
  | some l => leavesI y l
  | none => none
 | _, _ => none
theorem insZ_mem {z x : Int} {l : List Int} (h : x = z ∨ x ∈ l) : x ∈ insZ z l := by
 unfold insZ
 by_cases hc : l.any (zEq z) = true
 ·rw [if_pos hc]
  rcases h with rfl | h
  ·rw [List.any_eq_true] at hc
   obtain ⟨y, hy, he⟩ := hc
   rw [zEq_ok he]; exact hy
  ·exact h
 ·rw [if_neg hc]
  rcases h with rfl | h
  ·exact List.mem_cons_self
  ·exact List.mem_cons_of_mem _ h
theorem leavesI_ok (E : Env) : ∀ (e : IE) (l r : List Int), leavesI e l = some r → (∀ x ∈ l, x ∈ r) ∧ ev E e ∈ r := by
 intro e
 induction e with
 | lit z => intro l r h; cases h; exact ⟨fun x hx => insZ_mem (.inr hx), insZ_mem (.inl rfl)⟩
 | ite k a b x y ha hb hx hy =>
  clear ha hb
  intro l r h
  unfold leavesI at h
  split at h
  ·rename_i l1 h1
   obtain ⟨p1, p2⟩ := hx _ _ h1
   obtain ⟨q1, q2⟩ := hy _ _ h
   refine ⟨fun z hz => q1 z (p1 z hz), ?_⟩
   rw [ev_ite]
   by_cases hc : (if k = true then decide (ev E a < ev E b) else decide (ev E a = ev E b)) = true
   ·rw [if_pos hc]; exact q1 _ p2
   ·rw [if_neg hc]; exact q2
  ·cases h
 | _ => intro l r h; cases h
noncomputable def setNeed (t : IE) (z : Int) : SV → Option SV
 | .tup (.cons (.agg (.cons (.int k e) r)) tl) => cond (ieEq e t) (some (.tup (.cons (.agg (.cons (.int k (.lit z)) r)) tl))) none
 | .agg (.cons (.int k e) r) => cond (ieEq e t) (some (.agg (.cons (.int k (.lit z)) r))) none
 | _ => none
noncomputable def needWay (t : IE) (ach : SV) (q : SV × Mem) (z : Int) : Option (SV × Mem) := match setNeed t z q.1, nthC z.toNat ach with
 | some v, some (.bool (.var j)) => (nfN j fun j => tellN q.2.know (.not (.var j)) fun kn => some (v, { q.2 with know := ⟨(.bv j, 0, 0) :: kn.facts, kn.conds⟩ }))
 | _, _ => none
noncomputable def needWays (t : IE) (ach : SV) (q : SV × Mem) : List Int → Option (List (SV × Mem))
 | [] => some []
 | z :: r => cond (zEq z (-1)) (needWays t ach q r) (match needWay t ach q z, needWays t ach q r with
  | some p, some l => some (p :: l)
  | _, _ => none)
noncomputable def endN (ach : SV) (v : Int) (_ : List (IE × IE)) (kn : Know) : Bool := cond (zEq v (-1)) true (match nthC v.toNat ach with
 | some (.bool (.var j)) => eqIp kn (.bv j) (.lit 0)
 | _ => false)
noncomputable def gWays (args : List SV) (q : SV × Mem) : List (SV × Mem) := match args, q.2.know.conds with
 | .agg ach :: _, .eq t (.lit (.negSucc 0)) :: _ => nfI (stripE t) fun g => cond (hasB (.eq g (.lit (-1))) q.2.know.conds) (retell q.2.know g ach q) [q]
 | .agg ach :: _, .not (.eq t (.lit (.negSucc 0))) :: _ => nfI (stripE t) fun g => cond (hasB (.eq g (.lit (-1))) q.2.know.conds && eqGL (-1) [(t, .lit (-1))] g q.2.know) [] (cond (slim q.2.know fun kn => allL (endN ach) t [] kn) (match leavesI t [] with
  | some l => (match needWays t ach q l with | some ws => ws | none => [q])
  | none => [q]) [q])
 | _, _ => [q]
theorem setNeed_ok {E : Env} {t : IE} {z : Int} (h : ev E t = z) {v v' : SV} (hs : setNeed t z v = some v') : dv E v' = dv E v := by
 unfold setNeed at hs
 split at hs
 ·rename_i k e r tl
  cases hc : ieEq e t with
  | false => rw [hc] at hs; cases hs
  | true =>
   rw [hc] at hs
   cases hs
   have := ieEq_ok hc
   subst this
   unfold dv
   simp only [dl, ev_lit, h]
 ·rename_i k e r
  cases hc : ieEq e t with
  | false => rw [hc] at hs; cases hs
  | true =>
   rw [hc] at hs
   cases hs
   have := ieEq_ok hc
   subst this
   unfold dv
   simp only [dl, ev_lit, h]
 ·cases hs
theorem needWays_mem {t : IE} {ach : SV} {q : SV × Mem} {z : Int} (hz : z ≠ -1) : ∀ {l : List Int} {ws : List (SV × Mem)}, needWays t ach q l = some ws → z ∈ l → ∃ p ∈ ws, needWay t ach q z = some p
 | [], _, _, h => by cases h
 | y :: r, ws, hw, h => by
  unfold needWays at hw
  cases hy : zEq y (-1) with
  | true =>
   rw [hy] at hw
   have hy := zEq_ok hy
   rcases List.mem_cons.1 h with rfl | h
   ·exact absurd hy hz
   ·exact needWays_mem hz hw h
  | false =>
   rw [hy] at hw
   dsimp only [cond] at hw
   split at hw
   ·rename_i p l h1 h2
    cases hw
    rcases List.mem_cons.1 h with rfl | h
    ·exact ⟨p, List.mem_cons_self, h1⟩
    ·obtain ⟨p', h3, h4⟩ := needWays_mem hz h2 h
     exact ⟨p', List.mem_cons_of_mem _ h3, h4⟩
   ·cases hw
theorem sameV_ok {E : Env} {kn : Know} {g : IE} (hk : KnowOk E kn) (hg : ev E g = -1) {a a' b b' : SV} (h : sameV kn g a a' b b' = true) : dl E a = dl E a' ∧ dl E b = dl E b' := by
 unfold sameV at h
 split at h
 ·rename_i l hl
  split at h
  ·rename_i l2 hl2
   obtain ⟨h1, h2⟩ := pairsV_ok hl2 (eqGL_ok hk h hg)
   exact ⟨(pairsV_ok hl h2).1, h1⟩
  ·cases h
 ·cases h
theorem gWays_ok (F : Nat → Prop) (w0 w : World) (E : Env) (args : List SV) (q : SV × Mem) (hm : MemOk F w0 E q.2 w) : ∃ p ∈ gWays args q, dv E p.1 = dv E q.1 ∧ p.2.nv = q.2.nv ∧ MemOk F w0 E p.2 w := by
 have self : ∃ p ∈ [q], dv E p.1 = dv E q.1 ∧ p.2.nv = q.2.nv ∧ MemOk F w0 E p.2 w := ⟨q, List.mem_singleton.2 rfl, rfl, rfl, hm⟩
 unfold gWays
 split
 ·rename_i ach _ t cs _
  rw [nfI_eq]
  cases hc : hasB (.eq (stripE t) (.lit (-1))) q.2.know.conds with
  | false => exact self
  | true =>
   dsimp only [cond]
   have hg := hm.know.conds _ (hasB_ok hc)
   have hg : ev E (stripE t) = -1 := of_decide_eq_true hg
   unfold retell
   rw [nfS_eq]
   split
   ·rename_i e rest hh
    rw [nfS_eq]
    cases h1 : (!e.ro && sameV q.2.know (stripE t) q.1 (valG ach q.1) e.c (stripV e.c)) with
    | false => exact self
    | true =>
     simp only [Bool.and_eq_true, Bool.not_eq_true'] at h1
     obtain ⟨h1, h2⟩ := h1
     obtain ⟨h2, h3⟩ := sameV_ok hm.know hg h2
     refine ⟨_, List.mem_singleton.2 rfl, ?_, rfl, hm.recell hh h1 h3⟩
     unfold dv
     rw [h2]
   ·exact self
 ·rename_i ach _ t cs hcs
  rw [nfI_eq]
  have hn : ev E t ≠ -1 := by
   have := hm.know.conds (.not (.eq t (.lit (.negSucc 0)))) (by rw [hcs]; exact List.mem_cons_self)
   intro he
   have h2 : evB E (.eq t (.lit (.negSucc 0))) = true := decide_eq_true he
   have h3 : (!evB E (.eq t (.lit (.negSucc 0)))) = true := this
   rw [h2] at h3; cases h3
  cases hc : (hasB (.eq (stripE t) (.lit (-1))) q.2.know.conds && eqGL (-1) [(t, .lit (-1))] (stripE t) q.2.know) with
  | true =>
   exfalso
   rw [Bool.and_eq_true] at hc
   have hg : ev E (stripE t) = -1 := of_decide_eq_true (hm.know.conds _ (hasB_ok hc.1))
   exact hn (eqGL_ok hm.know hc.2 hg _ List.mem_cons_self)
  | false =>
   dsimp only [cond]
   cases hal : (slim q.2.know fun kn => allL (endN ach) t [] kn) with
   | false => exact self
   | true =>
   dsimp only [cond]
   split
   ·rename_i l hl
    split
    ·rename_i ws hw
     obtain ⟨p, hp, h1⟩ := needWays_mem hn hw (leavesI_ok E _ _ _ hl).2
     refine ⟨p, hp, ?_⟩
     unfold needWay at h1
     split at h1
     ·rename_i v j h2 h3
      rw [nfN_eq, tellN_eq] at h1
      cases h1
      obtain ⟨kn', s1, s2⟩ := slim_ok hm.know (fun kn => allL (endN ach) t [] kn)
      rw [s2] at hal
      obtain ⟨l', k2, s3, _, s4⟩ := allL_ok t [] kn' s1 hal
      unfold endN at s4
      have hz : zEq (ev E t) (-1) = false := by rw [zEq_of]; exact decide_eq_false hn
      rw [hz, h3] at s4
      have hb : ev E (.bv j) = ev E (.lit 0) := eqIp_ok s3 s4
      rw [ev_bv, ev_lit] at hb
      have hb : E.b j = false := by
       cases h : E.b j with
       | false => rfl
       | true => rw [h] at hb; cases hb
      have hk := tell_ok hm.know (c := .not (.var j)) (by show (!E.b j) = true; rw [hb]; rfl)
      refine ⟨setNeed_ok rfl h2, rfl, ⟨⟨hk.env, fun f hf => ?_, hk.conds⟩, hm.size, hm.ents, hm.apart, hm.mine, hm.ext, hm.seg0⟩⟩
      rcases List.mem_cons.1 hf with rfl | hf
      ·show 0 ≤ ev E (.bv j) ∧ ev E (.bv j) ≤ 0
       rw [ev_bv, hb]; exact ⟨by decide, by decide⟩
      ·exact hk.facts f hf
     ·cases h1
    ·exact self
   ·exact self
 ·exact self
noncomputable def guardX (s : List SV → X SV) : List SV → X SV := mapWaysX gWays s
theorem guardX_ok {G : Gf} {P : Program} {f : Nat} {s : List SV → X SV} (hs : SpecOk G P f s) : SpecOk G P f (guardX s) := mapWaysX_ok hs gWays_ok
noncomputable def Env.more (E : Env) (n : Nat) (es : List IE) : Env := { E with i := fun k => if n ≤ k ∧ k < n + es.length then ev E (es.getD (k - n) (.lit 0)) else E.i k }
theorem more_agree (E : Env) (n : Nat) (es : List IE) : Agree n E (E.more n es) :=
 ⟨fun k hk => by show (if n ≤ k ∧ k < n + es.length then _ else E.i k) = E.i k; rw [if_neg (by omega)], fun _ _ => rfl, fun _ _ => rfl, fun _ _ => rfl, fun _ _ => rfl, fun _ _ => rfl, rfl⟩
noncomputable def defC : Nat → List IE → List BE
 | _, [] => []
 | n, e :: r => .eq (.var n) e :: defC (n + 1) r
theorem defC_mem : ∀ {n : Nat} {es : List IE} {c : BE}, c ∈ defC n es → ∃ i, i < es.length ∧ c = .eq (.var (n + i)) (es.getD i (.lit 0))
 | _, [], _, h => by cases h
 | n, e :: r, c, h => by
  rcases List.mem_cons.1 h with rfl | h
  ·exact ⟨0, by simp, rfl⟩
  ·obtain ⟨i, h1, h2⟩ := defC_mem h
   exact ⟨i + 1, by simp only [List.length_cons]; omega, by rw [h2, show n + 1 + i = n + (i + 1) by omega]; rfl⟩
noncomputable def eqD (cs : List BE) : IE → IE → Bool
 | a, .var j => ieEq a (.var j) || hasB (.eq (.var j) a) cs
 | .ite k x y t e, .ite k' x' y' (.var j) e' => Bool.rec (!k') k' k && ieEq x x' && ieEq y y' && ieEq e e' && (ieEq t (.var j) || hasB (.eq (.var j) t) cs)
 | a, b => ieEq a b
theorem eqD_ok {E : Env} {cs : List BE} (hc : ∀ c ∈ cs, evB E c = true) {a b : IE} (h : eqD cs a b = true) : ev E a = ev E b := by
 have nm : ∀ (t : IE) (j : Nat), (ieEq t (.var j) || hasB (.eq (.var j) t) cs) = true → ev E t = ev E (.var j) := by
  intro t j h
  rw [Bool.or_eq_true] at h
  rcases h with h | h
  ·rw [ieEq_ok h]
  ·exact (of_decide_eq_true (hc _ (hasB_ok h))).symm
 unfold eqD at h
 split at h
 ·exact nm _ _ h
 ·rename_i k x y t e k' x' y' j e'
  simp only [Bool.and_eq_true] at h
  obtain ⟨⟨⟨⟨h1, h2⟩, h3⟩, h4⟩, h5⟩ := h
  have hk : k = k' := by revert h1; cases k <;> cases k' <;> simp
  rw [hk, ieEq_ok h2, ieEq_ok h3, ieEq_ok h4, ev_ite, ev_ite, nm _ _ h5]
 ·rw [ieEq_ok h]
noncomputable def defOf (a : IE) : List BE → Option Nat
 | [] => none
 | c :: r => match c with
  | .eq (.var j) t => cond (ieEq t a) (some j) (defOf a r)
  | _ => defOf a r
noncomputable def esIdx (a : IE) : List IE → Nat → Option Nat
 | [], _ => none
 | e :: r, n => cond (ieEq e a) (some n) (esIdx a r (n + 1))
noncomputable def nameE {α : Type} (cs : List BE) (n : Nat) (a : IE) (es : List IE) (k : IE → List IE → α) : α := match a with
 | .ite kd x y t e => match defOf (.ite kd x y t e) cs with
  | some j => nfN j fun j => k (.var j) es
  | none => match esIdx (.ite kd x y t e) es n with
   | some j => nfN j fun j => k (.var j) es
   | none => nfN (n + es.length) fun j => nfSp (es ++ [.ite kd x y t e]) fun es => k (.var j) es
 | a => k a es
noncomputable def nameI {α : Type} (cs : List BE) (n : Nat) (a : IE) (es : List IE) (k : IE → List IE → α) : α := match a with
 | .ite false (.bv i) (.lit (.ofNat 1)) t e => nameE cs n t es fun t es => k (.ite false (.bv i) (.lit 1) t e) es
 | a => nameE cs n a es k
noncomputable def nameV {α : Type} (cs : List BE) (n : Nat) : SV → List IE → (SV → List IE → α) → α
 | .int kd e, es, k => nameI cs n e es fun e es => k (.int kd e) es
 | .cons a b, es, k => nameV cs n a es fun a es => nameV cs n b es fun b es => k (.cons a b) es
 | .agg c, es, k => nameV cs n c es fun c es => k (.agg c) es
 | .tup c, es, k => nameV cs n c es fun c es => k (.tup c) es
 | .arr kd r z ws, es, k => nameV cs n ws es fun ws es => k (.arr kd r z ws) es
 | .wr i x ws, es, k => nameI cs n x es fun x es => nameV cs n ws es fun ws es => k (.wr i x ws) es
 | v, es, k => k v es
noncomputable def letsOk (m : Mem) (es : List IE) : Bool := es.all fun e => e.nm m.nv && in64S m.know e
noncomputable def letSame (cs : List BE) (a a' b b' : SV) : Bool := match pairsV a a' [] with
 | some l => (match pairsV b b' l with
  | some l => l.all fun p => eqD cs p.1 p.2
  | none => false)
 | none => false
noncomputable def letTo (q : SV × Mem) (e : Ent) (rest : List Ent) (v c : SV) (es : List IE) : List (SV × Mem) := nfSp (defC q.2.nv es ++ q.2.know.conds) fun cs =>
 cond (letsOk q.2 es && q.2.nm q.2.nv && q.1.nm q.2.nv && !e.ro && letSame cs q.1 v e.c c) (nfN (q.2.nv + es.length) fun nv => [(v, { q.2 with know := ⟨q.2.know.facts, cs⟩, heap := { e with c := c } :: rest, nv := nv })]) [q]
noncomputable def letWay (q : SV × Mem) : List (SV × Mem) := match q.2.heap with
 | e :: rest => nameV q.2.know.conds q.2.nv q.1 [] fun v es => nameV q.2.know.conds q.2.nv e.c es fun c es => match es with
  | [] => cond (svEq q.1 v && svEq e.c c) [q] (letTo q e rest v c [])
  | x :: r => letTo q e rest v c (x :: r)
 | [] => [q]
theorem letTo_ok {F : Nat → Prop} {w0 w : World} {E : Env} {q : SV × Mem} {e : Ent} {rest : List Ent} {v c : SV} {es : List IE} (hh : q.2.heap = e :: rest) (hm : MemOk F w0 E q.2 w) :
  ∃ p ∈ letTo q e rest v c es, ∃ E', Later q.2.nv p.2.nv E E' ∧ dv E' p.1 = dv E q.1 ∧ MemOk F w0 E' p.2 w := by
 have self : ∃ p ∈ [q], ∃ E', Later q.2.nv p.2.nv E E' ∧ dv E' p.1 = dv E q.1 ∧ MemOk F w0 E' p.2 w := ⟨q, List.mem_singleton.2 rfl, E, Later.of rfl E, rfl, hm⟩
 unfold letTo
 rw [nfSp_eq]
 cases hc : (letsOk q.2 es && q.2.nm q.2.nv && q.1.nm q.2.nv && !e.ro && letSame (defC q.2.nv es ++ q.2.know.conds) q.1 v e.c c) with
 | false => exact self
 | true =>
 simp only [Bool.and_eq_true, Bool.not_eq_true'] at hc
 obtain ⟨⟨⟨⟨h1, h2⟩, h3⟩, h4⟩, h5⟩ := hc
 unfold letSame at h5
 split at h5
 case h_2 => cases h5
 rename_i l1 hl1
 split at h5
 case h_2 => cases h5
 rename_i l2 hl2
 rw [List.all_eq_true] at h5
 dsimp only [cond]
 unfold letsOk at h1
 rw [List.all_eq_true] at h1
 rw [nfN_eq]
 let E' := E.more q.2.nv es
 have hA : Agree q.2.nv E E' := more_agree E _ es
 have getm : ∀ i, i < es.length → es.getD i (.lit 0) ∈ es := fun i hi => by
  rw [List.getD_eq_getElem?_getD, List.getElem?_eq_getElem hi]
  exact List.getElem_mem hi
 have hOk : E'.Ok := ⟨fun k => by
  show in64 (if q.2.nv ≤ k ∧ k < q.2.nv + es.length then ev E (es.getD (k - q.2.nv) (.lit 0)) else E.i k)
  split
  ·rename_i hk
   have := h1 _ (getm (k - q.2.nv) (by omega))
   rw [Bool.and_eq_true] at this
   exact in64S_ok hm.know this.2
  ·exact hm.know.env.i k, hm.know.env.l, hm.know.env.f⟩
 have hm2 : MemOk F w0 E' { q.2 with nv := q.2.nv + es.length } w := hm.moved h2 hA hOk (Ext.refl _ _) (sg := q.2.seg) (nx := q.2.next) hm.size hm.seg0
 have hcs : ∀ x ∈ defC q.2.nv es ++ q.2.know.conds, evB E' x = true := by
  intro x hx
  rcases List.mem_append.1 hx with hx | hx
  ·obtain ⟨i, hi, rfl⟩ := defC_mem hx
   have hn := h1 _ (getm i hi)
   rw [Bool.and_eq_true] at hn
   show decide (ev E' (.var (q.2.nv + i)) = ev E' (es.getD i (.lit 0))) = true
   rw [ev_agree hA hn.1]
   refine decide_eq_true ?_
   show (if q.2.nv ≤ q.2.nv + i ∧ q.2.nv + i < q.2.nv + es.length then ev E (es.getD (q.2.nv + i - q.2.nv) (.lit 0)) else E.i (q.2.nv + i)) = _
   rw [if_pos (by omega), Nat.add_sub_cancel_left]
  ·exact hm2.know.conds x hx
 obtain ⟨p1, p2⟩ := pairsV_ok (E := E') hl2 (fun p hp => eqD_ok hcs (h5 p hp))
 obtain ⟨p3, _⟩ := pairsV_ok (E := E') hl1 p2
 have hm3 : MemOk F w0 E' { q.2 with know := ⟨q.2.know.facts, defC q.2.nv es ++ q.2.know.conds⟩, nv := q.2.nv + es.length } w :=
  ⟨⟨hm2.know.env, hm2.know.facts, hcs⟩, hm2.size, hm2.ents, hm2.apart, hm2.mine, hm2.ext, hm2.seg0⟩
 refine ⟨_, List.mem_singleton.2 rfl, E', ⟨hA, by show q.2.nv ≤ q.2.nv + es.length; omega, fun h => ?_⟩, ?_, hm3.recell (e := e) (rest := rest) hh h4 p1⟩
 ·have h : q.2.nv + es.length = q.2.nv := h
  have : es = [] := List.length_eq_zero_iff.1 (by omega)
  show E.more q.2.nv es = E
  rw [this]
  unfold Env.more
  simp only [List.length_nil, Nat.add_zero]
  have : (fun k => if q.2.nv ≤ k ∧ k < q.2.nv then ev E (([] : List IE).getD (k - q.2.nv) (.lit 0)) else E.i k) = E.i := by
   funext k
   rw [if_neg (by omega)]
  rw [this]
 ·unfold dv
  rw [← p3, dl_agree hA _ h3]
theorem nameE_use {α : Type} (cs : List BE) (n : Nat) (a : IE) (es : List IE) (k : IE → List IE → α) : ∃ b es', nameE cs n a es k = k b es' := by
 unfold nameE
 split
 ·split
  ·rw [nfN_eq]; exact ⟨_, _, rfl⟩
  ·split
   ·rw [nfN_eq]; exact ⟨_, _, rfl⟩
   ·rw [nfN_eq, nfSp_eq]; exact ⟨_, _, rfl⟩
 ·exact ⟨_, _, rfl⟩
theorem nameI_use {α : Type} (cs : List BE) (n : Nat) (a : IE) (es : List IE) (k : IE → List IE → α) : ∃ b es', nameI cs n a es k = k b es' := by
 unfold nameI
 split
 ·obtain ⟨b, es', h⟩ := nameE_use cs n _ es (fun t es => k (.ite false (.bv _) (.lit 1) t _) es)
  exact ⟨_, _, h⟩
 ·exact nameE_use cs n a es k
theorem nameV_use {α : Type} (cs : List BE) (n : Nat) : ∀ (v : SV) (es : List IE) (k : SV → List IE → α), ∃ b es', nameV cs n v es k = k b es' := by
 intro v
 induction v with
 | int kd e =>
  intro es k
  unfold nameV
  obtain ⟨b, es', h⟩ := nameI_use cs n e es fun e es => k (.int kd e) es
  exact ⟨_, _, h⟩
 | cons a b iha ihb =>
  intro es k
  unfold nameV
  obtain ⟨a', es1, h1⟩ := iha es fun a es => nameV cs n b es fun b es => k (.cons a b) es
  obtain ⟨b', es2, h2⟩ := ihb es1 fun b es => k (.cons a' b) es
  exact ⟨_, _, h1.trans h2⟩
 | agg c ih =>
  intro es k
  unfold nameV
  obtain ⟨a', es1, h1⟩ := ih es fun c es => k (.agg c) es
  exact ⟨_, _, h1⟩
 | tup c ih =>
  intro es k
  unfold nameV
  obtain ⟨a', es1, h1⟩ := ih es fun c es => k (.tup c) es
  exact ⟨_, _, h1⟩
 | arr kd r z ws ih =>
  intro es k
  unfold nameV
  obtain ⟨a', es1, h1⟩ := ih es fun ws es => k (.arr kd r z ws) es
  exact ⟨_, _, h1⟩
 | wr i x ws ih =>
  intro es k
  unfold nameV
  obtain ⟨x', es1, h1⟩ := nameI_use cs n x es fun x es => nameV cs n ws es fun ws es => k (.wr i x ws) es
  obtain ⟨b', es2, h2⟩ := ih es1 fun ws es => k (.wr i x' ws) es
  exact ⟨_, _, h1.trans h2⟩
 | _ => intro es k; exact ⟨_, _, rfl⟩
theorem letWay_ok {F : Nat → Prop} {w0 w : World} {E : Env} {q : SV × Mem} (hm : MemOk F w0 E q.2 w) : ∃ p ∈ letWay q, ∃ E', Later q.2.nv p.2.nv E E' ∧ dv E' p.1 = dv E q.1 ∧ MemOk F w0 E' p.2 w := by
 have self : ∃ p ∈ [q], ∃ E', Later q.2.nv p.2.nv E E' ∧ dv E' p.1 = dv E q.1 ∧ MemOk F w0 E' p.2 w := ⟨q, List.mem_singleton.2 rfl, E, Later.of rfl E, rfl, hm⟩
 unfold letWay
 split
 ·rename_i e rest hh
  obtain ⟨v, es1, h1⟩ := nameV_use q.2.know.conds q.2.nv q.1 [] (fun v es => nameV q.2.know.conds q.2.nv e.c es fun c es => match es with
   | [] => cond (svEq q.1 v && svEq e.c c) [q] (letTo q e rest v c [])
   | x :: r => letTo q e rest v c (x :: r))
  obtain ⟨c, es2, h2⟩ := nameV_use q.2.know.conds q.2.nv e.c es1 (fun c es => match es with
   | [] => cond (svEq q.1 v && svEq e.c c) [q] (letTo q e rest v c [])
   | x :: r => letTo q e rest v c (x :: r))
  rw [h1, h2]
  cases es2 with
  | nil =>
   dsimp only
   cases (svEq q.1 v && svEq e.c c) with
   | true => exact self
   | false => exact letTo_ok hh hm
  | cons x r => exact letTo_ok hh hm
 ·exact self
noncomputable def letX (s : List SV → X SV) : List SV → X SV := fun args m => match s args m with
 | some outs => some (nfL (fun p k => nfS p.1 fun v => nfMem p.2 fun m => k (v, m)) (outs.flatMap letWay) fun l => l)
 | none => none
theorem letX_ok {G : Gf} {P : Program} {f : Nat} {s : List SV → X SV} (hs : SpecOk G P f s) : SpecOk G P f (letX s) := by
 intro F w0 E args m outs' w hgf ho hm
 unfold letX at ho
 cases hr : s args m with
 | none => rw [hr] at ho; cases ho
 | some outs =>
 rw [hr] at ho
 cases ho
 rw [nfL_eq (fun p k => by rw [nfS_eq, nfMem_eq])]
 refine (hs F w0 E args m outs w hgf hr hm).mono ?_
 rintro e w' ⟨q, hq, E', hL, rfl, hm'⟩
 obtain ⟨p, hp, E2, h1, h2, h3⟩ := letWay_ok hm'
 refine ⟨p, List.mem_flatMap.2 ⟨q, hq, hp⟩, E2, ⟨hL.agree.trans h1.agree hL.le, Nat.le_trans hL.le h1.le, fun h => ?_⟩, by rw [h2], h3⟩
 have a1 := hL.le
 have a2 := h1.le
 rw [h1.same (by omega), hL.same (by omega)]
end Go.Sx
namespace Go.Sx
open Go
noncomputable def Env.blkE (E : Env) (n b : Nat) : Env := { E with base := fun k => if k = n then b else E.base k, o := fun k => if k = n then 0 else E.o k }
theorem by_base (E : Env) {f s k : Nat} (ho : E.o s = 0) : E.by (baseSub f s k) = E.blkE f (E.base s + k) := by
 have hb : (fun j => match look j [(f, s, k)] with | some (s', k') => E.base s' + k' | none => E.base j) = fun j => if j = f then E.base s + k else E.base j := by
  funext j
  show (match cond (Nat.beq f j) (some (s, k)) none with | some (s', k') => E.base s' + k' | none => E.base j) = _
  by_cases h : j = f
  ·subst h; rw [Nat.beq_refl, if_pos rfl]; rfl
  ·have : Nat.beq f j = false := by
    cases hq : Nat.beq f j with
    | false => rfl
    | true => exact absurd (Nat.eq_of_beq_eq_true hq).symm h
   rw [this, if_neg h]; rfl
 have h2 : (fun j => match look j [(f, s, k)] with | some (s', _) => E.o s' | none => E.o j) = fun j => if j = f then 0 else E.o j := by
  funext j
  show (match cond (Nat.beq f j) (some (s, k)) none with | some (s', _) => E.o s' | none => E.o j) = _
  by_cases h : j = f
  ·subst h; rw [Nat.beq_refl, if_pos rfl]; exact ho
  ·have : Nat.beq f j = false := by
    cases hq : Nat.beq f j with
    | false => rfl
    | true => exact absurd (Nat.eq_of_beq_eq_true hq).symm h
   rw [this, if_neg h]; rfl
 show (⟨E.i, E.b, E.l, _, _, E.v, E.f⟩ : Env) = ⟨E.i, E.b, E.l, _, _, E.v, E.f⟩
 congr 1
def SemY (p : FormY) (E : Env) (w : World) (e : Ending) (w' : World) : Prop :=
 Ext (fun _ => False) w w' ∧
 ((ev E p.e = -1 ∧ ∃ b, w.heap.size ≤ b ∧ b < w'.heap.size ∧ w'.heap[b]? = some (.cells (dl (E.blkE p.mem.nv b) p.c).toArray p.t (0, 0)) ∧ e = .returned (dv (E.blkE p.mem.nv b) p.val)) ∨
  (ev E p.e ≠ -1 ∧ e = .returned (dv E p.no)))
theorem ySem {G : Gf} {P : Program} {f : Nat} {s : List SV → X SV} (hs : SpecOk G P f s) (p : FormY) {fss : List (List Fact)} (hcov : ∀ E : Env, E.f = G → E.Ok → ∃ fs ∈ fss, ∀ x ∈ fs, FactOk E x) (hall : ∀ fs ∈ fss, yRun s (p.more fs) = true)
  {E : Env} {w : World} (hgf : E.f = G) (hk : KnowOk E p.mem.know) (hsz : w.heap.size = E.base p.mem.seg + p.mem.next) (ho : E.o p.mem.seg = 0) : Calls P f (p.args.map (dv E)).toArray w (SemY p E w) := by
 obtain ⟨fs, hfs, hft⟩ := hcov E hgf hk.env
 have hall := hall fs hfs
 unfold yRun at hall
 simp only [Bool.and_eq_true] at hall
 obtain ⟨⟨⟨⟨⟨⟨hemp, hvp⟩, hcp⟩, _⟩, _⟩, _⟩, h⟩ := hall
 replace hemp : p.mem.heap.isEmpty = true := hemp
 replace hvp : p.val.plain = true := hvp
 replace hcp : p.c.plain = true := hcp
 have hemp : p.mem.heap = [] := by simpa using hemp
 split at h
 case h_2 => cases h
 rename_i outs hrun
 rw [List.all_eq_true] at h
 have hmF : MemOk (fun _ => False) w E (p.more fs).mem w := ⟨⟨hk.env, fun x hx => (List.mem_append.1 hx).elim (hft x) (hk.facts x), hk.conds⟩, hsz, fun e he => (by
  replace he : e ∈ p.mem.heap := he
  rw [hemp] at he; cases he), (by show p.mem.heap.Pairwise _; rw [hemp]; exact List.Pairwise.nil), fun e he => (by
  replace he : e ∈ p.mem.heap := he
  rw [hemp] at he; cases he), Ext.refl _ _, ho⟩
 refine (hs _ w E p.args (p.more fs).mem outs w hgf hrun hmF).mono ?_
 rintro e w' ⟨q, hq, E', hL, rfl, hm'⟩
 have hq1 := h q hq
 rw [wrongs_ok hm'.know, Bool.false_or] at hq1
 unfold yWay at hq1
 rw [Bool.and_eq_true] at hq1
 obtain ⟨n1, hq1⟩ := hq1
 have hE : E' = E := hL.same (Nat.eq_of_beq_eq_true n1)
 subst hE
 refine ⟨hm'.ext, ?_⟩
 have hmk := mkEq_ok hm'.know (simD q.2.know p.e) (.lit (-1))
 rw [simD_ok hm'.know] at hmk
 split at hq1
 case h_3 => cases hq1
 ·rename_i hlit
  replace hlit : mkEq q.2.know (simD q.2.know p.e) (.lit (-1)) = _ := hlit
  rw [hlit] at hmk
  refine .inl ⟨of_decide_eq_true hmk.symm, ?_⟩
  unfold yWay1 at hq1
  split at hq1
  case h_2 => cases hq1
  rename_i s0 k0 _ _
  split at hq1
  case h_2 => cases hq1
  rename_i v1 c1 x hv1 hc1 hx
  replace hv1 : blkS (baseSub p.mem.nv s0 k0) p.val = some v1 := hv1
  replace hc1 : blkS (baseSub p.mem.nv s0 k0) p.c = some c1 := hc1
  simp only [Bool.and_eq_true, Bool.not_eq_true'] at hq1
  obtain ⟨⟨⟨e2, e3⟩, e1⟩, e4⟩ := hq1
  have e3 : x.t = p.t := Nat.eq_of_beq_eq_true e3
  obtain ⟨x1, x2, x3⟩ := Mem.find_ok hx
  have ok := hm'.ents x x1
  obtain ⟨⟨o1, _⟩, hheap⟩ := ok.own e2
  have hbx : x.blk E' = E'.base s0 + k0 := by simp only [Ent.blk, x2, x3]
  have hby := by_base E' (f := p.mem.nv) (s := s0) (k := k0) (by rw [← x2]; exact o1)
  refine ⟨x.blk E', ?_, ok.lt, ?_, ?_⟩
  ·rcases hm'.mine x x1 e2 with h | h
   ·exact h
   ·exact h.elim
  ·rw [hbx, ← hby, blkS_ok E' p.mem.nv s0 k0 _ _ hcp hc1, ← eqU_ok hm'.know e4, ← e3, ← hbx]
   exact hheap
  ·rw [hbx, ← hby]
   unfold dv
   rw [blkS_ok E' p.mem.nv s0 k0 _ _ hvp hv1, eqU_ok hm'.know e1]
 ·rename_i hlit
  replace hlit : mkEq q.2.know (simD q.2.know p.e) (.lit (-1)) = _ := hlit
  rw [hlit] at hmk
  refine .inr ⟨of_decide_eq_false hmk.symm, ?_⟩
  replace hq1 : eqU q.2.know q.1 p.no = true := hq1
  unfold dv
  rw [eqU_ok hm'.know hq1]
end Go.Sx
namespace Go.Sx
open Go
noncomputable def inI (lo hi : Int) : IE → Know → Bool
 | .ite kd a b x y, kn => cond (inR (rng kn.facts (.ite kd a b x y)) lo hi) true (match testK kn kd a b with
  | .lit true => inI lo hi x kn
  | .lit false => inI lo hi y kn
  | _ => cond (tellN kn (testB kd a b) fun k1 => inI lo hi x k1) (tellN kn (.not (testB kd a b)) fun k2 => inI lo hi y k2) false)
 | e, kn => factIn kn e lo hi
theorem inI_ok {E : Env} {lo hi : Int} : ∀ (e : IE) (kn : Know), KnowOk E kn → inI lo hi e kn = true → lo ≤ ev E e ∧ ev E e ≤ hi := by
 intro e
 induction e with
 | ite kd a b x y ha hb hx hy =>
  clear ha hb
  intro kn hk hc
  unfold inI at hc
  cases hr : inR (rng kn.facts (.ite kd a b x y)) lo hi with
  | true =>
   have := rng_ok hk.env hk.facts (.ite kd a b x y)
   unfold inR at hr
   simp only [Bool.and_eq_true, decide_eq_true_eq] at hr
   omega
  | false =>
   rw [hr] at hc
   dsimp only [cond] at hc
   rw [ev_ite]
   have h1 := testK_ok hk kd a b
   have h2 := testB_ok E kd a b
   split at hc
   ·rename_i hq
    rw [hq] at h1
    have h1 : true = _ := h1
    rw [← h1]
    exact hx kn hk hc
   ·rename_i hq
    rw [hq] at h1
    have h1 : false = _ := h1
    rw [← h1]
    exact hy kn hk hc
   ·rw [tellN_eq, tellN_eq] at hc
    cases h3 : inI lo hi x (kn.tell (testB kd a b)) with
    | false => rw [h3] at hc; cases hc
    | true =>
     rw [h3] at hc
     cases hq : (if kd = true then decide (ev E a < ev E b) else decide (ev E a = ev E b)) with
     | true =>
      rw [hq] at h2
      exact hx _ (tell_ok hk h2) h3
     | false =>
      rw [hq] at h2
      exact hy _ (tell_ok hk (by simp [evB, h2])) hc
 | _ => intro kn hk hc; exact factIn_ok hk hc
noncomputable def vWay1 (bn : Nat) (p : FormY) (q : SV × Mem) : Bool := match refsV q.1 [] with
 | (s, k) :: _ => (match blkS (baseSub bn s k) p.val, blkS (baseSub bn s k) p.c, q.2.find s k with
  | some v, some c, some x => !x.ro && Nat.beq x.t p.t && eqU q.2.know q.1 v && eqU q.2.know x.c c
  | _, _, _ => false)
 | [] => false
noncomputable def vWay (bn : Nat) (p : FormY) (q : SV × Mem) : Bool := match mkEq q.2.know (simD q.2.know p.e) (.lit (-1)) with
 | .lit true => vWay1 bn p q
 | .lit false => eqU q.2.know q.1 p.no
 | _ => false
noncomputable def vRun (bn : Nat) (s : List SV → X SV) (p : FormY) : Bool :=
 p.mem.heap.isEmpty && p.val.plain && p.c.plain && Nat.blt bn p.mem.nv && p.e.nm p.mem.nv && p.val.nm p.mem.nv && p.c.nm p.mem.nv && p.no.nm p.mem.nv && match s p.args p.mem with
 | some outs => outs.all fun q => wrongs q.2.know || vWay bn p q
 | none => false
def SemV (bn : Nat) (p : FormY) (E : Env) (w : World) (e : Ending) (w' : World) : Prop :=
 Ext (fun _ => False) w w' ∧
 ((ev E p.e = -1 ∧ ∃ b, w.heap.size ≤ b ∧ b < w'.heap.size ∧ w'.heap[b]? = some (.cells (dl (E.blkE bn b) p.c).toArray p.t (0, 0)) ∧ e = .returned (dv (E.blkE bn b) p.val)) ∨
  (ev E p.e ≠ -1 ∧ e = .returned (dv E p.no)))
theorem blkE_agree {n : Nat} {E E' : Env} (h : Agree n E E') (bn b : Nat) : Agree n (E.blkE bn b) (E'.blkE bn b) :=
 ⟨h.i, h.b, h.l, fun k hk => by
  show (if k = bn then b else E'.base k) = if k = bn then b else E.base k
  rw [h.base k hk], fun k hk => by
  show (if k = bn then 0 else E'.o k) = if k = bn then 0 else E.o k
  rw [h.o k hk], h.v, h.f⟩
theorem vSem {G : Gf} {P : Program} {f : Nat} {s : List SV → X SV} (hs : SpecOk G P f s) (bn : Nat) (p : FormY) {fss : List (List Fact)} (hcov : ∀ E : Env, E.f = G → KnowOk E p.mem.know → ∃ fs ∈ fss, ∀ x ∈ fs, FactOk E x) (hall : ∀ fs ∈ fss, vRun bn s (p.more fs) = true)
  {E : Env} {w : World} (hgf : E.f = G) (hk : KnowOk E p.mem.know) (hsz : w.heap.size = E.base p.mem.seg + p.mem.next) (ho : E.o p.mem.seg = 0) : Calls P f (p.args.map (dv E)).toArray w (SemV bn p E w) := by
 obtain ⟨fs, hfs, hft⟩ := hcov E hgf hk
 have hall := hall fs hfs
 unfold vRun at hall
 simp only [Bool.and_eq_true] at hall
 obtain ⟨⟨⟨⟨⟨⟨⟨⟨hemp, hvp⟩, hcp⟩, _⟩, ne⟩, nv⟩, nc⟩, nn⟩, h⟩ := hall
 replace hemp : p.mem.heap.isEmpty = true := hemp
 replace hvp : p.val.plain = true := hvp
 replace hcp : p.c.plain = true := hcp
 replace ne : p.e.nm p.mem.nv = true := ne
 replace nv : p.val.nm p.mem.nv = true := nv
 replace nc : p.c.nm p.mem.nv = true := nc
 replace nn : p.no.nm p.mem.nv = true := nn
 have hemp : p.mem.heap = [] := by simpa using hemp
 split at h
 case h_2 => cases h
 rename_i outs hrun
 rw [List.all_eq_true] at h
 have hmF : MemOk (fun _ => False) w E (p.more fs).mem w := ⟨⟨hk.env, fun x hx => (List.mem_append.1 hx).elim (hft x) (hk.facts x), hk.conds⟩, hsz, fun e he => (by
  replace he : e ∈ p.mem.heap := he
  rw [hemp] at he; cases he), (by show p.mem.heap.Pairwise _; rw [hemp]; exact List.Pairwise.nil), fun e he => (by
  replace he : e ∈ p.mem.heap := he
  rw [hemp] at he; cases he), Ext.refl _ _, ho⟩
 refine (hs _ w E p.args (p.more fs).mem outs w hgf hrun hmF).mono ?_
 rintro e w' ⟨q, hq, E', hL, rfl, hm'⟩
 have hA : Agree p.mem.nv E E' := hL.agree
 have hq1 := h q hq
 rw [wrongs_ok hm'.know, Bool.false_or] at hq1
 unfold vWay at hq1
 refine ⟨hm'.ext, ?_⟩
 have hmk := mkEq_ok hm'.know (simD q.2.know p.e) (.lit (-1))
 rw [simD_ok hm'.know, ev_agree hA ne] at hmk
 split at hq1
 case h_3 => cases hq1
 ·rename_i hlit
  replace hlit : mkEq q.2.know (simD q.2.know p.e) (.lit (-1)) = _ := hlit
  rw [hlit] at hmk
  refine .inl ⟨of_decide_eq_true hmk.symm, ?_⟩
  unfold vWay1 at hq1
  split at hq1
  case h_2 => cases hq1
  rename_i s0 k0 _ _
  split at hq1
  case h_2 => cases hq1
  rename_i v1 c1 x hv1 hc1 hx
  replace hv1 : blkS (baseSub bn s0 k0) p.val = some v1 := hv1
  replace hc1 : blkS (baseSub bn s0 k0) p.c = some c1 := hc1
  simp only [Bool.and_eq_true, Bool.not_eq_true'] at hq1
  obtain ⟨⟨⟨e2, e3⟩, e1⟩, e4⟩ := hq1
  have e3 : x.t = p.t := Nat.eq_of_beq_eq_true e3
  obtain ⟨x1, x2, x3⟩ := Mem.find_ok hx
  have ok := hm'.ents x x1
  obtain ⟨⟨o1, _⟩, hheap⟩ := ok.own e2
  have hbx : x.blk E' = E'.base s0 + k0 := by simp only [Ent.blk, x2, x3]
  have hby := by_base E' (f := bn) (s := s0) (k := k0) (by rw [← x2]; exact o1)
  refine ⟨x.blk E', ?_, ok.lt, ?_, ?_⟩
  ·rcases hm'.mine x x1 e2 with h | h
   ·exact h
   ·exact h.elim
  ·rw [← dl_agree (blkE_agree hA bn (x.blk E')) _ nc, hbx, ← hby, blkS_ok E' bn s0 k0 _ _ hcp hc1, ← eqU_ok hm'.know e4, ← e3, ← hbx]
   exact hheap
  ·rw [← dv_agree (blkE_agree hA bn (x.blk E')) nv, hbx, ← hby]
   unfold dv
   rw [blkS_ok E' bn s0 k0 _ _ hvp hv1, eqU_ok hm'.know e1]
 ·rename_i hlit
  replace hlit : mkEq q.2.know (simD q.2.know p.e) (.lit (-1)) = _ := hlit
  rw [hlit] at hmk
  refine .inr ⟨of_decide_eq_false hmk.symm, ?_⟩
  replace hq1 : eqU q.2.know q.1 p.no = true := hq1
  rw [← dv_agree hA nn]
  unfold dv
  rw [eqU_ok hm'.know hq1]
end Go.Sx
namespace Go.Sx
open Go
structure HeadP where
 tm : List SV
 mem : Mem
 mu : IE
 deriving Inhabited
structure LeaveP where
 e : SX
 tm : List SV
 mem : Mem
 deriving Inhabited
noncomputable def fits (n : Nat) (ptm : List SV) (pm : Mem) (tm : List SV) (m : Mem) : Bool := rerootF n (matchAll n ptm pm tm m) ptm pm tm m
noncomputable def anyS {α : Type} (p : α → Bool) (l : List α) : Bool := List.rec (motive := fun _ => Bool) false (fun x _ ih => cond (p x) true ih) l
theorem anyS_ok {α : Type} {p : α → Bool} : ∀ {l : List α}, anyS p l = true → ∃ x ∈ l, p x = true := by
 intro l
 induction l with
 | nil => intro h; cases h
 | cons x r ih =>
  intro h
  have h' : cond (p x) true (anyS p r) = true := h
  cases hp : p x with
  | true => exact ⟨x, List.mem_cons_self, hp⟩
  | false =>
   rw [hp] at h'
   obtain ⟨y, hy, h2⟩ := ih h'
   exact ⟨y, List.mem_cons_of_mem _ hy, h2⟩
noncomputable def leaveOf (id : Nat) : SX → SX
 | .exit i => if i = id then .normal else .exit i
 | e => e
noncomputable def nonnegI (kn : Know) (σ : Sub) (μ : IE) : Bool := match instI σ μ with
 | some μ' => nonneg kn (norm μ')
 | none => false
noncomputable def headOk {P : Program} (T : Tab P) (cx : CX) (bx : BX) (jm : Option Nat) (fuel id : Nat) (body : Code) (n : Nat) (heads : List HeadP) (leaves : List LeaveP) (h : HeadP) : Bool :=
 match runC T cx bx jm fuel body (Fr.ofL h.tm) h.mem with
 | none => false
 | some outs => outs.all fun q => match q.1.1 with
  | .normal => anyS (fun g => fits n g.tm g.mem q.1.2.toL q.2 && nonnegI q.2.know (matchAll n g.tm g.mem q.1.2.toL q.2) g.mu && (match instI (matchAll n g.tm g.mem q.1.2.toL q.2) g.mu with
    | some μ' => isLt q.2.know (norm μ') h.mu
    | none => false)) heads
  | e => anyS (fun x => (x.e == leaveOf id e) && fits n x.tm x.mem q.1.2.toL q.2) leaves
noncomputable def loopP (n : Nat) (heads : List HeadP) (leaves : List LeaveP) : Fr → X (SX × Fr) := fun tm m =>
 if Nat.beq m.nv n && heads.all (fun h => Nat.ble (n + 1) h.mem.nv && h.mu.nm h.mem.nv) && leaves.all (fun x => Nat.ble (n + 1) x.mem.nv) && anyS (fun h => fits n h.tm h.mem tm.toL m) heads then
  some (leaves.map fun x => ((x.e, Fr.ofL x.tm), x.mem))
 else none
noncomputable def HeadP.more (h : HeadP) (fs : List Fact) : HeadP := { h with mem := { h.mem with know := ⟨fs ++ h.mem.know.facts, h.mem.know.conds⟩ } }
theorem MemOk.more {F : Nat → Prop} {w0 : World} {E : Env} {m : Mem} {w : World} (h : MemOk F w0 E m w) {fs : List Fact} (hf : ∀ f ∈ fs, FactOk E f) : MemOk F w0 E { m with know := ⟨fs ++ m.know.facts, m.know.conds⟩ } w :=
 ⟨⟨h.know.env, fun f hm => by
  rcases List.mem_append.1 hm with hm | hm
  ·exact hf f hm
  ·exact h.know.facts f hm, h.know.conds⟩, h.size, h.ents, h.apart, h.mine, h.ext, h.seg0⟩
theorem loopPc_ok {G : Gf} {P : Program} {T : Tab P} {cx : CX} (hcx : CallsOk G P cx) {bx : BX} {jm : Option Nat} {fuel id : Nat} {body : Code} (hb : BlocksOk G P bx body) {n : Nat} {heads : List HeadP} {leaves : List LeaveP}
  (hall : ∀ h ∈ heads, ∃ cs : List (List Fact), (∀ E : Env, E.Ok → (∀ f ∈ h.mem.know.facts, FactOk E f) → ∃ c ∈ cs, ∀ f ∈ c, FactOk E f) ∧ ∀ c ∈ cs, headOk T cx bx jm fuel id body n heads leaves (h.more c) = true) : CodeOk G P (.block id (.loop body)) (loopP n heads leaves) := by
 intro F w0 E0 tm a m w exits hgf ho hm ha
 unfold loopP at ho
 split at ho
 case isFalse => cases ho
 rename_i hc
 simp only [Bool.and_eq_true, List.all_eq_true] at hc
 obtain ⟨⟨⟨hn, hh⟩, hl⟩, hany⟩ := hc
 have hn := Nat.eq_of_beq_eq_true hn
 cases ho
 obtain ⟨h0, hh0, hf0⟩ := anyS_ok hany
 obtain ⟨hA0, hm0, hl0⟩ := rerootF_ok hf0 hm
 have toFr : ∀ {E E' : Env} {tm : Fr} {tmH : List SV} {a : Act}, FrOk E tm a → Slots E' E tmH tm.toL → FrOk E' (Fr.ofL tmH) a := fun h he => h.slots he
 have ha0 := toFr ha hl0
 have nvh : ∀ h ∈ heads, n + 1 ≤ h.mem.nv ∧ h.mu.nm h.mem.nv = true := fun h hm => ⟨Nat.le_of_ble_eq_true (hh h hm).1, (hh h hm).2⟩
 have nvl : ∀ x ∈ leaves, n + 1 ≤ x.mem.nv := fun x hx => Nat.le_of_ble_eq_true (hl x hx)
 have key : ∀ (k : Nat) (h : HeadP), h ∈ heads → ∀ (E : Env) (a : Act) (w : World), Agree n E0 E → MemOk F w0 E h.mem w → FrOk E (Fr.ofL h.tm) a → (ev E h.mu).toNat < k →
   Code.rounds P body (Exit.inBlock id (Post F w0 E0 m (leaves.map fun x => ((x.e, Fr.ofL x.tm), x.mem)))) k a w := by
  intro k
  induction k with
  | zero => intro h _ E a w _ _ _ hlt; omega
  | succ k ih =>
   intro h hmem E a w hL hm ha hk
   obtain ⟨cs, hcov, hall2⟩ := hall h hmem
   obtain ⟨c, hc, hcf⟩ := hcov E hm.know.env hm.know.facts
   have hok := hall2 c hc
   unfold headOk at hok
   split at hok
   ·cases hok
   rename_i outs hrun
   rw [List.all_eq_true] at hok
   rw [rounds_succ]
   refine wp_mono ((runC_ok hcx fuel).1 body hb F w0 E (Fr.ofL h.tm) a (h.more c).mem w outs (hL.f.trans hgf) hrun (hm.more hcf) ha) ?_
   rintro e a' w' ⟨q, hq, E', hA, he, hf, hm'⟩
   replace hA : Later h.mem.nv q.2.nv E E' := hA
   have hq' := hok q hq
   have leave : ∀ e0 : SX, q.1.1 = e0 → anyS (fun x => (x.e == leaveOf id e0) && fits n x.tm x.mem q.1.2.toL q.2) leaves = true →
     ∃ y ∈ leaves.map (fun x => ((x.e, Fr.ofL x.tm), x.mem)), ∃ E'', Later m.nv y.2.nv E0 E'' ∧ leaveOf id e0 = y.1.1 ∧ FrOk E'' y.1.2 a' ∧ MemOk F w0 E'' y.2 w' := by
    intro e0 _ hany
    obtain ⟨x, hx, hfx⟩ := anyS_ok hany
    simp only [Bool.and_eq_true, beq_iff_eq] at hfx
    obtain ⟨hxe, hfx⟩ := hfx
    obtain ⟨hA2, hm2, hl2⟩ := rerootF_ok hfx hm'
    refine ⟨_, List.mem_map.2 ⟨x, hx, rfl⟩, E'.by (matchAll n x.tm x.mem q.1.2.toL q.2), ⟨?_, ?_, ?_⟩, hxe.symm, toFr hf hl2, hm2⟩
    ·rw [hn]
     exact (hL.trans ⟨fun k hk => hA.agree.i k (by have := (nvh h hmem).1; omega), fun k hk => hA.agree.b k (by have := (nvh h hmem).1; omega), fun k hk => hA.agree.l k (by have := (nvh h hmem).1; omega), fun k hk => hA.agree.base k (by have := (nvh h hmem).1; omega), fun k hk => hA.agree.o k (by have := (nvh h hmem).1; omega), fun k hk => hA.agree.v k (by have := (nvh h hmem).1; omega), hA.agree.f⟩ (Nat.le_refl _)).trans hA2 (Nat.le_refl _)
    ·have := nvl x hx; dsimp only; omega
    ·intro hnv; have := nvl x hx; dsimp only at hnv; omega
   cases hx : q.1.1 with
   | normal =>
    rw [hx] at he hq'
    subst he
    obtain ⟨g, hg, hfg⟩ := anyS_ok hq'
    simp only [Bool.and_eq_true] at hfg
    obtain ⟨⟨hfit, hd⟩, hlt⟩ := hfg
    obtain ⟨hA2, hm2, hl2⟩ := rerootF_ok hfit hm'
    generalize hσ : matchAll n g.tm g.mem q.1.2.toL q.2 = σ at *
    unfold nonnegI at hd
    cases hμ' : instI σ g.mu with
    | none => rw [hμ'] at hd; cases hd
    | some μ' =>
    rw [hμ'] at hd hlt
    have e1 : ev (E'.by σ) g.mu = ev E' μ' := instI_ev hμ'
    have e2 : ev E' (norm μ') < ev E' h.mu := isLt_ok hm'.know hlt
    have e3 := nonneg_ok hm'.know hd
    rw [norm_ok] at e2 e3
    have e4 : ev E' h.mu = ev E h.mu := ev_agree hA.agree (nvh h hmem).2
    show Code.rounds P body (Exit.inBlock id _) k a' w'
    refine ih g hg (E'.by σ) a' w' ?_ hm2 (toFr hf hl2) ?_
    ·exact (hL.trans ⟨fun k hk => hA.agree.i k (by have := (nvh h hmem).1; omega), fun k hk => hA.agree.b k (by have := (nvh h hmem).1; omega), fun k hk => hA.agree.l k (by have := (nvh h hmem).1; omega), fun k hk => hA.agree.base k (by have := (nvh h hmem).1; omega), fun k hk => hA.agree.o k (by have := (nvh h hmem).1; omega), fun k hk => hA.agree.v k (by have := (nvh h hmem).1; omega), hA.agree.f⟩ (Nat.le_refl _)).trans hA2 (Nat.le_refl _)
    ·rw [e1]; omega
   | exit i =>
    rw [hx] at he hq'
    subst he
    obtain ⟨y, hy, E'', h1, h2, h3, h4⟩ := leave (.exit i) hx hq'
    show if i = id then _ else _
    replace h2 : (if i = id then SX.normal else .exit i) = y.1.1 := h2
    by_cases hi : i = id
    ·rw [if_pos hi] at h2 ⊢
     exact ⟨y, hy, E'', h1, by rw [← h2]; rfl, h3, h4⟩
    ·rw [if_neg hi] at h2 ⊢
     exact ⟨y, hy, E'', h1, by rw [← h2]; rfl, h3, h4⟩
   | ret =>
    rw [hx] at he hq'
    subst he
    obtain ⟨y, hy, E'', h1, h2, h3, h4⟩ := leave .ret hx hq'
    exact ⟨y, hy, E'', h1, by rw [← h2]; rfl, h3, h4⟩
 refine wp_block (wp_loop_rounds ((ev (E0.by (matchAll n h0.tm h0.mem tm.toL m)) h0.mu).toNat + 1) ?_)
 exact key _ h0 hh0 _ a w hA0 hm0 ha0 (by omega)
theorem loopP_ok {G : Gf} {P : Program} {T : Tab P} {cx : CX} (hcx : CallsOk G P cx) {bx : BX} {jm : Option Nat} {fuel id : Nat} {body : Code} (hb : BlocksOk G P bx body) {n : Nat} {heads : List HeadP} {leaves : List LeaveP}
  (hall : ∀ h ∈ heads, headOk T cx bx jm fuel id body n heads leaves h = true) : CodeOk G P (.block id (.loop body)) (loopP n heads leaves) := by
 intro F w0 E0 tm a m w exits hgf ho hm ha
 unfold loopP at ho
 split at ho
 case isFalse => cases ho
 rename_i hc
 simp only [Bool.and_eq_true, List.all_eq_true] at hc
 obtain ⟨⟨⟨hn, hh⟩, hl⟩, hany⟩ := hc
 have hn := Nat.eq_of_beq_eq_true hn
 cases ho
 obtain ⟨h0, hh0, hf0⟩ := anyS_ok hany
 obtain ⟨hA0, hm0, hl0⟩ := rerootF_ok hf0 hm
 have toFr : ∀ {E E' : Env} {tm : Fr} {tmH : List SV} {a : Act}, FrOk E tm a → Slots E' E tmH tm.toL → FrOk E' (Fr.ofL tmH) a := fun h he => h.slots he
 have ha0 := toFr ha hl0
 have nvh : ∀ h ∈ heads, n + 1 ≤ h.mem.nv ∧ h.mu.nm h.mem.nv = true := fun h hm => ⟨Nat.le_of_ble_eq_true (hh h hm).1, (hh h hm).2⟩
 have nvl : ∀ x ∈ leaves, n + 1 ≤ x.mem.nv := fun x hx => Nat.le_of_ble_eq_true (hl x hx)
 have key : ∀ (k : Nat) (h : HeadP), h ∈ heads → ∀ (E : Env) (a : Act) (w : World), Agree n E0 E → MemOk F w0 E h.mem w → FrOk E (Fr.ofL h.tm) a → (ev E h.mu).toNat < k →
   Code.rounds P body (Exit.inBlock id (Post F w0 E0 m (leaves.map fun x => ((x.e, Fr.ofL x.tm), x.mem)))) k a w := by
  intro k
  induction k with
  | zero => intro h _ E a w _ _ _ hlt; omega
  | succ k ih =>
   intro h hmem E a w hL hm ha hk
   have hok := hall h hmem
   unfold headOk at hok
   split at hok
   ·cases hok
   rename_i outs hrun
   rw [List.all_eq_true] at hok
   rw [rounds_succ]
   refine wp_mono ((runC_ok hcx fuel).1 body hb F w0 E (Fr.ofL h.tm) a h.mem w outs (hL.f.trans hgf) hrun hm ha) ?_
   rintro e a' w' ⟨q, hq, E', hA, he, hf, hm'⟩
   have hq' := hok q hq
   have leave : ∀ e0 : SX, q.1.1 = e0 → anyS (fun x => (x.e == leaveOf id e0) && fits n x.tm x.mem q.1.2.toL q.2) leaves = true →
     ∃ y ∈ leaves.map (fun x => ((x.e, Fr.ofL x.tm), x.mem)), ∃ E'', Later m.nv y.2.nv E0 E'' ∧ leaveOf id e0 = y.1.1 ∧ FrOk E'' y.1.2 a' ∧ MemOk F w0 E'' y.2 w' := by
    intro e0 _ hany
    obtain ⟨x, hx, hfx⟩ := anyS_ok hany
    simp only [Bool.and_eq_true, beq_iff_eq] at hfx
    obtain ⟨hxe, hfx⟩ := hfx
    obtain ⟨hA2, hm2, hl2⟩ := rerootF_ok hfx hm'
    refine ⟨_, List.mem_map.2 ⟨x, hx, rfl⟩, E'.by (matchAll n x.tm x.mem q.1.2.toL q.2), ⟨?_, ?_, ?_⟩, hxe.symm, toFr hf hl2, hm2⟩
    ·rw [hn]
     exact (hL.trans ⟨fun k hk => hA.agree.i k (by have := (nvh h hmem).1; omega), fun k hk => hA.agree.b k (by have := (nvh h hmem).1; omega), fun k hk => hA.agree.l k (by have := (nvh h hmem).1; omega), fun k hk => hA.agree.base k (by have := (nvh h hmem).1; omega), fun k hk => hA.agree.o k (by have := (nvh h hmem).1; omega), fun k hk => hA.agree.v k (by have := (nvh h hmem).1; omega), hA.agree.f⟩ (Nat.le_refl _)).trans hA2 (Nat.le_refl _)
    ·have := nvl x hx; dsimp only; omega
    ·intro hnv; have := nvl x hx; dsimp only at hnv; omega
   cases hx : q.1.1 with
   | normal =>
    rw [hx] at he hq'
    subst he
    obtain ⟨g, hg, hfg⟩ := anyS_ok hq'
    simp only [Bool.and_eq_true] at hfg
    obtain ⟨⟨hfit, hd⟩, hlt⟩ := hfg
    obtain ⟨hA2, hm2, hl2⟩ := rerootF_ok hfit hm'
    generalize hσ : matchAll n g.tm g.mem q.1.2.toL q.2 = σ at *
    unfold nonnegI at hd
    cases hμ' : instI σ g.mu with
    | none => rw [hμ'] at hd; cases hd
    | some μ' =>
    rw [hμ'] at hd hlt
    have e1 : ev (E'.by σ) g.mu = ev E' μ' := instI_ev hμ'
    have e2 := isLt_ok hm'.know hlt
    have e3 := nonneg_ok hm'.know hd
    rw [norm_ok] at e2 e3
    have e4 : ev E' h.mu = ev E h.mu := ev_agree hA.agree (nvh h hmem).2
    show Code.rounds P body (Exit.inBlock id _) k a' w'
    refine ih g hg (E'.by σ) a' w' ?_ hm2 (toFr hf hl2) ?_
    ·exact (hL.trans ⟨fun k hk => hA.agree.i k (by have := (nvh h hmem).1; omega), fun k hk => hA.agree.b k (by have := (nvh h hmem).1; omega), fun k hk => hA.agree.l k (by have := (nvh h hmem).1; omega), fun k hk => hA.agree.base k (by have := (nvh h hmem).1; omega), fun k hk => hA.agree.o k (by have := (nvh h hmem).1; omega), fun k hk => hA.agree.v k (by have := (nvh h hmem).1; omega), hA.agree.f⟩ (Nat.le_refl _)).trans hA2 (Nat.le_refl _)
    ·rw [e1]; omega
   | exit i =>
    rw [hx] at he hq'
    subst he
    obtain ⟨y, hy, E'', h1, h2, h3, h4⟩ := leave (.exit i) hx hq'
    show if i = id then _ else _
    replace h2 : (if i = id then SX.normal else .exit i) = y.1.1 := h2
    by_cases hi : i = id
    ·rw [if_pos hi] at h2 ⊢
     exact ⟨y, hy, E'', h1, by rw [← h2]; rfl, h3, h4⟩
    ·rw [if_neg hi] at h2 ⊢
     exact ⟨y, hy, E'', h1, by rw [← h2]; rfl, h3, h4⟩
   | ret =>
    rw [hx] at he hq'
    subst he
    obtain ⟨y, hy, E'', h1, h2, h3, h4⟩ := leave .ret hx hq'
    exact ⟨y, hy, E'', h1, by rw [← h2]; rfl, h3, h4⟩
 refine wp_block (wp_loop_rounds ((ev (E0.by (matchAll n h0.tm h0.mem tm.toL m)) h0.mu).toNat + 1) ?_)
 exact key _ h0 hh0 _ a w hA0 hm0 ha0 (by omega)
end Go.Sx
namespace Go.Sx
open Go
noncomputable def HeadP.moreC (h : HeadP) (c : List Fact × List BE) : HeadP := { h with mem := { h.mem with know := ⟨c.1 ++ h.mem.know.facts, c.2 ++ h.mem.know.conds⟩ } }
theorem MemOk.moreC {F : Nat → Prop} {w0 : World} {E : Env} {m : Mem} {w : World} (h : MemOk F w0 E m w) {c : List Fact × List BE} (hc : (∀ f ∈ c.1, FactOk E f) ∧ ∀ b ∈ c.2, evB E b = true) : MemOk F w0 E { m with know := ⟨c.1 ++ m.know.facts, c.2 ++ m.know.conds⟩ } w :=
 ⟨⟨h.know.env, fun f hm => (List.mem_append.1 hm).elim (hc.1 f) (h.know.facts f), fun b hm => (List.mem_append.1 hm).elim (hc.2 b) (h.know.conds b)⟩, h.size, h.ents, h.apart, h.mine, h.ext, h.seg0⟩
theorem loopPd_ok {G : Gf} {P : Program} {T : Tab P} {cx : CX} (hcx : CallsOk G P cx) {bx : BX} {jm : Option Nat} {fuel id : Nat} {body : Code} (hb : BlocksOk G P bx body) {n : Nat} {heads : List HeadP} {leaves : List LeaveP}
  (hall : ∀ h ∈ heads, ∃ cs : List (List Fact × List BE), (∀ E : Env, E.Ok → (∀ f ∈ h.mem.know.facts, FactOk E f) → ∃ c ∈ cs, (∀ f ∈ c.1, FactOk E f) ∧ ∀ b ∈ c.2, evB E b = true) ∧ ∀ c ∈ cs, headOk T cx bx jm fuel id body n heads leaves (h.moreC c) = true) : CodeOk G P (.block id (.loop body)) (loopP n heads leaves) := by
 intro F w0 E0 tm a m w exits hgf ho hm ha
 unfold loopP at ho
 split at ho
 case isFalse => cases ho
 rename_i hc
 simp only [Bool.and_eq_true, List.all_eq_true] at hc
 obtain ⟨⟨⟨hn, hh⟩, hl⟩, hany⟩ := hc
 have hn := Nat.eq_of_beq_eq_true hn
 cases ho
 obtain ⟨h0, hh0, hf0⟩ := anyS_ok hany
 obtain ⟨hA0, hm0, hl0⟩ := rerootF_ok hf0 hm
 have toFr : ∀ {E E' : Env} {tm : Fr} {tmH : List SV} {a : Act}, FrOk E tm a → Slots E' E tmH tm.toL → FrOk E' (Fr.ofL tmH) a := fun h he => h.slots he
 have ha0 := toFr ha hl0
 have nvh : ∀ h ∈ heads, n + 1 ≤ h.mem.nv ∧ h.mu.nm h.mem.nv = true := fun h hm => ⟨Nat.le_of_ble_eq_true (hh h hm).1, (hh h hm).2⟩
 have nvl : ∀ x ∈ leaves, n + 1 ≤ x.mem.nv := fun x hx => Nat.le_of_ble_eq_true (hl x hx)
 have key : ∀ (k : Nat) (h : HeadP), h ∈ heads → ∀ (E : Env) (a : Act) (w : World), Agree n E0 E → MemOk F w0 E h.mem w → FrOk E (Fr.ofL h.tm) a → (ev E h.mu).toNat < k →
   Code.rounds P body (Exit.inBlock id (Post F w0 E0 m (leaves.map fun x => ((x.e, Fr.ofL x.tm), x.mem)))) k a w := by
  intro k
  induction k with
  | zero => intro h _ E a w _ _ _ hlt; omega
  | succ k ih =>
   intro h hmem E a w hL hm ha hk
   obtain ⟨cs, hcov, hall2⟩ := hall h hmem
   obtain ⟨c, hc, hcf⟩ := hcov E hm.know.env hm.know.facts
   have hok := hall2 c hc
   unfold headOk at hok
   split at hok
   ·cases hok
   rename_i outs hrun
   rw [List.all_eq_true] at hok
   rw [rounds_succ]
   refine wp_mono ((runC_ok hcx fuel).1 body hb F w0 E (Fr.ofL h.tm) a (h.moreC c).mem w outs (hL.f.trans hgf) hrun (hm.moreC hcf) ha) ?_
   rintro e a' w' ⟨q, hq, E', hA, he, hf, hm'⟩
   replace hA : Later h.mem.nv q.2.nv E E' := hA
   have hq' := hok q hq
   have leave : ∀ e0 : SX, q.1.1 = e0 → anyS (fun x => (x.e == leaveOf id e0) && fits n x.tm x.mem q.1.2.toL q.2) leaves = true →
     ∃ y ∈ leaves.map (fun x => ((x.e, Fr.ofL x.tm), x.mem)), ∃ E'', Later m.nv y.2.nv E0 E'' ∧ leaveOf id e0 = y.1.1 ∧ FrOk E'' y.1.2 a' ∧ MemOk F w0 E'' y.2 w' := by
    intro e0 _ hany
    obtain ⟨x, hx, hfx⟩ := anyS_ok hany
    simp only [Bool.and_eq_true, beq_iff_eq] at hfx
    obtain ⟨hxe, hfx⟩ := hfx
    obtain ⟨hA2, hm2, hl2⟩ := rerootF_ok hfx hm'
    refine ⟨_, List.mem_map.2 ⟨x, hx, rfl⟩, E'.by (matchAll n x.tm x.mem q.1.2.toL q.2), ⟨?_, ?_, ?_⟩, hxe.symm, toFr hf hl2, hm2⟩
    ·rw [hn]
     exact (hL.trans ⟨fun k hk => hA.agree.i k (by have := (nvh h hmem).1; omega), fun k hk => hA.agree.b k (by have := (nvh h hmem).1; omega), fun k hk => hA.agree.l k (by have := (nvh h hmem).1; omega), fun k hk => hA.agree.base k (by have := (nvh h hmem).1; omega), fun k hk => hA.agree.o k (by have := (nvh h hmem).1; omega), fun k hk => hA.agree.v k (by have := (nvh h hmem).1; omega), hA.agree.f⟩ (Nat.le_refl _)).trans hA2 (Nat.le_refl _)
    ·have := nvl x hx; dsimp only; omega
    ·intro hnv; have := nvl x hx; dsimp only at hnv; omega
   cases hx : q.1.1 with
   | normal =>
    rw [hx] at he hq'
    subst he
    obtain ⟨g, hg, hfg⟩ := anyS_ok hq'
    simp only [Bool.and_eq_true] at hfg
    obtain ⟨⟨hfit, hd⟩, hlt⟩ := hfg
    obtain ⟨hA2, hm2, hl2⟩ := rerootF_ok hfit hm'
    generalize hσ : matchAll n g.tm g.mem q.1.2.toL q.2 = σ at *
    unfold nonnegI at hd
    cases hμ' : instI σ g.mu with
    | none => rw [hμ'] at hd; cases hd
    | some μ' =>
    rw [hμ'] at hd hlt
    have e1 : ev (E'.by σ) g.mu = ev E' μ' := instI_ev hμ'
    have e2 : ev E' (norm μ') < ev E' h.mu := isLt_ok hm'.know hlt
    have e3 := nonneg_ok hm'.know hd
    rw [norm_ok] at e2 e3
    have e4 : ev E' h.mu = ev E h.mu := ev_agree hA.agree (nvh h hmem).2
    show Code.rounds P body (Exit.inBlock id _) k a' w'
    refine ih g hg (E'.by σ) a' w' ?_ hm2 (toFr hf hl2) ?_
    ·exact (hL.trans ⟨fun k hk => hA.agree.i k (by have := (nvh h hmem).1; omega), fun k hk => hA.agree.b k (by have := (nvh h hmem).1; omega), fun k hk => hA.agree.l k (by have := (nvh h hmem).1; omega), fun k hk => hA.agree.base k (by have := (nvh h hmem).1; omega), fun k hk => hA.agree.o k (by have := (nvh h hmem).1; omega), fun k hk => hA.agree.v k (by have := (nvh h hmem).1; omega), hA.agree.f⟩ (Nat.le_refl _)).trans hA2 (Nat.le_refl _)
    ·rw [e1]; omega
   | exit i =>
    rw [hx] at he hq'
    subst he
    obtain ⟨y, hy, E'', h1, h2, h3, h4⟩ := leave (.exit i) hx hq'
    show if i = id then _ else _
    replace h2 : (if i = id then SX.normal else .exit i) = y.1.1 := h2
    by_cases hi : i = id
    ·rw [if_pos hi] at h2 ⊢
     exact ⟨y, hy, E'', h1, by rw [← h2]; rfl, h3, h4⟩
    ·rw [if_neg hi] at h2 ⊢
     exact ⟨y, hy, E'', h1, by rw [← h2]; rfl, h3, h4⟩
   | ret =>
    rw [hx] at he hq'
    subst he
    obtain ⟨y, hy, E'', h1, h2, h3, h4⟩ := leave .ret hx hq'
    exact ⟨y, hy, E'', h1, by rw [← h2]; rfl, h3, h4⟩
 refine wp_block (wp_loop_rounds ((ev (E0.by (matchAll n h0.tm h0.mem tm.toL m)) h0.mu).toNat + 1) ?_)
 exact key _ h0 hh0 _ a w hA0 hm0 ha0 (by omega)
end Go.Sx
namespace Go.Sx
open Go
theorem loopPe_ok {G : Gf} {P : Program} {T : Tab P} {cx : CX} (hcx : CallsOk G P cx) {bx : BX} {jm : Option Nat} {fuel id : Nat} {body : Code} (hb : BlocksOk G P bx body) {n : Nat} {heads : List HeadP} {leaves : List LeaveP}
  (hall : ∀ h ∈ heads, ∃ cs : List (List Fact × List BE), (∀ E : Env, E.f = G → E.Ok → (∀ f ∈ h.mem.know.facts, FactOk E f) → ∃ c ∈ cs, (∀ f ∈ c.1, FactOk E f) ∧ ∀ b ∈ c.2, evB E b = true) ∧ ∀ c ∈ cs, headOk T cx bx jm fuel id body n heads leaves (h.moreC c) = true) : CodeOk G P (.block id (.loop body)) (loopP n heads leaves) := by
 intro F w0 E0 tm a m w exits hgf ho hm ha
 unfold loopP at ho
 split at ho
 case isFalse => cases ho
 rename_i hc
 simp only [Bool.and_eq_true, List.all_eq_true] at hc
 obtain ⟨⟨⟨hn, hh⟩, hl⟩, hany⟩ := hc
 have hn := Nat.eq_of_beq_eq_true hn
 cases ho
 obtain ⟨h0, hh0, hf0⟩ := anyS_ok hany
 obtain ⟨hA0, hm0, hl0⟩ := rerootF_ok hf0 hm
 have toFr : ∀ {E E' : Env} {tm : Fr} {tmH : List SV} {a : Act}, FrOk E tm a → Slots E' E tmH tm.toL → FrOk E' (Fr.ofL tmH) a := fun h he => h.slots he
 have ha0 := toFr ha hl0
 have nvh : ∀ h ∈ heads, n + 1 ≤ h.mem.nv ∧ h.mu.nm h.mem.nv = true := fun h hm => ⟨Nat.le_of_ble_eq_true (hh h hm).1, (hh h hm).2⟩
 have nvl : ∀ x ∈ leaves, n + 1 ≤ x.mem.nv := fun x hx => Nat.le_of_ble_eq_true (hl x hx)
 have key : ∀ (k : Nat) (h : HeadP), h ∈ heads → ∀ (E : Env) (a : Act) (w : World), Agree n E0 E → MemOk F w0 E h.mem w → FrOk E (Fr.ofL h.tm) a → (ev E h.mu).toNat < k →
   Code.rounds P body (Exit.inBlock id (Post F w0 E0 m (leaves.map fun x => ((x.e, Fr.ofL x.tm), x.mem)))) k a w := by
  intro k
  induction k with
  | zero => intro h _ E a w _ _ _ hlt; omega
  | succ k ih =>
   intro h hmem E a w hL hm ha hk
   obtain ⟨cs, hcov, hall2⟩ := hall h hmem
   obtain ⟨c, hc, hcf⟩ := hcov E (hL.f.trans hgf) hm.know.env hm.know.facts
   have hok := hall2 c hc
   unfold headOk at hok
   split at hok
   ·cases hok
   rename_i outs hrun
   rw [List.all_eq_true] at hok
   rw [rounds_succ]
   refine wp_mono ((runC_ok hcx fuel).1 body hb F w0 E (Fr.ofL h.tm) a (h.moreC c).mem w outs (hL.f.trans hgf) hrun (hm.moreC hcf) ha) ?_
   rintro e a' w' ⟨q, hq, E', hA, he, hf, hm'⟩
   replace hA : Later h.mem.nv q.2.nv E E' := hA
   have hq' := hok q hq
   have leave : ∀ e0 : SX, q.1.1 = e0 → anyS (fun x => (x.e == leaveOf id e0) && fits n x.tm x.mem q.1.2.toL q.2) leaves = true →
     ∃ y ∈ leaves.map (fun x => ((x.e, Fr.ofL x.tm), x.mem)), ∃ E'', Later m.nv y.2.nv E0 E'' ∧ leaveOf id e0 = y.1.1 ∧ FrOk E'' y.1.2 a' ∧ MemOk F w0 E'' y.2 w' := by
    intro e0 _ hany
    obtain ⟨x, hx, hfx⟩ := anyS_ok hany
    simp only [Bool.and_eq_true, beq_iff_eq] at hfx
    obtain ⟨hxe, hfx⟩ := hfx
    obtain ⟨hA2, hm2, hl2⟩ := rerootF_ok hfx hm'
    refine ⟨_, List.mem_map.2 ⟨x, hx, rfl⟩, E'.by (matchAll n x.tm x.mem q.1.2.toL q.2), ⟨?_, ?_, ?_⟩, hxe.symm, toFr hf hl2, hm2⟩
    ·rw [hn]
     exact (hL.trans ⟨fun k hk => hA.agree.i k (by have := (nvh h hmem).1; omega), fun k hk => hA.agree.b k (by have := (nvh h hmem).1; omega), fun k hk => hA.agree.l k (by have := (nvh h hmem).1; omega), fun k hk => hA.agree.base k (by have := (nvh h hmem).1; omega), fun k hk => hA.agree.o k (by have := (nvh h hmem).1; omega), fun k hk => hA.agree.v k (by have := (nvh h hmem).1; omega), hA.agree.f⟩ (Nat.le_refl _)).trans hA2 (Nat.le_refl _)
    ·have := nvl x hx; dsimp only; omega
    ·intro hnv; have := nvl x hx; dsimp only at hnv; omega
   cases hx : q.1.1 with
   | normal =>
    rw [hx] at he hq'
    subst he
    obtain ⟨g, hg, hfg⟩ := anyS_ok hq'
    simp only [Bool.and_eq_true] at hfg
    obtain ⟨⟨hfit, hd⟩, hlt⟩ := hfg
    obtain ⟨hA2, hm2, hl2⟩ := rerootF_ok hfit hm'
    generalize hσ : matchAll n g.tm g.mem q.1.2.toL q.2 = σ at *
    unfold nonnegI at hd
    cases hμ' : instI σ g.mu with
    | none => rw [hμ'] at hd; cases hd
    | some μ' =>
    rw [hμ'] at hd hlt
    have e1 : ev (E'.by σ) g.mu = ev E' μ' := instI_ev hμ'
    have e2 : ev E' (norm μ') < ev E' h.mu := isLt_ok hm'.know hlt
    have e3 := nonneg_ok hm'.know hd
    rw [norm_ok] at e2 e3
    have e4 : ev E' h.mu = ev E h.mu := ev_agree hA.agree (nvh h hmem).2
    show Code.rounds P body (Exit.inBlock id _) k a' w'
    refine ih g hg (E'.by σ) a' w' ?_ hm2 (toFr hf hl2) ?_
    ·exact (hL.trans ⟨fun k hk => hA.agree.i k (by have := (nvh h hmem).1; omega), fun k hk => hA.agree.b k (by have := (nvh h hmem).1; omega), fun k hk => hA.agree.l k (by have := (nvh h hmem).1; omega), fun k hk => hA.agree.base k (by have := (nvh h hmem).1; omega), fun k hk => hA.agree.o k (by have := (nvh h hmem).1; omega), fun k hk => hA.agree.v k (by have := (nvh h hmem).1; omega), hA.agree.f⟩ (Nat.le_refl _)).trans hA2 (Nat.le_refl _)
    ·rw [e1]; omega
   | exit i =>
    rw [hx] at he hq'
    subst he
    obtain ⟨y, hy, E'', h1, h2, h3, h4⟩ := leave (.exit i) hx hq'
    show if i = id then _ else _
    replace h2 : (if i = id then SX.normal else .exit i) = y.1.1 := h2
    by_cases hi : i = id
    ·rw [if_pos hi] at h2 ⊢
     exact ⟨y, hy, E'', h1, by rw [← h2]; rfl, h3, h4⟩
    ·rw [if_neg hi] at h2 ⊢
     exact ⟨y, hy, E'', h1, by rw [← h2]; rfl, h3, h4⟩
   | ret =>
    rw [hx] at he hq'
    subst he
    obtain ⟨y, hy, E'', h1, h2, h3, h4⟩ := leave .ret hx hq'
    exact ⟨y, hy, E'', h1, by rw [← h2]; rfl, h3, h4⟩
 refine wp_block (wp_loop_rounds ((ev (E0.by (matchAll n h0.tm h0.mem tm.toL m)) h0.mu).toNat + 1) ?_)
 exact key _ h0 hh0 _ a w hA0 hm0 ha0 (by omega)
end Go.Sx
namespace Go.Sx
open Go
structure HeadJ where
 h : HeadP
 sys : List IE
structure InvJ (G : Gf) where
 inv : List Int → Prop
 step : Know → List IE → List IE → Bool
 dead : Know → List IE → Bool
 init : Know → List IE → Bool
 step_ok : ∀ (E : Env) (kn : Know) (old new : List IE), E.f = G → KnowOk E kn → step kn old new = true → inv (old.map (ev E)) → inv (new.map (ev E))
 dead_ok : ∀ (E : Env) (kn : Know) (old : List IE), E.f = G → KnowOk E kn → dead kn old = true → ¬ inv (old.map (ev E))
 init_ok : ∀ (E : Env) (kn : Know) (new : List IE), E.f = G → KnowOk E kn → init kn new = true → inv (new.map (ev E))
noncomputable def instL (σ : Sub) : List IE → Option (List IE)
 | [] => some []
 | e :: r => match instI σ e, instL σ r with
  | some e, some r => some (e :: r)
  | _, _ => none
theorem instL_ev {E : Env} {σ : Sub} : ∀ {l l' : List IE}, instL σ l = some l' → l.map (ev (E.by σ)) = l'.map (ev E)
 | [], l', h => by cases h; rfl
 | e :: r, l', h => by
  unfold instL at h
  split at h
  ·rename_i e' r' h1 h2
   cases h
   rw [List.map_cons, List.map_cons, instI_ev h1, instL_ev h2]
  ·cases h
noncomputable def headOkJ {P : Program} {G : Gf} (J : InvJ G) (T : Tab P) (cx : CX) (bx : BX) (jm : Option Nat) (fuel id : Nat) (body : Code) (n : Nat) (heads : List HeadJ) (leaves : List LeaveP) (h : HeadP) (old : List IE) : Bool :=
 match runC T cx bx jm fuel body (Fr.ofL h.tm) h.mem with
 | none => false
 | some outs => outs.all fun q => cond (J.dead q.2.know old) true (match q.1.1 with
  | .normal => anyS (fun g => fits n g.h.tm g.h.mem q.1.2.toL q.2 && nonnegI q.2.know (matchAll n g.h.tm g.h.mem q.1.2.toL q.2) g.h.mu && (match instI (matchAll n g.h.tm g.h.mem q.1.2.toL q.2) g.h.mu with
    | some μ' => isLt q.2.know (norm μ') h.mu
    | none => false) && (match instL (matchAll n g.h.tm g.h.mem q.1.2.toL q.2) g.sys with
    | some new => J.step q.2.know old new
    | none => false)) heads
  | e => anyS (fun x => (x.e == leaveOf id e) && fits n x.tm x.mem q.1.2.toL q.2) leaves)
noncomputable def loopJ {G : Gf} (J : InvJ G) (n : Nat) (heads : List HeadJ) (leaves : List LeaveP) : Fr → X (SX × Fr) := fun tm m =>
 if Nat.beq m.nv n && heads.all (fun h => Nat.ble (n + 1) h.h.mem.nv && h.h.mu.nm h.h.mem.nv && h.sys.all (fun e => e.nm h.h.mem.nv)) && leaves.all (fun x => Nat.ble (n + 1) x.mem.nv) && anyS (fun h => fits n h.h.tm h.h.mem tm.toL m && (match instL (matchAll n h.h.tm h.h.mem tm.toL m) h.sys with
  | some new => J.init m.know new
  | none => false)) heads then
  some (leaves.map fun x => ((x.e, Fr.ofL x.tm), x.mem))
 else none
theorem loopJ_ok {G : Gf} (J : InvJ G) {P : Program} {T : Tab P} {cx : CX} (hcx : CallsOk G P cx) {bx : BX} {jm : Option Nat} {fuel id : Nat} {body : Code} (hb : BlocksOk G P bx body) {n : Nat} {heads : List HeadJ} {leaves : List LeaveP}
  (hall : ∀ h ∈ heads, ∃ cs : List (List Fact × List BE), (∀ E : Env, E.f = G → E.Ok → (∀ f ∈ h.h.mem.know.facts, FactOk E f) → J.inv (h.sys.map (ev E)) → ∃ c ∈ cs, (∀ f ∈ c.1, FactOk E f) ∧ ∀ b ∈ c.2, evB E b = true) ∧ ∀ c ∈ cs, headOkJ J T cx bx jm fuel id body n heads leaves (h.h.moreC c) h.sys = true) : CodeOk G P (.block id (.loop body)) (loopJ J n heads leaves) := by
 intro F w0 E0 tm a m w exits hgf ho hm ha
 unfold loopJ at ho
 split at ho
 case isFalse => cases ho
 rename_i hc
 simp only [Bool.and_eq_true, List.all_eq_true] at hc
 obtain ⟨⟨⟨hn, hh⟩, hl⟩, hany⟩ := hc
 have hn := Nat.eq_of_beq_eq_true hn
 cases ho
 obtain ⟨h0, hh0, hf0⟩ := anyS_ok hany
 rw [Bool.and_eq_true] at hf0
 obtain ⟨hf0, hi0⟩ := hf0
 obtain ⟨hA0, hm0, hl0⟩ := rerootF_ok hf0 hm
 have toFr : ∀ {E E' : Env} {tm : Fr} {tmH : List SV} {a : Act}, FrOk E tm a → Slots E' E tmH tm.toL → FrOk E' (Fr.ofL tmH) a := fun h he => h.slots he
 have ha0 := toFr ha hl0
 have nvh : ∀ h ∈ heads, n + 1 ≤ h.h.mem.nv ∧ h.h.mu.nm h.h.mem.nv = true := fun h hm => ⟨Nat.le_of_ble_eq_true (hh h hm).1.1, (hh h hm).1.2⟩
 have nvs : ∀ h ∈ heads, ∀ e ∈ h.sys, e.nm h.h.mem.nv = true := fun h hm => (hh h hm).2
 have nvl : ∀ x ∈ leaves, n + 1 ≤ x.mem.nv := fun x hx => Nat.le_of_ble_eq_true (hl x hx)
 have key : ∀ (k : Nat) (h : HeadJ), h ∈ heads → ∀ (E : Env) (a : Act) (w : World), Agree n E0 E → J.inv (h.sys.map (ev E)) → MemOk F w0 E h.h.mem w → FrOk E (Fr.ofL h.h.tm) a → (ev E h.h.mu).toNat < k →
   Code.rounds P body (Exit.inBlock id (Post F w0 E0 m (leaves.map fun x => ((x.e, Fr.ofL x.tm), x.mem)))) k a w := by
  intro k
  induction k with
  | zero => intro h _ E a w _ _ _ _ hlt; omega
  | succ k ih =>
   intro h hmem E a w hL hI hm ha hk
   obtain ⟨cs, hcov, hall2⟩ := hall h hmem
   obtain ⟨c, hc, hcf⟩ := hcov E (hL.f.trans hgf) hm.know.env hm.know.facts hI
   have hok := hall2 c hc
   unfold headOkJ at hok
   split at hok
   ·cases hok
   rename_i outs hrun
   rw [List.all_eq_true] at hok
   rw [rounds_succ]
   refine wp_mono ((runC_ok hcx fuel).1 body hb F w0 E (Fr.ofL h.h.tm) a (h.h.moreC c).mem w outs (hL.f.trans hgf) hrun (hm.moreC hcf) ha) ?_
   rintro e a' w' ⟨q, hq, E', hA, he, hf, hm'⟩
   replace hA : Later h.h.mem.nv q.2.nv E E' := hA
   have hgf' : E'.f = G := hA.agree.f.trans (hL.f.trans hgf)
   have hIe : J.inv (h.sys.map (ev E')) := by
    rw [List.map_congr_left (fun e he => ev_agree hA.agree (nvs h hmem e he))]
    exact hI
   have hq' := hok q hq
   cases hdead : J.dead q.2.know h.sys with
   | true => exact absurd hIe (J.dead_ok E' q.2.know h.sys hgf' hm'.know hdead)
   | false =>
   rw [hdead] at hq'
   dsimp only [cond] at hq'
   have leave : ∀ e0 : SX, q.1.1 = e0 → anyS (fun x => (x.e == leaveOf id e0) && fits n x.tm x.mem q.1.2.toL q.2) leaves = true →
     ∃ y ∈ leaves.map (fun x => ((x.e, Fr.ofL x.tm), x.mem)), ∃ E'', Later m.nv y.2.nv E0 E'' ∧ leaveOf id e0 = y.1.1 ∧ FrOk E'' y.1.2 a' ∧ MemOk F w0 E'' y.2 w' := by
    intro e0 _ hany
    obtain ⟨x, hx, hfx⟩ := anyS_ok hany
    simp only [Bool.and_eq_true, beq_iff_eq] at hfx
    obtain ⟨hxe, hfx⟩ := hfx
    obtain ⟨hA2, hm2, hl2⟩ := rerootF_ok hfx hm'
    refine ⟨_, List.mem_map.2 ⟨x, hx, rfl⟩, E'.by (matchAll n x.tm x.mem q.1.2.toL q.2), ⟨?_, ?_, ?_⟩, hxe.symm, toFr hf hl2, hm2⟩
    ·rw [hn]
     exact (hL.trans ⟨fun k hk => hA.agree.i k (by have := (nvh h hmem).1; omega), fun k hk => hA.agree.b k (by have := (nvh h hmem).1; omega), fun k hk => hA.agree.l k (by have := (nvh h hmem).1; omega), fun k hk => hA.agree.base k (by have := (nvh h hmem).1; omega), fun k hk => hA.agree.o k (by have := (nvh h hmem).1; omega), fun k hk => hA.agree.v k (by have := (nvh h hmem).1; omega), hA.agree.f⟩ (Nat.le_refl _)).trans hA2 (Nat.le_refl _)
    ·have := nvl x hx; dsimp only; omega
    ·intro hnv; have := nvl x hx; dsimp only at hnv; omega
   cases hx : q.1.1 with
   | normal =>
    rw [hx] at he hq'
    subst he
    obtain ⟨g, hg, hfg⟩ := anyS_ok hq'
    simp only [Bool.and_eq_true] at hfg
    obtain ⟨⟨⟨hfit, hd⟩, hlt⟩, hstep⟩ := hfg
    obtain ⟨hA2, hm2, hl2⟩ := rerootF_ok hfit hm'
    generalize hσ : matchAll n g.h.tm g.h.mem q.1.2.toL q.2 = σ at *
    unfold nonnegI at hd
    cases hμ' : instI σ g.h.mu with
    | none => rw [hμ'] at hd; cases hd
    | some μ' =>
    rw [hμ'] at hd hlt
    have e1 : ev (E'.by σ) g.h.mu = ev E' μ' := instI_ev hμ'
    have e2 : ev E' (norm μ') < ev E' h.h.mu := isLt_ok hm'.know hlt
    have e3 := nonneg_ok hm'.know hd
    rw [norm_ok] at e2 e3
    have e4 : ev E' h.h.mu = ev E h.h.mu := ev_agree hA.agree (nvh h hmem).2
    cases hnew : instL σ g.sys with
    | none => rw [hnew] at hstep; cases hstep
    | some new =>
    rw [hnew] at hstep
    have hI2 : J.inv (g.sys.map (ev (E'.by σ))) := by
     rw [instL_ev hnew]
     exact J.step_ok E' q.2.know h.sys new hgf' hm'.know hstep hIe
    show Code.rounds P body (Exit.inBlock id _) k a' w'
    refine ih g hg (E'.by σ) a' w' ?_ hI2 hm2 (toFr hf hl2) ?_
    ·exact (hL.trans ⟨fun k hk => hA.agree.i k (by have := (nvh h hmem).1; omega), fun k hk => hA.agree.b k (by have := (nvh h hmem).1; omega), fun k hk => hA.agree.l k (by have := (nvh h hmem).1; omega), fun k hk => hA.agree.base k (by have := (nvh h hmem).1; omega), fun k hk => hA.agree.o k (by have := (nvh h hmem).1; omega), fun k hk => hA.agree.v k (by have := (nvh h hmem).1; omega), hA.agree.f⟩ (Nat.le_refl _)).trans hA2 (Nat.le_refl _)
    ·rw [e1]; omega
   | exit i =>
    rw [hx] at he hq'
    subst he
    obtain ⟨y, hy, E'', h1, h2, h3, h4⟩ := leave (.exit i) hx hq'
    show if i = id then _ else _
    replace h2 : (if i = id then SX.normal else .exit i) = y.1.1 := h2
    by_cases hi : i = id
    ·rw [if_pos hi] at h2 ⊢
     exact ⟨y, hy, E'', h1, by rw [← h2]; rfl, h3, h4⟩
    ·rw [if_neg hi] at h2 ⊢
     exact ⟨y, hy, E'', h1, by rw [← h2]; rfl, h3, h4⟩
   | ret =>
    rw [hx] at he hq'
    subst he
    obtain ⟨y, hy, E'', h1, h2, h3, h4⟩ := leave .ret hx hq'
    exact ⟨y, hy, E'', h1, by rw [← h2]; rfl, h3, h4⟩
 have hI0 : J.inv (h0.sys.map (ev (E0.by (matchAll n h0.h.tm h0.h.mem tm.toL m)))) := by
  cases hnew : instL (matchAll n h0.h.tm h0.h.mem tm.toL m) h0.sys with
  | none => rw [hnew] at hi0; cases hi0
  | some new =>
   rw [hnew] at hi0
   rw [instL_ev hnew]
   exact J.init_ok E0 m.know new hgf hm.know hi0
 refine wp_block (wp_loop_rounds ((ev (E0.by (matchAll n h0.h.tm h0.h.mem tm.toL m)) h0.h.mu).toNat + 1) ?_)
 exact key _ h0 hh0 _ a w hA0 hI0 hm0 ha0 (by omega)
end Go.Sx
namespace Go.Sx
open Go
noncomputable def varS (c N : Nat) : Sub := ⟨[(c, .var N)], [], [], [], []⟩
theorem by_var {E : Env} {c N : Nat} (h : E.i N = E.i c) : E.by (varS c N) = E := by
 have hi : (fun j => match Sx.look j [(c, IE.var N)] with | some e => ev E e | none => E.i j) = E.i := by
  funext j
  show (match cond (Nat.beq c j) (some (IE.var N)) none with | some e => ev E e | none => E.i j) = E.i j
  cases hq : Nat.beq c j with
  | true =>
   have := Nat.eq_of_beq_eq_true hq
   subst this
   exact h
  | false => rfl
 show (⟨_, E.b, E.l, E.base, E.o, E.v, E.f⟩ : Env) = ⟨E.i, E.b, E.l, E.base, E.o, E.v, E.f⟩
 congr 1
noncomputable def capOf (n : Nat) : SV → Option (Nat × IE)
 | .sli _ _ _ l (.var c) => cond (Nat.ble n c) (some (c, l)) none
 | .cons a b => match capOf n a with
  | some x => some x
  | none => capOf n b
 | .agg c => capOf n c
 | .tup c => capOf n c
 | _ => none
noncomputable def allV (p : Nat → Bool) : IE → Bool
 | .lit _ => true
 | .var i => p i
 | .sel _ i => allV p i
 | .add a b | .sub a b | .mul a b | .quo a b | .rem a b | .bit _ _ a b | .arg a b => allV p a && allV p b
 | .wrap _ a | .shr a _ | .app _ a => allV p a
 | .noarg => true
 | .ite _ a b x y => allV p a && allV p b && allV p x && allV p y
 | .bv _ => true
noncomputable def allW (p : Nat → Bool) : BE → Bool
 | .lit _ => true
 | .var _ => true
 | .lt a b | .eq a b => allV p a && allV p b
 | .not a => allW p a
noncomputable def defd (cs : List BE) (j : Nat) : Bool := cs.any fun c => match c with
 | .eq (.var i) (.app _ _) => Nat.beq i j
 | _ => false
noncomputable def instH (σ : Sub) : List Ent → Option (List Ent)
 | [] => some []
 | e :: r => match instH σ r with
  | none => none
  | some r' => match e.ro with
   | true => some (e :: r')
   | false => match instS σ e.c with
    | some c => cond e.c.plain (some ({ e with c := c } :: r')) none
    | none => none
def SameE (E : Env) (e e' : Ent) : Prop := e' = e ∨ (e.ro = false ∧ e' = { e with c := e'.c } ∧ dl E e'.c = dl E e.c)
inductive Two {α : Type} (R : α → α → Prop) : List α → List α → Prop
 | nil : Two R [] []
 | cons {a b : α} {l m : List α} : R a b → Two R l m → Two R (a :: l) (b :: m)
theorem instH_ok {E : Env} {c N : Nat} (hN : E.i N = E.i c) : ∀ {h h' : List Ent}, instH (varS c N) h = some h' → Two (SameE E) h h'
 | [], h', hh => by cases hh; exact .nil
 | e :: r, h', hh => by
  unfold instH at hh
  split at hh
  ·cases hh
  ·rename_i r' hr
   have ih := instH_ok hN hr
   split at hh
   ·cases hh; exact .cons (.inl rfl) ih
   ·rename_i hro
    split at hh
    ·rename_i d hd
     cases hp : e.c.plain with
     | false => rw [hp] at hh; cases hh
     | true =>
      rw [hp] at hh
      cases hh
      refine .cons (.inr ⟨hro, rfl, ?_⟩) ih
      have := instS_ok E (varS c N) e.c d hp hd
      rw [by_var hN] at this
      exact this.symm
    ·cases hh
theorem forall2_mem {E' : Env} {h h' : List Ent} (hall : Two (SameE E') h h') {e' : Ent} (he : e' ∈ h') : ∃ e ∈ h, SameE E' e e' := by
 induction hall with
 | nil => cases he
 | cons hx _ ih =>
  rcases List.mem_cons.1 he with rfl | he
  ·exact ⟨_, List.mem_cons_self, hx⟩
  ·obtain ⟨e, h1, h2⟩ := ih he
   exact ⟨e, List.mem_cons_of_mem _ h1, h2⟩
theorem forall2_pairwise {E' : Env} {h h' : List Ent} (hall : Two (SameE E') h h') (hp : h.Pairwise (Ent.parted E')) : h'.Pairwise (Ent.parted E') := by
 have same : ∀ {e e' : Ent}, SameE E' e e' → e'.ro = e.ro ∧ e'.blk E' = e.blk E' := by
  rintro e e' (rfl | ⟨_, h, _⟩)
  ·exact ⟨rfl, rfl⟩
  ·rw [h]; exact ⟨rfl, rfl⟩
 induction hall with
 | nil => exact List.Pairwise.nil
 | cons hx hl ih =>
  rw [List.pairwise_cons] at hp
  refine List.Pairwise.cons (fun y hy => ?_) (ih hp.2)
  obtain ⟨e, h1, h2⟩ := forall2_mem hl hy
  have := hp.1 e h1
  unfold Ent.parted at *
  rw [(same hx).1, (same hx).2, (same h2).1, (same h2).2]
  exact this
noncomputable def capOfL (n : Nat) : List SV → Option (Nat × IE)
 | [] => none
 | v :: r => match capOf n v with
  | some x => some x
  | none => capOfL n r
noncomputable def instFr (σ : Sub) : List SV → Option (List SV)
 | [] => some []
 | v :: r => match instS σ v, instFr σ r with
  | some v, some r => some (v :: r)
  | _, _ => none
theorem instFr_ok {E : Env} {c N : Nat} (hN : E.i N = E.i c) : ∀ {l l' : List SV}, (l.all fun v => v.plain) = true → instFr (varS c N) l = some l' → l'.length = l.length ∧ ∀ i, dl E (l'.getD i .undef) = dl E (l.getD i .undef) ∧ (l.getD i .undef = .nil → l'.getD i .undef = .nil)
 | [], l', _, h => by cases h; exact ⟨rfl, fun i => ⟨rfl, fun h => h⟩⟩
 | v :: r, l', hp, h => by
  unfold instFr at h
  split at h
  ·rename_i v' r' h1 h2
   cases h
   rw [List.all_cons, Bool.and_eq_true] at hp
   obtain ⟨i1, i2⟩ := instFr_ok hN hp.2 h2
   refine ⟨by rw [List.length_cons, List.length_cons, i1], fun i => ?_⟩
   cases i with
   | zero =>
    have := instS_ok E (varS c N) v v' hp.1 h1
    rw [by_var hN] at this
    refine ⟨this.symm, fun e => ?_⟩
    have e : v = .nil := e
    subst e
    cases h1
    rfl
   | succ i => exact i2 i
  ·cases h
noncomputable def capFr (z : Int) (n N ck dr : Nat) (q : List SV × Mem) : List SV × Mem := match capOf 0 (q.1.getD ck .undef) with
 | none => q
 | some (c, l) => match instFr (varS c N) q.1, instH (varS c N) q.2.heap with
  | some v, some h => cond ((q.1.all fun v => v.plain) && q.2.nm q.2.nv && (q.1.all fun v => v.nm q.2.nv) && Nat.ble q.2.nv N && Nat.blt c q.2.nv && l.nm q.2.nv && Nat.ble 0 c && factIn q.2.know (.var c) ((rng q.2.know.facts l).1 + z) hi64 && factIn q.2.know (mkSub (.var c) l) z hi64)
    (v, { q.2 with know := ⟨(.var N, (rng q.2.know.facts l).1 + z, hi64) :: (mkSub (.var N) l, z, hi64) :: q.2.know.facts.filter (fun f => allV (fun i => (Nat.blt i n && (!Nat.beq i c && !Nat.beq i dr)) || defd q.2.know.conds i) f.1), q.2.know.conds.filter (allW fun i => (Nat.blt i n && (!Nat.beq i c && !Nat.beq i dr)) || defd q.2.know.conds i)⟩, heap := h, nv := N + 1 }) q
  | _, _ => q
theorem slots_self (E : Env) (l : List SV) : Slots E E l l := ⟨rfl, fun i => by
 by_cases h : l.getD i .undef = .nil
 ·exact .inl h
 ·exact .inr ⟨h, rfl⟩⟩
theorem capFr_ok {F : Nat → Prop} {w0 w : World} {E : Env} {z : Int} {n N ck dr : Nat} {q : List SV × Mem} (hm : MemOk F w0 E q.2 w) : ∃ E', Later q.2.nv (capFr z n N ck dr q).2.nv E E' ∧ Slots E' E (capFr z n N ck dr q).1 q.1 ∧ MemOk F w0 E' (capFr z n N ck dr q).2 w := by
 have self : ∃ E', Later q.2.nv q.2.nv E E' ∧ Slots E' E q.1 q.1 ∧ MemOk F w0 E' q.2 w := ⟨E, Later.refl _ _, slots_self E q.1, hm⟩
 unfold capFr
 split
 ·exact self
 ·rename_i c l hcap
  split
  ·rename_i v h hv hh
   cases hc : ((q.1.all fun v => v.plain) && q.2.nm q.2.nv && (q.1.all fun v => v.nm q.2.nv) && Nat.ble q.2.nv N && Nat.blt c q.2.nv && l.nm q.2.nv && Nat.ble 0 c && factIn q.2.know (.var c) ((rng q.2.know.facts l).1 + z) hi64 && factIn q.2.know (mkSub (.var c) l) z hi64) with
   | false => exact self
   | true =>
    dsimp only [cond]
    simp only [Bool.and_eq_true] at hc
    obtain ⟨⟨⟨⟨⟨⟨⟨⟨c1, c2⟩, c3⟩, c4⟩, c5⟩, c7⟩, c8⟩, c6⟩, c9⟩ := hc
    have c4 := Nat.le_of_ble_eq_true c4
    have c5 : c < q.2.nv := by simpa [Nat.blt_eq] using c5
    have c6 : (rng q.2.know.facts l).1 + z ≤ E.i c ∧ E.i c ≤ hi64 := factIn_ok hm.know c6
    have c9 := factIn_ok hm.know c9
    rw [mkSub_ok] at c9
    have c8 := Nat.le_of_ble_eq_true c8
    let E' : Env := { E with i := fun k => if k = N then E.i c else E.i k }
    have hA : Agree q.2.nv E E' := ⟨fun k hk => (by show (if k = N then E.i c else E.i k) = E.i k; rw [if_neg (by omega)]), fun _ _ => rfl, fun _ _ => rfl, fun _ _ => rfl, fun _ _ => rfl, fun _ _ => rfl, rfl⟩
    have hNc : E'.i N = E'.i c := by
     show (if N = N then E.i c else E.i N) = if c = N then E.i c else E.i c
     rw [if_pos rfl]
     split <;> rfl
    have hOk : E'.Ok := ⟨fun k => (by
     show in64 (if k = N then E.i c else E.i k)
     split
     ·exact hm.know.env.i c
     ·exact hm.know.env.i k), hm.know.env.l, hm.know.env.f⟩
    have hm2 : MemOk F w0 E' { q.2 with nv := N + 1 } w := hm.moved c2 hA hOk (Ext.refl _ _) (sg := q.2.seg) (nx := q.2.next) hm.size hm.seg0
    have hall := instH_ok (E := E') hNc hh
    refine ⟨E', ⟨hA, by show q.2.nv ≤ N + 1; omega, fun e => by have e : N + 1 = q.2.nv := e; omega⟩, ?_, ⟨⟨hOk, fun f hf => ?_, fun d hd => ?_⟩, hm2.size, ?_, ?_, ?_, hm2.ext, hm2.seg0⟩⟩
    ·obtain ⟨s1, s2⟩ := instFr_ok hNc c1 hv
     refine ⟨s1, fun i => ?_⟩
     by_cases hnil : q.1.getD i .undef = .nil
     ·exact .inl ((s2 i).2 hnil)
     ·refine .inr ⟨hnil, ?_⟩
      have hnm : (q.1.getD i .undef).nm q.2.nv = true := by
       rw [List.all_eq_true] at c3
       rw [List.getD_eq_getElem?_getD]
       cases hq : q.1[i]? with
       | none => rfl
       | some x => exact c3 x (List.mem_of_getElem? hq)
      show dv E' (v.getD i .undef) = dv E (q.1.getD i .undef)
      rw [← dv_agree hA hnm]
      unfold dv
      rw [(s2 i).1]
    ·rcases List.mem_cons.1 hf with rfl | hf
     ·show (rng q.2.know.facts l).1 + z ≤ E'.i N ∧ E'.i N ≤ hi64
      rw [hNc, hA.i c c5]
      exact c6
     rcases List.mem_cons.1 hf with rfl | hf
     ·have hl : ev E' l = ev E l := ev_agree hA c7
      unfold FactOk
      rw [mkSub_ok]
      show z ≤ E'.i N - ev E' l ∧ E'.i N - ev E' l ≤ hi64
      rw [hNc, hA.i c c5, hl]
      exact c9
     ·exact hm2.know.facts f (List.mem_filter.1 hf).1
    ·exact hm2.know.conds d (List.mem_filter.1 hd).1
    ·intro e' he'
     obtain ⟨e, he, hr⟩ := forall2_mem hall he'
     have ok := hm2.ents e he
     rcases hr with rfl | ⟨hro, heq, hdl⟩
     ·exact ok
     ·rw [heq]
      refine ⟨ok.lt, fun h => ?_, fun _ => ?_, fun h => ?_⟩
      ·exact absurd (show e.ro = true from h) (by rw [hro]; exact Bool.false_ne_true)
      ·obtain ⟨o1, o2⟩ := ok.own hro
       refine ⟨o1, ?_⟩
       show w.heap[e.blk E']? = some (.cells (dl E' e'.c).toArray e.t (0, 0))
       rw [hdl]
       exact o2
      ·exact absurd (show e.ro = true from h) (by rw [hro]; exact Bool.false_ne_true)
    ·exact forall2_pairwise hall hm2.apart
    ·intro e' he' hr'
     obtain ⟨e, he, hr⟩ := forall2_mem hall he'
     rcases hr with rfl | ⟨hro, heq, _⟩
     ·exact hm2.mine _ he hr'
     ·rw [heq]
      exact hm2.mine e he hro
  ·exact self
noncomputable def keepL (ks : List Nat) : Nat → List SV → List SV
 | _, [] => []
 | i, v :: r => cond (ks.any (Nat.beq i)) v .nil :: keepL ks (i + 1) r
theorem keepL_ok (E : Env) (ks : List Nat) : ∀ (l : List SV) (i : Nat), Slots E E (keepL ks i l) l
 | [], _ => ⟨rfl, fun _ => .inr ⟨by simp, rfl⟩⟩
 | v :: r, i => by
  have ih := keepL_ok E ks r (i + 1)
  refine ⟨by show (keepL ks (i + 1) r).length + 1 = r.length + 1; rw [ih.len], fun j => ?_⟩
  cases j with
  | zero =>
   show cond (ks.any (Nat.beq i)) v .nil = .nil ∨ (v ≠ .nil ∧ dv E (cond (ks.any (Nat.beq i)) v .nil) = dv E v)
   cases ks.any (Nat.beq i) with
   | false => exact .inl rfl
   | true =>
    by_cases h : v = .nil
    ·exact .inl h
    ·exact .inr ⟨h, rfl⟩
  | succ j => exact ih.slot j
noncomputable def chainL : List SV → SV
 | [] => .nil
 | v :: r => .cons v (chainL r)
noncomputable def refsH (p : Ent → Bool) : List Ent → List (Nat × Nat) → List (Nat × Nat)
 | [], l => l
 | e :: r, l => refsH p r (cond (p e) (refsV e.c l) l)
noncomputable def wasE (m0 : Mem) (s0 k0 : Nat) (e : Ent) : Bool := !(Nat.beq s0 e.s && Nat.beq k0 e.k) && m0.heap.any fun x => Nat.beq x.s e.s && Nat.beq x.k e.k
noncomputable def garb (m0 : Mem) (s0 k0 : Nat) (v : SV) (m : Mem) : Mem := match m with
 | ⟨kn, h, sg, nx, nv⟩ => nfSp (refsH (wasE m0 s0 k0) h (refsV v [])) fun R => nfSp (refsH (fun e => hasK e.s e.k R) h R) fun R =>
  nfSp (h.filter fun e => wasE m0 s0 k0 e || hasK e.s e.k R) fun h => ⟨kn, h, sg, nx, nv⟩
theorem garb_ok {F : Nat → Prop} {w0 w : World} {E : Env} {m0 m : Mem} {s0 k0 : Nat} {v : SV} (hm : MemOk F w0 E m w) : MemOk F w0 E (garb m0 s0 k0 v m) w ∧ (garb m0 s0 k0 v m).nv = m.nv := by
 obtain ⟨kn, h, sg, nx, nv⟩ := m
 unfold garb
 dsimp only
 rw [nfSp_eq, nfSp_eq, nfSp_eq]
 exact ⟨hm.sub List.filter_sublist, rfl⟩
noncomputable def renV (s0 k0 N : Nat) : SV → SV
 | .ptr s k off => cond (Nat.beq s s0 && Nat.beq k k0) (.ptr N 0 off) (.ptr s k off)
 | .sli s k off l c => cond (Nat.beq s s0 && Nat.beq k k0) (.sli N 0 off l c) (.sli s k off l c)
 | .agg c => .agg (renV s0 k0 N c)
 | .tup c => .tup (renV s0 k0 N c)
 | .ifc t c => .ifc t (renV s0 k0 N c)
 | .fn f c => .fn f (renV s0 k0 N c)
 | .cons a b => .cons (renV s0 k0 N a) (renV s0 k0 N b)
 | v => v
noncomputable def renEn (s0 k0 N : Nat) (e : Ent) : Ent := cond (Nat.beq e.s s0 && Nat.beq e.k k0) { e with s := N, k := 0, c := renV s0 k0 N e.c } { e with c := renV s0 k0 N e.c }
noncomputable def renQ (ck : Nat) (q : Fr × Mem) : Fr × Mem := match q.1.get ck with
 | .sli s k _ _ _ => (Fr.ofL (q.1.toL.map (renV s k (q.2.nv + 1))), { q.2 with heap := q.2.heap.map (renEn s k (q.2.nv + 1)), seg := q.2.nv, next := 0, nv := q.2.nv + 2 })
 | _ => q
noncomputable def nfFT {α : Type} (t : FT) : (FT → α) → α := FT.rec (motive := fun _ => (FT → α) → α) (fun k => k .tip) (fun v _ _ il ir k => nfS v fun v => il fun l => ir fun r => k (.node v l r)) t
theorem nfFT_eq {α : Type} (t : FT) : ∀ k : FT → α, nfFT t k = k t := by
 induction t with
 | tip => intro k; rfl
 | node v l r hl hr => intro k; show (nfS v fun v => nfFT l fun l => nfFT r fun r => k (.node v l r)) = _; rw [nfS_eq, hl, hr]
noncomputable def nfFM {α : Type} (q : Fr × Mem) (k : Fr × Mem → α) : α := match q with
 | (⟨n, t⟩, m) => nfN n fun n => nfFT t fun t => nfMem m fun m => k (⟨n, t⟩, m)
theorem nfFM_eq {α : Type} (q : Fr × Mem) (k : Fr × Mem → α) : nfFM q k = k q := by
 obtain ⟨⟨n, t⟩, m⟩ := q
 show (nfN n fun n => nfFT t fun t => nfMem m fun m => k (⟨n, t⟩, m)) = _
 rw [nfN_eq, nfFT_eq, nfMem_eq]
noncomputable def siteOf (v : SV) : Nat × Nat × Nat := match v with
 | .sli s k _ _ (.var c) => (s, k, c)
 | .sli s k _ _ _ => (s, k, 1000000)
 | _ => (1000000, 0, 1000000)
noncomputable def mergeW (ks : List Nat) (ck : Nat) (v0 : SV) (z : Int) (d : Nat) (m0 : Mem) (q : Fr × Mem) : Fr × Mem :=
 match capFr z m0.nv (m0.nv + d) ck (siteOf v0).2.2 (keepL ks 0 q.1.toL, garb m0 (siteOf v0).1 (siteOf v0).2.1 (.tup (chainL (keepL ks 0 q.1.toL))) q.2) with
 | (l, m2) => nfFM (Fr.ofL l, m2) fun q1 => nfFM (renQ ck q1) fun p => cond (fitsC m0.nv p q1) p q1
theorem slots_trans {E E1 E2 : Env} {a b c : List SV} (h1 : Slots E1 E b a) (h2 : Slots E2 E1 c b) : Slots E2 E c a := by
 refine ⟨h2.len.trans h1.len, fun i => ?_⟩
 rcases h2.slot i with h | ⟨h, e⟩
 ·exact .inl h
 ·rcases h1.slot i with h' | ⟨h', e'⟩
  ·exact absurd h' h
  ·exact .inr ⟨h', e.trans e'⟩
theorem mergeW_ok {F : Nat → Prop} {w0 w : World} {E0 E : Env} {ks : List Nat} {ck : Nat} {v0 : SV} {z : Int} {d : Nat} {m0 : Mem} {q : Fr × Mem} {a : Act} (hL : Later m0.nv q.2.nv E0 E) (hm : MemOk F w0 E q.2 w) (hf : FrOk E q.1 a) :
  ∃ E', Later m0.nv (mergeW ks ck v0 z d m0 q).2.nv E0 E' ∧ FrOk E' (mergeW ks ck v0 z d m0 q).1 a ∧ MemOk F w0 E' (mergeW ks ck v0 z d m0 q).2 w := by
 obtain ⟨g1, g2⟩ := garb_ok (m0 := m0) (s0 := (siteOf v0).1) (k0 := (siteOf v0).2.1) (v := .tup (chainL (keepL ks 0 q.1.toL))) hm
 obtain ⟨E', h1, h2, h3⟩ := capFr_ok (z := z) (n := m0.nv) (N := m0.nv + d) (ck := ck) (dr := (siteOf v0).2.2) (q := (keepL ks 0 q.1.toL, garb m0 (siteOf v0).1 (siteOf v0).2.1 (.tup (chainL (keepL ks 0 q.1.toL))) q.2)) g1
 unfold mergeW
 generalize capFr z m0.nv (m0.nv + d) ck (siteOf v0).2.2 (keepL ks 0 q.1.toL, garb m0 (siteOf v0).1 (siteOf v0).2.1 (.tup (chainL (keepL ks 0 q.1.toL))) q.2) = r at *
 obtain ⟨l, m2⟩ := r
 dsimp only
 rw [nfFM_eq, nfFM_eq]
 have hl : Later m0.nv m2.nv E0 E' := hL.trans (by rw [← g2]; exact h1)
 have hfr : FrOk E' (Fr.ofL l) a := hf.slots (slots_trans (keepL_ok E ks q.1.toL 0) h2)
 cases hfit : fitsC m0.nv (renQ ck (Fr.ofL l, m2)) (Fr.ofL l, m2) with
 | false => exact ⟨E', hl, hfr, h3⟩
 | true =>
  obtain ⟨E2, e1, e2, e3⟩ := fitsC_later hfit hl h3 hfr.tmps
  exact ⟨E2, e1, ⟨e3, hfr.defers⟩, e2⟩
noncomputable def isNorm : SX → Bool | .normal => true | _ => false
noncomputable def mergeO (ks : List Nat) (ck : Nat) (v0 : SV) (z : Int) (d : Nat) (m0 : Mem) (outs : List ((SX × Fr) × Mem)) : List ((SX × Fr) × Mem) :=
 nfL nfFM ((outs.filter fun q => isNorm q.1.1).map fun q => mergeW ks ck v0 z d m0 (q.1.2, q.2)) fun l => nfL nfFM (canonF m0 l) fun l => nfSp (l.map (fun p => ((.normal, p.1), p.2)) ++ outs.filter fun q => !isNorm q.1.1) fun l => l
noncomputable def mergeB {P : Program} (T : Tab P) (cx : CX) (bx : BX) (jm : Option Nat) (fuel : Nat) (ks : List Nat) (ck : Nat) (z : Int) (d : Nat) (c : Code) : Fr → X (SX × Fr) := fun tm m => match runC T cx bx jm fuel c tm m with
 | some outs => some (mergeO ks ck (tm.get ck) z d m outs)
 | none => none
theorem mergeB_ok {G : Gf} {P : Program} {T : Tab P} {cx : CX} (hcx : CallsOk G P cx) {bx : BX} {jm : Option Nat} (fuel : Nat) (ks : List Nat) (ck : Nat) (z : Int) (d : Nat) {c : Code} (hb : BlocksOk G P bx c) : CodeOk G P c (mergeB T cx bx jm fuel ks ck z d c) := by
 intro F w0 E tm a m w outs' hgf ho hm ha
 unfold mergeB at ho
 split at ho
 case h_2 => cases ho
 rename_i outs hr
 cases ho
 generalize tm.get ck = v0
 refine wp_mono ((runC_ok hcx fuel).1 c hb F w0 E tm a m w outs hgf hr hm ha) ?_
 rintro e a' w' ⟨q, hq, E', hL, he, hf, hm'⟩
 unfold mergeO
 rw [nfL_eq nfFM_eq, nfL_eq nfFM_eq, nfSp_eq]
 cases hn : isNorm q.1.1 with
 | false => exact ⟨q, List.mem_append_right _ (List.mem_filter.2 ⟨hq, by rw [hn]; rfl⟩), E', hL, he, hf, hm'⟩
 | true =>
  obtain ⟨E1, l1, f1, m1⟩ := mergeW_ok (ks := ks) (ck := ck) (v0 := v0) (z := z) (d := d) (q := (q.1.2, q.2)) hL hm' hf
  have hmem : mergeW ks ck v0 z d m (q.1.2, q.2) ∈ (outs.filter fun q => isNorm q.1.1).map fun q => mergeW ks ck v0 z d m (q.1.2, q.2) := List.mem_map.2 ⟨q, List.mem_filter.2 ⟨hq, hn⟩, rfl⟩
  obtain ⟨p, hp, E2, l2, f2, m2⟩ := canonF_ok hmem l1 m1 f1
  refine ⟨((.normal, p.1), p.2), List.mem_append_left _ (List.mem_map.2 ⟨p, hp, rfl⟩), E2, l2, ?_, f2, m2⟩
  rw [he]
  cases hx : q.1.1 with
  | normal => rfl
  | exit i => rw [hx] at hn; cases hn
  | ret => rw [hx] at hn; cases hn
theorem lxB_ok {G : Gf} {P : Program} {f id : Nat} {fn : Func} {c b : Code} {x : Fr → X (SX × Fr)} (hf : P.funcs[f]? = some fn) (hc : fn.body = some c) (hb : blocksOf id c = [b]) (hx : CodeOk G P b x) : LxOk G P (f, id, x) := by
 intro fn' c' hf' hc' d hd
 dsimp only at hf' hd ⊢
 rw [hf] at hf'
 cases hf'
 rw [hc] at hc'
 cases hc'
 rw [hb] at hd
 simp only [List.mem_cons, List.not_mem_nil, or_false] at hd
 rw [hd]; exact hx
noncomputable def theBlock (id : Nat) (c : Code) : Code := match blocksOf id c with
 | b :: _ => b
 | _ => .skip
end Go.Sx
namespace Go.Sx
open Go
noncomputable def kindOf (P : Program) (u : Nat) : Option Bool :=
 match P.underlying u with
 | some .bool => some true
 | some (.int .i64) => some false
 | _ => none
noncomputable def kindsOf (P : Program) (t : Nat) : Option (List Bool) :=
 match P.cellTypes P.depth t with
 | some ts => ts.mapM (kindOf P)
 | none => none
noncomputable def isAggB (P : Program) (t : Nat) : Bool :=
 match P.underlying t with
 | some (.struct _) | some (.array _ _) => true
 | _ => false
theorem mapM_at {α β : Type} {f : α → Option β} : ∀ {l : List α} {r : List β}, l.mapM f = some r → l.length = r.length ∧ ∀ (i : Nat) (x : α), l[i]? = some x → ∃ y, f x = some y ∧ r[i]? = some y := by
 intro l
 induction l with
 | nil => intro r h; simp at h; subst h; exact ⟨rfl, fun i x hx => by simp at hx⟩
 | cons a l ih =>
  intro r h
  rw [List.mapM_cons] at h
  cases ha : f a with
  | none => rw [ha] at h; cases h
  | some b =>
   cases hl : l.mapM f with
   | none => rw [ha, hl] at h; cases h
   | some bs =>
    rw [ha, hl] at h
    cases h
    obtain ⟨h1, h2⟩ := ih hl
    refine ⟨by simp [h1], fun i x hx => ?_⟩
    cases i with
    | zero => simp at hx; subst hx; exact ⟨b, ha, rfl⟩
    | succ i => simpa using h2 i x (by simpa using hx)
noncomputable def intAt (cs : List Value) (i : Nat) : Int := match cs[i]? with | some (.int _ n) => n | _ => 0
noncomputable def boolAt (cs : List Value) (i : Nat) : Bool := match cs[i]? with | some (.bool b) => b | _ => false
theorem intAt_in {cs : List Value} (h : ∀ (i : Nat) (k : IntKind) (n : Int), cs[i]? = some (.int k n) → in64 n) (i : Nat) : in64 (intAt cs i) := by
 unfold intAt
 split
 ·exact h _ _ _ ‹_›
 ·simp [in64, lo64, hi64]
noncomputable def cellV (k : Bool) (cs : List Value) (i : Nat) : Value := match k with
 | true => .bool (boolAt cs i)
 | false => .int .i64 (intAt cs i)
theorem open_flat {P : Program} {w : World} {r : Reach} {b0 t : Nat} {v : Value} {ks : List Bool} (ha : isAggB P t = true) (hk : kindsOf P t = some ks) (hn : P.cellsOf t = ks.length) (hv : Value.okWide P w r b0 t v) :
  ∃ cs : List Value, v = .agg cs.toArray ∧ cs.length = ks.length ∧ (∀ i (_ : i < ks.length), cs[i]? = some (cellV (ks.getD i false) cs i)) ∧ ∀ i, in64 (intAt cs i) := by
 have hv' : ∃ cs, v = .agg cs ∧ cs.size = P.cellsOf t ∧ Row.okWide P w r b0 t cs := by
  unfold Value.okWide at hv
  unfold isAggB at ha
  split at ha
  ·rename_i hu; rw [hu] at hv; exact hv
  ·rename_i hu; rw [hu] at hv; exact hv
  ·cases ha
 obtain ⟨cs, rfl, hsz, ts, hts, _, hcell⟩ := hv'
 unfold kindsOf at hk
 rw [hts] at hk
 obtain ⟨hlen, hat⟩ := mapM_at hk
 have hsize : cs.size = ks.length := hsz.trans hn
 have each : ∀ (i : Nat) (x : Value), cs[i]? = some x → i < ks.length → ∃ k, ks[i]? = some k ∧ ((k = true ∧ ∃ b, x = .bool b) ∨ (k = false ∧ ∃ n, x = .int .i64 n ∧ in64 n)) := by
  intro i x hx hi
  obtain ⟨u, hu, hok⟩ := hcell i x hx
  rw [Nat.mod_eq_of_lt (by omega)] at hu
  obtain ⟨k, hk1, hk2⟩ := hat i u hu
  refine ⟨k, hk2, ?_⟩
  unfold kindOf at hk1
  unfold Cell.okWide at hok
  split at hk1
  ·rename_i hb
   cases hk1
   rw [hb] at hok
   left
   refine ⟨rfl, ?_⟩
   cases x <;> first | exact ⟨_, rfl⟩ | (simp [Cell.ok, hb] at hok)
  ·rename_i hb
   cases hk1
   rw [hb] at hok
   right
   refine ⟨rfl, ?_⟩
   cases x <;> first | (simp [Cell.ok, hb] at hok; done) | skip
   rename_i k n
   simp [Cell.ok, hb] at hok
   obtain ⟨rfl, hh⟩ := hok
   refine ⟨n, rfl, ?_⟩
   have : IntKind.i64.min = lo64 := by decide
   have : IntKind.i64.max = hi64 := by decide
   unfold IntKind.has at hh
   simp only [in64]
   omega
  ·cases hk1
 refine ⟨cs.toList, rfl, by simpa using hsize, fun i hi => ?_, fun i => intAt_in (fun j k n hj => ?_) i⟩
 ·have hlt : i < cs.size := by omega
  have hx : cs[i]? = some cs[i] := Array.getElem?_eq_getElem hlt
  have hx' : cs.toList[i]? = some cs[i] := by simp only [Array.getElem?_toList]; exact hx
  obtain ⟨k, hk1, hk2⟩ := each i _ hx hi
  have hg : ks.getD i false = k := by simp [List.getD_eq_getElem?_getD, hk1]
  rw [hg]
  rcases hk2 with ⟨rfl, b, hb⟩ | ⟨rfl, n, hb, _⟩
  ·simp only [cellV, boolAt, hx', hb]
  ·simp only [cellV, intAt, hx', hb]
 ·have hj' : cs[j]? = some (.int k n) := by simpa using hj
  have hlt := (Array.getElem?_eq_some_iff.1 hj').1
  obtain ⟨k', _, hk2⟩ := each j _ hj' (by omega)
  rcases hk2 with ⟨_, b, hb⟩ | ⟨_, n', hb, hin⟩
  ·cases hb
  ·cases hb; exact hin
inductive Sg where
 | cell (bool : Bool)
 | row (r n : Nat)
noncomputable def Sg.kinds : List Sg → List Bool
 | [] => []
 | .cell k :: s => k :: Sg.kinds s
 | .row _ n :: s => List.replicate n false ++ Sg.kinds s
noncomputable def segP : Nat → List Sg → SV
 | _, [] => .nil
 | a, .cell k :: s => .cons (if k then .bool (.var a) else .int .i64 (.var a)) (segP (a + 1) s)
 | a, .row r n :: s => .cons (.arr .i64 r (.lit n) .nil) (segP (a + n) s)
noncomputable def rowsP : Nat → List Sg → List (Nat × Nat × Nat)
 | _, [] => []
 | o, .cell _ :: s => rowsP (o + 1) s
 | o, .row r n :: s => (r, o, n) :: rowsP (o + n) s
theorem segP_ok (E : Env) (a : Nat) (cs : List Value) : ∀ (s : List Sg) (o : Nat), (Sg.kinds s).length + o = cs.length →
  (∀ i (_ : i < (Sg.kinds s).length), cs[o + i]? = some (cellV ((Sg.kinds s).getD i false) cs (o + i))) →
  (∀ i, i < cs.length → E.i (a + i) = intAt cs i) → (∀ i, i < cs.length → E.b (a + i) = boolAt cs i) →
  (∀ x ∈ rowsP o s, ¬ fixR x.1 ∧ E.l x.1 = (List.range x.2.2).map fun j => intAt cs (x.2.1 + j)) → dl E (segP (a + o) s) = cs.drop o := by
 intro s
 induction s with
 | nil =>
  intro o h _ _ _ _
  simp [Sg.kinds] at h
  simp [segP, dl, h]
 | cons g s ih =>
  intro o h hc hi hb hr
  cases g with
  | cell k =>
   simp only [Sg.kinds, List.length_cons] at h hc
   have hlt : o < cs.length := by omega
   have h0 := hc 0 (by omega)
   simp only [Nat.add_zero, List.getD_cons_zero] at h0
   have ihs := ih (o + 1) (by omega) (fun i hi => by
    have := hc (i + 1) (by omega)
    simp only [List.getD_cons_succ] at this
    rw [show o + 1 + i = o + (i + 1) by omega]; exact this) hi hb (fun x hx => hr x hx)
   unfold segP
   simp only [dl]
   rw [show a + o + 1 = a + (o + 1) by omega, ihs, List.drop_eq_getElem_cons hlt]
   have hget : cs[o] = cellV k cs o := by
    have := List.getElem?_eq_getElem hlt
    rw [this] at h0
    exact Option.some.inj h0
   rw [hget]
   cases k
   ·simp only [Bool.false_eq_true, if_false, dl, List.singleton_append, cellV]
    rw [show ev E (.var (a + o)) = E.i (a + o) from rfl, hi o hlt]
   ·simp only [if_true, dl, List.singleton_append, cellV]
    rw [show evB E (.var (a + o)) = E.b (a + o) from rfl, hb o hlt]
  | row r n =>
   simp only [Sg.kinds, List.length_append, List.length_replicate] at h hc
   have ihs := ih (o + n) (by omega) (fun i hi => by
    have := hc (n + i) (by omega)
    have e : (List.replicate n false ++ Sg.kinds s).getD (n + i) false = (Sg.kinds s).getD i false := by
     rw [List.getD_eq_getElem?_getD, List.getElem?_append_right (by simp), List.length_replicate, Nat.add_sub_cancel_left, ← List.getD_eq_getElem?_getD]
    rw [e] at this
    rw [show o + n + i = o + (n + i) by omega]; exact this) hi hb (fun x hx => hr x (by simp only [rowsP]; exact List.mem_cons_of_mem _ hx))
   obtain ⟨hr0, hrl⟩ := hr (r, o, n) (by simp [rowsP])
   unfold segP
   simp only [dl]
   rw [show a + o + n = a + (o + n) by omega, ihs]
   have e1 : arrCells E .i64 r (ev E (.lit n)).toNat .nil = (cs.drop o).take n := by
    refine List.ext_getElem? fun j => ?_
    rw [ev_lit, Int.toNat_natCast, List.getElem?_take]
    by_cases hj : j < n
    ·rw [arrCells_get _ _ _ _ _ _ hj, if_pos hj, List.getElem?_drop]
     have := hc j (by omega)
     have e : (List.replicate n false ++ Sg.kinds s).getD j false = false := by
      rw [List.getD_eq_getElem?_getD, List.getElem?_append_left (by simpa using hj)]
      simp [hj]
     rw [e] at this
     rw [this]
     simp only [wsVal, cellV]
     rw [Env.row_l hr0, hrl]
     simp [List.getD_eq_getElem?_getD, hj]
    ·rw [if_neg hj, List.getElem?_eq_none (by rw [arrCells_len]; omega)]
   rw [e1, ← List.drop_drop, List.take_append_drop]
abbrev Named := Nat × Nat × List Value
noncomputable def lookN {α : Type} (k : Nat) (f : List Value → Nat → α) (d : α) : List Named → α
 | [] => d
 | (a, n, cs) :: r => if a ≤ k ∧ k < a + n then f cs (k - a) else lookN k f d r
noncomputable def lookR (k : Nat) : List (Nat × List Int) → List Int
 | [] => []
 | (r, l) :: rest => if k = r then l else lookR k rest
noncomputable def lookB (k : Nat) (d : Nat) : List (Nat × Nat) → Nat
 | [] => d
 | (a, b) :: rest => if k = a then b else lookB k d rest
noncomputable def envOf (w : World) (cells : List Named) (rows : List (Nat × List Int)) (ints : List (Nat × List Int)) (bases : List (Nat × Nat)) (offs : List (Nat × Nat)) : Env where
 i k := match lookR k ints with
  | z :: _ => z
  | [] => lookN k intAt 0 cells
 b k := lookN k boolAt false cells
 l k := lookR k rows
 base k := lookB k w.heap.size bases
 o k := lookB k 0 offs
 v _ := .tuple #[]
 f _ _ := 0
theorem lookN_in {k : Nat} : ∀ {l : List Named}, (∀ x ∈ l, ∀ i, in64 (intAt x.2.2 i)) → in64 (lookN k intAt 0 l) := by
 intro l
 induction l with
 | nil => intro _; simp [lookN, in64, lo64, hi64]
 | cons x r ih =>
  obtain ⟨a, n, cs⟩ := x
  intro h
  unfold lookN
  split
  ·exact h _ List.mem_cons_self _
  ·exact ih fun y hy => h y (List.mem_cons_of_mem _ hy)
theorem lookR_mem {k : Nat} {z : Int} : ∀ {l : List (Nat × List Int)}, z ∈ lookR k l → ∃ x ∈ l, z ∈ x.2 := by
 intro l
 induction l with
 | nil => intro h; simp [lookR] at h
 | cons x r ih =>
  obtain ⟨a, xs⟩ := x
  intro h
  unfold lookR at h
  split at h
  ·exact ⟨_, List.mem_cons_self, h⟩
  ·obtain ⟨y, hy, hz⟩ := ih h
   exact ⟨y, List.mem_cons_of_mem _ hy, hz⟩
theorem envOf_ok {w : World} {cells : List Named} {rows ints : List (Nat × List Int)} {bases offs : List (Nat × Nat)} (hc : ∀ x ∈ cells, ∀ i, in64 (intAt x.2.2 i)) (hr : ∀ x ∈ rows, ∀ z ∈ x.2, in64 z) (hi : ∀ x ∈ ints, ∀ z ∈ x.2, in64 z) :
  (envOf w cells rows ints bases offs).Ok := by
 refine ⟨fun k => ?_, fun k z hz => ?_, fun _ _ => (by simp [envOf, in64, lo64, hi64])⟩
 ·simp only [envOf]
  split
  ·rename_i z zs hz
   obtain ⟨x, hx, hzx⟩ := lookR_mem (k := k) (z := z) (l := ints) (by rw [hz]; exact List.mem_cons_self)
   exact hi x hx z hzx
  ·exact lookN_in hc
 ·obtain ⟨x, hx, hzx⟩ := lookR_mem (l := rows) hz
  exact hr x hx z hzx
structure SlArg where
 s : Nat
 of : Nat
 ln : Nat
 cp : Nat
 r : Nat
 z : Nat
 b : Nat
 o : Nat
 len : Nat
 cap : Nat
 zs : List Int
structure SlArg.Holds (S : SlArg) (w : World) : Prop where
 block : S.b < w.heap.size
 room : S.len ≤ S.cap
 max : S.cap ≤ maxLen
 size : S.zs.length = S.len * S.z
 nums : ∀ x ∈ S.zs, in64 x
 cells : ∀ j, j < S.zs.length → w.cell? ⟨S.b, S.o + j, none⟩ = some (.int .i64 (S.zs.getD j 0))
structure SlArg.Named (S : SlArg) (E : Env) : Prop where
 base : E.base S.s = S.b
 o : E.o S.s = S.o
 of : E.i S.of = 0
 ln : E.i S.ln = S.len
 cp : E.i S.cp = S.cap
 l : E.row S.r = S.zs
 r0 : S.r ≠ 0
noncomputable def slV (s of ln cp : Nat) : SV := .sli s 0 (.var of) (.var ln) (.var cp)
theorem SlArg.val {S : SlArg} {E : Env} (h : S.Named E) : dv E (slV S.s S.of S.ln S.cp) = .slice (some ⟨S.b, S.o, none⟩) S.len S.cap := by
 show Value.slice (some (addrOf E S.s 0 (.var S.of))) (ev E (.var S.ln)).toNat (ev E (.var S.cp)).toNat = _
 have e1 : ev E (.var S.of) = 0 := h.of
 have e2 : ev E (.var S.ln) = S.len := h.ln
 have e3 : ev E (.var S.cp) = S.cap := h.cp
 simp [addrOf, e1, e2, e3, h.base, h.o]
noncomputable def lenE (ln z : Nat) : IE := if z = 1 then .var ln else .mul (.var ln) (.lit z)
noncomputable def slE (s of ln r z : Nat) : Ent := ⟨s, 0, true, 0, .var of, .cons (.arr .i64 r (lenE ln z) .nil) .nil⟩
noncomputable def slF (of ln cp : Nat) (most : Int) : List Fact := [(.var of, 0, hi64), (.var ln, 0, most), (.var cp, 0, hi64), (.sub (.var cp) (.var ln), 0, hi64)]
theorem SlArg.facts {S : SlArg} {E : Env} {w : World} (h : S.Named E) (hh : S.Holds w) {most : Int} (hm : (S.len : Int) ≤ most) : ∀ f ∈ slF S.of S.ln S.cp most, FactOk E f := by
 have e1 : ev E (.var S.of) = 0 := h.of
 have e2 : ev E (.var S.ln) = S.len := h.ln
 have e3 : ev E (.var S.cp) = S.cap := h.cp
 have h1 := hh.room
 have h2 := hh.max
 simp only [maxLen] at h2
 intro f hf
 simp only [slF, List.mem_cons, List.not_mem_nil, or_false] at hf
 have hhi : hi64 = 9223372036854775807 := rfl
 rcases hf with rfl | rfl | rfl | rfl <;> unfold FactOk <;> dsimp only
 ·rw [e1, hhi]; omega
 ·rw [e2]; omega
 ·rw [e3, hhi]; omega
 ·rw [ev_sub, e2, e3, hhi]; omega
theorem SlArg.ent {S : SlArg} {E : Env} {w : World} (h : S.Named E) (hh : S.Holds w) : EntOk E w (slE S.s S.of S.ln S.r S.z) := by
 have e1 : ev E (.var S.of) = 0 := h.of
 have e2 : ev E (.var S.ln) = S.len := h.ln
 have hl : (ev E (lenE S.ln S.z)).toNat = S.len * S.z := by
  unfold lenE
  split
  ·rename_i hz; rw [e2, hz]; simp
  ·rw [ev_mul, e2, ev_lit, Int.toNat_mul (by omega) (by omega)]; simp
 refine ⟨?_, fun _ j v hj => ?_, fun hr => (by cases hr), fun _ z hz => (by cases hz)⟩
 ·show E.base S.s + 0 < _
  rw [h.base]; exact hh.block
 ·simp only [slE, dl, List.append_nil, hl] at hj
  have hjl : j < S.len * S.z := by
   have := (List.getElem?_eq_some_iff.1 hj).1
   rwa [arrCells_len] at this
  rw [arrCells_get _ _ _ _ _ _ hjl] at hj
  cases hj
  have hc := hh.cells j (by rw [hh.size]; exact hjl)
  have hadr : (⟨(slE S.s S.of S.ln S.r S.z).blk E, E.o (slE S.s S.of S.ln S.r S.z).s + ((ev E (slE S.s S.of S.ln S.r S.z).base).toNat + j), none⟩ : Addr) = ⟨S.b, S.o + j, none⟩ := by
   show (⟨E.base S.s + 0, E.o S.s + ((ev E (.var S.of)).toNat + j), none⟩ : Addr) = _
   rw [h.base, h.o, e1]; simp
  rw [hadr, hc]
  simp only [wsVal]
  rw [h.l]
noncomputable def slMem (ents : List Ent) (fs : List Fact) (nv : Nat) : Mem := { know := ⟨fs, []⟩, heap := ents, seg := 0, next := 0, nv }
theorem slMem_ok {w : World} {E : Env} {ents : List Ent} {fs : List Fact} (nv : Nat) (hE : E.Ok) (hb : E.base 0 = w.heap.size) (ho : E.o 0 = 0) (hents : ∀ e ∈ ents, e.ro = true ∧ EntOk E w e) (hf : ∀ f ∈ fs, FactOk E f) :
  MemOk (fun _ => False) w E (slMem ents fs nv) w := by
 refine ⟨⟨hE, hf, fun c hc => (by cases hc)⟩, by show w.heap.size = E.base 0 + 0; omega, fun e he => (hents e he).2, ?_, fun e he hr => ?_, Ext.refl _ _, ho⟩
 ·have all : ∀ l : List Ent, (∀ e ∈ l, e.ro = true) → l.Pairwise (Ent.parted E) := by
   intro l
   induction l with
   | nil => intro _; exact List.Pairwise.nil
   | cons a l ih =>
    intro h
    exact List.Pairwise.cons (fun b hb hn => absurd ⟨h a List.mem_cons_self, h b (List.mem_cons_of_mem _ hb)⟩ hn) (ih fun e he => h e (List.mem_cons_of_mem _ he))
  exact all ents fun e he => (hents e he).1
 ·have := (hents e he).1
  rw [this] at hr; cases hr
end Go.Sx
namespace Go.Sx
open Go.ChangeShapes Go.WideShapes Go.ChangeAt Go.RowKit Go.Deep
theorem i64_bd {n : Int} (h : (Lit.int .i64 n).wf = true) : -9223372036854775808 ≤ n ∧ n ≤ 9223372036854775807 := by
 simp [Lit.wf] at h; have a : IntKind.i64.min = -9223372036854775808 := by decide
 have b : IntKind.i64.max = 9223372036854775807 := by decide
 omega
section
variable {H : Type} {enc : TypeId × Value → H} {P : Program} {w : World} {base : Nat} {spare : Nat → Bool} {held : Bool}
theorem open_int_structs {t e : TypeId} {fs : Array Field} {r : Reach} {b0 : Nat} {v : Value} {d : DataW H} {p : List MemPlace} (ht : P.underlying t = some (.slice e)) (he : P.underlying e = some (.struct fs))
  (hone : oneCellFields P fs = true) (hint : ∀ (j : Nat) (f : Field), fs[j]? = some f → P.underlying f.type = some (.int .i64)) (hC : P.cellsOf e = fs.size)
  (hv : Value.okWide P w r b0 t v) (h : DataW.Trod enc P w base spare held t v d p) :
  v = .slice none 0 0 ∨ ∃ (b o len cap : Nat) (zs : List Int), v = .slice (some ⟨b, o, none⟩) len cap ∧ (∃ elems sp, d = .slice elems sp ∧ elems.length = len) ∧ len ≤ cap ∧ cap ≤ maxLen ∧ b < w.heap.size ∧ zs.length = len * fs.size ∧
   (∀ z ∈ zs, -9223372036854775808 ≤ z ∧ z ≤ 9223372036854775807) ∧ ∀ j, j < zs.length → w.cell? ⟨b, o + j, none⟩ = some (.int .i64 (zs.getD j 0)) := by
 obtain ⟨fuel, hf⟩ := h
 have hcells : v.cells.toList = [v] ∨ ∃ cs, v = .agg cs := by
  cases v <;> first | exact .inl rfl | exact .inr ⟨_, rfl⟩
 have hagg : ∀ cs, v ≠ .agg cs := by
  rintro cs rfl
  unfold Value.okWide Cell.okWide at hv
  rw [ht] at hv
  unfold Cell.ok at hv
  rw [ht] at hv
  exact hv
 have hc : v.cells.toList = [v] := hcells.resolve_right (fun ⟨cs, h⟩ => hagg cs h)
 rw [hc] at hf
 rcases open_slice ht hf with ⟨h0, _⟩ | ⟨a, len, cap, m, n, D, Pl, hcs, hb, hl, hm, hmm, hx, hi⟩
 ·left; simpa using h0
 ·right
  have hv' : v = .slice (some a) len cap := by simpa using hcs
  subst hv'
  have hok : len ≤ cap ∧ (cap : Int) ≤ IntKind.i64.max ∧ w.has P r b0 a e cap := by
   unfold Value.okWide Cell.okWide at hv
   rw [ht] at hv
   unfold Cell.ok at hv
   rw [ht] at hv
   exact hv
  obtain ⟨_, _, _, hsp, row, cells, hsh, _⟩ := hok
  have hlt : a.block < w.heap.size := by
   unfold World.shape? at hsh
   rcases Nat.lt_or_ge a.block w.heap.size with h | h
   ·exact h
   ·simp [Array.getElem?_eq_none h] at hsh
  have hle : len ≤ m := by rw [hmm]; split <;> omega
  have ha : ∀ k, a.add k = ⟨a.block, a.off + k, none⟩ := by
   intro k; unfold Addr.add; split
   ·rename_i hk; subst hk; cases a; simp_all
   ·rfl
  have each : ∀ i j, i < len → j < fs.size → ∃ z, w.cell? ⟨a.block, a.off + (i * fs.size + j), none⟩ = some (.int .i64 z) ∧ (Lit.int .i64 z).wf = true := by
   intro i j hil hjl
   obtain ⟨cs', hc, ht'⟩ := hi i (by omega)
   rw [hC] at hc
   obtain ⟨ys, n', hn', hy, hlen, hyl, hg⟩ := DataW.trod_struct he ht'
   obtain ⟨_, hcl, hat⟩ := World.cells?_some hc
   have hjf : fs[j]? = some fs[j] := Array.getElem?_eq_getElem hjl
   obtain ⟨ho, hk⟩ := hone_of hone j _ hjf
   have h1 := hg j _ hjf
   rw [ho, hk] at h1
   have hone' : (cs'.drop j).take 1 = [cs'[j]'(by omega)] := by
    rw [List.drop_eq_getElem_cons (by omega)]
    rfl
   rw [hone', List.getElem?_eq_getElem (show j < ys.length by omega)] at h1
   obtain ⟨z, e0, _, wz⟩ := DataW.trod_int (hint j _ hjf) h1
   refine ⟨z, ?_, wz⟩
   have hcell := hat j hjl
   rw [Go.Deep.add_add, ha, List.getElem?_eq_getElem (show j < cs'.length by omega)] at hcell
   simp only [List.cons.injEq, and_true] at e0
   rw [hcell, e0]
  have hall : ∀ j, j < len * fs.size → ∃ z, w.cell? ⟨a.block, a.off + j, none⟩ = some (.int .i64 z) ∧ (Lit.int .i64 z).wf = true := by
   intro j hj
   have hpos : 0 < fs.size := by
    rcases Nat.eq_zero_or_pos fs.size with h | h
    ·rw [h] at hj; omega
    ·exact h
   obtain ⟨z, h1, h2⟩ := each (j / fs.size) (j % fs.size) (Nat.div_lt_of_lt_mul (by rw [Nat.mul_comm]; exact hj)) (Nat.mod_lt _ hpos)
   refine ⟨z, ?_, h2⟩
   rw [← h1, Nat.div_add_mod' j fs.size]
  let zs : List Int := (List.range (len * fs.size)).map fun j => match w.cell? ⟨a.block, a.off + j, none⟩ with | some (.int _ z) => z | _ => 0
  have hz : ∀ j, j < len * fs.size → w.cell? ⟨a.block, a.off + j, none⟩ = some (.int .i64 (zs.getD j 0)) ∧ (Lit.int .i64 (zs.getD j 0)).wf = true := by
   intro j hj
   obtain ⟨z, h1, h2⟩ := hall j hj
   have : zs.getD j 0 = z := by
    simp only [zs, List.getD_eq_getElem?_getD, List.getElem?_map, List.getElem?_range hj, Option.map_some, h1, Option.getD_some]
   rw [this]; exact ⟨h1, h2⟩
  have hzl : zs.length = len * fs.size := by simp [zs]
  refine ⟨a.block, a.off, len, cap, zs, by cases a; simp_all, ⟨_, _, (congrArg Prod.fst hx), by simp⟩, hl, hm, hlt, hzl, ?_, fun j hj => (hz j (by rw [← hzl]; exact hj)).1⟩
  intro z hzm
  obtain ⟨j, hj, rfl⟩ := List.getElem_of_mem hzm
  have := (hz j (by rw [← hzl]; exact hj)).2
  rw [List.getD_eq_getElem?_getD, List.getElem?_eq_getElem hj, Option.getD_some] at this
  exact i64_bd this
end
noncomputable def isInt64 : Option TypeDesc → Bool | some (.int .i64) => true | _ => false
theorem isInt64_eq {o : Option TypeDesc} (h : isInt64 o = true) : o = some (.int .i64) := by
 unfold isInt64 at h
 split at h
 ·rfl
 ·cases h
section
variable {H : Type} {enc : TypeId × Value → H} {P : Program} {w : World} {base : Nat} {spare : Nat → Bool} {held : Bool}
theorem open_int_slice {t e : TypeId} {r : Reach} {b0 : Nat} {v : Value} {d : DataW H} {p : List MemPlace} (ht : P.underlying t = some (.slice e)) (he : P.underlying e = some (.int .i64)) (hC : P.cellsOf e = 1)
  (hv : Value.okWide P w r b0 t v) (h : DataW.Trod enc P w base spare held t v d p) :
  v = .slice none 0 0 ∨ ∃ (b o len cap : Nat) (zs : List Int), v = .slice (some ⟨b, o, none⟩) len cap ∧ (∃ elems sp, d = .slice elems sp ∧ elems.length = len) ∧ len ≤ cap ∧ cap ≤ maxLen ∧ b < w.heap.size ∧ zs.length = len * 1 ∧
   (∀ z ∈ zs, -9223372036854775808 ≤ z ∧ z ≤ 9223372036854775807) ∧ ∀ j, j < zs.length → w.cell? ⟨b, o + j, none⟩ = some (.int .i64 (zs.getD j 0)) := by
 obtain ⟨fuel, hf⟩ := h
 have hcells : v.cells.toList = [v] ∨ ∃ cs, v = .agg cs := by
  cases v <;> first | exact .inl rfl | exact .inr ⟨_, rfl⟩
 have hagg : ∀ cs, v ≠ .agg cs := by
  rintro cs rfl
  unfold Value.okWide Cell.okWide at hv
  rw [ht] at hv
  unfold Cell.ok at hv
  rw [ht] at hv
  exact hv
 have hc : v.cells.toList = [v] := hcells.resolve_right (fun ⟨cs, h⟩ => hagg cs h)
 rw [hc] at hf
 rcases open_slice ht hf with ⟨h0, _⟩ | ⟨a, len, cap, m, n, D, Pl, hcs, hb, hl, hm, hmm, hx, hi⟩
 ·left; simpa using h0
 ·right
  have hv' : v = .slice (some a) len cap := by simpa using hcs
  subst hv'
  have hok : len ≤ cap ∧ (cap : Int) ≤ IntKind.i64.max ∧ w.has P r b0 a e cap := by
   unfold Value.okWide Cell.okWide at hv
   rw [ht] at hv
   unfold Cell.ok at hv
   rw [ht] at hv
   exact hv
  obtain ⟨_, _, _, hsp, row, cells, hsh, _⟩ := hok
  have hlt : a.block < w.heap.size := by
   unfold World.shape? at hsh
   rcases Nat.lt_or_ge a.block w.heap.size with h | h
   ·exact h
   ·simp [Array.getElem?_eq_none h] at hsh
  have hle : len ≤ m := by rw [hmm]; split <;> omega
  have ha : ∀ k, a.add k = ⟨a.block, a.off + k, none⟩ := by
   intro k; unfold Addr.add; split
   ·rename_i hk; subst hk; cases a; simp_all
   ·rfl
  have hall : ∀ j, j < len → ∃ z, w.cell? ⟨a.block, a.off + j, none⟩ = some (.int .i64 z) ∧ (Lit.int .i64 z).wf = true := by
   intro j hj
   obtain ⟨cs', hc, ht'⟩ := hi j (by omega)
   rw [hC] at hc
   obtain ⟨_, hcl, hat⟩ := World.cells?_some hc
   obtain ⟨z, e0, _, wz⟩ := DataW.trod_int he ht'
   subst e0
   refine ⟨z, ?_, wz⟩
   have hcell := hat 0 (by omega)
   rw [Go.Deep.add_add, ha] at hcell
   simpa using hcell
  let zs : List Int := (List.range len).map fun j => match w.cell? ⟨a.block, a.off + j, none⟩ with | some (.int _ z) => z | _ => 0
  have hz : ∀ j, j < len → w.cell? ⟨a.block, a.off + j, none⟩ = some (.int .i64 (zs.getD j 0)) ∧ (Lit.int .i64 (zs.getD j 0)).wf = true := by
   intro j hj
   obtain ⟨z, h1, h2⟩ := hall j hj
   have : zs.getD j 0 = z := by
    simp only [zs, List.getD_eq_getElem?_getD, List.getElem?_map, List.getElem?_range hj, Option.map_some, h1, Option.getD_some]
   rw [this]; exact ⟨h1, h2⟩
  have hzl : zs.length = len := by simp [zs]
  refine ⟨a.block, a.off, len, cap, zs, by cases a; simp_all, ⟨_, _, (congrArg Prod.fst hx), by simp⟩, hl, hm, hlt, by omega, ?_, fun j hj => (hz j (by rw [← hzl]; exact hj)).1⟩
  intro z hzm
  obtain ⟨j, hj, rfl⟩ := List.getElem_of_mem hzm
  have := (hz j (by rw [← hzl]; exact hj)).2
  rw [List.getD_eq_getElem?_getD, List.getElem?_eq_getElem hj, Option.getD_some] at this
  exact i64_bd this
end
end Go.Sx
namespace Go.Sx
open Go
noncomputable def coverB (hi : Int) : Int → List Rng → Bool
 | lo, [] => decide (hi < lo)
 | lo, c :: l => decide (c.1 ≤ lo) && coverB hi (c.2 + 1) l
theorem cover_ok {hi z : Int} (hz : z ≤ hi) : ∀ (l : List Rng) (lo : Int), coverB hi lo l = true → lo ≤ z → ∃ c ∈ l, c.1 ≤ z ∧ z ≤ c.2 := by
 intro l
 induction l with
 | nil => intro lo h hl; simp only [coverB, decide_eq_true_eq] at h; omega
 | cons c l ih =>
  intro lo h hl
  simp only [coverB, Bool.and_eq_true, decide_eq_true_eq] at h
  by_cases hc : z ≤ c.2
  ·exact ⟨c, List.mem_cons_self, by omega, hc⟩
  ·obtain ⟨d, hd, h1⟩ := ih _ h.2 (by omega)
   exact ⟨d, List.mem_cons_of_mem _ hd, h1⟩
noncomputable def one (lo hi : Int) : List Rng := (List.range (hi - lo + 1).toNat).map fun (k : Nat) => (lo + (k : Int), lo + (k : Int))
noncomputable def ones (lo hi : Int) : List Rng := (lo64, lo - 1) :: one lo hi ++ [(hi + 1, hi64)]
theorem cover64 {l : List Rng} (h : coverB hi64 lo64 l = true) {z : Int} (hz : in64 z) : ∃ c ∈ l, c.1 ≤ z ∧ z ≤ c.2 := cover_ok hz.2 l lo64 h hz.1
theorem cover_and {l : List Rng} {m : Int} (h0 : 0 ≤ m) (h1 : m ≤ hi64) (h : coverB m 0 l = true) (E : Env) (e : IE) :
  ∃ c ∈ l, FactOk E (.bit .and .i64 e (.lit m), c.1, c.2) := by
 have k := and_in .i64 (ev E e) m h0 h1
 exact cover_ok k.2 l 0 h k.1
theorem all_ok {α : Type} {l : List α} {p : α → Bool} (h : l.all p = true) {x : α} (hx : x ∈ l) : p x = true := List.all_eq_true.1 h x hx
end Go.Sx
namespace Go.Sx
open Go
noncomputable def pureX (form : List SV → Mem → Option (SV × List Fact)) : List SV → X SV := fun args m => match form args m with
 | some (v, fs) => cond (m.nm m.nv && v.nm m.nv && fs.all fun f => f.1.nm m.nv) (nfS v fun v => nfL nfFact fs fun fs => nfN (m.nv + 1) fun sg => nfN (m.nv + 2) fun nv => some [(v, { m with know := ⟨fs ++ m.know.facts, m.know.conds⟩, seg := sg, next := 0, nv := nv })]) none
 | none => none
theorem pureX_ok {G : Gf} {P : Program} {f : Nat} {form : List SV → Mem → Option (SV × List Fact)} (h : ∀ (F : Nat → Prop) (w0 : World) (E : Env) (args : List SV) (m : Mem) (w : World) (v : SV) (fs : List Fact), E.f = G → MemOk F w0 E m w → form args m = some (v, fs) →
  (Calls P f (args.map (dv E)).toArray w fun e w' => Ext (fun _ => False) w w' ∧ e = .returned (dv E v)) ∧ ∀ y ∈ fs, FactOk E y) : SpecOk G P f (pureX form) := by
 intro F w0 E args m outs w hgf ho hm
 unfold pureX at ho
 split at ho
 case h_2 => cases ho
 rename_i v fs hform
 cases hc : (m.nm m.nv && v.nm m.nv && fs.all fun f => f.1.nm m.nv) with
 | false => rw [hc] at ho; cases ho
 | true =>
 rw [hc] at ho
 dsimp only [cond] at ho
 rw [nfS_eq, nfL_eq (fun _ _ => nfFact_eq _ _), nfN_eq, nfN_eq] at ho
 cases ho
 simp only [Bool.and_eq_true, List.all_eq_true] at hc
 obtain ⟨⟨c1, c2⟩, c3⟩ := hc
 obtain ⟨hcall, hfs⟩ := h F w0 E args m w v fs hgf hm hform
 refine hcall.mono ?_
 rintro e w' ⟨hext, rfl⟩
 let E2 := E.two m.nv 0 w'.heap.size
 have hAg : Agree m.nv E E2 := two_agree E m.nv _ _
 have hm2 : MemOk F w0 E2 { m with seg := m.nv + 1, next := 0, nv := m.nv + 2 } w' := by
  refine hm.moved c1 hAg ⟨hm.know.env.i, hm.know.env.l, hm.know.env.f⟩ hext ?_ ?_
  ·simp [E2, Env.two]
  ·simp [E2, Env.two]
 refine ⟨_, List.mem_singleton_self _, E2, ⟨hAg, by show m.nv ≤ m.nv + 2; omega, fun h => by have : m.nv + 2 = m.nv := h; omega⟩, ?_, ⟨hm2.know.env, fun y hy => ?_, hm2.know.conds⟩, hm2.size, hm2.ents, hm2.apart, hm2.mine, hm2.ext, hm2.seg0⟩
 ·rw [dv_agree hAg c2]
 ·rcases List.mem_append.1 hy with hy | hy
  ·have := hfs y hy
   unfold FactOk at this ⊢
   rw [ev_agree hAg (c3 y hy)]
   exact this
  ·exact hm2.know.facts y hy
noncomputable def blkX (t : Nat) (val : Nat → SV) (form : List SV → Mem → Option (SV × List Fact)) : List SV → X SV := fun args m => match form args m with
 | some (c, fs) => cond (m.nm m.nv && c.nm m.nv && fs.all fun f => f.1.nm m.nv) (nfS c fun c => nfL nfFact fs fun fs => nfN (m.nv + 1) fun sg => nfN (m.nv + 2) fun nv => nfS (val m.nv) fun v =>
   some [(v, { m with know := ⟨fs ++ m.know.facts, m.know.conds⟩, heap := ⟨m.nv, 0, false, t, .lit 0, c⟩ :: m.heap, seg := sg, next := 0, nv := nv })]) none
 | none => none
theorem blkX_ok {G : Gf} {P : Program} {f t : Nat} {val : Nat → SV} {vals : Nat → Value} (hval : ∀ (E : Env) (n bl : Nat), E.base n = bl → E.o n = 0 → dv E (val n) = vals bl) {form : List SV → Mem → Option (SV × List Fact)} (h : ∀ (F : Nat → Prop) (w0 : World) (E : Env) (args : List SV) (m : Mem) (w : World) (c : SV) (fs : List Fact), E.f = G → MemOk F w0 E m w → form args m = some (c, fs) →
  (Calls P f (args.map (dv E)).toArray w fun e w' => Ext (fun _ => False) w w' ∧ ∃ bl, w.heap.size ≤ bl ∧ bl < w'.heap.size ∧ w'.heap[bl]? = some (.cells (dl E c).toArray t (0, 0)) ∧ e = .returned (vals bl)) ∧ ∀ y ∈ fs, FactOk E y) : SpecOk G P f (blkX t val form) := by
 intro F w0 E args m outs w hgf ho hm
 unfold blkX at ho
 split at ho
 case h_2 => cases ho
 rename_i c fs hform
 cases hc : (m.nm m.nv && c.nm m.nv && fs.all fun f => f.1.nm m.nv) with
 | false => rw [hc] at ho; cases ho
 | true =>
 rw [hc] at ho
 dsimp only [cond] at ho
 rw [nfS_eq, nfL_eq (fun _ _ => nfFact_eq _ _), nfN_eq, nfN_eq, nfS_eq] at ho
 cases ho
 simp only [Bool.and_eq_true, List.all_eq_true] at hc
 obtain ⟨⟨c1, c2⟩, c3⟩ := hc
 obtain ⟨hcall, hfs⟩ := h F w0 E args m w c fs hgf hm hform
 refine hcall.mono ?_
 rintro e w' ⟨hext, bl, b1, b2, b3, rfl⟩
 let E2 := E.two m.nv bl w'.heap.size
 have hAg : Agree m.nv E E2 := two_agree E m.nv _ _
 have hm2 : MemOk F w0 E2 { m with seg := m.nv + 1, next := 0, nv := m.nv + 2 } w' := by
  refine hm.moved c1 hAg ⟨hm.know.env.i, hm.know.env.l, hm.know.env.f⟩ hext ?_ ?_
  ·simp [E2, Env.two]
  ·simp [E2, Env.two]
 have hb2 : E2.base m.nv = bl := by simp [E2, Env.two]
 have ho2 : E2.o m.nv = 0 := by simp [E2, Env.two]
 refine ⟨_, List.mem_singleton_self _, E2, ⟨hAg, by show m.nv ≤ m.nv + 2; omega, fun h => by have : m.nv + 2 = m.nv := h; omega⟩, ?_, ⟨hm2.know.env, fun y hy => ?_, hm2.know.conds⟩, hm2.size, ?_, ?_, ?_, hm2.ext, hm2.seg0⟩
 ·rw [hval E2 m.nv bl hb2 ho2]
 ·rcases List.mem_append.1 hy with hy | hy
  ·have := hfs y hy
   unfold FactOk at this ⊢
   rw [ev_agree hAg (c3 y hy)]
   exact this
  ·exact hm2.know.facts y hy
 ·intro y hy
  rcases List.mem_cons.1 hy with rfl | hy
  ·refine ⟨?_, fun h => (by cases h), fun _ => ⟨⟨ho2, rfl⟩, ?_⟩, fun h => (by cases h)⟩
   ·simp only [Ent.blk, hb2, Nat.add_zero]; exact b2
   ·simp only [Ent.blk, hb2, Nat.add_zero]
    rw [b3, dl_agree hAg _ c2]
  ·exact hm2.ents y hy
 ·refine List.Pairwise.cons ?_ hm2.apart
  intro y hy _
  have h1' : y.blk E2 < w.heap.size := by
   have h3 := (hm.ents y hy).lt
   have hn2 := c1
   simp only [Mem.nm, Bool.and_eq_true, List.all_eq_true] at hn2
   have h4 := hn2.1.1 y hy
   simp only [Ent.nm, Bool.and_eq_true, decide_eq_true_eq] at h4
   have : y.blk E2 = y.blk E := by simp only [Ent.blk, hAg.base _ h4.1.1]
   rw [this]; exact h3
  simp only [Ent.blk, hb2, Nat.add_zero] at *
  omega
 ·intro y hy hr
  rcases List.mem_cons.1 hy with rfl | hy
  ·left
   simp only [Ent.blk, hb2, Nat.add_zero] at *
   have := hm.ext.size
   omega
  ·exact hm2.mine y hy hr
theorem run_ro {G : Gf} {P : Program} {f : Nat} {s : List SV → X SV} (hs : SpecOk G P f s) {args : List SV} {ents : List Ent} {fs : List Fact} {nv : Nat} {outs : List (SV × Mem)} (hrun : s args (slMem ents fs nv) = some outs)
  {E : Env} {w : World} (hgf : E.f = G) (hE : E.Ok) (hb : E.base 0 = w.heap.size) (ho : E.o 0 = 0) (hents : ∀ e ∈ ents, e.ro = true ∧ EntOk E w e) (hf : ∀ f ∈ fs, FactOk E f) :
  Calls P f (args.map (dv E)).toArray w fun e w' => ∃ q ∈ outs, ∃ E', Agree nv E E' ∧ e = .returned (dv E' q.1) ∧ MemOk (fun _ => False) w E' q.2 w' := by
 refine (hs _ w E args _ outs w hgf hrun (slMem_ok nv hE hb ho hents hf)).mono ?_
 rintro e w' ⟨q, hq, E', hL, he, hm⟩
 exact ⟨q, hq, E', hL.agree, he, hm⟩
noncomputable def capWay (z : Int) (n N : Nat) (q : SV × Mem) : SV × Mem := match capOf n q.1 with
 | none => q
 | some (c, l) => match instS (varS c N) q.1, instH (varS c N) q.2.heap with
  | some v, some h => cond (q.1.plain && q.2.nm q.2.nv && q.1.nm q.2.nv && Nat.ble q.2.nv N && Nat.blt c q.2.nv && l.nm n && Nat.ble n c && factIn q.2.know (.var c) ((rng q.2.know.facts l).1 + z) hi64 && factIn q.2.know (mkSub (.var c) l) z hi64)
    (v, { q.2 with know := ⟨(.var N, (rng q.2.know.facts l).1 + z, hi64) :: (mkSub (.var N) l, z, hi64) :: q.2.know.facts.filter (fun f => allV (fun i => Nat.blt i n || defd q.2.know.conds i) f.1), q.2.know.conds.filter (allW fun i => Nat.blt i n || defd q.2.know.conds i)⟩, heap := h, nv := N + 1 }) q
  | _, _ => q
theorem capWay_ok {F : Nat → Prop} {w0 w : World} {E : Env} {z : Int} {n N : Nat} {q : SV × Mem} (hm : MemOk F w0 E q.2 w) : ∃ E', Later q.2.nv (capWay z n N q).2.nv E E' ∧ dv E' (capWay z n N q).1 = dv E q.1 ∧ MemOk F w0 E' (capWay z n N q).2 w := by
 have self : ∃ E', Later q.2.nv q.2.nv E E' ∧ dv E' q.1 = dv E q.1 ∧ MemOk F w0 E' q.2 w := ⟨E, Later.refl _ _, rfl, hm⟩
 unfold capWay
 split
 ·exact self
 ·rename_i c l hcap
  split
  ·rename_i v h hv hh
   cases hc : (q.1.plain && q.2.nm q.2.nv && q.1.nm q.2.nv && Nat.ble q.2.nv N && Nat.blt c q.2.nv && l.nm n && Nat.ble n c && factIn q.2.know (.var c) ((rng q.2.know.facts l).1 + z) hi64 && factIn q.2.know (mkSub (.var c) l) z hi64) with
   | false => exact self
   | true =>
    dsimp only [cond]
    simp only [Bool.and_eq_true] at hc
    obtain ⟨⟨⟨⟨⟨⟨⟨⟨c1, c2⟩, c3⟩, c4⟩, c5⟩, c7⟩, c8⟩, c6⟩, c9⟩ := hc
    have c4 := Nat.le_of_ble_eq_true c4
    have c5 : c < q.2.nv := by simpa [Nat.blt_eq] using c5
    have c6 : (rng q.2.know.facts l).1 + z ≤ E.i c ∧ E.i c ≤ hi64 := factIn_ok hm.know c6
    have c9 := factIn_ok hm.know c9
    rw [mkSub_ok] at c9
    have c8 := Nat.le_of_ble_eq_true c8
    let E' : Env := { E with i := fun k => if k = N then E.i c else E.i k }
    have hA : Agree q.2.nv E E' := ⟨fun k hk => (by show (if k = N then E.i c else E.i k) = E.i k; rw [if_neg (by omega)]), fun _ _ => rfl, fun _ _ => rfl, fun _ _ => rfl, fun _ _ => rfl, fun _ _ => rfl, rfl⟩
    have hNc : E'.i N = E'.i c := by
     show (if N = N then E.i c else E.i N) = if c = N then E.i c else E.i c
     rw [if_pos rfl]
     split <;> rfl
    have hOk : E'.Ok := ⟨fun k => (by
     show in64 (if k = N then E.i c else E.i k)
     split
     ·exact hm.know.env.i c
     ·exact hm.know.env.i k), hm.know.env.l, hm.know.env.f⟩
    have hm2 : MemOk F w0 E' { q.2 with nv := N + 1 } w := hm.moved c2 hA hOk (Ext.refl _ _) (sg := q.2.seg) (nx := q.2.next) hm.size hm.seg0
    have hall := instH_ok (E := E') hNc hh
    refine ⟨E', ⟨hA, by show q.2.nv ≤ N + 1; omega, fun e => by have e : N + 1 = q.2.nv := e; omega⟩, ?_, ⟨⟨hOk, fun f hf => ?_, fun d hd => ?_⟩, hm2.size, ?_, ?_, ?_, hm2.ext, hm2.seg0⟩⟩
    ·have := instS_ok E' (varS c N) q.1 v c1 hv
     rw [by_var hNc] at this
     show dv E' v = dv E q.1
     rw [← dv_agree hA c3]
     unfold dv
     rw [this]
    ·rcases List.mem_cons.1 hf with rfl | hf
     ·show (rng q.2.know.facts l).1 + z ≤ E'.i N ∧ E'.i N ≤ hi64
      rw [hNc, hA.i c c5]
      exact c6
     rcases List.mem_cons.1 hf with rfl | hf
     ·have hl : ev E' l = ev E l := ev_agree ⟨fun k hk => hA.i k (by omega), fun k hk => hA.b k (by omega), fun k hk => hA.l k (by omega), fun k hk => hA.base k (by omega), fun k hk => hA.o k (by omega), fun k hk => hA.v k (by omega), hA.f⟩ c7
      unfold FactOk
      rw [mkSub_ok]
      show z ≤ E'.i N - ev E' l ∧ E'.i N - ev E' l ≤ hi64
      rw [hNc, hA.i c c5, hl]
      exact c9
     ·exact hm2.know.facts f (List.mem_filter.1 hf).1
    ·exact hm2.know.conds d (List.mem_filter.1 hd).1
    ·intro e' he'
     obtain ⟨e, he, hr⟩ := forall2_mem hall he'
     have ok := hm2.ents e he
     rcases hr with rfl | ⟨hro, heq, hdl⟩
     ·exact ok
     ·rw [heq]
      refine ⟨ok.lt, fun h => ?_, fun _ => ?_, fun h => ?_⟩
      ·exact absurd (show e.ro = true from h) (by rw [hro]; exact Bool.false_ne_true)
      ·obtain ⟨o1, o2⟩ := ok.own hro
       refine ⟨o1, ?_⟩
       show w.heap[e.blk E']? = some (.cells (dl E' e'.c).toArray e.t (0, 0))
       rw [hdl]
       exact o2
      ·exact absurd (show e.ro = true from h) (by rw [hro]; exact Bool.false_ne_true)
    ·exact forall2_pairwise hall hm2.apart
    ·intro e' he' hr'
     obtain ⟨e, he, hr⟩ := forall2_mem hall he'
     rcases hr with rfl | ⟨hro, heq, _⟩
     ·exact hm2.mine _ he hr'
     ·rw [heq]
      exact hm2.mine e he hro
  ·exact self
noncomputable def capX (z : Int) (d : Nat) (s : List SV → X SV) : List SV → X SV := fun args m => match s args m with
 | some outs => some (nfL (fun p k => nfS p.1 fun v => nfMem p.2 fun m => k (v, m)) (outs.map (capWay z m.nv (m.nv + d))) fun l => l)
 | none => none
theorem capX_ok {G : Gf} {P : Program} {f d : Nat} {z : Int} {s : List SV → X SV} (hs : SpecOk G P f s) : SpecOk G P f (capX z d s) := by
 intro F w0 E args m outs' w hgf ho hm
 unfold capX at ho
 cases hr : s args m with
 | none => rw [hr] at ho; cases ho
 | some outs =>
 rw [hr] at ho
 cases ho
 rw [nfL_eq (fun p k => by rw [nfS_eq, nfMem_eq])]
 refine (hs F w0 E args m outs w hgf hr hm).mono ?_
 rintro e w' ⟨q, hq, E', hL, rfl, hm'⟩
 obtain ⟨E2, h1, h2, h3⟩ := capWay_ok (z := z) (n := m.nv) (N := m.nv + d) hm'
 refine ⟨_, List.mem_map_of_mem hq, E2, ⟨hL.agree.trans h1.agree hL.le, Nat.le_trans hL.le h1.le, fun h => ?_⟩, ?_, h3⟩
 ·have a1 := hL.le
  have a2 := h1.le
  rw [h1.same (by omega), hL.same (by omega)]
 ·rw [h2]
end Go.Sx
namespace Go.Sx
open Go
structure Tem where
 k : Nat
 es : List IE
 bs : List BE
 facts : List Fact := []
 conds : List BE := []
structure Grp where
 gi : List Nat
 gb : List Nat
 ts : List Tem
def Tem.holds (G : Gf) (τ : Tem) (vi : List Int) (vb : List Bool) (Et : Env) : Prop :=
 Et.Ok ∧ Et.f = G ∧ vi = τ.es.map (ev Et) ∧ vb = τ.bs.map (evB Et) ∧ (∀ f ∈ τ.facts, FactOk Et f) ∧ ∀ c ∈ τ.conds, evB Et c = true
def Grp.inv (G : Gf) (g : Grp) (vi : List Int) (vb : List Bool) : Prop := ∃ τ ∈ g.ts, ∃ Et : Env, τ.holds G vi vb Et
structure HeadT where
 h : HeadP
 gs : List Nat
noncomputable def shI (N : Nat) : IE → IE
 | .lit z => .lit z
 | .var j => .var (N + j)
 | .sel r i => .sel r (shI N i)
 | .add a b => .add (shI N a) (shI N b)
 | .sub a b => .sub (shI N a) (shI N b)
 | .mul a b => .mul (shI N a) (shI N b)
 | .quo a b => .quo (shI N a) (shI N b)
 | .rem a b => .rem (shI N a) (shI N b)
 | .wrap k a => .wrap k (shI N a)
 | .bit op k a b => .bit op k (shI N a) (shI N b)
 | .shr a n => .shr (shI N a) n
 | .app f a => .app f (shI N a)
 | .arg a b => .arg (shI N a) (shI N b)
 | .noarg => .noarg
 | .ite k a b x y => .ite k (shI N a) (shI N b) (shI N x) (shI N y)
 | .bv i => .bv (N + i)
noncomputable def noSel : IE → Bool
 | .sel r i => (Nat.beq r 0 || Nat.ble 1000000 r) && noSel i
 | .add a b | .sub a b | .mul a b | .quo a b | .rem a b | .bit _ _ a b | .arg a b => noSel a && noSel b
 | .wrap _ a | .shr a _ | .app _ a => noSel a
 | .ite _ a b x y => noSel a && noSel b && noSel x && noSel y
 | _ => true
structure Moved (N : Nat) (Et E : Env) : Prop where
 i : ∀ j, E.i (N + j) = Et.i j
 b : ∀ j, E.b (N + j) = Et.b j
 f : E.f = Et.f
theorem shI_evp {N : Nat} {Et E : Env} (h : Moved N Et E) : ∀ e : IE, noSel e = true → evp E (shI N e) = evp Et e := by
 intro e
 induction e with
 | lit _ => intro _; rfl
 | noarg => intro _; rfl
 | var j => intro _; simp only [shI, evp, h.i]
 | bv j => intro _; simp only [shI, evp, h.b]
 | sel r i ih =>
  intro hn
  simp only [noSel, Bool.and_eq_true, Bool.or_eq_true] at hn
  have hr : fixR r := hn.1.imp Nat.eq_of_beq_eq_true Nat.le_of_ble_eq_true
  simp only [shI, evp, ih hn.2, Env.row_fix h.f hr]
 | app f a ih => intro hn; simp only [shI, evp, ih hn, h.f]
 | wrap k a ih => intro hn; simp only [shI, evp, ih hn]
 | shr a n ih => intro hn; simp only [shI, evp, ih hn]
 | ite k a b x y ha hb hx hy => intro hn; simp only [noSel, Bool.and_eq_true] at hn; simp only [shI, evp, ha hn.1.1.1, hb hn.1.1.2, hx hn.1.2, hy hn.2]
 | _ => rename_i a b iha ihb; intro hn; simp only [noSel, Bool.and_eq_true] at hn; simp only [shI, evp, iha hn.1, ihb hn.2]
theorem shI_ev {N : Nat} {Et E : Env} (h : Moved N Et E) {e : IE} (hn : noSel e = true) : ev E (shI N e) = ev Et e := by unfold ev; rw [shI_evp h e hn]
noncomputable def shB (N : Nat) : BE → BE
 | .lit b => .lit b
 | .var i => .var (N + i)
 | .lt a b => .lt (shI N a) (shI N b)
 | .eq a b => .eq (shI N a) (shI N b)
 | .not a => .not (shB N a)
noncomputable def noSelB : BE → Bool
 | .lt a b | .eq a b => noSel a && noSel b
 | .not a => noSelB a
 | _ => true
theorem shB_ev {N : Nat} {Et E : Env} (h : Moved N Et E) : ∀ c : BE, noSelB c = true → evB E (shB N c) = evB Et c := by
 intro c
 induction c with
 | lit _ => intro _; rfl
 | var i => intro _; simp only [shB, evB, h.b]
 | lt a b => intro hn; simp only [noSelB, Bool.and_eq_true] at hn; simp only [shB, evB, shI_ev h hn.1, shI_ev h hn.2]
 | eq a b => intro hn; simp only [noSelB, Bool.and_eq_true] at hn; simp only [shB, evB, shI_ev h hn.1, shI_ev h hn.2]
 | not a ih => intro hn; simp only [noSelB] at hn; simp only [shB, evB, ih hn]
noncomputable def Tem.ok (g : Grp) (τ : Tem) : Bool :=
 τ.es.all noSel && τ.bs.all noSelB && τ.facts.all (fun f => noSel f.1) && τ.conds.all noSelB && Nat.beq g.gi.length τ.es.length && Nat.beq g.gb.length τ.bs.length
noncomputable def temS (N : Nat) (g : Grp) (τ : Tem) : Sub := ⟨g.gi.zip (τ.es.map (shI N)), g.gb.zip (τ.bs.map (shB N)), [], [], []⟩
noncomputable def slotS (σ : Sub) : SV → Option SV
 | .opq j => some (.opq j)
 | p => cond p.plain (instS σ p) none
noncomputable def slotsS (σ : Sub) : List SV → Option (List SV)
 | [] => some []
 | p :: r => match slotS σ p, slotsS σ r with
  | some p, some r => some (p :: r)
  | _, _ => none
noncomputable def heapS (σ : Sub) : List Ent → Option (List Ent)
 | [] => some []
 | e :: r => match instI σ e.base, instS σ e.c, heapS σ r with
  | some b, some c, some r => cond (e.c.plain && !isMapC c) (some ({ e with base := b, c := c } :: r)) none
  | _, _, _ => none
noncomputable def factsS (σ : Sub) : List Fact → List Fact
 | [] => []
 | f :: r => match instI σ f.1 with
  | some e => (norm e, f.2) :: factsS σ r
  | none => factsS σ r
noncomputable def condsS (σ : Sub) : List BE → List BE
 | [] => []
 | c :: r => match instB σ c with
  | some c => c :: condsS σ r
  | none => condsS σ r
noncomputable def HeadP.lay (h : HeadP) (g : Grp) (τ : Tem) : Option (Fr × Mem) :=
 match slotsS (temS h.mem.nv g τ) h.tm, heapS (temS h.mem.nv g τ) h.mem.heap with
 | some tm, some hp => cond (τ.ok g && h.mem.nm h.mem.nv && h.tm.all (SV.nm h.mem.nv) && Nat.blt h.mem.seg h.mem.nv)
   (some (Fr.ofL tm, { know := ⟨factsS (temS h.mem.nv g τ) h.mem.know.facts ++ τ.facts.map (fun f => (shI h.mem.nv f.1, f.2)), condsS (temS h.mem.nv g τ) h.mem.know.conds ++ τ.conds.map (shB h.mem.nv)⟩, heap := hp, seg := h.mem.seg, next := h.mem.next, nv := h.mem.nv + τ.k })) none
 | _, _ => none
noncomputable def putE (N : Nat) (E Et : Env) : Env := { E with i := fun j => if j < N then E.i j else Et.i (j - N), b := fun j => if j < N then E.b j else Et.b (j - N) }
theorem putE_agree (N : Nat) (E Et : Env) : Agree N E (putE N E Et) :=
 ⟨fun k hk => (by show (if k < N then E.i k else _) = _; rw [if_pos hk]), fun k hk => (by show (if k < N then E.b k else _) = _; rw [if_pos hk]), fun _ _ => rfl, fun _ _ => rfl, fun _ _ => rfl, fun _ _ => rfl, rfl⟩
theorem putE_moved {N : Nat} {E Et : Env} (hf : E.f = Et.f) : Moved N Et (putE N E Et) :=
 ⟨fun j => (by show (if N + j < N then _ else Et.i (N + j - N)) = _; rw [if_neg (by omega), Nat.add_sub_cancel_left]), fun j => (by show (if N + j < N then _ else Et.b (N + j - N)) = _; rw [if_neg (by omega), Nat.add_sub_cancel_left]), hf⟩
theorem putE_ok {N : Nat} {E Et : Env} (hE : E.Ok) (ht : Et.Ok) : (putE N E Et).Ok := ⟨fun j => (by
 show in64 (if j < N then E.i j else Et.i (j - N))
 split
 ·exact hE.i j
 ·exact ht.i _), hE.l, hE.f⟩
theorem look_zip {α β : Type} {f : Nat → β} {φ : α → β} {k : Nat} {a : α} : ∀ {ks : List Nat} {as : List α}, ks.map f = as.map φ → look k (ks.zip as) = some a → f k = φ a
 | [], _, _, h => by cases h
 | _ :: _, [], _, h => by cases h
 | j :: ks, b :: as, hm, h => by
  rw [List.map_cons, List.map_cons] at hm
  injection hm with h1 h2
  have h' : cond (Nat.beq j k) (some b) (look k (ks.zip as)) = some a := h
  cases hb : Nat.beq j k with
  | true =>
   rw [hb] at h'
   cases h'
   rw [← Nat.eq_of_beq_eq_true hb]
   exact h1
  | false =>
   rw [hb] at h'
   exact look_zip h2 h'
theorem heapS_ok {E : Env} {σ : Sub} (hσ : σ.base = []) : ∀ {l l' : List Ent}, heapS σ l = some l' → Two (fun e e' => e'.s = e.s ∧ e'.k = e.k ∧ e'.ro = e.ro ∧ e'.t = e.t ∧ ev E e'.base = ev (E.by σ) e.base ∧ dl E e'.c = dl (E.by σ) e.c ∧ isMapC e'.c = false) l l'
 | [], l', h => by cases h; exact .nil
 | e :: r, l', h => by
  unfold heapS at h
  split at h
  ·rename_i b c r' h1 h2 h3
   cases hc : (e.c.plain && !isMapC c) with
   | false => rw [hc] at h; cases h
   | true =>
    rw [hc] at h
    cases h
    rw [Bool.and_eq_true] at hc
    refine .cons ⟨rfl, rfl, rfl, rfl, (instI_ev h1).symm, (instS_ok E σ e.c c hc.1 h2).symm, by simpa using hc.2⟩ (heapS_ok hσ h3)
  ·cases h
theorem slotsS_ok {E : Env} {σ : Sub} (hv : σ.v = []) : ∀ {l l' : List SV}, slotsS σ l = some l' → l'.length = l.length ∧ ∀ i, (l.getD i .undef = .nil → l'.getD i .undef = .nil) ∧ dv E (l'.getD i .undef) = dv (E.by σ) (l.getD i .undef)
 | [], l', h => by cases h; exact ⟨rfl, fun i => ⟨fun h => h, rfl⟩⟩
 | p :: r, l', h => by
  unfold slotsS at h
  split at h
  ·rename_i p' r' h1 h2
   cases h
   obtain ⟨i1, i2⟩ := slotsS_ok (E := E) hv h2
   refine ⟨by rw [List.length_cons, List.length_cons, i1], fun i => ?_⟩
   cases i with
   | succ i => exact i2 i
   | zero =>
    show (p = .nil → p' = .nil) ∧ dv E p' = dv (E.by σ) p
    unfold slotS at h1
    split at h1
    ·rename_i j
     cases h1
     refine ⟨fun h => (by cases h), ?_⟩
     simp only [dv, dl, List.headD_cons, Env.by, hv, look]
    ·rename_i hno
     cases hp : p.plain with
     | false => rw [hp] at h1; cases h1
     | true =>
      rw [hp] at h1
      refine ⟨fun h => ?_, ?_⟩
      ·subst h
       cases h1
       rfl
      ·unfold dv
       rw [instS_ok E σ p p' hp h1]
  ·cases h
theorem factsS_ok {E : Env} {σ : Sub} : ∀ {l : List Fact}, (∀ f ∈ l, FactOk (E.by σ) f) → ∀ f ∈ factsS σ l, FactOk E f
 | [], _, f, hf => by cases hf
 | g :: r, h, f, hf => by
  unfold factsS at hf
  split at hf
  ·rename_i e he
   rcases List.mem_cons.1 hf with rfl | hf
   ·have := h g List.mem_cons_self
    unfold FactOk at this ⊢
    rw [norm_ok, ← instI_ev he]
    exact this
   ·exact factsS_ok (fun f hf => h f (List.mem_cons_of_mem _ hf)) f hf
  ·exact factsS_ok (fun f hf => h f (List.mem_cons_of_mem _ hf)) f hf
theorem condsS_ok {E : Env} {σ : Sub} : ∀ {l : List BE}, (∀ c ∈ l, evB (E.by σ) c = true) → ∀ c ∈ condsS σ l, evB E c = true
 | [], _, f, hf => by cases hf
 | g :: r, h, f, hf => by
  unfold condsS at hf
  split at hf
  ·rename_i e he
   rcases List.mem_cons.1 hf with rfl | hf
   ·rw [← instB_ok E σ _ _ he]
    exact h g List.mem_cons_self
   ·exact condsS_ok (fun f hf => h f (List.mem_cons_of_mem _ hf)) f hf
  ·exact condsS_ok (fun f hf => h f (List.mem_cons_of_mem _ hf)) f hf
theorem two_mem {α : Type} {R : α → α → Prop} : ∀ {l m : List α}, Two R l m → ∀ {y : α}, y ∈ m → ∃ x ∈ l, R x y
 | _, _, .nil, _, hy => by cases hy
 | _, _, .cons h t, y, hy => by
  rcases List.mem_cons.1 hy with rfl | hy
  ·exact ⟨_, List.mem_cons_self, h⟩
  ·obtain ⟨x, h1, h2⟩ := two_mem t hy
   exact ⟨x, List.mem_cons_of_mem _ h1, h2⟩
theorem two_pairwise {α : Type} {R S S' : α → α → Prop} : ∀ {l m : List α}, Two R l m → l.Pairwise S → (∀ x y x' y', R x x' → R y y' → S x y → S' x' y') → m.Pairwise S'
 | _, _, .nil, _, _ => List.Pairwise.nil
 | _, _, .cons h t, hp, hs => by
  rw [List.pairwise_cons] at hp
  exact List.Pairwise.cons (fun y hy => by
   obtain ⟨x, h1, h2⟩ := two_mem t hy
   exact hs _ _ _ _ h h2 (hp.1 x h1)) (two_pairwise t hp.2 hs)
theorem lay_ok {F : Nat → Prop} {w0 w : World} {G : Gf} {E Et : Env} {h : HeadP} {g : Grp} {τ : Tem} {q : Fr × Mem} {a : Act} (hq : h.lay g τ = some q) (hm : MemOk F w0 E h.mem w) (ha : FrOk E (Fr.ofL h.tm) a) (hgf : E.f = G)
  (ht : τ.holds G (g.gi.map E.i) (g.gb.map E.b) Et) : Agree h.mem.nv E (putE h.mem.nv E Et) ∧ MemOk F w0 (putE h.mem.nv E Et) q.2 w ∧ FrOk (putE h.mem.nv E Et) q.1 a := by
 obtain ⟨t1, t2, t3, t4, t5, t6⟩ := ht
 unfold HeadP.lay at hq
 split at hq
 case h_2 => cases hq
 rename_i tm hp hs hh
 generalize hN : h.mem.nv = N at *
 generalize hσ : temS N g τ = σ at *
 cases hc : (τ.ok g && h.mem.nm N && h.tm.all (SV.nm N) && Nat.blt h.mem.seg N) with
 | false => rw [hc] at hq; cases hq
 | true =>
 rw [hc] at hq
 cases hq
 simp only [Bool.and_eq_true] at hc
 obtain ⟨⟨⟨c1, c2⟩, c3⟩, c4⟩ := hc
 have c4 : h.mem.seg < N := by simpa [Nat.blt_eq] using c4
 simp only [Tem.ok, Bool.and_eq_true, List.all_eq_true] at c1
 obtain ⟨⟨⟨⟨⟨d1, d2⟩, d3⟩, d4⟩, d5⟩, d6⟩ := c1
 have hmv : Moved N Et (putE N E Et) := putE_moved (hgf.trans t2.symm)
 have hA : Agree N E (putE N E Et) := putE_agree N E Et
 have hOk : (putE N E Et).Ok := putE_ok hm.know.env t1
 have hA2 : Agree N E ((putE N E Et).by σ) := by
  subst hσ
  refine ⟨fun k hk => ?_, fun k hk => ?_, fun k hk => rfl, fun k hk => rfl, fun k hk => rfl, fun k hk => rfl, rfl⟩
  ·show (match look k (g.gi.zip (τ.es.map (shI N))) with | some e => ev (putE N E Et) e | none => (putE N E Et).i k) = _
   split
   ·rename_i e he
    refine (look_zip (f := E.i) (φ := ev (putE N E Et)) ?_ he).symm
    rw [t3, List.map_map]
    exact List.map_congr_left fun e he => (shI_ev hmv (d1 e he)).symm
   ·exact hA.i k hk
  ·show (match look k (g.gb.zip (τ.bs.map (shB N))) with | some e => evB (putE N E Et) e | none => (putE N E Et).b k) = _
   split
   ·rename_i e he
    refine (look_zip (f := E.b) (φ := evB (putE N E Et)) ?_ he).symm
    rw [t4, List.map_map]
    exact List.map_congr_left fun e he => (shB_ev hmv e (d2 e he)).symm
   ·exact hA.b k hk
 have hb : σ.base = [] := by subst hσ; rfl
 have hv : σ.v = [] := by subst hσ; rfl
 have hOk2 : ((putE N E Et).by σ).Ok := by
  refine ⟨fun j => ?_, fun r x hx => ?_, hOk.f⟩
  ·subst hσ
   show in64 (match look j (g.gi.zip (τ.es.map (shI N))) with | some e => ev (putE N E Et) e | none => (putE N E Et).i j)
   split
   ·rename_i e he
    have := look_zip (f := E.i) (φ := ev (putE N E Et)) (by
     rw [t3, List.map_map]
     exact List.map_congr_left fun e he => (shI_ev hmv (d1 e he)).symm) he
    rw [← this]
    exact hm.know.env.i j
   ·exact hOk.i j
  ·subst hσ
   exact hOk.l r x hx
 have hm2 : MemOk F w0 ((putE N E Et).by σ) { h.mem with seg := h.mem.seg, next := h.mem.next, nv := h.mem.nv } w := hm.moved c2 hA2 hOk2 (Ext.refl _ _) (by
  rw [hA2.base _ c4]
  exact hm.size) (by rw [hA2.o _ c4]; exact hm.seg0)
 have tw := heapS_ok (E := putE N E Et) hb hh
 have hbase : ∀ s, ((putE N E Et).by σ).base s = (putE N E Et).base s := fun s => by
  show (match look s σ.base with | some (s', k) => (putE N E Et).base s' + k | none => (putE N E Et).base s) = _
  rw [hb]; rfl
 have ho : ∀ s, ((putE N E Et).by σ).o s = (putE N E Et).o s := fun s => by
  show (match look s σ.base with | some (s', _) => (putE N E Et).o s' | none => (putE N E Et).o s) = _
  rw [hb]; rfl
 refine ⟨hA, ⟨⟨hOk, fun f hf => ?_, fun c hc => ?_⟩, ?_, ?_, ?_, ?_, hm2.ext, ?_⟩, ?_⟩
 ·rcases List.mem_append.1 hf with hf | hf
  ·exact factsS_ok hm2.know.facts f hf
  ·obtain ⟨f0, hf0, rfl⟩ := List.mem_map.1 hf
   have := t5 f0 hf0
   unfold FactOk at this ⊢
   dsimp only
   rw [shI_ev hmv (d3 f0 hf0)]
   exact this
 ·rcases List.mem_append.1 hc with hc | hc
  ·exact condsS_ok hm2.know.conds c hc
  ·obtain ⟨c0, hc0, rfl⟩ := List.mem_map.1 hc
   rw [shB_ev hmv c0 (d4 c0 hc0)]
   exact t6 c0 hc0
 ·have := hm2.size
  rw [hbase] at this
  exact this
 ·intro e' he'
  obtain ⟨e, he, r1, r2, r3, r4, r5, r6, r7⟩ := two_mem tw he'
  have ok := hm2.ents e he
  have hblk : e'.blk (putE N E Et) = e.blk ((putE N E Et).by σ) := by
   unfold Ent.blk
   rw [r1, r2, hbase]
  refine ⟨by rw [hblk]; exact ok.lt, fun hr j v hj => ?_, fun hr => ?_, fun hr x hx => ?_⟩
  ·rw [hblk, r5, r1, ← ho]
   exact ok.ro (by rw [← r3]; exact hr) j v (by rw [← r6]; exact hj)
  ·rw [hblk, r5, r6, r4, r1, ← ho]
   exact ok.own (by rw [← r3]; exact hr)
  ·rw [hx] at r7
   cases r7
 ·exact two_pairwise tw hm2.apart fun x y x' y' hx hy hp => by
   unfold Ent.parted at hp ⊢
   rw [hx.2.2.1, hy.2.2.1]
   have e1 : x'.blk (putE N E Et) = x.blk ((putE N E Et).by σ) := by unfold Ent.blk; rw [hx.1, hx.2.1, hbase]
   have e2 : y'.blk (putE N E Et) = y.blk ((putE N E Et).by σ) := by unfold Ent.blk; rw [hy.1, hy.2.1, hbase]
   rw [e1, e2]
   exact hp
 ·intro e' he' hr
  obtain ⟨e, he, r1, r2, r3, _⟩ := two_mem tw he'
  have hblk : e'.blk (putE N E Et) = e.blk ((putE N E Et).by σ) := by
   unfold Ent.blk
   rw [r1, r2, hbase]
  rw [hblk]
  exact hm2.mine e he (by rw [← r3]; exact hr)
 ·have := hm2.seg0
  rw [ho] at this
  exact this
 ·refine ha.slots (E' := putE N E Et) (tmH := tm) ?_
  rw [Fr.ofL_toL]
  obtain ⟨s1, s2⟩ := slotsS_ok (E := putE N E Et) hv hs
  refine ⟨s1, fun i => ?_⟩
  by_cases hnil : h.tm.getD i .undef = .nil
  ·exact .inl ((s2 i).1 hnil)
  ·refine .inr ⟨hnil, ?_⟩
   rw [(s2 i).2]
   refine dv_agree hA2 ?_
   rw [List.all_eq_true] at c3
   rw [List.getD_eq_getElem?_getD]
   cases hx : h.tm[i]? with
   | none => rfl
   | some v => exact c3 v (List.mem_of_getElem? hx)
noncomputable def instB2 (σ : Sub) : List Nat → Option (List BE)
 | [] => some []
 | j :: r => match instB σ (.var j), instB2 σ r with
  | some c, some r => some (c :: r)
  | _, _ => none
theorem instB2_ok {E : Env} {σ : Sub} : ∀ {l : List Nat} {l' : List BE}, instB2 σ l = some l' → l.map (E.by σ).b = l'.map (evB E)
 | [], l', h => by cases h; rfl
 | j :: r, l', h => by
  unfold instB2 at h
  split at h
  ·rename_i c r' h1 h2
   cases h
   rw [List.map_cons, List.map_cons, instB2_ok h2, ← instB_ok E σ _ _ h1]
   rfl
  ·cases h
noncomputable def fold2 {α β : Type} (f : α → α → β → β) : List α → List α → β → β
 | a :: l, b :: m, s => fold2 f l m (f a b s)
 | _, _, s => s
noncomputable def solve (τ : Tem) (vi : List IE) (vb : List BE) : Sub :=
 fold2 (matchA 0) τ.es vi (fold2 (matchB 0) τ.bs vb (fold2 (matchI 0) τ.es vi ⟨[], [], [], [], []⟩))
noncomputable def sameK (kn : Know) (a b : IE) : Bool := sameI a b || factIn kn (mkSub a b) 0 0
theorem sameK_ok {E : Env} {kn : Know} (hk : KnowOk E kn) {a b : IE} (h : sameK kn a b = true) : ev E a = ev E b := by
 unfold sameK at h
 rw [Bool.or_eq_true] at h
 rcases h with h | h
 ·exact sameI_ok h
 ·have := factIn_ok hk h
  rw [mkSub_ok] at this
  omega
noncomputable def isI (kn : Know) (σ : Sub) : List IE → List IE → Bool
 | [], [] => true
 | e :: l, v :: m => (match instI σ e with
  | some e' => sameK kn e' v
  | none => false) && isI kn σ l m
 | _, _ => false
theorem isI_ok {E : Env} {kn : Know} (hk : KnowOk E kn) {σ : Sub} : ∀ {l m : List IE}, isI kn σ l m = true → m.map (ev E) = l.map (ev (E.by σ))
 | [], [], _ => rfl
 | [], _ :: _, h => by cases h
 | _ :: _, [], h => by cases h
 | e :: l, v :: m, h => by
  unfold isI at h
  rw [Bool.and_eq_true] at h
  obtain ⟨h1, h2⟩ := h
  split at h1
  ·rename_i e' he
   rw [List.map_cons, List.map_cons, isI_ok hk h2, instI_ev he, sameK_ok hk h1]
  ·cases h1
noncomputable def isB (kn : Know) (σ : Sub) : List BE → List BE → Bool
 | [], [] => true
 | c :: l, v :: m => (match instB σ c with
  | some c' => again kn c' == again kn v
  | none => false) && isB kn σ l m
 | _, _ => false
theorem isB_ok {E : Env} {kn : Know} (hk : KnowOk E kn) {σ : Sub} : ∀ {l m : List BE}, isB kn σ l m = true → m.map (evB E) = l.map (evB (E.by σ))
 | [], [], _ => rfl
 | [], _ :: _, h => by cases h
 | _ :: _, [], h => by cases h
 | e :: l, v :: m, h => by
  unfold isB at h
  rw [Bool.and_eq_true] at h
  obtain ⟨h1, h2⟩ := h
  split at h1
  ·rename_i e' he
   rw [beq_iff_eq] at h1
   rw [List.map_cons, List.map_cons, isB_ok hk h2, instB_ok E σ _ _ he, ← again_ok hk e', h1, again_ok hk]
  ·cases h1
noncomputable def temIn (kn : Know) (vi : List IE) (vb : List BE) (τ : Tem) : Bool :=
 subOk 0 (solve τ vi vb) kn && isI kn (solve τ vi vb) τ.es vi && isB kn (solve τ vi vb) τ.bs vb && factsOk (solve τ vi vb) kn τ.facts && condsOk (solve τ vi vb) kn τ.conds
theorem temIn_ok {G : Gf} {E : Env} {kn : Know} (hk : KnowOk E kn) (hgf : E.f = G) {vi : List IE} {vb : List BE} {τ : Tem} (h : temIn kn vi vb τ = true) : τ.holds G (vi.map (ev E)) (vb.map (evB E)) (E.by (solve τ vi vb)) := by
 unfold temIn at h
 simp only [Bool.and_eq_true] at h
 obtain ⟨⟨⟨⟨h1, h2⟩, h3⟩, h4⟩, h5⟩ := h
 exact ⟨by_ok h1 hk, hgf, isI_ok hk h2, isB_ok hk h3, factsOk_ok hk h4, condsOk_ok hk h5⟩
noncomputable def grpIn (kn : Know) (σ : Sub) (g : Grp) : Bool := match instL σ (g.gi.map .var), instB2 σ g.gb with
 | some vi, some vb => anyS (temIn kn vi vb) g.ts
 | _, _ => false
theorem grpIn_ok {G : Gf} {E : Env} {kn : Know} (hk : KnowOk E kn) (hgf : E.f = G) {σ : Sub} {g : Grp} (h : grpIn kn σ g = true) : g.inv G (g.gi.map (E.by σ).i) (g.gb.map (E.by σ).b) := by
 unfold grpIn at h
 split at h
 ·rename_i vi vb h1 h2
  obtain ⟨τ, ht, hin⟩ := anyS_ok h
  refine ⟨τ, ht, E.by (solve τ vi vb), ?_⟩
  have e1 : g.gi.map (E.by σ).i = vi.map (ev E) := by
   rw [← instL_ev h1, List.map_map]
   rfl
  rw [e1, instB2_ok h2]
  exact temIn_ok hk hgf hin
 ·cases h
noncomputable def grpSame (N : Nat) (σ : Sub) (g : Grp) : Bool := g.gi.all (fun j => Nat.blt j N && (match instI σ (.var j) with
 | some e => ieEq e (.var j)
 | none => false)) && g.gb.all fun j => Nat.blt j N && (match instB σ (.var j) with
 | some c => c == .var j
 | none => false)
theorem grpSame_ok {E0 E : Env} {N : Nat} (hA : Agree N E0 E) {σ : Sub} {g : Grp} (h : grpSame N σ g = true) : g.gi.map (E.by σ).i = g.gi.map E0.i ∧ g.gb.map (E.by σ).b = g.gb.map E0.b := by
 unfold grpSame at h
 simp only [Bool.and_eq_true, List.all_eq_true] at h
 refine ⟨List.map_congr_left fun j hj => ?_, List.map_congr_left fun j hj => ?_⟩
 ·obtain ⟨h1, h2⟩ := h.1 j hj
  split at h2
  ·rename_i e he
   have h3 := instI_ev (E := E) he
   rw [ieEq_ok h2] at h3
   exact h3.trans (hA.i j (by simpa [Nat.blt_eq] using h1))
  ·cases h2
 ·obtain ⟨h1, h2⟩ := h.2 j hj
  split at h2
  ·rename_i c hc
   have h3 := instB_ok E σ _ _ hc
   rw [beq_iff_eq] at h2
   rw [h2] at h3
   exact h3.trans (hA.b j (by simpa [Nat.blt_eq] using h1))
  ·cases h2
structure CaseT where
 fs : List Fact := []
 bs : List BE := []
 pick : Option Nat := none
noncomputable def isPick (p : Option Nat) (i : Nat) : Bool := match p with
 | some j => Nat.beq j i
 | none => false
noncomputable def outsOkT {P : Program} (T : Tab P) (cx : CX) (bx : BX) (jm : Option Nat) (fuel id : Nat) (body : Code) (n : Nat) (grps : List Grp) (heads : List HeadT) (leaves : List LeaveP) (h : HeadT) (pick : Option Nat) (q0 : Fr × Mem) : Bool :=
 match runC T cx bx jm fuel body q0.1 q0.2 with
 | none => false
 | some outs => outs.all fun q => match q.1.1 with
  | .normal => anyS (fun g => fits n g.h.tm g.h.mem q.1.2.toL q.2 && nonnegI q.2.know (matchAll n g.h.tm g.h.mem q.1.2.toL q.2) g.h.mu && (match instI (matchAll n g.h.tm g.h.mem q.1.2.toL q.2) g.h.mu with
    | some μ' => isLt q.2.know (norm μ') h.h.mu
    | none => false) && g.gs.all fun i => match grps[i]? with
     | some gr => (!isPick pick i && (h.gs.any (Nat.beq i) && grpSame h.h.mem.nv (matchAll n g.h.tm g.h.mem q.1.2.toL q.2) gr)) || grpIn q.2.know (matchAll n g.h.tm g.h.mem q.1.2.toL q.2) gr
     | none => false) heads
  | e => anyS (fun x => (x.e == leaveOf id e) && fits n x.tm x.mem q.1.2.toL q.2) leaves
noncomputable def layT (h : HeadT) (grps : List Grp) (c : CaseT) (t : Nat) : Option (Fr × Mem) := match c.pick with
 | none => cond (Nat.beq t 0) (some (Fr.ofL h.h.tm, (h.h.moreC (c.fs, c.bs)).mem)) none
 | some i => match grps[i]? with
  | some g => cond (h.gs.any (Nat.beq i)) (match g.ts[t]? with
   | some τ => (h.h.moreC (c.fs, c.bs)).lay g τ
   | none => none) none
  | none => none
noncomputable def nTem (grps : List Grp) (c : CaseT) : Nat := match c.pick with
 | none => 1
 | some i => match grps[i]? with
  | some g => Nat.max 1 g.ts.length
  | none => 1
noncomputable def headOkT {P : Program} (T : Tab P) (cx : CX) (bx : BX) (jm : Option Nat) (fuel id : Nat) (body : Code) (n : Nat) (grps : List Grp) (heads : List HeadT) (leaves : List LeaveP) (h : HeadT) (c : CaseT) (t : Nat) : Bool :=
 match layT h grps c t with
 | some q0 => nfFM q0 fun q0 => outsOkT T cx bx jm fuel id body n grps heads leaves h c.pick q0
 | none => false
noncomputable def loopT (n : Nat) (grps : List Grp) (heads : List HeadT) (leaves : List LeaveP) : Fr → X (SX × Fr) := fun tm m =>
 if Nat.beq m.nv n && heads.all (fun h => Nat.ble (n + 1) h.h.mem.nv && h.h.mu.nm h.h.mem.nv) && leaves.all (fun x => Nat.ble (n + 1) x.mem.nv) && anyS (fun h => fits n h.h.tm h.h.mem tm.toL m && h.gs.all fun i => match grps[i]? with
  | some gr => grpIn m.know (matchAll n h.h.tm h.h.mem tm.toL m) gr
  | none => false) heads then
  some (leaves.map fun x => ((x.e, Fr.ofL x.tm), x.mem))
 else none
theorem loopT_ok {G : Gf} {P : Program} {T : Tab P} {cx : CX} (hcx : CallsOk G P cx) {bx : BX} {jm : Option Nat} {fuel id : Nat} {body : Code} (hb : BlocksOk G P bx body) {n : Nat} {grps : List Grp} {heads : List HeadT} {leaves : List LeaveP}
  (hall : ∀ h ∈ heads, ∃ cs : List CaseT, (∀ E : Env, E.f = G → E.Ok → (∀ f ∈ h.h.mem.know.facts, FactOk E f) → ∃ c ∈ cs, (∀ f ∈ c.fs, FactOk E f) ∧ ∀ b ∈ c.bs, evB E b = true) ∧ ∀ c ∈ cs, ∀ t < nTem grps c, headOkT T cx bx jm fuel id body n grps heads leaves h c t = true) : CodeOk G P (.block id (.loop body)) (loopT n grps heads leaves) := by
 intro F w0 E0 tm a m w exits hgf ho hm ha
 unfold loopT at ho
 split at ho
 case isFalse => cases ho
 rename_i hc
 simp only [Bool.and_eq_true, List.all_eq_true] at hc
 obtain ⟨⟨⟨hn, hh⟩, hl⟩, hany⟩ := hc
 have hn := Nat.eq_of_beq_eq_true hn
 cases ho
 obtain ⟨h0, hh0, hf0⟩ := anyS_ok hany
 rw [Bool.and_eq_true, List.all_eq_true] at hf0
 obtain ⟨hf0, hi0⟩ := hf0
 obtain ⟨hA0, hm0, hl0⟩ := rerootF_ok hf0 hm
 have toFr : ∀ {E E' : Env} {tm : Fr} {tmH : List SV} {a : Act}, FrOk E tm a → Slots E' E tmH tm.toL → FrOk E' (Fr.ofL tmH) a := fun h he => h.slots he
 have ha0 := toFr ha hl0
 have nvh : ∀ h ∈ heads, n + 1 ≤ h.h.mem.nv ∧ h.h.mu.nm h.h.mem.nv = true := fun h hm => ⟨Nat.le_of_ble_eq_true (hh h hm).1, (hh h hm).2⟩
 have nvl : ∀ x ∈ leaves, n + 1 ≤ x.mem.nv := fun x hx => Nat.le_of_ble_eq_true (hl x hx)
 have key : ∀ (k : Nat) (h : HeadT), h ∈ heads → ∀ (E : Env) (a : Act) (w : World), Agree n E0 E → (∀ i ∈ h.gs, ∀ g, grps[i]? = some g → g.inv G (g.gi.map E.i) (g.gb.map E.b)) → MemOk F w0 E h.h.mem w → FrOk E (Fr.ofL h.h.tm) a → (ev E h.h.mu).toNat < k →
   Code.rounds P body (Exit.inBlock id (Post F w0 E0 m (leaves.map fun x => ((x.e, Fr.ofL x.tm), x.mem)))) k a w := by
  intro k
  induction k with
  | zero => intro h _ E a w _ _ _ _ hlt; omega
  | succ k ih =>
   intro h hmem E a w hL hI hm ha hk
   obtain ⟨cs, hcov, hall2⟩ := hall h hmem
   obtain ⟨c, hc, hcf⟩ := hcov E (hL.f.trans hgf) hm.know.env hm.know.facts
   have hN := (nvh h hmem).1
   -- the template that is laid in
   have hlay : ∃ (t : Nat) (q0 : Fr × Mem) (E1 : Env), t < nTem grps c ∧ layT h grps c t = some q0 ∧ Agree h.h.mem.nv E E1 ∧ MemOk F w0 E1 q0.2 w ∧ FrOk E1 q0.1 a ∧ h.h.mem.nv ≤ q0.2.nv := by
    have hmc : MemOk F w0 E (h.h.moreC (c.fs, c.bs)).mem w := hm.moreC hcf
    cases hp : c.pick with
    | none =>
     refine ⟨0, (Fr.ofL h.h.tm, (h.h.moreC (c.fs, c.bs)).mem), E, by unfold nTem; rw [hp]; exact Nat.one_pos, by unfold layT; rw [hp]; rfl, Agree.refl _ _, hmc, ha, Nat.le_refl _⟩
    | some i =>
     have hall3 := hall2 c hc
     unfold nTem at hall3 ⊢
     rw [hp] at hall3 ⊢
     dsimp only at hall3 ⊢
     cases hg : grps[i]? with
     | none =>
      rw [hg] at hall3
      have := hall3 0 Nat.one_pos
      unfold headOkT layT at this
      rw [hp] at this
      dsimp only at this
      rw [hg] at this
      cases this
     | some g =>
      rw [hg] at hall3
      dsimp only at hall3 ⊢
      cases hgs : h.gs.any (Nat.beq i) with
      | false =>
       have := hall3 0 (Nat.lt_of_lt_of_le Nat.one_pos (Nat.le_max_left _ _))
       unfold headOkT layT at this
       rw [hp] at this
       dsimp only at this
       rw [hg] at this
       dsimp only at this
       rw [hgs] at this
       cases this
      | true =>
       have hin : i ∈ h.gs := by
        obtain ⟨j, hj, hji⟩ := List.any_eq_true.1 hgs
        rw [Nat.eq_of_beq_eq_true hji]
        exact hj
       obtain ⟨τ, hτ, Et, ht⟩ := hI i hin g hg
       obtain ⟨t, htl, htt⟩ := List.getElem_of_mem hτ
       have htm : t < Nat.max 1 g.ts.length := Nat.lt_of_lt_of_le htl (Nat.le_max_right _ _)
       have hlt : layT h grps c t = (h.h.moreC (c.fs, c.bs)).lay g τ := by
        unfold layT
        rw [hp]
        dsimp only
        rw [hg]
        dsimp only
        rw [hgs, List.getElem?_eq_getElem htl, htt]
        rfl
       cases hlq : (h.h.moreC (c.fs, c.bs)).lay g τ with
       | none =>
        have := hall3 t htm
        unfold headOkT at this
        rw [hlt, hlq] at this
        cases this
       | some q0 =>
        obtain ⟨l1, l2, l3⟩ := lay_ok (h := h.h.moreC (c.fs, c.bs)) hlq hmc ha (hL.f.trans hgf) ht
        refine ⟨t, q0, _, htm, by rw [hlt, hlq], l1, l2, l3, ?_⟩
        unfold HeadP.lay at hlq
        split at hlq
        ·rename_i tm' hp' _ _
         generalize (τ.ok g && _ && _ && _ : Bool) = bb at hlq
         cases bb with
         | false => cases hlq
         | true => cases hlq; exact Nat.le_add_right _ _
        ·cases hlq
   obtain ⟨t, q0, E1, htl, hq0, hAg, hm1, ha1, hnv⟩ := hlay
   have hok := hall2 c hc t htl
   unfold headOkT at hok
   rw [hq0] at hok
   dsimp only at hok
   rw [nfFM_eq] at hok
   unfold outsOkT at hok
   split at hok
   ·cases hok
   rename_i outs hrun
   rw [List.all_eq_true] at hok
   rw [rounds_succ]
   refine wp_mono ((runC_ok hcx fuel).1 body hb F w0 E1 q0.1 a q0.2 w outs (hAg.f.trans (hL.f.trans hgf)) hrun hm1 ha1) ?_
   rintro e a' w' ⟨q, hq, E', hA1, he, hf, hm'⟩
   have hA : Agree h.h.mem.nv E E' := hAg.trans hA1.agree hnv
   have hE0 : Agree n E0 E' := hL.trans ⟨fun k hk => hA.i k (by omega), fun k hk => hA.b k (by omega), fun k hk => hA.l k (by omega), fun k hk => hA.base k (by omega), fun k hk => hA.o k (by omega), fun k hk => hA.v k (by omega), hA.f⟩ (Nat.le_refl _)
   have hq' := hok q hq
   have leave : ∀ e0 : SX, q.1.1 = e0 → anyS (fun x => (x.e == leaveOf id e0) && fits n x.tm x.mem q.1.2.toL q.2) leaves = true →
     ∃ y ∈ leaves.map (fun x => ((x.e, Fr.ofL x.tm), x.mem)), ∃ E'', Later m.nv y.2.nv E0 E'' ∧ leaveOf id e0 = y.1.1 ∧ FrOk E'' y.1.2 a' ∧ MemOk F w0 E'' y.2 w' := by
    intro e0 _ hany
    obtain ⟨x, hx, hfx⟩ := anyS_ok hany
    simp only [Bool.and_eq_true, beq_iff_eq] at hfx
    obtain ⟨hxe, hfx⟩ := hfx
    obtain ⟨hA2, hm2, hl2⟩ := rerootF_ok hfx hm'
    refine ⟨_, List.mem_map.2 ⟨x, hx, rfl⟩, E'.by (matchAll n x.tm x.mem q.1.2.toL q.2), ⟨?_, ?_, ?_⟩, hxe.symm, toFr hf hl2, hm2⟩
    ·rw [hn]
     exact hE0.trans hA2 (Nat.le_refl _)
    ·have := nvl x hx; dsimp only; omega
    ·intro hnv; have := nvl x hx; dsimp only at hnv; omega
   cases hx : q.1.1 with
   | normal =>
    rw [hx] at he hq'
    subst he
    obtain ⟨g, hg, hfg⟩ := anyS_ok hq'
    simp only [Bool.and_eq_true] at hfg
    obtain ⟨⟨⟨hfit, hd⟩, hlt⟩, hgrp⟩ := hfg
    rw [List.all_eq_true] at hgrp
    obtain ⟨hA2, hm2, hl2⟩ := rerootF_ok hfit hm'
    generalize hσ : matchAll n g.h.tm g.h.mem q.1.2.toL q.2 = σ at *
    unfold nonnegI at hd
    cases hμ' : instI σ g.h.mu with
    | none => rw [hμ'] at hd; cases hd
    | some μ' =>
    rw [hμ'] at hd hlt
    have e1 : ev (E'.by σ) g.h.mu = ev E' μ' := instI_ev hμ'
    have e2 : ev E' (norm μ') < ev E' h.h.mu := isLt_ok hm'.know hlt
    have e3 := nonneg_ok hm'.know hd
    rw [norm_ok] at e2 e3
    have e4 : ev E' h.h.mu = ev E h.h.mu := ev_agree hA (nvh h hmem).2
    have hI2 : ∀ i ∈ g.gs, ∀ gr, grps[i]? = some gr → gr.inv G (gr.gi.map (E'.by σ).i) (gr.gb.map (E'.by σ).b) := by
     intro i hi gr hgr
     have h1 := hgrp i hi
     rw [hgr] at h1
     dsimp only at h1
     rw [Bool.or_eq_true] at h1
     rcases h1 with h1 | h1
     ·simp only [Bool.and_eq_true] at h1
      obtain ⟨_, h2, h3⟩ := h1
      have hin : i ∈ h.gs := by
       obtain ⟨j, hj, hji⟩ := List.any_eq_true.1 h2
       rw [Nat.eq_of_beq_eq_true hji]
       exact hj
      obtain ⟨s1, s2⟩ := grpSame_ok hA h3
      rw [s1, s2]
      exact hI i hin gr hgr
     ·exact grpIn_ok hm'.know (hA.f.trans (hL.f.trans hgf)) h1
    show Code.rounds P body (Exit.inBlock id _) k a' w'
    refine ih g hg (E'.by σ) a' w' (hE0.trans hA2 (Nat.le_refl _)) hI2 hm2 (toFr hf hl2) ?_
    rw [e1]; omega
   | exit i =>
    rw [hx] at he hq'
    subst he
    obtain ⟨y, hy, E'', h1, h2, h3, h4⟩ := leave (.exit i) hx hq'
    show if i = id then _ else _
    replace h2 : (if i = id then SX.normal else .exit i) = y.1.1 := h2
    by_cases hi : i = id
    ·rw [if_pos hi] at h2 ⊢
     exact ⟨y, hy, E'', h1, by rw [← h2]; rfl, h3, h4⟩
    ·rw [if_neg hi] at h2 ⊢
     exact ⟨y, hy, E'', h1, by rw [← h2]; rfl, h3, h4⟩
   | ret =>
    rw [hx] at he hq'
    subst he
    obtain ⟨y, hy, E'', h1, h2, h3, h4⟩ := leave .ret hx hq'
    exact ⟨y, hy, E'', h1, by rw [← h2]; rfl, h3, h4⟩
 have hI0 : ∀ i ∈ h0.gs, ∀ gr, grps[i]? = some gr → gr.inv G (gr.gi.map (E0.by (matchAll n h0.h.tm h0.h.mem tm.toL m)).i) (gr.gb.map (E0.by (matchAll n h0.h.tm h0.h.mem tm.toL m)).b) := by
  intro i hi gr hgr
  have h1 := hi0 i hi
  rw [hgr] at h1
  exact grpIn_ok hm.know hgf h1
 refine wp_block (wp_loop_rounds ((ev (E0.by (matchAll n h0.h.tm h0.h.mem tm.toL m)) h0.h.mu).toNat + 1) ?_)
 exact key _ h0 hh0 _ a w hA0 hI0 hm0 ha0 (by omega)
noncomputable def liftB (N : Nat) (s : Fr → X (SX × Fr)) : Fr → X (SX × Fr) := fun tm m => cond (Nat.ble m.nv N) (s tm { m with nv := N }) none
theorem liftB_ok {G : Gf} {P : Program} {c : Code} {N : Nat} {s : Fr → X (SX × Fr)} (hs : CodeOk G P c s) : CodeOk G P c (liftB N s) := by
 intro F w0 E tm a m w outs hgf ho hm ha
 unfold liftB at ho
 cases hc : Nat.ble m.nv N with
 | false => rw [hc] at ho; cases ho
 | true =>
 rw [hc] at ho
 have hle := Nat.le_of_ble_eq_true hc
 refine wp_mono (hs F w0 E tm a { m with nv := N } w outs hgf ho ⟨hm.know, hm.size, hm.ents, hm.apart, hm.mine, hm.ext, hm.seg0⟩ ha) ?_
 rintro e a' w' ⟨q, hq, E', hL, he, hf, hm'⟩
 have hL : Later N q.2.nv E E' := hL
 refine ⟨q, hq, E', ⟨⟨fun k hk => hL.agree.i k (by omega), fun k hk => hL.agree.b k (by omega), fun k hk => hL.agree.l k (by omega), fun k hk => hL.agree.base k (by omega), fun k hk => hL.agree.o k (by omega), fun k hk => hL.agree.v k (by omega), hL.agree.f⟩, Nat.le_trans hle hL.le, fun h => ?_⟩, he, hf, hm'⟩
 have h1 := hL.le
 exact hL.same (by omega)
noncomputable def orB (s t : Fr → X (SX × Fr)) : Fr → X (SX × Fr) := fun tm m => match s tm m with
 | some outs => some outs
 | none => t tm m
theorem orB_ok {G : Gf} {P : Program} {c : Code} {s t : Fr → X (SX × Fr)} (hs : CodeOk G P c s) (ht : CodeOk G P c t) : CodeOk G P c (orB s t) := by
 intro F w0 E tm a m w outs hgf ho hm ha
 unfold orB at ho
 split at ho
 ·rename_i outs' hr; cases ho; exact hs F w0 E tm a m w _ hgf hr hm ha
 ·exact ht F w0 E tm a m w outs hgf ho hm ha
theorem anyS_sub {α : Type} {p : α → Bool} {l m : List α} (hs : ∀ x ∈ l, x ∈ m) (h : anyS p l = true) : anyS p m = true := by
 obtain ⟨x, hx, hp⟩ := anyS_ok h
 have hx := hs x hx
 clear h hs
 induction m with
 | nil => cases hx
 | cons y r ih =>
  show cond (p y) true (anyS p r) = true
  rcases List.mem_cons.1 hx with rfl | hx
  ·rw [hp]; rfl
  ·cases p y with
   | true => rfl
   | false => exact ih hx
theorem headOkT_sub {P : Program} {T : Tab P} {cx : CX} {bx : BX} {jm : Option Nat} {fuel id : Nat} {body : Code} {n : Nat} {grps : List Grp} {heads heads' : List HeadT} {leaves : List LeaveP} {h : HeadT} {c : CaseT} {t : Nat} (hs : ∀ x ∈ heads', x ∈ heads)
  (ho : headOkT T cx bx jm fuel id body n grps heads' leaves h c t = true) : headOkT T cx bx jm fuel id body n grps heads leaves h c t = true := by
 unfold headOkT at ho ⊢
 cases hl : layT h grps c t with
 | none => rw [hl] at ho; cases ho
 | some q0 =>
 rw [hl] at ho
 dsimp only at ho ⊢
 rw [nfFM_eq] at ho ⊢
 unfold outsOkT at ho ⊢
 cases hr : runC T cx bx jm fuel body q0.1 q0.2 with
 | none => rw [hr] at ho; cases ho
 | some outs =>
 rw [hr] at ho
 dsimp only at ho ⊢
 rw [List.all_eq_true] at ho ⊢
 intro q hq
 have h1 := ho q hq
 revert h1
 split
 ·exact anyS_sub hs
 ·exact fun h => h
end Go.Sx
namespace Go.Sx
open Go
noncomputable def factX (g : List SV → Mem → List Fact) (s : List SV → X SV) : List SV → X SV := fun args m => nfL nfFact (g args m) fun fs => s args { m with know := ⟨m.know.facts ++ fs, m.know.conds⟩ }
theorem factX_ok {G : Gf} {P : Program} {f : Nat} {g : List SV → Mem → List Fact} {s : List SV → X SV} (hs : SpecOk G P f s) (hg : ∀ (F : Nat → Prop) (w0 : World) (E : Env) (args : List SV) (m : Mem) (w : World), E.f = G → MemOk F w0 E m w → ∀ y ∈ g args m, FactOk E y) : SpecOk G P f (factX g s) := by
 intro F w0 E args m outs w hgf ho hm
 unfold factX at ho
 rw [nfL_eq (fun _ _ => nfFact_eq _ _)] at ho
 refine hs F w0 E args { m with know := ⟨m.know.facts ++ g args m, m.know.conds⟩ } outs w hgf ho ⟨⟨hm.know.env, fun f hf => ?_, hm.know.conds⟩, hm.size, hm.ents, hm.apart, hm.mine, hm.ext, hm.seg0⟩
 rcases List.mem_append.1 hf with hf | hf
 ·exact hm.know.facts f hf
 ·exact hg F w0 E args m w hgf hm f hf
noncomputable def waysN (s : Int → X SV) (e : IE) : Nat → Int → X SV
 | 0, z => nfZ z s
 | n + 1, z => X.bind (withKnow fun kn => branch (mkEq kn e (.lit z))) fun b => if b then nfZ z s else nfZ (z + 1) fun z => waysN s e n z
noncomputable def waysX (num : List SV → Mem → Option (IE × Nat × Int)) (s : Int → List SV → X SV) : List SV → X SV := fun args m => match num args m with
 | some (e, _, _) => nfZ (rng m.know.facts e).1 fun lo => nfZ (rng m.know.facts e).2 fun hi => cond (decide (hi ≤ lo + 20)) (nfN (hi - lo).toNat fun n => waysN (fun z => s z args) e n lo m) none
 | none => none
theorem waysX_ok {G : Gf} {P : Program} {f : Nat} {num : List SV → Mem → Option (IE × Nat × Int)} {s : Int → List SV → X SV}
  (hs : ∀ (args : List SV) (e : IE) (n : Nat) (z0 z : Int) (F : Nat → Prop) (w0 : World) (E : Env) (m0 m : Mem) (outs : List (SV × Mem)) (w : World), E.f = G → num args m0 = some (e, n, z0) → MemOk F w0 E m0 w → s z args m = some outs → MemOk F w0 E m w → ev E e = z → Calls P f (args.map (dv E)).toArray w fun e w' => ∃ p ∈ outs, ∃ E', Later m.nv p.2.nv E E' ∧ e = .returned (dv E' p.1) ∧ MemOk F w0 E' p.2 w') :
  SpecOk G P f (waysX num s) := by
 intro F w0 E args m outs w hgf ho hm
 unfold waysX at ho
 split at ho
 case h_2 => cases ho
 rename_i e n z hn
 rw [nfZ_eq, nfZ_eq] at ho
 have hr := rng_ok hm.know.env hm.know.facts e
 cases hc : decide ((rng m.know.facts e).2 ≤ (rng m.know.facts e).1 + 20) with
 | false => rw [hc] at ho; cases ho
 | true =>
 rw [hc] at ho
 dsimp only [cond] at ho
 rw [nfN_eq] at ho
 have key : ∀ (n' : Nat) (z' : Int) (m' : Mem) (outs : List (SV × Mem)), z' ≤ ev E e → ev E e ≤ z' + n' → waysN (fun z => s z args) e n' z' m' = some outs → MemOk F w0 E m' w →
   Calls P f (args.map (dv E)).toArray w fun e w' => ∃ p ∈ outs, ∃ E', Later m'.nv p.2.nv E E' ∧ e = .returned (dv E' p.1) ∧ MemOk F w0 E' p.2 w' := by
  intro n'
  induction n' with
  | zero =>
   intro z m' outs h1 h2 ho hm'
   unfold waysN at ho
   rw [nfZ_eq] at ho
   exact hs args e n _ z F w0 E m m' outs w hgf hn hm ho hm' (by omega)
  | succ n' ih =>
   intro z m' outs h1 h2 ho hm'
   unfold waysN X.bind at ho
   split at ho
   ·cases ho
   rename_i l hl
   have hb := GX.withKnow (F := F) (w0 := w0) (E := E) (m := m') (w := w) (f := fun kn => branch (mkEq kn e (.lit z))) (Q := fun b w' => w' = w ∧ b = evB E (mkEq m'.know e (.lit z))) (fun _ => branch_ok _ m' w)
   obtain ⟨p, hp, w', hm2, hnv, hw, hpb⟩ := hb l hl hm'
   subst hw
   obtain ⟨l', e', hsub⟩ := gather_mem ho p hp
   rw [mkEq_ok hm'.know] at hpb
   have hpb : p.1 = decide (ev E e = z) := hpb
   have fin : Calls P f (args.map (dv E)).toArray w' (fun e w' => ∃ q ∈ l', ∃ E', Later p.2.nv q.2.nv E E' ∧ e = .returned (dv E' q.1) ∧ MemOk F w0 E' q.2 w') → Calls P f (args.map (dv E)).toArray w' (fun e w' => ∃ q ∈ outs, ∃ E', Later m'.nv q.2.nv E E' ∧ e = .returned (dv E' q.1) ∧ MemOk F w0 E' q.2 w') := fun h => h.mono (by
    rintro e2 w2 ⟨q, hq, E', hL, h3, h4⟩
    exact ⟨q, hsub q hq, E', by rw [← hnv]; exact hL, h3, h4⟩)
   cases hcp : p.1 with
   | true =>
    rw [hcp] at e' hpb
    rw [if_pos rfl, nfZ_eq] at e'
    exact fin (hs args e n _ z F w0 E m p.2 l' w' hgf hn hm e' hm2 (of_decide_eq_true hpb.symm))
   | false =>
    rw [hcp] at e' hpb
    rw [if_neg Bool.false_ne_true, nfZ_eq] at e'
    have hne : ev E e ≠ z := of_decide_eq_false hpb.symm
    exact fin (ih (z + 1) p.2 l' (by omega) (by omega) e' hm2)
 exact key _ _ m outs hr.1 (by omega) ho hm
noncomputable def chainI : List IE → SV → SV
 | [], r => r
 | e :: l, r => .cons (.int .i64 e) (chainI l r)
theorem chainI_dl (E : Env) : ∀ (l : List IE) (r : SV), dl E (chainI l r) = l.map (fun e => Value.int .i64 (ev E e)) ++ dl E r
 | [], _ => rfl
 | e :: l, r => by
  show [Value.int .i64 (ev E e)] ++ dl E (chainI l r) = _
  rw [chainI_dl E l r]
  rfl
noncomputable def tailI (c : Nat) (n : Int) : SV := .cons (.arr .i64 0 (.add (.var c) (.lit (-n))) .nil) .nil
theorem tailI_dl {E : Env} {c : Nat} {n : Int} {cap : Nat} (hc : E.i c = cap) (h0 : 0 ≤ n) (hn : n ≤ cap) : dl E (tailI c n) = List.replicate (cap - n.toNat) (Value.int .i64 0) := by
 show arrCells E .i64 0 (ev E (.add (.var c) (.lit (-n)))).toNat .nil ++ [] = _
 rw [List.append_nil]
 have e1 : (ev E (.add (.var c) (.lit (-n)))).toNat = cap - n.toNat := by
  show (E.i c + -n).toNat = _
  omega
 rw [e1]
 refine List.ext_getElem? fun j => ?_
 unfold arrCells
 rw [List.getElem?_map, List.getElem?_replicate]
 by_cases hj : j < cap - n.toNat
 ·rw [List.getElem?_range hj, if_pos hj]
  show some (Value.int .i64 ((E.row 0).getD j 0)) = _
  rfl
 ·rw [List.getElem?_eq_none (by simpa using hj), if_neg hj]
  rfl
noncomputable def blkCX (t : Nat) (val : SV → SV) (form : List SV → Mem → Option (List IE × Int)) : List SV → X SV := fun args m => match form args m with
 | some (es, z) => cond (m.nm m.nv && es.all (IE.nm m.nv) && zEq z es.length) (nfN (m.nv + 1) fun sg => nfN (m.nv + 2) fun c => nfN (m.nv + 3) fun nv => nfS (val (.sli m.nv 0 (.lit 0) (.lit z) (.var c))) fun v => nfS (chainI es (tailI c z)) fun ch => nfI (.add (.var c) (.lit (-z))) fun rest =>
   some [(v, { m with know := ⟨(.var c, z, hi64) :: (rest, 0, hi64) :: m.know.facts, m.know.conds⟩, heap := ⟨m.nv, 0, false, t, .lit 0, ch⟩ :: m.heap, seg := sg, next := 0, nv := nv })]) none
 | none => none
theorem blkCX_ok {P : Program} {f t : Nat} {val : SV → SV} {vals : Value → Value} (hval : ∀ (E : Env) (s k : Nat) (o l c : IE), dv E (val (.sli s k o l c)) = vals (dv E (.sli s k o l c))) {form : List SV → Mem → Option (List IE × Int)}
  {F : Nat → Prop} {w0 : World} {E : Env} {args : List SV} {m : Mem} {outs : List (SV × Mem)} {w : World} (ho : blkCX t val form args m = some outs) (hm : MemOk F w0 E m w)
  (h : ∀ (es : List IE) (z : Int), form args m = some (es, z) → Calls P f (args.map (dv E)).toArray w fun e w' => Ext (fun _ => False) w w' ∧ ∃ bl cap : Nat, w.heap.size ≤ bl ∧ bl < w'.heap.size ∧ es.length ≤ cap ∧ (cap : Int) ≤ hi64 ∧ w'.heap[bl]? = some (.cells (es.map (fun e => Value.int .i64 (ev E e)) ++ List.replicate (cap - es.length) (Value.int .i64 0)).toArray t (0, 0)) ∧ e = .returned (vals (.slice (some ⟨bl, 0, none⟩) es.length cap))) :
  Calls P f (args.map (dv E)).toArray w fun e w' => ∃ p ∈ outs, ∃ E', Later m.nv p.2.nv E E' ∧ e = .returned (dv E' p.1) ∧ MemOk F w0 E' p.2 w' := by
 unfold blkCX at ho
 split at ho
 case h_2 => cases ho
 rename_i es z hform
 cases hc : (m.nm m.nv && es.all (IE.nm m.nv) && zEq z es.length) with
 | false => rw [hc] at ho; cases ho
 | true =>
 rw [hc] at ho
 dsimp only [cond] at ho
 rw [nfN_eq, nfN_eq, nfN_eq, nfS_eq, nfS_eq, nfI_eq] at ho
 cases ho
 simp only [Bool.and_eq_true, List.all_eq_true] at hc
 obtain ⟨⟨c1, c2⟩, c3⟩ := hc
 have c3 := zEq_ok c3
 subst c3
 refine (h es _ hform).mono ?_
 rintro e w' ⟨hext, bl, cap, b1, b2, b4, b5, b3, rfl⟩
 let E1 : Env := { E with i := fun j => if j = m.nv + 2 then (cap : Int) else E.i j }
 have hA1 : Agree m.nv E E1 := ⟨fun k hk => (by show (if k = m.nv + 2 then (cap : Int) else E.i k) = E.i k; rw [if_neg (by omega)]), fun _ _ => rfl, fun _ _ => rfl, fun _ _ => rfl, fun _ _ => rfl, fun _ _ => rfl, rfl⟩
 let E2 := E1.two m.nv bl w'.heap.size
 have hAg : Agree m.nv E E2 := hA1.trans (two_agree E1 m.nv _ _) (Nat.le_refl _)
 have hcap : E2.i (m.nv + 2) = cap := by
  show (if m.nv + 2 = m.nv + 2 then (cap : Int) else _) = _
  rw [if_pos rfl]
 have hOk : E2.Ok := ⟨fun j => (by
  show in64 (if j = m.nv + 2 then (cap : Int) else E.i j)
  split
  ·unfold in64 lo64
   omega
  ·exact hm.know.env.i j), hm.know.env.l, hm.know.env.f⟩
 have hb2 : E2.base m.nv = bl := by simp [E2, Env.two]
 have ho2 : E2.o m.nv = 0 := by simp [E2, Env.two]
 have hm2 : MemOk F w0 E2 { m with seg := m.nv + 1, next := 0, nv := m.nv + 3 } w' := by
  refine hm.moved c1 hAg hOk hext ?_ ?_
  ·simp [E2, Env.two]
  ·simp [E2, Env.two]
 have hcells : dl E2 (chainI es (tailI (m.nv + 2) es.length)) = es.map (fun e => Value.int .i64 (ev E e)) ++ List.replicate (cap - es.length) (Value.int .i64 0) := by
  rw [chainI_dl, tailI_dl hcap (by omega) (by omega), Int.toNat_natCast]
  congr 1
  exact List.map_congr_left fun e he => by rw [ev_agree hAg (c2 e he)]
 refine ⟨_, List.mem_singleton_self _, E2, ⟨hAg, by show m.nv ≤ m.nv + 3; omega, fun h => by have : m.nv + 3 = m.nv := h; omega⟩, ?_, ⟨hm2.know.env, fun y hy => ?_, hm2.know.conds⟩, hm2.size, ?_, ?_, ?_, hm2.ext, hm2.seg0⟩
 ·rw [hval]
  have : dv E2 (.sli m.nv 0 (.lit 0) (.lit (es.length : Int)) (.var (m.nv + 2))) = .slice (some ⟨bl, 0, none⟩) es.length cap := by
   show Value.slice (some ⟨E2.base m.nv + 0, E2.o m.nv + (0 : Int).toNat, none⟩) ((es.length : Int)).toNat (E2.i (m.nv + 2)).toNat = _
   rw [hb2, ho2, hcap]
   rfl
  rw [this]
 ·rcases List.mem_cons.1 hy with rfl | hy
  ·show (es.length : Int) ≤ E2.i (m.nv + 2) ∧ E2.i (m.nv + 2) ≤ hi64
   rw [hcap]
   omega
  rcases List.mem_cons.1 hy with rfl | hy
  ·show (0 : Int) ≤ E2.i (m.nv + 2) + -(es.length : Int) ∧ E2.i (m.nv + 2) + -(es.length : Int) ≤ hi64
   rw [hcap]
   omega
  ·exact hm2.know.facts y hy
 ·intro y hy
  rcases List.mem_cons.1 hy with rfl | hy
  ·refine ⟨?_, fun h => (by cases h), fun _ => ⟨⟨ho2, rfl⟩, ?_⟩, fun h => (by cases h)⟩
   ·simp only [Ent.blk, hb2, Nat.add_zero]; exact b2
   ·simp only [Ent.blk, hb2, Nat.add_zero]
    rw [b3, hcells]
  ·exact hm2.ents y hy
 ·refine List.Pairwise.cons ?_ hm2.apart
  intro y hy _
  have h1' : y.blk E2 < w.heap.size := by
   have h3 := (hm.ents y hy).lt
   have hn2 := c1
   simp only [Mem.nm, Bool.and_eq_true, List.all_eq_true] at hn2
   have h4 := hn2.1.1 y hy
   simp only [Ent.nm, Bool.and_eq_true, decide_eq_true_eq] at h4
   have : y.blk E2 = y.blk E := by simp only [Ent.blk, hAg.base _ h4.1.1]
   rw [this]; exact h3
  simp only [Ent.blk, hb2, Nat.add_zero] at *
  omega
 ·intro y hy hr
  rcases List.mem_cons.1 hy with rfl | hy
  ·left
   simp only [Ent.blk, hb2, Nat.add_zero] at *
   have := hm.ext.size
   omega
  ·exact hm2.mine y hy hr
theorem pureX_use {G : Gf} {P : Program} {f : Nat} {form : List SV → Mem → Option (SV × List Fact)} {F : Nat → Prop} {w0 : World} {E : Env} {args : List SV} {m : Mem} {outs : List (SV × Mem)} {w : World} (_hgf : E.f = G) (ho : pureX form args m = some outs) (hm : MemOk F w0 E m w)
  (h : ∀ (v : SV) (fs : List Fact), form args m = some (v, fs) → (Calls P f (args.map (dv E)).toArray w fun e w' => Ext (fun _ => False) w w' ∧ e = .returned (dv E v)) ∧ ∀ y ∈ fs, FactOk E y) :
  Calls P f (args.map (dv E)).toArray w fun e w' => ∃ p ∈ outs, ∃ E', Later m.nv p.2.nv E E' ∧ e = .returned (dv E' p.1) ∧ MemOk F w0 E' p.2 w' := by
 unfold pureX at ho
 split at ho
 case h_2 => cases ho
 rename_i v fs hform
 cases hc : (m.nm m.nv && v.nm m.nv && fs.all fun f => f.1.nm m.nv) with
 | false => rw [hc] at ho; cases ho
 | true =>
 rw [hc] at ho
 dsimp only [cond] at ho
 rw [nfS_eq, nfL_eq (fun _ _ => nfFact_eq _ _), nfN_eq, nfN_eq] at ho
 cases ho
 simp only [Bool.and_eq_true, List.all_eq_true] at hc
 obtain ⟨⟨c1, c2⟩, c3⟩ := hc
 obtain ⟨hcall, hfs⟩ := h v fs hform
 refine hcall.mono ?_
 rintro e w' ⟨hext, rfl⟩
 let E2 := E.two m.nv 0 w'.heap.size
 have hAg : Agree m.nv E E2 := two_agree E m.nv _ _
 have hm2 : MemOk F w0 E2 { m with seg := m.nv + 1, next := 0, nv := m.nv + 2 } w' := by
  refine hm.moved c1 hAg ⟨hm.know.env.i, hm.know.env.l, hm.know.env.f⟩ hext ?_ ?_
  ·simp [E2, Env.two]
  ·simp [E2, Env.two]
 refine ⟨_, List.mem_singleton_self _, E2, ⟨hAg, by show m.nv ≤ m.nv + 2; omega, fun h => by have : m.nv + 2 = m.nv := h; omega⟩, ?_, ⟨hm2.know.env, fun y hy => ?_, hm2.know.conds⟩, hm2.size, hm2.ents, hm2.apart, hm2.mine, hm2.ext, hm2.seg0⟩
 ·rw [dv_agree hAg c2]
 ·rcases List.mem_append.1 hy with hy | hy
  ·have := hfs y hy
   unfold FactOk at this ⊢
   rw [ev_agree hAg (c3 y hy)]
   exact this
  ·exact hm2.know.facts y hy
end Go.Sx
namespace Go.Sx
open Go
noncomputable def absC (kn : Know) (k : IntKind) (r : Nat) : SV → IE → SV
 | .cons (.int k' x) rest, n => cond (Nat.beq (kindNo k') (kindNo k) && (decide (0 ≤ (rng kn.facts n).1) && (sameI x (.sel r n) || factIn kn (mkSub x (.sel r n)) 0 0))) (absC kn k r rest (mkAdd n (.lit 1))) (.cons (.arr k r n .nil) (.cons (.int k' x) rest))
 | c, n => .cons (.arr k r n .nil) c
theorem arrCells_succ (E : Env) (k : IntKind) (r n : Nat) : arrCells E k r (n + 1) .nil = arrCells E k r n .nil ++ [.int k ((E.row r).getD n 0)] := by
 unfold arrCells
 rw [List.range_succ, List.map_append]
 rfl
theorem absC_ok {E : Env} {kn : Know} (hk : KnowOk E kn) (k : IntKind) (r : Nat) : ∀ (c : SV) (n : IE), dl E (absC kn k r c n) = arrCells E k r (ev E n).toNat .nil ++ dl E c := by
 intro c
 induction c with
 | cons a rest _ ih =>
  intro n
  cases a with
  | int k' x =>
   unfold absC
   cases hc : (Nat.beq (kindNo k') (kindNo k) && (decide (0 ≤ (rng kn.facts n).1) && (sameI x (.sel r n) || factIn kn (mkSub x (.sel r n)) 0 0))) with
   | false => rfl
   | true =>
    simp only [Bool.and_eq_true, Bool.or_eq_true, decide_eq_true_eq] at hc
    obtain ⟨h1, h2, h3⟩ := hc
    have h1 := kindNo_eq h1
    have hr := rng_ok hk.env hk.facts n
    have hx : ev E x = (E.row r).getD (ev E n).toNat 0 := by
     rw [← ev_sel]
     rcases h3 with h3 | h3
     ·exact sameI_ok h3
     ·have := factIn_ok hk h3
      rw [mkSub_ok] at this
      omega
    dsimp only [cond]
    rw [ih, mkAdd_ok, ev_lit, show (ev E n + 1).toNat = (ev E n).toNat + 1 by omega, arrCells_succ, List.append_assoc]
    subst h1
    show _ ++ ([Value.int k' _] ++ dl E rest) = _ ++ ([Value.int k' (ev E x)] ++ dl E rest)
    rw [hx]
  | _ => intros; rfl
 | _ => intros; rfl
noncomputable def absB (kn : Know) (rs : List Nat) (c : SV) : SV := match c with
 | .cons (.arr k r n .nil) rest => absC kn k r rest n
 | .cons (.int k x) rest => match rs.find? (fun r => sameI x (.sel r (.lit 0)) || factIn kn (mkSub x (.sel r (.lit 0))) 0 0) with
  | some r => absC kn k r (.cons (.int k x) rest) (.lit 0)
  | none => c
 | c => c
theorem absB_ok {E : Env} {kn : Know} (hk : KnowOk E kn) (rs : List Nat) (c : SV) : dl E (absB kn rs c) = dl E c := by
 unfold absB
 split
 ·rw [absC_ok hk]; rfl
 ·split
  ·rw [absC_ok hk]; rfl
  ·rfl
 ·rfl
noncomputable def absE (kn : Know) (rs : List Nat) (e : Ent) : Ent := cond e.ro e { e with c := absB kn rs e.c }
theorem absE_same {E : Env} {kn : Know} (hk : KnowOk E kn) (rs : List Nat) (e : Ent) : SameE E e (absE kn rs e) := by
 obtain ⟨s, k, ro, t, b, c⟩ := e
 cases ro with
 | true => exact .inl rfl
 | false => exact .inr ⟨rfl, rfl, absB_ok hk rs c⟩
theorem two_abs {E : Env} {kn : Know} (hk : KnowOk E kn) (rs : List Nat) : ∀ l : List Ent, Two (SameE E) l (l.map (absE kn rs))
 | [] => .nil
 | e :: l => .cons (absE_same hk rs e) (two_abs hk rs l)
theorem mem_same {F : Nat → Prop} {w0 w : World} {E : Env} {m : Mem} (hm : MemOk F w0 E m w) {h : List Ent} (hall : Two (SameE E) m.heap h) : MemOk F w0 E { m with heap := h } w := by
 refine ⟨hm.know, hm.size, fun e' he' => ?_, forall2_pairwise hall hm.apart, fun e' he' hr' => ?_, hm.ext, hm.seg0⟩
 ·obtain ⟨e, he, hr⟩ := forall2_mem hall he'
  have ok := hm.ents e he
  rcases hr with rfl | ⟨hro, heq, hdl⟩
  ·exact ok
  ·rw [heq]
   refine ⟨ok.lt, fun h => ?_, fun _ => ?_, fun h => ?_⟩
   ·exact absurd (show e.ro = true from h) (by rw [hro]; exact Bool.false_ne_true)
   ·obtain ⟨o1, o2⟩ := ok.own hro
    refine ⟨o1, ?_⟩
    show w.heap[e.blk E]? = some (.cells (dl E e'.c).toArray e.t (0, 0))
    rw [hdl]
    exact o2
   ·exact absurd (show e.ro = true from h) (by rw [hro]; exact Bool.false_ne_true)
 ·obtain ⟨e, he, hr⟩ := forall2_mem hall he'
  rcases hr with rfl | ⟨hro, heq, _⟩
  ·exact hm.mine _ he hr'
  ·rw [heq]
   exact hm.mine e he hro
noncomputable def rowsB {P : Program} (T : Tab P) (cx : CX) (bx : BX) (jm : Option Nat) (fuel : Nat) (rs : List Nat) (c : Code) : Fr → X (SX × Fr) := fun tm m => match runC T cx bx jm fuel c tm m with
 | some outs => some (outs.map fun q => nfFM (q.1.2, { q.2 with heap := q.2.heap.map (absE q.2.know rs) }) fun p => ((q.1.1, p.1), p.2))
 | none => none
theorem rowsB_ok {G : Gf} {P : Program} {T : Tab P} {cx : CX} (hcx : CallsOk G P cx) {bx : BX} {jm : Option Nat} (fuel : Nat) (rs : List Nat) {c : Code} (hb : BlocksOk G P bx c) : CodeOk G P c (rowsB T cx bx jm fuel rs c) := by
 intro F w0 E tm a m w outs' hgf ho hm ha
 unfold rowsB at ho
 split at ho
 case h_2 => cases ho
 rename_i outs hr
 cases ho
 refine wp_mono ((runC_ok hcx fuel).1 c hb F w0 E tm a m w outs hgf hr hm ha) ?_
 rintro e a' w' ⟨q, hq, E', hL, he, hf, hm'⟩
 refine ⟨_, List.mem_map.2 ⟨q, hq, rfl⟩, E', ?_⟩
 rw [nfFM_eq]
 exact ⟨hL, he, hf, mem_same hm' (two_abs hm'.know rs _)⟩
end Go.Sx
namespace Go.Sx
open Go
noncomputable def shS (N : Nat) : SV → SV
 | .opq j => .opq (N + j)
 | .int k e => .int k (shI N e)
 | .bool b => .bool (shB N b)
 | .ptr s k o => .ptr (N + s) k (shI N o)
 | .sli s k o l c => .sli (N + s) k (shI N o) (shI N l) (shI N c)
 | .fn f c => .fn f (shS N c)
 | .ifc t v => .ifc t (shS N v)
 | .agg c => .agg (shS N c)
 | .tup c => .tup (shS N c)
 | .cons a b => .cons (shS N a) (shS N b)
 | .arr k r n ws => .arr k r (shI N n) (shS N ws)
 | .wr i x ws => .wr (shI N i) (shI N x) (shS N ws)
 | .rep c n => .rep (shS N c) (shI N n)
 | .undef => .undef
 | .nilp => .nilp
 | .nils => .nils
 | .nilf => .nilf
 | .nili => .nili
 | .nil => .nil
noncomputable def okSh : SV → Bool
 | .int _ e => noSel e
 | .bool b => noSelB b
 | .ptr _ _ o => noSel o
 | .sli _ _ o l c => noSel o && (noSel l && noSel c)
 | .fn _ c | .ifc _ c | .agg c | .tup c => okSh c
 | .cons a b => okSh a && okSh b
 | .arr _ r n ws => (Nat.beq r 0 || Nat.ble 1000000 r) && (noSel n && okSh ws)
 | .wr i x ws => noSel i && (noSel x && okSh ws)
 | .rep c n => okSh c && noSel n
 | _ => true
structure MovedS (N : Nat) (Et E : Env) : Prop where
 m : Moved N Et E
 base : ∀ s, E.base (N + s) = Et.base s
 o : ∀ s, E.o (N + s) = Et.o s
 v : ∀ j, E.v (N + j) = Et.v j
theorem shW_ok {N : Nat} {Et E : Env} (h : MovedS N Et E) {r : Nat} (hr : fixR r) : ∀ ws : SV, okSh ws = true → ∀ j, wsVal E r (shS N ws) j = wsVal Et r ws j := by
 have hrow : E.row r = Et.row r := Env.row_fix h.m.f hr
 intro ws
 induction ws with
 | wr i x ws ih =>
  intro ho j
  simp only [okSh, Bool.and_eq_true] at ho
  simp only [shS, wsVal, shI_ev h.m ho.1, shI_ev h.m ho.2.1, ih ho.2.2]
 | _ => intro _ j; simp only [shS, wsVal, hrow]
theorem shS_ok {N : Nat} {Et E : Env} (h : MovedS N Et E) : ∀ v : SV, okSh v = true → dl E (shS N v) = dl Et v := by
 intro v
 induction v with
 | opq j => intro _; simp only [shS, dl, h.v]
 | int k e => intro ho; simp only [okSh] at ho; simp only [shS, dl, shI_ev h.m ho]
 | bool b => intro ho; simp only [okSh] at ho; simp only [shS, dl, shB_ev h.m b ho]
 | ptr s k o => intro ho; simp only [okSh] at ho; simp only [shS, dl, addrOf, h.base, h.o, shI_ev h.m ho]
 | sli s k o l c => intro ho; simp only [okSh, Bool.and_eq_true] at ho; simp only [shS, dl, addrOf, h.base, h.o, shI_ev h.m ho.1, shI_ev h.m ho.2.1, shI_ev h.m ho.2.2]
 | fn f c ih => intro ho; simp only [okSh] at ho; simp only [shS, dl, ih ho]
 | ifc t c ih => intro ho; simp only [okSh] at ho; simp only [shS, dl, ih ho]
 | agg c ih => intro ho; simp only [okSh] at ho; simp only [shS, dl, ih ho]
 | tup c ih => intro ho; simp only [okSh] at ho; simp only [shS, dl, ih ho]
 | cons a b iha ihb => intro ho; simp only [okSh, Bool.and_eq_true] at ho; simp only [shS, dl, iha ho.1, ihb ho.2]
 | arr k r n ws _ =>
  intro ho
  simp only [okSh, Bool.and_eq_true, Bool.or_eq_true] at ho
  have hr : fixR r := ho.1.imp Nat.eq_of_beq_eq_true Nat.le_of_ble_eq_true
  simp only [shS, dl, shI_ev h.m ho.2.1]
  unfold arrCells
  exact List.map_congr_left fun j _ => by rw [shW_ok h hr ws ho.2.2]
 | wr i x ws ih => intro ho; simp only [okSh, Bool.and_eq_true] at ho; simp only [shS, dl, ih ho.2.2]
 | rep c n ih => intro ho; simp only [okSh, Bool.and_eq_true] at ho; simp only [shS, dl, ih ho.1, shI_ev h.m ho.2]
 | _ => intro _; rfl
noncomputable def shE (N : Nat) (e : Ent) : Ent := ⟨N + e.s, e.k, e.ro, e.t, .lit 0, shS N e.c⟩
noncomputable def ownE (m : Mem) : List Ent := m.heap.filter fun e => !e.ro
noncomputable def layable (q : SV × Mem) : Bool := Nat.blt 0 q.2.nv && (okSh q.1 && (q.2.know.facts.all (fun f => noSel f.1) && (q.2.know.conds.all noSelB && (ownE q.2).all fun e => okSh e.c)))
noncomputable def laid (m : Mem) (q : SV × Mem) : SV × Mem :=
 (shS m.nv q.1, { know := ⟨m.know.facts ++ q.2.know.facts.map (fun f => (shI m.nv f.1, f.2)), m.know.conds ++ q.2.know.conds.map (shB m.nv)⟩, heap := (ownE q.2).map (shE m.nv) ++ m.heap, seg := m.nv + q.2.seg, next := q.2.next, nv := m.nv + q.2.nv })
noncomputable def nfFact2 {α : Type} (f : Fact) (k : Fact → α) : α := nfFact f k
noncomputable def besideX (form : List SV → Mem → Bool) (outs : List (SV × Mem)) : List SV → X SV := fun args m =>
 cond (form args m && (m.nm m.nv && outs.all layable)) (nfL (fun q k => nfS q.1 fun v => nfFM (Fr.ofL [], q.2) fun p => k (v, p.2)) (outs.map (laid m)) fun l => some l) none
noncomputable def overE (N : Nat) (E Et : Env) : Env := { E with i := fun j => if j < N then E.i j else Et.i (j - N), b := fun j => if j < N then E.b j else Et.b (j - N), base := fun s => if s < N then E.base s else Et.base (s - N), o := fun s => if s < N then E.o s else Et.o (s - N), v := fun j => if j < N then E.v j else Et.v (j - N) }
theorem overE_agree (N : Nat) (E Et : Env) : Agree N E (overE N E Et) :=
 ⟨fun k hk => (by show (if k < N then E.i k else _) = _; rw [if_pos hk]), fun k hk => (by show (if k < N then E.b k else _) = _; rw [if_pos hk]), fun _ _ => rfl, fun k hk => (by show (if k < N then E.base k else _) = _; rw [if_pos hk]), fun k hk => (by show (if k < N then E.o k else _) = _; rw [if_pos hk]), fun k hk => (by show (if k < N then E.v k else _) = _; rw [if_pos hk]), rfl⟩
theorem overE_moved {N : Nat} {E Et : Env} (hf : E.f = Et.f) : MovedS N Et (overE N E Et) := by
 refine ⟨⟨fun j => ?_, fun j => ?_, hf⟩, fun j => ?_, fun j => ?_, fun j => ?_⟩
 ·show (if N + j < N then _ else Et.i (N + j - N)) = _; rw [if_neg (by omega), Nat.add_sub_cancel_left]
 ·show (if N + j < N then _ else Et.b (N + j - N)) = _; rw [if_neg (by omega), Nat.add_sub_cancel_left]
 ·show (if N + j < N then _ else Et.base (N + j - N)) = _; rw [if_neg (by omega), Nat.add_sub_cancel_left]
 ·show (if N + j < N then _ else Et.o (N + j - N)) = _; rw [if_neg (by omega), Nat.add_sub_cancel_left]
 ·show (if N + j < N then _ else Et.v (N + j - N)) = _; rw [if_neg (by omega), Nat.add_sub_cancel_left]
theorem laid_ok {F : Nat → Prop} {w0 w w' : World} {E Et : Env} {m : Mem} {q : SV × Mem} (hm : MemOk F w0 E m w) (hn : m.nm m.nv = true) (hq : layable q = true) (hf : E.f = Et.f) (h2 : MemOk (fun _ => False) w Et q.2 w') :
  Agree m.nv E (overE m.nv E Et) ∧ dv (overE m.nv E Et) (laid m q).1 = dv Et q.1 ∧ MemOk F w0 (overE m.nv E Et) (laid m q).2 w' := by
 simp only [layable, Bool.and_eq_true, List.all_eq_true] at hq
 obtain ⟨_, q1, q2, q3, q4⟩ := hq
 have hA := overE_agree m.nv E Et
 have hM : MovedS m.nv Et (overE m.nv E Et) := overE_moved hf
 have hOk : (overE m.nv E Et).Ok := ⟨fun j => (by
  show in64 (if j < m.nv then E.i j else Et.i (j - m.nv))
  split
  ·exact hm.know.env.i j
  ·exact h2.know.env.i _), hm.know.env.l, hm.know.env.f⟩
 refine ⟨hA, by unfold dv; show (dl _ (shS m.nv q.1)).headD _ = _; rw [shS_ok hM q.1 q1], ?_⟩
 have hm2 : MemOk F w0 (overE m.nv E Et) { m with seg := m.nv + q.2.seg, next := q.2.next, nv := m.nv + q.2.nv } w' := hm.moved hn hA hOk h2.ext (by rw [hM.base]; exact h2.size) (by rw [hM.o]; exact h2.seg0)
 have blk : ∀ e : Ent, (shE m.nv e).blk (overE m.nv E Et) = e.blk Et := fun e => by
  show (overE m.nv E Et).base (m.nv + e.s) + e.k = Et.base e.s + e.k
  rw [hM.base]
 have own : ∀ e' ∈ (ownE q.2).map (shE m.nv), EntOk (overE m.nv E Et) w' e' ∧ e'.ro = false ∧ w.heap.size ≤ e'.blk (overE m.nv E Et) := fun e' he' => by
  obtain ⟨e, he, rfl⟩ := List.mem_map.1 he'
  obtain ⟨he, hr⟩ := List.mem_filter.1 he
  have hr : e.ro = false := by simpa using hr
  have ok := h2.ents e he
  have hc : dl (overE m.nv E Et) (shE m.nv e).c = dl Et e.c := shS_ok hM e.c (q4 e (List.mem_filter.2 ⟨he, by rw [hr]; rfl⟩))
  refine ⟨⟨by rw [blk]; exact ok.lt, fun h => ?_, fun _ => ?_, fun h => ?_⟩, hr, ?_⟩
  ·exact absurd (show e.ro = true from h) (by rw [hr]; exact Bool.false_ne_true)
  ·obtain ⟨⟨o1, _⟩, o2⟩ := ok.own hr
   refine ⟨⟨by show (overE m.nv E Et).o (m.nv + e.s) = 0; rw [hM.o]; exact o1, rfl⟩, ?_⟩
   rw [blk, hc]
   exact o2
  ·exact absurd (show e.ro = true from h) (by rw [hr]; exact Bool.false_ne_true)
  ·rw [blk]
   exact (h2.mine e he hr).elim id fun h => h.elim
 have hm3 := hm2.moreE (l := (ownE q.2).map (shE m.nv)) (fun e' he' => by
  obtain ⟨a, b, c⟩ := own e' he'
  refine ⟨a, b, .inl (Nat.le_trans hm.ext.size c), fun y hy => ?_⟩
  have h3 := (hm.ents y hy).lt
  have h4 : y.blk (overE m.nv E Et) = y.blk E := by
   have hn2 := hn
   simp only [Mem.nm, Bool.and_eq_true, List.all_eq_true] at hn2
   have h5 := hn2.1.1 y hy
   simp only [Ent.nm, Bool.and_eq_true, decide_eq_true_eq] at h5
   simp only [Ent.blk, hA.base _ h5.1.1]
  rw [h4]
  omega) (by
  have hp : (ownE q.2).Pairwise fun x y => x.blk Et ≠ y.blk Et := by
   have hs : (ownE q.2).Sublist q.2.heap := List.filter_sublist
   refine (h2.apart.sublist hs).imp_of_mem fun {x y} hx _ hxy => hxy fun h => ?_
   have := (List.mem_filter.1 hx).2
   rw [h.1] at this
   cases this
  rw [List.pairwise_map]
  exact hp.imp fun {x y} h => by rw [blk, blk]; exact h)
 refine ⟨⟨hOk, fun f hf' => ?_, fun c hc => ?_⟩, hm3.size, hm3.ents, hm3.apart, hm3.mine, hm3.ext, hm3.seg0⟩
 ·rcases List.mem_append.1 hf' with hf' | hf'
  ·exact hm2.know.facts f hf'
  ·obtain ⟨f0, hf0, rfl⟩ := List.mem_map.1 hf'
   have := h2.know.facts f0 hf0
   unfold FactOk at this ⊢
   dsimp only
   rw [shI_ev hM.m (q2 f0 hf0)]
   exact this
 ·rcases List.mem_append.1 hc with hc | hc
  ·exact hm2.know.conds c hc
  ·obtain ⟨c0, hc0, rfl⟩ := List.mem_map.1 hc
   rw [shB_ev hM.m c0 (q3 c0 hc0)]
   exact h2.know.conds c0 hc0
theorem besideX_ok {G : Gf} {P : Program} {f : Nat} {form : List SV → Mem → Bool} {outs : List (SV × Mem)}
  (h : ∀ (F : Nat → Prop) (w0 : World) (E : Env) (args : List SV) (m : Mem) (w : World), E.f = G → MemOk F w0 E m w → form args m = true →
   Calls P f (args.map (dv E)).toArray w fun e w' => ∃ q ∈ outs, ∃ Et : Env, Et.f = G ∧ e = .returned (dv Et q.1) ∧ MemOk (fun _ => False) w Et q.2 w') : SpecOk G P f (besideX form outs) := by
 intro F w0 E args m outs' w hgf ho hm
 unfold besideX at ho
 cases hc : (form args m && (m.nm m.nv && outs.all layable)) with
 | false => rw [hc] at ho; cases ho
 | true =>
 rw [hc] at ho
 dsimp only [cond] at ho
 rw [nfL_eq (fun q k => by rw [nfS_eq, nfFM_eq])] at ho
 cases ho
 simp only [Bool.and_eq_true, List.all_eq_true] at hc
 obtain ⟨c1, c2, c3⟩ := hc
 refine (h F w0 E args m w hgf hm c1).mono ?_
 rintro e w' ⟨q, hq, Et, hef, rfl, h2⟩
 obtain ⟨l1, l2, l3⟩ := laid_ok hm c2 (c3 q hq) (hgf.trans hef.symm) h2
 refine ⟨laid m q, ?_, overE m.nv E Et, ⟨l1, ?_, ?_⟩, ?_, l3⟩
 ·exact List.mem_map.2 ⟨q, hq, rfl⟩
 ·show m.nv ≤ m.nv + q.2.nv
  omega
 ·intro hx
  have h3 := c3 q hq
  simp only [layable, Bool.and_eq_true] at h3
  have h4 : 0 < q.2.nv := by simpa [Nat.blt_eq] using h3.1
  have hx : m.nv + q.2.nv = m.nv := hx
  omega
 ·rw [l2]
end Go.Sx
namespace Go.Sx
open Go
noncomputable def pickC (tm : Fr) (outs : List ((SX × Fr) × Mem)) : List Nat → Nat
 | [] => 0
 | [c] => c
 | c :: r => cond (outs.all fun q => q.1.2.get c == tm.get c) (pickC tm outs r) c
noncomputable def mergeD (x : Fr → X (SX × Fr)) (ks cks : List Nat) (z : Int) (d : Nat) : Fr → X (SX × Fr) := fun tm m => match x tm m with
 | some outs => some (mergeO ks (pickC tm outs cks) (tm.get (pickC tm outs cks)) z d m outs)
 | none => none
theorem mergeD_ok {G : Gf} {P : Program} {x : Fr → X (SX × Fr)} (ks cks : List Nat) (z : Int) (d : Nat) {c : Code} (hx : CodeOk G P c x) : CodeOk G P c (mergeD x ks cks z d) := by
 intro F w0 E tm a m w outs' hgf ho hm ha
 unfold mergeD at ho
 split at ho
 case h_2 => cases ho
 rename_i outs hr
 cases ho
 generalize tm.get (pickC tm outs cks) = v0
 generalize pickC tm outs cks = ck
 refine wp_mono (hx F w0 E tm a m w outs hgf hr hm ha) ?_
 rintro e a' w' ⟨q, hq, E', hL, he, hf, hm'⟩
 unfold mergeO
 rw [nfL_eq nfFM_eq, nfL_eq nfFM_eq, nfSp_eq]
 cases hn : isNorm q.1.1 with
 | false => exact ⟨q, List.mem_append_right _ (List.mem_filter.2 ⟨hq, by rw [hn]; rfl⟩), E', hL, he, hf, hm'⟩
 | true =>
  obtain ⟨E1, l1, f1, m1⟩ := mergeW_ok (ks := ks) (ck := ck) (v0 := v0) (z := z) (d := d) (q := (q.1.2, q.2)) hL hm' hf
  have hmem : mergeW ks ck v0 z d m (q.1.2, q.2) ∈ (outs.filter fun q => isNorm q.1.1).map fun q => mergeW ks ck v0 z d m (q.1.2, q.2) := List.mem_map.2 ⟨q, List.mem_filter.2 ⟨hq, hn⟩, rfl⟩
  obtain ⟨p, hp, E2, l2, f2, m2⟩ := canonF_ok hmem l1 m1 f1
  refine ⟨((.normal, p.1), p.2), List.mem_append_left _ (List.mem_map.2 ⟨p, hp, rfl⟩), E2, l2, ?_, f2, m2⟩
  rw [he]
  cases hx : q.1.1 with
  | normal => rfl
  | exit i => rw [hx] at hn; cases hn
  | ret => rw [hx] at hn; cases hn
end Go.Sx
namespace Go.Sx
open Go
theorem headOk_sub {P : Program} {T : Tab P} {cx : CX} {bx : BX} {jm : Option Nat} {fuel id : Nat} {body : Code} {n : Nat} {hs hs' : List HeadP} {ls : List LeaveP} {h : HeadP} (hsub : ∀ x ∈ hs, x ∈ hs') (hk : headOk T cx bx jm fuel id body n hs ls h = true) : headOk T cx bx jm fuel id body n hs' ls h = true := by
 unfold headOk at hk ⊢
 split at hk
 ·cases hk
 rename_i outs hr
 rw [List.all_eq_true] at hk ⊢
 intro q hq
 have h1 := hk q hq
 revert h1
 split
 ·exact anyS_sub hsub
 ·exact fun h => h
end Go.Sx
namespace Go.Sx
open Go
noncomputable def tailW (wd c : Nat) (n : Int) : SV := .cons (.arr .i64 0 (.mul (.add (.var c) (.lit (-n))) (.lit wd)) .nil) .nil
theorem tailW_dl {E : Env} {wd c : Nat} {n : Int} {cap : Nat} (hc : E.i c = cap) (h0 : 0 ≤ n) (hn : n ≤ cap) : dl E (tailW wd c n) = List.replicate ((cap - n.toNat) * wd) (Value.int .i64 0) := by
 show arrCells E .i64 0 (ev E (.mul (.add (.var c) (.lit (-n))) (.lit wd))).toNat .nil ++ [] = _
 rw [List.append_nil]
 have e1 : (ev E (.mul (.add (.var c) (.lit (-n))) (.lit wd))).toNat = (cap - n.toNat) * wd := by
  show ((E.i c + -n) * (wd : Int)).toNat = _
  rw [hc, show ((cap : Int) + -n) = ((cap - n.toNat : Nat) : Int) by omega, ← Int.natCast_mul, Int.toNat_natCast]
 rw [e1]
 refine List.ext_getElem? fun j => ?_
 unfold arrCells
 rw [List.getElem?_map, List.getElem?_replicate]
 by_cases hj : j < (cap - n.toNat) * wd
 ·rw [List.getElem?_range hj, if_pos hj]
  show some (Value.int .i64 ((E.row 0).getD j 0)) = _
  rfl
 ·rw [List.getElem?_eq_none (by simpa using hj), if_neg hj]
  rfl
noncomputable def blkWX (wd t : Nat) (val : SV → SV) (form : List SV → Mem → Option (List IE × Int)) : List SV → X SV := fun args m => match form args m with
 | some (es, z) => cond (m.nm m.nv && es.all (IE.nm m.nv) && (Nat.blt 0 wd && (zEq z z.toNat && Nat.beq es.length (wd * z.toNat)))) (nfN (m.nv + 1) fun sg => nfN (m.nv + 2) fun c => nfN (m.nv + 3) fun nv => nfS (val (.sli m.nv 0 (.lit 0) (.lit z) (.var c))) fun v => nfS (chainI es (tailW wd c z)) fun ch => nfI (.add (.var c) (.lit (-z))) fun rest =>
   some [(v, { m with know := ⟨(.var c, z, hi64) :: (rest, 0, hi64) :: m.know.facts, m.know.conds⟩, heap := ⟨m.nv, 0, false, t, .lit 0, ch⟩ :: m.heap, seg := sg, next := 0, nv := nv })]) none
 | none => none
theorem blkWX_ok {P : Program} {f wd t : Nat} {val : SV → SV} {vals : Value → Value} {form : List SV → Mem → Option (List IE × Int)}
  {F : Nat → Prop} {w0 : World} {E : Env} {args : List SV} {m : Mem} {outs : List (SV × Mem)} {w : World} (ho : blkWX wd t val form args m = some outs) (hm : MemOk F w0 E m w)
  (hval : ∀ (E' : Env) (s k : Nat) (o l c : IE), Agree m.nv E E' → dv E' (val (.sli s k o l c)) = vals (dv E' (.sli s k o l c)))
  (h : ∀ (es : List IE) (z : Int), form args m = some (es, z) → 0 < wd → es.length = wd * z.toNat → Calls P f (args.map (dv E)).toArray w fun e w' => Ext (fun _ => False) w w' ∧ ∃ bl cap : Nat, w.heap.size ≤ bl ∧ bl < w'.heap.size ∧ z.toNat ≤ cap ∧ (cap : Int) ≤ hi64 ∧ w'.heap[bl]? = some (.cells (es.map (fun e => Value.int .i64 (ev E e)) ++ List.replicate ((cap - z.toNat) * wd) (Value.int .i64 0)).toArray t (0, 0)) ∧ e = .returned (vals (.slice (some ⟨bl, 0, none⟩) z.toNat cap))) :
  Calls P f (args.map (dv E)).toArray w fun e w' => ∃ p ∈ outs, ∃ E', Later m.nv p.2.nv E E' ∧ e = .returned (dv E' p.1) ∧ MemOk F w0 E' p.2 w' := by
 unfold blkWX at ho
 split at ho
 case h_2 => cases ho
 rename_i es z hform
 cases hc : (m.nm m.nv && es.all (IE.nm m.nv) && (Nat.blt 0 wd && (zEq z z.toNat && Nat.beq es.length (wd * z.toNat)))) with
 | false => rw [hc] at ho; cases ho
 | true =>
 rw [hc] at ho
 dsimp only [cond] at ho
 rw [nfN_eq, nfN_eq, nfN_eq, nfS_eq, nfS_eq, nfI_eq] at ho
 cases ho
 simp only [Bool.and_eq_true, List.all_eq_true] at hc
 obtain ⟨⟨c1, c2⟩, c4, c3, c5⟩ := hc
 have c3 := zEq_ok c3
 have c4 : 0 < wd := by simpa [Nat.blt_eq] using c4
 have c5 := Nat.eq_of_beq_eq_true c5
 refine (h es _ hform c4 c5).mono ?_
 rintro e w' ⟨hext, bl, cap, b1, b2, b4, b5, b3, rfl⟩
 let E1 : Env := { E with i := fun j => if j = m.nv + 2 then (cap : Int) else E.i j }
 have hA1 : Agree m.nv E E1 := ⟨fun k hk => (by show (if k = m.nv + 2 then (cap : Int) else E.i k) = E.i k; rw [if_neg (by omega)]), fun _ _ => rfl, fun _ _ => rfl, fun _ _ => rfl, fun _ _ => rfl, fun _ _ => rfl, rfl⟩
 let E2 := E1.two m.nv bl w'.heap.size
 have hAg : Agree m.nv E E2 := hA1.trans (two_agree E1 m.nv _ _) (Nat.le_refl _)
 have hcap : E2.i (m.nv + 2) = cap := by
  show (if m.nv + 2 = m.nv + 2 then (cap : Int) else _) = _
  rw [if_pos rfl]
 have hOk : E2.Ok := ⟨fun j => (by
  show in64 (if j = m.nv + 2 then (cap : Int) else E.i j)
  split
  ·unfold in64 lo64
   omega
  ·exact hm.know.env.i j), hm.know.env.l, hm.know.env.f⟩
 have hb2 : E2.base m.nv = bl := by simp [E2, Env.two]
 have ho2 : E2.o m.nv = 0 := by simp [E2, Env.two]
 have hm2 : MemOk F w0 E2 { m with seg := m.nv + 1, next := 0, nv := m.nv + 3 } w' := by
  refine hm.moved c1 hAg hOk hext ?_ ?_
  ·simp [E2, Env.two]
  ·simp [E2, Env.two]
 have hcells : dl E2 (chainI es (tailW wd (m.nv + 2) z)) = es.map (fun e => Value.int .i64 (ev E e)) ++ List.replicate ((cap - z.toNat) * wd) (Value.int .i64 0) := by
  rw [chainI_dl, tailW_dl hcap (by omega) (by omega)]
  congr 1
  exact List.map_congr_left fun e he => by rw [ev_agree hAg (c2 e he)]
 refine ⟨_, List.mem_singleton_self _, E2, ⟨hAg, by show m.nv ≤ m.nv + 3; omega, fun h => by have : m.nv + 3 = m.nv := h; omega⟩, ?_, ⟨hm2.know.env, fun y hy => ?_, hm2.know.conds⟩, hm2.size, ?_, ?_, ?_, hm2.ext, hm2.seg0⟩
 ·rw [hval _ _ _ _ _ _ hAg]
  have : dv E2 (.sli m.nv 0 (.lit 0) (.lit z) (.var (m.nv + 2))) = .slice (some ⟨bl, 0, none⟩) z.toNat cap := by
   show Value.slice (some ⟨E2.base m.nv + 0, E2.o m.nv + (0 : Int).toNat, none⟩) z.toNat (E2.i (m.nv + 2)).toNat = _
   rw [hb2, ho2, hcap]
   rfl
  rw [this]
 ·rcases List.mem_cons.1 hy with rfl | hy
  ·show z ≤ E2.i (m.nv + 2) ∧ E2.i (m.nv + 2) ≤ hi64
   rw [hcap]
   omega
  rcases List.mem_cons.1 hy with rfl | hy
  ·show (0 : Int) ≤ E2.i (m.nv + 2) + -z ∧ E2.i (m.nv + 2) + -z ≤ hi64
   rw [hcap]
   omega
  ·exact hm2.know.facts y hy
 ·intro y hy
  rcases List.mem_cons.1 hy with rfl | hy
  ·refine ⟨?_, fun h => (by cases h), fun _ => ⟨⟨ho2, rfl⟩, ?_⟩, fun h => (by cases h)⟩
   ·simp only [Ent.blk, hb2, Nat.add_zero]; exact b2
   ·simp only [Ent.blk, hb2, Nat.add_zero]
    rw [b3, hcells]
  ·exact hm2.ents y hy
 ·refine List.Pairwise.cons ?_ hm2.apart
  intro y hy _
  have h1' : y.blk E2 < w.heap.size := by
   have h3 := (hm.ents y hy).lt
   have hn2 := c1
   simp only [Mem.nm, Bool.and_eq_true, List.all_eq_true] at hn2
   have h4 := hn2.1.1 y hy
   simp only [Ent.nm, Bool.and_eq_true, decide_eq_true_eq] at h4
   have : y.blk E2 = y.blk E := by simp only [Ent.blk, hAg.base _ h4.1.1]
   rw [this]; exact h3
  simp only [Ent.blk, hb2, Nat.add_zero] at *
  omega
 ·intro y hy hr
  rcases List.mem_cons.1 hy with rfl | hy
  ·left
   simp only [Ent.blk, hb2, Nat.add_zero] at *
   have := hm.ext.size
   omega
  ·exact hm2.mine y hy hr
end Go.Sx
