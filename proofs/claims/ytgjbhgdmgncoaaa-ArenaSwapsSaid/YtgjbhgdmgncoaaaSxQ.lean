/- Contracts out of one run over a pattern: calls that make blocks. -/
import Derived.Test.YtgjbhgdmgncoaaaSxP
namespace Go.Sx
open Go

def Ent.nm (n : Nat) (e : Ent) : Bool := decide (e.s < n) && e.base.nm n && e.c.nm n
def Mem.nm (n : Nat) (m : Mem) : Bool := m.heap.all (Ent.nm n) && m.know.facts.all (fun f => f.1.nm n) && m.know.conds.all (BE.nm n)
/-- a memory whose names are all old, behind a call that left its blocks alone, under an environment that agrees on them; the next block may lie anew -/
theorem MemOk.moved {F : Nat → Prop} {w0 w w' : World} {E E' : Env} {m : Mem} {n : Nat} (hm : MemOk F w0 E m w) (hn : m.nm n = true) (hA : Agree n E E') (hE : E'.Ok) (hx : Ext (fun _ => False) w w') {sg nx nv : Nat} (hsize : w'.heap.size = E'.base sg + nx) (ho : E'.o sg = 0) :
    MemOk F w0 E' { m with seg := sg, next := nx, nv := nv } w' := by
  simp only [Mem.nm, Bool.and_eq_true, List.all_eq_true] at hn
  obtain ⟨⟨hh, hf⟩, hc⟩ := hn
  have hblk : ∀ e ∈ m.heap, e.blk E' = e.blk E := by
    intro e he
    have := hh e he
    simp only [Ent.nm, Bool.and_eq_true, decide_eq_true_eq] at this
    simp only [Ent.blk, hA.base _ this.1.1]
  have hsz := hx.size
  refine ⟨⟨hE, fun f hf' => ?_, fun c hc' => ?_⟩, hsize, fun e he => ?_, ?_, fun e he hr => ?_, ?_, ho⟩
  · have := hm.know.facts f hf'
    unfold FactOk at this ⊢
    rw [ev_agree hA (hf f hf')]; exact this
  · rw [evB_agree hA c (hc c hc')]; exact hm.know.conds c hc'
  · have ok := hm.ents e he
    have h1 := hh e he
    simp only [Ent.nm, Bool.and_eq_true, decide_eq_true_eq] at h1
    obtain ⟨⟨h1, h2⟩, h3⟩ := h1
    have hk := hx.block (e.blk E) ok.lt (fun h => h)
    refine ⟨by rw [hblk e he]; exact Nat.lt_of_lt_of_le ok.lt hsz, fun hr j v hj => ?_, fun hr => ?_⟩
    · rw [hblk e he, hA.o _ h1, ev_agree hA h2]
      have := ok.ro hr j v (by rw [← dl_agree hA e.c h3]; exact hj)
      simp only [World.cell?] at this ⊢
      rw [hk]; exact this
    · rw [hblk e he, hA.o _ h1, ev_agree hA h2, dl_agree hA e.c h3, hk]
      exact ok.own hr
  · refine hm.apart.imp_of_mem ?_
    intro x y hx hy hxy
    unfold Ent.parted at hxy ⊢
    rw [hblk x hx, hblk y hy]; exact hxy
  · rw [hblk e he]; exact hm.mine e he hr
  · refine ⟨hx.os.trans hm.ext.os, hx.tape.trans hm.ext.tape, hx.output.trans hm.ext.output, Nat.le_trans hm.ext.size hsz, fun x h1 h2 => ?_⟩
    rw [hx.block x (Nat.lt_of_lt_of_le h1 hm.ext.size) (fun h => h)]
    exact hm.ext.block x h1 h2

/-- a run over a pattern without a memory: its value, and at most one block that it hands out (its number, its type, its cells) -/
structure Make where
  args : Fr
  mem : Mem
  val : SV
  out : Option (Nat × Nat × SV)
  deriving Inhabited
/-- an environment with two names more -/
def Env.two (E : Env) (n b0 b1 : Nat) : Env := { E with base := fun k => if k = n then b0 else if k = n + 1 then b1 else E.base k, o := fun k => if k = n ∨ k = n + 1 then 0 else E.o k }
theorem two_agree (E : Env) (n b0 b1 : Nat) : Agree n E (E.two n b0 b1) := by
  refine ⟨fun _ _ => rfl, fun _ _ => rfl, fun _ _ => rfl, fun k hk => ?_, fun k hk => ?_, fun _ _ => rfl, rfl⟩
  · simp only [Env.two]; rw [if_neg (by omega), if_neg (by omega)]
  · simp only [Env.two]; rw [if_neg (by omega)]
noncomputable def makeX (p : Make) : List SV → X SV := fun args m =>
  if reroot 0 (matchAll 0 p.args p.mem args m) p.args p.mem args m && m.nm m.nv then
    match p.out with
    | none => some [(p.val, { m with seg := m.nv + 1, next := 0, nv := m.nv + 2 })]
    | some (_, t, c) => some [(.ptr m.nv 0 (.lit 0), { m with heap := ⟨m.nv, 0, false, t, .lit 0, c⟩ :: m.heap, seg := m.nv + 1, next := 0, nv := m.nv + 2 })]
  else none
def makeOk (p : Make) (outs : List (SV × Mem)) : Bool :=
  p.mem.heap.isEmpty && outs.all fun q => match p.out with
    | none => (q.1 == p.val) && p.val.nm 0
    | some (k, t, c) => (q.1 == .ptr 0 k (.lit 0)) && Nat.beq p.mem.seg 0 && c.nm 0 && q.2.heap.any fun e => Nat.beq e.s 0 && Nat.beq e.k k && !e.ro && Nat.beq e.t t && (e.c == c)
noncomputable def makeRun (s : List SV → X SV) (p : Make) : Bool :=
  match s p.args p.mem with
  | some outs => makeOk p outs
  | none => false
theorem agree0 (E E' : Env) (h : E'.f = E.f) : Agree 0 E E' :=
  ⟨fun k h => absurd h (Nat.not_lt_zero k), fun k h => absurd h (Nat.not_lt_zero k), fun k h => absurd h (Nat.not_lt_zero k), fun k h => absurd h (Nat.not_lt_zero k), fun k h => absurd h (Nat.not_lt_zero k), fun k h => absurd h (Nat.not_lt_zero k), h⟩
theorem makeX_ok {P : Program} {f : Nat} {s : List SV → X SV} (hs : SpecOk P f s) (p : Make) (h : makeRun s p = true) : SpecOk P f (makeX p) := by
  unfold makeRun at h
  split at h
  case h_2 => cases h
  rename_i outs hrun
  simp only [makeOk, Bool.and_eq_true, List.all_eq_true] at h
  obtain ⟨hemp, hall⟩ := h
  have hemp : p.mem.heap = [] := by simpa using hemp
  intro F w0 E args m outs' w ho hm
  unfold makeX at ho
  split at ho
  case isFalse => cases ho
  rename_i hre
  rw [Bool.and_eq_true] at hre
  obtain ⟨hre, hnm⟩ := hre
  generalize matchAll 0 p.args p.mem args m = σ at hre
  obtain ⟨_, hmC, haC⟩ := reroot_ok (tm := args) hre hm (a := { tmps := (args.map (dv E)).toArray, defers := [] }) ⟨rfl, rfl⟩
  have hargs : p.args.map (dv (E.by σ)) = args.map (dv E) := by
    have := haC.tmps
    dsimp only at this
    simpa using this.symm
  have hmF : MemOk (fun _ => False) w (E.by σ) p.mem w := ⟨hmC.know, hmC.size, hmC.ents, hmC.apart, fun e he => (by rw [hemp] at he; cases he), Ext.refl _ _, hmC.seg0⟩
  have := hs _ w (E.by σ) p.args p.mem outs w hrun hmF
  rw [hargs] at this
  refine this.mono ?_
  rintro e w' ⟨q, hq, E', hL, rfl, hm'⟩
  have hq1 := hall q hq
  have hE : ∀ b0, (E.two m.nv b0 w'.heap.size).Ok := fun b0 => ⟨hm.know.env.i, hm.know.env.l, hm.know.env.f⟩
  have hf : E'.f = E.f := hL.agree.f
  have hmv : ∀ b0, MemOk F w0 (E.two m.nv b0 w'.heap.size) { m with seg := m.nv + 1, next := 0, nv := m.nv + 2 } w' := by
    intro b0
    refine hm.moved hnm (two_agree E m.nv b0 w'.heap.size) (hE b0) hm'.ext ?_ ?_
    · simp [Env.two]
    · simp [Env.two]
  have hlater : ∀ b0, Later m.nv (m.nv + 2) E (E.two m.nv b0 w'.heap.size) := fun b0 => ⟨two_agree E m.nv b0 _, by omega, fun h => by omega⟩
  cases hout : p.out with
  | none =>
    rw [hout] at ho hq1
    cases ho
    simp only [Bool.and_eq_true, beq_iff_eq] at hq1
    refine ⟨_, List.mem_cons_self, E.two m.nv 0 w'.heap.size, hlater 0, ?_, hmv 0⟩
    rw [hq1.1, dv_agree (agree0 E E' hf) hq1.2, dv_agree (agree0 E (E.two m.nv 0 w'.heap.size) rfl) hq1.2]
  | some x =>
    obtain ⟨k, t, c⟩ := x
    rw [hout] at ho hq1
    cases ho
    simp only [Bool.and_eq_true, beq_iff_eq, List.any_eq_true, Bool.not_eq_true'] at hq1
    obtain ⟨⟨⟨v1, v2⟩, v3⟩, e, he, ⟨⟨⟨e1, e2⟩, e3⟩, e4⟩, e5⟩ := hq1
    have e1 := Nat.eq_of_beq_eq_true e1
    have e2 := Nat.eq_of_beq_eq_true e2
    have e4 := Nat.eq_of_beq_eq_true e4
    subst e5
    have ok := hm'.ents e he
    obtain ⟨⟨o0, _⟩, hheap⟩ := ok.own e3
    have hbe : e.blk E' = E'.base 0 + k := by simp only [Ent.blk, e1, e2]
    have hge : w.heap.size ≤ E'.base 0 + k := by
      rcases hm'.mine e he e3 with h | h
      · rw [← hbe]; exact h
      · exact h.elim
    let E2 := E.two m.nv (E'.base 0 + k) w'.heap.size
    have hm2 := hmv (E'.base 0 + k)
    have hb2 : E2.base m.nv = E'.base 0 + k := by simp [E2, Env.two]
    have ho2 : E2.o m.nv = 0 := by simp [E2, Env.two]
    have hdl : dl E2 e.c = dl E' e.c := by
      rw [dl_agree (agree0 E E2 rfl) e.c v3, dl_agree (agree0 E E' hf) e.c v3]
    refine ⟨_, List.mem_cons_self, E2, hlater _, ?_, ?_⟩
    · rw [v1]
      simp only [dv, dl, List.headD_cons, addrOf, ev_lit, hb2, ho2, Nat.add_zero]
      rw [e1] at o0
      rw [o0]
    · refine ⟨hm2.know, hm2.size, ?_, ?_, ?_, hm2.ext, hm2.seg0⟩
      · intro y hy
        rcases List.mem_cons.1 hy with rfl | hy
        · refine ⟨?_, fun h => (by cases h), fun _ => ⟨⟨ho2, rfl⟩, ?_⟩⟩
          · simp only [Ent.blk, hb2, Nat.add_zero]
            rw [← hbe]; exact ok.lt
          · simp only [Ent.blk, hb2, Nat.add_zero]
            rw [hdl, ← hbe, ← e4]; exact hheap
        · exact hm2.ents y hy
      · refine List.Pairwise.cons ?_ hm2.apart
        intro y hy _
        have h1 : y.blk E2 < w.heap.size := by
          have h3 := (hm.ents y hy).lt
          have hn2 := hnm
          simp only [Mem.nm, Bool.and_eq_true, List.all_eq_true] at hn2
          have h4 := hn2.1.1 y hy
          simp only [Ent.nm, Bool.and_eq_true, decide_eq_true_eq] at h4
          have : y.blk E2 = y.blk E := by simp only [Ent.blk, (two_agree E m.nv (E'.base 0 + k) w'.heap.size).base _ h4.1.1, E2]
          rw [this]; exact h3
        simp only [Ent.blk, hb2, Nat.add_zero] at *
        omega
      · intro y hy hr
        rcases List.mem_cons.1 hy with rfl | hy
        · left
          simp only [Ent.blk, hb2, Nat.add_zero]
          exact Nat.le_trans hm.ext.size hge
        · exact hm2.mine y hy hr
end Go.Sx
