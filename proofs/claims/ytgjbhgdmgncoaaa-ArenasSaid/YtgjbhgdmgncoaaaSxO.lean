/- Contracts out of one run over a pattern: calls that make no block and whose answer is one value. -/
import Derived.Test.YtgjbhgdmgncoaaaSxN
namespace Go.Sx
open Go

/-- a run over a pattern: the arguments, the memory that is looked at -/
structure Pat where
  args : Fr
  mem : Mem
  val : SV
  deriving Inhabited
def Pat.keys (p : Pat) (σ : Sub) : List (Nat × Nat) := (p.mem.heap.filter fun e => !e.ro).map fun e => blockOf σ e.s e.k
/-- the written blocks are forgotten -/
def Mem.without (m : Mem) (ks : List (Nat × Nat)) : Mem := { m with heap := m.heap.filter fun e => !ks.contains (e.s, e.k) }
noncomputable def touchX (p : Pat) : List SV → X SV := fun args m =>
  if reroot 0 (matchAll 0 p.args p.mem args m) p.args p.mem args m then some [(p.val, m.without (p.keys (matchAll 0 p.args p.mem args m)))] else none
/-- what the pattern's own run must come to -/
def patOk (p : Pat) (outs : List (SV × Mem)) : Bool :=
  outs.all (fun q => (q.1 == p.val) && Nat.beq q.2.seg p.mem.seg && Nat.beq q.2.next p.mem.next) && p.val.nm 0 && Nat.blt p.mem.seg p.mem.nv

theorem without_ok {F : Nat → Prop} {w0 w w' : World} {E : Env} {m : Mem} (hm : MemOk F w0 E m w) {ks : List (Nat × Nat)} {F' : Nat → Prop} (hF : ∀ b, F' b → ∃ e ∈ m.heap, e.ro = false ∧ ks.contains (e.s, e.k) = true ∧ e.blk E = b)
    (hext : Ext F' w w') (hsize : w'.heap.size = w.heap.size) : MemOk F w0 E (m.without ks) w' := by
  have hsub : (m.without ks).heap.Sublist m.heap := List.filter_sublist
  have keep : ∀ e ∈ (m.without ks).heap, w'.heap[e.blk E]? = w.heap[e.blk E]? := by
    intro e he
    have hem := hsub.subset he
    refine hext.block _ (hm.ents e hem).lt (fun hf => ?_)
    obtain ⟨e', he', hro, hk, hb⟩ := hF _ hf
    have := hm.same he' hem (.inl hro) hb
    subst this
    have := (List.mem_filter.1 he).2
    rw [hk] at this
    cases this
  refine ⟨hm.know, by rw [hsize]; exact hm.size, ?_, hm.apart.sublist hsub, fun e he => hm.mine e (hsub.subset he), ?_, hm.seg0⟩
  · intro e he
    have ok := hm.ents e (hsub.subset he)
    have hk := keep e he
    refine ⟨by rw [hsize]; exact ok.lt, fun hr j v hj => ?_, fun hr => ?_⟩
    · have := ok.ro hr j v hj
      simp only [World.cell?] at this ⊢
      rw [hk]; exact this
    · rw [hk]; exact ok.own hr
  · refine ⟨hext.os.trans hm.ext.os, hext.tape.trans hm.ext.tape, hext.output.trans hm.ext.output, by have := hm.ext.size; omega, fun x hx hx' => ?_⟩
    rw [hext.block x (by have := hm.ext.size; omega) (fun hf => ?_)]
    · exact hm.ext.block x hx hx'
    · obtain ⟨e', he', hro, _, hb⟩ := hF _ hf
      rcases hm.mine e' he' hro with h | h
      · omega
      · exact hx' (hb ▸ h)

theorem touchX_ok {P : Program} {f : Nat} {s : List SV → X SV} (hs : SpecOk P f s) (p : Pat) {outs : List (SV × Mem)} (hrun : s p.args p.mem = some outs) (hp : patOk p outs = true) : SpecOk P f (touchX p) := by
  intro F w0 E args m outs' w ho hm
  unfold touchX at ho
  split at ho
  case isFalse => cases ho
  rename_i hre
  cases ho
  generalize matchAll 0 p.args p.mem args m = σ at hre ⊢
  simp only [patOk, Bool.and_eq_true, List.all_eq_true] at hp
  obtain ⟨⟨hp1, hp2⟩, hp3⟩ := hp
  have hp3 : p.mem.seg < p.mem.nv := by simpa [Nat.blt_eq] using hp3
  have ha : FrOk E args { tmps := (args.map (dv E)).toArray, defers := [] } := ⟨rfl, rfl⟩
  obtain ⟨_, hmC, haC⟩ := reroot_ok hre hm ha
  have hargs : p.args.map (dv (E.by σ)) = args.map (dv E) := by
    have := haC.tmps
    dsimp only at this
    simpa using this.symm
  -- the footprint: the pattern's own blocks
  let F' : Nat → Prop := fun b => ∃ e ∈ p.mem.heap, e.ro = false ∧ e.blk (E.by σ) = b
  have hmF : MemOk F' w (E.by σ) p.mem w := ⟨hmC.know, hmC.size, hmC.ents, hmC.apart, fun e he hr => .inr ⟨e, he, hr, rfl⟩, Ext.refl _ _, hmC.seg0⟩
  have := hs F' w (E.by σ) p.args p.mem outs w hrun hmF
  rw [hargs] at this
  refine this.mono ?_
  rintro e w' ⟨q, hq, E', hL, rfl, hm'⟩
  have hq1 := hp1 q hq
  simp only [beq_iff_eq] at hq1
  obtain ⟨⟨v1, v2⟩, v3⟩ := hq1
  have v2 := Nat.eq_of_beq_eq_true v2
  have v3 := Nat.eq_of_beq_eq_true v3
  have hsize : w'.heap.size = w.heap.size := by
    rw [hm'.size, v2, v3, hL.agree.base _ hp3, hmC.size]
  have hval : dv E' q.1 = dv E p.val := by
    rw [v1]
    have h0 : Agree 0 E (E.by σ) := ⟨fun k h => absurd h (Nat.not_lt_zero k), fun k h => absurd h (Nat.not_lt_zero k), fun k h => absurd h (Nat.not_lt_zero k), fun k h => absurd h (Nat.not_lt_zero k), fun k h => absurd h (Nat.not_lt_zero k), fun k h => absurd h (Nat.not_lt_zero k), rfl⟩
    have h1 : Agree 0 (E.by σ) E' := ⟨fun k h => absurd h (Nat.not_lt_zero k), fun k h => absurd h (Nat.not_lt_zero k), fun k h => absurd h (Nat.not_lt_zero k), fun k h => absurd h (Nat.not_lt_zero k), fun k h => absurd h (Nat.not_lt_zero k), fun k h => absurd h (Nat.not_lt_zero k), hL.agree.f⟩
    rw [dv_agree h1 hp2, dv_agree h0 hp2]
  simp only [reroot, Bool.and_eq_true] at hre
  have hents : ∀ x ∈ p.mem.heap, entOk σ m x = true := List.all_eq_true.1 hre.1.1.1.1.2
  refine ⟨_, List.mem_cons_self, E, Later.of rfl E, by rw [hval], without_ok hm (F' := F') ?_ hm'.ext hsize⟩
  rintro b ⟨x, hx, hr, rfl⟩
  obtain ⟨e0, k1, k2, hb, _, _, _, hro, _⟩ := entOk_ok hm (hents x hx)
  refine ⟨e0, k1, hro hr, ?_, hb.symm⟩
  simp only [Pat.keys, List.contains_iff_mem]
  exact List.mem_map.2 ⟨x, List.mem_filter.2 ⟨hx, by simp [hr]⟩, k2.symm⟩
noncomputable def patRun (s : List SV → X SV) (p : Pat) : Bool :=
  match s p.args p.mem with
  | some outs => patOk p outs
  | none => false
theorem touchR_ok {P : Program} {f : Nat} {s : List SV → X SV} (hs : SpecOk P f s) (p : Pat) (h : patRun s p = true) : SpecOk P f (touchX p) := by
  unfold patRun at h
  split at h
  · rename_i outs ho; exact touchX_ok hs p ho h
  · cases h
end Go.Sx
