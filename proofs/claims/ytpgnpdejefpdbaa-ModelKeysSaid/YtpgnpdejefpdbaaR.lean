/- a call that only reads: its value out of one run over a pattern. -/
import Derived.Test.YtpgnpdejefpdbaaQ
namespace Go.Proofs.Ytpgnpdejefpdbaa
open Go.Sx Go
set_option maxRecDepth 100000
noncomputable def readX (n : Nat) (p : Sx.Make) : List SV → X SV := fun args m =>
 if reroot n (matchAll n p.args p.mem args m) p.args p.mem args m && m.nm m.nv then some [(p.val, { m with seg := m.nv + 1, next := 0, nv := m.nv + 2 })] else none
noncomputable def readRun (s : List SV → X SV) (p : Sx.Make) : Bool := match s p.args p.mem with
 | some outs => (p.mem.heap.all fun e => e.ro) && p.val.nm 0 && outs.all fun q => wrongs q.2.know || svEq q.1 p.val
 | none => false
theorem readX_ok {G : Gf} {P : Program} {f : Nat} {s : List SV → X SV} (hs : SpecOk G P f s) (n : Nat) (p : Sx.Make) (h : readRun s p = true) : SpecOk G P f (readX n p) := by
 unfold readRun at h
 split at h
 case h_2 => cases h
 rename_i outs hrun
 simp only [Bool.and_eq_true, List.all_eq_true] at h
 obtain ⟨⟨hro, hval⟩, hall⟩ := h
 intro F w0 E args m outs' w hgf ho hm
 unfold readX at ho
 split at ho
 case isFalse => cases ho
 rename_i hre
 rw [Bool.and_eq_true] at hre
 obtain ⟨hre, hnm⟩ := hre
 cases ho
 generalize matchAll n p.args p.mem args m = σ at hre
 obtain ⟨_, hmC, hargs⟩ := reroot_ok (tm := args) hre hm
 have hmF : MemOk (fun _ => False) w (E.by σ) p.mem w := ⟨hmC.know, hmC.size, hmC.ents, hmC.apart, fun e he hr => (by rw [hro e he] at hr; cases hr), Ext.refl _ _, hmC.seg0⟩
 have := hs _ w (E.by σ) p.args p.mem outs w hgf hrun hmF
 rw [hargs] at this
 refine this.mono ?_
 rintro e w' ⟨q, hq, E', hL, rfl, hm'⟩
 have hq1 := hall q hq
 rw [wrongs_ok hm'.know, Bool.false_or] at hq1
 have hm2 : MemOk F w0 (E.two m.nv 0 w'.heap.size) { m with seg := m.nv + 1, next := 0, nv := m.nv + 2 } w' := by
  refine hm.moved hnm (two_agree E m.nv 0 w'.heap.size) ⟨hm.know.env.i, hm.know.env.l, hm.know.env.f⟩ hm'.ext ?_ ?_
  ·simp [Env.two]
  ·simp [Env.two]
 refine ⟨_, List.mem_singleton_self _, E.two m.nv 0 w'.heap.size, ⟨two_agree E m.nv 0 _, by show m.nv ≤ m.nv + 2; omega, fun h => by have : m.nv + 2 = m.nv := h; omega⟩, ?_, hm2⟩
 rw [svEq_ok hq1, dv_agree (agree0 E E' hL.agree.f) hval, dv_agree (agree0 E (E.two m.nv 0 w'.heap.size) rfl) hval]
end Go.Proofs.Ytpgnpdejefpdbaa
