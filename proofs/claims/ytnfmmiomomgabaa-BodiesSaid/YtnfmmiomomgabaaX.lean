/- an operation upon a view that may not be. -/
import Derived.Test.YtnfmmiomomgabaaB
import Derived.Test.YtnfmmiomomgabaaC
namespace Go.Proofs.Ytnfmmiomomgabaa
open Go.Sx Go
set_option maxRecDepth 100000
noncomputable def noB : Nat → SV → SV | 0, r => r | n + 1, r => .cons (.bool (.lit false)) (noB n r)
noncomputable def askO : SV := .agg (.cons (.int .i64 (.lit 0)) (noB 16 (.cons (.arr .i64 0 (.lit 16) .nil) (.cons (.arr .i64 0 (.lit 16) .nil) (.cons .nils .nil)))))
noncomputable def badV (z : Int) : SV := .tup (.cons askO (.cons (.int .i64 (.lit z)) .nil))
noncomputable def opF : SV := .agg (.cons (vi 36) (.cons (vi 37) (.cons (vi 38) (.cons (vi 39) .nil))))
noncomputable def badMem {α : Type} (lo hi : Int) (k : Mem → α) : α := nfB cVa fun c => k { know := ⟨[(.var 36, lo, hi)], [.not c]⟩, heap := [], seg := 0, next := 0, nv := 50 }
noncomputable def badRun (s : List SV → X SV) (z lo hi : Int) : Bool := badMem lo hi fun m => match s [viewV 20 6 7, opF] m with
 | some outs => outs.all fun q => wrongs q.2.know || eqU q.2.know q.1 (badV z)
 | none => false
noncomputable def nmVa : Bool := cVa.nm 36
theorem nmVa_ok : nmVa = true := by kernel_rfl
noncomputable def fun7 (f : Nat) : List SV → X SV := funL [(25, mayX)] f
theorem fun7_ok (f : Nat) : SpecOk G0 Try.prog f (fun7 f) := funL_ok (one_ok (a := (25, mayX)) x25_ok) f
def SemBad (f : Nat) (z : Int) : Prop := ∀ (E : Env) (k a b x : Int) (w : World), E.f = G0 → E.Ok → evB E cVa = false → in64 k → in64 a → in64 b → in64 x →
 Calls Try.prog f #[dv E (viewV 20 6 7), opVal k a b x] w fun e w' => Ext (fun _ => False) w w' ∧ e = .returned (dv E (badV z))
noncomputable def envB (E : Env) (w : World) (k a b x : Int) : Env := { E with i := fun j => if j = 36 then k else if j = 37 then a else if j = 38 then b else if j = 39 then x else E.i j, base := fun j => if j = 0 then w.heap.size else E.base j, o := fun j => if j = 0 then 0 else E.o j }
theorem bad_sem {f : Nat} {z : Int} {s : List SV → X SV} (hs : SpecOk G0 Try.prog f s) (h : (kinds13.all fun p => badRun s z p.2.1 p.2.2) = true) : SemBad f z := by
 intro E k a b x w hf hE hv hk ha hb hx
 have hcase : ∃ p ∈ kinds13, p.2.1 ≤ k ∧ k ≤ p.2.2 := by
  have h1 := hk.1
  have h2 := hk.2
  rcases (by omega : k ≤ -1 ∨ k = 0 ∨ k = 1 ∨ k = 2 ∨ k = 3 ∨ k = 4 ∨ k = 5 ∨ k = 6 ∨ k = 7 ∨ k = 8 ∨ k = 9 ∨ k = 10 ∨ 11 ≤ k) with h | rfl | rfl | rfl | rfl | rfl | rfl | rfl | rfl | rfl | rfl | rfl | h
  ·exact ⟨(-1, lo64, -1), by simp [kinds13], h1, h⟩
  ·exact ⟨(0, 0, 0), by simp [kinds13], Int.le_refl _, Int.le_refl _⟩
  ·exact ⟨(1, 1, 1), by simp [kinds13], Int.le_refl _, Int.le_refl _⟩
  ·exact ⟨(2, 2, 2), by simp [kinds13], Int.le_refl _, Int.le_refl _⟩
  ·exact ⟨(3, 3, 3), by simp [kinds13], Int.le_refl _, Int.le_refl _⟩
  ·exact ⟨(4, 4, 4), by simp [kinds13], Int.le_refl _, Int.le_refl _⟩
  ·exact ⟨(5, 5, 5), by simp [kinds13], Int.le_refl _, Int.le_refl _⟩
  ·exact ⟨(6, 6, 6), by simp [kinds13], Int.le_refl _, Int.le_refl _⟩
  ·exact ⟨(7, 7, 7), by simp [kinds13], Int.le_refl _, Int.le_refl _⟩
  ·exact ⟨(8, 8, 8), by simp [kinds13], Int.le_refl _, Int.le_refl _⟩
  ·exact ⟨(9, 9, 9), by simp [kinds13], Int.le_refl _, Int.le_refl _⟩
  ·exact ⟨(10, 10, 10), by simp [kinds13], Int.le_refl _, Int.le_refl _⟩
  ·exact ⟨(11, 11, hi64), by simp [kinds13], h, h2⟩
 obtain ⟨p, hp, hr⟩ := hcase
 rw [List.all_eq_true] at h
 have h := h p hp
 unfold badRun badMem at h
 rw [nfB_eq] at h
 dsimp only at h
 have hA : Agree 36 { E with base := (envB E w k a b x).base, o := (envB E w k a b x).o } (envB E w k a b x) := ⟨fun j hj => by
  show (if j = 36 then k else if j = 37 then a else if j = 38 then b else if j = 39 then x else E.i j) = E.i j
  rw [if_neg (by omega), if_neg (by omega), if_neg (by omega), if_neg (by omega)], fun _ _ => rfl, fun _ _ => rfl, fun _ _ => rfl, fun _ _ => rfl, fun _ _ => rfl, rfl⟩
 have hE' : (envB E w k a b x).Ok := ⟨fun j => (by
  show in64 (if j = 36 then k else if j = 37 then a else if j = 38 then b else if j = 39 then x else E.i j)
  repeat' split
  all_goals first | assumption | exact hE.i j), hE.l, hE.f⟩
 have hcv : evB (envB E w k a b x) (.not cVa) = true := by
  show (!evB (envB E w k a b x) cVa) = true
  rw [evB_agree hA cVa nmVa_ok, evB_same (E := { E with base := (envB E w k a b x).base, o := (envB E w k a b x).o }) (E' := E) rfl rfl rfl rfl cVa, hv]
  rfl
 split at h
 case h_2 => cases h
 rename_i outs hrun
 rw [List.all_eq_true] at h
 have hm : MemOk (fun _ => False) w (envB E w k a b x) { know := ⟨[(.var 36, p.2.1, p.2.2)], [.not cVa]⟩, heap := [], seg := 0, next := 0, nv := 50 } w := ⟨⟨hE', fun g hg => (by
  rcases List.mem_singleton.1 hg with rfl
  exact hr), fun c hc => (by
  rcases List.mem_singleton.1 hc with rfl
  exact hcv)⟩, (by show w.heap.size = w.heap.size + 0; omega), fun _ h => (by cases h), List.Pairwise.nil, fun _ h => (by cases h), Ext.refl _ _, rfl⟩
 have := hs _ w (envB E w k a b x) [viewV 20 6 7, opF] _ outs w hf hrun hm
 rw [show ([viewV 20 6 7, opF].map (dv (envB E w k a b x))).toArray = #[dv E (viewV 20 6 7), opVal k a b x] by
  rw [List.map_cons, dv_view, List.map_cons, dv_view]; rfl] at this
 refine this.mono ?_
 rintro e w' ⟨q, hq, E', hL, rfl, hm'⟩
 refine ⟨hm'.ext, ?_⟩
 have hq1 := h q hq
 rw [wrongs_ok hm'.know, Bool.false_or] at hq1
 unfold dv
 rw [eqU_ok hm'.know hq1]
 rfl
noncomputable def badX (z : Int) : List SV → X SV := fun args m => match args with
 | [v, o] => match opOf o with
  | some (k, a, b, x) => nfB cVa fun c => cond (svEq v (viewV 20 6 7) && hasB (.not c) m.know.conds && m.nm m.nv && in64S m.know k && in64S m.know a && in64S m.know b && in64S m.know x)
    (nfN (m.nv + 1) fun sg => nfN (m.nv + 2) fun nv => some [(badV z, { m with seg := sg, next := 0, nv := nv })]) none
  | none => none
 | _ => none
theorem badX_ok {f : Nat} {z : Int} (h : SemBad f z) : SpecOk G0 Try.prog f (badX z) := by
 intro F w0 E args m outs w hgf ho hm
 unfold badX at ho
 split at ho
 case h_2 => cases ho
 rename_i v o
 split at ho
 case h_2 => cases ho
 rename_i k a b x hO
 rw [nfB_eq] at ho
 cases hc : (svEq v (viewV 20 6 7) && hasB (.not cVa) m.know.conds && m.nm m.nv && in64S m.know k && in64S m.know a && in64S m.know b && in64S m.know x) with
 | false => rw [hc] at ho; cases ho
 | true =>
  rw [hc] at ho
  dsimp only [cond] at ho
  rw [nfN_eq, nfN_eq] at ho
  cases ho
  simp only [Bool.and_eq_true] at hc
  obtain ⟨⟨⟨⟨⟨⟨c0, c1⟩, c2⟩, c3⟩, c4⟩, c5⟩, c6⟩ := hc
  have hv := svEq_ok c0
  subst hv
  have hcv : evB E cVa = false := by
   have := hm.know.conds _ (hasB_ok c1)
   have this : (!evB E cVa) = true := this
   cases hb : evB E cVa with
   | false => rfl
   | true => rw [hb] at this; cases this
  have := h E (ev E k) (ev E a) (ev E b) (ev E x) w hgf hm.know.env hcv (in64S_ok hm.know c3) (in64S_ok hm.know c4) (in64S_ok hm.know c5) (in64S_ok hm.know c6)
  rw [← opOf_ok E hO] at this
  refine this.mono ?_
  rintro e w' ⟨hext, rfl⟩
  let E2 := E.two m.nv 0 w'.heap.size
  have hA : Agree m.nv E E2 := two_agree E m.nv _ _
  have hm2 : MemOk F w0 E2 { m with seg := m.nv + 1, next := 0, nv := m.nv + 2 } w' := by
   refine hm.moved c2 hA ⟨hm.know.env.i, hm.know.env.l, hm.know.env.f⟩ hext ?_ ?_
   ·simp [E2, Env.two]
   ·simp [E2, Env.two]
  exact ⟨_, List.mem_singleton_self _, E2, ⟨hA, by show m.nv ≤ m.nv + 2; omega, fun h => by have : m.nv + 2 = m.nv := h; omega⟩, rfl, hm2⟩
theorem bad28 : (kinds13.all fun p => badRun (fun7 28) 500 p.2.1 p.2.2) = true := by kernel_rfl
theorem bad29 : (kinds13.all fun p => badRun (fun7 29) 600 p.2.1 p.2.2) = true := by kernel_rfl
theorem x28_ok : SpecOk G0 Try.prog 28 (badX 500) := badX_ok (bad_sem (fun7_ok 28) bad28)
theorem x29_ok : SpecOk G0 Try.prog 29 (badX 600) := badX_ok (bad_sem (fun7_ok 29) bad29)
end Go.Proofs.Ytnfmmiomomgabaa
