/- an operation's call, what is needed told as a number of its own. -/
import Derived.Test.YtnfmmiomomgabaaP
namespace Go.Proofs.Ytnfmmiomomgabaa
open Go.Sx Go
set_option maxRecDepth 100000
noncomputable def wayY1 (tup : Bool) (lo n : Nat) (V : VIn) (A A0 : IE) (m : Mem) : SV × Mem :=
 (askX tup (.lit (-1)) V (wrN A (allC lo n) V.w2) (.sli m.nv 0 (.lit 0) (.lit 1) (.lit 1)),
   { m with know := ⟨(.app 201 A, 0, 4) :: (.app 202 A, 0, 4398046511104) :: factsN A lo n m.know.facts, .eq (.app 200 A0) (.lit (-1)) :: m.know.conds⟩, heap := ⟨m.nv, 0, false, 48, .lit 0, .cons (.int .i64 (appV 201 A)) (.cons (.int .i64 (appV 202 A)) .nil)⟩ :: m.heap, seg := m.nv + 1, next := 0, nv := m.nv + 2 })
noncomputable def wayY2 (tup : Bool) (lo n : Nat) (V : VIn) (A0 : IE) (m : Mem) : SV × Mem :=
 (askX tup (.app 200 A0) V V.w2 .nils, { m with know := ⟨(.app 200 A0, (lo : Int), (lo : Int) + n - 1) :: m.know.facts, .not (.eq (.app 200 A0) (.lit (-1))) :: m.know.conds⟩, seg := m.nv + 1, next := 0, nv := m.nv + 2 })
noncomputable def waysY (tup : Bool) (lo n : Nat) (V : VIn) (A A0 : IE) (m : Mem) : List (SV × Mem) := match asked m.know.conds (.eq (.app 200 A0) (.lit (-1))) with
 | .lit true => [wayY1 tup lo n V A A0 m]
 | .lit false => [wayY2 tup lo n V A0 m]
 | _ => [wayY1 tup lo n V A A0 m, wayY2 tup lo n V A0 m]
noncomputable def semY (tup : Bool) (lo n : Nat) (klo khi : Int) : List SV → X SV := fun args m => match args with
 | [v, o] => match viewOf v, opOf o with
  | some V, some (k, a, b, x) => match flagsI V.fl, litAll V.r1 V.w1 0 16, litAll V.r2 V.w2 0 16 with
   | some fI, some wI, some nI =>
    cond (mayK m.know k a b x && in64S m.know x && inR (rng m.know.facts k) klo khi && m.nm m.nv && v.nm m.nv && (IE.app 200 (mkArgs (nI ++ [k, a, b, x] ++ fI))).nm m.nv && (IE.app 201 (mkArgs (nI ++ [k, a, b, x]))).nm m.nv && (wI.all fun e => factIn m.know e 0 1099511627775) && nI.all fun e => factIn m.know e 0 1099511627775)
     (some (nfL (fun p k => nfS p.1 fun v => nfMem p.2 fun m => k (v, m)) (waysY tup lo n V (mkArgs (nI ++ [k, a, b, x])) (mkArgs (nI ++ [k, a, b, x] ++ fI)) m) fun l => l)) none
   | _, _, _ => none
  | _, _ => none
 | _ => none
theorem waysY_1 {E : Env} {tup : Bool} {lo n : Nat} {V : VIn} {A A0 : IE} {m : Mem} (hk : KnowOk E m.know) (h : ev E (.app 200 A0) = -1) : wayY1 tup lo n V A A0 m ∈ waysY tup lo n V A A0 m := by
 have h1 := asked_ok hk.conds (.eq (.app 200 A0) (.lit (-1)))
 have h2 : evB E (.eq (.app 200 A0) (.lit (-1))) = true := decide_eq_true h
 rw [h2] at h1
 unfold waysY
 split
 ·exact List.mem_singleton_self _
 ·rename_i hq
  rw [hq] at h1
  cases h1
 ·exact List.mem_cons_self
theorem waysY_2 {E : Env} {tup : Bool} {lo n : Nat} {V : VIn} {A A0 : IE} {m : Mem} (hk : KnowOk E m.know) (h : ev E (.app 200 A0) ≠ -1) : wayY2 tup lo n V A0 m ∈ waysY tup lo n V A A0 m := by
 have h1 := asked_ok hk.conds (.eq (.app 200 A0) (.lit (-1)))
 have h2 : evB E (.eq (.app 200 A0) (.lit (-1))) = false := decide_eq_false h
 rw [h2] at h1
 unfold waysY
 split
 ·rename_i hq
  rw [hq] at h1
  cases h1
 ·exact List.mem_singleton_self _
 ·exact List.mem_cons_of_mem _ List.mem_cons_self
theorem semY_ok {f : Nat} {tup : Bool} {lo n : Nat} {klo khi : Int} (hlo : lo + n ≤ 16) (hsem : ∀ k a b x, mayZ k a b x = 1 → klo ≤ k → k ≤ khi → SemOp f tup k a b x ∧ chkOp lo n k a b x = true) : SpecOk G0 Try.prog f (semY tup lo n klo khi) := by
 intro F w0 E args m outs w hgf ho hm
 unfold semY at ho
 split at ho
 case h_2 => cases ho
 rename_i v o
 split at ho
 case h_2 => cases ho
 rename_i V k a b x hV hO
 split at ho
 case h_2 => cases ho
 rename_i fI wI nI hfI hwI hnI
 cases hc : (mayK m.know k a b x && in64S m.know x && inR (rng m.know.facts k) klo khi && m.nm m.nv && v.nm m.nv && (IE.app 200 (mkArgs (nI ++ [k, a, b, x] ++ fI))).nm m.nv && (IE.app 201 (mkArgs (nI ++ [k, a, b, x]))).nm m.nv && (wI.all fun e => factIn m.know e 0 1099511627775) && nI.all fun e => factIn m.know e 0 1099511627775) with
 | false => rw [hc] at ho; cases ho
 | true =>
 rw [hc] at ho
 dsimp only [cond] at ho
 rw [nfL_eq (fun p k => by rw [nfS_eq, nfMem_eq])] at ho
 cases ho
 simp only [Bool.and_eq_true] at hc
 obtain ⟨⟨⟨⟨⟨⟨⟨⟨c1, c2⟩, c3⟩, c4⟩, c5⟩, c6⟩, c6'⟩, c7⟩, c8⟩ := hc
 have hmay := mayK_ok hgf hm.know c1
 have hk1 : klo ≤ ev E k ∧ ev E k ≤ khi := by
  have := rng_ok hm.know.env hm.know.facts k
  unfold inR at c3
  simp only [Bool.and_eq_true, decide_eq_true_eq] at c3
  omega
 obtain ⟨sem, chk⟩ := hsem _ _ _ _ hmay hk1.1 hk1.2
 have hx64 := in64S_ok hm.know c2
 have w1 := cells_in hm.know hwI c7
 have w2 := cells_in hm.know hnI c8
 obtain ⟨hfl, _⟩ := viewOf_ok E hV
 have hK : KnowOk (envP E w V (ev E x)) memT.know := envP_know hm.know.env hx64 w1 w2
 have hpost := sem (envP E w V (ev E x)) w hgf hK rfl rfl rfl
 rw [envP_fl hfl, envP_row.1, envP_row.2] at hpost
 have hargs : (#[dv (envP E w V (ev E x)) (viewV 20 6 7), opVal (ev E k) (ev E a) (ev E b) (ev E x)] : Array Value) = ([v, o].map (dv E)).toArray := by
  rw [envP_view hV, ← opOf_ok E hO]; rfl
 rw [hargs] at hpost
 generalize hE0 : envP E w V (ev E x) = E0 at hK hpost
 have hE0f : E0.f = G0 := by rw [← hE0]; exact hgf
 -- the quantities
 unfold chkOp at chk
 simp only [Bool.and_eq_true, List.all_eq_true, List.mem_range] at chk
 obtain ⟨⟨⟨⟨⟨p1, p2⟩, p3⟩, p4⟩, p5⟩, p6⟩ := chk
 have hi9 : E0.i 9 = ev E x := by rw [← hE0]; rfl
 have hF : ∀ y ∈ factsQ (ev E k), FactOk E0 y := fun y hy => (List.mem_append.1 hy).elim (xF_ok hmay hi9 y) fun hy => (List.mem_append.1 hy).elim (bf_ok hE0f links10_ok y) (hK.facts y)
 have hKe : KnowOk E0 ⟨[], []⟩ := ⟨hK.env, fun _ h => (by cases h), fun _ h => (by cases h)⟩
 have inr : ∀ {e : IE} {l h : Int}, inI l h e ⟨factsQ (ev E k), []⟩ = true → l ≤ ev E0 e ∧ ev E0 e ≤ h := fun {e l h} hi => inI_ok e _ ⟨hK.env, hF, fun _ h => (by cases h)⟩ hi
 have r0 := inr p2
 have r1 := inr p3
 have r2 := inr p4
 have rc : ∀ c, c < 16 → 0 ≤ ev E0 (quant (3 + c) (ev E k) (ev E a) (ev E b) (ev E x)) ∧ ev E0 (quant (3 + c) (ev E k) (ev E a) (ev E b) (ev E x)) ≤ 1099511627775 := fun c hc => inr (p5 c hc).1
 have eN := litAll_ok E hnI
 have eF := flagsI_ok E hfI
 have hN16 : (nI.map (ev E)).length = 16 := by rw [eN]; simp
 have hNl : nI.length = 16 := by simpa using hN16
 have hFl : fI.length = 16 := by have := congrArg List.length eF; simpa [hfl] using this
 have rowE : ∀ c, c < 16 → (E0.row 7).getD c 0 = (nI.map (ev E)).getD c 0 := by
  intro c hc
  rw [← hE0, eN]
  show ((List.range 16).map (wsVal E V.r2 V.w2)).getD c 0 = _
  rw [getD_range hc, getD_range hc, Nat.zero_add]
 have fE : ∀ (g : Nat) (y : Int), 100 ≤ g → g ≤ 105 → Gn g [y] = E0.f g [y] := fun g y _ _ => by rw [hE0f]; rfl
 have same0 : SameT false (envN (nI.map (ev E) ++ [ev E k, ev E a, ev E b, ev E x]) ((nI.map (ev E) ++ [ev E k, ev E a, ev E b, ev E x]).drop 20)) E0 := by
  obtain ⟨g1, g2, g3, g4, g5, g6⟩ := getD_op hN16 (ev E k) (ev E a) (ev E b) (ev E x) []
  rw [List.append_nil] at g4 g6
  exact ⟨fun h => (by cases h), fun c hc => (g6 c (by omega)).trans (rowE c (by omega)).symm, g4.trans hi9.symm, fE⟩
 have same1 : SameT true (envN (nI.map (ev E) ++ [ev E k, ev E a, ev E b, ev E x] ++ fI.map (ev E)) ((nI.map (ev E) ++ [ev E k, ev E a, ev E b, ev E x] ++ fI.map (ev E)).drop 20)) E0 := by
  obtain ⟨g1, g2, g3, g4, g5, g6⟩ := getD_op hN16 (ev E k) (ev E a) (ev E b) (ev E x) (fI.map (ev E))
  refine ⟨fun _ j h1 h2 => ?_, fun c hc => (g6 c (by omega)).trans (rowE c (by omega)).symm, g4.trans hi9.symm, fE⟩
  show decide (((nI.map (ev E) ++ [ev E k, ev E a, ev E b, ev E x] ++ fI.map (ev E)).drop 20).getD (j - 20) 0 = 1) = E0.b j
  rw [g5, eF, flag_dec, ← hE0]
  rfl
 have qn : ∀ i, 1 ≤ i → i ≤ 18 → in64 (ev E0 (quant i (ev E k) (ev E a) (ev E b) (ev E x))) → ev E (.app (200 + i) (mkArgs (nI ++ [k, a, b, x]))) = ev E0 (quant i (ev E k) (ev E a) (ev E b) (ev E x)) := by
  intro i h1 h2 hin
  obtain ⟨g1, g2, g3, g4, g5, g6⟩ := getD_op hN16 (ev E k) (ev E a) (ev E b) (ev E x) []
  rw [List.append_nil] at g1 g2 g3 g4
  refine app_quant hgf h2 (.inl (by rw [List.length_append, hNl]; rfl)) (xs := nI.map (ev E) ++ [ev E k, ev E a, ev E b, ev E x]) (by rw [List.map_append]; rfl) g1 g2 g3 g4 ?_ same0 hin
  have := p1 i (by omega)
  rw [show Nat.beq i 0 = false from by cases i with | zero => omega | succ i => rfl] at this
  exact this
 have q0 : ev E (.app 200 (mkArgs (nI ++ [k, a, b, x] ++ fI))) = ev E0 (quant 0 (ev E k) (ev E a) (ev E b) (ev E x)) := by
  obtain ⟨g1, g2, g3, g4, g5, g6⟩ := getD_op hN16 (ev E k) (ev E a) (ev E b) (ev E x) (fI.map (ev E))
  exact app_quant hgf (i := 0) (by omega) (.inr (by rw [List.length_append, List.length_append, hNl, hFl]; rfl)) (xs := nI.map (ev E) ++ [ev E k, ev E a, ev E b, ev E x] ++ fI.map (ev E)) (by rw [List.map_append, List.map_append]; rfl) g1 g2 g3 g4 (p1 0 (by omega)) same1 (by unfold in64 lo64 hi64; omega)
 have q1 := qn 1 (by omega) (by omega) (by unfold in64 lo64 hi64; omega)
 have q2 := qn 2 (by omega) (by omega) (by unfold in64 lo64 hi64; omega)
 have qc : ∀ c, c < 16 → ev E (.app (200 + (3 + c)) (mkArgs (nI ++ [k, a, b, x]))) = ev E0 (quant (3 + c) (ev E k) (ev E a) (ev E b) (ev E x)) := fun c hc => qn (3 + c) (by omega) (by omega) (by have := rc c hc; unfold in64 lo64 hi64; omega)
 obtain ⟨n1, n2, n3, n4, n5⟩ := viewOf_nm hV c5
 refine hpost.mono ?_
 rintro e w' ⟨hext, hq⟩
 rcases hq with ⟨h0, bl, h1, h2, h3, h4⟩ | ⟨h0, h4⟩
 ·-- nothing is needed
  let E2 := E.two m.nv bl w'.heap.size
  have hA : Agree m.nv E E2 := two_agree E m.nv _ _
  have hb2 : E2.base m.nv = bl := by simp [E2, Env.two]
  have ho2 : E2.o m.nv = 0 := by simp [E2, Env.two]
  have hm2 : MemOk F w0 E2 { m with seg := m.nv + 1, next := 0, nv := m.nv + 2 } w' := by
   refine hm.moved c4 hA ⟨hm.know.env.i, hm.know.env.l, hm.know.env.f⟩ hext ?_ ?_
   ·simp [E2, Env.two]
   ·simp [E2, Env.two]
  have an : ∀ i, ev E2 (.app i (mkArgs (nI ++ [k, a, b, x]))) = ev E (.app i (mkArgs (nI ++ [k, a, b, x]))) := fun i => ev_agree hA c6'
  have a0 : ev E2 (.app 200 (mkArgs (nI ++ [k, a, b, x] ++ fI))) = ev E (.app 200 (mkArgs (nI ++ [k, a, b, x] ++ fI))) := ev_agree hA c6
  refine ⟨_, waysY_1 hm.know (q0.trans h0), E2, ⟨hA, by show m.nv ≤ m.nv + 2; omega, fun h => by have : m.nv + 2 = m.nv := h; omega⟩, ?_, ?_⟩
  ·rw [h4]
   congr 1
   show _ = dv E2 (askX tup (.lit (-1)) V (wrN (mkArgs (nI ++ [k, a, b, x])) (allC lo n) V.w2) (.sli m.nv 0 (.lit 0) (.lit 1) (.lit 1)))
   rw [askX_ok E2 tup _ V _ _ (sliV bl) (by
    show [Value.slice (some (addrOf E2 m.nv 0 (.lit 0))) 1 1] = _
    unfold addrOf sliV
    rw [hb2, ho2]; rfl)]
   rw [List.map_congr_left (fun c hc => evB_agree hA c (n1 c hc)), List.map_congr_left (fun j _ => wsVal_agree hA (row_agree hA n2) V.w1 n3 j)]
   congr 2
   refine List.map_congr_left fun j hj => ?_
   have hj := List.mem_range.1 hj
   rw [wrN_ok (E := E2) hgf]
   by_cases hr : j ∈ allC lo n
   ·rw [if_pos hr, an, qc j hj]
   ·rw [if_neg hr, wsVal_agree hA (row_agree hA n4) V.w2 n5 j]
    have hz : ev E0 (.sel 7 (.lit (.ofNat j))) = wsVal E V.r2 V.w2 j := by
     rw [ev_sel, ev_lit]
     show (E0.row 7).getD (Int.toNat (j : Int)) 0 = _
     rw [Int.toNat_natCast, ← hE0]
     exact getD_range hj
    rw [← hz]
    show ev E0 (quant (3 + j) (ev E k) (ev E a) (ev E b) (ev E x)) = _
    have := (p5 j hj).2
    rw [Bool.or_eq_true] at this
    rcases this with this | this
    ·rw [ieEq_ok this]
    ·rw [Bool.and_eq_true, Bool.and_eq_true] at this
     have j1 := Nat.le_of_ble_eq_true this.1.1
     have j2 : j < lo + n := by simpa [Nat.blt_eq] using this.1.2
     exact absurd (allC_mem.2 ⟨j1, j2⟩) hr
  ·refine ⟨⟨hm2.know.env, fun y hy => ?_, fun d hd => ?_⟩, hm2.size, ?_, ?_, ?_, hm2.ext, hm2.seg0⟩
   ·rcases List.mem_cons.1 hy with rfl | hy
    ·unfold FactOk; rw [an, q1]; exact r1
    rcases List.mem_cons.1 hy with rfl | hy
    ·unfold FactOk; rw [an, q2]; exact r2
    rcases factsN_mem hy with ⟨j, j1, j2, rfl⟩ | hy
    ·unfold FactOk; rw [an, qc j (by omega)]; exact rc j (by omega)
    ·exact hm2.know.facts y hy
   ·rcases List.mem_cons.1 hd with rfl | hd
    ·exact decide_eq_true ((a0.trans q0).trans h0)
    ·exact hm2.know.conds d hd
   ·intro y hy
    rcases List.mem_cons.1 hy with rfl | hy
    ·refine ⟨?_, fun h => (by cases h), fun _ => ⟨⟨ho2, rfl⟩, ?_⟩, fun h => (by cases h)⟩
     ·simp only [Ent.blk, hb2, Nat.add_zero]; exact h2
     ·simp only [Ent.blk, hb2, Nat.add_zero]
      rw [h3]
      simp only [dl, appV_ok (E := E2) hgf, an, q1, q2]
      rfl
    ·exact hm2.ents y hy
   ·refine List.Pairwise.cons ?_ hm2.apart
    intro y hy _
    have h1' : y.blk E2 < w.heap.size := by
     have h3 := (hm.ents y hy).lt
     have hn2 := c4
     simp only [Mem.nm, Bool.and_eq_true, List.all_eq_true] at hn2
     have h4 := hn2.1.1 y hy
     simp only [Ent.nm, Bool.and_eq_true, decide_eq_true_eq] at h4
     have : y.blk E2 = y.blk E := by simp only [Ent.blk, hA.base _ h4.1.1]
     rw [this]; exact h3
    simp only [Ent.blk, hb2, Nat.add_zero] at *
    omega
   ·intro y hy hr
    rcases List.mem_cons.1 hy with rfl | hy
    ·left
     simp only [Ent.blk, hb2, Nat.add_zero] at *
     have := hm.ext.size
     omega
    ·exact hm2.mine y hy hr
 ·-- a cell is needed
  replace h0 : ev E0 (quant 0 (ev E k) (ev E a) (ev E b) (ev E x)) ≠ -1 := h0
  replace h4 : e = .returned (wrapV tup (askVal (ev E0 (quant 0 (ev E k) (ev E a) (ev E b) (ev E x))) (V.fl.map (evB E)) ((List.range 16).map (wsVal E V.r1 V.w1)) ((List.range 16).map (wsVal E V.r2 V.w2)) nilV)) := h4
  obtain ⟨l', kn', s1, _, s2⟩ := allL_ok (E := E0) (quant 0 (ev E k) (ev E a) (ev E b) (ev E x)) [] ⟨[], []⟩ ⟨hK.env, fun _ h => (by cases h), fun _ h => (by cases h)⟩ p6
  unfold endV at s2
  rw [Bool.or_eq_true] at s2
  have hneg : ¬ zEq (ev E0 (quant 0 (ev E k) (ev E a) (ev E b) (ev E x))) (-1) = true := fun h => h0 (zEq_ok h)
  have s2 := s2.resolve_left hneg
  simp only [Bool.and_eq_true, decide_eq_true_eq] at s2
  obtain ⟨⟨z1, z2⟩, z3⟩ := s2
  generalize hz : ev E0 (quant 0 (ev E k) (ev E a) (ev E b) (ev E x)) = z at *
  let E2 := E.two m.nv 0 w'.heap.size
  have hA : Agree m.nv E E2 := two_agree E m.nv _ _
  have hm2 : MemOk F w0 E2 { m with seg := m.nv + 1, next := 0, nv := m.nv + 2 } w' := by
   refine hm.moved c4 hA ⟨hm.know.env.i, hm.know.env.l, hm.know.env.f⟩ hext ?_ ?_
   ·simp [E2, Env.two]
   ·simp [E2, Env.two]
  have a0 : ev E2 (.app 200 (mkArgs (nI ++ [k, a, b, x] ++ fI))) = ev E (.app 200 (mkArgs (nI ++ [k, a, b, x] ++ fI))) := ev_agree hA c6
  refine ⟨_, waysY_2 hm.know (by rw [q0]; exact h0), E2, ⟨hA, by show m.nv ≤ m.nv + 2; omega, fun h => by have : m.nv + 2 = m.nv := h; omega⟩, ?_, ?_⟩
  ·rw [h4]
   congr 1
   show _ = dv E2 (askX tup (.app 200 _) V V.w2 .nils)
   rw [askX_ok E2 tup _ V _ _ nilV rfl, a0, q0]
   rw [List.map_congr_left (fun c hc => evB_agree hA c (n1 c hc)), List.map_congr_left (fun j _ => wsVal_agree hA (row_agree hA n2) V.w1 n3 j), List.map_congr_left (fun j _ => wsVal_agree hA (row_agree hA n4) V.w2 n5 j)]
  ·refine ⟨⟨hm2.know.env, fun f hf => ?_, fun d hd => ?_⟩, hm2.size, hm2.ents, hm2.apart, hm2.mine, hm2.ext, hm2.seg0⟩
   ·rcases List.mem_cons.1 hf with rfl | hf
    ·unfold FactOk
     rw [a0, q0]
     dsimp only
     omega
    ·exact hm2.know.facts f hf
   ·rcases List.mem_cons.1 hd with rfl | hd
    ·show (!decide (ev E2 (.app 200 _) = ev E2 (.lit (-1)))) = true
     rw [a0, q0, ev_lit, decide_eq_false h0]
     rfl
    ·exact hm2.know.conds d hd
end Go.Proofs.Ytnfmmiomomgabaa
