/- two arenas, with words here and there: the loop. -/
import Derived.Test.YtofmndcdcchflaaSQ
import Derived.Test.YtofmndcdcchflaaRV
namespace Go.Proofs.Ytofmndcdcchflaa
open Go.Sx Go Go.DescNum
set_option maxRecDepth 100000
noncomputable def clash (kn : Know) (es : List IE) : Bool := es.any fun e => kn.facts.any fun f => ieEq f.1 e && kn.facts.any fun g => ieEq g.1 e && decide (g.2.2 < f.2.1)
theorem clash_ok {E : Env} {kn : Know} (h : KnowOk E kn) (es : List IE) : clash kn es = false := by
 cases hc : clash kn es with
 | false => rfl
 | true =>
  unfold clash at hc
  obtain ⟨e, _, hc⟩ := List.any_eq_true.1 hc
  obtain ⟨f, hf, hc⟩ := List.any_eq_true.1 hc
  rw [Bool.and_eq_true] at hc
  obtain ⟨h1, hc⟩ := hc
  obtain ⟨g, hg, hc⟩ := List.any_eq_true.1 hc
  rw [Bool.and_eq_true, decide_eq_true_eq] at hc
  have a := h.facts f hf
  have b := h.facts g hg
  unfold FactOk at a b
  rw [ieEq_ok h1] at a
  rw [ieEq_ok hc.1] at b
  omega
noncomputable def pruneC (es : List IE) (s : List SV → X SV) : List SV → X SV := fun args m => match s args m with
 | some outs => some (outs.filter fun q => !clash q.2.know es)
 | none => none
theorem pruneC_ok {G : Gf} {P : Program} {f : Nat} {s : List SV → X SV} (es : List IE) (hs : SpecOk G P f s) : SpecOk G P f (pruneC es s) := by
 intro F w0 E args m outs' w hgf ho hm
 unfold pruneC at ho
 cases hr : s args m with
 | none => rw [hr] at ho; cases ho
 | some outs =>
 rw [hr] at ho
 cases ho
 refine (hs F w0 E args m outs w hgf hr hm).mono ?_
 rintro e w' ⟨q, hq, E', hL, rfl, hm'⟩
 exact ⟨q, List.mem_filter.2 ⟨hq, by rw [clash_ok hm'.know]; rfl⟩, E', hL, rfl, hm'⟩
noncomputable def keepK (s : Fr → X (SX × Fr)) : Fr → X (SX × Fr) := fun tm m => match s tm m with
 | some outs => some (outs.map fun q => (q.1, { q.2 with know := ⟨q.2.know.facts ++ m.know.facts.filter (fun f => f.1.nm m.nv), q.2.know.conds⟩ }))
 | none => none
theorem keepK_ok {G : Gf} {P : Program} {c : Code} {s : Fr → X (SX × Fr)} (hs : CodeOk G P c s) : CodeOk G P c (keepK s) := by
 intro F w0 E tm a m w exits hgf ho hm ha
 unfold keepK at ho
 split at ho
 case h_2 => cases ho
 rename_i outs hr
 cases ho
 refine wp_mono (hs F w0 E tm a m w outs hgf hr hm ha) ?_
 rintro e a' w' ⟨q, hq, E', hL, he, hf, hm'⟩
 refine ⟨_, List.mem_map.2 ⟨q, hq, rfl⟩, E', hL, he, hf, ⟨⟨hm'.know.env, fun f hf => ?_, hm'.know.conds⟩, hm'.size, hm'.ents, hm'.apart, hm'.mine, hm'.ext, hm'.seg0⟩⟩
 rcases List.mem_append.1 hf with hf | hf
 ·exact hm'.know.facts f hf
 ·obtain ⟨h1, h2⟩ := List.mem_filter.1 hf
  have := hm.know.facts f h1
  unfold FactOk at this ⊢
  rw [ev_agree hL.agree h2]
  exact this
noncomputable def slW (b : Nat) : SV := .sli b 0 (.var (b+1)) (.var (b+2)) (.var (b+3))
noncomputable def enW (b : Nat) : Ent := slE b (b+1) (b+2) (b+4) 1
noncomputable def faW (b : Nat) : List Fact := slF (b+1) (b+2) (b+3) hi64
noncomputable def argW (a : Bool) (b : Nat) : SV := cond a (slW b) .nils
noncomputable def entW (a : Bool) (b : Nat) : List Ent := cond a [enW b] []
noncomputable def facW (a : Bool) (b : Nat) : List Fact := cond a (faW b) []
noncomputable def touchV (a : Nat) : SV := .cons (vi a) (.cons (vi (a+1)) (.cons (vi (a+2)) (.cons (vi (a+3)) (.cons (vi (a+4)) (.cons (vi (a+5)) (.cons (vi (a+6)) (.cons (vi (a+7)) (.cons (.bool (.var (a+8))) .nil))))))))
noncomputable def arenaV (r a : Nat) : SV := .cons (.arr .i64 r (.lit 634) .nil) (touchV a)
noncomputable def arenas (s r a : Nat) : List Ent := [⟨s, 0, false, 98, .lit 0, arenaV r a⟩, ⟨s+1, 0, false, 89, .lit 0, arenaV r a⟩]
noncomputable def boxV : Ent := ⟨0, 0, false, 25, .lit 0, viewC⟩
noncomputable def headP8 (a b c : Bool) : HeadP := {
 tm := slotsN 59 [(0, argW a 10), (1, argW b 20), (4, .nilp), (5, .nilp), (6, .ptr 261 0 (.lit 0)), (7, .ptr 262 0 (.lit 0)), (8, vi 263)]
 mem := { know := ⟨(.var 263, 0, 30) :: (facW a 10 ++ facW b 20), []⟩, heap := arenas 261 264 265 ++ (entW a 10 ++ (entW b 20 ++ (boxV :: cond c [en3 30] []))), seg := 274, next := 0, nv := 280 }
 mu := .sub (.lit 30) (.var 263) }
noncomputable def leave8 (c : Bool) : LeaveP := { e := .normal, tm := slotsN 59 [(4, .nilp), (5, .nilp), (6, .ptr 261 0 (.lit 0)), (7, .ptr 262 0 (.lit 0))], mem := { know := ⟨[], []⟩, heap := arenas 261 264 265 ++ (boxV :: cond c [en3 30] []), seg := 274, next := 0, nv := 280 } }
noncomputable def ok8 (a b c : Bool) : Bool := headOk (tabJ []) cx0 (fun _ => none) none 400 0 (loopBody 0 (bodyOf Try.f8)) 200 [headP8 a b c] [leave8 c] (headP8 a b c)
noncomputable def all8 : Bool := [false, true].all fun a => [false, true].all fun b => [false, true].all fun c => ok8 a b c
theorem run8 : all8 = true := by kernel_rfl
theorem bools_all {p : Bool → Bool} (h : [false, true].all p = true) (b : Bool) : p b = true := List.all_eq_true.1 h b (by cases b <;> simp)
theorem ok8_all (a b c : Bool) : ok8 a b c = true := bools_all (bools_all (bools_all run8 a) b) c
noncomputable def loop8 (a b c : Bool) : Fr → X (SX × Fr) := keepK (liftB 200 (loopP 200 [headP8 a b c] [leave8 c]))
theorem loop8_ok {V : List Int} (a b c : Bool) : LxOk (G0 V) Try.prog (8, 0, loop8 a b c) := by
 refine lx_ok Try.func8 (c := bodyOf Try.f8) rfl (b := loopBody 0 (bodyOf Try.f8)) (by kernel_rfl) (keepK_ok (liftB_ok (loopPc_ok (T := tabJ []) (cx := cx0) cx0_ok (jm := none) (fuel := 400) (noBlocks_ok _ _) (fun y hy => by
  rcases List.mem_singleton.1 hy with rfl
  exact ⟨[[]], fun _ _ _ => ⟨[], List.mem_singleton_self _, fun _ h => (by cases h)⟩, fun d hd => (by
   rcases List.mem_singleton.1 hd with rfl
   exact ok8_all a b c)⟩))))
end Go.Proofs.Ytofmndcdcchflaa
namespace Go.Proofs.Ytofmndcdcchflaa
open Go.Sx Go Go.DescNum
set_option maxRecDepth 100000
noncomputable def getOX (f : Nat) : List SV → X SV := orX getDX (fun0 f)
noncomputable def saX : List SV → X SV := freshX 98 (callF (tabJ []) (spOf [(41, sameX false)]) (bxOf []) 400 12 20)
theorem saX_ok {V : List Int} : SpecOk (G0 V) Try.prog 20 saX := freshX_ok 98 (callF_ok (spOf_ok (one_ok (a := (41, sameX false)) (sameX_ok (G0_in V) false))) noBx 400 12 20)
noncomputable def spS : List (Nat × (List SV → X SV)) := [(21, getOX 21), (22, getOX 22), (9, samNX), (17, spoilX)]
theorem okSpS {V : List Int} : ∀ x ∈ spS, SpecOk (G0 V) Try.prog x.1 x.2 :=
 cons_ok (a := (21, getOX 21)) (orX_ok get21_ok (fun0_ok 21)) (cons_ok (a := (22, getOX 22)) (orX_ok get22_ok (fun0_ok 22)) (cons_ok (a := (9, samNX)) samNX_ok (one_ok (a := (17, spoilX)) (spoilX_ok (G0_in V)))))
noncomputable def cxS : CX := callF (tabJ []) (spOf spS) (bxOf []) 400 12
theorem cxS_ok {V : List Int} : CallsOk (G0 V) Try.prog cxS := by
 unfold cxS
 rw [callF_eq]
 exact callD_ok (spOf_ok okSpS) noBx 400 12
noncomputable def iK : IE := .var 4105
noncomputable def keptK : List (Nat × SV) := [(12, .bool (.lit false)), (13, .ptr 4106 0 (.lit 0)), (14, .ptr 4107 0 (.lit 0))]
noncomputable def headK : HeadP := {
 tm := slotsN 172 (keptK ++ [(25, .int .i64 iK)])
 mem := { know := ⟨[(iK, -1, 13)], []⟩, heap := arenas 4106 4108 4109, seg := 4130, next := 0, nv := 4140 }
 mu := .sub (.lit 13) iK }
noncomputable def leaveK : LeaveP := { e := .normal, tm := slotsN 172 keptK, mem := { know := ⟨[], []⟩, heap := arenas 4106 4108 4109, seg := 4130, next := 0, nv := 4140 } }
noncomputable def okK (lo hi : Int) : Bool := headOk (tabJ []) cxS (fun _ => none) none 400 2 (loopBody 2 (bodyOf Try.f3)) 4000 [headK] [leaveK] (headK.moreC ([(iK, lo, hi)], []))
theorem rk0 : okK (-1) (-1) = true := by kernel_rfl
theorem rk1 : okK 0 11 = true := by kernel_rfl
theorem rk2 : okK 12 12 = true := by kernel_rfl
theorem rk3 : okK 13 13 = true := by kernel_rfl
noncomputable def caseK : List (Int × Int) := [(-1, -1), (0, 11), (12, 12), (13, 13)]
theorem coverK {E : Env} (hf : ∀ f ∈ headK.mem.know.facts, FactOk E f) : ∃ c ∈ caseK, c.1 ≤ ev E iK ∧ ev E iK ≤ c.2 := by
 have h : -1 ≤ ev E iK ∧ ev E iK ≤ 13 := hf (iK, -1, 13) (by simp [headK])
 rcases (by omega : ev E iK = -1 ∨ (0 ≤ ev E iK ∧ ev E iK ≤ 11) ∨ ev E iK = 12 ∨ ev E iK = 13) with g | g | g | g
 ·exact ⟨(-1, -1), by simp [caseK], by dsimp only; omega, by dsimp only; omega⟩
 ·exact ⟨(0, 11), by simp [caseK], g⟩
 ·exact ⟨(12, 12), by simp [caseK], by dsimp only; omega, by dsimp only; omega⟩
 ·exact ⟨(13, 13), by simp [caseK], by dsimp only; omega, by dsimp only; omega⟩
theorem okK_all : ∀ c ∈ caseK, okK c.1 c.2 = true := fun c hc => by
 simp only [caseK, List.mem_cons, List.not_mem_nil, or_false] at hc
 rcases hc with rfl | rfl | rfl | rfl
 ·exact rk0
 ·exact rk1
 ·exact rk2
 ·exact rk3
noncomputable def loopK : Fr → X (SX × Fr) := liftB 4000 (loopP 4000 [headK] [leaveK])
theorem loopK_ok {V : List Int} : LxOk (G0 V) Try.prog (3, 2, loopK) := lx_ok Try.func3 (c := bodyOf Try.f3) rfl (b := loopBody 2 (bodyOf Try.f3)) (by kernel_rfl) (liftB_ok (loopPe_ok (T := tabJ []) (cx := cxS) cxS_ok (jm := none) (fuel := 400) (noBlocks_ok _ _) (fun y hy => by
 rcases List.mem_singleton.1 hy with rfl
 refine ⟨caseK.map fun c => ([(iK, c.1, c.2)], []), fun E _ _ hf => ?_, fun c hc => ?_⟩
 ·obtain ⟨c, hc, h⟩ := coverK hf
  refine ⟨_, List.mem_map.2 ⟨c, hc, rfl⟩, fun f hf => ?_, fun _ h => (by cases h)⟩
  rcases List.mem_singleton.1 hf with rfl
  exact h
 ·obtain ⟨c', hc', rfl⟩ := List.mem_map.1 hc
  exact okK_all c' hc')))
end Go.Proofs.Ytofmndcdcchflaa
