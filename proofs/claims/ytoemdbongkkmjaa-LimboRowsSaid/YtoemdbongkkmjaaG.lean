/- Limbos, by its runs. -/
import Derived.Test.YtoemdbongkkmjaaN
import Derived.Test.YtoemdbongkkmjaaB
namespace Go.Proofs.Ytoemdbongkkmjaa
open Go.Sx Go Go.LimboNum
set_option maxRecDepth 100000
noncomputable def clash (kn : Know) (es : List IE) : Bool := es.any fun e => kn.facts.any fun f => ieEq f.1 e && kn.facts.any fun g => ieEq g.1 e && decide (g.2.2 < f.2.1)
theorem clash_ok {E : Env} {kn : Know} (h : KnowOk E kn) (es : List IE) : clash kn es = false := by
 cases hc : clash kn es with
 | false => rfl
 | true =>
  unfold clash at hc
  obtain ⟨e, _, hc⟩ := List.any_eq_true.1 hc
  obtain ⟨f, hf, hc⟩ := List.any_eq_true.1 hc
  rw [Bool.and_eq_true] at hc
  obtain ⟨h1, hc⟩ := hc
  obtain ⟨g, hg, hc⟩ := List.any_eq_true.1 hc
  rw [Bool.and_eq_true, decide_eq_true_eq] at hc
  have a := h.facts f hf
  have b := h.facts g hg
  unfold FactOk at a b
  rw [ieEq_ok h1] at a
  rw [ieEq_ok hc.1] at b
  omega
noncomputable def pruneC (es : List IE) (s : List SV → X SV) : List SV → X SV := fun args m => match s args m with
 | some outs => some (outs.filter fun q => !clash q.2.know es)
 | none => none
theorem pruneC_ok {G : Gf} {P : Program} {f : Nat} {s : List SV → X SV} (es : List IE) (hs : SpecOk G P f s) : SpecOk G P f (pruneC es s) := by
 intro F w0 E args m outs' w hgf ho hm
 unfold pruneC at ho
 cases hr : s args m with
 | none => rw [hr] at ho; cases ho
 | some outs =>
 rw [hr] at ho
 cases ho
 refine (hs F w0 E args m outs w hgf hr hm).mono ?_
 rintro e w' ⟨q, hq, E', hL, rfl, hm'⟩
 exact ⟨q, List.mem_filter.2 ⟨hq, by rw [clash_ok hm'.know]; rfl⟩, E', hL, rfl, hm'⟩
noncomputable def takeP : List SV → X SV := pruneC [g0 1106, g0 1107] takeX
noncomputable def may21 : List SV → X SV := orX mayX (fun0 21)
noncomputable def may24 : List SV → X SV := orX mayX (fun0 24)
noncomputable def take11 : List SV → X SV := orX takeP (callF (tabJ []) (spOf [(21, may21)]) (bxOf []) 400 12 11)
noncomputable def take12 : List SV → X SV := orX takeP (callF (tabJ []) (spOf [(24, may24)]) (bxOf []) 400 12 12)
noncomputable def spG : List (Nat × (List SV → X SV)) := [(21, may21), (24, may24), (11, take11), (12, take12), (13, sameX true), (15, sameX false), (16, spoilX true), (17, spoilX false), (19, makeX aw)]
theorem okSpG {N : List Int} {ep : Int} (h : In N ep) : ∀ x ∈ spG, SpecOk (G0 N ep) Try.prog x.1 x.2 :=
 have m1 : SpecOk (G0 N ep) Try.prog 21 may21 := orX_ok (mayN_ok h) (fun0_ok 21)
 have m4 : SpecOk (G0 N ep) Try.prog 24 may24 := orX_ok (mayX_ok h) (fun0_ok 24)
 cons_ok (a := (21, may21)) m1 (cons_ok (a := (24, may24)) m4
  (cons_ok (a := (11, take11)) (orX_ok (pruneC_ok _ (takeQ_ok h)) (callF_ok (spOf_ok (one_ok (a := (21, may21)) m1)) noBx 400 12 11))
  (cons_ok (a := (12, take12)) (orX_ok (pruneC_ok _ (takeK_ok h)) (callF_ok (spOf_ok (one_ok (a := (24, may24)) m4)) noBx 400 12 12))
  (cons_ok (a := (13, sameX true)) (sameX_ok (G0_in N ep) true) (cons_ok (a := (15, sameX false)) (sameX_ok (G0_in N ep) false)
  (cons_ok (a := (16, spoilX true)) (spoilX_ok (G0_in N ep) true) (cons_ok (a := (17, spoilX false)) (spoilX_ok (G0_in N ep) false) (one_ok (a := (19, makeX aw)) aw_ok))))))))
noncomputable def funG (f : Nat) : List SV → X SV := callF (tabJ []) (spOf spG) (bxOf []) 400 12 f
theorem funG_ok {N : List Int} {ep : Int} (h : In N ep) (f : Nat) : SpecOk (G0 N ep) Try.prog f (funG f) := callF_ok (spOf_ok (okSpG h)) noBx 400 12 f
noncomputable def factG : List Fact := (minus (.var 22) (g0 1105), 0, 0) :: (.var 22, 1, most) :: (minus (.var 2) (g0 1104), 0, 0) :: (g0 1103, 0, most) :: (g1 1101 (.lit 0), 0, 0) :: (g1 1102 (.lit 0), 0, 0) :: faR 20
noncomputable def goodG (b : Bool) : List Fact := cond b goodF [(gapM, 1, most), (.sub (g0 1105) (g0 1103), 1, most), (.sub (g0 1103) (g0 1105), -most, -1)]
noncomputable def okG (b : Bool) (l : List Fact) : Bool := allOf (funG 3 [slR 20, vi 1, vi 2] (slMem [enR 20] (l ++ (goodG b ++ factG)) 60)) isTrue
noncomputable def allOk3 (p : Nat → Nat → Bool) : Bool := [0, 1, 2].all fun i => [0, 1, 2].all fun j => p i j
noncomputable def epG (k : Nat) : Fact := match k with
 | 0 => (.var 2, lo64, -1)
 | 1 => (.var 2, 0, 1073741823)
 | _ => (.var 2, 1073741824, hi64)
noncomputable def slG (k : Nat) : Fact := match k with
 | 0 => (.var 1, lo64, -1)
 | 1 => (.var 1, 0, 11)
 | _ => (.var 1, 12, hi64)
noncomputable def sl0 (nil : Bool) : SV := cond nil .nils (.sli 20 0 (.var 21) (.lit 0) (.var 23))
noncomputable def fa0 : List Fact := [(.var 21, 0, hi64), (.var 23, 0, hi64)]
noncomputable def okG0 (nil : Bool) : Bool := allOf (funB spB 3 [sl0 nil, vi 1, vi 2] (slMem [] fa0 60)) isTrue
theorem g00 : okG0 true = true := by kernel_rfl
theorem g01 : okG0 false = true := by kernel_rfl
theorem gb : (allOk3 fun i j => okG false [slG i, epG j]) = true := by kernel_rfl
theorem gg : (allOk3 fun i j => okG true [slG i, epG j]) = true := by kernel_rfl
end Go.Proofs.Ytoemdbongkkmjaa
