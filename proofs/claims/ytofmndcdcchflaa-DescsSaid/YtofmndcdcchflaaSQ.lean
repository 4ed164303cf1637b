/- rows of the same known numbers are the same. -/
import Derived.Test.YtofmndcdcchflaaMY
import Derived.Test.YtofmndcdcchflaaGX
import Derived.Test.YtofmndcdcchflaaSX
import Derived.Test.YtofmndcdcchflaaAW
import Derived.Test.YtofmndcdcchflaaFR
namespace Go.Proofs.Ytofmndcdcchflaa
open Go.Sx Go Go.DescNum
set_option maxRecDepth 100000
noncomputable def sameL (kn : Know) : List IE → List IE → Bool
 | [], [] => true
 | a :: l, b :: r => sameK kn a b && sameL kn l r
 | _, _ => false
theorem sameL_ok {E : Env} {kn : Know} (hk : KnowOk E kn) : ∀ {l r : List IE}, sameL kn l r = true → l.map (ev E) = r.map (ev E)
 | [], [], _ => rfl
 | [], b :: r, h => by cases h
 | a :: l, [], h => by cases h
 | a :: l, b :: r, h => by
  unfold sameL at h
  rw [Bool.and_eq_true] at h
  rw [List.map_cons, List.map_cons, sameK_ok hk h.1, sameL_ok hk h.2]
noncomputable def formSq (args : List SV) (m : Mem) : Option (SV × List Fact) := match args with
 | [v1, v2] => match rowM [v1] m, rowM [v2] m with
  | some (l1, k1), some (l2, k2) => cond (Nat.beq k1 k2 && sameL m.know l1 l2) (some (.bool (.lit true), [])) none
  | _, _ => none
 | _ => none
theorem formSq_ok {V : List Int} : SpecOk (G0 V) Try.prog 9 (pureX formSq) := pureX_ok fun F w0 E args m w v fs hgf hm hf => by
 unfold formSq at hf
 split at hf
 case h_2 => cases hf
 rename_i v1 v2
 split at hf
 case h_2 => cases hf
 rename_i l1 k1 l2 k2 hr1 hr2
 cases hc : (Nat.beq k1 k2 && sameL m.know l1 l2) with
 | false => rw [hc] at hf; cases hf
 | true =>
 rw [hc] at hf
 cases hf
 rw [Bool.and_eq_true] at hc
 have e := Nat.eq_of_beq_eq_true hc.1
 subst e
 have hl := sameL_ok hm.know hc.2
 obtain ⟨b, o, cap, a1, h1, h2, h3, h4, h5, h6⟩ := rowM_ok hm hr1
 obtain ⟨b', o', cap', a1', _, _, _, h4', h5', h6'⟩ := rowM_ok hm hr2
 rw [← hl] at h6'
 have d1 : dv E v1 = .slice (some ⟨b, o, none⟩) k1 cap := by
  have a1 : #[dv E v1] = #[.slice (some ⟨b, o, none⟩) k1 cap] := a1
  simpa using a1
 have d2 : dv E v2 = .slice (some ⟨b', o', none⟩) k1 cap' := by
  have a1' : #[dv E v2] = #[.slice (some ⟨b', o', none⟩) k1 cap'] := a1'
  simpa using a1'
 refine ⟨?_, fun _ h => (by cases h)⟩
 rw [show (([v1, v2] : List SV).map (dv E)).toArray = #[.slice (some ⟨b, o, none⟩) k1 cap, .slice (some ⟨b', o', none⟩) k1 cap'] by
  show #[dv E v1, dv E v2] = _
  rw [d1, d2]]
 exact semS (G0_in V) true (L := l1.map (ev E)) h2 h6 h6' h3 (by omega) h5 h5'
noncomputable def samNX : List SV → X SV := orX (pureX formSq) (sameX true)
theorem samNX_ok {V : List Int} : SpecOk (G0 V) Try.prog 9 samNX := orX_ok formSq_ok (sameX_ok (G0_in V) true)
end Go.Proofs.Ytofmndcdcchflaa
namespace Go.Proofs.Ytofmndcdcchflaa
open Go.Sx Go Go.DescNum
set_option maxRecDepth 100000
noncomputable def spB : List (Nat × (List SV → X SV)) := [(32, mayX 32), (35, mayX 35), (48, putX), (33, storesX), (21, backX), (56, getX), (45, isX), (23, makeX aw), (9, samNX), (18, stepX)]
theorem okSpB {V : List Int} : ∀ x ∈ spB, SpecOk (G0 V) Try.prog x.1 x.2 :=
 cons_ok (a := (32, mayX 32)) (mayX_ok sem32) (cons_ok (a := (35, mayX 35)) (mayX_ok sem35) (cons_ok (a := (48, putX)) putX_ok (cons_ok (a := (33, storesX)) (storesX_ok semSt) (cons_ok (a := (21, backX)) back21_ok
  (cons_ok (a := (56, getX)) getX_ok (cons_ok (a := (45, isX)) isX_ok (cons_ok (a := (23, makeX aw)) aw_ok (cons_ok (a := (9, samNX)) samNX_ok (one_ok (a := (18, stepX)) stepX_ok)))))))))
end Go.Proofs.Ytofmndcdcchflaa
