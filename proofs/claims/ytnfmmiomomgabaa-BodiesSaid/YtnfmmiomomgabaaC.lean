/- views that may not be. -/
import Derived.Test.YtnfmmiomomgabaaV
namespace Go.Proofs.Ytnfmmiomomgabaa
set_option maxRecDepth 100000
open Go.Sx Go.ChangeShapes Go.WideShapes Go.ChangeAt Go.RowKit Go.Deep
noncomputable def boolOf : Option (List (SV × Mem)) → BE | some [(.bool c, _)] => c | _ => .lit true
noncomputable def cVa : BE := boolOf (mergeX (fun0 35) [viewV 20 6 7] (memF []))
noncomputable def cVb : BE := boolOf (mergeX (fun0 23) [viewV 20 6 7] (memF []))
noncomputable def need (r : Nat) : Nat → List BE | 0 => [] | n+1 => .not (.lt (.sel r (.lit n)) (.lit 0)) :: .not (.lt (.lit 1099511627775) (.sel r (.lit n))) :: need r n
noncomputable def covers (c : BE) : Bool := match wholeB c with | some (p, _) => (need 6 16 ++ need 7 16).all fun x => p.contains x | none => false
theorem coversA : covers cVa = true := by kernel_rfl
theorem coversB : covers cVb = true := by kernel_rfl
theorem need_mem {r : Nat} : ∀ {n i : Nat}, i < n → BE.not (.lt (.sel r (.lit i)) (.lit 0)) ∈ need r n ∧ BE.not (.lt (.lit 1099511627775) (.sel r (.lit i))) ∈ need r n
 | n + 1, i, h => by
  unfold need
  by_cases e : i = n
  ·subst e; exact ⟨List.mem_cons_self, List.mem_cons_of_mem _ List.mem_cons_self⟩
  ·obtain ⟨h1, h2⟩ := need_mem (r := r) (show i < n by omega)
   exact ⟨List.mem_cons_of_mem _ (List.mem_cons_of_mem _ h1), List.mem_cons_of_mem _ (List.mem_cons_of_mem _ h2)⟩
theorem c_false {w : World} {cs : List Value} {ints : List (Nat × List Int)} (hn : ¬ AllMay cs) {c : BE} (hc : covers c = true) : evB (envV w cs ints) (.not c) = true := by
 show (!evB (envV w cs ints) c) = true
 cases hb : evB (envV w cs ints) c with
 | false => rfl
 | true =>
  exfalso
  apply hn
  unfold covers at hc
  split at hc
  ·rename_i p q hp
   have all := (wholeB_ok (E := envV w cs ints) hp).1 hb
   rw [List.all_eq_true] at hc
   have key : ∀ x ∈ need 6 16 ++ need 7 16, evB (envV w cs ints) x = true := fun x hx => all x (by simpa using hc x hx)
   intro i hi
   by_cases h16 : i < 16
   ·obtain ⟨m1, m2⟩ := need_mem (r := 6) h16
    have e1 := key _ (List.mem_append_left _ m1)
    have e2 := key _ (List.mem_append_left _ m2)
    have r1 := (row_at (w := w) (cs := cs) (ints := ints) i h16).1
    simp only [evB, r1, ev_lit, Bool.not_eq_true', decide_eq_false_iff_not] at e1 e2
    omega
   ·obtain ⟨m1, m2⟩ := need_mem (r := 7) (show i - 16 < 16 by omega)
    have e1 := key _ (List.mem_append_right _ m1)
    have e2 := key _ (List.mem_append_right _ m2)
    have r1 := (row_at (w := w) (cs := cs) (ints := ints) (i - 16) (by omega)).2
    rw [show 32 + (i - 16) = 16 + i by omega] at r1
    simp only [evB, r1, ev_lit, Bool.not_eq_true', decide_eq_false_iff_not] at e1 e2
    omega
  ·cases hc
noncomputable def withB {α : Type} (fs : List Fact) (k : Mem → α) : α := nfB cVa fun c => nfB cVb fun d => k { mem0 50 with know := ⟨fs, [.not c, .not d]⟩ }
end Go.Proofs.Ytnfmmiomomgabaa
