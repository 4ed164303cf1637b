/- views that may not be. -/
import Derived.Test.YtnfmmiomomgabaaV
namespace Go.Proofs.Ytnfmmiomomgabaa
set_option maxRecDepth 100000
open Go.Sx Go.ChangeShapes Go.WideShapes Go.ChangeAt Go.RowKit Go.Deep
noncomputable def boolOf : Option (List (SV × Mem)) → BE | some [(.bool c, _)] => c | _ => .lit true
noncomputable def cVa : BE := boolOf (mergeX (fun0 35) [viewV 20 6 7] (memF []))
noncomputable def cVb : BE := boolOf (mergeX (fun0 23) [viewV 20 6 7] (memF []))
noncomputable def need (r : Nat) : Nat → List BE | 0 => [] | n+1 => .not (.lt (.sel r (.lit n)) (.lit 0)) :: .not (.lt (.lit 1099511627775) (.sel r (.lit n))) :: need r n
noncomputable def covers (c : BE) : Bool := match wholeB c with | some (p, _) => (need 6 16 ++ need 7 16).all fun x => p.contains x | none => false
theorem coversA : covers cVa = true := by kernel_rfl
theorem coversB : covers cVb = true := by kernel_rfl
theorem need_mem {r : Nat} : ∀ {n i : Nat}, i < n → BE.not (.lt (.sel r (.lit i)) (.lit 0)) ∈ need r n ∧ BE.not (.lt (.lit 1099511627775) (.sel r (.lit i))) ∈ need r n
  | n + 1, i, h => by
    unfold need
    by_cases e : i = n
    · subst e; exact ⟨List.mem_cons_self, List.mem_cons_of_mem _ List.mem_cons_self⟩
    · obtain ⟨h1, h2⟩ := need_mem (r := r) (show i < n by omega)
      exact ⟨List.mem_cons_of_mem _ (List.mem_cons_of_mem _ h1), List.mem_cons_of_mem _ (List.mem_cons_of_mem _ h2)⟩
theorem c_false {w : World} {cs : List Value} {ints : List (Nat × List Int)} (hn : ¬ AllMay cs) {c : BE} (hc : covers c = true) : evB (envV w cs ints) (.not c) = true := by
  show (!evB (envV w cs ints) c) = true
  cases hb : evB (envV w cs ints) c with
  | false => rfl
  | true =>
    exfalso
    apply hn
    unfold covers at hc
    split at hc
    · rename_i p q hp
      have all := (wholeB_ok (E := envV w cs ints) hp).1 hb
      rw [List.all_eq_true] at hc
      have key : ∀ x ∈ need 6 16 ++ need 7 16, evB (envV w cs ints) x = true := fun x hx => all x (by simpa using hc x hx)
      intro i hi
      by_cases h16 : i < 16
      · obtain ⟨m1, m2⟩ := need_mem (r := 6) h16
        have e1 := key _ (List.mem_append_left _ m1)
        have e2 := key _ (List.mem_append_left _ m2)
        have r1 := (row_at (w := w) (cs := cs) (ints := ints) i h16).1
        simp only [evB, r1, ev_lit, Bool.not_eq_true', decide_eq_false_iff_not] at e1 e2
        omega
      · obtain ⟨m1, m2⟩ := need_mem (r := 7) (show i - 16 < 16 by omega)
        have e1 := key _ (List.mem_append_right _ m1)
        have e2 := key _ (List.mem_append_right _ m2)
        have r1 := (row_at (w := w) (cs := cs) (ints := ints) (i - 16) (by omega)).2
        rw [show 32 + (i - 16) = 16 + i by omega] at r1
        simp only [evB, r1, ev_lit, Bool.not_eq_true', decide_eq_false_iff_not] at e1 e2
        omega
    · cases hc
/-- a memory that knows that the view may not be -/
noncomputable def withB {α : Type} (fs : List Fact) (k : Mem → α) : α := nfB cVa fun c => nfB cVb fun d => k { mem0 50 with know := ⟨fs, [.not c, .not d]⟩ }
theorem run_B {f : Nat} {s : List SV → X SV} (hs : SpecOk G0 Try.prog f s) {fs : List Fact} {oa : SV} (hrun : allOf (withB fs fun m => s [viewV 20 6 7, oa] m) isTrue = true) {w : World} {cs : List Value} (hc : IsView cs) (hn : ¬ AllMay cs) {k a b x : Int} (hk : in64 k) (ha : in64 a) (hb : in64 b) (hx : in64 x)
    (ho : dv (envV w cs (opInts k a b x)) oa = opVal k a b x) (hf : ∀ f ∈ fs, FactOk (envV w cs (opInts k a b x)) f) :
    Calls Try.prog f #[.agg cs.toArray, opVal k a b x] w fun r w' => r = .returned (.bool true) ∧ Below w.heap.size w w' := by
  unfold withB at hrun
  rw [nfB_eq, nfB_eq] at hrun
  have hE : (envV w cs (opInts k a b x)).Ok := envV_ok hc fun y hy z hz => by
    simp only [List.mem_cons, List.not_mem_nil, or_false] at hy
    rcases hy with rfl | rfl | rfl | rfl <;> (simp only [List.mem_cons, List.not_mem_nil, or_false] at hz; subst hz; assumption)
  have hm := slMem_ok (w := w) (E := envV w cs (opInts k a b x)) (ents := []) (fs := fs) 50 hE rfl rfl (fun _ h => (by cases h)) hf
  have hm' : MemOk (fun _ => False) w (envV w cs (opInts k a b x)) { mem0 50 with know := ⟨fs, [.not cVa, .not cVb]⟩ } w :=
    ⟨⟨hE, hf, fun c h => by
      simp only [List.mem_cons, List.not_mem_nil, or_false] at h
      rcases h with rfl | rfl
      · exact c_false hn coversA
      · exact c_false hn coversB⟩, hm.size, hm.ents, hm.apart, hm.mine, hm.ext, hm.seg0⟩
  have := law_ok hs hrun (E := envV w cs (opInts k a b x)) (w := w) rfl hm'
  simp only [List.map_cons, List.map_nil] at this
  rw [view_val hc (fun i hi => by
    unfold lookR; rw [if_neg (by omega)]; unfold lookR; rw [if_neg (by omega)]; unfold lookR; rw [if_neg (by omega)]; unfold lookR; rw [if_neg (by omega)]; rfl), ho] at this
  exact this
end Go.Proofs.Ytnfmmiomomgabaa
