/- TakeLimbo's contract. -/
import Derived.Test.YtoemdbongkkmjaaR
namespace Go.Proofs.Ytoemdbongkkmjaa
open Go.Sx Go Go.LimboNum
set_option maxRecDepth 100000
noncomputable def loopK : Fr → X (SX × Fr) := liftB 100 loopT
theorem loopK_ok {N : List Int} {ep : Int} (h : In N ep) : LxOk (G0 N ep) Try.prog (12, 0, loopK) := lx_ok Try.func12 (c := bodyOf Try.f12) rfl (b := bodyT) (by kernel_rfl) (liftB_ok (loopT_ok h))
noncomputable def funK : List SV → X SV := callF (tabJ []) (spOf [(24, mayX)]) (bxOf [(12, 0, loopK)]) 400 12 12
theorem funK_ok {N : List Int} {ep : Int} (h : In N ep) : SpecOk (G0 N ep) Try.prog 12 funK := callF_ok (spOf_ok (one_ok (a := (24, mayX)) (mayX_ok h))) (bxOf_ok (by
 intro y hy
 rcases List.mem_singleton.1 hy with rfl
 exact loopK_ok h)) 400 12 12
noncomputable def goodF : List Fact := [(.sub (g0 1103) (g0 1105), 0, 0), (.sub (g0 1105) (g0 1103), 0, 0), (minus (g0 1103) (g0 1105), 0, 0)]
noncomputable def takeF : List Fact := (minus (.var 50) (g0 1104), 0, 0) :: (.var 50, 0, 1073741823) :: (g1 1101 (.lit 0), 0, 0) :: (g1 1102 (.lit 0), 0, 0) :: goodF
noncomputable def outK (a : Bool) : SV := cond a (.sli 2 0 (.lit 0) (g0 1106) (.add (g0 1106) (.var 4))) .nils
noncomputable def restK (b : Bool) : SV := cond b (.sli 3 0 (.lit 0) (g0 1107) (.add (g0 1107) (.var 5))) .nils
noncomputable def outKE (a : Bool) : List Ent := cond a [entT 2 3 (.cons (.arr .i64 1000002 (g0 1106) .nil) (.cons (.arr .i64 0 (.var 4) .nil) .nil))] []
noncomputable def restKE (b : Bool) : List Ent := cond b [entT 3 44 (.cons (.arr .i64 1000003 (.mul (g0 1107) (.lit 2)) .nil) (.cons (.arr .i64 0 (.mul (.var 5) (.lit 2)) .nil) .nil))] []
noncomputable def outKF (a : Bool) : List Fact := cond a [(g0 1106, 1, most), (.var 4, 0, most2), (.add (g0 1106) (.var 4), 0, hi64)] [(g0 1106, 0, 0)]
noncomputable def restKF (b : Bool) : List Fact := cond b [(g0 1107, 1, most), (.var 5, 0, most2), (.add (g0 1107) (.var 5), 0, hi64)] [(g0 1107, 0, 0)]
noncomputable def leafK (a b : Bool) : SV × Mem := (.tup (.cons (outK a) (.cons (restK b) (.cons (.int .i64 (.lit 0)) .nil))), { know := ⟨outKF a ++ restKF b, []⟩, heap := outKE a ++ restKE b, seg := 6, next := 0, nv := 7 })
noncomputable def leavesK : List (SV × Mem) := [leafK false false, leafK true false, leafK false true, leafK true true]
theorem runK : allOf (funK [slR 20, vi 50] (slMem [enR 20] (takeF ++ factsR) 60)) (leaf leavesK) = true := by kernel_rfl
noncomputable def formK (args : List SV) (m : Mem) : Bool := match args with
 | [v, .int .i64 e] => rowR m v && (yes m.know eqGood && (factIn m.know (minus e (g0 1104)) 0 0 && factIn m.know e 0 1073741823))
 | _ => false
theorem takeK_gen {N : List Int} {ep : Int} (h : In N ep) {f : Nat} {s : List SV → X SV} (hs : SpecOk (G0 N ep) Try.prog f s) (hrun : allOf (s [slR 20, vi 50] (slMem [enR 20] (takeF ++ factsR) 60)) (leaf leavesK) = true) : SpecOk (G0 N ep) Try.prog f (besideX formK leavesK) := besideX_ok fun F w0 E args m w hE hm hf => by
 unfold formK at hf
 split at hf
 case h_2 => cases hf
 rename_i v e
 simp only [Bool.and_eq_true] at hf
 obtain ⟨f1, f2, f3, f4⟩ := hf
 obtain ⟨bl, o, cap, e1, e2, e3, e4, e5⟩ := rowR_ok h hE hm f1
 have f2 : decide (ev E (g0 1103) = ev E (g0 1105)) = true := again_true hm.know f2
 rw [decide_eq_true_eq, ev1103 h hE, ev1105 h hE] at f2
 have f3 := factIn_ok hm.know f3
 rw [ev_minus, ev1104 h hE] at f3
 have f4 := factIn_ok hm.know f4
 have hR : (envR N ep w bl o cap).f = G0 N ep := rfl
 have call := run_leaf h hs (args := [slR 20, vi 50]) (fs := takeF) (ls := leavesK) hrun e2 e3 e4 e5 (fun f hx => by
  have h50 : ev (envR N ep w bl o cap) (.var 50) = ep := rfl
  simp only [takeF, goodF, List.mem_cons, List.not_mem_nil, or_false] at hx
  unfold FactOk
  rcases hx with rfl | rfl | rfl | rfl | rfl | rfl | rfl
  ·dsimp only; rw [ev_minus, ev1104 h hR, h50]; omega
  ·dsimp only; rw [h50]; omega
  ·dsimp only; rw [ev1101 h hR (by rw [ev_lit]; omega), ev_lit]; exact ⟨Int.le_refl 0, Int.le_refl 0⟩
  ·dsimp only; rw [ev1102 h hR (by rw [ev_lit]; omega), ev_lit]; exact ⟨Int.le_refl 0, Int.le_refl 0⟩
  ·dsimp only; rw [ev_sub, ev1103 h hR, ev1105 h hR]; omega
  ·dsimp only; rw [ev_sub, ev1103 h hR, ev1105 h hR]; omega
  ·dsimp only; rw [ev_minus, ev1103 h hR, ev1105 h hR]; omega)
 have ha : (([slR 20, vi 50] : List SV).map (dv (envR N ep w bl o cap))).toArray = (([v, .int .i64 e] : List SV).map (dv E)).toArray := by
  show #[Value.slice (some ⟨bl + 0, o + (0 : Int).toNat, none⟩) (many N : Int).toNat (cap : Int).toNat, .int .i64 ep] = #[dv E v, .int .i64 (ev E e)]
  rw [e1, show ev E e = ep by omega]
  simp
 rw [ha] at call
 exact call
noncomputable def takeX : List SV → X SV := besideX formK leavesK
theorem takeK_ok {N : List Int} {ep : Int} (h : In N ep) : SpecOk (G0 N ep) Try.prog 12 takeX := takeK_gen h (funK_ok h) runK
end Go.Proofs.Ytoemdbongkkmjaa
