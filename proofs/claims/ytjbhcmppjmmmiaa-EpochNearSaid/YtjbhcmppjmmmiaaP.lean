/- two arenas, with words here and there: the loop. -/
import Derived.Test.YtjbhcmppjmmmiaaSR
namespace Go.Proofs.Ytjbhcmppjmmmiaa
open Go.Sx Go
set_option maxRecDepth 100000
noncomputable def spF : List (Nat × (List SV → X SV)) := [(62, getX), (39, isX), (50, sameX), (24, makeX aw)]
theorem okSpF : ∀ x ∈ spF, SpecOk G0 Try.prog x.1 x.2 := cons_ok (a := (62, getX)) getX_ok (cons_ok (a := (39, isX)) isX_ok (cons_ok (a := (50, sameX)) sameX_ok (one_ok (a := (24, makeX aw)) aw_ok)))
noncomputable def cxF : CX := callF (tabJ []) (spOf spF) (bxOf []) 400 12
theorem cxF_ok : CallsOk G0 Try.prog cxF := by
 unfold cxF
 rw [callF_eq]
 exact callD_ok (spOf_ok okSpF) noBx 400 12
noncomputable def slW (b : Nat) : SV := .sli b 0 (.var (b+1)) (.var (b+2)) (.var (b+3))
noncomputable def enW (b : Nat) : Ent := slE b (b+1) (b+2) (b+4) 1
noncomputable def faW (b : Nat) : List Fact := slF (b+1) (b+2) (b+3) hi64
noncomputable def touchV (a : Nat) : SV := .cons (vi a) (.cons (vi (a+1)) (.cons (vi (a+2)) (.cons (vi (a+3)) (.cons (vi (a+4)) (.cons (vi (a+5)) (.cons (vi (a+6)) (.cons (vi (a+7)) (.cons (.bool (.var (a+8))) .nil))))))))
noncomputable def arenaV (r a : Nat) : SV := .cons (.arr .i64 r (.lit 634) .nil) (touchV a)
noncomputable def arenas (s r a : Nat) : List Ent := [⟨s, 0, false, 95, .lit 0, arenaV r a⟩, ⟨s+1, 0, false, 92, .lit 0, arenaV r a⟩]
noncomputable def keptE (K : List Nat) : List Ent := K.map enW
noncomputable def keptF : List Nat → List Fact
 | [] => []
 | b :: l => faW b ++ keptF l
noncomputable def headP8 (K : List Nat) : HeadP := {
 tm := slotsN 59 [(0, slW 10), (1, slW 20), (4, .nilp), (5, .nilp), (6, .ptr 61 0 (.lit 0)), (7, .ptr 62 0 (.lit 0)), (8, vi 63)]
 mem := { know := ⟨(.var 63, 0, 30) :: (faW 10 ++ (faW 20 ++ keptF K)), []⟩, heap := arenas 61 64 65 ++ (enW 10 :: enW 20 :: keptE K), seg := 74, next := 0, nv := 80 }
 mu := .sub (.lit 30) (.var 63) }
noncomputable def leave8 (K : List Nat) : LeaveP := { e := .normal, tm := slotsN 59 [(4, .nilp), (5, .nilp), (6, .ptr 61 0 (.lit 0)), (7, .ptr 62 0 (.lit 0))], mem := { know := ⟨keptF K, []⟩, heap := arenas 61 64 65 ++ keptE K, seg := 74, next := 0, nv := 80 } }
noncomputable def ok8 (K : List Nat) : Bool := headOk (tabJ []) cxF (fun _ => none) none 400 0 (loopBody 0 (bodyOf Try.f9)) 60 [headP8 K] [leave8 K] (headP8 K)
theorem ok8_0 : ok8 [] = true := by kernel_rfl
theorem ok8_3 : ok8 [30] = true := by kernel_rfl
theorem ok8_4 : ok8 [40] = true := by kernel_rfl
theorem ok8_34 : ok8 [30, 40] = true := by kernel_rfl
noncomputable def loop8 (K : List Nat) : Fr → X (SX × Fr) := loopP 60 [headP8 K] [leave8 K]
theorem loop8_ok {K : List Nat} (h : ok8 K = true) : LxOk G0 Try.prog (9, 0, loop8 K) := by
 refine lx_ok Try.func9 (c := bodyOf Try.f9) rfl (b := loopBody 0 (bodyOf Try.f9)) (by kernel_rfl) (loopPc_ok (T := tabJ []) (cx := cxF) cxF_ok (jm := none) (fuel := 400) (noBlocks_ok _ _) (fun y hy => by
  rcases List.mem_singleton.1 hy with rfl
  exact ⟨[[]], fun _ _ _ => ⟨[], List.mem_singleton_self _, fun _ h => (by cases h)⟩, fun c hc => (by
   rcases List.mem_singleton.1 hc with rfl
   exact h)⟩))
end Go.Proofs.Ytjbhcmppjmmmiaa
