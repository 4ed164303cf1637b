/- Get: its contract. -/
import Derived.Test.YtofmndcdcchflaaGD
import Derived.Test.YtofmndcdcchflaaGPa
import Derived.Test.YtofmndcdcchflaaGPb
import Derived.Test.YtofmndcdcchflaaGPc
import Derived.Test.YtofmndcdcchflaaGRa
import Derived.Test.YtofmndcdcchflaaGRb
import Derived.Test.YtofmndcdcchflaaGRc
import Derived.Test.YtofmndcdcchflaaGRd
namespace Go.Proofs.Ytofmndcdcchflaa
open Go.Sx Go Go.DescNum
set_option maxRecDepth 100000
theorem rg_all {k : Nat} (hk : k ≤ 16) : okGet 22 k = true := by
 rcases (by omega : k = 0 ∨ k = 1 ∨ k = 2 ∨ k = 3 ∨ k = 4 ∨ k = 5 ∨ k = 6 ∨ k = 7 ∨ k = 8 ∨ k = 9 ∨ k = 10 ∨ k = 11 ∨ k = 12 ∨ k = 13 ∨ k = 14 ∨ k = 15 ∨ k = 16) with rfl | rfl | rfl | rfl | rfl | rfl | rfl | rfl | rfl | rfl | rfl | rfl | rfl | rfl | rfl | rfl | rfl
 ·exact rg0
 ·exact rg1
 ·exact rg2
 ·exact rg3
 ·exact rg4
 ·exact rg5
 ·exact rg6
 ·exact rg7
 ·exact rg8
 ·exact rg9
 ·exact rg10
 ·exact rg11
 ·exact rg12
 ·exact rg13
 ·exact rg14
 ·exact rg15
 ·exact rg16
theorem gp0_all {k : Nat} (hk : k ≤ 16) : okGetH 21 k 0 = true := by
 rcases (by omega : k = 0 ∨ k = 1 ∨ k = 2 ∨ k = 3 ∨ k = 4 ∨ k = 5 ∨ k = 6 ∨ k = 7 ∨ k = 8 ∨ k = 9 ∨ k = 10 ∨ k = 11 ∨ k = 12 ∨ k = 13 ∨ k = 14 ∨ k = 15 ∨ k = 16) with rfl | rfl | rfl | rfl | rfl | rfl | rfl | rfl | rfl | rfl | rfl | rfl | rfl | rfl | rfl | rfl | rfl
 ·exact gp0_0
 ·exact gp0_1
 ·exact gp0_2
 ·exact gp0_3
 ·exact gp0_4
 ·exact gp0_5
 ·exact gp0_6
 ·exact gp0_7
 ·exact gp0_8
 ·exact gp0_9
 ·exact gp0_10
 ·exact gp0_11
 ·exact gp0_12
 ·exact gp0_13
 ·exact gp0_14
 ·exact gp0_15
 ·exact gp0_16
theorem gp1_all {k : Nat} (hk : k ≤ 16) : okGetH 21 k 1 = true := by
 rcases (by omega : k = 0 ∨ k = 1 ∨ k = 2 ∨ k = 3 ∨ k = 4 ∨ k = 5 ∨ k = 6 ∨ k = 7 ∨ k = 8 ∨ k = 9 ∨ k = 10 ∨ k = 11 ∨ k = 12 ∨ k = 13 ∨ k = 14 ∨ k = 15 ∨ k = 16) with rfl | rfl | rfl | rfl | rfl | rfl | rfl | rfl | rfl | rfl | rfl | rfl | rfl | rfl | rfl | rfl | rfl
 ·exact gp1_0
 ·exact gp1_1
 ·exact gp1_2
 ·exact gp1_3
 ·exact gp1_4
 ·exact gp1_5
 ·exact gp1_6
 ·exact gp1_7
 ·exact gp1_8
 ·exact gp1_9
 ·exact gp1_10
 ·exact gp1_11
 ·exact gp1_12
 ·exact gp1_13
 ·exact gp1_14
 ·exact gp1_15
 ·exact gp1_16
structure Runs (f : Nat) : Prop where
 no : okNoV f = true
 many : okMany f = true
 some : ∀ k, k ≤ 16 → okGet f k = true ∨ ∀ z, z = 0 ∨ z = 1 → okGetH f k z = true
theorem runs21 : Runs 21 := ⟨gpN, gpM, fun _ hk => .inr fun z hz => by
 rcases hz with rfl | rfl
 ·exact gp0_all hk
 ·exact gp1_all hk⟩
theorem runs22 : Runs 22 := ⟨rgN, rgM, fun _ hk => .inl (rg_all hk)⟩
noncomputable def envA (V : List Int) (w : World) (b : Nat) (N : List Int) (s : Nat) : Env := { i := fun j => if j = 2 then (s : Int) else 0, b := fun _ => false, l := fun r => if r = 20 then N else [], base := fun x => if x = 46 then b else w.heap.size, o := fun _ => 0, v := fun _ => .tuple #[], f := G0 V }
theorem envA_ok {V : List Int} {w : World} {b : Nat} {N : List Int} {s : Nat} (hs : s < 12) (h64 : ∀ z ∈ N, in64 z) : (envA V w b N s).Ok := by
 refine ⟨fun j => ?_, fun r z hz => ?_, G0_in V⟩
 ·show in64 (if j = 2 then (s : Int) else 0)
  unfold in64 lo64 hi64
  split <;> omega
 ·replace hz : z ∈ (if r = 20 then N else []) := hz
  split at hz
  ·exact h64 z hz
  ·cases hz
def ArenaAt (w : World) (b : Nat) (N : List Int) : Prop := b < w.heap.size ∧ ∀ j, j < 634 → w.cell? ⟨b, j, none⟩ = some (.int .i64 (N.getD j 0))
theorem entA_ok {V : List Int} {w : World} {b : Nat} {N : List Int} {s : Nat} (h : ArenaAt w b N) : ∀ e ∈ [enG], e.ro = true ∧ EntOk (envA V w b N s) w e := fun e he => by
 obtain ⟨hb, hcells⟩ := h
 rcases List.mem_singleton.1 he with rfl
 refine ⟨rfl, ⟨hb, fun _ j v hv => ?_, fun h => (by cases h), fun _ x h => (by cases h)⟩⟩
 have hd : dl (envA V w b N s) enG.c = (List.range 634).map fun j => Value.int .i64 (N.getD j 0) := by
  show arrCells (envA V w b N s) .i64 20 634 .nil ++ [] = _
  rw [List.append_nil]
  rfl
 rw [hd, List.getElem?_map] at hv
 have hj : j < 634 := by
  rcases Nat.lt_or_ge j 634 with h | h
  ·exact h
  ·rw [List.getElem?_eq_none (by simpa using h)] at hv
   cases hv
 rw [List.getElem?_range hj] at hv
 cases hv
 show w.cell? ⟨b + 0, 0 + ((0 : Int).toNat + j), none⟩ = _
 rw [show b + 0 = b from rfl, show 0 + ((0 : Int).toNat + j) = j by simp]
 exact hcells j hj
theorem at_env {V : List Int} {w : World} {b : Nat} {N : List Int} {s : Nat} {E' : Env} (hA : Agree 60 (envA V w b N s) E') : At E' N s V := by
 refine ⟨hA.f.trans rfl, ?_, ?_⟩
 ·show (if (20 : Nat) = 0 then _ else E'.l 20) = N
  rw [if_neg (by decide), hA.l 20 (by omega)]
  rfl
 ·rw [hA.i 2 (by omega)]
  rfl
theorem at_env0 {V : List Int} {w : World} {b : Nat} {N : List Int} {s : Nat} : At (envA V w b N s) N s V := at_env (Agree.refl _ _)
theorem sem_desc {f : Nat} (hr : Runs f) {w : World} {b s : Nat} {N : List Int} (hs : s < 12) (h64 : ∀ z ∈ N, in64 z) (ha : ArenaAt w b N) : Calls Try.prog f #[.pointer (some ⟨b, 0, none⟩), .int .i64 (s : Int)] w fun e w' => Ext (fun _ => False) w w' ∧ GetRes w (words50 N s) e w' := by
 have hat : At (envA [] w b N s) N s [] := at_env0
 have f2 : FactOk (envA [] w b N s) (.var 2, 0, 11) := by
  show (0 : Int) ≤ s ∧ (s : Int) ≤ 11
  omega
 have v15 : ev (envA [] w b N s) (f1 715 (wE 1)) = if isN (words50 N s) 1 then 1 else 0 := by
  rw [f715 hat.f, wE_ev hat (by omega)]
  rfl
 have n1 := nE_ev hat (j := 1) (by omega)
 have hnum := numOf_in ((words50 N s).getD 1 0)
 have hnum : 0 ≤ valN (words50 N s) 1 ∧ valN (words50 N s) 1 ≤ 1099511627775 := hnum
 have go : ∀ {fs : List Fact} {chk : SV × Mem → Bool}, allOf (funC f [.ptr 46 0 (.lit 0), vi 2] (slMem [enG] fs 60)) chk = true → (∀ f ∈ fs, FactOk (envA [] w b N s) f) → (∀ (E' : Env) (q : SV × Mem) (w' : World), At E' N s [] → MemOk (fun _ => False) w E' q.2 w' → chk q = true → GetRes w (words50 N s) (.returned (dv E' q.1)) w') → Calls Try.prog f #[.pointer (some ⟨b, 0, none⟩), .int .i64 (s : Int)] w fun e w' => Ext (fun _ => False) w w' ∧ GetRes w (words50 N s) e w' := fun hrun hf hc => by
  obtain ⟨outs, ho, hall⟩ := allOf_ok hrun
  have := run_ro (funC_ok (V := []) f) ho (E := envA [] w b N s) (w := w) rfl (envA_ok hs h64) rfl rfl (entA_ok ha) hf
  refine this.mono ?_
  rintro e w' ⟨q, hq, E', hA, rfl, hm⟩
  exact ⟨hm.ext, hc E' q w' (at_env hA) hm (hall q hq)⟩
 have noX : ∀ (E' : Env) (q : SV × Mem) (w' : World), At E' N s [] → MemOk (fun _ => False) w E' q.2 w' → chkX q = true → GetRes w (words50 N s) (.returned (dv E' q.1)) w' := fun E' q w' h hm hq => by
  unfold chkX at hq
  split at hq
  ·rename_i heq
   unfold GetRes
   rw [if_neg (by rw [badHd_ok h hm.know hq]; exact Bool.false_ne_true), heq]
   rfl
  ·cases hq
 cases hv : isN (words50 N s) 1 with
 | false =>
  rw [hv] at v15
  exact go hr.no (fun f hf => by
   simp only [List.mem_cons, List.not_mem_nil, or_false] at hf
   rcases hf with rfl | rfl
   ·exact f2
   ·unfold FactOk
    dsimp only
    rw [v15]
    exact ⟨by decide, by decide⟩) noX
 | true =>
  rw [hv] at v15
  by_cases h17 : 17 ≤ valN (words50 N s) 1
  ·exact go hr.many (fun f hf => by
    simp only [List.mem_cons, List.not_mem_nil, or_false] at hf
    rcases hf with rfl | rfl | rfl
    ·exact f2
    ·unfold FactOk
     dsimp only
     rw [v15]
     exact ⟨by decide, by decide⟩
    ·unfold FactOk
     dsimp only
     rw [n1]
     exact ⟨h17, hnum.2⟩) noX
  ·have hk : (valN (words50 N s) 1).toNat ≤ 16 := by omega
   have hcount : valN (words50 N s) 1 = ((valN (words50 N s) 1).toNat : Int) := by omega
   have base : ∀ g ∈ facG (valN (words50 N s) 1).toNat, FactOk (envA [] w b N s) g := fun g hg => by
    simp only [facG, List.mem_cons, List.not_mem_nil, or_false] at hg
    rcases hg with rfl | rfl | rfl
    ·exact f2
    ·unfold FactOk
     dsimp only
     rw [n1]
     omega
    ·unfold FactOk
     dsimp only
     rw [v15]
     exact ⟨by decide, by decide⟩
   rcases hr.some _ hk with g | g
   ·exact go g base fun E' q w' h hm hq => chkG_ok h hk hcount hm hq
   ·have h0 := c821_ev hat.f (wE 0)
    rw [wE_ev hat (by omega)] at h0
    cases hh : hdOK ((words50 N s).getD 0 0) with
    | true =>
     rw [hh] at h0
     have h0 := of_decide_eq_true h0
     refine go (g 1 (.inr rfl)) (fun y hy => ?_) fun E' q w' h hm hq => chkG_ok h hk hcount hm hq
     rcases List.mem_cons.1 hy with rfl | hy
     ·unfold FactOk
      dsimp only
      rw [h0, ev_lit]
      omega
     ·exact base y hy
    | false =>
     rw [hh] at h0
     have h0 := of_decide_eq_false h0
     have h1 : ev (envA [] w b N s) (f1 821 (wE 0)) = 0 := by
      rw [f1_ev hat.f, wE_ev hat (by omega)]
      have h : fz [] 821 [(words50 N s).getD 0 0] = if hdOK ((words50 N s).getD 0 0) then 1 else 0 := rfl
      rw [h, hh, if_neg Bool.false_ne_true]
      exact small (by decide) (by decide)
     refine go (g 0 (.inl rfl)) (fun y hy => ?_) fun E' q w' h hm hq => chkG_ok h hk hcount hm hq
     rcases List.mem_cons.1 hy with rfl | hy
     ·unfold FactOk
      dsimp only
      rw [h1]
      omega
     ·exact base y hy
end Go.Proofs.Ytofmndcdcchflaa
