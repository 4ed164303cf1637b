/- FreeCounts: its loop by the rounds. -/
import Derived.Test.YtalkfdkcimfmpaaXa
import Derived.Test.YtalkfdkcimfmpaaXb
import Derived.Test.YtalkfdkcimfmpaaXc
import Derived.Test.YtalkfdkcimfmpaaXd
import Derived.Test.YtalkfdkcimfmpaaXe
import Derived.Test.YtalkfdkcimfmpaaXf
import Derived.Test.YtalkfdkcimfmpaaXg
import Derived.Test.YtalkfdkcimfmpaaXh
namespace Go.Proofs.Ytalkfdkcimfmpaa
open Go.Sx Go
set_option maxRecDepth 100000
noncomputable def endZ (z : Int) : SV → SV
 | .wr i x ws => .wr i x (endZ z ws)
 | _ => .wr (.lit z) (.lit 0) .nil
theorem endZ_ok (E : Env) {z : Int} {j : Nat} : ∀ {ws : SV}, wLits ws = true → wFind z ws = none → wsVal E 0 (endZ z ws) j = wsVal E 0 ws j := by
 intro ws
 induction ws with
 | nil =>
  intro _ _
  show (if ev E (.lit z) = (j : Int) then ev E (.lit 0) else wsVal E 0 .nil j) = wsVal E 0 .nil j
  have : wsVal E 0 .nil j = 0 := rfl
  rw [this, ev_lit, ev_lit]
  split <;> rfl
 | wr i x ws ih =>
  intro h1 h2
  cases i with
  | lit y =>
   unfold wLits at h1
   unfold wFind at h2
   split at h2
   ·cases h2
   ·show (if ev E (.lit y) = (j : Int) then ev E x else wsVal E 0 (endZ z ws) j) = (if ev E (.lit y) = (j : Int) then ev E x else wsVal E 0 ws j)
    rw [ih h1 h2]
  | _ => simp [wLits] at h1
 | _ => intro h1; simp [wLits] at h1
noncomputable def zeroE (z : Int) (e : Ent) : Ent := match e.ro, e.c with
 | false, .cons (.arr k 0 n ws) r => cond (wLits ws && (match wFind z ws with | none => true | some _ => false)) { e with c := .cons (.arr k 0 n (endZ z ws)) r } e
 | _, _ => e
theorem zeroE_same (E : Env) (z : Int) (e : Ent) : SameE E e (zeroE z e) := by
 unfold zeroE
 split
 ·rename_i k n ws r h1 h2
  cases hc : (wLits ws && (match wFind z ws with | none => true | some _ => false)) with
  | false => exact .inl rfl
  | true =>
   rw [Bool.and_eq_true] at hc
   have hn : wFind z ws = none := by
    cases hq : wFind z ws with
    | none => rfl
    | some x => rw [hq] at hc; cases hc.2
   refine .inr ⟨h1, rfl, ?_⟩
   rw [h2]
   show arrCells E k 0 (ev E n).toNat (endZ z ws) ++ dl E r = arrCells E k 0 (ev E n).toNat ws ++ dl E r
   congr 1
   unfold arrCells
   exact List.map_congr_left fun j _ => by rw [endZ_ok E hc.1 hn]
 ·exact .inl rfl
noncomputable def zeroB (z : Int) (s : Fr → X (SX × Fr)) : Fr → X (SX × Fr) := fun tm m => s tm { m with heap := m.heap.map (zeroE z) }
theorem two_map {E : Env} {z : Int} : ∀ l : List Ent, Two (SameE E) l (l.map (zeroE z))
 | [] => .nil
 | e :: l => .cons (zeroE_same E z e) (two_map l)
theorem zeroB_ok {c : Code} {z : Int} {s : Fr → X (SX × Fr)} (hs : CodeOk G0 Try.prog c s) : CodeOk G0 Try.prog c (zeroB z s) := by
 intro F w0 E tm a m w outs hgf ho hm ha
 have hall := two_map (E := E) (z := z) m.heap
 refine hs F w0 E tm a { m with heap := m.heap.map (zeroE z) } w outs hgf ho ⟨hm.know, hm.size, fun e' he' => ?_, forall2_pairwise hall hm.apart, fun e' he' hr' => ?_, hm.ext, hm.seg0⟩ ha
 ·obtain ⟨e, he, hr⟩ := forall2_mem hall he'
  have ok := hm.ents e he
  rcases hr with rfl | ⟨hro, heq, hdl⟩
  ·exact ok
  ·rw [heq]
   refine ⟨ok.lt, fun h => ?_, fun _ => ?_, fun h => ?_⟩
   ·exact absurd (show e.ro = true from h) (by rw [hro]; exact Bool.false_ne_true)
   ·obtain ⟨o1, o2⟩ := ok.own hro
    refine ⟨o1, ?_⟩
    show w.heap[e.blk E]? = some (.cells (dl E e'.c).toArray e.t (0, 0))
    rw [hdl]
    exact o2
   ·exact absurd (show e.ro = true from h) (by rw [hro]; exact Bool.false_ne_true)
 ·obtain ⟨e, he, hr⟩ := forall2_mem hall he'
  rcases hr with rfl | ⟨hro, heq, _⟩
  ·exact hm.mine _ he hr'
  ·rw [heq]
   exact hm.mine e he hro
noncomputable def allHeads : List HeadT := (List.range 13).map headX
noncomputable def casesXs : List CaseT := [caseX 0, caseX 1, caseX 2]
theorem coverX {E : Env} (hE : E.Ok) : ∃ c ∈ casesXs, (∀ f ∈ c.fs, FactOk E f) ∧ ∀ b ∈ c.bs, evB E b = true := by
 have h := rng_ok hE (fs := []) (fun _ h => (by cases h)) (.rem (.bit .and .i64 (.sel 14 iX) (.lit 1023)) (.lit 3))
 rw [show rng [] (.rem (.bit .and .i64 (.sel 14 iX) (.lit 1023)) (.lit 3)) = (0, 2) by kernel_rfl] at h
 have use : ∀ k : Nat, caseX k ∈ casesXs → ev E (.rem (.bit .and .i64 (.sel 14 iX) (.lit 1023)) (.lit 3)) = (k : Int) → ∃ c ∈ casesXs, (∀ f ∈ c.fs, FactOk E f) ∧ ∀ b ∈ c.bs, evB E b = true := fun k hm he => ⟨_, hm, fun f hf => by
  rcases List.mem_singleton.1 hf with rfl
  unfold FactOk kX
  dsimp only
  omega, fun _ h => (by cases h)⟩
 dsimp only at h
 rcases (by omega : ev E (.rem (.bit .and .i64 (.sel 14 iX) (.lit 1023)) (.lit 3)) = 0 ∨ ev E (.rem (.bit .and .i64 (.sel 14 iX) (.lit 1023)) (.lit 3)) = 1 ∨ ev E (.rem (.bit .and .i64 (.sel 14 iX) (.lit 1023)) (.lit 3)) = 2) with h | h | h
 ·exact use 0 (List.mem_of_getElem? (i := 0) rfl) h
 ·exact use 1 (List.mem_of_getElem? (i := 1) rfl) h
 ·exact use 2 (List.mem_of_getElem? (i := 2) rfl) h
theorem headsX_sub {n : Nat} (hn : n < 13) : ∀ x ∈ headsX n, x ∈ allHeads := by
 intro x hx
 have put : ∀ k, k < 13 → headX k ∈ allHeads := fun k hk => List.mem_map.2 ⟨k, List.mem_range.2 hk, rfl⟩
 unfold headsX at hx
 cases hc : Nat.blt n 12 with
 | true =>
  rw [hc] at hx
  have h12 : n < 12 := by simpa [Nat.blt_eq] using hc
  simp only [cond, List.mem_cons, List.not_mem_nil, or_false] at hx
  rcases hx with rfl | rfl
  ·exact put n hn
  ·exact put (n + 1) (by omega)
 | false =>
  rw [hc] at hx
  rcases List.mem_singleton.1 hx with rfl
  exact put n hn
theorem allX_ok {n k : Nat} (hn : n < 13) (h : allX n k = true) {t : Nat} (ht : t < 25) : headOkT (tabJ []) cxF (fun _ => none) none 400 0 bodyX 100 grpsX allHeads [leaveX] (headX n) (caseX k) t = true :=
 headOkT_sub (headsX_sub hn) (List.all_eq_true.1 h t (List.mem_range.2 ht))
noncomputable def loopXc : Fr → X (SX × Fr) := zeroB 28 (liftB 100 (loopT 100 grpsX allHeads [leaveX]))
theorem roundX {n : Nat} (hn : n < 13) (h0 : allX n 0 = true) (h1 : allX n 1 = true) (h2 : allX n 2 = true) : ∀ c ∈ casesXs, ∀ t < nTem grpsX c, headOkT (tabJ []) cxF (fun _ => none) none 400 0 bodyX 100 grpsX allHeads [leaveX] (headX n) c t = true := by
 intro c hc t ht
 unfold casesXs at hc
 simp only [List.mem_cons, List.not_mem_nil, or_false] at hc
 rcases hc with rfl | rfl | rfl
 ·exact allX_ok hn h0 ht
 ·exact allX_ok hn h1 ht
 ·exact allX_ok hn h2 ht
theorem loopX_all : CodeOk G0 Try.prog (.block 0 (.loop bodyX)) loopXc := zeroB_ok (liftB_ok (loopT_ok (T := tabJ []) (cx := cxF) cxF_ok (jm := none) (fuel := 400) (noBlocks_ok _ _) (fun h hh => by
 obtain ⟨n, hn, rfl⟩ := List.mem_map.1 hh
 have hn := List.mem_range.1 hn
 refine ⟨casesXs, fun E _ hE _ => coverX hE, ?_⟩
 rcases (by omega : n = 0 ∨ n = 1 ∨ n = 2 ∨ n = 3 ∨ n = 4 ∨ n = 5 ∨ n = 6 ∨ n = 7 ∨ n = 8 ∨ n = 9 ∨ n = 10 ∨ n = 11 ∨ n = 12) with rfl | rfl | rfl | rfl | rfl | rfl | rfl | rfl | rfl | rfl | rfl | rfl | rfl
 ·exact roundX hn x0_0 x0_1 x0_2
 ·exact roundX hn x1_0 x1_1 x1_2
 ·exact roundX hn x2_0 x2_1 x2_2
 ·exact roundX hn x3_0 x3_1 x3_2
 ·exact roundX hn x4_0 x4_1 x4_2
 ·exact roundX hn x5_0 x5_1 x5_2
 ·exact roundX hn x6_0 x6_1 x6_2
 ·exact roundX hn x7_0 x7_1 x7_2
 ·exact roundX hn x8_0 x8_1 x8_2
 ·exact roundX hn x9_0 x9_1 x9_2
 ·exact roundX hn x10_0 x10_1 x10_2
 ·exact roundX hn x11_0 x11_1 x11_2
 ·exact roundX hn x12_0 x12_1 x12_2)))
noncomputable def funX : List SV → X SV := callF (tabJ []) (spOf spF) (bxOf [(7, 0, loopXc)]) 400 12 7
theorem funX_ok : SpecOk G0 Try.prog 7 funX := callF_ok (spOf_ok okSpF) (bxOf_ok (by
 intro y hy
 rcases List.mem_singleton.1 hy with rfl
 exact lx_ok Try.func7 (c := bodyOf Try.f7) rfl (b := bodyX) (by kernel_rfl) loopX_all)) 400 12 7
theorem counts_run : allOf (funX [slW 10] (slMem [enW 10] (faW 10) 60)) isTrue = true := by kernel_rfl
theorem counts_nil : allOf (funL spF 7 [.nils] (slMem [] [] 60)) isTrue = true := by kernel_rfl
end Go.Proofs.Ytalkfdkcimfmpaa
