/- limboMay, TakeLimbo: their contracts. -/
import Derived.Test.YtoemdbongkkmjaaM
namespace Go.Proofs.Ytoemdbongkkmjaa
open Go.Sx Go Go.LimboNum
set_option maxRecDepth 100000
noncomputable def yes (kn : Know) (c : BE) : Bool := again kn c == .lit true
noncomputable def nay (kn : Know) (c : BE) : Bool := again kn c == .lit false
def InRow (N : List Int) (w : World) (v : Value) : Prop := ∃ b o cap : Nat, v = .slice (some ⟨b, o, none⟩) (many N) cap ∧ b < w.heap.size ∧ many N ≤ cap ∧ (cap : Int) ≤ hi64 ∧ ∀ j, j < N.length → w.cell? ⟨b, o + j, none⟩ = some (.int .i64 (N.getD j 0))
noncomputable def rowR (m : Mem) (v : SV) : Bool := match v with
 | .sli s k off len cap => match m.find s k with
  | some e => match e.c with
   | .cons (.arr .i64 1000001 n .nil) _ => ieEq off e.base && (factIn m.know off 0 hi64 && (sameK m.know n (.mul len (.lit 2)) && (factIn m.know (minus len (g0 1105)) 0 0 && (factIn m.know (.sub cap len) 0 hi64 && factIn m.know cap 0 hi64))))
   | _ => false
  | none => false
 | _ => false
theorem rowR_ok {N : List Int} {ep : Int} (h : In N ep) {F : Nat → Prop} {w0 w : World} {E : Env} {m : Mem} (hE : E.f = G0 N ep) (hm : MemOk F w0 E m w) {v : SV} (hr : rowR m v = true) : InRow N w (dv E v) := by
 unfold rowR at hr
 split at hr
 case h_2 => cases hr
 rename_i s k off len cap
 split at hr
 case h_2 => cases hr
 rename_i e he
 split at hr
 case h_2 => cases hr
 rename_i n rest hc
 simp only [Bool.and_eq_true] at hr
 obtain ⟨h1, h2, h3, h4, h5, h6⟩ := hr
 obtain ⟨k1, k2, k3⟩ := Mem.find_ok he
 have h1 := ieEq_ok h1
 have h2 := factIn_ok hm.know h2
 have h3 := sameK_ok hm.know h3
 have h4 := factIn_ok hm.know h4
 have h5 := factIn_ok hm.know h5
 have h6 := factIn_ok hm.know h6
 rw [ev_minus, ev1105 h hE] at h4
 rw [ev_mul, ev_lit] at h3
 rw [ev_sub] at h5
 have ok := hm.ents e k1
 refine ⟨E.base s + k, E.o s + (ev E off).toNat, (ev E cap).toNat, ?_, ?_, by omega, by omega, fun j hj => ?_⟩
 ·show Value.slice (some (addrOf E s k off)) (ev E len).toNat (ev E cap).toNat = _
  rw [show (ev E len).toNat = many N by omega]
  rfl
 ·have := ok.lt
  unfold Ent.blk at this
  rw [k2, k3] at this
  exact this
 ·have hd : (dl E e.c)[j]? = some (.int .i64 (N.getD j 0)) := by
   rw [hc]
   show (arrCells E .i64 1000001 (ev E n).toNat .nil ++ dl E rest)[j]? = _
   have he := h.even
   have hjn : j < (ev E n).toNat := by omega
   rw [List.getElem?_append_left (by rw [arrCells_len]; exact hjn), arrCells_get _ _ _ _ _ _ hjn]
   show some (Value.int .i64 ((E.row 1000001).getD j 0)) = _
   rw [rowA h hE]
  have := ok.cell j _ hd
  rw [← this]
  unfold Ent.blk
  rw [k2, k3, h1, Nat.add_assoc]
noncomputable def envR (N : List Int) (ep : Int) (w : World) (b o cap : Nat) : Env := { i := fun j => if j = 22 then (many N : Int) else if j = 23 then (cap : Int) else if j = 50 then ep else 0, b := fun _ => false, l := fun _ => [], base := fun s => if s = 20 then b else w.heap.size, o := fun s => if s = 20 then o else 0, v := fun _ => .tuple #[], f := G0 N ep }
noncomputable def factsR : List Fact := (minus (.var 22) (g0 1105), 0, 0) :: (g0 1103, 0, most) :: faR 20
section
variable {N : List Int} {ep : Int} (h : In N ep) {w : World} {b o cap : Nat} (h1 : b < w.heap.size) (h2 : many N ≤ cap) (h3 : (cap : Int) ≤ hi64) (h4 : ∀ j, j < N.length → w.cell? ⟨b, o + j, none⟩ = some (.int .i64 (N.getD j 0)))
include h h3 in
theorem envR_ok : (envR N ep w b o cap).Ok := by
 refine ⟨fun j => ?_, fun _ _ hx => (by cases hx), G0_in N ep⟩
 have hl := h.len
 unfold most at hl
 unfold hi64 at h3
 show in64 (if j = 22 then (many N : Int) else if j = 23 then (cap : Int) else if j = 50 then ep else 0)
 split
 ·unfold in64 lo64 hi64; omega
 ·split
  ·unfold in64 lo64 hi64; omega
  ·split
   ·exact h.ep
   ·constructor <;> decide
include h h1 h4 in
theorem entR_ok : EntOk (envR N ep w b o cap) w (enR 20) := by
 refine ⟨h1, fun _ j v hv => ?_, fun hx => (by cases hx), fun _ x hx => (by cases hx)⟩
 have hE : (envR N ep w b o cap).f = G0 N ep := rfl
 have he : (ev (envR N ep w b o cap) (.mul (.var 22) (.lit 2))).toNat = N.length := by
  rw [ev_mul, ev_lit]
  show ((many N : Int) * 2).toNat = _
  have := h.even
  omega
 have hd : dl (envR N ep w b o cap) (enR 20).c = arrCells (envR N ep w b o cap) .i64 1000001 N.length .nil := by
  show arrCells _ .i64 1000001 (ev _ (.mul (.var 22) (.lit 2))).toNat .nil ++ [] = _
  rw [List.append_nil, he]
 rw [hd] at hv
 have hj : j < N.length := by
  have := (List.getElem?_eq_some_iff.1 hv).1
  rwa [arrCells_len] at this
 rw [arrCells_get _ _ _ _ _ _ hj] at hv
 cases hv
 show w.cell? ⟨b + 0, o + ((0 : Int).toNat + j), none⟩ = some (.int .i64 (((envR N ep w b o cap).row 1000001).getD j 0))
 rw [rowA h hE]
 have := h4 j hj
 simpa using this
include h h2 h3 in
theorem factsR_ok : ∀ f ∈ factsR, FactOk (envR N ep w b o cap) f := fun f hf => by
 have hE : (envR N ep w b o cap).f = G0 N ep := rfl
 have hl := h.len
 simp only [factsR, faR, List.mem_cons, List.not_mem_nil, or_false] at hf
 unfold FactOk
 rcases hf with rfl | rfl | rfl | rfl | rfl | rfl
 ·dsimp only
  rw [ev_minus, ev1105 h hE]
  show 0 ≤ (many N : Int) - many N ∧ (many N : Int) - many N ≤ 0
  omega
 ·dsimp only
  rw [ev1103 h hE]
  have := goods_le (N := N) (many N)
  omega
 ·show (0 : Int) ≤ 0 ∧ (0 : Int) ≤ hi64
  constructor <;> decide
 ·show (0 : Int) ≤ many N ∧ (many N : Int) ≤ most
  omega
 ·show (0 : Int) ≤ cap ∧ (cap : Int) ≤ hi64
  omega
 ·show (0 : Int) ≤ (cap : Int) - many N ∧ (cap : Int) - many N ≤ hi64
  omega
end
noncomputable def leaf (ls : List (SV × Mem)) (q : SV × Mem) : Bool := anyS (fun l => !l.1.isNil && fits 1 [l.1] l.2 [q.1] q.2) ls
theorem run_leaf {N : List Int} {ep : Int} (h : In N ep) {f : Nat} {s : List SV → X SV} (hs : SpecOk (G0 N ep) Try.prog f s) {args : List SV} {fs : List Fact} {ls : List (SV × Mem)} (hrun : allOf (s args (slMem [enR 20] (fs ++ factsR) 60)) (leaf ls) = true)
  {w : World} {b o cap : Nat} (h1 : b < w.heap.size) (h2 : many N ≤ cap) (h3 : (cap : Int) ≤ hi64) (h4 : ∀ j, j < N.length → w.cell? ⟨b, o + j, none⟩ = some (.int .i64 (N.getD j 0))) (hf : ∀ f ∈ fs, FactOk (envR N ep w b o cap) f) :
  Calls Try.prog f (args.map (dv (envR N ep w b o cap))).toArray w fun e w' => ∃ q ∈ ls, ∃ Et : Env, Et.f = G0 N ep ∧ e = .returned (dv Et q.1) ∧ MemOk (fun _ => False) w Et q.2 w' := by
 obtain ⟨outs, ho, hall⟩ := allOf_ok hrun
 refine (run_ro hs ho (E := envR N ep w b o cap) (w := w) rfl (envR_ok h h3) rfl rfl (fun e he => by
  rcases List.mem_singleton.1 he with rfl
  exact ⟨rfl, entR_ok h h1 h4⟩) (fun f hx => by
  rcases List.mem_append.1 hx with hx | hx
  ·exact hf f hx
  ·exact factsR_ok h h2 h3 f hx)).mono ?_
 rintro e w' ⟨q, hq, E', hA, rfl, hm⟩
 obtain ⟨l, hl, hfit⟩ := anyS_ok (hall q hq)
 rw [Bool.and_eq_true, Bool.not_eq_true'] at hfit
 obtain ⟨hnil, hfit⟩ := hfit
 obtain ⟨_, hm2, hsl⟩ := rerootF_ok hfit hm
 refine ⟨l, hl, E'.by (matchAll 1 [l.1] l.2 [q.1] q.2), hA.f, ?_, hm2⟩
 have := hsl.slot 0
 rcases this with hx | ⟨_, hx⟩
 ·have hx : l.1 = .nil := hx
  rw [SV.isNil_iff.2 hx] at hnil
  cases hnil
 ·exact congrArg Ending.returned hx.symm
noncomputable def loopM : Fr → X (SX × Fr) := liftB 100 (loopP 100 [headM] leavesM)
theorem loopM_ok {N : List Int} {ep : Int} (h : In N ep) : LxOk (G0 N ep) Try.prog (24, 0, loopM) := lx_ok Try.func24 (c := bodyOf Try.f24) rfl (b := bodyM) (by kernel_rfl) (liftB_ok (loopPe_ok (T := tabJ []) (cx := cx0) cx0_ok (jm := none) (fuel := 400) (noBlocks_ok _ _) (fun y hy => by
 rcases List.mem_singleton.1 hy with rfl
 refine ⟨casesM, fun E hE hk hf => coverM h hE hk hf, fun c hc => ?_⟩
 unfold casesM at hc
 rcases List.mem_append.1 hc with hc | hc
 ·simp only [List.mem_cons, List.not_mem_nil, or_false] at hc
  rcases hc with rfl | rfl
  ·exact m0
  ·exact m1
 ·obtain ⟨l, hl, rfl⟩ := List.mem_map.1 hc
  exact List.all_eq_true.1 m2 l hl)))
noncomputable def funM : List SV → X SV := callF (tabJ []) (spOf []) (bxOf [(24, 0, loopM)]) 400 12 24
theorem funM_ok {N : List Int} {ep : Int} (h : In N ep) : SpecOk (G0 N ep) Try.prog 24 funM := callF_ok noSpecs (bxOf_ok (by
 intro y hy
 rcases List.mem_singleton.1 hy with rfl
 exact loopM_ok h)) 400 12 24
noncomputable def bareM (fs : List Fact) : Mem := { know := ⟨fs, []⟩, heap := [], seg := 1, next := 0, nv := 2 }
noncomputable def leafM : List (SV × Mem) := [(.bool (.lit true), bareM [(gapM, 0, 0)]), (.bool (.lit false), bareM [(gapM, 1, most)])]
theorem runM : allOf (funM [slR 20] (slMem [enR 20] ([] ++ factsR) 60)) (leaf leafM) = true := by kernel_rfl
noncomputable def eqGood : BE := .eq (g0 1103) (g0 1105)
noncomputable def formM (b : Bool) (args : List SV) (m : Mem) : Bool := match args with
 | [v] => rowR m v && (cond b yes nay) m.know eqGood
 | _ => false
noncomputable def ttM (b : Bool) : List (SV × Mem) := [(.bool (.lit b), bareM [])]
theorem again_true {E : Env} {kn : Know} (hk : KnowOk E kn) {c : BE} (h : yes kn c = true) : evB E c = true := by
 unfold yes at h
 rw [beq_iff_eq] at h
 rw [← again_ok hk, h]
 rfl
theorem again_false {E : Env} {kn : Know} (hk : KnowOk E kn) {c : BE} (h : nay kn c = true) : evB E c = false := by
 unfold nay at h
 rw [beq_iff_eq] at h
 rw [← again_ok hk, h]
 rfl
theorem mayB_gen {N : List Int} {ep : Int} (h : In N ep) {f : Nat} {s : List SV → X SV} (hs : SpecOk (G0 N ep) Try.prog f s) (hrun : allOf (s [slR 20] (slMem [enR 20] ([] ++ factsR) 60)) (leaf leafM) = true) (b : Bool) : SpecOk (G0 N ep) Try.prog f (besideX (formM b) (ttM b)) := besideX_ok fun F w0 E args m w hE hm hf => by
 unfold formM at hf
 split at hf
 case h_2 => cases hf
 rename_i v
 rw [Bool.and_eq_true] at hf
 obtain ⟨bl, o, cap, e1, e2, e3, e4, e5⟩ := rowR_ok h hE hm hf.1
 have call := run_leaf h hs (args := [slR 20]) (fs := []) (ls := leafM) hrun e2 e3 e4 e5 (fun _ hx => by cases hx)
 have ha : (([slR 20] : List SV).map (dv (envR N ep w bl o cap))).toArray = (([v] : List SV).map (dv E)).toArray := by
  show #[Value.slice (some ⟨bl + 0, o + (0 : Int).toNat, none⟩) (many N : Int).toNat (cap : Int).toNat] = #[dv E v]
  rw [e1]
  simp
 rw [ha] at call
 have hg : decide (goods N (many N) = many N) = b := by
  have hq : evB E eqGood = decide (goods N (many N) = many N) := by
   show decide (ev E (g0 1103) = ev E (g0 1105)) = _
   rw [ev1103 h hE, ev1105 h hE]
   exact decide_eq_decide.2 (by omega)
  rw [← hq]
  cases b with
  | true => exact again_true hm.know hf.2
  | false => exact again_false hm.know hf.2
 refine call.mono ?_
 rintro e w' ⟨q, hq, Et, hEt, rfl, hm2⟩
 refine ⟨_, List.mem_singleton_self _, Et, hEt, ?_, ?_⟩
 ·have hgap : ev Et gapM = many N - goods N (many N) := by
   unfold gapM
   rw [ev_minus, ev1105 h hEt, ev1103 h hEt]
  unfold leafM at hq
  simp only [List.mem_cons, List.not_mem_nil, or_false] at hq
  rcases hq with rfl | rfl
  ·have := hm2.know.facts (gapM, 0, 0) List.mem_cons_self
   unfold FactOk at this
   dsimp only at this
   rw [hgap] at this
   rw [← hg, decide_eq_true (by omega)]
  ·have := hm2.know.facts (gapM, 1, most) List.mem_cons_self
   unfold FactOk at this
   dsimp only at this
   rw [hgap] at this
   rw [← hg, decide_eq_false (by omega)]
 ·unfold leafM at hq
  simp only [List.mem_cons, List.not_mem_nil, or_false] at hq
  rcases hq with rfl | rfl
  ·exact ⟨⟨hm2.know.env, fun _ hx => (by cases hx), fun _ hx => (by cases hx)⟩, hm2.size, hm2.ents, hm2.apart, hm2.mine, hm2.ext, hm2.seg0⟩
  ·exact ⟨⟨hm2.know.env, fun _ hx => (by cases hx), fun _ hx => (by cases hx)⟩, hm2.size, hm2.ents, hm2.apart, hm2.mine, hm2.ext, hm2.seg0⟩
noncomputable def askM (_ : List SV) (m : Mem) : Option BE := cond (yes m.know eqGood || nay m.know eqGood) none (some eqGood)
noncomputable def mayX : List SV → X SV := preX askM (orX (besideX (formM true) (ttM true)) (besideX (formM false) (ttM false)))
theorem mayX_ok {N : List Int} {ep : Int} (h : In N ep) : SpecOk (G0 N ep) Try.prog 24 mayX := preX_ok (orX_ok (mayB_gen h (funM_ok h) runM true) (mayB_gen h (funM_ok h) runM false)) _
end Go.Proofs.Ytoemdbongkkmjaa
