/- SpoilInts, SpoilRetireds: what is written over is forgotten. -/
import Derived.Test.YtofmndcdcchflaaS
namespace Go.Proofs.Ytofmndcdcchflaa
open Go.Sx Go
set_option maxRecDepth 100000
noncomputable def fnV (_ : Bool) : Nat := 17
noncomputable def szV (_ : Bool) : Nat := 19
noncomputable def totV : IE := .var 47
noncomputable def tailV (two : Bool) : IE := cond two (.mul totV (.lit 3)) totV
noncomputable def argV : SV := .sli 46 0 (.lit 0) (.var 48) (.var 49)
noncomputable def entV (two : Bool) (r q : Nat) : Ent := ⟨46, 0, false, cond two 56 3, .lit 0, .cons (.arr .i64 r (lenS two) .nil) (.cons (.arr .i64 q (tailV two) .nil) .nil)⟩
noncomputable def factV (_two : Bool) : List Fact := [(.var 48, 0, 8796093021953), (.var 49, 0, hi64), (totV, 0, hi64)]
noncomputable def headV (two : Bool) : HeadP := {
 tm := slotsN (szV two) [(0, argV), (2, .int .i64 (.var 72))]
 mem := { know := ⟨(.var 72, 0, 8796093021953) :: (.sub (.var 48) (.var 72), 0, hi64) :: factV two, []⟩, heap := [entV two 74 7], seg := 0, next := 0, nv := 80 }
 mu := .sub (.var 48) (.var 72) }
noncomputable def leaveV (two : Bool) : LeaveP := { e := .normal, tm := slotsN (szV two) [], mem := { know := ⟨[], []⟩, heap := [], seg := 0, next := 0, nv := 80 } }
noncomputable def okV (two : Bool) (c : Code) : Bool := headOk (tabJ []) cx0 (fun _ => none) none 400 0 c 60 [headV two] [leaveV two] (headV two)
theorem okV2 : okV true (loopBody 0 (bodyOf Try.f17)) = true := by kernel_rfl
noncomputable def loopV (two : Bool) : Fr → X (SX × Fr) := loopP 60 [headV two] [leaveV two]
theorem loopV_ok {G : Gf} : LxOk G Try.prog (17, 0, loopV true) := by
 have key : ∀ (c : Code), okV true c = true → CodeOk G Try.prog (.block 0 (.loop c)) (loopV true) := fun c hc => loopPc_ok (T := tabJ []) (cx := cx0) cx0_ok (jm := none) (fuel := 400) (noBlocks_ok _ _) (fun y hy => by
  rcases List.mem_singleton.1 hy with rfl
  exact ⟨[[]], fun _ _ _ => ⟨[], List.mem_singleton_self _, fun _ h => (by cases h)⟩, fun d hd => (by
   rcases List.mem_singleton.1 hd with rfl
   exact hc)⟩)
 exact lx_ok Try.func17 (c := bodyOf Try.f17) rfl (b := loopBody 0 (bodyOf Try.f17)) (by kernel_rfl) (key _ okV2)
noncomputable def runV (two : Bool) : List SV → X SV := callF (tabJ []) (spOf []) (bxOf [(fnV two, 0, loopV two)]) 400 12 (fnV two)
theorem runV_ok {G : Gf} : SpecOk G Try.prog (fnV true) (runV true) := callF_ok noSpecs (bxOf_ok (by
 intro y hy
 rcases List.mem_singleton.1 hy with rfl
 exact loopV_ok)) 400 12 _
noncomputable def memV (two : Bool) : Mem := { know := ⟨factV two, []⟩, heap := [entV two 8 7], seg := 0, next := 0, nv := 60 }
noncomputable def chkV (q : SV × Mem) : Bool := (match q.1 with | .tup .nil => true | _ => false) && (Nat.beq q.2.seg 0 && Nat.beq q.2.next 0)
theorem runV2 : allOf (runV true [argV] (memV true)) chkV = true := by kernel_rfl
theorem semV {G : Gf} (hG : ∀ f l, in64 (G f l)) {L1 L2 : List Int} {n b cap t : Nat} {w : World} (hn : L1.length = times true * n) (hb : w.heap[b]? = some (.cells ((L1 ++ L2).map (Value.int .i64)).toArray (cond true 56 3) (0, 0)))
  (h1 : ∀ z ∈ L1, in64 z) (h2 : ∀ z ∈ L2, in64 z) (hl : n ≤ 8796093021953) (hc : (cap : Int) ≤ hi64) (h2n : L2.length = times true * t) (ht : (t : Int) ≤ hi64) :
  Calls Try.prog (fnV true) #[.slice (some ⟨b, 0, none⟩) n cap] w fun e w' => Ext (fun x => x = b) w w' ∧ w'.heap.size = w.heap.size ∧ e = .returned (.tuple #[]) := by
 let E : Env := { i := fun j => if j = 48 then n else if j = 49 then cap else if j = 47 then t else 0, b := fun _ => false, l := fun r => if r = 8 then L1 else if r = 7 then L2 else [], base := fun s => if s = 46 then b else w.heap.size, o := fun _ => 0, v := fun _ => .tuple #[], f := G }
 have hlt : b < w.heap.size := (Array.getElem?_eq_some_iff.1 hb).1
 have hE : E.Ok := by
  refine ⟨fun j => ?_, fun r z hz => ?_, hG⟩
  ·show in64 (if j = 48 then (n : Int) else if j = 49 then (cap : Int) else if j = 47 then (t : Int) else 0)
   unfold hi64 at hc ht
   unfold in64 lo64 hi64
   split <;> (try split) <;> (try split) <;> omega
  ·replace hz : z ∈ (if r = 8 then L1 else if r = 7 then L2 else []) := hz
   split at hz
   ·exact h1 z hz
   ·split at hz
    ·exact h2 z hz
    ·cases hz
 have r8 : E.row 8 = L1 := by
  rw [Env.row_l (by unfold fixR; omega)]
  rfl
 have r7 : E.row 7 = L2 := by
  rw [Env.row_l (by unfold fixR; omega)]
  rfl
 have arr : ∀ (r k : Nat) (L : List Int), E.row r = L → k = L.length → arrCells E .i64 r k .nil = L.map (Value.int .i64) := fun r k L hr hk => by
  subst hk
  refine List.ext_getElem? fun j => ?_
  by_cases hj : j < L.length
  ·rw [arrCells_get _ _ _ _ _ _ hj, List.getElem?_map, List.getElem?_eq_getElem hj]
   show some (Value.int .i64 ((E.row r).getD j 0)) = _
   rw [hr, List.getD_eq_getElem?_getD, List.getElem?_eq_getElem hj]
   rfl
  ·rw [List.getElem?_eq_none (by rw [arrCells_len]; omega), List.getElem?_eq_none (by rw [List.length_map]; omega)]
 have hlen : (ev E (lenS true)).toNat = L1.length := by
  show ((n : Int) * 3).toNat = _
  rw [hn]
  show _ = 3 * n
  omega
 have htl : (ev E (tailV true)).toNat = L2.length := by
  show ((t : Int) * 3).toNat = _
  rw [h2n]
  show _ = 3 * t
  omega
 have hd : dl E (entV true 8 7).c = (L1 ++ L2).map (Value.int .i64) := by
  show arrCells E .i64 8 (ev E (lenS true)).toNat .nil ++ (arrCells E .i64 7 (ev E (tailV true)).toNat .nil ++ []) = _
  rw [List.append_nil, arr 8 _ L1 r8 hlen, arr 7 _ L2 r7 htl, List.map_append]
 have hm : MemOk (fun x => x = b) w E (memV true) w := by
  refine ⟨⟨hE, fun f hf => ?_, fun _ h => (by cases h)⟩, rfl, fun e he => ?_, List.pairwise_singleton _ _, fun e he _ => ?_, Ext.refl _ _, rfl⟩
  ·replace hf : f ∈ factV true := hf
   simp only [factV, List.mem_cons, List.not_mem_nil, or_false] at hf
   rcases hf with rfl | rfl | rfl
   ·show (0 : Int) ≤ n ∧ (n : Int) ≤ 8796093021953
    omega
   ·show (0 : Int) ≤ cap ∧ (cap : Int) ≤ hi64
    omega
   ·show (0 : Int) ≤ t ∧ (t : Int) ≤ hi64
    omega
  ·rcases List.mem_singleton.1 he with rfl
   refine ⟨hlt, fun h => (by cases h), fun _ => ⟨⟨rfl, rfl⟩, ?_⟩, fun h => (by cases h)⟩
   rw [hd]
   exact hb
  ·rcases List.mem_singleton.1 he with rfl
   exact .inr rfl
 obtain ⟨outs, ho, hall⟩ := allOf_ok (runV2)
 have call := runV_ok (G := G) _ w E [argV] (memV true) outs w rfl ho hm
 have ha : (([argV] : List SV).map (dv E)).toArray = #[.slice (some ⟨b, 0, none⟩) n cap] := by
  show #[Value.slice (some ⟨b + 0, 0 + (0 : Int).toNat, none⟩) ((n : Int)).toNat ((cap : Int)).toNat] = _
  simp
 rw [ha] at call
 refine call.mono ?_
 rintro e w' ⟨q, hq, E', hL, rfl, hm'⟩
 have hk := hall q hq
 unfold chkV at hk
 simp only [Bool.and_eq_true] at hk
 obtain ⟨k1, k2, k3⟩ := hk
 refine ⟨hm'.ext, ?_, ?_⟩
 ·have := hm'.size
  rw [Nat.eq_of_beq_eq_true k2, Nat.eq_of_beq_eq_true k3, hL.agree.base 0 (by show 0 < 60; omega)] at this
  exact this
 ·split at k1
  ·rename_i hq1
   rw [hq1]
   rfl
  ·cases k1
noncomputable def lenC : SV → IE
 | .cons (.int _ _) r => .add (.lit 1) (lenC r)
 | .cons (.arr _ _ n _) r => .add n (lenC r)
 | _ => .lit 0
noncomputable def lenP (kn : Know) : SV → Bool
 | .cons (.int _ _) r => lenP kn r
 | .cons (.arr _ _ n _) r => nonneg kn n && lenP kn r
 | _ => true
theorem lenC_ok {E : Env} {kn : Know} (hk : KnowOk E kn) : ∀ c : SV, intsR kn c = true → lenP kn c = true → ((dl E c).length : Int) = ev E (lenC c) := by
 intro c
 induction c with
 | nil => intro _ _; rfl
 | cons a r _ ih =>
  intro h hp
  cases a with
  | int k e =>
   simp only [intsR, Bool.and_eq_true] at h
   show (([Value.int k (ev E e)] ++ dl E r).length : Int) = ev E (.add (.lit 1) (lenC r))
   rw [ev_add, ev_lit, ← ih h.2.2 hp, List.length_append]
   simp
  | arr k q n ws =>
   simp only [intsR, Bool.and_eq_true] at h
   simp only [lenP, Bool.and_eq_true] at hp
   have hn := nonneg_ok hk hp.1
   show ((arrCells E k q (ev E n).toNat ws ++ dl E r).length : Int) = ev E (.add n (lenC r))
   rw [ev_add, ← ih h.2.2 hp.2, List.length_append, arrCells_len]
   omega
  | _ => simp [intsR] at h
 | _ => intro h; simp [intsR] at h
noncomputable def formV (args : List SV) (m : Mem) : Option (Nat × Nat) := match args with
 | [.sli s k (.lit (.ofNat 0)) len cap] => match m.find s k with
  | some e => match headC m.know e.c (cond true (mkMul len (.lit 3)) len), dropC m.know e.c (cond true (mkMul len (.lit 3)) len) with
   | some c1, some c2 => cond (!e.ro && (Nat.beq e.t (cond true 56 3) && (factIn m.know len 0 8796093021953 && (factIn m.know cap 0 hi64 && (intsR m.know c1 && (intsR m.know c2 && (lenP m.know c2 && (sameK m.know (lenC c2) (cond true (mkMul (mkSub cap len) (.lit 3)) (mkSub cap len)) && factIn m.know (mkSub cap len) 0 hi64)))))))) (some (s, k)) none
   | _, _ => none
  | none => none
 | _ => none
noncomputable def spoilX : List SV → X SV := fun args m => match formV args m with
 | some (s, k) => nfSp (m.without [(s, k)]).heap fun h => some [(.tup .nil, { m with heap := h })]
 | none => fun0 17 args m
theorem spoilX_ok {G : Gf} (hG : ∀ f l, in64 (G f l)) : SpecOk G Try.prog 17 spoilX := by
 intro F w0 E args m outs w hgf ho hm
 unfold spoilX at ho
 split at ho
 case h_2 => exact fun0_ok 17 F w0 E args m outs w hgf ho hm
 rename_i s0 k0 hform
 rw [nfSp_eq] at ho
 cases ho
 unfold formV at hform
 split at hform
 case h_2 => cases hform
 rename_i s k len cap
 split at hform
 case h_2 => cases hform
 rename_i e he
 split at hform
 case h_2 => cases hform
 rename_i c1 c2 hh hd
 generalize hc : (!e.ro && _ : Bool) = c at hform
 cases c with
 | false => cases hform
 | true =>
 cases hform
 simp only [Bool.and_eq_true, Bool.not_eq_true'] at hc
 obtain ⟨c3, c4, c5, c6, c7, c8, c9, c11, c10⟩ := hc
 obtain ⟨k1, k2, k3⟩ := Mem.find_ok he
 have c4 := Nat.eq_of_beq_eq_true c4
 have c5 := factIn_ok hm.know c5
 have c6 := factIn_ok hm.know c6
 have c10 := factIn_ok hm.know c10
 have c11 := sameK_ok hm.know c11
 obtain ⟨L1, a1, a2⟩ := intsR_ok hm.know c1 c7
 obtain ⟨L2, b1, b2⟩ := intsR_ok hm.know c2 c8
 have hl2 := lenC_ok hm.know c2 c8 c9
 obtain ⟨_, t1, t2⟩ := headC_ok hm.know _ _ _ hh
 obtain ⟨_, d1⟩ := dropC_ok hm.know _ _ _ hd
 have ok := hm.ents e k1
 obtain ⟨⟨o1, _⟩, o2⟩ := ok.own c3
 have hcat : dl E e.c = (L1 ++ L2).map (Value.int .i64) := by
  rw [List.map_append, ← a1, ← b1, t1, d1, List.take_append_drop]
 have hn : L1.length = times true * (ev E len).toNat := by
  have h5 : L1.length = (dl E c1).length := by rw [a1, List.length_map]
  rw [h5, t1, List.length_take]
  revert t2
  show (ev E (mkMul len (.lit 3))).toNat ≤ _ → min (ev E (mkMul len (.lit 3))).toNat _ = 3 * (ev E len).toNat
  rw [mkMul_ok, ev_lit]
  omega
 have hblk : e.blk E = E.base s0 + k0 := by unfold Ent.blk; rw [k2, k3]
 have call := semV (G := G) hG (L1 := L1) (L2 := L2) (n := (ev E len).toNat) (b := e.blk E) (cap := (ev E cap).toNat) (w := w) hn (by rw [o2, hcat, c4]) a2 b2 (by omega) (by omega) (t := (ev E (mkSub cap len)).toNat) (by
  have h6 : L2.length = (dl E c2).length := by rw [b1, List.length_map]
  rw [c11, ← h6] at hl2
  revert hl2
  show (L2.length : Int) = ev E (mkMul (mkSub cap len) (.lit 3)) → L2.length = 3 * (ev E (mkSub cap len)).toNat
  rw [mkMul_ok, ev_lit]
  omega) (by omega)
 have ha : (([.sli s0 k0 (.lit (.ofNat 0)) len cap] : List SV).map (dv E)).toArray = #[.slice (some ⟨e.blk E, 0, none⟩) (ev E len).toNat (ev E cap).toNat] := by
  show #[Value.slice (some ⟨E.base s0 + k0, E.o s0 + (0 : Int).toNat, none⟩) (ev E len).toNat (ev E cap).toNat] = _
  rw [hblk, ← k2, o1]
  rfl
 rw [ha]
 refine call.mono ?_
 rintro e' w' ⟨hx, hsz, rfl⟩
 have hres := without_grown hm (ks := [(s0, k0)]) (F' := fun x => x = e.blk E) (fun b hb => ⟨e, k1, c3, by rw [k2, k3]; simp, hb.symm⟩) hx (n := 0) (by omega)
 exact ⟨_, List.mem_singleton_self _, E, ⟨Agree.refl _ _, Nat.le_refl _, fun _ => rfl⟩, rfl, hres⟩
end Go.Proofs.Ytofmndcdcchflaa
