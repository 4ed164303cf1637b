/- an operation's call upon a view of an image, the image open: by unknown functions. -/
import Derived.Test.YtojpmbkbeoolcaaV
import Derived.Test.YtojpmbkbeoolcaaKX
namespace Go.Proofs.Ytojpmbkbeoolcaa
open Go.Sx Go
set_option maxRecDepth 100000
noncomputable def isT : BE → Bool | .lit c => c | _ => false
noncomputable def appsI (M H : IE) : List IE := [.app 300 M, .app 301 M, .app 302 M, .app 303 M, .app 304 M, .app 305 M, .app 306 M, .app 307 M, .app 308 M, .app 309 M, .app 310 M, .app 460 H, .app 461 H, .app 462 H, .app 463 H, .app 464 H]
noncomputable def bitsI (n : Nat) : List IE := [.var (n + 6), .var (n + 7), .var (n + 8), .var (n + 9), .var (n + 10), .var (n + 11), .var (n + 12), .var (n + 13), .var (n + 14), .var (n + 15)]
noncomputable def nowI (n : Nat) : SV :=
 .wr (.lit 0) (.add (.var (n + 2)) (.lit 1)) (.wr (.lit 1) (.add (.var (n + 3)) (.lit 1)) (.wr (.lit 2) (.add (.var (n + 4)) (.lit 1)) (.wr (.lit 3) (.add (.var (n + 5)) (.lit 1))
 (.wr (.lit 4) (.app 430 (mkArgs (bitsI n))) (.wr (.lit 5) (.app 431 (mkArgs (bitsI n))) (.wr (.lit 6) (.app 432 (mkArgs (bitsI n))) (.wr (.lit 7) (.app 433 (mkArgs (bitsI n))) (.wr (.lit 8) (.app 434 (mkArgs (bitsI n))) (.wr (.lit 9) (.app 435 (mkArgs (bitsI n)))
 (.wr (.lit 10) (.app 436 (mkArgs (bitsI n))) (.wr (.lit 11) (.app 437 (mkArgs (bitsI n))) (.wr (.lit 12) (.app 438 (mkArgs (bitsI n))) (.wr (.lit 13) (.app 439 (mkArgs (bitsI n))) (.wr (.lit 14) (.app 440 (mkArgs (bitsI n))) (.wr (.lit 15) (.app 441 (mkArgs (bitsI n))) .nil)))))))))))))))
noncomputable def factsI (n : Nat) : List Fact := [(.var n, 0, 4), (.var (n + 1), 0, 4194300), (.var (n + 2), -1, 1048575), (.var (n + 3), -1, 1048575), (.var (n + 4), -1, 1048575), (.var (n + 5), -1, 1048575), (.var (n + 6), 0, 1), (.var (n + 7), 0, 1), (.var (n + 8), 0, 1), (.var (n + 9), 0, 1), (.var (n + 10), 0, 1),
 (.var (n + 11), 0, 1), (.var (n + 12), 0, 1), (.var (n + 13), 0, 1), (.var (n + 14), 0, 1), (.var (n + 15), 0, 1)]
noncomputable def argM (ac bs : List IE) (k a b x : IE) : IE := mkArgs (ac.map (fun e => mkAdd e (.lit (-1))) ++ (bs.take 5 ++ [k, a, b, x]))
noncomputable def argH (bs : List IE) (k a b x : IE) : IE := mkArgs (bs ++ [k, a, b, x])
noncomputable def wayI (V : K.VIn) (M H : IE) (m : Mem) : SV × Mem := (K.askX true (.lit (-1)) { V with r2 := 0 } (nowI (m.nv + 2)) (.sli m.nv 0 (.lit 0) (.lit 1) (.lit 1)),
 { m with know := ⟨factsI (m.nv + 2) ++ m.know.facts, defC (m.nv + 2) (appsI M H) ++ m.know.conds⟩, heap := ⟨m.nv, 0, false, 76, .lit 0, .cons (.int .i64 (.var (m.nv + 2))) (.cons (.int .i64 (.var (m.nv + 3))) .nil)⟩ :: m.heap, seg := m.nv + 1, next := 0, nv := m.nv + 18 })
noncomputable def imgX (klo khi : Int) : List SV → X SV := fun args m => match args with
 | [v, o] => match K.viewOf v, opOf o with
  | some V, some (k, a, b, x) => match litAll V.r1 V.w1 0 16, litAll V.r2 V.w2 0 16 with
   | some wI, some nI => match bitsOf (nI.drop 4) with
    | some bs => cond (mayK m.know k a b x && inR (rng m.know.facts k) klo khi && V.fl.all isT && m.nm m.nv && v.nm m.nv && (IE.app 300 (argM (nI.take 4) bs k a b x)).nm m.nv && (IE.app 460 (argH bs k a b x)).nm m.nv && (wI.all fun e => factIn m.know e 0 1099511627775) && ((nI.take 4).all fun e => factIn m.know e 0 1048576) && (bs.all fun e => factIn m.know e 0 1) && Nat.beq bs.length 10)
     (some (nfL (fun p k => nfS p.1 fun v => nfMem p.2 fun m => k (v, m)) [wayI V (argM (nI.take 4) bs k a b x) (argH bs k a b x) m] fun l => l)) none
    | none => none
   | _, _ => none
  | _, _ => none
 | _ => none
theorem G0_460 {j : Nat} (hj : j < 5) (xs : List Int) : G0 (460 + j) xs = if highZ (nrm (xs.take 10) ++ xs.drop 10) (((460 + j : Nat) : Int) - 460) = 1 then 1 else 0 := by
 unfold G0
 rw [if_neg (by omega), if_neg (by omega), if_neg (by omega), if_neg (by omega), if_pos (by omega)]
theorem G0_bit {j : Nat} (hj : j < 5) (xs : List Int) : Bit (G0 (460 + j) xs) := by
 rw [G0_460 hj]
 split
 ·exact .inr rfl
 ·exact .inl rfl
theorem G0_bit6 {j : Nat} (hj : j < 5) (xs : List Int) : Bit (G0 (306 + j) xs) := by
 rw [show 306 + j = 300 + (6 + j) by omega, G0_key (by omega) (by omega)]
 split
 ·exact .inr rfl
 ·exact .inl rfl
theorem G0_nrm {j : Nat} (hj : j < 5) {xs : List Int} (hx : nrm xs ∈ cfgs) (hl : xs.length = 10) (op : List Int) : G0 (460 + j) (xs ++ op) = G0 (460 + j) (nrm xs ++ op) := by
 rw [G0_460 hj, G0_460 hj, List.take_left' hl, List.drop_left' hl, List.take_left' (cfg_len hx), List.drop_left' (cfg_len hx), cfg_nrm hx]
theorem bit_b2i {z : Int} (h : Bit z) : z = b2i (decide (z = 1)) := by rcases h with rfl | rfl <;> rfl
theorem tell_in {a0 a1 a2 a3 k a b x : Int} {xs ys : List Int} (hxs : xs ∈ cfgs) (h0 : accIn a0) (h1 : accIn a1) (h2 : accIn a2) (h3 : accIn a3) (hm : mayZ k a b x = 1) (hy : ysOf a0 a1 a2 a3 xs k a b x = ys) :
  (0 ≤ tellZ 0 ys ∧ tellZ 0 ys ≤ 4) ∧ (0 ≤ tellZ 1 ys ∧ tellZ 1 ys ≤ 4194300) ∧ ∀ j, j < 4 → balIn (tellZ (2 + j) ys) := by
 have hb := cfg_bit hxs
 obtain ⟨e0, e1, e2, e3, e4, g0, g1, g2, g3, g4, rfl⟩ := len10 (cfg_len hxs)
 have hy2 : ys = xsOf (a0 - 1) (a1 - 1) (a2 - 1) (a3 - 1) (decide (e0 = 1)) (decide (e1 = 1)) (decide (e2 = 1)) (decide (e3 = 1)) (decide (e4 = 1)) k a b x := by
  rw [← hy]
  unfold xsOf
  rw [← bit_b2i (hb e0 (by simp)), ← bit_b2i (hb e1 (by simp)), ← bit_b2i (hb e2 (by simp)), ← bit_b2i (hb e3 (by simp)), ← bit_b2i (hb e4 (by simp))]
  rfl
 have ba : ∀ {z : Int}, accIn z → balIn (z - 1) := fun h => by unfold accIn at h; unfold balIn; omega
 have := quant_in (i0 := decide (e0 = 1)) (i1 := decide (e1 = 1)) (i2 := decide (e2 = 1)) (i3 := decide (e3 = 1)) (i4 := decide (e4 = 1)) (ba h0) (ba h1) (ba h2) (ba h3) hm
 rw [← hy2] at this
 subst hy2
 exact this
theorem imgX_ok {f : Nat} {klo khi : Int} (h : ∀ k a b x, mayZ k a b x = 1 → klo ≤ k → k ≤ khi → SemImg f k a b x) : SpecOk G0 Try.prog f (imgX klo khi) := by
 intro F w0 E args m outs w hgf ho hm
 unfold imgX at ho
 split at ho
 case h_2 => cases ho
 rename_i v o
 split at ho
 case h_2 => cases ho
 rename_i V k a b x hV hO
 split at ho
 case h_2 => cases ho
 rename_i wI nI hwI hnI
 split at ho
 case h_2 => cases ho
 rename_i bs hbs
 cases hc : (mayK m.know k a b x && inR (rng m.know.facts k) klo khi && V.fl.all isT && m.nm m.nv && v.nm m.nv && (IE.app 300 (argM (nI.take 4) bs k a b x)).nm m.nv && (IE.app 460 (argH bs k a b x)).nm m.nv && (wI.all fun e => factIn m.know e 0 1099511627775) && ((nI.take 4).all fun e => factIn m.know e 0 1048576) && (bs.all fun e => factIn m.know e 0 1) && Nat.beq bs.length 10) with
 | false => rw [hc] at ho; cases ho
 | true =>
 rw [hc] at ho
 dsimp only [cond] at ho
 rw [nfL_eq (fun p k => by rw [nfS_eq, nfMem_eq])] at ho
 cases ho
 simp only [Bool.and_eq_true, List.all_eq_true] at hc
 obtain ⟨⟨⟨⟨⟨⟨⟨⟨⟨⟨c1, c2⟩, c3⟩, c4⟩, c5⟩, c6⟩, c7⟩, c8⟩, c9⟩, c10⟩, c11⟩ := hc
 have hmay := mayK_ok hgf hm.know c1
 have hk1 : klo ≤ ev E k ∧ ev E k ≤ khi := by
  have := rng_ok hm.know.env hm.know.facts k
  unfold inR at c2
  simp only [Bool.and_eq_true, decide_eq_true_eq] at c2
  omega
 have eW := litAll_ok E hwI
 have eN := litAll_ok E hnI
 have lW : wI.length = 16 := by have := congrArg List.length eW; simpa using this
 have lN : nI.length = 16 := by have := congrArg List.length eN; simpa using this
 obtain ⟨l4, l12⟩ := len16 lN
 have hsplit : nI = nI.take 4 ++ nI.drop 4 := (List.take_append_drop 4 nI).symm
 obtain ⟨c0, c1', c2', c3', hac⟩ := len4 l4
 have hbits : ∀ e ∈ bs, Bit (ev E e) := fun e he => by
  have := factIn_ok hm.know (c10 e he)
  rcases (by omega : ev E e = 0 ∨ ev E e = 1) with h | h
  ·exact .inl h
  ·exact .inr h
 have lbs := Nat.eq_of_beq_eq_true c11
 have elinks := bitsOf_ok hgf l12 hbs
 have hcfg : nrm (bs.map (ev E)) ∈ cfgs := by
  obtain ⟨e0, e1, e2, e3, e4, g0, g1, g2, g3, g4, rfl⟩ := len10 lbs
  refine nrm_mem (fun z hz => ?_) (fun z hz => ?_)
  ·simp only [List.mem_cons, List.not_mem_nil, or_false] at hz
   rcases hz with rfl | rfl | rfl | rfl | rfl <;> exact hbits _ (by simp)
  ·simp only [List.mem_cons, List.not_mem_nil, or_false] at hz
   rcases hz with rfl | rfl | rfl | rfl | rfl <;> exact hbits _ (by simp)
 have hWr : ∀ z ∈ wI.map (ev E), 0 ≤ z ∧ z ≤ 1099511627775 := fun z hz => by
  obtain ⟨e, he, rfl⟩ := List.mem_map.1 hz
  exact factIn_ok hm.know (c8 e he)
 have hacc : ∀ e ∈ nI.take 4, accIn (ev E e) := fun e he => factIn_ok hm.know (c9 e he)
 rw [hac] at hacc
 have sem := h _ _ _ _ hmay hk1.1 hk1.2 (ev E c0) (ev E c1') (ev E c2') (ev E c3') (nrm (bs.map (ev E))) (wI.map (ev E)) w (hacc _ (by simp)) (hacc _ (by simp)) (hacc _ (by simp)) (hacc _ (by simp)) hcfg (by rw [List.length_map, lW]) hWr
 obtain ⟨lf, hdv⟩ := K.viewOf_ok E hV
 have hfl : V.fl.map (fun b => Value.bool (evB E b)) = trues.map Value.bool := by
  refine List.ext_getElem (by simp [lf, trues]) fun i h1 h2 => ?_
  rw [List.getElem_map, List.getElem_map]
  rw [List.length_map] at h1
  have := c3 _ (List.getElem_mem (l := V.fl) h1)
  have ht : trues[i]'(by rw [List.length_map] at h2; exact h2) = true := List.getElem_replicate ..
  rw [ht]
  unfold isT at this
  split at this
  ·rename_i c hq
   rw [hq]
   exact congrArg Value.bool this
  ·cases this
 have hN : nI.map (ev E) = [ev E c0, ev E c1', ev E c2', ev E c3'] ++ linksZ (nrm (bs.map (ev E))) := by
  rw [hsplit, List.map_append, elinks, hac]
  rfl
 have hargs : (#[imgVal (wI.map (ev E)) ([ev E c0, ev E c1', ev E c2', ev E c3'] ++ linksZ (nrm (bs.map (ev E)))), opVal (ev E k) (ev E a) (ev E b) (ev E x)] : Array Value) = ([v, o].map (dv E)).toArray := by
  have : dv E v = imgVal (wI.map (ev E)) ([ev E c0, ev E c1', ev E c2', ev E c3'] ++ linksZ (nrm (bs.map (ev E)))) := by
   rw [hdv, hfl, ← hN, eW, eN]
   unfold imgVal arrCells
   simp only [List.map_map, Function.comp_def, Nat.zero_add]
  rw [← opOf_ok E hO, ← this]
  rfl
 rw [hargs] at sem
 generalize hxs : nrm (bs.map (ev E)) = xs at *
 have hM : evA E (argM (nI.take 4) bs k a b x) = ysOf (ev E c0) (ev E c1') (ev E c2') (ev E c3') xs (ev E k) (ev E a) (ev E b) (ev E x) := by
  unfold argM ysOf
  rw [mkArgs_ev, hac, ← hxs]
  simp only [List.map_append, List.map_cons, List.map_nil, mkAdd_ok, ev_lit]
  congr 1
  congr 1
  unfold nrm
  have hl5 : ((bs.map (ev E)).take 5).length = 5 := by rw [List.length_take, List.length_map]; omega
  rw [List.take_left' hl5, List.map_take]
 have hH : evA E (argH bs k a b x) = bs.map (ev E) ++ [ev E k, ev E a, ev E b, ev E x] := by
  unfold argH
  rw [mkArgs_ev, List.map_append]
  rfl
 generalize hys : ysOf (ev E c0) (ev E c1') (ev E c2') (ev E c3') xs (ev E k) (ev E a) (ev E b) (ev E x) = ys at *
 generalize hMM : argM (nI.take 4) bs k a b x = M at *
 generalize hHH : argH bs k a b x = H at *
 obtain ⟨r0, r1, rb⟩ := tell_in hcfg (hacc c0 (by simp)) (hacc c1' (by simp)) (hacc c2' (by simp)) (hacc c3' (by simp)) hmay hys
 have vM : ∀ i, i ≤ 5 → in64 (tellZ i ys) → ev E (.app (300 + i) M) = tellZ i ys := fun i hi hin => by
  rw [ev_app, hM, hgf, G0_app hi]
  unfold clampZ
  exact if_pos hin
 have vK : ∀ j, j < 5 → ev E (.app (306 + j) M) = G0 (306 + j) ys := fun j _ => by rw [ev_app, hM, hgf]
 have vH : ∀ j, j < 5 → ev E (.app (460 + j) H) = G0 (460 + j) (xs ++ [ev E k, ev E a, ev E b, ev E x]) := fun j hj => by
  rw [ev_app, hH, hgf, ← hxs]
  exact G0_nrm hj (by rw [hxs]; exact hcfg) (by rw [List.length_map, lbs]) _
 refine sem.mono ?_
 rintro e w' ⟨hext, bl, b1, b2, b3, rfl⟩
 let E1 := E.two m.nv bl w'.heap.size
 let E2 := E1.more (m.nv + 2) (appsI M H)
 have hA1 : Agree m.nv E E1 := two_agree E m.nv _ _
 have hA : Agree m.nv E E2 := hA1.trans (more_agree E1 (m.nv + 2) (appsI M H)) (by omega)
 have hnm : ∀ y ∈ appsI M H, y.nm m.nv = true := fun y hy => by
  unfold appsI at hy
  simp only [List.mem_cons, List.not_mem_nil, or_false] at hy
  rcases hy with rfl | rfl | rfl | rfl | rfl | rfl | rfl | rfl | rfl | rfl | rfl | rfl | rfl | rfl | rfl | rfl
  all_goals first | exact c6 | exact c7
 have hlen : (appsI M H).length = 16 := rfl
 have hmem : ∀ i, i < 16 → (appsI M H).getD i (.lit 0) ∈ appsI M H := fun i hi => by
  rw [List.getD_eq_getElem?_getD, List.getElem?_eq_getElem (by rw [hlen]; exact hi)]
  exact List.getElem_mem _
 have hv : ∀ i, i < 16 → E2.i (m.nv + 2 + i) = ev E ((appsI M H).getD i (.lit 0)) := fun i hi => by
  show (if m.nv + 2 ≤ m.nv + 2 + i ∧ m.nv + 2 + i < m.nv + 2 + (appsI M H).length then ev E1 ((appsI M H).getD (m.nv + 2 + i - (m.nv + 2)) (.lit 0)) else E.i (m.nv + 2 + i)) = _
  rw [hlen, if_pos (by omega), Nat.add_sub_cancel_left]
  exact ev_agree hA1 (hnm _ (hmem i hi))
 have app64 : ∀ y ∈ appsI M H, in64 (ev E1 y) := fun y hy => by
  unfold appsI at hy
  simp only [List.mem_cons, List.not_mem_nil, or_false] at hy
  rcases hy with rfl | rfl | rfl | rfl | rfl | rfl | rfl | rfl | rfl | rfl | rfl | rfl | rfl | rfl | rfl | rfl
  all_goals exact hm.know.env.f _ _
 have hE2 : E2.Ok := ⟨fun j => by
  show in64 (if m.nv + 2 ≤ j ∧ j < m.nv + 2 + (appsI M H).length then ev E1 ((appsI M H).getD (j - (m.nv + 2)) (.lit 0)) else E.i j)
  split
  ·rename_i hj
   exact app64 _ (hmem _ (by rw [hlen] at hj; omega))
  ·exact hm.know.env.i j, hm.know.env.l, hm.know.env.f⟩
 have hb2 : E2.base m.nv = bl := by simp [E2, E1, Env.more, Env.two]
 have ho2 : E2.o m.nv = 0 := by simp [E2, E1, Env.more, Env.two]
 have hm2 : MemOk F w0 E2 { m with seg := m.nv + 1, next := 0, nv := m.nv + 18 } w' := by
  refine hm.moved c4 hA hE2 hext ?_ ?_
  ·simp [E2, E1, Env.more, Env.two]
  ·simp [E2, E1, Env.more, Env.two]
 have v0 : E2.i (m.nv + 2) = tellZ 0 ys := (hv 0 (by omega)).trans (vM 0 (by omega) (by unfold in64 lo64 hi64; omega))
 have v1 : E2.i (m.nv + 2 + 1) = tellZ 1 ys := (hv 1 (by omega)).trans (vM 1 (by omega) (by unfold in64 lo64 hi64; omega))
 have vb : ∀ j, j < 4 → E2.i (m.nv + 2 + (2 + j)) = tellZ (2 + j) ys := fun j hj => (hv (2 + j) (by omega)).trans (by
  have := vM (2 + j) (by omega) (balIn_64 (rb j hj))
  match j, hj with
  | 0, _ => exact this
  | 1, _ => exact this
  | 2, _ => exact this
  | 3, _ => exact this)
 have vk : ∀ j, j < 5 → E2.i (m.nv + 2 + (6 + j)) = G0 (306 + j) ys := fun j hj => (hv (6 + j) (by omega)).trans (by
  have := vK j hj
  match j, hj with
  | 0, _ => exact this
  | 1, _ => exact this
  | 2, _ => exact this
  | 3, _ => exact this
  | 4, _ => exact this)
 have vh : ∀ j, j < 5 → E2.i (m.nv + 2 + (11 + j)) = G0 (460 + j) (xs ++ [ev E k, ev E a, ev E b, ev E x]) := fun j hj => (hv (11 + j) (by omega)).trans (by
  have := vH j hj
  match j, hj with
  | 0, _ => exact this
  | 1, _ => exact this
  | 2, _ => exact this
  | 3, _ => exact this
  | 4, _ => exact this)
 have hnext : evA E2 (mkArgs (bitsI (m.nv + 2))) = nextOf ys xs (ev E k) (ev E a) (ev E b) (ev E x) := by
  rw [mkArgs_ev]
  show [E2.i (m.nv + 2 + (6 + 0)), E2.i (m.nv + 2 + (6 + 1)), E2.i (m.nv + 2 + (6 + 2)), E2.i (m.nv + 2 + (6 + 3)), E2.i (m.nv + 2 + (6 + 4)), E2.i (m.nv + 2 + (11 + 0)), E2.i (m.nv + 2 + (11 + 1)), E2.i (m.nv + 2 + (11 + 2)), E2.i (m.nv + 2 + (11 + 3)), E2.i (m.nv + 2 + (11 + 4))] = _
  rw [vk 0 (by omega), vk 1 (by omega), vk 2 (by omega), vk 3 (by omega), vk 4 (by omega), vh 0 (by omega), vh 1 (by omega), vh 2 (by omega), vh 3 (by omega), vh 4 (by omega)]
  rfl
 have hlk : ∀ c, c < 12 → ev E2 (.app (430 + c) (mkArgs (bitsI (m.nv + 2)))) = linkZ (nrm (nextOf ys xs (ev E k) (ev E a) (ev E b) (ev E x))) c := fun c hc => G0_link (E := E2) hgf hc hnext
 obtain ⟨n1, n2, n3, n4, n5⟩ := K.viewOf_nm hV c5
 refine ⟨_, List.mem_singleton_self _, E2, ⟨hA, by show m.nv ≤ m.nv + 18; omega, fun h => by have : m.nv + 18 = m.nv := h; omega⟩, ?_, ⟨hm2.know.env, fun y hy => ?_, fun d hd => ?_⟩, hm2.size, ?_, ?_, ?_, hm2.ext, hm2.seg0⟩
 ·congr 1
  unfold wayI
  rw [K.askX_ok E2 true _ _ _ _ (K.sliV bl) (by
   show [Value.slice (some (addrOf E2 m.nv 0 (.lit 0))) 1 1] = _
   unfold addrOf K.sliV
   rw [hb2, ho2]
   rfl)]
  have hfl2 : V.fl.map (evB E2) = trues := by
   refine List.ext_getElem (by simp [lf, trues]) fun i h1 h2 => ?_
   rw [List.getElem_map]
   rw [List.length_map] at h1
   have := c3 _ (List.getElem_mem (l := V.fl) h1)
   have ht : trues[i]'h2 = true := List.getElem_replicate ..
   rw [ht]
   unfold isT at this
   split at this
   ·rename_i c hq
    rw [hq]
    exact this
   ·cases this
  have hW2 : ((List.range 16).map (wsVal E2 V.r1 V.w1)) = wI.map (ev E) := by
   rw [eW]
   refine List.map_congr_left fun j _ => ?_
   rw [Nat.zero_add]
   exact wsVal_agree hA (row_agree hA n2) V.w1 n3 j
  have hN2 : ((List.range 16).map (wsVal E2 0 (nowI (m.nv + 2)))) = outN ys xs (ev E k) (ev E a) (ev E b) (ev E x) := by
   show [E2.i (m.nv + 2 + (2 + 0)) + 1, E2.i (m.nv + 2 + (2 + 1)) + 1, E2.i (m.nv + 2 + (2 + 2)) + 1, E2.i (m.nv + 2 + (2 + 3)) + 1, ev E2 (.app (430 + 0) (mkArgs (bitsI (m.nv + 2)))), ev E2 (.app (430 + 1) (mkArgs (bitsI (m.nv + 2)))), ev E2 (.app (430 + 2) (mkArgs (bitsI (m.nv + 2)))), ev E2 (.app (430 + 3) (mkArgs (bitsI (m.nv + 2)))), ev E2 (.app (430 + 4) (mkArgs (bitsI (m.nv + 2)))), ev E2 (.app (430 + 5) (mkArgs (bitsI (m.nv + 2)))), ev E2 (.app (430 + 6) (mkArgs (bitsI (m.nv + 2)))), ev E2 (.app (430 + 7) (mkArgs (bitsI (m.nv + 2)))), ev E2 (.app (430 + 8) (mkArgs (bitsI (m.nv + 2)))), ev E2 (.app (430 + 9) (mkArgs (bitsI (m.nv + 2)))), ev E2 (.app (430 + 10) (mkArgs (bitsI (m.nv + 2)))), ev E2 (.app (430 + 11) (mkArgs (bitsI (m.nv + 2))))] = _
   rw [vb 0 (by omega), vb 1 (by omega), vb 2 (by omega), vb 3 (by omega), hlk 0 (by omega), hlk 1 (by omega), hlk 2 (by omega), hlk 3 (by omega), hlk 4 (by omega), hlk 5 (by omega), hlk 6 (by omega), hlk 7 (by omega), hlk 8 (by omega), hlk 9 (by omega), hlk 10 (by omega), hlk 11 (by omega)]
   rfl
  dsimp only
  rw [hfl2, hW2, hN2]
  rfl
 ·rcases List.mem_append.1 hy with hy | hy
  ·unfold factsI at hy
   have g6 : ∀ j, j < 5 → 0 ≤ E2.i (m.nv + 2 + (6 + j)) ∧ E2.i (m.nv + 2 + (6 + j)) ≤ 1 := fun j hj => by
    rw [vk j hj]
    rcases G0_bit6 hj ys with h | h <;> rw [h] <;> omega
   have g11 : ∀ j, j < 5 → 0 ≤ E2.i (m.nv + 2 + (11 + j)) ∧ E2.i (m.nv + 2 + (11 + j)) ≤ 1 := fun j hj => by
    rw [vh j hj]
    rcases G0_bit hj (xs ++ [ev E k, ev E a, ev E b, ev E x]) with h | h <;> rw [h] <;> omega
   have gb : ∀ j, j < 4 → -1 ≤ E2.i (m.nv + 2 + (2 + j)) ∧ E2.i (m.nv + 2 + (2 + j)) ≤ 1048575 := fun j hj => by
    rw [vb j hj]
    exact rb j hj
   simp only [List.mem_cons, List.not_mem_nil, or_false] at hy
   rcases hy with rfl | rfl | rfl | rfl | rfl | rfl | rfl | rfl | rfl | rfl | rfl | rfl | rfl | rfl | rfl | rfl
   ·show 0 ≤ E2.i (m.nv + 2) ∧ E2.i (m.nv + 2) ≤ 4
    rw [v0]; exact r0
   ·show 0 ≤ E2.i (m.nv + 2 + 1) ∧ E2.i (m.nv + 2 + 1) ≤ 4194300
    rw [v1]; exact r1
   ·exact gb 0 (by omega)
   ·exact gb 1 (by omega)
   ·exact gb 2 (by omega)
   ·exact gb 3 (by omega)
   ·exact g6 0 (by omega)
   ·exact g6 1 (by omega)
   ·exact g6 2 (by omega)
   ·exact g6 3 (by omega)
   ·exact g6 4 (by omega)
   ·exact g11 0 (by omega)
   ·exact g11 1 (by omega)
   ·exact g11 2 (by omega)
   ·exact g11 3 (by omega)
   ·exact g11 4 (by omega)
  ·exact hm2.know.facts y hy
 ·rcases List.mem_append.1 hd with hd | hd
  ·obtain ⟨i, hi, rfl⟩ := defC_mem hd
   rw [hlen] at hi
   show decide (E2.i (m.nv + 2 + i) = ev E2 ((appsI M H).getD i (.lit 0))) = true
   rw [hv i hi, ev_agree hA (hnm _ (hmem i hi))]
   exact decide_eq_true rfl
  ·exact hm2.know.conds d hd
 ·intro y hy
  rcases List.mem_cons.1 hy with rfl | hy
  ·refine ⟨?_, fun h => (by cases h), fun _ => ⟨⟨ho2, rfl⟩, ?_⟩, fun h => (by cases h)⟩
   ·simp only [Ent.blk, hb2, Nat.add_zero]; exact b2
   ·simp only [Ent.blk, hb2, Nat.add_zero]
    rw [b3, ← v0, ← v1]
    rfl
  ·exact hm2.ents y hy
 ·refine List.Pairwise.cons ?_ hm2.apart
  intro y hy _
  have h1' : y.blk E2 < w.heap.size := by
   have h3 := (hm.ents y hy).lt
   have hn2 := c4
   simp only [Mem.nm, Bool.and_eq_true, List.all_eq_true] at hn2
   have h4 := hn2.1.1 y hy
   simp only [Ent.nm, Bool.and_eq_true, decide_eq_true_eq] at h4
   have : y.blk E2 = y.blk E := by simp only [Ent.blk, hA.base _ h4.1.1]
   rw [this]; exact h3
  simp only [Ent.blk, hb2, Nat.add_zero] at *
  omega
 ·intro y hy hr
  rcases List.mem_cons.1 hy with rfl | hy
  ·left
   simp only [Ent.blk, hb2, Nat.add_zero] at *
   have := hm.ext.size
   omega
  ·exact hm2.mine y hy hr
end Go.Proofs.Ytojpmbkbeoolcaa
