/- The law Bodies: for every input the call returns true, and each argument reads afterwards as it read before; no condition. -/
import Derived.Test.YtnfmmiomomgabaaO0
import Derived.Test.YtnfmmiomomgabaaO1
import Derived.Test.YtnfmmiomomgabaaO2
import Derived.Test.YtnfmmiomomgabaaO3
import Derived.Test.YtnfmmiomomgabaaK
namespace Go.Proofs.Ytnfmmiomomgabaa
open Go.Sx Go Go.ChangeShapes Go.WideShapes Go.ChangeAt Go.RowKit Go.Deep
set_option maxRecDepth 100000
noncomputable def envO (w : World) (cs : List Value) (os : List Int) (ints : List (Nat × List Int)) (bases offs : List (Nat × Nat)) : Env :=
 { envOf w [(20, 48, cs)] [(6, (List.range 16).map fun j => intAt cs (16 + j)), (7, (List.range 16).map fun j => intAt cs (32 + j)), (10, os)] ints bases offs with f := G0 }
theorem envO_ok {w : World} {cs : List Value} (hc : IsView cs) {os : List Int} (ho : ∀ z ∈ os, in64 z) {ints : List (Nat × List Int)} (hi : ∀ y ∈ ints, ∀ z ∈ y.2, in64 z) (bases offs : List (Nat × Nat)) : (envO w cs os ints bases offs).Ok := by
 have h := envOf_ok (w := w) (cells := [(20, 48, cs)]) (rows := [(6, (List.range 16).map fun j => intAt cs (16 + j)), (7, (List.range 16).map fun j => intAt cs (32 + j)), (10, os)]) (ints := ints) (bases := bases) (offs := offs) (fun x hx i => by
   simp only [List.mem_cons, List.not_mem_nil, or_false] at hx
   subst hx; exact hc.ints i) (fun x hx z hz => by
   simp only [List.mem_cons, List.not_mem_nil, or_false] at hx
   rcases hx with rfl | rfl | rfl
   ·obtain ⟨j, _, rfl⟩ := List.mem_map.1 hz; exact hc.ints _
   ·obtain ⟨j, _, rfl⟩ := List.mem_map.1 hz; exact hc.ints _
   ·exact ho z hz) hi
 exact ⟨h.i, h.l, G0_in⟩
theorem viewO {w : World} {cs : List Value} (hc : IsView cs) {os : List Int} {ints : List (Nat × List Int)} {bases offs : List (Nat × Nat)} : dv (envO w cs os ints bases offs) (viewV 20 6 7) = .agg cs.toArray := by
 have := view_val (w := w) hc (ints := []) (fun i _ => rfl)
 rw [dv_view] at this ⊢
 exact this
theorem factsO {w : World} {cs : List Value} (hm : AllMay cs) {os : List Int} {ints : List (Nat × List Int)} {bases offs : List (Nat × Nat)} : ∀ f ∈ rngs 6 16 (rngs 7 16 []), FactOk (envO w cs os ints bases offs) f := by
 intro f hf
 have := facts_A (w := w) (ints := []) hm (fs := []) (fun _ h => (by cases h)) f hf
 rcases rngs_mem hf with h | ⟨i, _, rfl⟩
 ·rcases rngs_mem h with h | ⟨i, _, rfl⟩
  ·cases h
  ·unfold FactOk at *; rw [ev_sel] at *; exact this
 ·unfold FactOk at *; rw [ev_sel] at *; exact this
noncomputable def nm8 : Bool := cVa.nm 8 && cVb.nm 8
theorem nm8_ok : nm8 = true := by kernel_rfl
abbrev opI (k a b x : Int) : List (Nat × List Int) := [(10, [k]), (11, [a]), (12, [b]), (13, [x])]
abbrev slI (l c : Nat) : List (Nat × List Int) := [(47, [0]), (48, [(l : Int)]), (49, [(c : Int)])]
theorem opI_in {k a b x : Int} (hk : in64 k) (ha : in64 a) (hb : in64 b) (hx : in64 x) : ∀ y ∈ opI k a b x, ∀ z ∈ y.2, in64 z := fun y hy z hz => by
 simp only [List.mem_cons, List.not_mem_nil, or_false] at hy
 rcases hy with rfl | rfl | rfl | rfl <;> (simp only [List.mem_cons, List.not_mem_nil, or_false] at hz; subst hz; assumption)
theorem slI_in {l c : Nat} (h : l ≤ c) (hc : c ≤ maxLen) : ∀ y ∈ slI l c, ∀ z ∈ y.2, in64 z := fun y hy z hz => by
 have h1 := len_in hc
 have h2 := len_in (Nat.le_trans h hc)
 simp only [List.mem_cons, List.not_mem_nil, or_false] at hy
 rcases hy with rfl | rfl | rfl
 ·simp only [List.mem_cons, List.not_mem_nil, or_false] at hz; subst hz; constructor <;> decide
 ·simp only [List.mem_cons, List.not_mem_nil, or_false] at hz; subst hz; exact h2
 ·simp only [List.mem_cons, List.not_mem_nil, or_false] at hz; subst hz; exact h1
theorem small_far {ints : List (Nat × List Int)} (h : ∀ y ∈ ints, 9 < y.1) {j : Nat} (hj : j < 8) : lookR j ints = [] := by
 induction ints with
 | nil => rfl
 | cons y l ih =>
  unfold lookR
  have := h y List.mem_cons_self
  rw [if_neg (by omega)]
  exact ih fun z hz => h z (List.mem_cons_of_mem _ hz)
theorem agreeO {w : World} {cs : List Value} {os : List Int} {ints : List (Nat × List Int)} (h : ∀ y ∈ ints, 9 < y.1) {bases offs : List (Nat × Nat)} (hb : ∀ j, j < 8 → (envO w cs os ints bases offs).base j = (envV w cs []).base j) (ho : ∀ j, j < 8 → (envO w cs os ints bases offs).o j = (envV w cs []).o j) : Agree 8 (envV w cs []) (envO w cs os ints bases offs) := by
 refine ⟨fun j hj => ?_, fun _ _ => rfl, fun j hj => ?_, hb, ho, fun _ _ => rfl, rfl⟩
 ·show (match lookR j ints with | z :: _ => z | [] => lookN j intAt 0 [(20, 48, cs)]) = lookN j intAt 0 [(20, 48, cs)]
  rw [small_far h hj]
 ·show lookR j [(6, _), (7, _), (10, os)] = lookR j [(6, _), (7, _)]
  unfold lookR
  split
  ·rfl
  ·unfold lookR
   split
   ·rfl
   ·unfold lookR
    rw [if_neg (by omega)]
    rfl
theorem base_far {w : World} {cs : List Value} {os : List Int} {ints : List (Nat × List Int)} {bb o j : Nat} (hj : j < 8) : (envO w cs os ints [(46, bb)] [(46, o)]).base j = (envV w cs []).base j := by
 match j, hj with
 | 0, _ | 1, _ | 2, _ | 3, _ | 4, _ | 5, _ | 6, _ | 7, _ => rfl
theorem off_far {w : World} {cs : List Value} {os : List Int} {ints : List (Nat × List Int)} {bb o j : Nat} (hj : j < 8) : (envO w cs os ints [(46, bb)] [(46, o)]).o j = (envV w cs []).o j := by
 match j, hj with
 | 0, _ | 1, _ | 2, _ | 3, _ | 4, _ | 5, _ | 6, _ | 7, _ => rfl
theorem badO {w : World} {cs : List Value} (hn : ¬ AllMay cs) {E : Env} (hA : Agree 8 (envV w cs []) E) : ∀ c ∈ [BE.not cVa, .not cVb], evB E c = true := by
 have hq := nm8_ok
 unfold nm8 at hq
 rw [Bool.and_eq_true] at hq
 intro c hc
 have := bad_ok (w := w) (ints := []) hn c hc
 rw [← this]
 refine evB_agree hA c ?_
 simp only [List.mem_cons, List.not_mem_nil, or_false] at hc
 rcases hc with rfl | rfl
 ·exact hq.1
 ·exact hq.2
theorem dvO {w : World} {cs : List Value} {os : List Int} {k a b x : Int} {l c : Nat} {bases offs : List (Nat × Nat)} : dv (envO w cs os (opI k a b x ++ slI l c) bases offs) (opV 10) = opVal k a b x := rfl
theorem dvO0 {w : World} {cs : List Value} {os : List Int} {k a b x : Int} {bases offs : List (Nat × Nat)} : dv (envO w cs os (opI k a b x) bases offs) (opV 10) = opVal k a b x := rfl
theorem run_O {s : List SV → X SV} (hs : SpecOk G0 Try.prog 3 s) {sv : SV} {ents : List Ent} {fs : List Fact} {cn : List BE} (hrun : allOf (s [viewV 20 6 7, sv, opV 10] { slMem ents fs 50 with know := ⟨fs, cn⟩ }) isTrue = true) {w : World} {cs : List Value} (_hc : IsView cs) {E : Env} (hE : E.Ok) (hf : E.f = G0) (hb : E.base 0 = w.heap.size) (h0 : E.o 0 = 0)
  (hents : ∀ e ∈ ents, e.ro = true ∧ EntOk E w e) (hfs : ∀ f ∈ fs, FactOk E f) (hcn : ∀ c ∈ cn, evB E c = true) {v1 : Value} {k a b x : Int} (hv : dv E (viewV 20 6 7) = .agg cs.toArray) (h1 : dv E sv = v1) (h2 : dv E (opV 10) = opVal k a b x) : Calls Try.prog 3 #[.agg cs.toArray, v1, opVal k a b x] w fun r w' => r = .returned (.bool true) ∧ Below w.heap.size w w' := by
 have hm := slMem_ok (w := w) (E := E) (ents := ents) (fs := fs) 50 hE hb h0 hents hfs
 have hm' : MemOk (fun _ => False) w E { slMem ents fs 50 with know := ⟨fs, cn⟩ } w := ⟨⟨hE, hfs, hcn⟩, hm.size, hm.ents, hm.apart, hm.mine, hm.ext, hm.seg0⟩
 have := law_ok hs hrun (E := E) (w := w) hf hm'
 rw [List.map_cons, List.map_cons, List.map_cons, List.map_nil, hv, h1, h2] at this
 exact this
theorem row_mem {os : List Int} (h : ∀ z ∈ os, in64 z) (j : Nat) : in64 (os.getD j 0) := by
 rw [List.getD_eq_getElem?_getD]
 cases hq : os[j]? with
 | none => constructor <;> decide
 | some z => exact h z (List.mem_of_getElem? hq)
theorem bodies_ops {w : World} {cs : List Value} (hc : IsView cs) {v1 : Value} {bb o len cap : Nat} {os : List Int} (ho : SlIn w 4 v1 bb o len cap os) (hl : len ≤ 4398046510976) {k a b x : Int} (hk : in64 k) (ha : in64 a) (hb : in64 b) (hx : in64 x) : Calls Try.prog 3 #[.agg cs.toArray, v1, opVal k a b x] w fun r w' => r = .returned (.bool true) ∧ Below w.heap.size w w' := by
 have hl2 := ho.room
 have hmx := ho.max
 have hE : (envO w cs os (opI k a b x ++ slI len cap) [(46, bb)] [(46, o)]).Ok := envO_ok hc ho.nums (fun y hy => (List.mem_append.1 hy).elim (opI_in hk ha hb hx y) (slI_in ho.room ho.max y)) _ _
 have hN : SlArg.Named ⟨46, 47, 48, 49, 10, 4, bb, o, len, cap, os⟩ (envO w cs os (opI k a b x ++ slI len cap) [(46, bb)] [(46, o)]) := ⟨rfl, rfl, rfl, rfl, rfl, rfl, (by show (10 : Nat) ≠ 0; decide)⟩
 have hH := holds_of ho 46 47 48 49 10
 have hent : ∀ e ∈ [osF], e.ro = true ∧ EntOk (envO w cs os (opI k a b x ++ slI len cap) [(46, bb)] [(46, o)]) w e := fun e he => by
  rcases List.mem_singleton.1 he with rfl
  exact ⟨rfl, SlArg.ent hN hH⟩
 have hsl : ∀ f ∈ slF 47 48 49 4398046510976, FactOk (envO w cs os (opI k a b x ++ slI len cap) [(46, bb)] [(46, o)]) f := SlArg.facts hN hH (by show (len : Int) ≤ 4398046510976; omega)
 have hv := viewO (w := w) hc (os := os) (ints := opI k a b x ++ slI len cap) (bases := [(46, bb)]) (offs := [(46, o)])
 have h1 : dv (envO w cs os (opI k a b x ++ slI len cap) [(46, bb)] [(46, o)]) osW = v1 := by rw [ho.val]; exact SlArg.val hN
 have h1z : len = 0 → dv (envO w cs os (opI k a b x ++ slI len cap) [(46, bb)] [(46, o)]) (.sli 46 0 (.var 47) (.lit 0) (.var 49)) = v1 := fun h => by rw [ho.val]; subst h; exact SlArg.val hN
 have v48 : ∀ {lo hi : Int}, lo ≤ (len : Int) → (len : Int) ≤ hi → FactOk (envO w cs os (opI k a b x ++ slI len cap) [(46, bb)] [(46, o)]) (.var 48, lo, hi) := fun h1 h2 => ⟨h1, h2⟩
 by_cases hm : AllMay cs
 ·have hall : ∀ {fs : List Fact}, (∀ f ∈ fs, FactOk (envO w cs os (opI k a b x ++ slI len cap) [(46, bb)] [(46, o)]) f) → ∀ f ∈ fs ++ (slF 47 48 49 4398046510976 ++ rngs 6 16 (rngs 7 16 [])), FactOk (envO w cs os (opI k a b x ++ slI len cap) [(46, bb)] [(46, o)]) f := fun h f hf =>
   (List.mem_append.1 hf).elim (h f) fun hf => (List.mem_append.1 hf).elim (hsl f) (factsO hm f)
  have use : ∀ {fs : List Fact}, okB fs = true → (∀ f ∈ fs, FactOk (envO w cs os (opI k a b x ++ slI len cap) [(46, bb)] [(46, o)]) f) → Calls Try.prog 3 #[.agg cs.toArray, v1, opVal k a b x] w fun r w' => r = .returned (.bool true) ∧ Below w.heap.size w w' := fun h hf => by
   unfold okB memO at h
   exact run_O (funL_ok okSpO 3) h hc hE rfl rfl rfl hent (hall hf) (fun _ h => (by cases h)) hv h1 dvO
  obtain ⟨c, hck⟩ := bool_k (n := 0) (sel_in hE 10 0)
  obtain ⟨d, hdk⟩ := bool_k (n := 4) (sel_in hE 10 4)
  rcases (by omega : len = 0 ∨ len = 1 ∨ len = 2 ∨ 3 ≤ len) with h | h | h | h
  ·have hr := bo_0
   unfold ok0 memO at hr
   exact run_O (funL_ok okSpO 3) hr hc hE rfl rfl rfl hent (hall (one_fact (v48 (by omega) (by omega)))) (fun _ h => (by cases h)) hv (h1z h) dvO
  ·cases c
   ·exact use bo_1f (cons_fact (v48 (by omega) (by omega)) (one_fact hck))
   ·exact use bo_1t (cons_fact (v48 (by omega) (by omega)) (one_fact hck))
  ·cases c <;> cases d
   ·exact use bo_2ff (cons_fact (v48 (by omega) (by omega)) (cons_fact hck (one_fact hdk)))
   ·exact use bo_2ft (cons_fact (v48 (by omega) (by omega)) (cons_fact hck (one_fact hdk)))
   ·exact use bo_2tf (cons_fact (v48 (by omega) (by omega)) (cons_fact hck (one_fact hdk)))
   ·exact use bo_2tt (cons_fact (v48 (by omega) (by omega)) (cons_fact hck (one_fact hdk)))
  ·have hr := bo_3
   unfold ok3 memO at hr
   exact run_O (funL_ok (cons_ok (a := (26, x26)) x26_ok okSpO) 3) hr hc hE rfl rfl rfl hent (hall (one_fact (v48 (by omega) (by omega)))) (fun _ h => (by cases h)) hv h1 dvO
 ·have hbad := badO (w := w) hm (agreeO (os := os) (ints := opI k a b x ++ slI len cap) (bases := [(46, bb)]) (offs := [(46, o)]) (fun y hy => by
   simp only [List.cons_append, List.nil_append, List.mem_cons, List.not_mem_nil, or_false] at hy
   rcases hy with rfl | rfl | rfl | rfl | rfl | rfl | rfl <;> (dsimp only; omega)) (fun j hj => base_far hj) (fun j hj => off_far hj))
  rcases (by omega : len = 0 ∨ len = 1 ∨ len = 2 ∨ 3 ≤ len) with h | h | h | h
  ·have hr := bb_0
   unfold bad0 memBad at hr
   rw [nfB_eq, nfB_eq] at hr
   exact run_O (funL_ok okSpZ 3) hr hc hE rfl rfl rfl hent (cons_fact (v48 (by omega) (by omega)) hsl) hbad hv (h1z h) dvO
  ·have hr := bb_1
   unfold bad1 memBad at hr
   rw [nfB_eq, nfB_eq] at hr
   exact run_O (funL_ok okSpZ 3) hr hc hE rfl rfl rfl hent (cons_fact (v48 (by omega) (by omega)) hsl) hbad hv h1 dvO
  ·have hr := bb_2
   unfold bad1 memBad at hr
   rw [nfB_eq, nfB_eq] at hr
   exact run_O (funL_ok okSpZ 3) hr hc hE rfl rfl rfl hent (cons_fact (v48 (by omega) (by omega)) hsl) hbad hv h1 dvO
  ·have hr := bb_3
   unfold bad3 memBad at hr
   rw [nfB_eq, nfB_eq] at hr
   exact run_O (funL_ok (cons_ok (a := (26, x26)) x26_ok okSpZ) 3) hr hc hE rfl rfl rfl hent (cons_fact (v48 (by omega) (by omega)) hsl) hbad hv h1 dvO
theorem bodies_nil {w : World} {cs : List Value} (hc : IsView cs) {k a b x : Int} (hk : in64 k) (ha : in64 a) (hb : in64 b) (hx : in64 x) {v1 : Value} (hv1 : v1 = .slice none 0 0) : Calls Try.prog 3 #[.agg cs.toArray, v1, opVal k a b x] w fun r w' => r = .returned (.bool true) ∧ Below w.heap.size w w' := by
 subst hv1
 have hE : (envO w cs [] (opI k a b x) [] []).Ok := envO_ok hc (fun _ h => (by cases h)) (opI_in hk ha hb hx) _ _
 have hv := viewO (w := w) hc (os := []) (ints := opI k a b x) (bases := []) (offs := [])
 by_cases hm : AllMay cs
 ·have hr := bo_n
  unfold okNil memC at hr
  exact run_O (ents := []) (funL_ok okSpO 3) hr hc hE rfl rfl rfl (fun _ h => (by cases h)) (factsO hm) (fun _ h => (by cases h)) hv rfl dvO0
 ·have hbad := badO (w := w) hm (agreeO (os := []) (ints := opI k a b x) (bases := []) (offs := []) (fun y hy => by
   simp only [List.mem_cons, List.not_mem_nil, or_false] at hy
   rcases hy with rfl | rfl | rfl | rfl <;> (dsimp only; omega)) (fun _ _ => rfl) (fun _ _ => rfl))
  have hr := bb_n
  unfold badNil memBad at hr
  rw [nfB_eq, nfB_eq] at hr
  exact run_O (funL_ok okSpZ 3) hr hc hE rfl rfl rfl (fun _ h => (by cases h)) (fun _ h => (by cases h)) hbad hv rfl dvO0
section
variable {H : Type} {enc : TypeId × Value → H} {w : World} {base : Nat} {spare : Nat → Bool} {held : Bool} {r : Reach} {b0 : Nat}
theorem open_opsZ {v : Value} {d : DataW H} {p : List MemPlace} (k : Value.okWide Try.prog w r b0 26 v) (h : DataW.Trod enc Try.prog w base spare held 26 v d p) (hw : ∀ n ∈ d.weights Try.prog 26, n ≤ reachBytes) : v = .slice none 0 0 ∨ ∃ b o len cap zs, SlIn w 4 v b o len cap zs ∧ len ≤ 4398046510976 := by
 have hint : ∀ (j : Nat) (f : Field), (Try.prog.fieldsOf 28)[j]? = some f → Try.prog.underlying f.type = some (.int .i64) := by
  have e : (Try.prog.fieldsOf 28).all (fun f => isInt64 (Try.prog.underlying f.type)) = true := by kernel_rfl
  intro j f hj
  rw [Array.all_eq_true] at e
  obtain ⟨hj1, rfl⟩ := Array.getElem?_eq_some_iff.1 hj
  exact isInt64_eq (e j hj1)
 have hs4 : (Try.prog.fieldsOf 28).size = 4 := by kernel_rfl
 have hby : Try.prog.bytesOf 28 = 32 := by kernel_rfl
 have hu : Try.prog.underlying 26 = some (.slice 28) := by kernel_rfl
 rcases open_int_structs hu (show Try.prog.underlying 28 = some (.struct (Try.prog.fieldsOf 28)) by kernel_rfl) (by kernel_rfl) hint (by kernel_rfl) k h with rfl | ⟨b, o, len, cap, zs, rfl, ⟨elems, sp, rfl, hlen⟩, h1, h2, h3, h4, h5, h6⟩
 ·exact .inl rfl
 ·refine .inr ⟨b, o, len, cap, zs, ⟨rfl, h1, h2, h3, by rw [h4, hs4], h5, h6⟩, ?_⟩
  have hmem : (elems.length + sp.length) * Try.prog.bytesOf 28 ∈ DataW.weights Try.prog 26 (.slice elems sp) := by
   unfold DataW.weights
   rw [hu]
   exact List.mem_cons_self
  have := hw _ hmem
  rw [hby, hlen] at this
  unfold reachBytes at this
  omega
theorem bodies_walk {v0 v1 v2 : Value} {d0 d1 d2 : DataW H} {p1 : List MemPlace} {ts : List TypeId}
  (k0 : Value.okWide Try.prog w r b0 25 v0)
  (k1 : Value.okWide Try.prog w r b0 26 v1) (h1 : DataW.Trod enc Try.prog w base spare held 26 v1 d1 p1)
  (k2 : Value.okWide Try.prog w r b0 28 v2)
  (hsz : (DataW.weightsEach Try.prog ([25, 26, 28] ++ ts) ([d0, d1, d2] ++ [])).all (· ≤ reachBytes) = true) :
  Calls Try.prog 3 #[v0, v1, v2] w fun r w' => r = .returned (.bool true) ∧ Below w.heap.size w w' := by
 obtain ⟨cs, rfl, hc⟩ := open_view k0
 obtain ⟨k, a, b, x, rfl, hk, ha, hb, hx⟩ := open_op k2
 rw [List.all_eq_true] at hsz
 have hw : ∀ n ∈ d1.weights Try.prog 26, n ≤ reachBytes := fun n hn => by
  have : n ∈ DataW.weightsEach Try.prog ([25, 26, 28] ++ ts) ([d0, d1, d2] ++ []) := by
   show n ∈ d0.weights Try.prog 25 ++ (d1.weights Try.prog 26 ++ _)
   exact List.mem_append_right _ (List.mem_append_left _ hn)
  exact of_decide_eq_true (hsz n this)
 rcases open_opsZ k1 h1 hw with h | ⟨bb, o, len, cap, os, ho, hl⟩
 ·exact bodies_nil hc hk ha hb hx h
 ·exact bodies_ops hc ho hl hk ha hb hx
end
end Go.Proofs.Ytnfmmiomomgabaa
namespace Go.Proofs.Ytnfmmiomomgabaa.bodies
open Go.ChangeShapes Go.WideShapes Go.ChangeAt Go.RowKit Go.Deep
set_option maxRecDepth 100000 in
theorem lifted (os : Os) (started : os.Started) (H : Type) (enc : TypeId × Value → H) :
  ReturnsInHanded {} Try.checked os 3 .any (Rows.bodiesSpec.pre6 enc Try.prog Try.f3 Rows.bodiesRow.domain false) (Rows.bodiesSpec.post enc Try.prog Try.f3 false true false false) := by
 refine returnsInHanded_of_change_sized (C := Try.checked) own started (by kernel_rfl) Try.func3
  (ChangeSpec.witness6 (enc := enc) (C := Try.checked) false ⟨#[], #[.agg (Array.replicate 16 (.bool false) ++ Array.replicate 32 (.int .i64 0)), .slice none 0 0, .agg (Array.replicate 4 (.int .i64 0))], []⟩ 60 (by kernel_rfl) (by kernel_rfl) (by kernel_rfl) (by kernel_rfl)) ?_
 intro W base args ds gs before hval0 hW _ hsz0 _
 have hval : ∀ (j : Nat) t v, Try.f3.params[j]? = some t → args[j]? = some v → Value.okWide Try.prog W .any base t v := hval0
 have hsz : (DataW.weightsEach Try.prog (Try.f3.params.toList ++ Rows.bodiesSpec.plain.varTypes Try.prog) (ds ++ gs)).all (· ≤ reachBytes) = true := hsz0
 have hW' := hW
 obtain ⟨p, q, hA0, hV, rfl, _, _⟩ := hW
 have hA : DataW.TrodAll enc Try.prog W 0 (fun _ => true) true Try.f3.params.toList args.toList ds p := hA0
 rw [Try.params3] at hA hval hsz
 obtain ⟨v0, vs0, d0, ds0, p0, q0, hargs, rfl, rfl, h0, r0⟩ := trodAll_cons hA
 obtain ⟨v1, vs1, d1, ds1, p1, q1, rfl, rfl, rfl, h1, r1⟩ := trodAll_cons r0
 obtain ⟨v2, vs2, d2, ds2, p2, q2, rfl, rfl, rfl, h2, r2⟩ := trodAll_cons r1
 obtain ⟨rfl, rfl, rfl⟩ := trodAll_nil r2
 obtain rfl : args = #[v0, v1, v2] := by cases args; simp_all
 obtain ⟨rfl, rfl⟩ := trodVars_none hV
 have tl0 : ∀ x ∈ p0, x.block < W.heap.size := by obtain ⟨m, hm⟩ := h0; exact DataW.trod_lt m _ _ _ hm
 have tl1 : ∀ x ∈ p1, x.block < W.heap.size := by obtain ⟨m, hm⟩ := h1; exact DataW.trod_lt m _ _ _ hm
 have tl2 : ∀ x ∈ p2, x.block < W.heap.size := by obtain ⟨m, hm⟩ := h2; exact DataW.trod_lt m _ _ _ hm
 clear hA0 hval0
 refine (bodies_walk (hval 0 25 v0 rfl rfl) (hval 1 26 v1 rfl rfl) h1 (hval 2 28 v2 rfl rfl) hsz).mono fun e W' ⟨he, bel⟩ => ?_
 subst he
 exact ⟨_, rfl, _, _, _, [], _, [], hW', trodAll_mk1 (shut_bool Try.underlying4 _), (trodAll_cons_mk (Below.trod laidOut (by kernel_rfl) (of_decide_eq_true (by kernel_rfl)) h0 bel tl0) (trodAll_cons_mk (Below.trod laidOut (by kernel_rfl) (of_decide_eq_true (by kernel_rfl)) h1 bel tl1) (trodAll_cons_mk (Below.trod laidOut (by kernel_rfl) (of_decide_eq_true (by kernel_rfl)) h2 bel tl2) trodAll_mk0))), rfl, bel.frame _, fun h => by cases h⟩
theorem over : Rows.bodiesRow.holds Try.pinned (OpenSpec.ofChange Rows.bodiesSpec) :=
 OpenClaim.holds_of_wide 3 Try.f3 rfl rfl rfl rfl rfl rfl rfl ⟨rfl, rfl, rfl, rfl, rfl⟩ rfl rfl rfl rfl rfl (by kernel_rfl) Try.func3 (by kernel_rfl)
  (of_decide_eq_true (by kernel_rfl)) (by unfold Func.isWrapper; first | (rw [if_pos (by decide +kernel)]; kernel_rfl) | (rw [if_neg (by decide +kernel)]; exact ⟨rfl, rfl⟩))
  (fun os started H enc _ => lifted os started H enc)
theorem proved : Rows.BodiesSaid := over
#print axioms proved
end Go.Proofs.Ytnfmmiomomgabaa.bodies
