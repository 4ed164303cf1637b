/- EpochNear: the ghost (an unknown function of the epoch, the threads, the advances that is known to be 1), each step's new one. -/
import Derived.Test.YtjbhcmppjmmmiaaP
import Derived.Test.YtjbhcmppjmmmiaaNI
namespace Go.Proofs.Ytjbhcmppjmmmiaa
open Go.Sx Go Go.EpochInv
set_option maxRecDepth 100000
noncomputable def unarg : IE → List IE
 | .arg e r => e :: unarg r
 | _ => []
theorem unarg_ev (E : Env) (A : IE) : evA E A = (unarg A).map (ev E) := by
 induction A with
 | arg e r _ ih => rw [evA_arg, ih]; rfl
 | _ => rfl
noncomputable def ghostF (g : Nat) : List Fact → Option (List IE)
 | [] => none
 | (.app f A, lo, hi) :: r => cond (Nat.beq f g && (zEq lo 1 && zEq hi 1)) (some (unarg A)) (ghostF g r)
 | _ :: r => ghostF g r
theorem ghostF_ok {E : Env} {g : Nat} : ∀ {fs : List Fact} {l : List IE}, (∀ f ∈ fs, FactOk E f) → ghostF g fs = some l → E.f g (l.map (ev E)) = 1
 | [], _, _, h => by cases h
 | f :: r, l, hf, h => by
  unfold ghostF at h
  split at h
  ·rename_i heq; cases heq
  ·rename_i f' A lo hi r' heq
   cases heq
   cases hc : (Nat.beq f' g && (zEq lo 1 && zEq hi 1)) with
   | false => rw [hc] at h; exact ghostF_ok (fun f hm => hf f (List.mem_cons_of_mem _ hm)) h
   | true =>
    rw [hc] at h
    cases h
    simp only [Bool.and_eq_true] at hc
    have h1 := Nat.eq_of_beq_eq_true hc.1
    have h2 := zEq_ok hc.2.1
    have h3 := zEq_ok hc.2.2
    subst h1 h2 h3
    have := hf _ List.mem_cons_self
    unfold FactOk at this
    dsimp only at this
    rw [ev_app, unarg_ev] at this
    omega
  ·rename_i heq
   cases heq
   exact ghostF_ok (fun f hm => hf f (List.mem_cons_of_mem _ hm)) h
noncomputable def argsG : List IE → IE
 | [] => .noarg
 | e :: l => .arg e (argsG l)
theorem argsG_ev (E : Env) : ∀ l : List IE, evA E (argsG l) = l.map (ev E)
 | [] => rfl
 | e :: l => by
  show evA E (.arg e (argsG l)) = _
  rw [evA_arg, argsG_ev E l]
  rfl
theorem f760 {xs : List Int} (h : G0 760 xs = 1) : Near xs := by
 have h1 : clampZ (@ite Int (Near xs) (Classical.propDecidable _) 1 0) = 1 := h
 by_cases hl : Near xs
 ·exact hl
 ·rw [if_neg hl] at h1
  have : clampZ 0 = 0 := clampZ_of (by constructor <;> decide)
  omega
theorem f760_of {xs : List Int} (h : Near xs) : G0 760 xs = 1 := by
 show clampZ (@ite Int (Near xs) (Classical.propDecidable _) 1 0) = 1
 rw [if_pos h]
 exact clampZ_of (by constructor <;> decide)
noncomputable def at_ (l : List IE) (i : Nat) : IE := l.getD i (.lit 0)
theorem at_ev (E : Env) (l : List IE) (i : Nat) : ev E (at_ l i) = (l.map (ev E)).getD i 0 := by
 unfold at_
 rw [List.getD_eq_getElem?_getD, List.getD_eq_getElem?_getD, List.getElem?_map]
 cases l[i]? <;> rfl
noncomputable def four (e : IE) : IE := .mul e (.lit 4)
noncomputable def eqG (kn : Know) (a b : IE) : Bool := sameK kn a b || sameK kn (four a) (four b)
theorem eqG_ok {E : Env} {kn : Know} (hk : KnowOk E kn) {a b : IE} (h : eqG kn a b = true) : ev E a = ev E b := by
 unfold eqG at h
 rw [Bool.or_eq_true] at h
 rcases h with h | h
 ·exact sameK_ok hk h
 ·have := sameK_ok hk h
  unfold four at this
  rw [ev_mul, ev_mul, ev_lit] at this
  omega
noncomputable def eqAt (kn : Know) (o n : List IE) (i : Nat) : Bool := eqG kn (at_ n i) (at_ o i)
noncomputable def isZ (kn : Know) (e : IE) (z : Int) : Bool := eqG kn e (.lit z)
noncomputable def thrSame (kn : Know) (o n : List IE) (t : Nat) : Bool := (List.range 3).all fun j => Nat.beq j t || (eqAt kn o n (1 + j) && (eqAt kn o n (4 + j) && (eqAt kn o n (7 + j) && eqAt kn o n (10 + j))))
noncomputable def advSame (kn : Know) (o n : List IE) (k : Nat) : Bool := (List.range 3).all fun j => Nat.beq j k || (eqAt kn o n (13 + j) && eqAt kn o n (16 + j))
noncomputable def entStep (kn : Know) (o n : List IE) (t : Nat) : Bool := eqAt kn o n 0 && (thrSame kn o n t && (advSame kn o n 3 && (
 (isZ kn (at_ n (4 + t)) (-1) && isZ kn (at_ n (7 + t)) 0) ||
 (isZ kn (at_ n (4 + t)) (-1) && (isZ kn (at_ n (7 + t)) 1 && eqG kn (at_ n (10 + t)) (at_ o 0))) ||
 (eqAt kn o n (4 + t) && (isZ kn (at_ o (7 + t)) 1 && (isZ kn (at_ n (7 + t)) 2 && (eqAt kn o n (10 + t) && eqG kn (at_ n (1 + t)) (.add (at_ n (10 + t)) (.lit 1)))))) ||
 (isZ kn (at_ o (7 + t)) 2 && (isZ kn (at_ n (7 + t)) 0 && (eqG kn (at_ n (4 + t)) (at_ o (10 + t)) && (eqG kn (at_ o (10 + t)) (at_ o 0) && eqAt kn o n (1 + t))))))))
noncomputable def advStep (kn : Know) (o n : List IE) (k : Nat) : Bool := thrSame kn o n 3 && (advSame kn o n k && (
 (eqAt kn o n 0 && (isZ kn (at_ n (13 + k)) 0 || (isZ kn (at_ n (13 + k)) 1 && eqG kn (at_ n (16 + k)) (at_ o 0)) ||
  (eqAt kn o n (16 + k) && (List.range 3).any fun p => isZ kn (at_ o (13 + k)) (p + 1) && (isZ kn (at_ n (13 + k)) (p + 2) && (isZ kn (at_ o (1 + p)) 0 || eqG kn (at_ o (1 + p)) (.add (at_ o (16 + k)) (.lit 1))))))) ||
 (eqG kn (at_ n 0) (.add (at_ o (16 + k)) (.lit 1)) && (isZ kn (at_ o (13 + k)) 4 && (eqG kn (at_ o (16 + k)) (at_ o 0) && isZ kn (at_ n (13 + k)) 0)))))
noncomputable def nearStep (kn : Know) (o n : List IE) : Bool := (List.range 3).any (fun k => advStep kn o n k) || (List.range 3).any fun t => entStep kn o n t
section
variable {E : Env} {kn : Know} {o n : List IE}
theorem eqAt_ok (hk : KnowOk E kn) {i : Nat} (h : eqAt kn o n i = true) : (n.map (ev E)).getD i 0 = (o.map (ev E)).getD i 0 := by
 rw [← at_ev, ← at_ev]
 exact eqG_ok hk h
theorem isZ_ok (hk : KnowOk E kn) {e : IE} {z : Int} (h : isZ kn e z = true) : ev E e = z := (eqG_ok hk h).trans (ev_lit E z)
theorem thrSame_ok (hk : KnowOk E kn) {t : Nat} (h : thrSame kn o n t = true) : ∀ j, j < 3 → j ≠ t → (n.map (ev E)).getD (1 + j) 0 = (o.map (ev E)).getD (1 + j) 0 ∧ (n.map (ev E)).getD (4 + j) 0 = (o.map (ev E)).getD (4 + j) 0 ∧ (n.map (ev E)).getD (7 + j) 0 = (o.map (ev E)).getD (7 + j) 0 ∧ (n.map (ev E)).getD (10 + j) 0 = (o.map (ev E)).getD (10 + j) 0 := fun j hj hne => by
 unfold thrSame at h
 have h1 := List.all_eq_true.1 h j (List.mem_range.2 hj)
 simp only [Bool.or_eq_true, Bool.and_eq_true] at h1
 rcases h1 with h1 | ⟨h1, h2, h3, h4⟩
 ·exact absurd (Nat.eq_of_beq_eq_true h1) hne
 ·exact ⟨eqAt_ok hk h1, eqAt_ok hk h2, eqAt_ok hk h3, eqAt_ok hk h4⟩
theorem advSame_ok (hk : KnowOk E kn) {k : Nat} (h : advSame kn o n k = true) : ∀ j, j < 3 → j ≠ k → (n.map (ev E)).getD (13 + j) 0 = (o.map (ev E)).getD (13 + j) 0 ∧ (n.map (ev E)).getD (16 + j) 0 = (o.map (ev E)).getD (16 + j) 0 := fun j hj hne => by
 unfold advSame at h
 have h1 := List.all_eq_true.1 h j (List.mem_range.2 hj)
 simp only [Bool.or_eq_true, Bool.and_eq_true] at h1
 rcases h1 with h1 | ⟨h1, h2⟩
 ·exact absurd (Nat.eq_of_beq_eq_true h1) hne
 ·exact ⟨eqAt_ok hk h1, eqAt_ok hk h2⟩
theorem nearStep_ok (hk : KnowOk E kn) (h : nearStep kn o n = true) (hn : Near (o.map (ev E))) : Near (n.map (ev E)) := by
 unfold nearStep at h
 rw [Bool.or_eq_true, List.any_eq_true, List.any_eq_true] at h
 have z : ∀ {l : List IE} {i : Nat} {v : Int}, isZ kn (at_ l i) v = true → (l.map (ev E)).getD i 0 = v := fun h => by rw [← at_ev]; exact isZ_ok hk h
 have q : ∀ {a b : List IE} {i j : Nat}, eqG kn (at_ a i) (at_ b j) = true → (a.map (ev E)).getD i 0 = (b.map (ev E)).getD j 0 := fun h => by rw [← at_ev, ← at_ev]; exact eqG_ok hk h
 have q1 : ∀ {a b : List IE} {i j : Nat}, eqG kn (at_ a i) (.add (at_ b j) (.lit 1)) = true → (a.map (ev E)).getD i 0 = (b.map (ev E)).getD j 0 + 1 := fun h => by
  have := eqG_ok hk h
  rw [ev_add, ev_lit, at_ev, at_ev] at this
  exact this
 rcases h with ⟨k, hk3, h⟩ | ⟨t, _, h⟩
 ·have hk3 := List.mem_range.1 hk3
  unfold advStep at h
  simp only [Bool.and_eq_true, Bool.or_eq_true, List.any_eq_true] at h
  obtain ⟨h1, h2, h3⟩ := h
  refine near_adv hk3 hn (fun j hj => thrSame_ok hk h1 j hj (by omega)) (advSame_ok hk h2) ?_
  rcases h3 with ⟨hX, h3⟩ | ⟨s1, s2, s3, s4⟩
  ·refine .inl ⟨eqAt_ok hk hX, ?_⟩
   rcases h3 with (h3 | ⟨h3, h4⟩) | ⟨h3, p, hp, p1, p2, p3⟩
   ·exact .inl (z h3)
   ·exact .inr (.inl ⟨z h3, q h4⟩)
   ·exact .inr (.inr ⟨eqAt_ok hk h3, p, List.mem_range.1 hp, z p1, z p2, p3.imp (fun h => z h) fun h => q1 h⟩)
  ·have e3 := q s3
   refine .inr ⟨?_, z s2, e3, z s4⟩
   rw [q1 s1, e3]
 ·unfold entStep at h
  simp only [Bool.and_eq_true, Bool.or_eq_true] at h
  obtain ⟨hX, h1, h2, h3⟩ := h
  refine near_enter (t := t) hn (eqAt_ok hk hX) (thrSame_ok hk h1) (fun i hi => advSame_ok hk h2 i hi (by omega)) ?_
  rcases h3 with ((⟨a, b⟩ | ⟨a, b, c⟩) | ⟨a, b, c, d, e⟩) | ⟨a, b, c, d, e⟩
  ·exact .inl ⟨z a, z b⟩
  ·exact .inr (.inl ⟨z a, z b, q c⟩)
  ·exact .inr (.inr (.inl ⟨eqAt_ok hk a, z b, z c, eqAt_ok hk d, q1 e⟩))
  ·exact .inr (.inr (.inr ⟨z a, z b, q c, q d, eqAt_ok hk e⟩))
end
noncomputable def says (m : Mem) (a : SV) : Option (List IE) := match a with
 | .ptr s k _ => match m.find s k with
  | some e => match e.c with
   | .cons (.arr _ _ _ ws) _ => match wFind 29 ws, wFind 30 ws, wFind 31 ws, wFind 32 ws with
    | some x, some y0, some y1, some y2 => some [(dm 4 x).1, (dm 4 y0).1, (dm 4 y1).1, (dm 4 y2).1]
    | _, _, _, _ => none
   | _ => none
  | none => none
 | _ => none
noncomputable def pinG (kn : Know) (e : IE) : IE := cond (zEq (rng kn.facts e).1 0 && zEq (rng kn.facts e).2 0) (.lit 0) (cond (zEq (rng kn.facts e).1 (-1) && zEq (rng kn.facts e).2 (-1)) (.lit (-1)) e)
noncomputable def regs (m : Mem) (a : SV) : Option (List IE) := match a with
 | .sli s k _ _ _ => match m.find s k with
  | some e => match e.c with
   | .cons (.int _ n0) (.cons (.int _ n1) (.cons (.int _ n2) .nil)) => some [pinG m.know n0, pinG m.know n1, pinG m.know n2]
   | _ => none
  | none => none
 | _ => none
noncomputable def machE (m : Mem) (c : SV) : Option (IE × IE) := match c with
 | .nilp => some (.lit 0, .lit 0)
 | .ptr s k _ => match m.find s k with
  | some e => match e.c with
   | .cons _ (.cons (.int _ a) (.cons (.int _ b) _)) => some (a, b)
   | _ => none
  | none => none
 | _ => none
noncomputable def ofT (t : Nat) : List Ent → Option SV
 | [] => none
 | e :: r => cond (Nat.beq e.t t) (some e.c) (ofT t r)
noncomputable def machs (m : Mem) (t : Nat) : Option (List IE) := match ofT t m.heap with
 | some (.cons c0 (.cons c1 (.cons c2 _))) => match machE m c0, machE m c1, machE m c2 with
  | some (a0, b0), some (a1, b1), some (a2, b2) => some [a0, a1, a2, b0, b1, b2]
  | _, _, _ => none
 | _ => none
noncomputable def guess (args : List SV) (m : Mem) : Option (List IE) := match args with
 | [a, r] => match says m a, regs m r, machs m 58, machs m 59 with
  | some l1, some l2, some l3, some l4 => some (l1 ++ (l2 ++ (l3 ++ l4)))
  | _, _, _, _ => none
 | _ => none
noncomputable def putF (X b : IE) : List Fact → List Fact
 | [] => []
 | (.add a r, lo, hi) :: l => cond (ieEq a X) ((.add b r, lo, hi) :: putF X b l) (putF X b l)
 | _ :: l => putF X b l
theorem putF_ok {E : Env} {X b : IE} (h : ev E b = ev E X) : ∀ {l : List Fact}, (∀ f ∈ l, FactOk E f) → ∀ y ∈ putF X b l, FactOk E y
 | [], _, y, hy => by cases hy
 | f :: l, hl, y, hy => by
  have ih := putF_ok h (fun f hf => hl f (List.mem_cons_of_mem _ hf)) (l := l)
  unfold putF at hy
  split at hy
  ·rename_i heq; cases heq
  ·rename_i a r lo hi l' heq
   cases heq
   cases hc : ieEq a X with
   | false => rw [hc] at hy; exact ih y hy
   | true =>
    rw [hc] at hy
    have hx := ieEq_ok hc
    subst hx
    rcases List.mem_cons.1 hy with rfl | hy
    ·have := hl _ List.mem_cons_self
     unfold FactOk at this ⊢
     dsimp only at this ⊢
     rw [ev_add] at this ⊢
     rw [h]
     exact this
    ·exact ih y hy
  ·rename_i heq
   cases heq
   exact ih y hy
noncomputable def evenF (kn : Know) (o : List IE) (k : Nat) : List Fact := cond (isZ kn (at_ o (13 + k)) 4 && eqG kn (at_ o (16 + k)) (at_ o 0)) (putF (at_ o 0) (at_ o (16 + k)) kn.facts) []
theorem evenF_ok {E : Env} {kn : Know} (hk : KnowOk E kn) {o : List IE} {k : Nat} : ∀ y ∈ evenF kn o k, FactOk E y := fun y hy => by
 unfold evenF at hy
 cases hc : (isZ kn (at_ o (13 + k)) 4 && eqG kn (at_ o (16 + k)) (at_ o 0)) with
 | false => rw [hc] at hy; cases hy
 | true =>
  rw [hc] at hy
  rw [Bool.and_eq_true] at hc
  exact putF_ok (eqG_ok hk hc.2) hk.facts y hy
noncomputable def ghostN (args : List SV) (m : Mem) : List Fact := match ghostF 760 m.know.facts, guess args m with
 | some o, some n => cond (nearStep m.know o n) ((.app 760 (argsG n), 1, 1) :: (evenF m.know o 0 ++ (evenF m.know o 1 ++ evenF m.know o 2))) []
 | _, _ => []
theorem ghostN_ok {f : Nat} {s : List SV → X SV} (hs : SpecOk G0 Try.prog f s) : SpecOk G0 Try.prog f (factX ghostN s) := factX_ok hs fun F w0 E args m w hgf hm y hy => by
 unfold ghostN at hy
 split at hy
 ·rename_i o n ho hn
  cases hc : nearStep m.know o n with
  | false => rw [hc] at hy; cases hy
  | true =>
   rw [hc] at hy
   rcases List.mem_cons.1 hy with rfl | hy
   ·have h1 := ghostF_ok hm.know.facts ho
    rw [hgf] at h1
    have h2 := nearStep_ok hm.know hc (f760 h1)
    have h3 : ev E (.app 760 (argsG n)) = 1 := by
     rw [ev_app, argsG_ev, hgf]
     exact f760_of h2
    unfold FactOk
    dsimp only
    omega
   rcases List.mem_append.1 hy with hy | hy
   ·exact evenF_ok hm.know y hy
   rcases List.mem_append.1 hy with hy | hy
   ·exact evenF_ok hm.know y hy
   ·exact evenF_ok hm.know y hy
 ·cases hy
noncomputable def ghostL : List Fact → Option (List IE) := fun fs => ghostF 760 fs.reverse
theorem ghostL_ok {E : Env} {fs : List Fact} {l : List IE} (hf : ∀ f ∈ fs, FactOk E f) (h : ghostL fs = some l) : E.f 760 (l.map (ev E)) = 1 := ghostF_ok (fun f hm => hf f (List.mem_reverse.1 hm)) h
noncomputable def notLit : IE → Bool
 | .lit _ => false
 | _ => true
noncomputable def askIn (j : Nat) (_ : List SV) (m : Mem) : Option BE := match ghostL m.know.facts with
 | some n => cond (notLit (at_ n (4 + j))) (some (.lt (.lit (-1)) (at_ n (4 + j)))) none
 | none => none
noncomputable def askEq (j : Nat) (_ : List SV) (m : Mem) : Option BE := match ghostL m.know.facts with
 | some n => cond (notLit (at_ n (4 + j)) && yes m.know (.lt (.lit (-1)) (at_ n (4 + j)))) (some (.eq (at_ n 0) (at_ n (4 + j)))) none
 | none => none
noncomputable def gapF (X n : IE) (d : Int) : List Fact := [(mkSub X n, d, d), (mkSub n X, -d, -d), (mkSub (norm (four X)) (norm (four n)), 4 * d, 4 * d), (mkSub (norm (four n)) (norm (four X)), -(4 * d), -(4 * d)),
 (mkSub (norm (four X)) (norm (.add (four n) (.lit 4))), 4 * d - 4, 4 * d - 4), (mkSub (norm (.add (four n) (.lit 4))) (norm (four X)), 4 - 4 * d, 4 - 4 * d)]
theorem gapF_ok {E : Env} {X n : IE} {d : Int} (h : ev E X = ev E n + d) : ∀ f ∈ gapF X n d, FactOk E f := fun f hf => by
 unfold gapF at hf
 simp only [List.mem_cons, List.not_mem_nil, or_false] at hf
 rcases hf with rfl | rfl | rfl | rfl | rfl | rfl <;> unfold FactOk <;> dsimp only <;> rw [mkSub_ok] <;> (try simp only [norm_ok, four, ev_mul, ev_add, ev_lit]) <;> omega
noncomputable def gapJ (m : Mem) (n : List IE) (j : Nat) : List Fact := cond (notLit (at_ n (4 + j)) && yes m.know (.lt (.lit (-1)) (at_ n (4 + j))))
 (cond (yes m.know (.eq (at_ n 0) (at_ n (4 + j)))) (gapF (at_ n 0) (at_ n (4 + j)) 0) (cond (nay m.know (.eq (at_ n 0) (at_ n (4 + j)))) (gapF (at_ n 0) (at_ n (4 + j)) 1) [])) []
noncomputable def gaps (_ : List SV) (m : Mem) : List Fact := match ghostL m.know.facts with
 | some n => gapJ m n 0 ++ (gapJ m n 1 ++ gapJ m n 2)
 | none => []
theorem gaps_ok {f : Nat} {s : List SV → X SV} (hs : SpecOk G0 Try.prog f s) : SpecOk G0 Try.prog f (factX gaps s) := factX_ok hs fun F w0 E args m w hgf hm y hy => by
 unfold gaps at hy
 split at hy
 case h_2 => cases hy
 rename_i n hn
 have h1 := ghostL_ok hm.know.facts hn
 rw [hgf] at h1
 have h2 := f760 h1
 have one : ∀ j, j < 3 → ∀ y ∈ gapJ m n j, FactOk E y := fun j hj y hy => by
  unfold gapJ at hy
  cases hc : (notLit (at_ n (4 + j)) && yes m.know (.lt (.lit (-1)) (at_ n (4 + j)))) with
  | false => rw [hc] at hy; cases hy
  | true =>
  rw [hc] at hy
  dsimp only [cond] at hy
  rw [Bool.and_eq_true] at hc
  have h3 : decide ((-1 : Int) < ev E (at_ n (4 + j))) = true := yes_ok hm.know hc.2
  rw [decide_eq_true_eq] at h3
  obtain ⟨ga, _⟩ := h2.2 j hj
  unfold GA at ga
  rw [← at_ev, ← at_ev, ← at_ev, ← at_ev, ← at_ev] at ga
  cases h4 : yes m.know (.eq (at_ n 0) (at_ n (4 + j))) with
  | true =>
   rw [h4] at hy
   have h5 : decide (ev E (at_ n 0) = ev E (at_ n (4 + j))) = true := yes_ok hm.know h4
   rw [decide_eq_true_eq] at h5
   exact gapF_ok (by omega) y hy
  | false =>
   rw [h4] at hy
   dsimp only at hy
   cases h5 : nay m.know (.eq (at_ n 0) (at_ n (4 + j))) with
   | false => rw [h5] at hy; cases hy
   | true =>
    rw [h5] at hy
    have h6 : decide (ev E (at_ n 0) = ev E (at_ n (4 + j))) = false := nay_ok hm.know h5
    rw [decide_eq_false_iff_not] at h6
    exact gapF_ok (by omega) y hy
 rcases List.mem_append.1 hy with hy | hy
 ·exact one 0 (by omega) y hy
 rcases List.mem_append.1 hy with hy | hy
 ·exact one 1 (by omega) y hy
 ·exact one 2 (by omega) y hy
noncomputable def nearX : List SV → X SV := factX ghostN (uniX (preX (askIn 0) (preX (askEq 0) (preX (askIn 1) (preX (askEq 1) (preX (askIn 2) (preX (askEq 2) (factX gaps (fun0 25)))))))))
theorem nearX_ok : SpecOk G0 Try.prog 25 nearX := ghostN_ok (uniX_ok (preX_ok (preX_ok (preX_ok (preX_ok (preX_ok (preX_ok (gaps_ok (fun0_ok 25)) _) _) _) _) _) _))
noncomputable def spG : List (Nat × (List SV → X SV)) := (25, nearX) :: spF
theorem okSpG : ∀ x ∈ spG, SpecOk G0 Try.prog x.1 x.2 := cons_ok (a := (25, nearX)) nearX_ok okSpF
noncomputable def cxG : CX := callF (tabJ []) (spOf spG) (bxOf []) 400 12
theorem cxG_ok : CallsOk G0 Try.prog cxG := by
 unfold cxG
 rw [callF_eq]
 exact callD_ok (spOf_ok okSpG) noBx 400 12
end Go.Proofs.Ytjbhcmppjmmmiaa
