/- Get: the words of a slot's descriptor, what they come to. -/
import Derived.Test.YtofmndcdcchflaaMX
import Derived.Test.YtofmndcdcchflaaE4
namespace Go.Proofs.Ytofmndcdcchflaa
open Go.Sx Go Go.DescNum
set_option maxRecDepth 100000
variable {V : List Int}
noncomputable def c821 (x : IE) : BE := .eq (f1 821 x) (.lit 1)
theorem c821_ev {E : Env} (hE : E.f = G0 V) (x : IE) : evB E (c821 x) = hdOK (ev E x) := by
 show decide (ev E (f1 821 x) = 1) = _
 rw [f1_ev hE]
 have h : fz V 821 [ev E x] = if hdOK (ev E x) then 1 else 0 := rfl
 rw [h]
 cases hdOK (ev E x) with
 | true => rw [if_pos rfl, small (by decide) (by decide)]; rfl
 | false => rw [if_neg Bool.false_ne_true, small (by decide) (by decide)]; rfl
noncomputable def nX : IE := f1 716 (.var 1)
noncomputable def chkHd (q : SV × Mem) : Bool := match q.1 with
 | .tup (.cons (.int .i64 a) (.cons (.int .i64 b) (.cons (.bool (.lit true)) .nil))) => yes q.2.know (c715 (.var 1)) && (sameK q.2.know a (.quo nX (.lit 4)) && (sameK q.2.know b (.rem nX (.lit 4)) && (rngIn q.2.know (.quo nX (.lit 4)) 0 65535 && rngIn q.2.know (.rem nX (.lit 4)) 0 2)))
 | .tup (.cons (.int .i64 (.lit (.ofNat 0))) (.cons (.int .i64 (.lit (.ofNat 0))) (.cons (.bool (.lit false)) .nil))) => orB' (nay q.2.know (c715 (.var 1))) (orB' (rngIn q.2.know nX 262143 hi64) (rngIn q.2.know (.rem nX (.lit 4)) 3 hi64))
 | _ => false
noncomputable def spH : List (Nat × (List SV → X SV)) := [(56, getX)]
noncomputable def funH : List SV → X SV := callF (tabJ []) (spOf spH) (bxOf []) 400 12 42
theorem funH_ok : SpecOk (G0 V) Try.prog 42 funH := callF_ok (spOf_ok (one_ok (a := (56, getX)) getX_ok)) noBx 400 12 42
theorem hd_run : allOf (funH [vi 1] (slMem [] [] 60)) chkHd = true := by kernel_rfl
theorem sem_hd {x : Int} {w : World} (hx : in64 x) :
  Calls Try.prog 42 #[.int .i64 x] w fun e w' => Ext (fun _ => False) w w' ∧ e = .returned (if hdOK x = true then .tuple #[.int .i64 (numOf x / 4), .int .i64 (numOf x % 4), .bool true] else .tuple #[.int .i64 0, .int .i64 0, .bool false]) := by
 refine (sem_nums (V := []) funH_ok hd_run (E := envN [] w x 0) (envN_ok hx (by constructor <;> decide)) rfl rfl rfl (fun f hf => by cases hf)).mono ?_
 rintro e w' ⟨q, hq, E', hA, rfl, hm⟩
 refine ⟨hm.ext, congrArg Ending.returned ?_⟩
 have e1 : ev E' (.var 1) = x := hA.i 1 (by omega)
 have hE' : E'.f = G0 [] := hA.f.trans rfl
 have n1 : ev E' nX = numOf x := by unfold nX; rw [f716 hE', e1]
 have hk := hm.know
 have h0 : 0 ≤ numOf x := (numOf_in x).1
 have q1 : ev E' (.quo nX (.lit 4)) = numOf x / 4 := by rw [ev_quo, ev_lit, n1, Int.tdiv_eq_ediv_of_nonneg h0]
 have q2 : ev E' (.rem nX (.lit 4)) = numOf x % 4 := by rw [ev_rem, ev_lit, n1, Int.tmod_eq_emod_of_nonneg h0]
 unfold chkHd at hq
 split at hq
 ·rename_i a b he
  simp only [Bool.and_eq_true] at hq
  obtain ⟨g1, g2, g3, g4, g5⟩ := hq
  have g1 := yes_ok hk g1
  rw [c715_ev hE', e1] at g1
  have g2 := sameK_ok hk g2
  have g3 := sameK_ok hk g3
  have g4 := rngIn_ok hk g4
  have g5 := rngIn_ok hk g5
  rw [q1] at g2 g4
  rw [q2] at g3 g5
  have hd : hdOK x = true := by
   unfold hdOK
   rw [g1]
   exact decide_eq_true ⟨g4.2, g5.2⟩
  rw [he, if_pos hd]
  show Value.tuple #[.int .i64 (ev E' a), .int .i64 (ev E' b), .bool true] = _
  rw [g2, g3]
 ·rename_i he
  have hd : ¬ hdOK x = true := fun h => by
   unfold hdOK at h
   rw [Bool.and_eq_true, decide_eq_true_eq] at h
   rcases orB'_ok hq with g | g
   ·have g := nay_ok hk g
    rw [c715_ev hE', e1, h.1] at g
    cases g
   rcases orB'_ok g with g | g
   ·have g := rngIn_ok hk g
    rw [n1] at g
    omega
   ·have g := rngIn_ok hk g
    rw [q2] at g
    omega
  rw [he, if_neg hd]
  rfl
 ·cases hq
noncomputable def ask821 (args : List SV) (_ : Mem) : Option BE := match args with
 | [.int .i64 x] => some (c821 x)
 | _ => none
noncomputable def formHd (args : List SV) (m : Mem) : Option (SV × List Fact) := match args with
 | [.int .i64 x] => cond (in64S m.know x) (cond (yes m.know (c821 x)) (some (.tup (.cons (.int .i64 (.quo (f1 716 x) (.lit 4))) (.cons (.int .i64 (.rem (f1 716 x) (.lit 4))) (.cons (.bool (.lit true)) .nil))), [(f1 715 x, 1, 1), (f1 716 x, 0, 262143), (.quo (f1 716 x) (.lit 4), 0, 65535), (.rem (f1 716 x) (.lit 4), 0, 2)]))
   (cond (nay m.know (c821 x)) (some (.tup (.cons (.int .i64 (.lit 0)) (.cons (.int .i64 (.lit 0)) (.cons (.bool (.lit false)) .nil))), [])) none)) none
 | _ => none
theorem formHd_ok : SpecOk (G0 V) Try.prog 42 (pureX formHd) := pureX_ok fun F w0 E args m w v fs hgf hm hf => by
 unfold formHd at hf
 split at hf
 case h_2 => cases hf
 rename_i x
 cases hc : in64S m.know x with
 | false => rw [hc] at hf; cases hf
 | true =>
 rw [hc] at hf
 dsimp only [cond] at hf
 have call := sem_hd (x := ev E x) (w := w) (in64S_ok hm.know hc)
 have h0 : 0 ≤ numOf (ev E x) := (numOf_in _).1
 have q1 : ev E (.quo (f1 716 x) (.lit 4)) = numOf (ev E x) / 4 := by rw [ev_quo, ev_lit, f716 hgf, Int.tdiv_eq_ediv_of_nonneg h0]
 have q2 : ev E (.rem (f1 716 x) (.lit 4)) = numOf (ev E x) % 4 := by rw [ev_rem, ev_lit, f716 hgf, Int.tmod_eq_emod_of_nonneg h0]
 cases hy : yes m.know (c821 x) with
 | true =>
  rw [hy] at hf
  cases hf
  have hy := yes_ok hm.know hy
  rw [c821_ev hgf] at hy
  refine ⟨call.mono ?_, fun y hmem => ?_⟩
  ·rintro e w' ⟨g1, rfl⟩
   refine ⟨g1, ?_⟩
   rw [if_pos hy]
   show _ = Ending.returned (.tuple #[.int .i64 (ev E (.quo (f1 716 x) (.lit 4))), .int .i64 (ev E (.rem (f1 716 x) (.lit 4))), .bool true])
   rw [q1, q2]
  ·unfold hdOK at hy
   rw [Bool.and_eq_true, decide_eq_true_eq] at hy
   simp only [List.mem_cons, List.not_mem_nil, or_false] at hmem
   unfold FactOk
   rcases hmem with rfl | rfl | rfl | rfl
   ·dsimp only; rw [f715 hgf, hy.1, if_pos rfl]; omega
   ·dsimp only; rw [f716 hgf]; omega
   ·dsimp only; rw [q1]; omega
   ·dsimp only; rw [q2]; omega
 | false =>
  rw [hy] at hf
  dsimp only [cond] at hf
  cases hn : nay m.know (c821 x) with
  | false => rw [hn] at hf; cases hf
  | true =>
  rw [hn] at hf
  cases hf
  have hn := nay_ok hm.know hn
  rw [c821_ev hgf] at hn
  refine ⟨call.mono ?_, fun _ h => (by cases h)⟩
  rintro e w' ⟨g1, rfl⟩
  refine ⟨g1, ?_⟩
  rw [if_neg (by rw [hn]; exact Bool.false_ne_true)]
  rfl
noncomputable def hdX : List SV → X SV := orX (preX ask821 (pureX formHd)) funH
theorem hdX_ok : SpecOk (G0 V) Try.prog 42 hdX := orX_ok (preX_ok formHd_ok _) funH_ok
noncomputable def spC : List (Nat × (List SV → X SV)) := [(56, getX), (45, isX), (42, hdX), (32, mayX 32), (35, mayX 35)]
theorem okSpC : ∀ x ∈ spC, SpecOk (G0 V) Try.prog x.1 x.2 := cons_ok (a := (56, getX)) getX_ok (cons_ok (a := (45, isX)) isX_ok (cons_ok (a := (42, hdX)) hdX_ok (cons_ok (a := (32, mayX 32)) (mayX_ok sem32) (one_ok (a := (35, mayX 35)) (mayX_ok sem35)))))
noncomputable def cxC : CX := callF (tabJ []) (spOf spC) (bxOf []) 400 12
theorem cxC_ok : CallsOk (G0 V) Try.prog cxC := by
 unfold cxC
 rw [callF_eq]
 exact callD_ok (spOf_ok okSpC) noBx 400 12
noncomputable def mGet : Fr → X (SX × Fr) := mergeB (tabJ []) cxC (fun _ => none) none 400 [0, 1, 4, 5, 6, 7, 8, 9, 11, 13, 14] 13 0 40 (theBlock 1 (bodyOf Try.f22))
theorem mGet_ok : LxOk (G0 V) Try.prog (22, 1, mGet) := lxB_ok Try.func22 (c := bodyOf Try.f22) rfl (b := theBlock 1 (bodyOf Try.f22)) (by kernel_rfl) (mergeB_ok cxC_ok 400 [0, 1, 4, 5, 6, 7, 8, 9, 11, 13, 14] 13 0 40 (noBlocks_ok _ _))
noncomputable def mGetP : Fr → X (SX × Fr) := mergeB (tabJ []) cxC (fun _ => none) none 400 [0, 1, 4, 5, 6, 7, 8, 23, 24] 8 0 40 (theBlock 1 (bodyOf Try.f44))
theorem mGetP_ok : LxOk (G0 V) Try.prog (44, 1, mGetP) := lxB_ok Try.func44 (c := bodyOf Try.f44) rfl (b := theBlock 1 (bodyOf Try.f44)) (by kernel_rfl) (mergeB_ok cxC_ok 400 [0, 1, 4, 5, 6, 7, 8, 23, 24] 8 0 40 (noBlocks_ok _ _))
noncomputable def funC (f : Nat) : List SV → X SV := callF (tabJ []) (spOf spC) (bxOf [(22, 1, mGet), (44, 1, mGetP)]) 400 12 f
theorem funC_ok (f : Nat) : SpecOk (G0 V) Try.prog f (funC f) := callF_ok (spOf_ok okSpC) (bxOf_ok (by
 intro y hy
 rcases List.mem_cons.1 hy with rfl | hy
 ·exact mGet_ok
 ·rcases List.mem_singleton.1 hy with rfl
  exact mGetP_ok)) 400 12 f
noncomputable def wE (j : Nat) : IE := .sel 20 (.add (.mul (.var 2) (.lit 50)) (.lit (34 + j : Nat)))
def words50 (N : List Int) (s : Nat) : List Int := (List.range 50).map fun j => N.getD (50 * s + (34 + j)) 0
theorem words50_at (N : List Int) (s : Nat) {j : Nat} (h : j < 50) : (words50 N s).getD j 0 = N.getD (50 * s + (34 + j)) 0 := by
 unfold words50
 rw [List.getD_eq_getElem?_getD, List.getElem?_map, List.getElem?_range h]
 rfl
structure At (E : Env) (N : List Int) (s : Nat) (V : List Int) : Prop where
 f : E.f = G0 V
 row : E.row 20 = N
 slot : E.i 2 = s
theorem wE_ev {E : Env} {N : List Int} {s : Nat} (h : At E N s V) {j : Nat} (hj : j < 50) : ev E (wE j) = (words50 N s).getD j 0 := by
 rw [words50_at N s hj]
 unfold wE
 rw [ev_sel, h.row, ev_add, ev_mul, ev_lit, ev_lit]
 show N.getD (E.i 2 * 50 + ((34 + j : Nat) : Int)).toNat 0 = _
 rw [h.slot]
 congr 1
 omega
noncomputable def nE (j : Nat) : IE := f1 716 (wE j)
noncomputable def vB (j : Nat) : BE := c715 (wE j)
theorem nE_ev {E : Env} {N : List Int} {s : Nat} (h : At E N s V) {j : Nat} (hj : j < 50) : ev E (nE j) = valN (words50 N s) j := by
 unfold nE valN
 rw [f716 h.f, wE_ev h hj]
theorem vB_ev {E : Env} {N : List Int} {s : Nat} (h : At E N s V) {j : Nat} (hj : j < 50) : evB E (vB j) = isN (words50 N s) j := by
 unfold vB isN
 rw [c715_ev h.f, wE_ev h hj]
noncomputable def goodEnt (kn : Know) : Nat → Bool
 | 0 => true
 | n + 1 => goodEnt kn n && (yes kn (vB (2 + 3 * n)) && (yes kn (vB (3 + 3 * n)) && (yes kn (vB (4 + 3 * n)) && (rngIn kn (nE (2 + 3 * n)) 0 15 && orB' (Nat.beq n 0) (orB' (rngIn kn (mkSub (nE (2 + 3 * n)) (nE (3 * n - 1))) 1 hi64) (nay kn (.lt (nE (2 + 3 * n)) (.add (nE (3 * n - 1)) (.lit 1)))))))))
noncomputable def badEnt (kn : Know) : Nat → Bool
 | 0 => false
 | n + 1 => orB' (badEnt kn n) (orB' (nay kn (vB (2 + 3 * n))) (orB' (nay kn (vB (3 + 3 * n))) (orB' (nay kn (vB (4 + 3 * n))) (orB' (rngIn kn (nE (2 + 3 * n)) 16 hi64) (Nat.blt 0 n && orB' (rngIn kn (mkSub (nE (2 + 3 * n)) (nE (3 * n - 1))) lo64 0) (yes kn (.lt (nE (2 + 3 * n)) (.add (nE (3 * n - 1)) (.lit 1)))))))))
section
variable {E : Env} {N : List Int} {s : Nat} (h : At E N s V) {kn : Know} (hk : KnowOk E kn)
include h hk
theorem goodEnt_ok : ∀ n, n ≤ 16 → goodEnt kn n = true → entOK (words50 N s) n = true
 | 0, _, _ => rfl
 | n + 1, hn, hg => by
  unfold goodEnt at hg
  simp only [Bool.and_eq_true] at hg
  obtain ⟨g1, g2, g3, g4, g5, g6⟩ := hg
  have g2 := yes_ok hk g2
  have g3 := yes_ok hk g3
  have g4 := yes_ok hk g4
  have g5 := rngIn_ok hk g5
  rw [vB_ev h (by omega)] at g2 g3 g4
  rw [nE_ev h (by omega)] at g5
  have g7 : decide (n = 0) = true ∨ decide (valN (words50 N s) (3 * n - 1) < valN (words50 N s) (2 + 3 * n)) = true := by
   rcases orB'_ok g6 with g | g
   ·exact .inl (decide_eq_true (Nat.eq_of_beq_eq_true g))
   rcases orB'_ok g with g | g
   ·have g := rngIn_ok hk g
    rw [mkSub_ok, nE_ev h (by omega), nE_ev h (by omega)] at g
    exact .inr (decide_eq_true (by omega))
   ·have g : decide (ev E (nE (2 + 3 * n)) < ev E (.add (nE (3 * n - 1)) (.lit 1))) = false := nay_ok hk g
    rw [decide_eq_false_iff_not, ev_add, ev_lit, nE_ev h (by omega), nE_ev h (by omega)] at g
    exact .inr (decide_eq_true (by omega))
  unfold entOK
  simp only [Bool.and_eq_true, Bool.or_eq_true]
  exact ⟨goodEnt_ok n (by omega) g1, g2, g3, g4, decide_eq_true g5.2, g7⟩
theorem badEnt_ok : ∀ n, n ≤ 16 → badEnt kn n = true → entOK (words50 N s) n = false
 | 0, _, hb => by cases hb
 | n + 1, hn, hb => by
  cases he : entOK (words50 N s) (n + 1) with
  | false => rfl
  | true =>
   exfalso
   unfold entOK at he
   simp only [Bool.and_eq_true, Bool.or_eq_true, decide_eq_true_eq] at he
   obtain ⟨e1, e2, e3, e4, e5, e6⟩ := he
   unfold badEnt at hb
   rcases orB'_ok hb with g | g
   ·rw [badEnt_ok n (by omega) g] at e1
    cases e1
   rcases orB'_ok g with g | g
   ·have g := nay_ok hk g
    rw [vB_ev h (by omega), e2] at g
    cases g
   rcases orB'_ok g with g | g
   ·have g := nay_ok hk g
    rw [vB_ev h (by omega), e3] at g
    cases g
   rcases orB'_ok g with g | g
   ·have g := nay_ok hk g
    rw [vB_ev h (by omega), e4] at g
    cases g
   rcases orB'_ok g with g | g
   ·have g := rngIn_ok hk g
    rw [nE_ev h (by omega)] at g
    omega
   ·rw [Bool.and_eq_true] at g
    have g0 : 0 < n := by simpa [Nat.blt_eq] using g.1
    rcases orB'_ok g.2 with g | g
    ·have g := rngIn_ok hk g
     rw [mkSub_ok, nE_ev h (by omega), nE_ev h (by omega)] at g
     rcases e6 with e6 | e6 <;> omega
    ·have g : decide (ev E (nE (2 + 3 * n)) < ev E (.add (nE (3 * n - 1)) (.lit 1))) = true := yes_ok hk g
     rw [decide_eq_true_eq, ev_add, ev_lit, nE_ev h (by omega), nE_ev h (by omega)] at g
     rcases e6 with e6 | e6 <;> omega
end
noncomputable def goodHd (kn : Know) : Bool := yes kn (vB 0) && (yes kn (vB 1) && (rngIn kn (.rem (nE 0) (.lit 4)) 0 2 && rngIn kn (.quo (nE 0) (.lit 4)) 0 65535))
noncomputable def badHd (kn : Know) : Bool := orB' (nay kn (vB 0)) (orB' (nay kn (vB 1)) (orB' (rngIn kn (.rem (nE 0) (.lit 4)) 3 hi64) (orB' (rngIn kn (.quo (nE 0) (.lit 4)) 65536 hi64) (orB' (rngIn kn (nE 0) 262144 hi64) (orB' (rngIn kn (nE 1) 17 hi64) (nay kn (c821 (wE 0))))))))
section
variable {E : Env} {N : List Int} {s : Nat} (h : At E N s V) {kn : Know} (hk : KnowOk E kn)
include h hk
omit hk in
theorem quo4 : ev E (.quo (nE 0) (.lit 4)) = valN (words50 N s) 0 / 4 ∧ ev E (.rem (nE 0) (.lit 4)) = valN (words50 N s) 0 % 4 := by
 have h0 : 0 ≤ valN (words50 N s) 0 := (numOf_in _).1
 rw [ev_quo, ev_rem, ev_lit, nE_ev h (by omega), Int.tdiv_eq_ediv_of_nonneg h0, Int.tmod_eq_emod_of_nonneg h0]
 exact ⟨rfl, rfl⟩
theorem good_ok {k : Nat} (hk16 : k ≤ 16) (hcount : valN (words50 N s) 1 = k) (hg : goodHd kn = true) (he : goodEnt kn k = true) : descOK (words50 N s) = true := by
 unfold goodHd at hg
 simp only [Bool.and_eq_true] at hg
 obtain ⟨g1, g2, g3, g4⟩ := hg
 have g1 := yes_ok hk g1
 have g2 := yes_ok hk g2
 have g3 := rngIn_ok hk g3
 have g4 := rngIn_ok hk g4
 rw [vB_ev h (by omega)] at g1 g2
 obtain ⟨q1, q2⟩ := quo4 h
 rw [q2] at g3
 rw [q1] at g4
 unfold descOK
 simp only [Bool.and_eq_true, decide_eq_true_eq]
 refine ⟨g1, g2, g3.2, g4.2, by omega, ?_⟩
 rw [hcount, Int.toNat_natCast]
 exact goodEnt_ok h hk k hk16 he
theorem badHd_ok (hb : badHd kn = true) : descOK (words50 N s) = false := by
 cases hd : descOK (words50 N s) with
 | false => rfl
 | true =>
  exfalso
  have hh := descOK_hd hd
  unfold descOK at hd
  simp only [Bool.and_eq_true, decide_eq_true_eq] at hd
  obtain ⟨d1, d2, d3, d4, d5, _⟩ := hd
  obtain ⟨q1, q2⟩ := quo4 h
  unfold badHd at hb
  rcases orB'_ok hb with g | g
  ·have g := nay_ok hk g
   rw [vB_ev h (by omega), d1] at g
   cases g
  rcases orB'_ok g with g | g
  ·have g := nay_ok hk g
   rw [vB_ev h (by omega), d2] at g
   cases g
  rcases orB'_ok g with g | g
  ·have g := rngIn_ok hk g
   rw [q2] at g
   omega
  rcases orB'_ok g with g | g
  ·have g := rngIn_ok hk g
   rw [q1] at g
   omega
  rcases orB'_ok g with g | g
  ·have g := rngIn_ok hk g
   rw [nE_ev h (by omega)] at g
   omega
  rcases orB'_ok g with g | g
  ·have g := rngIn_ok hk g
   rw [nE_ev h (by omega)] at g
   omega
  ·have g := nay_ok hk g
   rw [c821_ev h.f, wE_ev h (by omega), hh] at g
   cases g
theorem badEnts_ok {k : Nat} (hk16 : k ≤ 16) (hcount : valN (words50 N s) 1 = k) (hb : badEnt kn k = true) : descOK (words50 N s) = false := by
 cases hd : descOK (words50 N s) with
 | false => rfl
 | true =>
  exfalso
  unfold descOK at hd
  simp only [Bool.and_eq_true, decide_eq_true_eq] at hd
  obtain ⟨_, _, _, _, _, d6⟩ := hd
  rw [hcount, Int.toNat_natCast, badEnt_ok h hk k hk16 hb] at d6
  cases d6
end
noncomputable def cellsG (k : Nat) : List IE := (List.range (3 * k)).map fun j => nE (2 + j)
noncomputable def cells3 (kn : Know) (c : Nat) (n : Int) : List IE → SV → Bool
 | [], .cons (.arr .i64 0 e .nil) .nil => sameK kn e (.mul (.add (.var c) (.lit (-n))) (.lit 3))
 | e :: l, .cons (.int .i64 x) r => sameK kn x e && cells3 kn c n l r
 | _, _ => false
noncomputable def slG (q : SV × Mem) (k : Nat) : SV → Bool
 | .nils => Nat.beq k 0
 | .sli s j (.lit (.ofNat 0)) (.lit n) (.var c) => Nat.ble 1 k && (zEq n k && (factIn q.2.know (.var c) n hi64 && (match q.2.find s j with
  | some en => !en.ro && (Nat.beq en.t 56 && (Nat.ble 60 s && cells3 q.2.know c n (cellsG k) en.c))
  | none => false)))
 | _ => false
noncomputable def chkG (k : Nat) (q : SV × Mem) : Bool := match q.1 with
 | .tup (.cons (.int .i64 e1) (.cons (.int .i64 e2) (.cons sl (.cons (.int .i64 (.lit (.ofNat 0))) .nil)))) => goodHd q.2.know && (goodEnt q.2.know k && (sameK q.2.know e1 (.quo (nE 0) (.lit 4)) && (sameK q.2.know e2 (.rem (nE 0) (.lit 4)) && slG q k sl)))
 | .tup (.cons (.int .i64 (.lit (.ofNat 0))) (.cons (.int .i64 (.lit (.ofNat 0))) (.cons .nils (.cons (.int .i64 (.lit (.ofNat 1300))) .nil)))) => orB' (badHd q.2.know) (orB' (badEnt q.2.know k) (nay q.2.know (swB (cellsG k))))
 | _ => false
noncomputable def chkX (q : SV × Mem) : Bool := match q.1 with
 | .tup (.cons (.int .i64 (.lit (.ofNat 0))) (.cons (.int .i64 (.lit (.ofNat 0))) (.cons .nils (.cons (.int .i64 (.lit (.ofNat 1300))) .nil)))) => badHd q.2.know
 | _ => false
noncomputable def enG : Ent := ⟨46, 0, true, 0, .lit 0, .cons (.arr .i64 20 (.lit 634) .nil) .nil⟩
noncomputable def facG (k : Nat) : List Fact := [(.var 2, 0, 11), (nE 1, k, k), (f1 715 (wE 1), 1, 1)]
noncomputable def okGet (f k : Nat) : Bool := allOf (funC f [.ptr 46 0 (.lit 0), vi 2] (slMem [enG] (facG k) 60)) (chkG k)
noncomputable def okGetH (f k : Nat) (z : Int) : Bool := allOf (funC f [.ptr 46 0 (.lit 0), vi 2] (slMem [enG] ((f1 821 (wE 0), z, z) :: facG k) 60)) (chkG k)
noncomputable def okNoV (f : Nat) : Bool := allOf (funC f [.ptr 46 0 (.lit 0), vi 2] (slMem [enG] [(.var 2, 0, 11), (f1 715 (wE 1), 0, 0)] 60)) chkX
noncomputable def okMany (f : Nat) : Bool := allOf (funC f [.ptr 46 0 (.lit 0), vi 2] (slMem [enG] [(.var 2, 0, 11), (f1 715 (wE 1), 1, 1), (nE 1, 17, 1099511627775)] 60)) chkX
end Go.Proofs.Ytofmndcdcchflaa
namespace Go.Proofs.Ytofmndcdcchflaa
open Go.Sx Go Go.DescNum
set_option maxRecDepth 100000
def entsN (ws : List Int) (k : Nat) : List Int := (List.range (3 * k)).map fun j => valN ws (2 + j)
def GetRes (w : World) (ws : List Int) (e : Ending) (w' : World) : Prop := if descOK ws = true then
  (valN ws 1 = 0 ∧ e = .returned (.tuple #[.int .i64 (valN ws 0 / 4), .int .i64 (valN ws 0 % 4), .slice none 0 0, .int .i64 0])) ∨
  (0 < valN ws 1 ∧ ∃ bl cap : Nat, w.heap.size ≤ bl ∧ bl < w'.heap.size ∧ (valN ws 1).toNat ≤ cap ∧ (cap : Int) ≤ hi64 ∧
   w'.heap[bl]? = some (.cells ((entsN ws (valN ws 1).toNat).map (Value.int .i64) ++ List.replicate ((cap - (valN ws 1).toNat) * 3) (Value.int .i64 0)).toArray 56 (0, 0)) ∧
   e = .returned (.tuple #[.int .i64 (valN ws 0 / 4), .int .i64 (valN ws 0 % 4), .slice (some ⟨bl, 0, none⟩) (valN ws 1).toNat cap, .int .i64 0]))
 else e = .returned (.tuple #[.int .i64 0, .int .i64 0, .slice none 0 0, .int .i64 1300])
theorem cells3_ok {E : Env} {kn : Know} (hk : KnowOk E kn) {c cap : Nat} {n : Int} (hc : E.i c = cap) (h0 : 0 ≤ n) (hn : n ≤ cap) : ∀ {l : List IE} {v : SV}, cells3 kn c n l v = true → dl E v = l.map (fun e => Value.int .i64 (ev E e)) ++ List.replicate ((cap - n.toNat) * 3) (Value.int .i64 0)
 | [], v, h => by
  unfold cells3 at h
  split at h
  ·rename_i e heq
   have := sameK_ok hk h
   rw [List.map_nil, List.nil_append, ← tailW_dl (wd := 3) hc h0 hn]
   show arrCells E .i64 0 (ev E e).toNat .nil ++ [] = arrCells E .i64 0 (ev E (.mul (.add (.var c) (.lit (-n))) (.lit 3))).toNat .nil ++ []
   rw [this]
  ·rename_i heq; cases heq
  ·cases h
 | e :: l, v, h => by
  unfold cells3 at h
  split at h
  ·rename_i heq; cases heq
  ·rename_i e' l' x r heq
   cases heq
   rw [Bool.and_eq_true] at h
   have h1 := sameK_ok hk h.1
   show [Value.int .i64 (ev E x)] ++ dl E r = _
   rw [cells3_ok hk hc h0 hn h.2, h1]
   rfl
  ·cases h
theorem cellsG_ev {E : Env} {N : List Int} {s : Nat} {V : List Int} (h : At E N s V) {k : Nat} (hk : k ≤ 16) : (cellsG k).map (fun e => Value.int .i64 (ev E e)) = (entsN (words50 N s) k).map (Value.int .i64) := by
 unfold cellsG entsN
 rw [List.map_map, List.map_map]
 refine List.map_congr_left fun j hj => ?_
 have hj := List.mem_range.1 hj
 show Value.int .i64 (ev E (nE (2 + j))) = .int .i64 (valN (words50 N s) (2 + j))
 rw [nE_ev h (by omega)]
theorem entsN_at {ws : List Int} {k i : Nat} (h : i < 3 * k) : (entsN ws k).getD i 0 = valN ws (2 + i) := by
 unfold entsN
 rw [List.getD_eq_getElem?_getD, List.getElem?_map, List.getElem?_range h]
 rfl
theorem sw_of_ent {ws : List Int} {k : Nat} : ∀ n, n ≤ k → entOK ws n = true → swOK (entsN ws k) n = true
 | 0, _, _ => rfl
 | n + 1, hn, h => by
  unfold entOK at h
  simp only [Bool.and_eq_true, Bool.or_eq_true, decide_eq_true_eq] at h
  obtain ⟨e1, _, _, _, e5, e6⟩ := h
  have r0 := numOf_in (ws.getD (2 + 3 * n) 0)
  have r1 := numOf_in (ws.getD (3 + 3 * n) 0)
  have r2 := numOf_in (ws.getD (4 + 3 * n) 0)
  unfold swOK
  rw [entsN_at (by omega), entsN_at (by omega), entsN_at (by omega), show 2 + (3 * n + 1) = 3 + 3 * n by omega, show 2 + (3 * n + 2) = 4 + 3 * n by omega]
  simp only [Bool.and_eq_true, Bool.or_eq_true, decide_eq_true_eq]
  refine ⟨sw_of_ent n (by omega) e1, ⟨r0.1, e5⟩, r1, r2, ?_⟩
  rcases e6 with e6 | e6
  ·exact .inl e6
  ·by_cases h0 : n = 0
   ·exact .inl h0
   ·rw [entsN_at (by omega), show 2 + (3 * n - 3) = 3 * n - 1 by omega]
    exact .inr e6
theorem badSw_of {E : Env} {N : List Int} {s : Nat} {V : List Int} (h : At E N s V) {kn : Know} (hk : KnowOk E kn) {k : Nat} (hk16 : k ≤ 16) (hcount : valN (words50 N s) 1 = k) (hb : nay kn (swB (cellsG k)) = true) : descOK (words50 N s) = false := by
 cases hd : descOK (words50 N s) with
 | false => rfl
 | true =>
  exfalso
  have hb := nay_ok hk hb
  have hmap : (cellsG k).map (ev E) = entsN (words50 N s) k := by
   unfold cellsG entsN
   rw [List.map_map]
   refine List.map_congr_left fun j hj => ?_
   have hj := List.mem_range.1 hj
   exact nE_ev h (by omega)
  rw [swB_ev h.f (k := k) (by rw [hmap]; unfold entsN; simp), hmap] at hb
  unfold descOK at hd
  simp only [Bool.and_eq_true, decide_eq_true_eq] at hd
  obtain ⟨_, _, _, _, _, d6⟩ := hd
  rw [hcount, Int.toNat_natCast] at d6
  rw [sw_of_ent k (Nat.le_refl _) d6] at hb
  cases hb
theorem chkG_ok {w w' : World} {E : Env} {q : SV × Mem} {N : List Int} {s k : Nat} {V : List Int} (h : At E N s V) (hk16 : k ≤ 16) (hcount : valN (words50 N s) 1 = k) (hm : MemOk (fun _ => False) w E q.2 w') (hq : chkG k q = true) : GetRes w (words50 N s) (.returned (dv E q.1)) w' := by
 have hk := hm.know
 unfold chkG at hq
 split at hq
 ·rename_i e1 e2 sl heq
  simp only [Bool.and_eq_true] at hq
  obtain ⟨q1, q2, q3, q4, q5⟩ := hq
  have hd := good_ok h hk hk16 hcount q1 q2
  have q3 := sameK_ok hk q3
  have q4 := sameK_ok hk q4
  obtain ⟨u1, u2⟩ := quo4 h
  rw [u1] at q3
  rw [u2] at q4
  unfold GetRes
  rw [if_pos hd, heq]
  unfold slG at q5
  split at q5
  ·left
   have q5 := Nat.eq_of_beq_eq_true q5
   refine ⟨by omega, ?_⟩
   show Ending.returned (.tuple #[.int .i64 (ev E e1), .int .i64 (ev E e2), .slice none 0 0, .int .i64 0]) = _
   rw [q3, q4]
  ·rename_i s' j' n c
   simp only [Bool.and_eq_true] at q5
   obtain ⟨g0, g1, g2, g3⟩ := q5
   have g1 := zEq_ok g1
   have g2 := factIn_ok hk g2
   split at g3
   case h_2 => cases g3
   rename_i en hf
   simp only [Bool.and_eq_true, Bool.not_eq_true'] at g3
   obtain ⟨r1, r2, r3, r4⟩ := g3
   have r2 := Nat.eq_of_beq_eq_true r2
   obtain ⟨f1', f2, f3⟩ := Mem.find_ok hf
   have he := hm.ents en f1'
   obtain ⟨⟨o1, o2⟩, o3⟩ := he.own r1
   have hmine := hm.mine en f1' r1
   have hblk : en.blk E = E.base s' + j' := by unfold Ent.blk; rw [f2, f3]
   have g2 : n ≤ E.i c ∧ E.i c ≤ hi64 := g2
   right
   have g0 := Nat.lt_of_lt_of_le Nat.zero_lt_one (Nat.le_of_ble_eq_true g0)
   refine ⟨by omega, E.base s' + j', (E.i c).toNat, ?_, ?_, ?_, ?_, ?_, ?_⟩
   ·rcases hmine with h | h
    ·rw [← hblk]; exact h
    ·exact absurd h (fun h => h)
   ·rw [← hblk]; exact he.lt
   ·rw [hcount]; omega
   ·have := g2.1
    omega
   ·rw [← hblk, o3, r2]
    have hcells := cells3_ok hk (c := c) (cap := (E.i c).toNat) (n := n) (by omega) (by omega) (by omega) r4
    rw [hcells, cellsG_ev h hk16, hcount, Int.toNat_natCast, g1, Int.toNat_natCast]
   ·show Ending.returned (.tuple #[.int .i64 (ev E e1), .int .i64 (ev E e2), .slice (some ⟨E.base s' + j', E.o s' + (0 : Int).toNat, none⟩) n.toNat (E.i c).toNat, .int .i64 0]) = _
    rw [q3, q4, ← f2, o1, g1, hcount]
    rfl
  ·cases q5
 ·rename_i heq
  have hd : descOK (words50 N s) = false := by
   rcases orB'_ok hq with g | g
   ·exact badHd_ok h hk g
   rcases orB'_ok g with g | g
   ·exact badEnts_ok h hk hk16 hcount g
   ·exact badSw_of h hk hk16 hcount g
  unfold GetRes
  rw [if_neg (by rw [hd]; exact Bool.false_ne_true), heq]
  rfl
 ·cases hq
end Go.Proofs.Ytofmndcdcchflaa
