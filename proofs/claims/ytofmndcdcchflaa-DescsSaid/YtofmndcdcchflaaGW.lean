/- numbers at places of rows; arguments of unknown functions. -/
import Derived.Test.YtofmndcdcchflaaF
import Derived.Test.YtofmndcdcchflaaS
namespace Go.Proofs.Ytofmndcdcchflaa
open Go.Sx Go Go.DescNum
set_option maxRecDepth 100000
noncomputable def rngIn (kn : Know) (e : IE) (lo hi : Int) : Bool := inR (rng kn.facts e) lo hi
theorem rngIn_ok {E : Env} {kn : Know} (hk : KnowOk E kn) {e : IE} {lo hi : Int} (h : rngIn kn e lo hi = true) : lo ≤ ev E e ∧ ev E e ≤ hi := by
 unfold rngIn inR at h
 rw [Bool.and_eq_true, decide_eq_true_eq, decide_eq_true_eq] at h
 have := rng_ok hk.env hk.facts e
 omega
noncomputable def orB' (a b : Bool) : Bool := cond a true b
theorem orB'_ok {a b : Bool} (h : orB' a b = true) : a = true ∨ b = true := by
 cases a with
 | true => exact .inl rfl
 | false => exact .inr h
noncomputable def wsLook (kn : Know) (r : Nat) : SV → IE → Option IE
 | .wr i x ws, idx => match mkEq kn i idx with
  | .lit true => some x
  | .lit false => wsLook kn r ws idx
  | _ => none
 | .nil, idx => some (.sel r idx)
 | _, _ => none
theorem wsLook_ok {E : Env} {kn : Know} (hk : KnowOk E kn) (r : Nat) : ∀ (ws : SV) (idx e : IE), 0 ≤ ev E idx → wsLook kn r ws idx = some e → ev E e = wsVal E r ws (ev E idx).toNat := by
 intro ws
 induction ws with
 | wr i x ws ih =>
  intro idx e h0 h
  unfold wsLook at h
  have hq := mkEq_ok hk i idx
  split at h
  ·rename_i hm
   cases h
   rw [hm] at hq
   have hq : true = decide (ev E i = ev E idx) := hq
   show _ = if ev E i = ((ev E idx).toNat : Int) then ev E x else _
   rw [if_pos (by have := of_decide_eq_true hq.symm; omega)]
  ·rename_i hm
   rw [hm] at hq
   have hq : false = decide (ev E i = ev E idx) := hq
   show _ = if ev E i = ((ev E idx).toNat : Int) then _ else wsVal E r ws (ev E idx).toNat
   rw [if_neg (by have := of_decide_eq_false hq.symm; omega)]
   exact ih idx e h0 h
  ·cases h
 | nil =>
  intro idx e h0 h
  unfold wsLook at h
  cases h
  rw [ev_sel]
  rfl
 | _ => intro idx e h0 h; simp [wsLook] at h
noncomputable def allSome : List (Option IE) → Option (List IE)
 | [] => some []
 | some e :: l => match allSome l with
  | some r => some (e :: r)
  | none => none
 | none :: _ => none
theorem allSome_ok {α : Type} {f : α → Option IE} : ∀ {l : List α} {r : List IE}, allSome (l.map f) = some r → ∃ g : α → IE, r = l.map g ∧ ∀ a ∈ l, f a = some (g a)
 | [], r, h => by cases h; exact ⟨fun _ => .lit 0, rfl, fun _ h => (by cases h)⟩
 | a :: l, r, h => by
  rw [List.map_cons] at h
  cases hf : f a with
  | none => rw [hf] at h; cases h
  | some e =>
   rw [hf] at h
   unfold allSome at h
   split at h
   ·rename_i r' hr
    cases h
    obtain ⟨g, rfl, hg⟩ := allSome_ok hr
    classical
    refine ⟨fun x => match f x with | some e => e | none => .lit 0, ?_, fun x hx => ?_⟩
    ·rw [List.map_cons]
     congr 1
     ·simp only [hf]
     ·refine List.map_congr_left fun x hx => ?_
      simp only [hg x hx]
    ·rcases List.mem_cons.1 hx with rfl | hx
     ·simp only [hf]
     ·simp only [hg x hx]
   ·cases h
noncomputable def argsE : List IE → IE
 | [] => .noarg
 | e :: l => .arg e (argsE l)
theorem argsE_ev (E : Env) : ∀ l : List IE, evA E (argsE l) = l.map (ev E)
 | [] => evA_no E
 | e :: l => by
  show evA E (.arg e (argsE l)) = _
  rw [evA_arg, argsE_ev E l]
  rfl
noncomputable def atL (l : List IE) (j : Nat) : IE := l.getD j (.lit 0)
theorem atL_ev (E : Env) (l : List IE) (j : Nat) : ev E (atL l j) = (l.map (ev E)).getD j 0 := by
 unfold atL
 rw [List.getD_eq_getElem?_getD, List.getD_eq_getElem?_getD, List.getElem?_map]
 cases l[j]? <;> rfl
end Go.Proofs.Ytofmndcdcchflaa
