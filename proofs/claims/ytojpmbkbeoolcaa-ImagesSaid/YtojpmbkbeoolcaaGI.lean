/- sixteen cells told as a state: the document's way, over any cells: what is run. -/
import Derived.Test.YtojpmbkbeoolcaaH
namespace Go.Proofs.Ytojpmbkbeoolcaa
open Go.Sx Go
set_option maxRecDepth 100000
noncomputable def wsI (xs : List Int) : SV := wrI (fun c => .lit (linkZ xs (c - 4))) 12 4
noncomputable def okI (xs : List Int) : SV := .tup (.cons (.agg (.cons balV (flV (inL xs)))) (.cons (.int .i64 (.lit 0)) .nil))
noncomputable def runI9 (xs : List Int) : Bool := match fun0 9 [argG] (memG (wsI xs) acc4) with
 | some outs => outs.all fun q => wrongs q.2.know || eqU q.2.know q.1 (okI xs)
 | none => false
structure Case where
 lits : List (Nat × Int)
 fs : List Fact
noncomputable def casesH : Nat → Int → List (Nat × Int) → List Case
 | 0, _, _ => []
 | n + 1, x, acc => ⟨((2 * x + 7).toNat, 0) :: acc, []⟩ :: ⟨((2 * x + 7).toNat, lo64) :: acc, [(.lit 0, 0, 0)]⟩ :: ⟨acc, [(.sel 7 (.lit (2 * x + 7)), lo64 + 1, -1)]⟩ :: ⟨acc, [(.sel 7 (.lit (2 * x + 7)), 6, hi64)]⟩ :: (cond (decide (0 ≤ x)) [⟨acc, [(.sel 7 (.lit (2 * x + 7)), 1, x + 1)]⟩] [] ++
  (List.range (4 - x).toNat).flatMap fun (k : Nat) => casesH n (x + 1 + k) (((2 * x + 7).toNat, x + 2 + k) :: acc))
noncomputable def wsC (l : List (Nat × Int)) : SV := l.foldr (fun p r => .wr (.lit (.ofNat p.1)) (.lit p.2) r) .nil
noncomputable def less9 (e : IE) : IE := .wrap .i64 (.add e (.lit (-1)))
noncomputable def next9 (e : IE) : IE := .sel 7 (.add (.mul (less9 e) (.lit 2)) (.lit 6))
noncomputable def walkE (kn : Know) : Nat → IE → Nat → Option (List (Nat × Int))
 | 0, _, _ => none
 | n + 1, e, c => match valS kn (less9 e) 6 (-1) with
  | some z => cond (zEq z (-1)) (some [(c, 0)]) (match walkE kn n (next9 e) (6 + 2 * z.toNat) with
   | some l => some ((c, z + 1) :: l)
   | none => none)
  | none => none
noncomputable def lookZ (c : Nat) : List (Nat × Int) → Option Int
 | [] => none
 | p :: r => cond (Nat.beq p.1 c) (some p.2) (lookZ c r)
noncomputable def zeroK (kn : Know) (c : Nat) : Bool := match litB (mkEq kn (.sel 7 (.lit (.ofNat c))) (.lit 0)) with
 | some b => b
 | none => false
noncomputable def cellK (kn : Know) (l : List (Nat × Int)) (c : Nat) : Option Int := match lookZ c l with
 | some z => some z
 | none => cond (zeroK kn c) (some 0) none
noncomputable def rowK (kn : Know) (l : List (Nat × Int)) : Nat → Nat → Option (List Int)
 | 0, _ => some []
 | n + 1, c => match cellK kn l c, rowK kn l n (c + 1) with
  | some z, some r => some (z :: r)
  | _, _ => none
noncomputable def bitsZ9 (L : List Int) : List Int := [walkZ 0 (lvlL 0 0 L), walkZ 1 (lvlL 0 0 L), walkZ 2 (lvlL 0 0 L), walkZ 3 (lvlL 0 0 L), walkZ 4 (lvlL 0 0 L), walkZ 0 (lvlL 0 1 L), walkZ 1 (lvlL 0 1 L), walkZ 2 (lvlL 0 1 L), walkZ 3 (lvlL 0 1 L), walkZ 4 (lvlL 0 1 L)]
noncomputable def imgK (kn : Know) (lits : List (Nat × Int)) : Bool := match walkE kn 7 (.sel 7 (.lit 4)) 4 with
 | some l => (match rowK kn (lits ++ l) 12 4 with
  | some L => forceL L fun L => forceL (bitsZ9 L) fun xs => eqL (linksZ (nrm xs)) L
  | none => false)
 | none => false
noncomputable def way9 (lits : List (Nat × Int)) (q : SV × Mem) : Bool := eqU q.2.know q.1 errV || (imgK q.2.know lits && (List.range 4).all fun c => factIn q.2.know (balW c) (-1) 1048575)
noncomputable def runC9 (c : Case) : Bool := match fun0 9 [argG] (memG (wsC c.lits) c.fs) with
 | some outs => outs.all fun q => wrongs q.2.know || way9 c.lits q
 | none => false
noncomputable def cases9 : List Case := casesH 6 (-1) []
noncomputable def good9 : List Case := cases9.filter fun c => c.fs.isEmpty
noncomputable def bad9 : List Case := cases9.filter fun c => !c.fs.isEmpty
end Go.Proofs.Ytojpmbkbeoolcaa
