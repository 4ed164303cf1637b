/- The law HelpDone: for every input the call returns true, and each argument reads afterwards as it read before; no condition. -/
import Derived.Test.YtdchpckikclmlaaNR0
import Derived.Test.YtdchpckikclmlaaNR1
import Derived.Test.YtdchpckikclmlaaNR2
import Derived.Test.YtdchpckikclmlaaNR3
import Derived.Test.YtdchpckikclmlaaNR4
import Derived.Test.YtdchpckikclmlaaNR5
import Derived.Test.YtdchpckikclmlaaNR6
import Derived.Test.YtdchpckikclmlaaNR7
import Derived.Test.YtdchpckikclmlaaNR8
import Derived.Test.YtdchpckikclmlaaNR9
import Derived.Test.YtdchpckikclmlaaNR10
import Derived.Test.YtdchpckikclmlaaNR11
import Derived.Test.YtdchpckikclmlaaSQ
import Derived.Test.YtdchpckikclmlaaD
namespace Go.Proofs.Ytdchpckikclmlaa
open Go.Sx Go Go.ChangeShapes Go.WideShapes Go.ChangeAt Go.RowKit Go.Deep
set_option maxRecDepth 100000
theorem okD0 (cn won : Bool) : okD [] cn false won = true := by
 cases cn <;> cases won
 ·exact nd_000
 ·exact nd_001
 ·exact nd_100
 ·exact nd_101
theorem okD1 {b0 : Int} (h0 : b0 = 0 ∨ b0 = 1) (cn won : Bool) : okD [b0] cn false won = true := by
 rcases h0 with rfl | rfl
 ·cases cn <;> cases won
  ·exact nd0_000
  ·exact nd0_001
  ·exact nd0_100
  ·exact nd0_101
 ·cases cn <;> cases won
  ·exact nd1_000
  ·exact nd1_001
  ·exact nd1_100
  ·exact nd1_101
theorem okD2 {b0 b1 : Int} (h0 : b0 = 0 ∨ b0 = 1) (h1 : b1 = 0 ∨ b1 = 1) (cn won : Bool) : okD [b0, b1] cn false won = true := by
 rcases h0 with rfl | rfl
 ·rcases h1 with rfl | rfl
  ·cases cn <;> cases won
   ·exact nd00_000
   ·exact nd00_001
   ·exact nd00_100
   ·exact nd00_101
  ·cases cn <;> cases won
   ·exact nd01_000
   ·exact nd01_001
   ·exact nd01_100
   ·exact nd01_101
 ·rcases h1 with rfl | rfl
  ·cases cn <;> cases won
   ·exact nd10_000
   ·exact nd10_001
   ·exact nd10_100
   ·exact nd10_101
  ·cases cn <;> cases won
   ·exact nd11_000
   ·exact nd11_001
   ·exact nd11_100
   ·exact nd11_101
theorem okD3 {b0 b1 b2 : Int} (h0 : b0 = 0 ∨ b0 = 1) (h1 : b1 = 0 ∨ b1 = 1) (h2 : b2 = 0 ∨ b2 = 1) (cn won : Bool) : okD [b0, b1, b2] cn false won = true := by
 rcases h0 with rfl | rfl
 ·rcases h1 with rfl | rfl
  ·rcases h2 with rfl | rfl
   ·cases cn <;> cases won
    ·exact nd000_000
    ·exact nd000_001
    ·exact nd000_100
    ·exact nd000_101
   ·cases cn <;> cases won
    ·exact nd001_000
    ·exact nd001_001
    ·exact nd001_100
    ·exact nd001_101
  ·rcases h2 with rfl | rfl
   ·cases cn <;> cases won
    ·exact nd010_000
    ·exact nd010_001
    ·exact nd010_100
    ·exact nd010_101
   ·cases cn <;> cases won
    ·exact nd011_000
    ·exact nd011_001
    ·exact nd011_100
    ·exact nd011_101
 ·rcases h1 with rfl | rfl
  ·rcases h2 with rfl | rfl
   ·cases cn <;> cases won
    ·exact nd100_000
    ·exact nd100_001
    ·exact nd100_100
    ·exact nd100_101
   ·cases cn <;> cases won
    ·exact nd101_000
    ·exact nd101_001
    ·exact nd101_100
    ·exact nd101_101
  ·rcases h2 with rfl | rfl
   ·cases cn <;> cases won
    ·exact nd110_000
    ·exact nd110_001
    ·exact nd110_100
    ·exact nd110_101
   ·cases cn <;> cases won
    ·exact nd111_000
    ·exact nd111_001
    ·exact nd111_100
    ·exact nd111_101
theorem okD4 {b0 b1 b2 b3 : Int} (h0 : b0 = 0 ∨ b0 = 1) (h1 : b1 = 0 ∨ b1 = 1) (h2 : b2 = 0 ∨ b2 = 1) (h3 : b3 = 0 ∨ b3 = 1) (cn won : Bool) : okD [b0, b1, b2, b3] cn false won = true := by
 rcases h0 with rfl | rfl
 ·rcases h1 with rfl | rfl
  ·rcases h2 with rfl | rfl
   ·rcases h3 with rfl | rfl
    ·cases cn <;> cases won
     ·exact nd0000_000
     ·exact nd0000_001
     ·exact nd0000_100
     ·exact nd0000_101
    ·cases cn <;> cases won
     ·exact nd0001_000
     ·exact nd0001_001
     ·exact nd0001_100
     ·exact nd0001_101
   ·rcases h3 with rfl | rfl
    ·cases cn <;> cases won
     ·exact nd0010_000
     ·exact nd0010_001
     ·exact nd0010_100
     ·exact nd0010_101
    ·cases cn <;> cases won
     ·exact nd0011_000
     ·exact nd0011_001
     ·exact nd0011_100
     ·exact nd0011_101
  ·rcases h2 with rfl | rfl
   ·rcases h3 with rfl | rfl
    ·cases cn <;> cases won
     ·exact nd0100_000
     ·exact nd0100_001
     ·exact nd0100_100
     ·exact nd0100_101
    ·cases cn <;> cases won
     ·exact nd0101_000
     ·exact nd0101_001
     ·exact nd0101_100
     ·exact nd0101_101
   ·rcases h3 with rfl | rfl
    ·cases cn <;> cases won
     ·exact nd0110_000
     ·exact nd0110_001
     ·exact nd0110_100
     ·exact nd0110_101
    ·cases cn <;> cases won
     ·exact nd0111_000
     ·exact nd0111_001
     ·exact nd0111_100
     ·exact nd0111_101
 ·rcases h1 with rfl | rfl
  ·rcases h2 with rfl | rfl
   ·rcases h3 with rfl | rfl
    ·cases cn <;> cases won
     ·exact nd1000_000
     ·exact nd1000_001
     ·exact nd1000_100
     ·exact nd1000_101
    ·cases cn <;> cases won
     ·exact nd1001_000
     ·exact nd1001_001
     ·exact nd1001_100
     ·exact nd1001_101
   ·rcases h3 with rfl | rfl
    ·cases cn <;> cases won
     ·exact nd1010_000
     ·exact nd1010_001
     ·exact nd1010_100
     ·exact nd1010_101
    ·cases cn <;> cases won
     ·exact nd1011_000
     ·exact nd1011_001
     ·exact nd1011_100
     ·exact nd1011_101
  ·rcases h2 with rfl | rfl
   ·rcases h3 with rfl | rfl
    ·cases cn <;> cases won
     ·exact nd1100_000
     ·exact nd1100_001
     ·exact nd1100_100
     ·exact nd1100_101
    ·cases cn <;> cases won
     ·exact nd1101_000
     ·exact nd1101_001
     ·exact nd1101_100
     ·exact nd1101_101
   ·rcases h3 with rfl | rfl
    ·cases cn <;> cases won
     ·exact nd1110_000
     ·exact nd1110_001
     ·exact nd1110_100
     ·exact nd1110_101
    ·cases cn <;> cases won
     ·exact nd1111_000
     ·exact nd1111_001
     ·exact nd1111_100
     ·exact nd1111_101
theorem okD5 {b0 b1 b2 b3 b4 : Int} (h0 : b0 = 0 ∨ b0 = 1) (h1 : b1 = 0 ∨ b1 = 1) (h2 : b2 = 0 ∨ b2 = 1) (h3 : b3 = 0 ∨ b3 = 1) (h4 : b4 = 0 ∨ b4 = 1) (cn won : Bool) : okD [b0, b1, b2, b3, b4] cn false won = true := by
 rcases h0 with rfl | rfl
 ·rcases h1 with rfl | rfl
  ·rcases h2 with rfl | rfl
   ·rcases h3 with rfl | rfl
    ·rcases h4 with rfl | rfl
     ·cases cn <;> cases won
      ·exact nd00000_000
      ·exact nd00000_001
      ·exact nd00000_100
      ·exact nd00000_101
     ·cases cn <;> cases won
      ·exact nd00001_000
      ·exact nd00001_001
      ·exact nd00001_100
      ·exact nd00001_101
    ·rcases h4 with rfl | rfl
     ·cases cn <;> cases won
      ·exact nd00010_000
      ·exact nd00010_001
      ·exact nd00010_100
      ·exact nd00010_101
     ·cases cn <;> cases won
      ·exact nd00011_000
      ·exact nd00011_001
      ·exact nd00011_100
      ·exact nd00011_101
   ·rcases h3 with rfl | rfl
    ·rcases h4 with rfl | rfl
     ·cases cn <;> cases won
      ·exact nd00100_000
      ·exact nd00100_001
      ·exact nd00100_100
      ·exact nd00100_101
     ·cases cn <;> cases won
      ·exact nd00101_000
      ·exact nd00101_001
      ·exact nd00101_100
      ·exact nd00101_101
    ·rcases h4 with rfl | rfl
     ·cases cn <;> cases won
      ·exact nd00110_000
      ·exact nd00110_001
      ·exact nd00110_100
      ·exact nd00110_101
     ·cases cn <;> cases won
      ·exact nd00111_000
      ·exact nd00111_001
      ·exact nd00111_100
      ·exact nd00111_101
  ·rcases h2 with rfl | rfl
   ·rcases h3 with rfl | rfl
    ·rcases h4 with rfl | rfl
     ·cases cn <;> cases won
      ·exact nd01000_000
      ·exact nd01000_001
      ·exact nd01000_100
      ·exact nd01000_101
     ·cases cn <;> cases won
      ·exact nd01001_000
      ·exact nd01001_001
      ·exact nd01001_100
      ·exact nd01001_101
    ·rcases h4 with rfl | rfl
     ·cases cn <;> cases won
      ·exact nd01010_000
      ·exact nd01010_001
      ·exact nd01010_100
      ·exact nd01010_101
     ·cases cn <;> cases won
      ·exact nd01011_000
      ·exact nd01011_001
      ·exact nd01011_100
      ·exact nd01011_101
   ·rcases h3 with rfl | rfl
    ·rcases h4 with rfl | rfl
     ·cases cn <;> cases won
      ·exact nd01100_000
      ·exact nd01100_001
      ·exact nd01100_100
      ·exact nd01100_101
     ·cases cn <;> cases won
      ·exact nd01101_000
      ·exact nd01101_001
      ·exact nd01101_100
      ·exact nd01101_101
    ·rcases h4 with rfl | rfl
     ·cases cn <;> cases won
      ·exact nd01110_000
      ·exact nd01110_001
      ·exact nd01110_100
      ·exact nd01110_101
     ·cases cn <;> cases won
      ·exact nd01111_000
      ·exact nd01111_001
      ·exact nd01111_100
      ·exact nd01111_101
 ·rcases h1 with rfl | rfl
  ·rcases h2 with rfl | rfl
   ·rcases h3 with rfl | rfl
    ·rcases h4 with rfl | rfl
     ·cases cn <;> cases won
      ·exact nd10000_000
      ·exact nd10000_001
      ·exact nd10000_100
      ·exact nd10000_101
     ·cases cn <;> cases won
      ·exact nd10001_000
      ·exact nd10001_001
      ·exact nd10001_100
      ·exact nd10001_101
    ·rcases h4 with rfl | rfl
     ·cases cn <;> cases won
      ·exact nd10010_000
      ·exact nd10010_001
      ·exact nd10010_100
      ·exact nd10010_101
     ·cases cn <;> cases won
      ·exact nd10011_000
      ·exact nd10011_001
      ·exact nd10011_100
      ·exact nd10011_101
   ·rcases h3 with rfl | rfl
    ·rcases h4 with rfl | rfl
     ·cases cn <;> cases won
      ·exact nd10100_000
      ·exact nd10100_001
      ·exact nd10100_100
      ·exact nd10100_101
     ·cases cn <;> cases won
      ·exact nd10101_000
      ·exact nd10101_001
      ·exact nd10101_100
      ·exact nd10101_101
    ·rcases h4 with rfl | rfl
     ·cases cn <;> cases won
      ·exact nd10110_000
      ·exact nd10110_001
      ·exact nd10110_100
      ·exact nd10110_101
     ·cases cn <;> cases won
      ·exact nd10111_000
      ·exact nd10111_001
      ·exact nd10111_100
      ·exact nd10111_101
  ·rcases h2 with rfl | rfl
   ·rcases h3 with rfl | rfl
    ·rcases h4 with rfl | rfl
     ·cases cn <;> cases won
      ·exact nd11000_000
      ·exact nd11000_001
      ·exact nd11000_100
      ·exact nd11000_101
     ·cases cn <;> cases won
      ·exact nd11001_000
      ·exact nd11001_001
      ·exact nd11001_100
      ·exact nd11001_101
    ·rcases h4 with rfl | rfl
     ·cases cn <;> cases won
      ·exact nd11010_000
      ·exact nd11010_001
      ·exact nd11010_100
      ·exact nd11010_101
     ·cases cn <;> cases won
      ·exact nd11011_000
      ·exact nd11011_001
      ·exact nd11011_100
      ·exact nd11011_101
   ·rcases h3 with rfl | rfl
    ·rcases h4 with rfl | rfl
     ·cases cn <;> cases won
      ·exact nd11100_000
      ·exact nd11100_001
      ·exact nd11100_100
      ·exact nd11100_101
     ·cases cn <;> cases won
      ·exact nd11101_000
      ·exact nd11101_001
      ·exact nd11101_100
      ·exact nd11101_101
    ·rcases h4 with rfl | rfl
     ·cases cn <;> cases won
      ·exact nd11110_000
      ·exact nd11110_001
      ·exact nd11110_100
      ·exact nd11110_101
     ·cases cn <;> cases won
      ·exact nd11111_000
      ·exact nd11111_001
      ·exact nd11111_100
      ·exact nd11111_101
theorem okDs (cn won : Bool) : okD [] cn true won = true := by
 cases cn <;> cases won
 ·exact nd_010
 ·exact nd_011
 ·exact nd_110
 ·exact nd_111
structure CellsIn (w : World) (v : Value) (cn : Bool) (b o len cap : Nat) (zs : List Int) : Prop where
 nil : cn = true → v = .slice none 0 0
 some : cn = false → SlIn w 1 v b o len cap zs
structure SwapsIn (w : World) (v : Value) (sn : Bool) (b o len cap : Nat) (zs : List Int) : Prop where
 nil : sn = true → v = .slice none 0 0
 some : sn = false → SlIn w 3 v b o len cap zs
theorem helpDone_run {w : World} {v0 v1 : Value} {won cn sn : Bool} {b0 o0 l0 c0 b1 o1 l1 c1 : Nat} {zs0 zs1 : List Int} (h0 : CellsIn w v0 cn b0 o0 l0 c0 zs0) (h1 : SwapsIn w v1 sn b1 o1 l1 c1 zs1) :
  Calls Try.prog 8 #[v0, v1, .bool won] w fun r w' => r = .returned (.bool true) ∧ Below w.heap.size w w' := by
 let E : Env := envL w ((24, if cn then [] else zs0) :: (14, if sn then [] else zs1) :: []) ((11, [0]) :: (12, [if sn then 0 else (l1 : Int)]) :: (13, [if sn then 0 else (c1 : Int)]) :: (21, [0]) :: (22, [if cn then 0 else (l0 : Int)]) :: (23, [if cn then 0 else (c0 : Int)]) :: []) [(10, b1), (20, b0)] [(10, o1), (20, o0)]
 have hE : E.Ok := by
  refine envL_ok (row_in ?_ (row_in ?_ none_in)) (one_in zero_in (one_in ?_ (one_in ?_ (one_in zero_in (one_in ?_ (one_in ?_ none_in))))))
  ·intro z hz
   cases cn with
   | true => cases hz
   | false => exact (h0.some rfl).nums z hz
  ·intro z hz
   cases sn with
   | true => cases hz
   | false => exact (h1.some rfl).nums z hz
  ·cases sn with
   | true => exact zero_in
   | false => exact len_in (Nat.le_trans (h1.some rfl).room (h1.some rfl).max)
  ·cases sn with
   | true => exact zero_in
   | false => exact len_in (h1.some rfl).max
  ·cases cn with
   | true => exact zero_in
   | false => exact len_in (Nat.le_trans (h0.some rfl).room (h0.some rfl).max)
  ·cases cn with
   | true => exact zero_in
   | false => exact len_in (h0.some rfl).max
 have hv : (argsD cn sn won).map (dv E) = [v0, v1, .bool won] := by
  cases cn with
  | true =>
   rw [h0.nil rfl]
   cases sn with
   | true => rw [h1.nil rfl]; rfl
   | false => rw [(h1.some rfl).val]; exact congrArg (fun x => [Value.slice none 0 0, x, .bool won]) (SlArg.val (S := ⟨10, 11, 12, 13, 14, 3, b1, o1, l1, c1, zs1⟩) (E := E) ⟨rfl, rfl, rfl, rfl, rfl, rfl, by show (14 : Nat) ≠ 0; decide⟩)
  | false =>
   rw [(h0.some rfl).val]
   have e0 : dv E (sl1 20) = .slice (some ⟨b0, o0, none⟩) l0 c0 := SlArg.val (S := ⟨20, 21, 22, 23, 24, 1, b0, o0, l0, c0, zs0⟩) (E := E) ⟨rfl, rfl, rfl, rfl, rfl, rfl, by show (24 : Nat) ≠ 0; decide⟩
   cases sn with
   | true => rw [h1.nil rfl, ← e0]; rfl
   | false =>
    have e1 : dv E (sl3 10) = .slice (some ⟨b1, o1, none⟩) l1 c1 := SlArg.val (S := ⟨10, 11, 12, 13, 14, 3, b1, o1, l1, c1, zs1⟩) (E := E) ⟨rfl, rfl, rfl, rfl, rfl, rfl, by show (14 : Nat) ≠ 0; decide⟩
    rw [(h1.some rfl).val, ← e0, ← e1]
    rfl
 have hen : ∀ e ∈ entsD cn sn, e.ro = true ∧ EntOk E w e := fun e he => by
  unfold entsD at he
  rcases List.mem_append.1 he with he | he
  ·cases cn with
   | true => cases he
   | false =>
    rcases List.mem_singleton.1 he with rfl
    exact ⟨rfl, SlArg.ent (S := ⟨20, 21, 22, 23, 24, 1, b0, o0, l0, c0, zs0⟩) ⟨rfl, rfl, rfl, rfl, rfl, rfl, by show (24 : Nat) ≠ 0; decide⟩ (holds_of (h0.some rfl) 20 21 22 23 24)⟩
  ·cases sn with
   | true => cases he
   | false =>
    rcases List.mem_singleton.1 he with rfl
    exact ⟨rfl, SlArg.ent (S := ⟨10, 11, 12, 13, 14, 3, b1, o1, l1, c1, zs1⟩) ⟨rfl, rfl, rfl, rfl, rfl, rfl, by show (14 : Nat) ≠ 0; decide⟩ (holds_of (h1.some rfl) 10 11 12 13 14)⟩
 have fin : ∀ bs : List Int, (∀ f ∈ bitsL 0 bs, FactOk E f) → (sn = false → (bs.length : Int) ≤ l1 ∧ (l1 : Int) ≤ (cond (Nat.beq bs.length 5) hi64 bs.length)) → okD bs cn sn won = true → Calls Try.prog 8 #[v0, v1, .bool won] w fun r w' => r = .returned (.bool true) ∧ Below w.heap.size w w' := fun bs hb hl hrun => by
  have := law_ok (funN_ok shAll) hrun (E := E) (w := w) rfl (slMem_ok (ents := entsD cn sn) (fs := factD bs cn sn) 60 hE rfl rfl hen (fun f hf => by
   unfold factD at hf
   rcases List.mem_append.1 hf with hf | hf
   ·exact hb f hf
   rcases List.mem_append.1 hf with hf | hf
   ·cases cn with
    | true => cases hf
    | false => exact SlArg.facts (S := ⟨20, 21, 22, 23, 24, 1, b0, o0, l0, c0, zs0⟩) ⟨rfl, rfl, rfl, rfl, rfl, rfl, by show (24 : Nat) ≠ 0; decide⟩ (holds_of (h0.some rfl) 20 21 22 23 24) (le_hi (h0.some rfl).room (h0.some rfl).max) f hf
   ·cases sn with
    | true => cases hf
    | false =>
     have hf : f ∈ fa3u 10 bs.length (cond (Nat.beq bs.length 5) hi64 bs.length) := hf
     unfold fa3u at hf
     rcases List.mem_cons.1 hf with rfl | hf
     ·exact hl rfl
     ·exact SlArg.facts (S := ⟨10, 11, 12, 13, 14, 3, b1, o1, l1, c1, zs1⟩) ⟨rfl, rfl, rfl, rfl, rfl, rfl, by show (14 : Nat) ≠ 0; decide⟩ (holds_of (h1.some rfl) 10 11 12 13 14) (le_hi (h1.some rfl).room (h1.some rfl).max) f hf))
  rw [hv] at this
  exact this
 have hb : ∀ j, ev E (bitE j) = 0 ∨ ev E (bitE j) = 1 := fun j => by
  have := and_in .i64 (ev E (.sel 14 (.lit (3 * j : Nat)))) 1 (by decide) (by decide)
  have e : ev E (bitE j) = bitI .and .i64 (ev E (.sel 14 (.lit (3 * j : Nat)))) 1 := rfl
  rw [← e] at this
  omega
 have one : ∀ j, FactOk E (bitE j, ev E (bitE j), ev E (bitE j)) := fun j => ⟨Int.le_refl _, Int.le_refl _⟩
 cases sn with
 | true => exact fin [] (fun _ h => (by cases h)) (fun h => (by cases h)) (okDs cn won)
 | false =>
  have hlen : (l1 : Int) ≤ hi64 := le_hi (h1.some rfl).room (h1.some rfl).max
  rcases (by omega : l1 = 0 ∨ l1 = 1 ∨ l1 = 2 ∨ l1 = 3 ∨ l1 = 4 ∨ 5 ≤ l1) with g | g | g | g | g | g
  ·refine fin [] (fun f hf => ?_) (fun _ => ?_) (okD0  cn won)
   ·cases hf
   ·show (0 : Int) ≤ l1 ∧ (l1 : Int) ≤ 0
    omega
  ·refine fin [ev E (bitE 0)] (fun f hf => ?_) (fun _ => ?_) (okD1 (hb 0) cn won)
   ·simp only [bitsL, List.mem_cons, List.not_mem_nil, or_false] at hf
    subst hf
    ·exact one 0
   ·show (1 : Int) ≤ l1 ∧ (l1 : Int) ≤ 1
    omega
  ·refine fin [ev E (bitE 0), ev E (bitE 1)] (fun f hf => ?_) (fun _ => ?_) (okD2 (hb 0) (hb 1) cn won)
   ·simp only [bitsL, List.mem_cons, List.not_mem_nil, or_false] at hf
    rcases hf with rfl | rfl
    ·exact one 0
    ·exact one 1
   ·show (2 : Int) ≤ l1 ∧ (l1 : Int) ≤ 2
    omega
  ·refine fin [ev E (bitE 0), ev E (bitE 1), ev E (bitE 2)] (fun f hf => ?_) (fun _ => ?_) (okD3 (hb 0) (hb 1) (hb 2) cn won)
   ·simp only [bitsL, List.mem_cons, List.not_mem_nil, or_false] at hf
    rcases hf with rfl | rfl | rfl
    ·exact one 0
    ·exact one 1
    ·exact one 2
   ·show (3 : Int) ≤ l1 ∧ (l1 : Int) ≤ 3
    omega
  ·refine fin [ev E (bitE 0), ev E (bitE 1), ev E (bitE 2), ev E (bitE 3)] (fun f hf => ?_) (fun _ => ?_) (okD4 (hb 0) (hb 1) (hb 2) (hb 3) cn won)
   ·simp only [bitsL, List.mem_cons, List.not_mem_nil, or_false] at hf
    rcases hf with rfl | rfl | rfl | rfl
    ·exact one 0
    ·exact one 1
    ·exact one 2
    ·exact one 3
   ·show (4 : Int) ≤ l1 ∧ (l1 : Int) ≤ 4
    omega
  ·refine fin [ev E (bitE 0), ev E (bitE 1), ev E (bitE 2), ev E (bitE 3), ev E (bitE 4)] (fun f hf => ?_) (fun _ => ?_) (okD5 (hb 0) (hb 1) (hb 2) (hb 3) (hb 4) cn won)
   ·simp only [bitsL, List.mem_cons, List.not_mem_nil, or_false] at hf
    rcases hf with rfl | rfl | rfl | rfl | rfl
    ·exact one 0
    ·exact one 1
    ·exact one 2
    ·exact one 3
    ·exact one 4
   ·show (5 : Int) ≤ l1 ∧ (l1 : Int) ≤ hi64
    omega
theorem helpDone_walk {w : World} {r : Reach} {b0 : Nat} {v0 v1 v2 : Value} {H : Type} {enc : TypeId × Value → H} {base : Nat} {spare : Nat → Bool} {held : Bool} {d0 d1 d2 : DataW H} {p0 p1 p2 : List MemPlace}
  (k0 : Value.okWide Try.prog w r b0 22 v0) (h0 : DataW.Trod enc Try.prog w base spare held 22 v0 d0 p0)
  (k1 : Value.okWide Try.prog w r b0 23 v1) (h1 : DataW.Trod enc Try.prog w base spare held 23 v1 d1 p1)
  (k2 : Value.okWide Try.prog w r b0 4 v2) (h2 : DataW.Trod enc Try.prog w base spare held 4 v2 d2 p2) :
  Calls Try.prog 8 #[v0, v1, v2] w fun r w' => r = .returned (.bool true) ∧ Below w.heap.size w w' := by
 obtain ⟨won, rfl, _, _⟩ := open_bool Try.underlying4 k2 h2
 rcases open_xs k0 h0 with rfl | ⟨b0', o0, l0, c0, zs0, hs0⟩
 ·rcases open_ss k1 h1 with rfl | ⟨b1, o1, l1, c1, zs1, hs1⟩
  ·exact helpDone_run (cn := true) (sn := true) (b0 := 0) (o0 := 0) (l0 := 0) (c0 := 0) (zs0 := []) (b1 := 0) (o1 := 0) (l1 := 0) (c1 := 0) (zs1 := []) ⟨fun _ => rfl, fun h => (by cases h)⟩ ⟨fun _ => rfl, fun h => (by cases h)⟩
  ·exact helpDone_run (cn := true) (sn := false) (b0 := 0) (o0 := 0) (l0 := 0) (c0 := 0) (zs0 := []) ⟨fun _ => rfl, fun h => (by cases h)⟩ ⟨fun h => (by cases h), fun _ => hs1⟩
 ·rcases open_ss k1 h1 with rfl | ⟨b1, o1, l1, c1, zs1, hs1⟩
  ·exact helpDone_run (cn := false) (sn := true) (b1 := 0) (o1 := 0) (l1 := 0) (c1 := 0) (zs1 := []) ⟨fun h => (by cases h), fun _ => hs0⟩ ⟨fun _ => rfl, fun h => (by cases h)⟩
  ·exact helpDone_run (cn := false) (sn := false) ⟨fun h => (by cases h), fun _ => hs0⟩ ⟨fun h => (by cases h), fun _ => hs1⟩
end Go.Proofs.Ytdchpckikclmlaa
namespace Go.Proofs.Ytdchpckikclmlaa.helpDone
open Go.ChangeShapes Go.WideShapes Go.ChangeAt Go.RowKit Go.Deep
set_option maxRecDepth 100000 in
theorem lifted (os : Os) (started : os.Started) (H : Type) (enc : TypeId × Value → H) :
  ReturnsInHanded {} Try.checked os 8 .any (Rows.helpDoneSpec.pre6 enc Try.prog Try.f8 Rows.helpDoneRow.domain false) (Rows.helpDoneSpec.post enc Try.prog Try.f8 false true false false) := by
 refine returnsInHanded_of_change (C := Try.checked) own started (by kernel_rfl) Try.func8
  (ChangeSpec.witness6 (enc := enc) (C := Try.checked) false ⟨#[], #[.slice none 0 0, .slice none 0 0, .bool false], []⟩ 60 (by kernel_rfl) (by kernel_rfl) (by kernel_rfl) (by kernel_rfl)) ?_
 intro W base args ds gs before hval0 hW _ _
 have hval : ∀ (j : Nat) t v, Try.f8.params[j]? = some t → args[j]? = some v → Value.okWide Try.prog W .any base t v := hval0
 have hW' := hW
 obtain ⟨p, q, hA0, hV, rfl, _, _⟩ := hW
 have hA : DataW.TrodAll enc Try.prog W 0 (fun _ => true) true Try.f8.params.toList args.toList ds p := hA0
 rw [Try.params8] at hA hval
 obtain ⟨v0, vs0, d0, ds0, p0, q0, hargs, rfl, rfl, h0, r0⟩ := trodAll_cons hA
 obtain ⟨v1, vs1, d1, ds1, p1, q1, rfl, rfl, rfl, h1, r1⟩ := trodAll_cons r0
 obtain ⟨v2, vs2, d2, ds2, p2, q2, rfl, rfl, rfl, h2, r2⟩ := trodAll_cons r1
 obtain ⟨rfl, rfl, rfl⟩ := trodAll_nil r2
 obtain rfl : args = #[v0, v1, v2] := by cases args; simp_all
 obtain ⟨rfl, rfl⟩ := trodVars_none hV
 have tl0 : ∀ x ∈ p0, x.block < W.heap.size := by obtain ⟨m, hm⟩ := h0; exact DataW.trod_lt m _ _ _ hm
 have tl1 : ∀ x ∈ p1, x.block < W.heap.size := by obtain ⟨m, hm⟩ := h1; exact DataW.trod_lt m _ _ _ hm
 have tl2 : ∀ x ∈ p2, x.block < W.heap.size := by obtain ⟨m, hm⟩ := h2; exact DataW.trod_lt m _ _ _ hm
 clear hA0 hval0
 refine (helpDone_walk (hval 0 22 v0 rfl rfl) h0 (hval 1 23 v1 rfl rfl) h1 (hval 2 4 v2 rfl rfl) h2).mono fun e W' ⟨he, bel⟩ => ?_
 subst he
 exact ⟨_, rfl, _, _, _, [], _, [], hW', trodAll_mk1 (shut_bool Try.underlying4 _), (trodAll_cons_mk (Below.trod laidOut (by kernel_rfl) (of_decide_eq_true (by kernel_rfl)) h0 bel tl0) (trodAll_cons_mk (Below.trod laidOut (by kernel_rfl) (of_decide_eq_true (by kernel_rfl)) h1 bel tl1) (trodAll_cons_mk (Below.trod laidOut (by kernel_rfl) (of_decide_eq_true (by kernel_rfl)) h2 bel tl2) trodAll_mk0))), rfl, bel.frame _, fun h => by cases h⟩
theorem over : Rows.helpDoneRow.holds Try.pinned (OpenSpec.ofChange Rows.helpDoneSpec) :=
 OpenClaim.holds_of_wide 8 Try.f8 rfl rfl rfl rfl rfl rfl rfl ⟨rfl, rfl, rfl, rfl, rfl⟩ rfl rfl rfl rfl rfl (by kernel_rfl) Try.func8 (by kernel_rfl)
  (of_decide_eq_true (by kernel_rfl)) (by unfold Func.isWrapper; first | (rw [if_pos (by decide +kernel)]; kernel_rfl) | (rw [if_neg (by decide +kernel)]; exact ⟨rfl, rfl⟩))
  (fun os started H enc _ => lifted os started H enc)
theorem proved : Rows.HelpDoneSaid := over
#print axioms proved
end Go.Proofs.Ytdchpckikclmlaa.helpDone
