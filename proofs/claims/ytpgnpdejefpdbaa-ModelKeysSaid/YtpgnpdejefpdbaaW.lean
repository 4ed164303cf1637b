/- ModelKeys: the cases of a round, and that they are all. -/
import Derived.Test.YtpgnpdejefpdbaaY
import Derived.Test.YtpgnpdejefpdbaaD
namespace Go.Proofs.Ytpgnpdejefpdbaa
open Go.Sx Go Go.ChangeShapes Go.WideShapes Go.ChangeAt Go.RowKit Go.Deep
set_option maxRecDepth 100000
noncomputable def kFs (n : Nat) : List Fact := [(eKey, ((n / 2 : Nat) : Int), ((n / 2 : Nat) : Int)), (ePut, ((n % 2 : Nat) : Int), ((n % 2 : Nat) : Int))]
noncomputable def yOk (l : List Bool) (n : Nat) : Bool := kOk l (l.set (n / 2) (Nat.beq (n % 2) 0)) (kFs n)
theorem rngKey : rng [] eKey = (0, 4) := by kernel_rfl
theorem rngPut : rng [] ePut = (0, 1) := by kernel_rfl
theorem coverK {E : Env} (hE : E.Ok) : ∃ n, n < 10 ∧ ∀ f ∈ kFs n, FactOk E f := by
 have none : ∀ f ∈ ([] : List Fact), FactOk E f := fun _ h => by cases h
 have hk := rng_ok hE none eKey
 have hp := rng_ok hE none ePut
 rw [rngKey] at hk
 rw [rngPut] at hp
 dsimp only at hk hp
 refine ⟨2 * (ev E eKey).toNat + (ev E ePut).toNat, by omega, fun f hf => ?_⟩
 unfold kFs at hf
 rw [show (2 * (ev E eKey).toNat + (ev E ePut).toNat) / 2 = (ev E eKey).toNat by omega, show (2 * (ev E eKey).toNat + (ev E ePut).toNat) % 2 = (ev E ePut).toNat by omega] at hf
 simp only [List.mem_cons, List.not_mem_nil, or_false] at hf
 rcases hf with rfl | rfl <;> unfold FactOk <;> dsimp only <;> omega
theorem bools_mem : ∀ l : List Bool, l ∈ bools l.length
 | [] => List.mem_singleton_self _
 | c :: r => by
  refine List.mem_flatMap.2 ⟨r, bools_mem r, ?_⟩
  cases c <;> simp
theorem bools_len : ∀ {n : Nat} {l : List Bool}, l ∈ bools n → l.length = n
 | 0, l, h => by rcases List.mem_singleton.1 h with rfl; rfl
 | n + 1, l, h => by
  obtain ⟨r, hr, hl⟩ := List.mem_flatMap.1 h
  simp only [List.mem_cons, List.not_mem_nil, or_false] at hl
  rcases hl with rfl | rfl <;> rw [List.length_cons, bools_len hr]
theorem yOk_head {l : List Bool} (h : l ∈ bools 5) {n : Nat} (hu : yOk l n = true) : headOk (tabJ []) cxU (fun _ => none) none 400 0 (loopBody 0 (bodyOf Try.f5)) 12 headsK [leaveK] ((headK l).more (kFs n)) = true := by
 unfold yOk kOk at hu
 refine headOk_sub (fun x hx => ?_) hu
 simp only [List.mem_cons, List.not_mem_nil, or_false] at hx
 rcases hx with rfl | rfl
 ·exact List.mem_map_of_mem h
 ·refine List.mem_map_of_mem ?_
  have := bools_mem (l.set (n / 2) (Nat.beq (n % 2) 0))
  rw [List.length_set, bools_len h] at this
  exact this
noncomputable def okFT (a b : Nat) : Bool := okKey [(modE 6, (a : Int), (a : Int)), (modE 7, (b : Int), (b : Int))]
theorem rngMod6 : rng [] (modE 6) = (0, 4) := by kernel_rfl
theorem rngMod7 : rng [] (modE 7) = (0, 4) := by kernel_rfl
theorem coverM {E : Env} (hE : E.Ok) : ∃ a b : Nat, a < 5 ∧ b < 5 ∧ ∀ f ∈ [((modE 6, (a : Int), (a : Int)) : Fact), (modE 7, (b : Int), (b : Int))], FactOk E f := by
 have none : ∀ f ∈ ([] : List Fact), FactOk E f := fun _ h => by cases h
 have h6 := rng_ok hE none (modE 6)
 have h7 := rng_ok hE none (modE 7)
 rw [rngMod6] at h6
 rw [rngMod7] at h7
 dsimp only at h6 h7
 refine ⟨(ev E (modE 6)).toNat, (ev E (modE 7)).toNat, by omega, by omega, fun f hf => ?_⟩
 simp only [List.mem_cons, List.not_mem_nil, or_false] at hf
 rcases hf with rfl | rfl <;> unfold FactOk <;> dsimp only <;> omega
end Go.Proofs.Ytpgnpdejefpdbaa
