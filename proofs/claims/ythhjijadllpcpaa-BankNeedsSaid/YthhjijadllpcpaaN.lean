/- what BankNeeds is run with. -/
import Derived.Test.YthhjijadllpcpaaV2
namespace Go.Proofs.Ythhjijadllpcpaa
open Go.Sx Go
set_option maxRecDepth 100000
noncomputable def fun5 (f : Nat) : List SV → X SV := callF (tabJ [4, 32]) sp1 (bxOf []) 400 12 f
theorem fun5_ok (f : Nat) : SpecOk Try.prog f (fun5 f) := callF_ok sp1_ok noBx 400 12 f
theorem cn1 {E : Env} {c : BE} (h : evB E c = true) : ∀ d ∈ [c], evB E d = true := fun d hd => by
  rcases List.mem_singleton.1 hd with rfl; exact h
theorem cn2 {E : Env} {c c' : BE} (h : evB E c = true) (h' : evB E c' = true) : ∀ d ∈ [c, c'], evB E d = true := fun d hd => by
  simp only [List.mem_cons, List.not_mem_nil, or_false] at hd
  rcases hd with rfl | rfl <;> assumption
theorem cn4 {E : Env} {c0 c1 c2 c3 : BE} (h0 : evB E c0 = true) (h1 : evB E c1 = true) (h2 : evB E c2 = true) (h3 : evB E c3 = true) : ∀ d ∈ [c0, c1, c2, c3], evB E d = true := fun d hd => by
  simp only [List.mem_cons, List.not_mem_nil, or_false] at hd
  rcases hd with rfl | rfl | rfl | rfl <;> assumption
theorem yesB {E : Env} {i : Nat} (h : E.b i = true) : evB E (.var i) = true := h
theorem notB {E : Env} {i : Nat} (h : E.b i = false) : evB E (.not (.var i)) = true := by
  show (!E.b i) = true
  rw [h]; rfl
end Go.Proofs.Ythhjijadllpcpaa
