/- The free slots' list under pops and pushes that interleave: an invariant, and that each step keeps it. Numbers alone: no word of a program. -/
namespace Go.FreeInv
/-- the slots from a head on: each is told as its number and 1, 0 ends -/
def Chain (N : Nat → Int) : Int → List Nat → Prop
  | f, [] => f = 0
  | f, s :: r => f = s + 1 ∧ Chain N (N s) r
structure Th where
  have_ : Int
  mode : Int
  pc : Int
  hc : Int
  hf : Int
  x : Int
structure Sys where
  c : Int
  f : Int
  N : Nat → Int
  th : Nat → Th
/-- a pop under way (mode 1), a push under way (mode 2) -/
structure ThOk (S : Sys) (t : Th) : Prop where
  hv : t.have_ = -1 ∨ (0 ≤ t.have_ ∧ t.have_ ≤ 11)
  pop : t.mode = 1 → t.have_ = -1
  push : t.mode = 2 → 0 ≤ t.have_
  head : (t.mode = 1 ∨ t.mode = 2) → 1 ≤ t.pc → 0 ≤ t.hc ∧ t.hc ≤ S.c ∧ 0 ≤ t.hf ∧ t.hf ≤ 12 ∧ (t.hc = S.c → t.hf = S.f)
  some1 : t.mode = 1 → 1 ≤ t.pc → 1 ≤ t.hf
  next1 : t.mode = 1 → t.pc = 2 → 0 ≤ t.x ∧ t.x ≤ 12 ∧ (t.hc = S.c → t.x = S.N (t.hf - 1).toNat)
  next2 : t.mode = 2 → t.pc = 2 → S.N t.have_.toNat = t.hf
structure Inv (S : Sys) (L : List Nat) (i : Int) : Prop where
  chain : Chain S.N S.f L
  nodup : L.Nodup
  lt : ∀ s ∈ L, s < 12
  own : ∀ t, t < 3 → (S.th t).have_ = -1 ∨ (S.th t).have_.toNat ∉ L
  apart : ∀ t u, t < 3 → u < 3 → t ≠ u → (S.th t).have_ ≠ -1 → (S.th t).have_ ≠ (S.th u).have_
  count : L.length + ((if (S.th 0).have_ = -1 then 0 else 1) + (if (S.th 1).have_ = -1 then 0 else 1) + (if (S.th 2).have_ = -1 then 0 else 1)) = 12
  c0 : 0 ≤ S.c
  ci : S.c ≤ i
  nx : ∀ s, s < 12 → 0 ≤ S.N s ∧ S.N s ≤ 12
  ths : ∀ t, t < 3 → ThOk S (S.th t)
theorem chain_set {N : Nat → Int} {k : Nat} {v : Int} : ∀ {L : List Nat} {f : Int}, k ∉ L → Chain N f L → Chain (fun s => if s = k then v else N s) f L
  | [], f, _, h => h
  | s :: r, f, hk, h => by
    obtain ⟨h1, h2⟩ := h
    have hs : s ≠ k := fun e => hk (by rw [e]; exact List.mem_cons_self)
    refine ⟨h1, ?_⟩
    show Chain _ (if s = k then v else N s) r
    rw [if_neg hs]
    exact chain_set (fun h => hk (List.mem_cons_of_mem _ h)) h2
def Sys.set (S : Sys) (t : Nat) (x : Th) : Sys := { S with th := fun u => if u = t then x else S.th u }
theorem f_in {S : Sys} {L : List Nat} (h : Chain S.N S.f L) (hl : ∀ s ∈ L, s < 12) : 0 ≤ S.f ∧ S.f ≤ 12 := by
  cases L with
  | nil =>
    have : S.f = 0 := h
    omega
  | cons s r =>
    obtain ⟨h1, _⟩ := h
    have := hl s List.mem_cons_self
    omega
/-- a step of a thread that turns its own state alone, what it has as it was -/
theorem Inv.own_step {S : Sys} {L : List Nat} {i : Int} (h : Inv S L i) {t : Nat} (_ht : t < 3) {x : Th} (hv : x.have_ = (S.th t).have_) (hx : ThOk S x) : Inv (S.set t x) L (i + 1) := by
  have hh : ∀ u, ((S.set t x).th u).have_ = (S.th u).have_ := fun u => by
    show (if u = t then x else S.th u).have_ = _
    by_cases hu : u = t
    · rw [if_pos hu, hu, hv]
    · rw [if_neg hu]
  refine ⟨h.chain, h.nodup, h.lt, fun u hu => by rw [hh]; exact h.own u hu, fun u v hu hv' huv => by rw [hh, hh]; exact h.apart u v hu hv' huv, by rw [hh, hh, hh]; exact h.count, h.c0, by have := h.ci; show S.c ≤ i + 1; omega, h.nx, fun u hu => ?_⟩
  show ThOk (S.set t x) (if u = t then x else S.th u)
  by_cases hut : u = t
  · rw [if_pos hut]
    exact ⟨hx.hv, hx.pop, hx.push, hx.head, hx.some1, hx.next1, hx.next2⟩
  · rw [if_neg hut]
    have k := h.ths u hu
    exact ⟨k.hv, k.pop, k.push, k.head, k.some1, k.next1, k.next2⟩
/-- a pop gets its slot -/
theorem Inv.popped {S : Sys} {L : List Nat} {i : Int} (h : Inv S L i) {t : Nat} (ht : t < 3) (hm : (S.th t).mode = 1) (hp : (S.th t).pc = 2) (hc : (S.th t).hc = S.c) {x : Th} (hv : x.have_ = (S.th t).hf - 1) (hx : x.mode = 0) :
    ∃ L', Inv { S.set t x with c := S.c + 1, f := (S.th t).x } L' (i + 1) := by
  have k := h.ths t ht
  obtain ⟨_, _, a3, a4, a5⟩ := k.head (.inl hm) (by omega)
  have hf := a5 hc
  have h1 := k.some1 hm (by omega)
  obtain ⟨x0, x1, x2⟩ := k.next1 hm hp
  have hx2 := x2 hc
  have hch := h.chain
  cases L with
  | nil =>
    have : S.f = 0 := hch
    omega
  | cons s r =>
  obtain ⟨f1, f2⟩ := hch
  have hs := h.lt s List.mem_cons_self
  have hsn : ((S.th t).hf - 1).toNat = s := by omega
  have hn := h.nodup
  rw [List.nodup_cons] at hn
  have hold := k.pop hm
  have hx0 : x.have_ = (s : Int) := by omega
  have hth : ∀ u, u ≠ t → (({ S.set t x with c := S.c + 1, f := (S.th t).x } : Sys).th u) = S.th u := fun u hu => by
    show (if u = t then x else S.th u) = _
    rw [if_neg hu]
  have htt : (({ S.set t x with c := S.c + 1, f := (S.th t).x } : Sys).th t) = x := by
    show (if t = t then x else S.th t) = _
    rw [if_pos rfl]
  refine ⟨r, ?_, hn.2, fun s hs => h.lt s (List.mem_cons_of_mem _ hs), fun u hu => ?_, fun u v hu hv' huv => ?_, ?_, by have := h.c0; show 0 ≤ S.c + 1; omega, by have := h.ci; show S.c + 1 ≤ i + 1; omega, h.nx, fun u hu => ?_⟩
  · show Chain S.N (S.th t).x r
    rw [hx2, hsn]
    exact f2
  · by_cases hut : u = t
    · subst hut
      rw [htt, hx0]
      exact .inr (by simpa using hn.1)
    · rw [hth u hut]
      exact (h.own u hu).imp id fun h hm => h (List.mem_cons_of_mem _ hm)
  · have other : ∀ u, u < 3 → (S.th u).have_ ≠ -1 → (S.th u).have_ ≠ (s : Int) := fun u hu hne e => by
      rcases h.own u hu with h1 | h1
      · exact hne h1
      · exact h1 (by rw [e]; simp)
    by_cases hut : u = t
    · subst hut
      rw [htt, hth v (fun e => huv e.symm), hx0]
      intro _ e
      by_cases hvv : (S.th v).have_ = -1
      · omega
      · exact other v hv' hvv e.symm
    · rw [hth u hut]
      by_cases hvt : v = t
      · subst hvt
        rw [htt, hx0]
        intro hne e
        exact other u hu hne e
      · rw [hth v hvt]
        exact h.apart u v hu hv' huv
  · have hcount := h.count
    simp only [List.length_cons] at hcount
    have hxn : ¬ x.have_ = -1 := by omega
    rcases (by omega : t = 0 ∨ t = 1 ∨ t = 2) with rfl | rfl | rfl
    · rw [htt, hth 1 (by omega), hth 2 (by omega), if_neg hxn]
      rw [if_pos hold] at hcount
      omega
    · rw [htt, hth 0 (by omega), hth 2 (by omega), if_neg hxn]
      rw [if_pos hold] at hcount
      omega
    · rw [htt, hth 0 (by omega), hth 1 (by omega), if_neg hxn]
      rw [if_pos hold] at hcount
      omega
  · by_cases hut : u = t
    · subst hut
      rw [htt]
      exact ⟨.inr (by omega), fun e => by omega, fun e => by omega, fun e => by omega, fun e => by omega, fun e => by omega, fun e => by omega⟩
    · rw [hth u hut]
      have q := h.ths u hu
      refine ⟨q.hv, q.pop, q.push, fun e1 e2 => ?_, q.some1, fun e1 e2 => ?_, q.next2⟩
      · obtain ⟨b1, b2, b3, b4, _⟩ := q.head e1 e2
        exact ⟨b1, by show (S.th u).hc ≤ S.c + 1; omega, b3, b4, fun e => absurd (show (S.th u).hc = S.c + 1 from e) (by omega)⟩
      · obtain ⟨b1, b2, _⟩ := q.next1 e1 e2
        obtain ⟨_, b4, _⟩ := q.head (.inl e1) (by omega)
        exact ⟨b1, b2, fun e => absurd (show (S.th u).hc = S.c + 1 from e) (by omega)⟩
/-- a push tells its slot's next one -/
theorem Inv.stored {S : Sys} {L : List Nat} {i : Int} (h : Inv S L i) {t : Nat} (ht : t < 3) (hm : (S.th t).mode = 2) (hp : (S.th t).pc = 1) {x : Th} (hx : x = { S.th t with pc := 2 }) :
    Inv { S.set t x with N := fun s => if s = (S.th t).have_.toNat then (S.th t).hf else S.N s } L (i + 1) := by
  have k := h.ths t ht
  obtain ⟨a1, a2, a3, a4, a5⟩ := k.head (.inr hm) (by omega)
  have hv := k.push hm
  have hown : (S.th t).have_.toNat ∉ L := by
    rcases h.own t ht with h1 | h1
    · omega
    · exact h1
  have hth : ∀ u, u ≠ t → (({ S.set t x with N := fun s => if s = (S.th t).have_.toNat then (S.th t).hf else S.N s } : Sys).th u) = S.th u := fun u hu => by
    show (if u = t then x else S.th u) = _
    rw [if_neg hu]
  have htt : (({ S.set t x with N := fun s => if s = (S.th t).have_.toNat then (S.th t).hf else S.N s } : Sys).th t) = { S.th t with pc := 2 } := by
    show (if t = t then x else S.th t) = _
    rw [if_pos rfl, hx]
  have hh : ∀ u, (({ S.set t x with N := fun s => if s = (S.th t).have_.toNat then (S.th t).hf else S.N s } : Sys).th u).have_ = (S.th u).have_ := fun u => by
    by_cases hu : u = t
    · subst hu
      rw [htt]
    · rw [hth u hu]
  refine ⟨chain_set hown h.chain, h.nodup, h.lt, fun u hu => by rw [hh]; exact h.own u hu, fun u v hu hv' huv => by rw [hh, hh]; exact h.apart u v hu hv' huv, by rw [hh, hh, hh]; exact h.count, h.c0, by have := h.ci; show S.c ≤ i + 1; omega, fun s hs => ?_, fun u hu => ?_⟩
  · show 0 ≤ (if s = (S.th t).have_.toNat then (S.th t).hf else S.N s) ∧ (if s = (S.th t).have_.toNat then (S.th t).hf else S.N s) ≤ 12
    split
    · exact ⟨a3, a4⟩
    · exact h.nx s hs
  · by_cases hut : u = t
    · subst hut
      rw [htt]
      refine ⟨k.hv, k.pop, k.push, fun _ _ => ⟨a1, a2, a3, a4, a5⟩, fun e => absurd (show (S.th u).mode = 1 from e) (by omega), fun e => absurd (show (S.th u).mode = 1 from e) (by omega), fun _ _ => ?_⟩
      show (if (S.th u).have_.toNat = (S.th u).have_.toNat then (S.th u).hf else S.N _) = (S.th u).hf
      rw [if_pos rfl]
    · rw [hth u hut]
      have q := h.ths u hu
      refine ⟨q.hv, q.pop, q.push, q.head, q.some1, fun e1 e2 => ?_, fun e1 e2 => ?_⟩
      · obtain ⟨b1, b2, b3⟩ := q.next1 e1 e2
        refine ⟨b1, b2, fun e => ?_⟩
        have e : (S.th u).hc = S.c := e
        show (S.th u).x = if ((S.th u).hf - 1).toNat = (S.th t).have_.toNat then (S.th t).hf else S.N ((S.th u).hf - 1).toNat
        rw [if_neg, b3 e]
        intro heq
        obtain ⟨_, _, _, _, c5⟩ := q.head (.inl e1) (by omega)
        have c5 := c5 e
        have c6 := q.some1 e1 (by omega)
        have hch := h.chain
        cases L with
        | nil =>
          have : S.f = 0 := hch
          omega
        | cons s r =>
          obtain ⟨f1, _⟩ := hch
          exact hown (by rw [← heq, show ((S.th u).hf - 1).toNat = s by omega]; exact List.mem_cons_self)
      · show (if (S.th u).have_.toNat = (S.th t).have_.toNat then (S.th t).hf else S.N (S.th u).have_.toNat) = (S.th u).hf
        have g1 := q.push e1
        rw [if_neg, q.next2 e1 e2]
        intro heq
        exact h.apart u t hu ht hut (by omega) (by omega)
/-- a push hands its slot over -/
theorem Inv.pushed {S : Sys} {L : List Nat} {i : Int} (h : Inv S L i) {t : Nat} (ht : t < 3) (hm : (S.th t).mode = 2) (hp : (S.th t).pc = 2) (hc : (S.th t).hc = S.c) {x : Th} (hv : x.have_ = -1) (hx : x.mode = 0) :
    ∃ L', Inv { S.set t x with c := S.c + 1, f := (S.th t).have_ + 1 } L' (i + 1) := by
  have k := h.ths t ht
  obtain ⟨_, _, a3, a4, a5⟩ := k.head (.inr hm) (by omega)
  have hf := a5 hc
  have hv0 := k.push hm
  have hN := k.next2 hm hp
  have hown : (S.th t).have_.toNat ∉ L := by
    rcases h.own t ht with h1 | h1
    · omega
    · exact h1
  have hle : (S.th t).have_ ≤ 11 := by rcases k.hv with h1 | h1 <;> omega
  have hth : ∀ u, u ≠ t → (({ S.set t x with c := S.c + 1, f := (S.th t).have_ + 1 } : Sys).th u) = S.th u := fun u hu => by
    show (if u = t then x else S.th u) = _
    rw [if_neg hu]
  have htt : (({ S.set t x with c := S.c + 1, f := (S.th t).have_ + 1 } : Sys).th t) = x := by
    show (if t = t then x else S.th t) = _
    rw [if_pos rfl]
  refine ⟨(S.th t).have_.toNat :: L, ⟨?_, ?_⟩, List.nodup_cons.2 ⟨hown, h.nodup⟩, fun s hs => ?_, fun u hu => ?_, fun u v hu hv' huv => ?_, ?_, by have := h.c0; show 0 ≤ S.c + 1; omega, by have := h.ci; show S.c + 1 ≤ i + 1; omega, h.nx, fun u hu => ?_⟩
  · show (S.th t).have_ + 1 = (((S.th t).have_.toNat : Nat) : Int) + 1
    omega
  · show Chain S.N (S.N (S.th t).have_.toNat) L
    rw [hN, hf]
    exact h.chain
  · rcases List.mem_cons.1 hs with rfl | hs
    · omega
    · exact h.lt s hs
  · by_cases hut : u = t
    · subst hut
      rw [htt]
      exact .inl hv
    · rw [hth u hut]
      rcases h.own u hu with h1 | h1
      · exact .inl h1
      · by_cases h2 : (S.th u).have_ = -1
        · exact .inl h2
        · refine .inr fun hmem => ?_
          rcases List.mem_cons.1 hmem with e | e
          · have q := (h.ths u hu).hv
            exact h.apart u t hu ht hut h2 (by omega)
          · exact h1 e
  · by_cases hut : u = t
    · subst hut
      rw [htt]
      intro e
      exact absurd hv e
    · rw [hth u hut]
      by_cases hvt : v = t
      · subst hvt
        rw [htt, hv]
        exact fun e => e
      · rw [hth v hvt]
        exact h.apart u v hu hv' huv
  · have hcount := h.count
    simp only [List.length_cons]
    have hold : ¬ (S.th t).have_ = -1 := by omega
    rcases (by omega : t = 0 ∨ t = 1 ∨ t = 2) with rfl | rfl | rfl
    · rw [htt, hth 1 (by omega), hth 2 (by omega), if_pos hv]
      rw [if_neg hold] at hcount
      omega
    · rw [htt, hth 0 (by omega), hth 2 (by omega), if_pos hv]
      rw [if_neg hold] at hcount
      omega
    · rw [htt, hth 0 (by omega), hth 1 (by omega), if_pos hv]
      rw [if_neg hold] at hcount
      omega
  · by_cases hut : u = t
    · subst hut
      rw [htt]
      exact ⟨.inl hv, fun e => by omega, fun e => by omega, fun e => by omega, fun e => by omega, fun e => by omega, fun e => by omega⟩
    · rw [hth u hut]
      have q := h.ths u hu
      refine ⟨q.hv, q.pop, q.push, fun e1 e2 => ?_, q.some1, fun e1 e2 => ?_, q.next2⟩
      · obtain ⟨b1, b2, b3, b4, _⟩ := q.head e1 e2
        exact ⟨b1, by show (S.th u).hc ≤ S.c + 1; omega, b3, b4, fun e => absurd (show (S.th u).hc = S.c + 1 from e) (by omega)⟩
      · obtain ⟨b1, b2, _⟩ := q.next1 e1 e2
        obtain ⟨_, b4, _⟩ := q.head (.inl e1) (by omega)
        exact ⟨b1, b2, fun e => absurd (show (S.th u).hc = S.c + 1 from e) (by omega)⟩
/-- what all have and what is free: each slot once -/
def haves (S : Sys) : List Int := [(S.th 0).have_, (S.th 1).have_, (S.th 2).have_].filter fun z => decide (z ≠ -1)
theorem Inv.once {S : Sys} {L : List Nat} {i : Int} (h : Inv S L i) : (L.map (fun (s : Nat) => (s : Int)) ++ haves S).Nodup ∧ (L.map (fun (s : Nat) => (s : Int)) ++ haves S).length = 12 ∧ ∀ z ∈ L.map (fun (s : Nat) => (s : Int)) ++ haves S, 0 ≤ z ∧ z ≤ 11 := by
  have a01 := h.apart 0 1 (by omega) (by omega) (by omega)
  have a02 := h.apart 0 2 (by omega) (by omega) (by omega)
  have a12 := h.apart 1 2 (by omega) (by omega) (by omega)
  have o0 := h.own 0 (by omega)
  have o1 := h.own 1 (by omega)
  have o2 := h.own 2 (by omega)
  have v0 := (h.ths 0 (by omega)).hv
  have v1 := (h.ths 1 (by omega)).hv
  have v2 := (h.ths 2 (by omega)).hv
  have hc := h.count
  have hin : ∀ z ∈ haves S, (0 ≤ z ∧ z ≤ 11) ∧ z.toNat ∉ L := fun z hz => by
    unfold haves at hz
    rw [List.mem_filter] at hz
    obtain ⟨hz, hne⟩ := hz
    have hne : z ≠ -1 := of_decide_eq_true hne
    simp only [List.mem_cons, List.not_mem_nil, or_false] at hz
    rcases hz with rfl | rfl | rfl
    · exact ⟨by omega, o0.resolve_left hne⟩
    · exact ⟨by omega, o1.resolve_left hne⟩
    · exact ⟨by omega, o2.resolve_left hne⟩
  refine ⟨?_, ?_, fun z hz => ?_⟩
  · rw [List.nodup_append]
    refine ⟨?_, ?_, fun a ha b hb hab => ?_⟩
    · exact List.Pairwise.map _ (fun a b hab h => hab (Int.ofNat.inj h)) h.nodup
    · unfold haves
      generalize (S.th 0).have_ = p0 at *
      generalize (S.th 1).have_ = p1 at *
      generalize (S.th 2).have_ = p2 at *
      by_cases q0 : p0 = -1 <;> by_cases q1 : p1 = -1 <;> by_cases q2 : p2 = -1 <;> simp_all
    · obtain ⟨s, hs, rfl⟩ := List.mem_map.1 ha
      subst hab
      exact (hin _ hb).2 (by simpa using hs)
  · rw [List.length_append, List.length_map]
    unfold haves
    generalize (S.th 0).have_ = p0 at *
    generalize (S.th 1).have_ = p1 at *
    generalize (S.th 2).have_ = p2 at *
    by_cases q0 : p0 = -1 <;> by_cases q1 : p1 = -1 <;> by_cases q2 : p2 = -1 <;> simp_all
  · rcases List.mem_append.1 hz with hz | hz
    · obtain ⟨s, hs, rfl⟩ := List.mem_map.1 hz
      have := h.lt s hs
      omega
    · exact (hin z hz).1
/- the row that thirteen words tell: the head's, the twelve slots' next ones -/
def maxValue : Int := 1099511627775
def valZ (x : Int) : Option Int := if 0 ≤ x ∧ x % 4 = 0 ∧ x / 4 ≤ maxValue then some (x / 4) else none
def rowGo (W : List Int) : Nat → Int → Option (List Int)
  | n, f => if f = 0 then some [] else match n with
    | 0 => none
    | n + 1 => match valZ (W.getD f.toNat 0) with
      | some v => if v ≤ 12 then (match rowGo W n v with
        | some l => some ((f - 1) :: l)
        | none => none) else none
      | none => none
def rowZ (W : List Int) : Option (List Int) := match valZ (W.getD 0 0) with
  | some v => if v % 16 ≤ 12 ∧ v / 16 ≤ 1073741823 then rowGo W 12 (v % 16) else none
  | none => none
def wordsOf (S : Sys) : List Int := (4 * (16 * S.c + S.f)) :: (List.range 12).map fun j => 4 * S.N j
theorem words_at {S : Sys} {s : Nat} (h : s < 12) : (wordsOf S).getD (s + 1) 0 = 4 * S.N s := by
  unfold wordsOf
  rw [List.getD_cons_succ, List.getD_eq_getElem?_getD, List.getElem?_map, List.getElem?_range h]
  rfl
theorem rowGo_chain {S : Sys} (hn : ∀ s, s < 12 → 0 ≤ S.N s ∧ S.N s ≤ 12) : ∀ {L : List Nat} {f : Int} {n : Nat}, L.length ≤ n → (∀ s ∈ L, s < 12) → Chain S.N f L → rowGo (wordsOf S) n f = some (L.map fun (s : Nat) => (s : Int))
  | [], f, n, _, _, h => by
    have h : f = 0 := h
    unfold rowGo
    rw [if_pos h]
    rfl
  | s :: r, f, 0, hl, _, _ => by simp at hl
  | s :: r, f, n + 1, hl, hlt, h => by
    obtain ⟨h1, h2⟩ := h
    have hs := hlt s List.mem_cons_self
    have hv := hn s hs
    have hval : valZ ((wordsOf S).getD f.toNat 0) = some (S.N s) := by
      rw [show f.toNat = s + 1 by omega, words_at hs]
      unfold valZ maxValue
      rw [if_pos (by omega)]
      congr 1
      omega
    unfold rowGo
    rw [if_neg (by omega)]
    dsimp only
    rw [hval]
    dsimp only
    rw [if_pos hv.2, rowGo_chain hn (by simpa using hl) (fun s h => hlt s (List.mem_cons_of_mem _ h)) h2]
    rw [show f - 1 = (s : Int) by omega]
    rfl
theorem Inv.row {S : Sys} {L : List Nat} {i : Int} (h : Inv S L i) (hi : i ≤ 1000) : rowZ (wordsOf S) = some (L.map fun (s : Nat) => (s : Int)) := by
  have hf := f_in h.chain h.lt
  have h0 := h.c0
  have h1 := h.ci
  have hl : L.length ≤ 12 := by
    have := h.count
    omega
  unfold rowZ
  have hv : valZ ((wordsOf S).getD 0 0) = some (16 * S.c + S.f) := by
    show valZ (4 * (16 * S.c + S.f)) = _
    unfold valZ maxValue
    rw [if_pos (by omega)]
    congr 1
    omega
  rw [hv]
  dsimp only
  rw [if_pos (by omega), show (16 * S.c + S.f) % 16 = S.f by omega]
  exact rowGo_chain h.nx hl h.lt h.chain
theorem rowGo_in {W : List Int} : ∀ {n : Nat} {f : Int} {l : List Int}, 0 ≤ f → f ≤ 12 → rowGo W n f = some l → l.length ≤ n ∧ ∀ z ∈ l, 0 ≤ z ∧ z ≤ 11
  | n, f, l, h0, h1, h => by
    unfold rowGo at h
    by_cases hf : f = 0
    · rw [if_pos hf] at h
      cases h
      exact ⟨Nat.zero_le _, fun _ h => (by cases h)⟩
    · rw [if_neg hf] at h
      cases n with
      | zero => cases h
      | succ n =>
        dsimp only at h
        split at h
        · rename_i v hv
          by_cases h12 : v ≤ 12
          · rw [if_pos h12] at h
            split at h
            · rename_i l' hl
              cases h
              have v0 : 0 ≤ v := by
                unfold valZ at hv
                split at hv
                · cases hv; omega
                · cases hv
              obtain ⟨i1, i2⟩ := rowGo_in v0 h12 hl
              refine ⟨by simpa using i1, fun z hz => ?_⟩
              rcases List.mem_cons.1 hz with rfl | hz
              · omega
              · exact i2 z hz
            · cases h
          · rw [if_neg h12] at h
            cases h
        · cases h
theorem rowZ_in {W : List Int} {l : List Int} (h : rowZ W = some l) : l.length ≤ 12 ∧ ∀ z ∈ l, 0 ≤ z ∧ z ≤ 11 := by
  unfold rowZ at h
  split at h
  · rename_i v hv
    by_cases hc : v % 16 ≤ 12 ∧ v / 16 ≤ 1073741823
    · rw [if_pos hc] at h
      exact rowGo_in (by omega) (by omega) h
    · rw [if_neg hc] at h
      cases h
  · cases h
/-- words of values, of heads -/
def isV (x : Int) : Bool := decide (0 ≤ x ∧ x % 4 = 0 ∧ x / 4 ≤ maxValue)
def numOf (x : Int) : Int := if isV x then x / 4 else 0
def isH (x : Int) : Bool := isV x && decide (numOf x % 16 ≤ 12 ∧ numOf x / 16 ≤ 1073741823)
theorem valZ_eq (x : Int) : valZ x = if isV x then some (numOf x) else none := by
  unfold valZ numOf isV
  by_cases h : 0 ≤ x ∧ x % 4 = 0 ∧ x / 4 ≤ maxValue
  · rw [if_pos h, decide_eq_true h]
    rfl
  · rw [if_neg h, decide_eq_false h]
    rfl
theorem numOf_in (x : Int) : 0 ≤ numOf x ∧ numOf x ≤ maxValue := by
  unfold numOf
  cases h : isV x with
  | false => rw [if_neg Bool.false_ne_true]; unfold maxValue; omega
  | true =>
    rw [if_pos rfl]
    unfold isV at h
    have := of_decide_eq_true h
    omega
def firstOf : List Int → Int
  | [] => 0
  | z :: _ => z + 1
theorem rowGo_first {W : List Int} {n : Nat} {f : Int} {rs : List Int} (h : rowGo W n f = some rs) : f = firstOf rs := by
  unfold rowGo at h
  by_cases hf : f = 0
  · rw [if_pos hf] at h
    cases h
    exact hf
  · rw [if_neg hf] at h
    cases n with
    | zero => cases h
    | succ n =>
      dsimp only at h
      split at h
      · split at h
        · split at h
          · cases h
            show f = f - 1 + 1
            omega
          · cases h
        · cases h
      · cases h
theorem rowGo_cons {W : List Int} {n : Nat} {f z : Int} {rs : List Int} (h : rowGo W n f = some (z :: rs)) :
    f = z + 1 ∧ isV (W.getD f.toNat 0) = true ∧ numOf (W.getD f.toNat 0) ≤ 12 ∧ numOf (W.getD f.toNat 0) = firstOf rs ∧ ∃ k, n = k + 1 ∧ rowGo W k (firstOf rs) = some rs := by
  have hfirst := rowGo_first h
  unfold rowGo at h
  by_cases hf : f = 0
  · rw [if_pos hf] at h
    cases h
  · rw [if_neg hf] at h
    cases n with
    | zero => cases h
    | succ n =>
      dsimp only at h
      rw [valZ_eq] at h
      cases hv : isV (W.getD f.toNat 0) with
      | false => rw [hv] at h; cases h
      | true =>
        rw [hv, if_pos rfl] at h
        dsimp only at h
        by_cases h12 : numOf (W.getD f.toNat 0) ≤ 12
        · rw [if_pos h12] at h
          cases hr : rowGo W n (numOf (W.getD f.toNat 0)) with
          | none => rw [hr] at h; cases h
          | some l =>
            rw [hr] at h
            cases h
            have h2 := rowGo_first hr
            exact ⟨by omega, rfl, h12, h2, n, rfl, by rw [← h2]; exact hr⟩
        · rw [if_neg h12] at h
          cases h
/-- enough steps, and the same words at the slots of the row -/
theorem rowGo_same {W W' : List Int} : ∀ {rs : List Int} {n m : Nat} {f : Int}, rowGo W n f = some rs → rs.length ≤ m → (∀ z ∈ rs, W'.getD (z + 1).toNat 0 = W.getD (z + 1).toNat 0) → rowGo W' m f = some rs
  | [], n, m, f, h, _, _ => by
    have this : f = 0 := rowGo_first h
    cases m <;> (unfold rowGo; rw [if_pos this])
  | z :: rs, n, m, f, h, hm, hs => by
    obtain ⟨h1, h2, h3, h4, k, rfl, h5⟩ := rowGo_cons h
    cases m with
    | zero => simp at hm
    | succ m =>
      have hne : ¬ f = 0 := by
        intro h0
        unfold rowGo at h
        rw [if_pos h0] at h
        cases h
      unfold rowGo
      rw [if_neg hne]
      dsimp only
      have hw : W'.getD f.toNat 0 = W.getD f.toNat 0 := by
        rw [h1]
        exact hs z List.mem_cons_self
      rw [valZ_eq, hw, h2, if_pos rfl]
      dsimp only
      rw [if_pos h3, h4, rowGo_same h5 (by simpa using hm) (fun z hz => hs z (List.mem_cons_of_mem _ hz))]
      rw [show f - 1 = z by omega]
theorem rowZ_head {W rs : List Int} (h : rowZ W = some rs) : isH (W.getD 0 0) = true ∧ numOf (W.getD 0 0) % 16 = firstOf rs ∧ rowGo W 12 (firstOf rs) = some rs := by
  unfold rowZ at h
  rw [valZ_eq] at h
  cases hv : isV (W.getD 0 0) with
  | false => rw [hv] at h; cases h
  | true =>
    rw [hv, if_pos rfl] at h
    dsimp only at h
    by_cases hc : numOf (W.getD 0 0) % 16 ≤ 12 ∧ numOf (W.getD 0 0) / 16 ≤ 1073741823
    · rw [if_pos hc] at h
      have := rowGo_first h
      refine ⟨?_, this, by rw [← this]; exact h⟩
      unfold isH
      rw [hv, decide_eq_true hc]
      rfl
    · rw [if_neg hc] at h
      cases h
theorem rowZ_of {W rs : List Int} {C : Int} (h0 : 0 ≤ C) (h1 : C ≤ 1073741823) (f0 : 0 ≤ firstOf rs) (f1 : firstOf rs ≤ 12) (hw : W.getD 0 0 = 4 * (16 * C + firstOf rs)) (h : rowGo W 12 (firstOf rs) = some rs) : rowZ W = some rs := by
  unfold rowZ
  have hv : valZ (W.getD 0 0) = some (16 * C + firstOf rs) := by
    rw [hw]
    unfold valZ maxValue
    rw [if_pos (by omega)]
    congr 1
    omega
  rw [hv]
  dsimp only
  rw [if_pos (by omega), show (16 * C + firstOf rs) % 16 = firstOf rs by omega]
  exact h
theorem firstOf_in {W rs : List Int} (h : rowZ W = some rs) : 0 ≤ firstOf rs ∧ firstOf rs ≤ 12 := by
  have hin := (rowZ_in h).2
  cases rs with
  | nil => exact ⟨by show (0 : Int) ≤ 0; omega, by show (0 : Int) ≤ 12; omega⟩
  | cons z rs =>
    have := hin z List.mem_cons_self
    exact ⟨by show 0 ≤ z + 1; omega, by show z + 1 ≤ 12; omega⟩
/-- the first slot is popped -/
theorem rowZ_pop {W W' rs : List Int} {z C : Int} (h : rowZ W = some (z :: rs)) (h0 : 0 ≤ C) (h1 : C ≤ 1073741823) (hw : W'.getD 0 0 = 4 * (16 * C + firstOf rs)) (hs : ∀ j, 1 ≤ j → W'.getD j 0 = W.getD j 0) : rowZ W' = some rs := by
  obtain ⟨_, _, hg⟩ := rowZ_head h
  obtain ⟨_, _, _, _, k, hk, h5⟩ := rowGo_cons hg
  have hin := rowZ_in h
  have hlen : rs.length ≤ 12 := by
    have := hin.1
    simp only [List.length_cons] at this
    omega
  have hz : ∀ y ∈ rs, 0 ≤ y ∧ y ≤ 11 := fun y hy => hin.2 y (List.mem_cons_of_mem _ hy)
  have hg2 : rowGo W' 12 (firstOf rs) = some rs := rowGo_same h5 hlen (fun y hy => hs _ (by have := hz y hy; omega))
  refine rowZ_of h0 h1 ?_ ?_ hw hg2
  · cases rs with
    | nil => exact Int.le_refl 0
    | cons y rs => have := hz y List.mem_cons_self; show 0 ≤ y + 1; omega
  · cases rs with
    | nil => show (0 : Int) ≤ 12; omega
    | cons y rs => have := hz y List.mem_cons_self; show y + 1 ≤ 12; omega
/-- a slot is pushed -/
theorem rowZ_push {W W' rs : List Int} {o C : Int} (h : rowZ W = some rs) (h0 : 0 ≤ C) (h1 : C ≤ 1073741823) (o0 : 0 ≤ o) (o1 : o ≤ 11) (hn : o ∉ rs) (hl : rs.length ≤ 11) (hw : W'.getD 0 0 = 4 * (16 * C + (o + 1))) (ho : W'.getD (o + 1).toNat 0 = 4 * firstOf rs)
    (hs : ∀ j, 1 ≤ j → j ≠ (o + 1).toNat → W'.getD j 0 = W.getD j 0) : rowZ W' = some (o :: rs) := by
  obtain ⟨_, _, hg⟩ := rowZ_head h
  have hin := rowZ_in h
  have hf := firstOf_in h
  have hg2 : rowGo W' 11 (firstOf rs) = some rs := rowGo_same hg hl (fun y hy => by
    have := hin.2 y hy
    refine hs _ (by omega) (fun he => hn ?_)
    have : y = o := by omega
    rw [← this]
    exact hy)
  refine rowZ_of (rs := o :: rs) h0 h1 (by show 0 ≤ o + 1; omega) (by show o + 1 ≤ 12; omega) hw ?_
  show rowGo W' 12 (o + 1) = some (o :: rs)
  unfold rowGo
  rw [if_neg (by omega)]
  dsimp only
  have hv : valZ (W'.getD (o + 1).toNat 0) = some (firstOf rs) := by
    rw [ho]
    unfold valZ maxValue
    rw [if_pos (by omega)]
    congr 1
    omega
  rw [hv]
  dsimp only
  rw [if_pos hf.2, hg2]
  rw [show o + 1 - 1 = o by omega]
/-- the ghost of a row and of what is out of it: how many are in the row, the thirteen words, the row, the others -/
def ghostW (xs : List Int) : List Int := (xs.drop 1).take 13
def ghostR (xs : List Int) : List Int := (xs.drop 14).take (xs.headD 0).toNat
def ghostO (xs : List Int) : List Int := (xs.drop 14).drop (xs.headD 0).toNat
def Lent (xs : List Int) : Prop := rowZ (ghostW xs) = some (ghostR xs) ∧ (xs.drop 14).Nodup ∧ (∀ z ∈ xs.drop 14, 0 ≤ z ∧ z ≤ 11) ∧ (xs.drop 14).length = 12
theorem chain_congr {N N' : Nat → Int} : ∀ {L : List Nat} {f : Int}, (∀ s ∈ L, N' s = N s) → Chain N f L → Chain N' f L
  | [], _, _, h => h
  | s :: r, f, hn, h => by
    obtain ⟨h1, h2⟩ := h
    refine ⟨h1, ?_⟩
    show Chain N' (N' s) r
    rw [hn s List.mem_cons_self]
    exact chain_congr (fun s hs => hn s (List.mem_cons_of_mem _ hs)) h2
theorem ThOk.congr {S S' : Sys} {t : Th} (hc : S'.c = S.c) (hf : S'.f = S.f) (hn : ∀ s, s < 12 → S'.N s = S.N s) (h : ThOk S t) : ThOk S' t := by
  refine ⟨h.hv, h.pop, h.push, fun a b => by rw [hc, hf]; exact h.head a b, h.some1, fun a b => ?_, fun a b => ?_⟩
  · obtain ⟨h1, h2, h3⟩ := h.next1 a b
    have h4 := h.some1 a (by omega)
    obtain ⟨_, _, _, h5, _⟩ := h.head (.inl a) (by omega)
    rw [hc, hn _ (by omega)]
    exact ⟨h1, h2, h3⟩
  · have h4 := h.push a
    have h5 := h.hv
    rw [hn _ (by omega)]
    exact h.next2 a b
theorem Inv.congr {S S' : Sys} {L : List Nat} {i : Int} (hc : S'.c = S.c) (hf : S'.f = S.f) (hn : ∀ s, s < 12 → S'.N s = S.N s) (ht : ∀ t, t < 3 → S'.th t = S.th t) (h : Inv S L i) : Inv S' L i := by
  refine ⟨?_, h.nodup, h.lt, fun t k => by rw [ht t k]; exact h.own t k, fun t u k l e => by rw [ht t k, ht u l]; exact h.apart t u k l e, by rw [ht 0 (by omega), ht 1 (by omega), ht 2 (by omega)]; exact h.count, by rw [hc]; exact h.c0, by rw [hc]; exact h.ci, fun s k => by rw [hn s k]; exact h.nx s k, fun t k => by rw [ht t k]; exact (h.ths t k).congr hc hf hn⟩
  rw [hf]
  exact chain_congr (fun s hs => hn s (h.lt s hs)) h.chain
/- a run of three threads, as a row of numbers: the step, the thirteen words, each thread's six -/
def thL (l : List Int) : Th := ⟨l.getD 0 0, l.getD 1 0, l.getD 2 0, l.getD 3 0, l.getD 4 0, l.getD 5 0⟩
structure Row3 where
  i : Int
  W : List Int
  T : Nat → List Int
def sysR (R : Row3) : Sys := { c := (R.W.getD 0 0) / 64, f := (R.W.getD 0 0) % 64 / 4, N := fun s => (R.W.getD (s + 1) 0) / 4, th := fun t => thL (R.T t) }
structure RunOk (R : Row3) (L : List Nat) : Prop where
  len : R.W.length = 13
  w0 : R.W.getD 0 0 = 4 * (16 * (sysR R).c + (sysR R).f)
  wn : ∀ s, s < 12 → R.W.getD (s + 1) 0 = 4 * (sysR R).N s
  le : R.i ≤ 1000
  inv : Inv (sysR R) L R.i
theorem RunOk.words {R : Row3} {L : List Nat} (h : RunOk R L) : wordsOf (sysR R) = R.W := by
  refine List.ext_getElem? fun j => ?_
  by_cases hj : j < 13
  · have e1 : R.W[j]? = some (R.W.getD j 0) := by
      rw [List.getD_eq_getElem?_getD, List.getElem?_eq_getElem (by rw [h.len]; exact hj)]
      rfl
    rw [e1]
    cases j with
    | zero => rw [h.w0]; rfl
    | succ s =>
      have hs : s < 12 := by omega
      rw [h.wn s hs]
      unfold wordsOf
      rw [List.getElem?_cons_succ, List.getElem?_map, List.getElem?_range hs]
      rfl
  · rw [List.getElem?_eq_none (by unfold wordsOf; simp; omega), List.getElem?_eq_none (by rw [h.len]; omega)]
theorem RunOk.row {R : Row3} {L : List Nat} (h : RunOk R L) : rowZ R.W = some (L.map fun (s : Nat) => (s : Int)) := by
  rw [← h.words]
  exact h.inv.row h.le
theorem RunOk.w_in {R : Row3} {L : List Nat} (h : RunOk R L) : 0 ≤ (sysR R).c ∧ (sysR R).c ≤ R.i ∧ 0 ≤ (sysR R).f ∧ (sysR R).f ≤ 12 := by
  have := f_in h.inv.chain h.inv.lt
  exact ⟨h.inv.c0, h.inv.ci, this.1, this.2⟩
/-- the head's word: its count, its first -/
theorem RunOk.head {R : Row3} {L : List Nat} (h : RunOk R L) : isH (R.W.getD 0 0) = true ∧ numOf (R.W.getD 0 0) / 16 = (sysR R).c ∧ numOf (R.W.getD 0 0) % 16 = (sysR R).f := by
  obtain ⟨a, b, c, d⟩ := h.w_in
  have hle := h.le
  have hw := h.w0
  generalize (sysR R).c = cc at *
  generalize (sysR R).f = ff at *
  have hv : isV (R.W.getD 0 0) = true := by
    unfold isV maxValue
    refine decide_eq_true ?_
    omega
  have hn : numOf (R.W.getD 0 0) = 16 * cc + ff := by
    unfold numOf
    rw [hv, if_pos rfl]
    omega
  refine ⟨?_, by rw [hn]; omega, by rw [hn]; omega⟩
  unfold isH
  rw [hv, hn]
  exact decide_eq_true (by omega)
theorem RunOk.next {R : Row3} {L : List Nat} (h : RunOk R L) {s : Nat} (hs : s < 12) : isV (R.W.getD (s + 1) 0) = true ∧ numOf (R.W.getD (s + 1) 0) = (sysR R).N s ∧ 0 ≤ (sysR R).N s ∧ (sysR R).N s ≤ 12 := by
  have hw := h.wn s hs
  have hn := h.inv.nx s hs
  generalize (sysR R).N s = x at *
  have hv : isV (R.W.getD (s + 1) 0) = true := by
    unfold isV maxValue
    refine decide_eq_true ?_
    omega
  refine ⟨hv, ?_, hn⟩
  unfold numOf
  rw [hv, if_pos rfl]
  omega
/-- a step of a thread alone -/
theorem RunOk.own {R R' : Row3} {L : List Nat} (h : RunOk R L) {t : Nat} (ht : t < 3) (hi : R'.i = R.i + 1) (hle : R'.i ≤ 1000) (hW : R'.W = R.W) (ho : ∀ u, u < 3 → u ≠ t → R'.T u = R.T u) (hv : (thL (R'.T t)).have_ = (thL (R.T t)).have_) (hx : ThOk (sysR R) (thL (R'.T t))) : RunOk R' L := by
  have hc : (sysR R').c = (sysR R).c := by unfold sysR; rw [hW]
  have hf : (sysR R').f = (sysR R).f := by unfold sysR; rw [hW]
  have hN : ∀ s, (sysR R').N s = (sysR R).N s := fun s => by unfold sysR; rw [hW]
  refine ⟨by rw [hW]; exact h.len, by rw [hc, hf, hW]; exact h.w0, fun s k => by rw [hN, hW]; exact h.wn s k, hle, ?_⟩
  rw [hi]
  refine Inv.congr (S := (sysR R).set t (thL (R'.T t))) (S' := sysR R') hc hf (fun s _ => hN s) (fun u hu => ?_) (h.inv.own_step ht (x := thL (R'.T t)) hv hx)
  show thL (R'.T u) = if u = t then thL (R'.T t) else thL (R.T u)
  by_cases hut : u = t
  · rw [if_pos hut, hut]
  · rw [if_neg hut, ho u hu hut]
/-- the head is turned: a pop gets its slot, or a push hands its slot over -/
theorem RunOk.turned {R R' : Row3} {L : List Nat} (h : RunOk R L) {t : Nat} (_ht : t < 3) {c f : Int} (hi : R'.i = R.i + 1) (hle : R'.i ≤ 1000) (hw0 : R'.W.getD 0 0 = 4 * (16 * (c + 1) + f)) (_hc0 : 0 ≤ c) (hf0 : 0 ≤ f) (hf1 : f ≤ 12) (hc : c = (sysR R).c) (hl : R'.W.length = 13)
    (hW : ∀ j, 1 ≤ j → R'.W.getD j 0 = R.W.getD j 0) (ho : ∀ u, u < 3 → u ≠ t → R'.T u = R.T u) {L' : List Nat} (hinv : Inv { (sysR R).set t (thL (R'.T t)) with c := (sysR R).c + 1, f := f } L' (R.i + 1)) : RunOk R' L' := by
  have e1 : (sysR R').c = (sysR R).c + 1 := by
    show (R'.W.getD 0 0) / 64 = _
    rw [hw0]
    omega
  have e2 : (sysR R').f = f := by
    show (R'.W.getD 0 0) % 64 / 4 = _
    rw [hw0]
    omega
  have e3 : ∀ s, (sysR R').N s = (sysR R).N s := fun s => by
    show (R'.W.getD (s + 1) 0) / 4 = (R.W.getD (s + 1) 0) / 4
    rw [hW (s + 1) (by omega)]
  refine ⟨hl, by rw [e1, e2, hw0]; omega, fun s k => by rw [e3, hW (s + 1) (by omega)]; exact h.wn s k, hle, ?_⟩
  rw [hi]
  refine Inv.congr (S := { (sysR R).set t (thL (R'.T t)) with c := (sysR R).c + 1, f := f }) (S' := sysR R') e1 e2 (fun s _ => e3 s) (fun u hu => ?_) hinv
  show thL (R'.T u) = if u = t then thL (R'.T t) else thL (R.T u)
  by_cases hut : u = t
  · rw [if_pos hut, hut]
  · rw [if_neg hut, ho u hu hut]
theorem RunOk.popped {R R' : Row3} {L : List Nat} (h : RunOk R L) {t : Nat} (ht : t < 3) (hm : (thL (R.T t)).mode = 1) (hp : (thL (R.T t)).pc = 2) (hw : R.W.getD 0 0 = 4 * (16 * (thL (R.T t)).hc + (thL (R.T t)).hf)) (hi : R'.i = R.i + 1) (hle : R'.i ≤ 1000)
    (hw0 : R'.W.getD 0 0 = 4 * (16 * ((thL (R.T t)).hc + 1) + (thL (R.T t)).x)) (hl : R'.W.length = 13) (hW : ∀ j, 1 ≤ j → R'.W.getD j 0 = R.W.getD j 0) (ho : ∀ u, u < 3 → u ≠ t → R'.T u = R.T u) (hv : (thL (R'.T t)).have_ = (thL (R.T t)).hf - 1) (hx : (thL (R'.T t)).mode = 0) : ∃ L', RunOk R' L' := by
  have k := h.inv.ths t ht
  obtain ⟨a1, a2, a3, a4, a5⟩ := k.head (.inl hm) (by show 1 ≤ (thL (R.T t)).pc; omega)
  obtain ⟨b1, b2, b3⟩ := k.next1 hm hp
  obtain ⟨c1, c2, c3, c4⟩ := h.w_in
  have hw' := h.w0
  have a1 : 0 ≤ (thL (R.T t)).hc := a1
  have a3 : 0 ≤ (thL (R.T t)).hf := a3
  have a4 : (thL (R.T t)).hf ≤ 12 := a4
  have hc : (thL (R.T t)).hc = (sysR R).c := by omega
  obtain ⟨L', hinv⟩ := h.inv.popped ht (x := thL (R'.T t)) hm hp hc hv hx
  exact ⟨L', h.turned ht hi hle hw0 a1 b1 b2 hc hl hW ho hinv⟩
theorem RunOk.pushed {R R' : Row3} {L : List Nat} (h : RunOk R L) {t : Nat} (ht : t < 3) (hm : (thL (R.T t)).mode = 2) (hp : (thL (R.T t)).pc = 2) (hw : R.W.getD 0 0 = 4 * (16 * (thL (R.T t)).hc + (thL (R.T t)).hf)) (hi : R'.i = R.i + 1) (hle : R'.i ≤ 1000)
    (hw0 : R'.W.getD 0 0 = 4 * (16 * ((thL (R.T t)).hc + 1) + ((thL (R.T t)).have_ + 1))) (hl : R'.W.length = 13) (hW : ∀ j, 1 ≤ j → R'.W.getD j 0 = R.W.getD j 0) (ho : ∀ u, u < 3 → u ≠ t → R'.T u = R.T u) (hv : (thL (R'.T t)).have_ = -1) (hx : (thL (R'.T t)).mode = 0) : ∃ L', RunOk R' L' := by
  have k := h.inv.ths t ht
  obtain ⟨a1, a2, a3, a4, a5⟩ := k.head (.inr hm) (by show 1 ≤ (thL (R.T t)).pc; omega)
  obtain ⟨c1, c2, c3, c4⟩ := h.w_in
  have hw' := h.w0
  have a1 : 0 ≤ (thL (R.T t)).hc := a1
  have a3 : 0 ≤ (thL (R.T t)).hf := a3
  have a4 : (thL (R.T t)).hf ≤ 12 := a4
  have hc : (thL (R.T t)).hc = (sysR R).c := by omega
  have hv0 : 0 ≤ (thL (R.T t)).have_ := k.push hm
  have hv1 : (thL (R.T t)).have_ = -1 ∨ (0 ≤ (thL (R.T t)).have_ ∧ (thL (R.T t)).have_ ≤ 11) := k.hv
  obtain ⟨L', hinv⟩ := h.inv.pushed ht (x := thL (R'.T t)) hm hp hc hv hx
  exact ⟨L', h.turned ht hi hle hw0 a1 (by omega) (by omega) hc hl hW ho hinv⟩
theorem RunOk.stored {R R' : Row3} {L : List Nat} (h : RunOk R L) {t : Nat} (ht : t < 3) (hm : (thL (R.T t)).mode = 2) (hp : (thL (R.T t)).pc = 1) (hi : R'.i = R.i + 1) (hle : R'.i ≤ 1000) (hl : R'.W.length = 13) (hw0 : R'.W.getD 0 0 = R.W.getD 0 0)
    (hW : ∀ s, s < 12 → R'.W.getD (s + 1) 0 = if s = (thL (R.T t)).have_.toNat then 4 * (thL (R.T t)).hf else R.W.getD (s + 1) 0) (ho : ∀ u, u < 3 → u ≠ t → R'.T u = R.T u) (hx : thL (R'.T t) = { thL (R.T t) with pc := 2 }) : RunOk R' L := by
  have k := h.inv.ths t ht
  obtain ⟨a1, a2, a3, a4, a5⟩ := k.head (.inr hm) (by show 1 ≤ (thL (R.T t)).pc; omega)
  have e1 : (sysR R').c = (sysR R).c := by unfold sysR; rw [hw0]
  have e2 : (sysR R').f = (sysR R).f := by unfold sysR; rw [hw0]
  have e3 : ∀ s, s < 12 → (sysR R').N s = if s = (thL (R.T t)).have_.toNat then (thL (R.T t)).hf else (sysR R).N s := fun s hs => by
    show (R'.W.getD (s + 1) 0) / 4 = if s = _ then _ else (R.W.getD (s + 1) 0) / 4
    rw [hW s hs]
    split
    · omega
    · rfl
  refine ⟨hl, by rw [e1, e2, hw0]; exact h.w0, fun s hs => ?_, hle, ?_⟩
  · rw [e3 s hs, hW s hs]
    split
    · rfl
    · exact h.wn s hs
  · rw [hi]
    refine Inv.congr (S := { (sysR R).set t (thL (R'.T t)) with N := fun s => if s = ((sysR R).th t).have_.toNat then ((sysR R).th t).hf else (sysR R).N s }) (S' := sysR R') e1 e2 (fun s hs => e3 s hs) (fun u hu => ?_) (h.inv.stored ht hm hp (x := thL (R'.T t)) hx)
    show thL (R'.T u) = if u = t then thL (R'.T t) else thL (R.T u)
    by_cases hut : u = t
    · rw [if_pos hut, hut]
    · rw [if_neg hut, ho u hu hut]
theorem RunOk.congr {R R' : Row3} {L : List Nat} (hi : R'.i = R.i) (hW : R'.W = R.W) (hT : ∀ t, t < 3 → R'.T t = R.T t) (h : RunOk R L) : RunOk R' L := by
  have hc : (sysR R').c = (sysR R).c := by unfold sysR; rw [hW]
  have hf : (sysR R').f = (sysR R).f := by unfold sysR; rw [hW]
  have hN : ∀ s, (sysR R').N s = (sysR R).N s := fun s => by unfold sysR; rw [hW]
  refine ⟨by rw [hW]; exact h.len, by rw [hc, hf, hW]; exact h.w0, fun s k => by rw [hN, hW]; exact h.wn s k, by rw [hi]; exact h.le, ?_⟩
  rw [hi]
  exact Inv.congr (S := sysR R) (S' := sysR R') hc hf (fun s _ => hN s) (fun t ht => by show thL (R'.T t) = thL (R.T t); rw [hT t ht]) h.inv
/-- the same as one list: the step, the thirteen words, each thread's six -/
def rowOf (xs : List Int) : Row3 := ⟨xs.headD 0, (xs.drop 1).take 13, fun t => (xs.drop (14 + 6 * t)).take 6⟩
def Run (xs : List Int) : Prop := xs.length = 32 ∧ ∃ L, RunOk (rowOf xs) L
def Once (xs : List Int) : Prop := xs.Nodup ∧ xs.length = 12 ∧ ∀ z ∈ xs, 0 ≤ z ∧ z ≤ 11
/-- the unknown functions, as numbers -/
noncomputable def fz (f : Nat) (xs : List Int) : Int :=
  if f = 700 then (match rowZ xs with | some l => l.length | none => -1)
  else if 701 ≤ f ∧ f ≤ 712 then (match rowZ xs with | some l => l.getD (f - 701) 0 | none => 0)
  else if f = 715 then (if isV (xs.headD 0) then 1 else 0)
  else if f = 716 then numOf (xs.headD 0)
  else if f = 717 then (if isH (xs.headD 0) then 1 else 0)
  else if f = 720 then numOf (xs.headD 0) % 16
  else if f = 721 then numOf (xs.headD 0) / 16
  else if f = 750 then @ite Int (Run xs) (Classical.propDecidable _) 1 0
  else if f = 751 then @ite Int (Once xs) (Classical.propDecidable _) 1 0
  else if f = 760 then @ite Int (Lent xs) (Classical.propDecidable _) 1 0
  else 0
end Go.FreeInv
