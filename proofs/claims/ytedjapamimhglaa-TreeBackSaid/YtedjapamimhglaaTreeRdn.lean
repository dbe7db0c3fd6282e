/-
  Layer 5 (tree), numbers alone: a symbol read by its code, bit by bit.
-/
import Derived.Test.YtedjapamimhglaaTreeNum
import Derived.Test.YtedjapamimhglaaBitMem
namespace Go.Proofs.Ytedjapamimhglaa
/-- The number of n bits from a place on, the first the highest. -/
def bvN (g : Nat → Nat) (at_ : Nat) : Nat → Nat
  | 0 => 0
  | n + 1 => 2 * bvN g at_ n + bitAt g (at_ + n)
theorem bvN_lt (g : Nat → Nat) (at_ : Nat) : ∀ n, bvN g at_ n < 2 ^ n
  | 0 => by simp [bvN]
  | n + 1 => by
    have h1 := bvN_lt g at_ n
    have h2 := bitAt_lt g (at_ + n)
    simp only [bvN, Nat.pow_succ]; omega
/-- Is v, of n bits, the code of symbol i? Does the code of symbol i begin with it, and go on? -/
def isB (f : Nat → Nat) (N v n i : Nat) : Bool := decide (0 < n ∧ f i = n ∧ codeB f N i = v)
def onB (f : Nat → Nat) (N v n i : Nat) : Bool := decide (n < f i ∧ codeB f N i / 2 ^ (f i - n) = v)
/-- The first symbol below k whose code it is; does one below k go on? -/
def fndN (f : Nat → Nat) (N v n : Nat) : Nat → Option Nat
  | 0 => none
  | k + 1 => match fndN f N v n k with
    | some i => some i
    | none => if isB f N v n k = true then some k else none
def morN (f : Nat → Nat) (N v n : Nat) : Nat → Bool
  | 0 => false
  | k + 1 => morN f N v n k || onB f N v n k
theorem fndN_some {f : Nat → Nat} {N v n i : Nat} : ∀ {k}, fndN f N v n k = some i → i < k ∧ isB f N v n i = true
  | 0, h => by cases h
  | k + 1, h => by
    simp only [fndN] at h
    cases hk : fndN f N v n k with
    | some j => rw [hk] at h; injection h with h; subst h; have := fndN_some hk; exact ⟨by omega, this.2⟩
    | none =>
      rw [hk] at h
      by_cases hb : isB f N v n k = true
      · simp only [hb, if_true] at h; injection h with h; subst h; exact ⟨by omega, hb⟩
      · simp only [if_neg hb] at h; cases h
theorem fndN_none {f : Nat → Nat} {N v n : Nat} : ∀ {k}, fndN f N v n k = none ↔ ∀ i, i < k → isB f N v n i = false
  | 0 => ⟨fun _ i hi => absurd hi (by omega), fun _ => rfl⟩
  | k + 1 => by
    simp only [fndN]
    constructor
    · intro h
      cases hk : fndN f N v n k with
      | some j => rw [hk] at h; cases h
      | none =>
        rw [hk] at h
        intro i hi
        rcases Nat.eq_or_lt_of_le (Nat.le_of_lt_succ hi) with e | e
        · subst e
          cases hb : isB f N v n i with
          | false => rfl
          | true => simp [hb] at h
        · exact fndN_none.1 hk i e
    · intro h
      rw [fndN_none.2 (fun i hi => h i (by omega))]
      simp [h k (by omega)]
theorem morN_true {f : Nat → Nat} {N v n : Nat} : ∀ {k}, morN f N v n k = true ↔ ∃ i, i < k ∧ onB f N v n i = true
  | 0 => ⟨fun h => by simp [morN] at h, fun ⟨_, h, _⟩ => absurd h (by omega)⟩
  | k + 1 => by
    simp only [morN, Bool.or_eq_true]
    rw [morN_true]
    constructor
    · rintro (⟨i, hi, h⟩ | h)
      · exact ⟨i, by omega, h⟩
      · exact ⟨k, by omega, h⟩
    · rintro ⟨i, hi, h⟩
      rcases Nat.eq_or_lt_of_le (Nat.le_of_lt_succ hi) with e | e
      · subst e; exact .inr h
      · exact .inl ⟨i, e, h⟩
theorem fndN_keep {f : Nat → Nat} {N v n j : Nat} (h : fndN f N v n j = none) (hb : isB f N v n j = true) : ∀ k, j < k → fndN f N v n k = some j
  | 0, hk => absurd hk (by omega)
  | k + 1, hk => by
    simp only [fndN]
    rcases Nat.eq_or_lt_of_le (Nat.le_of_lt_succ hk) with e | e
    · subst e; rw [h]; simp [hb]
    · rw [fndN_keep h hb k e]
theorem fndN_more {f : Nat → Nat} {N v n j : Nat} (h : fndN f N v n j = none) (hb : isB f N v n j = false) : fndN f N v n (j + 1) = none := by
  simp only [fndN]; rw [h]; simp [hb]
/-- What is read from a place on when n bits are: the symbol, the place behind it, the error. -/
def readR (f : Nat → Nat) (N : Nat) (g : Nat → Nat) (l at_ : Nat) : Nat → Nat → Nat × Nat × Int
  | 0, _ => (0, 0, 50)
  | fuel + 1, n => match fndN f N (bvN g at_ n) n N with
    | some i => (i, at_ + n, 0)
    | none => if morN f N (bvN g at_ n) n N = false then (0, 0, 50) else if 8 * l ≤ at_ + n then (0, 0, 10) else readR f N g l at_ fuel (n + 1)
theorem mor_last {f : Nat → Nat} {N v n : Nat} (h : ∀ i, i < N → f i ≤ 15) (hn : 15 ≤ n) : morN f N v n N = false := by
  cases hm : morN f N v n N with
  | false => rfl
  | true =>
    obtain ⟨i, hi, hb⟩ := morN_true.1 hm
    have := (of_decide_eq_true hb).1
    have := h i hi
    omega
end Go.Proofs.Ytedjapamimhglaa
