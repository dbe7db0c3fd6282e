/-
  Layer 7 (match), numbers alone: how many bytes match; the best match.
-/
import Derived.Test.YtihfcjehpmiolaaBase
namespace Go.Proofs.Ytihfcjehpmiolaa
/-- How many bytes match from n on, d at most. -/
def samN (f : Nat → Nat) (L a p : Nat) : Nat → Nat → Nat
  | 0, n => n
  | d + 1, n => if a + n < L ∧ f (p + n) = f (a + n) then samN f L a p d (n + 1) else n
def matN (f : Nat → Nat) (L a p : Nat) : Nat := samN f L a p 258 0
theorem samN_spec (f : Nat → Nat) (L a p : Nat) : ∀ d n, n ≤ samN f L a p d n ∧ samN f L a p d n ≤ n + d ∧ (∀ i, n ≤ i → i < samN f L a p d n → a + i < L ∧ f (p + i) = f (a + i)) ∧
    (samN f L a p d n = n + d ∨ ¬ (a + samN f L a p d n < L ∧ f (p + samN f L a p d n) = f (a + samN f L a p d n)))
  | 0, n => by
    simp only [samN]
    exact ⟨Nat.le_refl _, Nat.le_refl _, fun i h1 h2 => by omega, .inl rfl⟩
  | d + 1, n => by
    simp only [samN]
    by_cases h : a + n < L ∧ f (p + n) = f (a + n)
    · rw [if_pos h]
      obtain ⟨h1, h2, h3, h4⟩ := samN_spec f L a p d (n + 1)
      refine ⟨by omega, by omega, fun i hi hlt => ?_, ?_⟩
      · rcases Nat.eq_or_lt_of_le hi with e | e
        · subst e; exact h
        · exact h3 i (by omega) hlt
      · rcases h4 with h4 | h4
        · left; omega
        · exact .inr h4
    · rw [if_neg h]
      exact ⟨Nat.le_refl _, by omega, fun i h1 h2 => by omega, .inr h⟩
/-- What is told of a number of bytes that match. -/
theorem samN_one {f : Nat → Nat} {L a p d n m : Nat} (h1 : n ≤ m) (h2 : m ≤ n + d) (h3 : ∀ i, n ≤ i → i < m → a + i < L ∧ f (p + i) = f (a + i)) (h4 : m = n + d ∨ ¬ (a + m < L ∧ f (p + m) = f (a + m))) : samN f L a p d n = m := by
  obtain ⟨g1, g2, g3, g4⟩ := samN_spec f L a p d n
  rcases Nat.lt_trichotomy (samN f L a p d n) m with h | h | h
  · have := h3 _ g1 h
    rcases g4 with g4 | g4
    · omega
    · exact absurd this g4
  · exact h
  · have := g3 _ h1 h
    rcases h4 with h4 | h4
    · omega
    · exact absurd this h4
theorem matN_spec (f : Nat → Nat) (L a p : Nat) : matN f L a p ≤ 258 ∧ (∀ i, i < matN f L a p → a + i < L ∧ f (p + i) = f (a + i)) ∧ (matN f L a p = 258 ∨ ¬ (a + matN f L a p < L ∧ f (p + matN f L a p) = f (a + matN f L a p))) := by
  obtain ⟨_, h2, h3, h4⟩ := samN_spec f L a p 258 0
  exact ⟨by unfold matN; omega, fun i hi => h3 i (Nat.zero_le _) hi, by
    unfold matN
    rcases h4 with h | h
    · exact .inl (by omega)
    · exact .inr h⟩
theorem matN_end {f : Nat → Nat} {L a p : Nat} (h : a ≤ L) : a + matN f L a p ≤ L := by
  obtain ⟨_, h3, _⟩ := matN_spec f L a p
  rcases Nat.eq_zero_or_pos (matN f L a p) with e | e
  · omega
  · have := (h3 (matN f L a p - 1) (by omega)).1; omega
/-- Bytes behind what matches, and one more, count for nothing. -/
theorem matN_alone {f g : Nat → Nat} {L M a p : Nat} (hp : p < a) (hend : a + matN f L a p < L ∨ matN f L a p = 258) (ha : a ≤ L) (hM : min (a + matN f L a p + 1) L ≤ M) (he : ∀ i, i < min (a + matN f L a p + 1) L → g i = f i) : matN g M a p = matN f L a p := by
  obtain ⟨h2, h3, h4⟩ := matN_spec f L a p
  have hE := matN_end (f := f) (p := p) ha
  refine samN_one (Nat.zero_le _) (by omega) (fun i _ hi => ?_) ?_
  · have := h3 i hi
    rw [he (p + i) (by omega), he (a + i) (by omega)]
    exact ⟨by omega, this.2⟩
  · rcases h4 with h4 | h4
    · left; omega
    · rcases hend with h | h
      · right
        intro hh
        refine h4 ⟨h, ?_⟩
        rw [← he (p + _) (by omega), ← he (a + _) (by omega)]
        exact hh.2
      · left; omega
/-! ### the best match -/
/-- The best of the places below p, so many at most, behind one that was found. -/
def bstN (f : Nat → Nat) (L a size : Nat) : Nat → Nat → Nat → Nat → Nat × Nat
  | 0, _, d, n => (d, n)
  | p + 1, c, d, n => if a - p ≤ size ∧ 0 < c then
      (if matN f L a p < 3 then bstN f L a size p c d n else if n < matN f L a p then bstN f L a size p (c - 1) (a - p) (matN f L a p) else bstN f L a size p (c - 1) d n)
    else (d, n)
/-- What holds of what is found. -/
def FndN (f : Nat → Nat) (L a size d n : Nat) : Prop := (d = 0 ∧ n = 0) ∨ (1 ≤ d ∧ d ≤ size ∧ d ≤ a ∧ 3 ≤ n ∧ n = matN f L a (a - d))
theorem bstN_found {f : Nat → Nat} {L a size : Nat} : ∀ p c d n, p ≤ a → FndN f L a size d n → FndN f L a size (bstN f L a size p c d n).1 (bstN f L a size p c d n).2
  | 0, _, _, _, _, h => h
  | p + 1, c, d, n, hp, h => by
    simp only [bstN]
    split
    · rename_i hc
      split
      · exact bstN_found p c d n (by omega) h
      · rename_i hm
        split
        · refine bstN_found p (c - 1) _ _ (by omega) (.inr ⟨by omega, hc.1, by omega, by omega, ?_⟩)
          rw [show a - (a - p) = p by omega]
        · exact bstN_found p (c - 1) d n (by omega) h
    · exact h
theorem bstN_ge {f : Nat → Nat} {L a size : Nat} : ∀ p c d n, n ≤ (bstN f L a size p c d n).2
  | 0, _, _, n => Nat.le_refl n
  | p + 1, c, d, n => by
    simp only [bstN]
    split
    · split
      · exact bstN_ge p c d n
      · split
        · exact Nat.le_trans (by omega) (bstN_ge p (c - 1) _ _)
        · exact bstN_ge p (c - 1) d n
    · exact Nat.le_refl n
/-- A longer chain, a larger window: nothing shorter. -/
theorem bstN_more {f : Nat → Nat} {L a s s' : Nat} (hs : s ≤ s') : ∀ p c c' d d' n n', c ≤ c' → n ≤ n' → (bstN f L a s p c d n).2 ≤ (bstN f L a s' p c' d' n').2
  | 0, _, _, _, _, _, _, _, h => h
  | p + 1, c, c', d, d', n, n', hc, hn => by
    simp only [bstN]
    by_cases h1 : a - p ≤ s ∧ 0 < c
    · have h1' : a - p ≤ s' ∧ 0 < c' := ⟨by omega, by omega⟩
      rw [if_pos h1, if_pos h1']
      by_cases h2 : matN f L a p < 3
      · rw [if_pos h2, if_pos h2]; exact bstN_more hs p c c' d d' n n' hc hn
      · rw [if_neg h2, if_neg h2]
        by_cases h3 : n < matN f L a p
        · rw [if_pos h3]
          by_cases h4 : n' < matN f L a p
          · rw [if_pos h4]; exact bstN_more hs p (c - 1) (c' - 1) _ _ _ _ (by omega) (Nat.le_refl _)
          · rw [if_neg h4]; exact bstN_more hs p (c - 1) (c' - 1) _ _ _ _ (by omega) (by omega)
        · rw [if_neg h3]
          by_cases h4 : n' < matN f L a p
          · rw [if_pos h4]; exact bstN_more hs p (c - 1) (c' - 1) _ _ _ _ (by omega) (by omega)
          · rw [if_neg h4]; exact bstN_more hs p (c - 1) (c' - 1) _ _ _ _ (by omega) hn
    · rw [if_neg h1]
      refine Nat.le_trans hn ?_
      exact bstN_ge (f := f) (L := L) (a := a) (size := s') (p + 1) c' d' n'
/-- With a chain that never ends: none of the places is longer. -/
theorem bstN_all {f : Nat → Nat} {L a s q : Nat} (hq : 3 ≤ matN f L a q) (hs : a - q ≤ s) : ∀ p c d n, q < p → p ≤ c → matN f L a q ≤ (bstN f L a s p c d n).2
  | 0, _, _, _, h, _ => absurd h (by omega)
  | p + 1, c, d, n, h, hc => by
    simp only [bstN]
    rw [if_pos ⟨by omega, by omega⟩]
    rcases Nat.eq_or_lt_of_le (Nat.le_of_lt_succ h) with e | e
    · subst e
      rw [if_neg (by omega)]
      split
      · exact bstN_ge q (c - 1) _ _
      · exact Nat.le_trans (by omega) (bstN_ge q (c - 1) d n)
    · split
      · exact bstN_all hq hs p c d n e (by omega)
      · split
        · exact bstN_all hq hs p (c - 1) _ _ e (by omega)
        · exact bstN_all hq hs p (c - 1) d n e (by omega)
end Go.Proofs.Ytihfcjehpmiolaa
