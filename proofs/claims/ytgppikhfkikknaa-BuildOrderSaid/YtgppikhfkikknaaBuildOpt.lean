/-
  Layer 4 (build), numbers alone: no other lengths cost less.
-/
import Derived.Test.YtgppikhfkikknaaBuildNum
namespace Go.Proofs.Ytgppikhfkikknaa
/-! ### what any choice of items for each row weighs -/
def selN (c : Nat → Bool) : Nat → Nat
  | 0 => 0
  | n + 1 => selN c n + if c n = true then 1 else 0
def selW (w : Nat → Nat) (c : Nat → Bool) : Nat → Nat
  | 0 => 0
  | n + 1 => selW w c n + if c n = true then w n else 0
theorem selN_le (c : Nat → Bool) : ∀ n, selN c n ≤ n
  | 0 => Nat.le_refl _
  | n + 1 => by have := selN_le c n; simp only [selN]; split <;> omega
theorem sel_min {w : Nat → Nat} (c : Nat → Bool) : ∀ n t, Sorted n w → t ≤ selN c n → sm w t ≤ selW w c n
  | 0, t, _, h => by rw [show t = 0 by simp only [selN] at h; omega]; exact Nat.le_refl _
  | n + 1, t, hw, h => by
    have hw' : Sorted n w := fun i j h1 h2 => hw i j h1 (by omega)
    simp only [selN, selW] at h ⊢
    by_cases hc : c n = true
    · rw [if_pos hc] at h ⊢
      by_cases ht : t ≤ selN c n
      · have := sel_min c n t hw' ht; omega
      · obtain ⟨s, rfl⟩ : ∃ s, t = s + 1 := ⟨t - 1, by omega⟩
        have h1 := sel_min c n s hw' (by omega)
        have h2 := selN_le c n
        have h3 := hw s n (by omega) (by omega)
        simp only [sm]; omega
    · rw [if_neg hc] at h ⊢
      have := sel_min c n t hw' (by omega); omega
/-- How many parcels of row k + 1 a choice pays for; what it weighs. -/
def capc (n : Nat) (c : Nat → Nat → Bool) : Nat → Nat
  | 0 => selN (c 0) n
  | k + 1 => selN (c (k + 1)) n + capc n c k / 2
def totW (n : Nat) (w : Nat → Nat) (c : Nat → Nat → Bool) : Nat → Nat
  | 0 => selW w (c 0) n
  | k + 1 => selW w (c (k + 1)) n + totW n w c k
theorem capc_le (n : Nat) (c : Nat → Nat → Bool) : ∀ k, capc n c k ≤ rowLen n k
  | 0 => selN_le _ n
  | k + 1 => by
    have h1 := capc_le n c k
    have h2 := selN_le (c (k + 1)) n
    simp only [capc, rowLen]; omega
theorem row_min {n : Nat} {w : Nat → Nat} (hw : Sorted n w) (c : Nat → Nat → Bool) : ∀ k t, t ≤ capc n c k → sm (rowW n w k) t ≤ totW n w c k
  | 0, t, h => sel_min (c 0) n t hw h
  | k + 1, t, h => by
    simp only [capc] at h
    have h1 := selN_le (c (k + 1)) n
    have h2 := capc_le n c k
    obtain ⟨a, b, rfl, ha, hb⟩ : ∃ a b, t = a + b ∧ a ≤ selN (c (k + 1)) n ∧ b ≤ capc n c k / 2 := by
      by_cases g : t ≤ selN (c (k + 1)) n
      · exact ⟨t, 0, by omega, g, by omega⟩
      · exact ⟨selN (c (k + 1)) n, t - selN (c (k + 1)) n, by omega, by omega, by omega⟩
    have h3 := mrg_min hw (prs_sorted (rowW_sorted hw k)) (a := a) (b := b) (by omega) (by omega)
    have h4 := sel_min (c (k + 1)) n a hw ha
    have h5 := row_min hw c k (2 * b) (by omega)
    rw [sm_prs] at h3
    simp only [totW]
    exact Nat.le_trans h3 (by omega)
/-! ### lengths as choices -/
/-- Lengths m, of at most L bits: row k + 1 has the items of length L - k and more. -/
def lenSel (L : Nat) (m : Nat → Nat) (k i : Nat) : Bool := decide (L ≤ m i + k)
def expc (n : Nat) (c : Nat → Nat → Bool) : Nat → Nat
  | 0 => selN (c 0) n
  | k + 1 => 2 ^ (k + 1) * selN (c (k + 1)) n + expc n c k
theorem capc_exp (n : Nat) (c : Nat → Nat → Bool) : ∀ k, capc n c k = expc n c k / 2 ^ k
  | 0 => by simp [capc, expc]
  | k + 1 => by
    simp only [capc, expc]
    rw [capc_exp n c k, Nat.div_div_eq_div_mul, ← Nat.pow_succ, Nat.mul_add_div (Nat.two_pow_pos _)]
def oneE (L m : Nat) : Nat → Nat
  | 0 => if L ≤ m + 0 then 1 else 0
  | k + 1 => 2 ^ (k + 1) * (if L ≤ m + (k + 1) then 1 else 0) + oneE L m k
theorem expc_more (L n : Nat) (m : Nat → Nat) : ∀ k, expc (n + 1) (lenSel L m) k = expc n (lenSel L m) k + oneE L (m n) k
  | 0 => by simp only [expc, selN, oneE, lenSel, decide_eq_true_eq]
  | k + 1 => by
    simp only [expc, selN, oneE]
    rw [expc_more L n m k, Nat.mul_add]
    simp only [lenSel, decide_eq_true_eq]
    omega
theorem oneE_eq {L m : Nat} (hm : m ≤ L) : ∀ k, k < L → oneE L m k = if L ≤ m + k then 2 ^ (k + 1) - 2 ^ (L - m) else 0
  | 0, h => by
    simp only [oneE]
    by_cases g : L ≤ m + 0
    · rw [if_pos g, if_pos g]
      rw [show L - m = 0 by omega]
    · rw [if_neg g, if_neg g]
  | k + 1, h => by
    simp only [oneE]
    rw [oneE_eq hm k (by omega)]
    by_cases g : L ≤ m + k
    · rw [if_pos g, if_pos (by omega), if_pos (by omega)]
      have h1 : (2 : Nat) ^ (L - m) ≤ 2 ^ (k + 1) := Nat.pow_le_pow_right (by omega) (by omega)
      have h2 : (2 : Nat) ^ (k + 1 + 1) = 2 ^ (k + 1) * 2 := Nat.pow_succ _ _
      omega
    · rw [if_neg g]
      by_cases g2 : L ≤ m + (k + 1)
      · rw [if_pos g2, if_pos g2, show L - m = k + 1 by omega]
        have h2 : (2 : Nat) ^ (k + 1 + 1) = 2 ^ (k + 1) * 2 := Nat.pow_succ _ _
        omega
      · rw [if_neg g2, if_neg g2]; omega
/-- What lengths count, of 2^L. -/
def kraft (L : Nat) (m : Nat → Nat) : Nat → Nat
  | 0 => 0
  | n + 1 => kraft L m n + 2 ^ (L - m n)
theorem expc_kraft {L : Nat} {m : Nat → Nat} (hL : 0 < L) : ∀ n, (∀ i, i < n → 1 ≤ m i ∧ m i ≤ L) → expc n (lenSel L m) (L - 1) + kraft L m n = n * 2 ^ L
  | 0, _ => by
    have h0 : ∀ k, expc 0 (lenSel L m) k = 0 := by
      intro k
      induction k with
      | zero => rfl
      | succ k ih => simp only [expc, selN, ih]; omega
    rw [h0]; simp [kraft]
  | n + 1, h => by
    have ih := expc_kraft (m := m) hL n (fun i hi => h i (by omega))
    have hm := h n (by omega)
    rw [expc_more, oneE_eq hm.2 (L - 1) (by omega), if_pos (by omega), show L - 1 + 1 = L by omega]
    have h1 : (2 : Nat) ^ (L - m n) ≤ 2 ^ L := Nat.pow_le_pow_right (by omega) (by omega)
    simp only [kraft]
    rw [Nat.add_mul, Nat.one_mul]
    omega
def oneW (L m : Nat) : Nat → Nat
  | 0 => if L ≤ m + 0 then 1 else 0
  | k + 1 => (if L ≤ m + (k + 1) then 1 else 0) + oneW L m k
theorem totW_more (L n : Nat) (w m : Nat → Nat) : ∀ k, totW (n + 1) w (lenSel L m) k = totW n w (lenSel L m) k + w n * oneW L (m n) k
  | 0 => by
    simp only [totW, selW, oneW, lenSel, decide_eq_true_eq]
    split <;> simp
  | k + 1 => by
    simp only [totW, selW, oneW]
    rw [totW_more L n w m k, Nat.mul_add]
    simp only [lenSel, decide_eq_true_eq]
    split <;> omega
theorem oneW_eq {L m : Nat} (hm : m ≤ L) : ∀ k, k < L → oneW L m k = m + k + 1 - L
  | 0, h => by simp only [oneW]; split <;> omega
  | k + 1, h => by
    simp only [oneW]
    rw [oneW_eq hm k (by omega)]
    split <;> omega
theorem totW_cost {L : Nat} {w m : Nat → Nat} (hL : 0 < L) : ∀ n, (∀ i, i < n → m i ≤ L) → totW n w (lenSel L m) (L - 1) = dot w m n
  | 0, _ => by
    have h0 : ∀ k, totW 0 w (lenSel L m) k = 0 := by
      intro k
      induction k with
      | zero => rfl
      | succ k ih => simp only [totW, selW, ih]
    rw [h0]; rfl
  | n + 1, h => by
    rw [totW_more, totW_cost hL n (fun i hi => h i (by omega)), oneW_eq (h n (by omega)) (L - 1) (by omega)]
    simp only [dot]
    rw [show m n + (L - 1) + 1 - L = m n by omega]
/-- THE LEAST COST: no lengths of at most L bits that are together at most 1 cost less than what the first 2 n - 2 parcels are made of. -/
theorem least_cost {n L : Nat} {w m : Nat → Nat} (hw : Sorted n w) (hL : 0 < L) (hm : ∀ i, i < n → 1 ≤ m i ∧ m i ≤ L) (hk : kraft L m n ≤ 2 ^ L) (hn : 2 ≤ n) :
    dot w (cntN n w (L - 1) (2 * n - 2)) n ≤ dot w m n := by
  have h1 := expc_kraft (m := m) hL n hm
  have hc : 2 * n - 2 ≤ capc n (lenSel L m) (L - 1) := by
    rw [capc_exp, Nat.le_div_iff_mul_le (Nat.two_pow_pos _)]
    have e : (2 : Nat) ^ L = 2 ^ (L - 1) * 2 := by
      obtain ⟨K, rfl⟩ : ∃ K, L = K + 1 := ⟨L - 1, by omega⟩
      rw [Nat.add_sub_cancel, Nat.pow_succ]
    have h2 : (2 * n - 2) * 2 ^ (L - 1) = (n - 1) * 2 ^ L := by
      rw [e, show 2 * n - 2 = (n - 1) * 2 by omega, Nat.mul_assoc, Nat.mul_comm 2]
    have h3 : n * 2 ^ L = (n - 1) * 2 ^ L + 2 ^ L := by
      conv => lhs; rw [show n = (n - 1) + 1 by omega, Nat.add_mul, Nat.one_mul]
    omega
  have h2 := row_min hw (lenSel L m) (L - 1) _ hc
  rw [totW_cost hL n (fun i hi => (hm i hi).2)] at h2
  rw [← sm_cnt w (L - 1) _ (Nat.le_trans hc (capc_le n _ _))]
  exact h2
end Go.Proofs.Ytgppikhfkikknaa
