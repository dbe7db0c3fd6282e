/-
  Layer 4 (build), numbers alone: the least lengths may be; the rarer is not shorter; a number in all frequencies changes nothing.
-/
import Derived.Test.YtgppikhfkikknaaBuildOpt
namespace Go.Proofs.Ytgppikhfkikknaa
theorem takeI_le {n : Nat} {w : Nat → Nat} : ∀ k t, t ≤ rowLen n k → takeI n w k t ≤ n ∧ takeI n w k t ≤ t
  | 0, t, h => ⟨h, Nat.le_refl _⟩
  | k + 1, t, h => by
    have := stepI_bd (n := n) (m := rowLen n k / 2) (w := w) (p := prs (rowW n w k)) t h
    exact ⟨this.1, this.2.2⟩
theorem rest_le {n : Nat} {w : Nat → Nat} {k t : Nat} (h : t ≤ rowLen n (k + 1)) : 2 * (t - takeI n w (k + 1) t) ≤ rowLen n k := by
  have h2 : t - takeI n w (k + 1) t ≤ rowLen n k / 2 := (stepI_bd (n := n) (m := rowLen n k / 2) (w := w) (p := prs (rowW n w k)) t h).2.1
  omega
theorem cnt_le (n : Nat) (w : Nat → Nat) : ∀ k t i, cntN n w k t i ≤ k + 1
  | 0, t, i => by simp only [cntN]; split <;> omega
  | k + 1, t, i => by
    have := cnt_le n w k (2 * (t - takeI n w (k + 1) t)) i
    simp only [cntN]; split <;> omega
theorem cnt_mono (n : Nat) (w : Nat → Nat) : ∀ k t i j, i ≤ j → cntN n w k t j ≤ cntN n w k t i
  | 0, t, i, j, h => by simp only [cntN]; split <;> split <;> omega
  | k + 1, t, i, j, h => by
    have := cnt_mono n w k (2 * (t - takeI n w (k + 1) t)) i j h
    simp only [cntN]; split <;> split <;> omega
theorem step_at {n m : Nat} {w p : Nat → Nat} : ∀ t i, i < stepI n m w p t → ∃ q, q < t ∧ mrg n m w p q = w i
  | 0, i, h => by simp [stepI] at h
  | t + 1, i, h => by
    simp only [stepI] at h
    by_cases hc : pickB n m w p (stepI n m w p t) (t - stepI n m w p t) = true
    · rw [if_pos hc] at h
      rcases Nat.eq_or_lt_of_le (Nat.le_of_lt_succ h) with e | e
      · exact ⟨t, by omega, by unfold mrg; rw [if_pos hc, e]⟩
      · obtain ⟨q, hq, h2⟩ := step_at t i e
        exact ⟨q, by omega, h2⟩
    · rw [if_neg hc] at h
      obtain ⟨q, hq, h2⟩ := step_at t i h
      exact ⟨q, by omega, h2⟩
theorem take_at {n : Nat} {w : Nat → Nat} : ∀ k t i, i < takeI n w k t → ∃ q, q < t ∧ rowW n w k q = w i
  | 0, _, i, h => ⟨i, h, rfl⟩
  | _ + 1, t, i, h => step_at t i h
/-- What stands in a row stands in the row behind it. -/
theorem take_nest {n : Nat} {w : Nat → Nat} (hw : Sorted n w) {k t : Nat} (h : t ≤ rowLen n (k + 1)) : takeI n w k (2 * (t - takeI n w (k + 1) t)) ≤ takeI n w (k + 1) t := by
  have h1 := takeI_le (w := w) k _ (rest_le (w := w) h)
  by_cases g : takeI n w k (2 * (t - takeI n w (k + 1) t)) ≤ takeI n w (k + 1) t
  · exact g
  · exfalso
    obtain ⟨q, hq, he⟩ := take_at (n := n) (w := w) k (2 * (t - takeI n w (k + 1) t)) (takeI n w (k + 1) t) (by omega)
    have h2 := pair_lt (m := rowLen n k / 2) (p := prs (rowW n w k)) hw t h (q / 2) (by show q / 2 < t - takeI n w (k + 1) t; omega) (takeI n w (k + 1) t) (Nat.le_refl _) (by omega)
    have h3 : rowW n w k q ≤ prs (rowW n w k) (q / 2) := by
      unfold prs
      rcases Nat.mod_two_eq_zero_or_one q with e | e
      · rw [show 2 * (q / 2) = q by omega]; omega
      · rw [show 2 * (q / 2) + 1 = q by omega]; omega
    omega
theorem cnt_none {n : Nat} {w : Nat → Nat} (hw : Sorted n w) : ∀ k t i, t ≤ rowLen n k → takeI n w k t ≤ i → cntN n w k t i = 0
  | 0, t, i, _, h => by simp only [cntN]; rw [if_neg (by simp only [takeI] at h; omega)]
  | k + 1, t, i, ht, h => by
    have h1 := take_nest hw ht
    have := cnt_none hw k _ i (rest_le (w := w) ht) (Nat.le_trans h1 h)
    simp only [cntN]; rw [this, if_neg (by omega)]
/-- What item i's parcels count, of 2^(k + 1). -/
def oneF (n : Nat) (w : Nat → Nat) : Nat → Nat → Nat → Nat
  | 0, t, i => if i < t then 1 else 0
  | k + 1, t, i => 2 ^ (k + 1) * (if i < takeI n w (k + 1) t then 1 else 0) + oneF n w k (2 * (t - takeI n w (k + 1) t)) i
theorem oneF_cnt {n : Nat} {w : Nat → Nat} (hw : Sorted n w) : ∀ k t i, t ≤ rowLen n k → oneF n w k t i + 2 ^ (k + 1 - cntN n w k t i) = 2 ^ (k + 1)
  | 0, t, i, h => by
    simp only [oneF, cntN]
    by_cases g : i < t
    · rw [if_pos g]
    · rw [if_neg g]
  | k + 1, t, i, h => by
    have ih := oneF_cnt hw k _ i (rest_le (w := w) h)
    have hl := cnt_le n w k (2 * (t - takeI n w (k + 1) t)) i
    simp only [oneF, cntN]
    by_cases g : i < takeI n w (k + 1) t
    · rw [if_pos g, Nat.mul_one, show k + 1 + 1 - (1 + cntN n w k (2 * (t - takeI n w (k + 1) t)) i) = k + 1 - cntN n w k (2 * (t - takeI n w (k + 1) t)) i by omega]
      have e : (2 : Nat) ^ (k + 1 + 1) = 2 ^ (k + 1) * 2 := Nat.pow_succ _ _
      omega
    · have h0 := cnt_none hw k _ i (rest_le (w := w) h) (Nat.le_trans (take_nest hw h) (by omega))
      rw [if_neg g]
      rw [h0] at ih ⊢
      have e2 : (2 : Nat) ^ (k + 1 - 0) = 2 ^ (k + 1) := rfl
      have e3 : (2 : Nat) ^ (k + 1 + 1 - (0 + 0)) = 2 ^ (k + 1 + 1) := rfl
      rw [e3]; omega
/-- Sums over items. -/
def sums (c : Nat → Nat) : Nat → Nat
  | 0 => 0
  | n + 1 => sums c n + c n
theorem sums_add (a b : Nat → Nat) : ∀ n, sums (fun i => a i + b i) n = sums a n + sums b n
  | 0 => rfl
  | n + 1 => by simp only [sums]; rw [sums_add a b n]; omega
theorem sums_first (x t : Nat) : ∀ n, sums (fun i => x * (if i < t then 1 else 0)) n = x * min t n
  | 0 => by simp [sums]
  | n + 1 => by
    simp only [sums]
    rw [sums_first x t n]
    by_cases h : n < t
    · rw [if_pos h, Nat.mul_one, show min t n = n by omega, show min t (n + 1) = n + 1 by omega, Nat.mul_add, Nat.mul_one]
    · rw [if_neg h, show min t n = t by omega, show min t (n + 1) = t by omega]; omega
theorem sums_oneF {n : Nat} {w : Nat → Nat} : ∀ k t, t ≤ rowLen n k → sums (oneF n w k t) n = t * 2 ^ k
  | 0, t, h => by
    have e : oneF n w 0 t = fun i => 1 * (if i < t then 1 else 0) := by funext i; simp only [oneF]; omega
    rw [e, sums_first, Nat.one_mul, show min t n = t from Nat.min_eq_left h, Nat.pow_zero, Nat.mul_one]
  | k + 1, t, h => by
    have e : oneF n w (k + 1) t = fun i => 2 ^ (k + 1) * (if i < takeI n w (k + 1) t then 1 else 0) + oneF n w k (2 * (t - takeI n w (k + 1) t)) i := rfl
    have hb := takeI_le (w := w) (k + 1) t h
    rw [e, sums_add, sums_first, sums_oneF k _ (rest_le (w := w) h), Nat.min_eq_left hb.1]
    have e2 : (2 : Nat) ^ (k + 1) = 2 ^ k * 2 := Nat.pow_succ _ _
    obtain ⟨r, hr⟩ : ∃ r, t = takeI n w (k + 1) t + r := ⟨t - takeI n w (k + 1) t, by omega⟩
    have e3 : t - takeI n w (k + 1) t = r := by omega
    rw [e3]
    conv => rhs; rw [hr]
    rw [e2, Nat.add_mul, Nat.mul_comm (2 ^ k * 2), Nat.mul_comm 2 r, Nat.mul_assoc r 2, Nat.mul_comm 2 (2 ^ k)]
theorem kraft_sums (L : Nat) (c d : Nat → Nat) : ∀ n, (∀ i, i < n → d i + 2 ^ (L - c i) = 2 ^ L) → sums d n + kraft L c n = n * 2 ^ L
  | 0, _ => by simp [sums, kraft]
  | n + 1, h => by
    have ih := kraft_sums L c d n (fun i hi => h i (by omega))
    have h1 := h n (by omega)
    simp only [sums, kraft]
    rw [Nat.add_mul, Nat.one_mul]; omega
theorem rowLen_le {n : Nat} (hn : 1 ≤ n) : ∀ k, rowLen n k ≤ 2 * n - 1
  | 0 => by simp only [rowLen]; omega
  | k + 1 => by have := rowLen_le hn k; simp only [rowLen]; omega
theorem rowLen_ge {n : Nat} : ∀ k, 2 * n * 2 ^ k + 1 ≤ rowLen n k * 2 ^ k + n + 2 ^ k
  | 0 => by simp only [rowLen, Nat.pow_zero, Nat.mul_one]; omega
  | k + 1 => by
    have ih := rowLen_ge (n := n) k
    simp only [rowLen]
    have e2 : (2 : Nat) ^ (k + 1) = 2 ^ k * 2 := Nat.pow_succ _ _
    have h3 : rowLen n k ≤ 2 * (rowLen n k / 2) + 1 := by omega
    have h4 := Nat.mul_le_mul_right (2 ^ k) h3
    rw [Nat.add_mul, Nat.one_mul, Nat.mul_assoc, Nat.mul_comm 2] at h4
    rw [e2, Nat.add_mul, ← Nat.mul_assoc, ← Nat.mul_assoc, ← Nat.mul_assoc]
    have e5 : 2 * n * 2 ^ k = n * 2 ^ k * 2 := by rw [Nat.mul_assoc, Nat.mul_comm 2]
    rw [e5] at ih ⊢
    omega
theorem rowLen_enough {n L : Nat} (hL : 0 < L) (hn : n ≤ 2 ^ L) : 2 * n - 2 ≤ rowLen n (L - 1) := by
  have h := rowLen_ge (n := n) (L - 1)
  obtain ⟨K, rfl⟩ : ∃ K, L = K + 1 := ⟨L - 1, by omega⟩
  rw [Nat.add_sub_cancel] at h ⊢
  have e2 : (2 : Nat) ^ (K + 1) = 2 ^ K * 2 := Nat.pow_succ _ _
  by_cases g : 2 * n - 2 ≤ rowLen n K
  · exact g
  · exfalso
    have h1 : rowLen n K + 3 ≤ 2 * n := by omega
    have h2 := Nat.mul_le_mul_right (2 ^ K) h1
    rw [Nat.add_mul] at h2
    omega
theorem take_all {n : Nat} {w : Nat → Nat} (hw : Sorted n w) (hn : 2 ≤ n) : ∀ k, 2 * n - 2 ≤ rowLen n k → takeI n w k (2 * n - 2) = n
  | 0, h => by simp only [rowLen] at h; simp only [takeI]; omega
  | k + 1, h => by
    have h1 := takeI_le (w := w) (k + 1) _ h
    by_cases g : takeI n w (k + 1) (2 * n - 2) = n
    · exact g
    · exfalso
      have h2 := rest_le (w := w) h
      have h3 := rowLen_le (n := n) (by omega) k
      have h4 := take_nest hw h
      have e : 2 * (2 * n - 2 - takeI n w (k + 1) (2 * n - 2)) = 2 * n - 2 := by omega
      rw [e] at h2 h4
      rw [take_all hw hn k h2] at h4
      omega
/-- THE LEAST LENGTHS ARE WHOLE. -/
theorem least_whole {n L : Nat} {w : Nat → Nat} (hw : Sorted n w) (hL : 0 < L) (hn : 2 ≤ n) (hn2 : n ≤ 2 ^ L) : kraft L (cntN n w (L - 1) (2 * n - 2)) n = 2 ^ L := by
  have hen := rowLen_enough hL hn2
  obtain ⟨K, rfl⟩ : ∃ K, L = K + 1 := ⟨L - 1, by omega⟩
  rw [Nat.add_sub_cancel] at hen ⊢
  have h1 := kraft_sums (K + 1) (cntN n w K (2 * n - 2)) (oneF n w K (2 * n - 2)) n (fun i _ => oneF_cnt hw K _ i hen)
  rw [sums_oneF K _ hen] at h1
  have e2 : (2 : Nat) ^ (K + 1) = 2 ^ K * 2 := Nat.pow_succ _ _
  have e3 : (2 * n - 2) * 2 ^ K = (n - 1) * 2 ^ (K + 1) := by rw [e2, show 2 * n - 2 = (n - 1) * 2 by omega, Nat.mul_assoc, Nat.mul_comm 2]
  have e4 : n * 2 ^ (K + 1) = (n - 1) * 2 ^ (K + 1) + 2 ^ (K + 1) := by
    conv => lhs; rw [show n = (n - 1) + 1 by omega, Nat.add_mul, Nat.one_mul]
  omega
theorem least_pos {n L : Nat} {w : Nat → Nat} (hw : Sorted n w) (hL : 0 < L) (hn : 2 ≤ n) (hn2 : n ≤ 2 ^ L) {i : Nat} (hi : i < n) : 1 ≤ cntN n w (L - 1) (2 * n - 2) i ∧ cntN n w (L - 1) (2 * n - 2) i ≤ L := by
  have hen := rowLen_enough hL hn2
  have hall := take_all hw hn (L - 1) hen
  have hle := cnt_le n w (L - 1) (2 * n - 2) i
  refine ⟨?_, by omega⟩
  cases hk : L - 1 with
  | zero => rw [hk] at hall; simp only [takeI] at hall; simp only [cntN]; rw [if_pos (by omega)]; exact Nat.le_refl _
  | succ k => rw [hk] at hall; simp only [cntN]; rw [hall, if_pos hi]; omega
/-! ### a number in all frequencies -/
theorem pick_mul {n m c : Nat} (hc : 0 < c) (w p : Nat → Nat) (i k : Nat) : pickB n m (fun i => c * w i) (fun j => c * p j) i k = pickB n m w p i k := by
  unfold pickB
  rw [decide_eq_decide]
  have : c * w i ≤ c * p k ↔ w i ≤ p k := Nat.mul_le_mul_left_iff hc
  rw [this]
theorem step_mul {n m c : Nat} (hc : 0 < c) (w p : Nat → Nat) : ∀ t, stepI n m (fun i => c * w i) (fun j => c * p j) t = stepI n m w p t
  | 0 => rfl
  | t + 1 => by simp only [stepI]; rw [step_mul hc w p t, pick_mul hc]
theorem mrg_mul {n m c : Nat} (hc : 0 < c) (w p : Nat → Nat) (t : Nat) : mrg n m (fun i => c * w i) (fun j => c * p j) t = c * mrg n m w p t := by
  unfold mrg
  rw [step_mul hc, pick_mul hc]
  split <;> rfl
theorem row_mul {n c : Nat} (hc : 0 < c) (w : Nat → Nat) : ∀ k, rowW n (fun i => c * w i) k = fun t => c * rowW n w k t
  | 0 => rfl
  | k + 1 => by
    funext t
    simp only [rowW]
    rw [row_mul hc w k]
    have e : prs (fun t => c * rowW n w k t) = fun j => c * prs (rowW n w k) j := by funext j; unfold prs; rw [Nat.mul_add]
    rw [e, mrg_mul hc]
theorem take_mul {n c : Nat} (hc : 0 < c) (w : Nat → Nat) : ∀ k t, takeI n (fun i => c * w i) k t = takeI n w k t
  | 0, _ => rfl
  | k + 1, t => by
    simp only [takeI]
    rw [row_mul hc w k]
    have e : prs (fun t => c * rowW n w k t) = fun j => c * prs (rowW n w k) j := by funext j; unfold prs; rw [Nat.mul_add]
    rw [e, step_mul hc]
theorem cnt_mul {n c : Nat} (hc : 0 < c) (w : Nat → Nat) : ∀ k t i, cntN n (fun i => c * w i) k t i = cntN n w k t i
  | 0, _, _ => rfl
  | k + 1, t, i => by simp only [cntN]; rw [take_mul hc w (k + 1) t, cnt_mul hc w k]
end Go.Proofs.Ytgppikhfkikknaa
