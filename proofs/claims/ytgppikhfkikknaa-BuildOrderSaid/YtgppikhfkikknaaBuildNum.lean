/-
  Layer 4 (build), numbers alone: rows of parcels by their weights, how many items stand in a row's first parcels, how often each; no other lengths cost less.
-/
import Derived.Test.YtgppikhfkikknaaBase
namespace Go.Proofs.Ytgppikhfkikknaa
/-! ### one row out of items and pairs -/
def pickB (n m : Nat) (w p : Nat → Nat) (i k : Nat) : Bool := decide (m ≤ k ∨ (i < n ∧ w i ≤ p k))
/-- How many items stand among the first t parcels of the merged row. -/
def stepI (n m : Nat) (w p : Nat → Nat) : Nat → Nat
  | 0 => 0
  | t + 1 => if pickB n m w p (stepI n m w p t) (t - stepI n m w p t) = true then stepI n m w p t + 1 else stepI n m w p t
def mrg (n m : Nat) (w p : Nat → Nat) (t : Nat) : Nat :=
  if pickB n m w p (stepI n m w p t) (t - stepI n m w p t) = true then w (stepI n m w p t) else p (t - stepI n m w p t)
/-- Sums of the first t. -/
def sm (g : Nat → Nat) : Nat → Nat
  | 0 => 0
  | t + 1 => sm g t + g t
def Sorted (n : Nat) (w : Nat → Nat) : Prop := ∀ i j, i ≤ j → j < n → w i ≤ w j
section
variable {n m : Nat} {w p : Nat → Nat}
theorem stepI_bd : ∀ t, t ≤ n + m → stepI n m w p t ≤ n ∧ t - stepI n m w p t ≤ m ∧ stepI n m w p t ≤ t
  | 0, _ => ⟨Nat.zero_le _, Nat.zero_le _, Nat.le_refl _⟩
  | t + 1, h => by
    have ih := stepI_bd t (by omega)
    simp only [stepI]
    by_cases hc : pickB n m w p (stepI n m w p t) (t - stepI n m w p t) = true
    · rw [if_pos hc]
      have := of_decide_eq_true hc
      omega
    · rw [if_neg hc]
      have := of_decide_eq_false (Bool.not_eq_true _ ▸ hc)
      omega
theorem pair_lt (hw : Sorted n w) : ∀ t, t ≤ n + m → ∀ j, j < t - stepI n m w p t → ∀ i, stepI n m w p t ≤ i → i < n → p j < w i
  | 0, _, j, hj, _, _, _ => absurd hj (by omega)
  | t + 1, h, j, hj, i, hi, hin => by
    have ih := pair_lt hw t (by omega)
    have hbd := stepI_bd (n := n) (m := m) (w := w) (p := p) t (by omega)
    simp only [stepI] at hj hi
    by_cases hc : pickB n m w p (stepI n m w p t) (t - stepI n m w p t) = true
    · rw [if_pos hc] at hj hi
      exact ih j (by omega) i (by omega) hin
    · rw [if_neg hc] at hj hi
      by_cases e : j = t - stepI n m w p t
      · have h2 := of_decide_eq_false (Bool.not_eq_true _ ▸ hc)
        have h3 := hw (stepI n m w p t) i hi hin
        have h4 : ¬ (w (stepI n m w p t) ≤ p (t - stepI n m w p t)) := fun g => h2 (.inr ⟨by omega, g⟩)
        rw [e]; omega
      · exact ih j (by omega) i hi hin
theorem item_le (hp : Sorted m p) : ∀ t, t ≤ n + m → ∀ i, i < stepI n m w p t → ∀ j, t - stepI n m w p t ≤ j → j < m → w i ≤ p j
  | 0, _, i, hi, _, _, _ => absurd hi (by simp [stepI])
  | t + 1, h, i, hi, j, hj, hjm => by
    have ih := item_le hp t (by omega)
    have hbd := stepI_bd (n := n) (m := m) (w := w) (p := p) t (by omega)
    simp only [stepI] at hj hi
    by_cases hc : pickB n m w p (stepI n m w p t) (t - stepI n m w p t) = true
    · rw [if_pos hc] at hj hi
      by_cases e : i = stepI n m w p t
      · have h2 := of_decide_eq_true hc
        have h3 := hp (t - stepI n m w p t) j (by omega) hjm
        rw [e]
        rcases h2 with h2 | h2
        · omega
        · omega
      · exact ih i (by omega) j (by omega) hjm
    · rw [if_neg hc] at hj hi
      exact ih i hi j (by omega) hjm
theorem sm_mrg : ∀ t, t ≤ n + m → sm (mrg n m w p) t = sm w (stepI n m w p t) + sm p (t - stepI n m w p t)
  | 0, _ => rfl
  | t + 1, h => by
    have hbd := stepI_bd (n := n) (m := m) (w := w) (p := p) t (by omega)
    have e : sm (mrg n m w p) (t + 1) = sm (mrg n m w p) t + mrg n m w p t := rfl
    rw [e, sm_mrg t (by omega)]
    simp only [stepI, mrg]
    by_cases hc : pickB n m w p (stepI n m w p t) (t - stepI n m w p t) = true
    · rw [if_pos hc, if_pos hc, show t + 1 - (stepI n m w p t + 1) = t - stepI n m w p t by omega]
      simp only [sm]; omega
    · rw [if_neg hc, if_neg hc, show t + 1 - stepI n m w p t = t - stepI n m w p t + 1 by omega]
      simp only [sm]; omega
theorem sm_up {g : Nat → Nat} {x a : Nat} : ∀ b, a ≤ b → (∀ i, a ≤ i → i < b → x ≤ g i) → sm g a + (b - a) * x ≤ sm g b
  | 0, h, _ => by rw [show a = 0 by omega]; simp
  | b + 1, h, hx => by
    rcases Nat.eq_or_lt_of_le h with e | e
    · subst e; simp
    · have ih := sm_up (g := g) (x := x) (a := a) b (by omega) (fun i h1 h2 => hx i h1 (by omega))
      have h3 := hx b (by omega) (by omega)
      have e2 : (b + 1 - a) * x = (b - a) * x + x := by rw [show b + 1 - a = (b - a) + 1 by omega, Nat.add_mul, Nat.one_mul]
      simp only [sm]; omega
theorem sm_down {g : Nat → Nat} {x a : Nat} : ∀ b, a ≤ b → (∀ i, a ≤ i → i < b → g i ≤ x) → sm g b ≤ sm g a + (b - a) * x
  | 0, h, _ => by rw [show a = 0 by omega]; simp
  | b + 1, h, hx => by
    rcases Nat.eq_or_lt_of_le h with e | e
    · subst e; simp
    · have ih := sm_down (g := g) (x := x) (a := a) b (by omega) (fun i h1 h2 => hx i h1 (by omega))
      have h3 := hx b (by omega) (by omega)
      have e2 : (b + 1 - a) * x = (b - a) * x + x := by rw [show b + 1 - a = (b - a) + 1 by omega, Nat.add_mul, Nat.one_mul]
      simp only [sm]; omega
/-- The first parcels of the merged row weigh no more than any so many items and pairs. -/
theorem mrg_min (hw : Sorted n w) (hp : Sorted m p) {a b : Nat} (ha : a ≤ n) (hb : b ≤ m) : sm (mrg n m w p) (a + b) ≤ sm w a + sm p b := by
  have hbd := stepI_bd (n := n) (m := m) (w := w) (p := p) (a + b) (by omega)
  rw [sm_mrg (a + b) (by omega)]
  have hA := pair_lt (p := p) (m := m) hw (a + b) (by omega)
  have hB := item_le (w := w) (n := n) hp (a + b) (by omega)
  obtain ⟨I, hI⟩ : ∃ I, I = stepI n m w p (a + b) := ⟨_, rfl⟩
  rw [← hI] at hbd hA hB ⊢
  rcases Nat.lt_trichotomy I a with h | h | h
  · have h1 := sm_up (g := w) (x := w I) (a := I) a (by omega) (fun i h1 h2 => hw I i h1 (by omega))
    have h2 := sm_down (g := p) (x := w I) (a := b) (a + b - I) (by omega) (fun j _ h2 => Nat.le_of_lt (hA j h2 I (Nat.le_refl _) (by omega)))
    rw [show a + b - I - b = a - I by omega] at h2
    omega
  · rw [h, show a + b - a = b by omega]; exact Nat.le_refl _
  · have hbm : a + b - I < b := by omega
    have h1 := sm_down (g := w) (x := p (a + b - I)) (a := a) I (by omega) (fun i _ h2 => hB i h2 (a + b - I) (Nat.le_refl _) (by omega))
    have h2 := sm_up (g := p) (x := p (a + b - I)) (a := a + b - I) b (by omega) (fun j h1 h2 => hp _ j h1 (by omega))
    rw [show b - (a + b - I) = I - a by omega] at h2
    omega
theorem mrg_step (hw : Sorted n w) (hp : Sorted m p) {t : Nat} (ht : t + 1 < n + m) : mrg n m w p t ≤ mrg n m w p (t + 1) := by
  have hbd := stepI_bd (n := n) (m := m) (w := w) (p := p) t (by omega)
  have hbd2 := stepI_bd (n := n) (m := m) (w := w) (p := p) (t + 1) (by omega)
  have hA := pair_lt (p := p) (m := m) hw (t + 1) (by omega)
  have hB := item_le (w := w) (n := n) hp (t + 1) (by omega)
  have hs : stepI n m w p (t + 1) = if pickB n m w p (stepI n m w p t) (t - stepI n m w p t) = true then stepI n m w p t + 1 else stepI n m w p t := rfl
  unfold mrg
  by_cases hc : pickB n m w p (stepI n m w p t) (t - stepI n m w p t) = true
  · rw [if_pos hc] at hs ⊢
    by_cases hd : pickB n m w p (stepI n m w p (t + 1)) (t + 1 - stepI n m w p (t + 1)) = true
    · rw [if_pos hd]
      have := of_decide_eq_true hd
      exact hw _ _ (by omega) (by omega)
    · rw [if_neg hd]
      have := of_decide_eq_false (Bool.not_eq_true _ ▸ hd)
      exact hB _ (by omega) _ (Nat.le_refl _) (by omega)
  · rw [if_neg hc] at hs ⊢
    by_cases hd : pickB n m w p (stepI n m w p (t + 1)) (t + 1 - stepI n m w p (t + 1)) = true
    · rw [if_pos hd]
      have := of_decide_eq_true hd
      exact Nat.le_of_lt (hA _ (by omega) _ (Nat.le_refl _) (by omega))
    · rw [if_neg hd]
      have := of_decide_eq_false (Bool.not_eq_true _ ▸ hd)
      exact hp _ _ (by omega) (by omega)
theorem sorted_of_step {N : Nat} {g : Nat → Nat} (h : ∀ t, t + 1 < N → g t ≤ g (t + 1)) : Sorted N g := by
  intro i j hij hj
  induction j with
  | zero => rw [show i = 0 by omega]; exact Nat.le_refl _
  | succ j ih =>
    rcases Nat.eq_or_lt_of_le hij with e | e
    · rw [e]; exact Nat.le_refl _
    · exact Nat.le_trans (ih (by omega) (by omega)) (h j hj)
theorem mrg_sorted (hw : Sorted n w) (hp : Sorted m p) : Sorted (n + m) (mrg n m w p) := sorted_of_step fun _ ht => mrg_step hw hp ht
end
/-! ### rows -/
def prs (r : Nat → Nat) (j : Nat) : Nat := r (2 * j) + r (2 * j + 1)
/-- Row k + 1: how many parcels, their weights, how many items among the first t, and how often item i is in them. -/
def rowLen (n : Nat) : Nat → Nat
  | 0 => n
  | k + 1 => n + rowLen n k / 2
def rowW (n : Nat) (w : Nat → Nat) : Nat → Nat → Nat
  | 0 => w
  | k + 1 => mrg n (rowLen n k / 2) w (prs (rowW n w k))
def takeI (n : Nat) (w : Nat → Nat) : Nat → Nat → Nat
  | 0, t => t
  | k + 1, t => stepI n (rowLen n k / 2) w (prs (rowW n w k)) t
def cntN (n : Nat) (w : Nat → Nat) : Nat → Nat → Nat → Nat
  | 0, t, i => if i < t then 1 else 0
  | k + 1, t, i => (if i < takeI n w (k + 1) t then 1 else 0) + cntN n w k (2 * (t - takeI n w (k + 1) t)) i
theorem prs_sorted {N : Nat} {r : Nat → Nat} (h : Sorted N r) : Sorted (N / 2) (prs r) := fun i j hij hj => by
  have h1 := h (2 * i) (2 * j) (by omega) (by omega)
  have h2 := h (2 * i + 1) (2 * j + 1) (by omega) (by omega)
  unfold prs; omega
theorem sm_prs (r : Nat → Nat) : ∀ b, sm (prs r) b = sm r (2 * b)
  | 0 => rfl
  | b + 1 => by
    rw [show 2 * (b + 1) = 2 * b + 1 + 1 by omega]
    simp only [sm]
    rw [sm_prs r b]; unfold prs; omega
theorem rowW_sorted {n : Nat} {w : Nat → Nat} (hw : Sorted n w) : ∀ k, Sorted (rowLen n k) (rowW n w k)
  | 0 => hw
  | k + 1 => mrg_sorted hw (prs_sorted (rowW_sorted hw k))
/-- Sums of products. -/
def dot (w c : Nat → Nat) : Nat → Nat
  | 0 => 0
  | n + 1 => dot w c n + w n * c n
theorem dot_add (w c d : Nat → Nat) : ∀ n, dot w (fun i => c i + d i) n = dot w c n + dot w d n
  | 0 => rfl
  | n + 1 => by simp only [dot]; rw [dot_add w c d n, Nat.mul_add]; omega
theorem dot_first (w : Nat → Nat) (t : Nat) : ∀ n, t ≤ n → dot w (fun i => if i < t then 1 else 0) n = sm w t
  | 0, h => by rw [show t = 0 by omega]; rfl
  | n + 1, h => by
    rcases Nat.eq_or_lt_of_le h with e | e
    · subst e
      have : ∀ k, k ≤ n + 1 → dot w (fun i => if i < n + 1 then 1 else 0) k = sm w k := by
        intro k
        induction k with
        | zero => intro _; rfl
        | succ k ih => intro hk; simp only [dot, sm]; rw [ih (by omega), if_pos (by omega), Nat.mul_one]
      exact this (n + 1) (Nat.le_refl _)
    · simp only [dot]
      rw [dot_first w t n (by omega), if_neg (by omega)]; omega
theorem sm_cnt {n : Nat} (w : Nat → Nat) : ∀ k t, t ≤ rowLen n k → sm (rowW n w k) t = dot w (cntN n w k t) n
  | 0, t, h => (dot_first w t n h).symm
  | k + 1, t, h => by
    have hbd := stepI_bd (n := n) (m := rowLen n k / 2) (w := w) (p := prs (rowW n w k)) t h
    have e1 : sm (rowW n w (k + 1)) t = sm w (takeI n w (k + 1) t) + sm (prs (rowW n w k)) (t - takeI n w (k + 1) t) := sm_mrg t h
    have e2 : cntN n w (k + 1) t = fun i => (if i < takeI n w (k + 1) t then 1 else 0) + cntN n w k (2 * (t - takeI n w (k + 1) t)) i := rfl
    have hbd2 : takeI n w (k + 1) t ≤ n := hbd.1
    have hbd3 : t - takeI n w (k + 1) t ≤ rowLen n k / 2 := hbd.2.1
    rw [e1, e2, dot_add, dot_first w _ n hbd2, sm_prs, sm_cnt w k _ (by omega)]
end Go.Proofs.Ytgppikhfkikknaa
