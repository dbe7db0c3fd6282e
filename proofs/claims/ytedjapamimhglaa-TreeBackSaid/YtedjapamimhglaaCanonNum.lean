/-
  Layer 3 (canon), numbers alone: what lengths count, where each symbol's code begins, and what follows of it.
-/
import Derived.Test.YtedjapamimhglaaBase
namespace Go.Proofs.Ytedjapamimhglaa
/-- What a length counts, of 2^15. -/
def pt (m : Nat) : Nat := 32768 / 2 ^ m
theorem pt_mul {a b : Nat} (h : a ≤ b) (hb : b ≤ 15) : pt a = pt b * 2 ^ (b - a) := by
  unfold pt
  have e : (32768 : Nat) = 2 ^ (15 - b) * 2 ^ b := by rw [← Nat.pow_add, show 15 - b + b = 15 by omega]
  have e2 : (2 : Nat) ^ b = 2 ^ (b - a) * 2 ^ a := by rw [← Nat.pow_add, show b - a + a = b by omega]
  have ha : 0 < 2 ^ a := Nat.two_pow_pos a
  have hb0 : 0 < 2 ^ b := Nat.two_pow_pos b
  rw [e, Nat.mul_div_cancel _ hb0]
  rw [e2, ← Nat.mul_assoc, Nat.mul_div_cancel _ ha]
theorem pt_pos {m : Nat} (h : m ≤ 15) : 0 < pt m := by
  have := pt_mul h (Nat.le_refl 15)
  rw [this]; exact Nat.mul_pos (by decide) (Nat.two_pow_pos _)
theorem pt_le (m : Nat) : pt m ≤ 32768 := Nat.div_le_self _ _
theorem pt_half (m : Nat) : pt (m + 1) = pt m / 2 := by unfold pt; rw [Nat.pow_succ, Nat.div_div_eq_div_mul]
theorem pt_dvd {a b : Nat} (h : a ≤ b) (hb : b ≤ 15) : pt b ∣ pt a := ⟨2 ^ (b - a), pt_mul h hb⟩
/-- What the first n lengths count together; how many have a code; and what those of length m count. -/
def allN (f : Nat → Nat) : Nat → Nat
  | 0 => 0
  | n + 1 => allN f n + if 0 < f n then pt (f n) else 0
def usedN (f : Nat → Nat) : Nat → Nat
  | 0 => 0
  | n + 1 => usedN f n + if 0 < f n then 1 else 0
def inN (f : Nat → Nat) (m : Nat) : Nat → Nat
  | 0 => 0
  | n + 1 => inN f m n + if f n = m then pt m else 0
/-- What those of the lengths 1 to m count. -/
def sumTo (f : Nat → Nat) (n : Nat) : Nat → Nat
  | 0 => 0
  | m + 1 => sumTo f n m + inN f (m + 1) n
/-- Where the code of symbol i, of length m, begins, of 2^15. -/
def stN (f : Nat → Nat) (n m i : Nat) : Nat := sumTo f n (m - 1) + inN f m i
def codeB (f : Nat → Nat) (n i : Nat) : Nat := if f i = 0 then 0 else stN f n (f i) i / pt (f i)
theorem inN_mono (f : Nat → Nat) (m : Nat) {a b : Nat} (h : a ≤ b) : inN f m a ≤ inN f m b := by
  induction b with
  | zero => rw [show a = 0 by omega]; exact Nat.le_refl _
  | succ b ih =>
    rcases Nat.eq_or_lt_of_le h with h | h
    · subst h; exact Nat.le_refl _
    · exact Nat.le_trans (ih (by omega)) (Nat.le_add_right _ _)
theorem inN_step {f : Nat → Nat} {m a b : Nat} (h : a < b) (hf : f a = m) : inN f m a + pt m ≤ inN f m b := by
  have := inN_mono f m (show a + 1 ≤ b by omega)
  simp only [inN, hf, if_true] at this
  exact this
theorem sumTo_mono (f : Nat → Nat) (n : Nat) {a b : Nat} (h : a ≤ b) : sumTo f n a ≤ sumTo f n b := by
  induction b with
  | zero => rw [show a = 0 by omega]; exact Nat.le_refl _
  | succ b ih =>
    rcases Nat.eq_or_lt_of_le h with h | h
    · subst h; exact Nat.le_refl _
    · exact Nat.le_trans (ih (by omega)) (Nat.le_add_right _ _)
theorem sumTo_more (f : Nat → Nat) (n : Nat) : ∀ M, sumTo f (n + 1) M = sumTo f n M + if 0 < f n ∧ f n ≤ M then pt (f n) else 0
  | 0 => by rw [if_neg (by omega)]; rfl
  | M + 1 => by
    simp only [sumTo, inN]
    rw [sumTo_more f n M]
    by_cases h1 : f n = M + 1
    · rw [if_pos h1, if_neg (by omega), if_pos (by omega), h1]; omega
    · by_cases h2 : 0 < f n ∧ f n ≤ M
      · rw [if_neg h1, if_pos h2, if_pos (by omega)]; omega
      · rw [if_neg h1, if_neg h2, if_neg (by omega)]; omega
theorem sumTo_none (f : Nat → Nat) : ∀ M, sumTo f 0 M = 0
  | 0 => rfl
  | M + 1 => by simp only [sumTo, inN]; rw [sumTo_none f M]
theorem allN_sum (f : Nat → Nat) : ∀ n, (∀ j, j < n → f j ≤ 15) → allN f n = sumTo f n 15
  | 0, _ => (sumTo_none f 15).symm
  | n + 1, h => by
    rw [sumTo_more, ← allN_sum f n (fun j hj => h j (by omega))]
    simp only [allN]
    have := h n (by omega)
    by_cases h1 : 0 < f n
    · rw [if_pos h1, if_pos ⟨h1, this⟩]
    · rw [if_neg h1, if_neg (fun g => h1 g.1)]
theorem st_end {f : Nat → Nat} {n m i : Nat} (hi : i < n) (hf : f i = m) (hm : 0 < m) : stN f n m i + pt m ≤ sumTo f n m := by
  obtain ⟨k, rfl⟩ : ∃ k, m = k + 1 := ⟨m - 1, by omega⟩
  have := inN_step hi hf
  unfold stN
  rw [Nat.add_sub_cancel]
  simp only [sumTo]; omega
theorem st_all {f : Nat → Nat} {n i : Nat} (hi : i < n) (h : ∀ j, j < n → f j ≤ 15) (hp : 0 < f i) : stN f n (f i) i + pt (f i) ≤ allN f n := by
  rw [allN_sum f n h]
  exact Nat.le_trans (st_end hi rfl hp) (sumTo_mono f n (h i hi))
/-- Two symbols' places lie apart. -/
theorem st_apart {f : Nat → Nat} {n i k : Nat} (hi : i < n) (hpi : 0 < f i) (h : f i < f k ∨ f i = f k ∧ i < k) : stN f n (f i) i + pt (f i) ≤ stN f n (f k) k := by
  rcases h with h | ⟨h, h2⟩
  · have h1 := st_end hi rfl hpi
    have h2 := sumTo_mono f n (show f i ≤ f k - 1 by omega)
    unfold stN at h1 ⊢
    omega
  · have h1 := inN_step (f := f) h2 rfl
    unfold stN
    rw [← h]; omega
theorem inN_dvd (f : Nat → Nat) (m : Nat) : ∀ n, pt m ∣ inN f m n
  | 0 => ⟨0, rfl⟩
  | n + 1 => by
    simp only [inN]
    refine Nat.dvd_add (inN_dvd f m n) ?_
    split
    · exact Nat.dvd_refl _
    · exact ⟨0, rfl⟩
theorem sumTo_dvd (f : Nat → Nat) (n : Nat) {b : Nat} (hb : b ≤ 15) : ∀ m, m ≤ b → pt b ∣ sumTo f n m
  | 0, _ => ⟨0, rfl⟩
  | m + 1, h => Nat.dvd_add (sumTo_dvd f n hb m (by omega)) (Nat.dvd_trans (pt_dvd h hb) (inN_dvd f (m + 1) n))
theorem st_dvd (f : Nat → Nat) (n i : Nat) {m : Nat} (hm : m ≤ 15) : pt m ∣ stN f n m i :=
  Nat.dvd_add (sumTo_dvd f n hm (m - 1) (by omega)) (inN_dvd f m i)
theorem codeB_st {f : Nat → Nat} {n i : Nat} (hp : 0 < f i) (h : f i ≤ 15) : codeB f n i * pt (f i) = stN f n (f i) i := by
  unfold codeB
  rw [if_neg (by omega)]
  exact Nat.div_mul_cancel (st_dvd f n i h)
theorem in_cover (f : Nat → Nat) (m : Nat) : ∀ n r, r < inN f m n → ∃ i, i < n ∧ f i = m ∧ inN f m i ≤ r ∧ r < inN f m i + pt m
  | 0, r, h => by simp [inN] at h
  | n + 1, r, h => by
    by_cases h1 : r < inN f m n
    · obtain ⟨i, hi, h2, h3⟩ := in_cover f m n r h1
      exact ⟨i, by omega, h2, h3⟩
    · simp only [inN] at h
      split at h
      · rename_i hf
        exact ⟨n, by omega, hf, by omega, h⟩
      · omega
theorem sum_cover (f : Nat → Nat) (n : Nat) : ∀ M r, r < sumTo f n M → ∃ i, i < n ∧ 0 < f i ∧ f i ≤ M ∧ stN f n (f i) i ≤ r ∧ r < stN f n (f i) i + pt (f i)
  | 0, r, h => by simp [sumTo] at h
  | M + 1, r, h => by
    by_cases h1 : r < sumTo f n M
    · obtain ⟨i, hi, h2, h3, h4⟩ := sum_cover f n M r h1
      exact ⟨i, hi, h2, by omega, h4⟩
    · simp only [sumTo] at h
      obtain ⟨i, hi, hf, h2, h3⟩ := in_cover f (M + 1) n (r - sumTo f n M) (by omega)
      refine ⟨i, hi, by omega, by omega, ?_, ?_⟩ <;> (unfold stN; rw [hf, Nat.add_sub_cancel]; omega)
/-! ### what is refused -/
def bigB (f : Nat → Nat) (n : Nat) (most : Int) : Bool := decide (∃ j, j < n ∧ most < (f j : Int))
def endE (all used : Nat) : Int := if 32768 < all then 30 else if all = 32768 ∨ used = 0 ∨ (used = 1 ∧ all = 16384) then 0 else 31
def checkE (f : Nat → Nat) (n : Nat) (most : Int) : Int :=
  if most < 1 ∨ 15 < most then 2 else if 320 < n then 4 else if bigB f n most = true then 2 else endE (allN f n) (usedN f n)
theorem bigB_false {f : Nat → Nat} {n : Nat} {most : Int} (h : bigB f n most = false) : ∀ j, j < n → (f j : Int) ≤ most := by
  intro j hj
  have := of_decide_eq_false h
  have h2 : ¬ (most < (f j : Int)) := fun g => this ⟨j, hj, g⟩
  omega
/-- What holds of lengths that may be. -/
theorem check_ok {f : Nat → Nat} {n : Nat} {most : Int} (h : checkE f n most = 0) :
    1 ≤ most ∧ most ≤ 15 ∧ n ≤ 320 ∧ (∀ j, j < n → (f j : Int) ≤ most) ∧ allN f n ≤ 32768 ∧ (allN f n = 32768 ∨ usedN f n = 0 ∨ (usedN f n = 1 ∧ allN f n = 16384)) := by
  unfold checkE at h
  by_cases h1 : most < 1 ∨ 15 < most
  · rw [if_pos h1] at h; cases h
  · rw [if_neg h1] at h
    by_cases h2 : 320 < n
    · rw [if_pos h2] at h; cases h
    · rw [if_neg h2] at h
      cases h3 : bigB f n most with
      | true => rw [h3, if_pos rfl] at h; cases h
      | false =>
        rw [h3, if_neg (by decide)] at h
        unfold endE at h
        by_cases h4 : 32768 < allN f n
        · rw [if_pos h4] at h; cases h
        · rw [if_neg h4] at h
          by_cases h5 : allN f n = 32768 ∨ usedN f n = 0 ∨ (usedN f n = 1 ∧ allN f n = 16384)
          · exact ⟨by omega, by omega, by omega, bigB_false h3, by omega, h5⟩
          · rw [if_neg h5] at h; cases h
/-! ### no code begins another one -/
def beginsB (x lx y ly : Nat) : Bool := decide (0 < lx ∧ lx ≤ ly ∧ y / 2 ^ (ly - lx) = x)
theorem fits_code {f : Nat → Nat} {n i : Nat} (hi : i < n) (h : ∀ j, j < n → f j ≤ 15) (ha : allN f n ≤ 32768) : codeB f n i < 2 ^ f i := by
  by_cases h0 : 0 < f i
  · have h1 := st_all hi h h0
    have h2 := codeB_st (n := n) h0 (h i hi)
    have h3 := pt_mul (h i hi) (Nat.le_refl 15)
    have h4 : pt (f i) * 2 ^ f i = 32768 := by
      rw [h3, show pt 15 = 1 from rfl, Nat.one_mul, ← Nat.pow_add, show 15 - f i + f i = 15 by have := h i hi; omega]
    have hp := pt_pos (h i hi)
    rw [← h2] at h1
    refine Nat.lt_of_mul_lt_mul_right (a := pt (f i)) ?_
    rw [Nat.mul_comm (2 ^ f i), h4]
    omega
  · have : f i = 0 := by omega
    unfold codeB
    rw [if_pos this, this]; decide
/-- A row of 15 bits begins with the code of symbol i. -/
theorem begins_row {f : Nat → Nat} {n i r : Nat} (h : f i ≤ 15) : beginsB (codeB f n i) (f i) r 15 = decide (0 < f i ∧ stN f n (f i) i ≤ r ∧ r < stN f n (f i) i + pt (f i)) := by
  unfold beginsB
  rw [decide_eq_decide]
  by_cases h0 : 0 < f i
  · have h2 := codeB_st (n := n) h0 h
    have hp := pt_pos h
    have e : (2 : Nat) ^ (15 - f i) = pt (f i) := by rw [pt_mul h (Nat.le_refl 15), show pt 15 = 1 from rfl, Nat.one_mul]
    rw [e, ← h2]
    constructor
    · rintro ⟨_, _, h3⟩
      refine ⟨h0, ?_, ?_⟩
      · rw [← h3]; exact Nat.div_mul_le_self _ _
      · rw [← h3]
        have := Nat.lt_div_mul_add hp (a := r)
        omega
    · rintro ⟨_, h3, h4⟩
      refine ⟨h0, h, ?_⟩
      apply Nat.div_eq_of_lt_le
      · exact h3
      · rw [Nat.add_mul, Nat.one_mul]; exact h4
  · constructor
    · rintro ⟨h3, _⟩; omega
    · rintro ⟨h3, _⟩; omega
theorem begins_apart {f : Nat → Nat} {n i k : Nat} (hi : i < n) (hk : k < n) (h : ∀ j, j < n → f j ≤ 15) (hik : i ≠ k) : beginsB (codeB f n i) (f i) (codeB f n k) (f k) = false := by
  unfold beginsB
  apply decide_eq_false
  rintro ⟨h0, h1, h2⟩
  have hk0 : 0 < f k := by omega
  have e1 := codeB_st (n := n) h0 (h i hi)
  have e2 := codeB_st (n := n) hk0 (h k hk)
  have hpk := pt_pos (h k hk)
  have hm := pt_mul h1 (h k hk)
  have hq := Nat.div_mul_le_self (codeB f n k) (2 ^ (f k - f i))
  have hq2 := Nat.lt_div_mul_add (Nat.two_pow_pos (f k - f i)) (a := codeB f n k)
  rw [h2] at hq hq2
  have h3 : stN f n (f i) i ≤ stN f n (f k) k := by
    rw [← e1, ← e2, hm, Nat.mul_comm (pt (f k)), ← Nat.mul_assoc]
    exact Nat.mul_le_mul_right _ hq
  have h4 : stN f n (f k) k < stN f n (f i) i + pt (f i) := by
    rw [← e1, ← e2, hm, Nat.mul_comm (pt (f k)), ← Nat.mul_assoc, ← Nat.add_mul]
    exact Nat.mul_lt_mul_of_pos_right hq2 hpk
  rcases Nat.lt_trichotomy i k with hlt | he | hlt
  · have := st_apart (n := n) hi h0 (k := k) (by omega)
    omega
  · exact hik he
  · rcases Nat.eq_or_lt_of_le h1 with he | hl
    · have := st_apart (n := n) hk hk0 (k := i) (.inr ⟨he.symm, hlt⟩)
      omega
    · have := st_apart (n := n) hi h0 (k := k) (.inl hl)
      omega
/-- How many of the first codes a row of 15 bits begins with. -/
def hits (f : Nat → Nat) (n r : Nat) : Nat → Nat
  | 0 => 0
  | k + 1 => hits f n r k + if beginsB (codeB f n k) (f k) r 15 = true then 1 else 0
theorem hits_none {f : Nat → Nat} {n r : Nat} : ∀ k, (∀ i, i < k → beginsB (codeB f n i) (f i) r 15 = false) → hits f n r k = 0
  | 0, _ => rfl
  | k + 1, h => by simp only [hits]; rw [hits_none k (fun i hi => h i (by omega)), h k (by omega)]; rfl
theorem hits_one {f : Nat → Nat} {n r : Nat} (h : ∀ j, j < n → f j ≤ 15) {i : Nat} (hi : i < n) (hb : beginsB (codeB f n i) (f i) r 15 = true) : ∀ k, k ≤ n → hits f n r k = if i < k then 1 else 0
  | 0, _ => rfl
  | k + 1, hk => by
    simp only [hits]
    rw [hits_one h hi hb k (by omega)]
    by_cases e : i = k
    · subst e; rw [if_neg (by omega), hb, if_pos rfl, if_pos (by omega)]
    · have hno : beginsB (codeB f n k) (f k) r 15 = false := by
        rw [begins_row (h k (by omega))]
        rw [begins_row (h i hi)] at hb
        have hb := of_decide_eq_true hb
        apply decide_eq_false
        rintro ⟨h0, h1, h2⟩
        rcases Nat.lt_trichotomy (f i) (f k) with hl | he | hl
        · have := st_apart (n := n) hi hb.1 (k := k) (.inl hl); omega
        · rcases Nat.lt_or_ge i k with hl | hl
          · have := st_apart (n := n) hi hb.1 (k := k) (.inr ⟨he, hl⟩); omega
          · have := st_apart (n := n) (show k < n by omega) h0 (k := i) (.inr ⟨he.symm, by omega⟩); omega
        · have := st_apart (n := n) (show k < n by omega) h0 (k := i) (.inl hl); omega
      rw [hno]
      by_cases h2 : i < k
      · rw [if_pos h2, if_neg (by decide), if_pos (by omega)]
      · rw [if_neg h2, if_neg (by decide), if_neg (by omega)]
theorem used_le (f : Nat → Nat) : ∀ n, usedN f n ≤ n
  | 0 => Nat.le_refl _
  | n + 1 => by have := used_le f n; simp only [usedN]; split <;> omega
theorem used_none {f : Nat → Nat} : ∀ n, usedN f n = 0 → ∀ j, j < n → f j = 0
  | 0, _, j, hj => by omega
  | n + 1, h, j, hj => by
    simp only [usedN] at h
    have h1 : ¬ 0 < f n := fun g => by rw [if_pos g] at h; omega
    rcases Nat.eq_or_lt_of_le (Nat.le_of_lt_succ hj) with e | e
    · subst e; omega
    · exact used_none n (by omega) j e
theorem hits_full {f : Nat → Nat} {n : Nat} {most : Int} (h : checkE f n most = 0) {r : Nat} (hr : r < 32768) : hits f n r n ≤ 1 ∧ (usedN f n < 2 ∨ hits f n r n = 1) := by
  obtain ⟨_, h15, _, hb, ha, ho⟩ := check_ok h
  have h15 : ∀ j, j < n → f j ≤ 15 := fun j hj => by have := hb j hj; omega
  by_cases hx : ∃ i, i < n ∧ beginsB (codeB f n i) (f i) r 15 = true
  · obtain ⟨i, hi, hb⟩ := hx
    have := hits_one h15 hi hb n (Nat.le_refl _)
    rw [if_pos hi] at this
    omega
  · have h0 : hits f n r n = 0 := hits_none n fun i hi => by
      cases hc : beginsB (codeB f n i) (f i) r 15 with
      | false => rfl
      | true => exact absurd ⟨i, hi, hc⟩ hx
    refine ⟨by omega, .inl ?_⟩
    rcases ho with ho | ho | ho
    · exfalso
      rw [allN_sum f n h15] at ho
      obtain ⟨i, hi, h1, h2, h3⟩ := sum_cover f n 15 r (by omega)
      exact hx ⟨i, hi, by rw [begins_row h2]; exact decide_eq_true ⟨h1, h3⟩⟩
    · omega
    · omega
/-! ### one more -/
theorem checkE_more {f g : Nat → Nat} {n : Nat} {most : Int} (h : checkE f n most = 0) (hn : n ≤ 319) (hg : ∀ j, j < n → g j = f j) (h0 : 0 < g n) :
    checkE g (n + 1) most = if most < (g n : Int) then 2 else if usedN f n = 0 then (if g n = 1 then 0 else 31) else if usedN f n = 1 then (if g n = 1 then 0 else 31) else 30 := by
  obtain ⟨h1, h15, _, hb, ha, ho⟩ := check_ok h
  have hall : ∀ k, k ≤ n → allN g k = allN f k ∧ usedN g k = usedN f k := by
    intro k
    induction k with
    | zero => intro _; exact ⟨rfl, rfl⟩
    | succ k ih =>
      intro hk
      have := ih (by omega)
      simp only [allN, usedN, hg k (by omega), this.1, this.2]
      exact ⟨trivial, trivial⟩
  have e1 : allN g (n + 1) = allN f n + pt (g n) := by simp only [allN]; rw [if_pos h0, (hall n (Nat.le_refl _)).1]
  have e2 : usedN g (n + 1) = usedN f n + 1 := by simp only [usedN]; rw [if_pos h0, (hall n (Nat.le_refl _)).2]
  unfold checkE
  rw [if_neg (by omega), if_neg (by omega)]
  have e3 : bigB g (n + 1) most = decide (most < (g n : Int)) := by
    unfold bigB
    rw [decide_eq_decide]
    constructor
    · rintro ⟨j, hj, hl⟩
      rcases Nat.eq_or_lt_of_le (Nat.le_of_lt_succ hj) with e | e
      · subst e; exact hl
      · rw [hg j e] at hl; have := hb j e; omega
    · intro hl; exact ⟨n, by omega, hl⟩
  rw [e3]
  by_cases hbig : most < (g n : Int)
  · rw [decide_eq_true hbig, if_pos rfl, if_pos hbig]
  · rw [decide_eq_false hbig, if_neg (by decide), if_neg hbig, e1, e2]
    have hl15 : g n ≤ 15 := by omega
    have hp := pt_pos hl15
    unfold endE
    have hz : usedN f n = 0 → allN f n = 0 := by
      intro hu
      have : ∀ k, k ≤ n → allN f k = 0 := by
        intro k
        induction k with
        | zero => intro _; rfl
        | succ k ih =>
          intro hk
          simp only [allN]
          rw [ih (by omega), if_neg (by have := used_none n hu k (by omega); omega)]
      exact this n (Nat.le_refl _)
    have hg1 : g n = 1 → pt (g n) = 16384 := fun e => by rw [e]; rfl
    have hg2 : g n ≠ 1 → pt (g n) < 16384 := fun e => by
      have h2 : 2 ≤ g n := by omega
      have := pt_mul h2 hl15
      have h3 : (2 : Nat) ^ (g n - 2) ≥ 1 := Nat.two_pow_pos _
      have h4 : pt 2 = 8192 := rfl
      have h5 : pt (g n) * 1 ≤ pt (g n) * 2 ^ (g n - 2) := Nat.mul_le_mul_left _ h3
      omega
    by_cases hu0 : usedN f n = 0
    · rw [if_pos hu0]
      have hz0 := hz hu0
      by_cases hg : g n = 1
      · have := hg1 hg
        rw [if_pos hg, if_neg (by omega), if_pos (by omega)]
      · have := hg2 hg
        rw [if_neg hg, if_neg (by omega), if_neg (by omega)]
    · rw [if_neg hu0]
      by_cases hu1 : usedN f n = 1
      · rw [if_pos hu1]
        have hw : allN f n = 16384 := by
          rcases ho with ho | ho | ho
          · exfalso
            -- one symbol's code cannot be whole, as each counts at most half
            have hle : ∀ k, k ≤ n → allN f k ≤ 16384 * usedN f k := by
              intro k
              induction k with
              | zero => intro _; exact Nat.le_refl _
              | succ k ih =>
                intro hk
                have := ih (by omega)
                simp only [allN, usedN]
                by_cases hp : 0 < f k
                · rw [if_pos hp, if_pos hp]
                  have hk15 : f k ≤ 15 := by have := hb k (by omega); omega
                  have h2 := pt_mul (show 1 ≤ f k by omega) hk15
                  have h3 : (2 : Nat) ^ (f k - 1) ≥ 1 := Nat.two_pow_pos _
                  have h4 : pt 1 = 16384 := rfl
                  have h5 : pt (f k) * 1 ≤ pt (f k) * 2 ^ (f k - 1) := Nat.mul_le_mul_left _ h3
                  omega
                · rw [if_neg hp, if_neg hp]; omega
            have := hle n (Nat.le_refl _)
            omega
          · omega
          · exact ho.2
        by_cases hg : g n = 1
        · have := hg1 hg
          rw [if_pos hg, if_neg (by omega), if_pos (by omega)]
        · have := hg2 hg
          rw [if_neg hg, if_neg (by omega), if_neg (by omega)]
      · rw [if_neg hu1]
        have hw : allN f n = 32768 := by omega
        rw [if_pos (by omega)]
theorem bigB_mk {f : Nat → Nat} {n : Nat} {most : Int} (h : ∀ j, j < n → (f j : Int) ≤ most) : bigB f n most = false := by
  apply decide_eq_false
  rintro ⟨j, hj, hl⟩
  have := h j hj; omega
theorem bigB_yes {f : Nat → Nat} {n k : Nat} {most : Int} (hk : k < n) (h : most < (f k : Int)) : bigB f n most = true := decide_eq_true ⟨k, hk, h⟩
/-- How many codes are told. -/
def lenC (f : Nat → Nat) (n : Nat) (most : Int) : Nat := if checkE f n most = 0 then n else 0
theorem codeB_lt {f : Nat → Nat} {n : Nat} {most : Int} (h : checkE f n most = 0) (j : Nat) (hj : j < n) : codeB f n j < 4294967296 := by
  obtain ⟨_, h15, _, hb, ha, _⟩ := check_ok h
  have := fits_code hj (fun j hj => by have := hb j hj; omega) ha
  have h2 : (2 : Nat) ^ f j ≤ 2 ^ 15 := Nat.pow_le_pow_right (by omega) (by have := hb j hj; omega)
  have h3 : (2 : Nat) ^ 15 = 32768 := rfl
  omega
/-- The codes, and 0 where there is no symbol. -/
def codeX (f : Nat → Nat) (n : Nat) (most : Int) (j : Nat) : Nat := if checkE f n most = 0 ∧ j < n then codeB f n j else 0
theorem codeX_lt (f : Nat → Nat) (n : Nat) (most : Int) (j : Nat) : codeX f n most j < 4294967296 := by
  unfold codeX; split
  · rename_i h; exact codeB_lt h.1 j h.2
  · omega
theorem codeX_in {f : Nat → Nat} {n : Nat} {most : Int} (h : checkE f n most = 0) (j : Nat) (hj : j < n) : codeX f n most j = codeB f n j := by
  unfold codeX; rw [if_pos ⟨h, hj⟩]
end Go.Proofs.Ytedjapamimhglaa
