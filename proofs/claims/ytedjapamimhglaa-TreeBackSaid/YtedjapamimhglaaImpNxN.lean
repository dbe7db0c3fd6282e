/-
  Layer 5 (tree), numbers alone: a symbol read by counting, bit by bit, is the one that its code tells.
-/
import Derived.Test.YtedjapamimhglaaTreeRdn
namespace Go.Proofs.Ytedjapamimhglaa
theorem tc_succ (f : Nat → Nat) {m i : Nat} (hm : 0 < m) (h : f i = m) : tcN f m (i + 1) = tcN f m i + 1 := by
  simp only [tcN]; rw [if_pos ⟨by omega, h⟩]
theorem tc_mono (f : Nat → Nat) (m : Nat) {a b : Nat} (h : a ≤ b) : tcN f m a ≤ tcN f m b := by
  induction b with
  | zero => rw [show a = 0 by omega]; exact Nat.le_refl _
  | succ b ih =>
    rcases Nat.eq_or_lt_of_le h with h | h
    · subst h; exact Nat.le_refl _
    · exact Nat.le_trans (ih (by omega)) (Nat.le_add_right _ _)
theorem tc_lt (f : Nat → Nat) {m i n : Nat} (hm : 0 < m) (h : f i = m) (hi : i < n) : tcN f m i < tcN f m n := by
  have h1 := tc_mono f m (show i + 1 ≤ n by omega)
  rw [tc_succ f hm h] at h1
  omega
theorem row_at (f : Nat → Nat) {m i : Nat} (hm : 0 < m) (h : f i = m) : ∀ n, i < n → (rowM f m n).getD (tcN f m i) 0 = i
  | 0, hi => absurd hi (by omega)
  | n + 1, hi => by
    simp only [rowM]
    have hlen : (rowM f m n).length = tcN f m n := rowM_length f hm n
    rcases Nat.eq_or_lt_of_le (Nat.le_of_lt_succ hi) with e | e
    · subst e
      rw [if_pos h, List.getD_eq_getElem?_getD, List.getElem?_append_right (by omega), hlen, Nat.sub_self]; rfl
    · have := tc_lt f hm h e
      rw [List.getD_eq_getElem?_getD, List.getElem?_append_left (by omega), ← List.getD_eq_getElem?_getD]
      exact row_at f hm h n e
theorem rank_ex (f : Nat → Nat) {m x : Nat} (hm : 0 < m) : ∀ n, x < tcN f m n → ∃ i, i < n ∧ f i = m ∧ tcN f m i = x
  | 0, h => by simp [tcN] at h
  | n + 1, h => by
    by_cases h1 : x < tcN f m n
    · obtain ⟨i, a, b, c⟩ := rank_ex f hm n h1
      exact ⟨i, by omega, b, c⟩
    · simp only [tcN] at h
      by_cases h2 : 0 < f n ∧ f n = m
      · rw [if_pos h2] at h; exact ⟨n, by omega, h2.2, by omega⟩
      · rw [if_neg h2] at h; omega
theorem code_rank {f : Nat → Nat} {N m i : Nat} (hm : 0 < m) (h15 : m ≤ 15) (h : f i = m) : codeB f N i * pt m = sumTo f N (m - 1) + tcN f m i * pt m := by
  have h1 := codeB_st (n := N) (f := f) (i := i) (by omega) (by omega)
  rw [h] at h1
  rw [h1]
  unfold stN
  rw [inN_cnt f hm]
/-- Within the codes of a length: the symbol. -/
theorem cnt_found {f : Nat → Nat} {N n x v : Nat} (h15 : n + 1 ≤ 15) (hx : x * pt (n + 1) + sumTo f N n = v * pt (n + 1)) (h : x < tcN f (n + 1) N) : fndN f N v (n + 1) N = some ((rowM f (n + 1) N).getD x 0) := by
  have hp := pt_pos h15
  obtain ⟨i, hi, hf, hr⟩ := rank_ex f (by omega) N h
  have hc := code_rank (N := N) (by omega) h15 hf
  rw [hr, Nat.add_sub_cancel] at hc
  have hv : codeB f N i = v := Nat.eq_of_mul_eq_mul_right hp (by omega)
  cases hF : fndN f N v (n + 1) N with
  | none =>
    have := fndN_none.1 hF i hi
    have h2 : isB f N v (n + 1) i = true := decide_eq_true ⟨by omega, hf, hv⟩
    rw [this] at h2; cases h2
  | some j =>
    obtain ⟨hj, hb⟩ := fndN_some hF
    obtain ⟨_, hfj, hcj⟩ := of_decide_eq_true hb
    have hcj2 := code_rank (N := N) (by omega) h15 hfj
    rw [Nat.add_sub_cancel, hcj] at hcj2
    have : tcN f (n + 1) j = x := Nat.eq_of_mul_eq_mul_right hp (by omega)
    rw [← this, row_at f (by omega) hfj N hj]
/-- Behind them: none. -/
theorem cnt_none {f : Nat → Nat} {N n x v : Nat} (h15 : n + 1 ≤ 15) (hx : x * pt (n + 1) + sumTo f N n = v * pt (n + 1)) (h : tcN f (n + 1) N ≤ x) : fndN f N v (n + 1) N = none := by
  have hp := pt_pos h15
  cases hF : fndN f N v (n + 1) N with
  | none => rfl
  | some j =>
    exfalso
    obtain ⟨hj, hb⟩ := fndN_some hF
    obtain ⟨_, hfj, hcj⟩ := of_decide_eq_true hb
    have hcj2 := code_rank (N := N) (by omega) h15 hfj
    rw [Nat.add_sub_cancel, hcj] at hcj2
    have : tcN f (n + 1) j = x := Nat.eq_of_mul_eq_mul_right hp (by omega)
    have := tc_lt f (by omega) hfj hj
    omega
/-- One bit more. -/
theorem cnt_bit {f : Nat → Nat} {N n a v b : Nat} (h15 : n + 1 ≤ 15) (h : a * pt n + sumTo f N n = v * pt n) : (2 * a + b) * pt (n + 1) + sumTo f N n = (2 * v + b) * pt (n + 1) := by
  have hp := pt_mul (show n ≤ n + 1 by omega) h15
  rw [show n + 1 - n = 1 by omega, Nat.pow_one] at hp
  rw [hp] at h
  have e1 : a * (pt (n + 1) * 2) = 2 * a * pt (n + 1) := by rw [Nat.mul_comm 2 a, Nat.mul_assoc, Nat.mul_comm 2]
  have e2 : v * (pt (n + 1) * 2) = 2 * v * pt (n + 1) := by rw [Nat.mul_comm 2 v, Nat.mul_assoc, Nat.mul_comm 2]
  rw [Nat.add_mul, Nat.add_mul]
  omega
theorem cnt_past {f : Nat → Nat} {N n x v : Nat} (hx : x * pt (n + 1) + sumTo f N n = v * pt (n + 1)) (h : tcN f (n + 1) N ≤ x) : (x - tcN f (n + 1) N) * pt (n + 1) + sumTo f N (n + 1) = v * pt (n + 1) := by
  have e : sumTo f N (n + 1) = sumTo f N n + inN f (n + 1) N := rfl
  rw [e, inN_cnt f (by omega), ← hx]
  have : x * pt (n + 1) = (x - tcN f (n + 1) N) * pt (n + 1) + tcN f (n + 1) N * pt (n + 1) := by rw [← Nat.add_mul, Nat.sub_add_cancel h]
  omega
theorem sumC_same {f : Nat → Nat} {n : Nat} (hn : n ≤ 15) : ∀ N, (∀ i, i < N → f i ≤ n) → sumC f N 15 = sumC f N n
  | 0, _ => by rw [sumC_none, sumC_none]
  | N + 1, h => by
    rw [sumC_more, sumC_more, sumC_same hn N (fun i hi => h i (by omega))]
    have := h N (by omega)
    by_cases h0 : 0 < f N
    · rw [if_pos ⟨h0, by omega⟩, if_pos ⟨h0, this⟩]
    · rw [if_neg (fun g => h0 g.1), if_neg (fun g => h0 g.1)]
theorem sumC_more_lt {f : Nat → Nat} {n i : Nat} (hn : n < f i) (h15 : f i ≤ 15) : ∀ N, i < N → sumC f N n < sumC f N 15
  | 0, h => absurd h (by omega)
  | N + 1, h => by
    rw [sumC_more, sumC_more]
    rcases Nat.eq_or_lt_of_le (Nat.le_of_lt_succ h) with e | e
    · subst e
      have := sumC_mono f i (show n ≤ 15 by omega)
      rw [if_neg (by omega), if_pos ⟨by omega, h15⟩]; omega
    · have := sumC_more_lt hn h15 N e
      by_cases h0 : 0 < f N ∧ f N ≤ n
      · rw [if_pos h0, if_pos ⟨h0.1, by omega⟩]; omega
      · rw [if_neg h0]; omega
/-- Whether a code begins so: whether there are longer ones. -/
theorem cnt_more {f : Nat → Nat} {N n v : Nat} (h15 : ∀ j, j < N → f j ≤ 15) (ha : allN f N ≤ 32768) (ho : allN f N = 32768 ∨ usedN f N = 0 ∨ (usedN f N = 1 ∧ allN f N = 16384)) (hn : n ≤ 15) (hv : v < 2 ^ n) (hs : sumTo f N n ≤ v * pt n) :
    morN f N v n N = decide (sumC f N n < sumC f N 15) := by
  rw [Bool.eq_iff_iff, decide_eq_true_eq, morN_true]
  constructor
  · rintro ⟨i, hi, hb⟩
    obtain ⟨h1, _⟩ := of_decide_eq_true hb
    exact sumC_more_lt h1 (h15 i hi) N hi
  · intro hlt
    have hex : ∃ i, i < N ∧ n < f i := by
      rcases Classical.em (∃ i, i < N ∧ n < f i) with h | h
      · exact h
      · have := sumC_same hn N (fun i hi => Nat.le_of_not_lt fun g => h ⟨i, hi, g⟩)
        omega
    obtain ⟨i, hi, hni⟩ := hex
    have hfull : allN f N = 32768 → ∃ i, i < N ∧ onB f N v n i = true := by
      intro hfull
      have hpn := pt_pos hn
      have hlt2 : v * pt n < 32768 := by
        have h1 : pt n * 2 ^ n = 32768 := by
          rw [pt_mul hn (Nat.le_refl 15), show pt 15 = 1 from rfl, Nat.one_mul, ← Nat.pow_add, show 15 - n + n = 15 by omega]
        have := Nat.mul_lt_mul_of_pos_right hv hpn
        rw [Nat.mul_comm (2 ^ n)] at this
        omega
      rw [allN_sum f N h15] at hfull
      obtain ⟨k, hk, h0, hk15, g1, g2⟩ := sum_cover f N 15 (v * pt n) (by omega)
      have hnk : n < f k := by
        rcases Nat.lt_or_ge n (f k) with h | h
        · exact h
        · have e1 := st_end hk rfl h0
          have e2 := sumTo_mono f N h
          omega
      refine ⟨k, hk, decide_eq_true ⟨hnk, ?_⟩⟩
      have hc := codeB_st (n := N) h0 hk15
      have hp := pt_mul (show n ≤ f k by omega) hk15
      rw [← hc] at g1 g2
      have hpk := pt_pos hk15
      have e3 : v * pt n = v * 2 ^ (f k - n) * pt (f k) := by rw [hp, Nat.mul_assoc, Nat.mul_comm (pt (f k))]
      rw [e3] at g1 g2
      have e4 : codeB f N k ≤ v * 2 ^ (f k - n) := Nat.le_of_mul_le_mul_right g1 hpk
      have e5 : v * 2 ^ (f k - n) < codeB f N k + 1 := Nat.lt_of_mul_lt_mul_right (a := pt (f k)) (by rw [Nat.add_mul, Nat.one_mul]; exact g2)
      have e6 : codeB f N k = v * 2 ^ (f k - n) := by omega
      rw [e6, Nat.mul_div_cancel _ (Nat.two_pow_pos _)]
    rcases ho with ho | ho | ho
    · exact hfull ho
    · have := used_none N ho i hi; omega
    · rcases Nat.eq_zero_or_pos n with e | e
      · subst e
        refine ⟨i, hi, decide_eq_true ⟨hni, ?_⟩⟩
        have := fits_code hi h15 ha
        rw [Nat.sub_zero, Nat.div_eq_of_lt this]
        simp at hv; omega
      · exfalso
        have h1 := (one_iff h15).2 ho (f i) (by have := h15 i hi; omega)
        have h2 := tc_lt f (m := f i) (by omega) rfl hi
        have h3 : oneT (f i) = 0 := by unfold oneT; rw [if_neg (by omega)]
        omega
end Go.Proofs.Ytedjapamimhglaa
