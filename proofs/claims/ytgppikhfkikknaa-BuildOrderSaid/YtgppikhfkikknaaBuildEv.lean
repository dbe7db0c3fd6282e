/-
  Layer 4 (build): rows reckoned level by level, till they stay; the chapter's first lengths.
-/
import Derived.Test.YtgppikhfkikknaaBuildItems
namespace Go.Proofs.Ytgppikhfkikknaa
theorem pick_ext {n m : Nat} {w p p' : Nat → Nat} (h : ∀ j, j < m → p j = p' j) (i k : Nat) : pickB n m w p i k = pickB n m w p' i k := by
  unfold pickB
  rw [decide_eq_decide]
  by_cases hk : k < m
  · rw [h k hk]
  · constructor <;> intro _ <;> exact .inl (by omega)
theorem step_ext {n m : Nat} {w p p' : Nat → Nat} (h : ∀ j, j < m → p j = p' j) : ∀ t, stepI n m w p t = stepI n m w p' t
  | 0 => rfl
  | t + 1 => by simp only [stepI]; rw [step_ext h t, pick_ext h]
theorem mrg_ext {n m : Nat} {w p p' : Nat → Nat} (h : ∀ j, j < m → p j = p' j) (t : Nat) : mrg n m w p t = mrg n m w p' t := by
  unfold mrg
  rw [step_ext h t, pick_ext h]
  by_cases hc : pickB n m w p' (stepI n m w p' t) (t - stepI n m w p' t) = true
  · rw [if_pos hc, if_pos hc]
  · rw [if_neg hc, if_neg hc]
    have := of_decide_eq_false (Bool.not_eq_true _ ▸ hc)
    exact h _ (by omega)
theorem prs_ext {M : Nat} {r g : Nat → Nat} (h : ∀ t, t < M → r t = g t) (j : Nat) (hj : j < M / 2) : prs r j = prs g j := by
  unfold prs
  rw [h (2 * j) (by omega), h (2 * j + 1) (by omega)]
theorem lv_step {n k : Nat} {w g h : Nat → Nat} (hg : ∀ t, t < rowLen n k → rowW n w k t = g t) (hh : ∀ t, t < rowLen n (k + 1) → mrg n (rowLen n k / 2) w (prs g) t = h t) : ∀ t, t < rowLen n (k + 1) → rowW n w (k + 1) t = h t := fun t ht => by
  rw [← hh t ht]
  exact mrg_ext (prs_ext hg) t
theorem lv_take {n k : Nat} {w g : Nat → Nat} (hg : ∀ t, t < rowLen n k → rowW n w k t = g t) (t : Nat) : takeI n w (k + 1) t = stepI n (rowLen n k / 2) w (prs g) t := step_ext (prs_ext hg) t
/-- A row that stays. -/
theorem lv_stay {n k M : Nat} {w g : Nat → Nat} (hM : n + M / 2 = M) (hk : rowLen n k = M) (hg : ∀ t, t < M → rowW n w k t = g t) (hs : ∀ t, t < M → mrg n (M / 2) w (prs g) t = g t) : ∀ d, rowLen n (k + d) = M ∧ ∀ t, t < M → rowW n w (k + d) t = g t
  | 0 => ⟨hk, hg⟩
  | d + 1 => by
    have ih := lv_stay hM hk hg hs d
    have e : rowLen n (k + (d + 1)) = M := by
      show n + rowLen n (k + d) / 2 = M
      rw [ih.1, hM]
    refine ⟨e, ?_⟩
    have h := lv_step (n := n) (k := k + d) (w := w) (g := g) (h := g) (by rw [ih.1]; exact ih.2) (fun t ht => by rw [ih.1]; exact hs t (by rw [← e]; exact ht))
    intro t ht
    exact h t (by show t < rowLen n (k + (d + 1)); rw [e]; exact ht)
theorem cnt_zero (n : Nat) (w : Nat → Nat) : ∀ k i, cntN n w k 0 i = 0
  | 0, i => by show (if i < 0 then 1 else 0) = 0; rw [if_neg (by omega)]
  | k + 1, i => by
    have h : takeI n w (k + 1) 0 = 0 := rfl
    show (if i < takeI n w (k + 1) 0 then 1 else 0) + cntN n w k (2 * (0 - takeI n w (k + 1) 0)) i = 0
    rw [h, if_neg (by omega), show 2 * (0 - 0) = 0 by omega, cnt_zero n w k i]
/-- So often item i is in the first t parcels of a row that stays: c rounds down the rows. -/
def cntS (S : Nat → Nat) : Nat → Nat → Nat → Nat
  | 0, _, _ => 0
  | d + 1, t, i => (if i < S t then 1 else 0) + cntS S d (2 * (t - S t)) i
def endS (S : Nat → Nat) : Nat → Nat → Nat
  | 0, t => t
  | d + 1, t => endS S d (2 * (t - S t))
theorem cnt_stay {n k0 : Nat} {w S : Nat → Nat} (h : ∀ d t, takeI n w (k0 + d + 1) t = S t) : ∀ d t i, endS S d t = 0 → cntN n w (k0 + d) t i = cntS S d t i
  | 0, t, i, he => by
    have e : t = 0 := he
    subst e
    exact cnt_zero _ _ _ _
  | d + 1, t, i, he => by
    have e : cntN n w (k0 + (d + 1)) t i = (if i < takeI n w (k0 + d + 1) t then 1 else 0) + cntN n w (k0 + d) (2 * (t - takeI n w (k0 + d + 1) t)) i := rfl
    rw [e, h d t, cnt_stay h d _ i he]; rfl
/-! ### the chapter's first lengths -/
def tab0 (l : List Nat) (i : Nat) : Nat := l.getD i 0
theorem all_of {M : Nat} {f g : Nat → Nat} (h : (List.range M).all (fun t => f t == g t) = true) : ∀ t, t < M → f t = g t := fun t ht => by
  have := List.all_eq_true.1 h t (List.mem_range.2 ht)
  simpa using this
/-- Rows of few items, level by level: the last one stays. -/
theorem ev_fix {n k M : Nat} {w g : Nat → Nat} (hM : n + M / 2 = M) (hk : rowLen n k = M) (hg : ∀ t, t < M → rowW n w k t = g t) (hs : (List.range M).all (fun t => mrg n (M / 2) w (prs g) t == g t) = true) (d t i : Nat) (he : endS (stepI n (M / 2) w (prs g)) d t = 0) :
    cntN n w (k + d) t i = cntS (stepI n (M / 2) w (prs g)) d t i := by
  have hst := lv_stay hM hk hg (all_of hs)
  refine cnt_stay (S := stepI n (M / 2) w (prs g)) (fun d t => ?_) d t i he
  have h := hst d
  have h2 := lv_take (n := n) (k := k + d) (w := w) (g := g) (by rw [h.1]; exact h.2) t
  rw [h.1] at h2
  exact h2
end Go.Proofs.Ytgppikhfkikknaa
