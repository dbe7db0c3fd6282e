/-
  Layer 4 (build), numbers alone: the items in their order, the least lengths by symbol, what they cost, and what follows.
-/
import Derived.Test.YtgppikhfkikknaaBuildMay
namespace Go.Proofs.Ytgppikhfkikknaa
/-- Does symbol i stand ahead of symbol j? -/
def aheadB (F : Nat → Nat) (i j : Nat) : Bool := decide (F i < F j ∨ (F i = F j ∧ i < j))
/-- Symbol i put in: behind all whose frequency is not greater. -/
def insI (F : Nat → Nat) (i : Nat) : List Nat → List Nat
  | [] => [i]
  | j :: l => if F j ≤ F i then j :: insI F i l else i :: j :: l
def itemsL (F : Nat → Nat) : Nat → List Nat
  | 0 => []
  | n + 1 => if 0 < F n then insI F n (itemsL F n) else itemsL F n
def nI (F : Nat → Nat) : Nat → Nat
  | 0 => 0
  | n + 1 => nI F n + if 0 < F n then 1 else 0
theorem ins_length (F : Nat → Nat) (i : Nat) : ∀ l, (insI F i l).length = l.length + 1
  | [] => rfl
  | j :: l => by
    simp only [insI]; split
    · simp only [List.length_cons]; rw [ins_length F i l]
    · rfl
theorem items_length (F : Nat → Nat) : ∀ n, (itemsL F n).length = nI F n
  | 0 => rfl
  | n + 1 => by
    simp only [itemsL, nI]
    split
    · rw [ins_length, items_length F n]
    · rw [items_length F n]; rfl
theorem ins_mem (F : Nat → Nat) (i x : Nat) : ∀ l, x ∈ insI F i l ↔ x = i ∨ x ∈ l
  | [] => by simp [insI]
  | j :: l => by
    simp only [insI]; split
    · simp only [List.mem_cons]; rw [ins_mem F i x l]
      constructor
      · rintro (h | h | h)
        · exact .inr (.inl h)
        · exact .inl h
        · exact .inr (.inr h)
      · rintro (h | h | h)
        · exact .inr (.inl h)
        · exact .inl h
        · exact .inr (.inr h)
    · simp only [List.mem_cons]
theorem items_mem (F : Nat → Nat) (x : Nat) : ∀ n, x ∈ itemsL F n ↔ x < n ∧ 0 < F x
  | 0 => by simp [itemsL]
  | n + 1 => by
    simp only [itemsL]
    split
    · rename_i h
      rw [ins_mem, items_mem F x n]
      constructor
      · rintro (rfl | h2)
        · exact ⟨by omega, h⟩
        · exact ⟨by omega, h2.2⟩
      · rintro ⟨h1, h2⟩
        by_cases e : x = n
        · exact .inl e
        · exact .inr ⟨by omega, h2⟩
    · rename_i h
      rw [items_mem F x n]
      constructor
      · rintro ⟨h1, h2⟩; exact ⟨by omega, h2⟩
      · rintro ⟨h1, h2⟩
        refine ⟨?_, h2⟩
        by_cases e : x = n
        · subst e; exact absurd h2 h
        · omega
/-- In order: each stands ahead of all behind it. -/
def InOrder (F : Nat → Nat) : List Nat → Prop
  | [] => True
  | j :: l => (∀ x ∈ l, aheadB F j x = true) ∧ InOrder F l
theorem ahead_iff {F : Nat → Nat} {i j : Nat} : aheadB F i j = true ↔ (F i < F j ∨ (F i = F j ∧ i < j)) := by unfold aheadB; exact decide_eq_true_iff
theorem ins_order (F : Nat → Nat) (i : Nat) : ∀ l, InOrder F l → (∀ x ∈ l, x < i) → InOrder F (insI F i l)
  | [], _, _ => ⟨fun x hx => by simp at hx, trivial⟩
  | j :: l, h, hx => by
    simp only [insI]
    have hj := hx j (by simp)
    split
    · rename_i hle
      refine ⟨fun x h2 => ?_, ins_order F i l h.2 (fun x h2 => hx x (by simp [h2]))⟩
      rcases (ins_mem F i x l).1 h2 with rfl | h2
      · exact ahead_iff.2 (by omega)
      · exact h.1 x h2
    · rename_i hle
      refine ⟨fun x h2 => ?_, h⟩
      rcases List.mem_cons.1 h2 with rfl | h2
      · exact ahead_iff.2 (by omega)
      · have := ahead_iff.1 (h.1 x h2)
        exact ahead_iff.2 (by omega)
theorem items_order (F : Nat → Nat) : ∀ n, InOrder F (itemsL F n)
  | 0 => trivial
  | n + 1 => by
    simp only [itemsL]
    split
    · exact ins_order F n _ (items_order F n) (fun x hx => ((items_mem F x n).1 hx).1)
    · exact items_order F n
theorem order_at {F : Nat → Nat} : ∀ (l : List Nat), InOrder F l → ∀ r s, r < s → s < l.length → aheadB F (l.getD r 0) (l.getD s 0) = true
  | [], _, r, s, _, hs => absurd hs (by simp)
  | j :: l, h, 0, s + 1, _, hs => by
    have hs' : s < l.length := by simpa using hs
    have : (j :: l).getD (s + 1) 0 = l[s] := by simp [List.getD, hs']
    rw [this]
    exact h.1 _ (List.getElem_mem hs')
  | j :: l, h, r + 1, s + 1, hrs, hs => by
    have h2 := order_at l h.2 r s (by omega) (by simpa using hs)
    have e1 : ∀ t, (j :: l).getD (t + 1) 0 = l.getD t 0 := fun t => by simp [List.getD]
    rw [e1, e1]; exact h2
/-- The frequency of the item number r. -/
def itemW (F : Nat → Nat) (n r : Nat) : Nat := F ((itemsL F n).getD r 0)
theorem itemW_sorted (F : Nat → Nat) (n : Nat) : Sorted (nI F n) (itemW F n) := by
  intro i j hij hj
  rcases Nat.eq_or_lt_of_le hij with e | e
  · subst e; exact Nat.le_refl _
  · have := ahead_iff.1 (order_at (itemsL F n) (items_order F n) i j e (by rw [items_length]; exact hj))
    unfold itemW; omega
/-! ### sums over items and over symbols -/
theorem sums_same {c d : Nat → Nat} : ∀ n, (∀ i, i < n → c i = d i) → sums c n = sums d n
  | 0, _ => rfl
  | n + 1, h => by simp only [sums]; rw [sums_same n (fun i hi => h i (by omega)), h n (by omega)]
theorem sums_front (c : Nat → Nat) : ∀ n, sums c (n + 1) = c 0 + sums (fun i => c (i + 1)) n
  | 0 => by simp [sums]
  | n + 1 => by
    have := sums_front c n
    have e : sums c (n + 1 + 1) = sums c (n + 1) + c (n + 1) := rfl
    rw [e, this]; simp only [sums]; omega
def sumL (g : Nat → Nat) : List Nat → Nat
  | [] => 0
  | j :: l => g j + sumL g l
theorem sumL_sums (g : Nat → Nat) : ∀ l : List Nat, sums (fun r => g (l.getD r 0)) l.length = sumL g l
  | [] => rfl
  | j :: l => by
    rw [List.length_cons, sums_front]
    have e1 : ∀ t, (j :: l).getD (t + 1) 0 = l.getD t 0 := fun t => by simp [List.getD]
    have e0 : (j :: l).getD 0 0 = j := rfl
    simp only [e1, e0, sumL]
    rw [sumL_sums g l]
theorem sumL_ins (g F : Nat → Nat) (i : Nat) : ∀ l, sumL g (insI F i l) = sumL g l + g i
  | [] => by simp [insI, sumL]
  | j :: l => by
    simp only [insI]; split
    · simp only [sumL]; rw [sumL_ins g F i l]; omega
    · simp only [sumL]; omega
theorem sumL_items (g F : Nat → Nat) : ∀ n, sumL g (itemsL F n) = sums (fun i => if 0 < F i then g i else 0) n
  | 0 => rfl
  | n + 1 => by
    simp only [itemsL, sums]
    split
    · rw [sumL_ins, sumL_items g F n]
    · rw [sumL_items g F n]; rfl
theorem items_sum (g F : Nat → Nat) (n : Nat) : sums (fun r => g ((itemsL F n).getD r 0)) (nI F n) = sums (fun i => if 0 < F i then g i else 0) n := by
  rw [← items_length, sumL_sums, sumL_items]
theorem dot_sums (w c : Nat → Nat) : ∀ n, dot w c n = sums (fun i => w i * c i) n
  | 0 => rfl
  | n + 1 => by simp only [dot, sums]; rw [dot_sums w c n]
theorem kraft_sum (L : Nat) (m : Nat → Nat) : ∀ n, kraft L m n = sums (fun i => 2 ^ (L - m i)) n
  | 0 => rfl
  | n + 1 => by simp only [kraft, sums]; rw [kraft_sum L m n]
/-! ### the least lengths -/
/-- A symbol's place among the items. -/
def rankN (F : Nat → Nat) (n i : Nat) : Nat := (itemsL F n).idxOf i
def lenB (F : Nat → Nat) (n L i : Nat) : Nat :=
  if F i = 0 then 0 else if nI F n = 1 then 1 else cntN (nI F n) (itemW F n) (L - 1) (2 * nI F n - 2) (rankN F n i)
theorem rank_at {F : Nat → Nat} {n i : Nat} (hi : i < n) (h : 0 < F i) : rankN F n i < nI F n ∧ (itemsL F n).getD (rankN F n i) 0 = i := by
  have hm : i ∈ itemsL F n := (items_mem F i n).2 ⟨hi, h⟩
  have hl : rankN F n i < (itemsL F n).length := List.idxOf_lt_length_of_mem hm
  refine ⟨by rw [← items_length]; exact hl, ?_⟩
  rw [List.getD_eq_getElem?_getD, List.getElem?_eq_getElem hl]
  exact List.getElem_idxOf hl
theorem rank_of {F : Nat → Nat} {n r : Nat} (hr : r < nI F n) : rankN F n ((itemsL F n).getD r 0) = r ∧ (itemsL F n).getD r 0 < n ∧ 0 < F ((itemsL F n).getD r 0) := by
  have hl : r < (itemsL F n).length := by rw [items_length]; exact hr
  have hm : (itemsL F n).getD r 0 ∈ itemsL F n := by
    rw [List.getD_eq_getElem?_getD, List.getElem?_eq_getElem hl]; exact List.getElem_mem hl
  have h1 := (items_mem F _ n).1 hm
  have h2 := rank_at h1.1 h1.2
  refine ⟨?_, h1⟩
  rcases Nat.lt_trichotomy (rankN F n ((itemsL F n).getD r 0)) r with h | h | h
  · have := ahead_iff.1 (order_at (itemsL F n) (items_order F n) _ _ h hl)
    rw [h2.2] at this; omega
  · exact h
  · have := ahead_iff.1 (order_at (itemsL F n) (items_order F n) _ _ h (by rw [items_length]; exact h2.1))
    rw [h2.2] at this; omega
theorem nI_le (F : Nat → Nat) : ∀ n, nI F n ≤ n
  | 0 => Nat.le_refl _
  | n + 1 => by have := nI_le F n; simp only [nI]; split <;> omega
theorem nI_pos {F : Nat → Nat} {n i : Nat} (hi : i < n) (h : 0 < F i) : 0 < nI F n := by
  have := rank_at hi h; omega
theorem lenB_rank {F : Nat → Nat} {n L r : Nat} (hr : r < nI F n) (h2 : 2 ≤ nI F n) : lenB F n L ((itemsL F n).getD r 0) = cntN (nI F n) (itemW F n) (L - 1) (2 * nI F n - 2) r := by
  have h := rank_of hr
  unfold lenB
  rw [if_neg (by omega), if_neg (by omega), h.1]
/-- The least lengths of items: at least 1, at most L. -/
theorem lenB_bd {F : Nat → Nat} {n L i : Nat} (hL : 0 < L) (hn : nI F n ≤ 2 ^ L) (hi : i < n) (h : 0 < F i) : 1 ≤ lenB F n L i ∧ lenB F n L i ≤ L := by
  unfold lenB
  rw [if_neg (by omega)]
  have hp := nI_pos hi h
  by_cases h1 : nI F n = 1
  · rw [if_pos h1]; omega
  · rw [if_neg h1]
    exact least_pos (itemW_sorted F n) hL (by omega) hn (rank_at hi h).1
theorem lenB_le (F : Nat → Nat) {n L : Nat} (hL : 0 < L) (i : Nat) : lenB F n L i ≤ L := by
  unfold lenB
  split
  · omega
  · split
    · omega
    · have := cnt_le (nI F n) (itemW F n) (L - 1) (2 * nI F n - 2) (rankN F n i)
      omega
/-- Of two items the rarer one, or the earlier one, is not shorter. -/
theorem lenB_order {F : Nat → Nat} {n L i k : Nat} (hi : i < n) (hk : k < n) (h1 : 0 < F i) (h2 : 0 < F k) (h : F i < F k ∨ (F i = F k ∧ i < k)) : lenB F n L k ≤ lenB F n L i := by
  unfold lenB
  rw [if_neg (show ¬ F k = 0 by omega), if_neg (show ¬ F i = 0 by omega)]
  by_cases e1 : nI F n = 1
  · rw [if_pos e1, if_pos e1]; exact Nat.le_refl _
  · rw [if_neg e1, if_neg e1]
    apply cnt_mono
    have r1 := rank_at hi h1
    have r2 := rank_at hk h2
    rcases Nat.lt_trichotomy (rankN F n i) (rankN F n k) with g | g | g
    · omega
    · omega
    · have := ahead_iff.1 (order_at (itemsL F n) (items_order F n) _ _ g (by rw [items_length]; exact r1.1))
      rw [r1.2, r2.2] at this; omega
/-! ### what they cost -/
def costN (F m : Nat → Nat) (n : Nat) : Nat := sums (fun i => F i * m i) n
theorem cost_items (F m : Nat → Nat) (n : Nat) : costN F m n = dot (itemW F n) (fun r => m ((itemsL F n).getD r 0)) (nI F n) := by
  rw [dot_sums]
  have h := items_sum (fun i => F i * m i) F n
  unfold itemW
  rw [h]
  unfold costN
  apply sums_same
  intro i _
  by_cases h0 : 0 < F i
  · rw [if_pos h0]
  · rw [if_neg h0, show F i = 0 by omega, Nat.zero_mul]
/-- What lengths count together, of 2^L, those that are not 0. -/
def countN (L : Nat) (m : Nat → Nat) (n : Nat) : Nat := sums (fun i => if 0 < m i then 2 ^ (L - m i) else 0) n
theorem sums_le {c d : Nat → Nat} : ∀ n, (∀ i, i < n → c i ≤ d i) → sums c n ≤ sums d n
  | 0, _ => Nat.le_refl _
  | n + 1, h => by
    have h1 := sums_le n (fun i hi => h i (by omega))
    have h2 := h n (by omega)
    simp only [sums]; omega
theorem kraft_items {F m : Nat → Nat} {n L : Nat} (hm : ∀ i, i < n → 0 < F i → 0 < m i) : kraft L (fun r => m ((itemsL F n).getD r 0)) (nI F n) ≤ countN L m n := by
  rw [kraft_sum, items_sum (fun i => 2 ^ (L - m i)) F n]
  apply sums_le
  intro i hi
  by_cases h0 : 0 < F i
  · rw [if_pos h0, if_pos (hm i hi h0)]; exact Nat.le_refl _
  · rw [if_neg h0]; exact Nat.zero_le _
/-- THE STAGE'S THEOREM, by numbers. -/
theorem build_least {F m : Nat → Nat} {n L : Nat} (hL : 0 < L) (hm : ∀ i, i < n → m i ≤ L ∧ (0 < F i → 0 < m i)) (hk : countN L m n ≤ 2 ^ L) : costN F (lenB F n L) n ≤ costN F m n := by
  by_cases h2 : 2 ≤ nI F n
  · rw [cost_items F m, cost_items F (lenB F n L)]
    have e : dot (itemW F n) (fun r => lenB F n L ((itemsL F n).getD r 0)) (nI F n) = dot (itemW F n) (cntN (nI F n) (itemW F n) (L - 1) (2 * nI F n - 2)) (nI F n) := by
      rw [dot_sums, dot_sums]
      apply sums_same
      intro r hr
      rw [lenB_rank hr h2]
    rw [e]
    apply least_cost (itemW_sorted F n) hL _ (Nat.le_trans (kraft_items (fun i hi h => (hm i hi).2 h)) hk) h2
    intro r hr
    have h := rank_of hr
    have := hm _ h.2.1
    exact ⟨this.2 h.2.2, this.1⟩
  · apply sums_le
    intro i hi
    by_cases h0 : 0 < F i
    · have hp := nI_pos hi h0
      have h1 : lenB F n L i = 1 := by unfold lenB; rw [if_neg (by omega), if_pos (by omega)]
      rw [h1]
      exact Nat.mul_le_mul_left _ ((hm i hi).2 h0)
    · rw [show F i = 0 by omega, Nat.zero_mul]; exact Nat.zero_le _
/-- They are whole, or one has length 1. -/
theorem build_count {F : Nat → Nat} {n L : Nat} (hL : 0 < L) (hn : nI F n ≤ 2 ^ L) : countN L (lenB F n L) n = if 2 ≤ nI F n then 2 ^ L else if nI F n = 1 then 2 ^ (L - 1) else 0 := by
  have e : countN L (lenB F n L) n = sums (fun i => if 0 < F i then 2 ^ (L - lenB F n L i) else 0) n := by
    apply sums_same
    intro i hi
    by_cases h0 : 0 < F i
    · rw [if_pos h0, if_pos (by have := lenB_bd hL hn hi h0; omega)]
    · rw [if_neg h0, if_neg (by unfold lenB; rw [if_pos (by omega)]; omega)]
  rw [e, ← items_sum (fun i => 2 ^ (L - lenB F n L i)) F n]
  by_cases h2 : 2 ≤ nI F n
  · rw [if_pos h2, ← least_whole (itemW_sorted F n) hL h2 hn, kraft_sum]
    apply sums_same
    intro r hr
    rw [lenB_rank hr h2]
  · rw [if_neg h2]
    by_cases h1 : nI F n = 1
    · have h := rank_of (show 0 < nI F n by omega)
      have hl : lenB F n L ((itemsL F n).getD 0 0) = 1 := by unfold lenB; rw [if_neg (by omega), if_pos h1]
      rw [if_pos h1, h1]
      simp only [sums]
      rw [hl]; omega
    · rw [if_neg h1, show nI F n = 0 by omega]; rfl
/-! ### a number in all frequencies -/
theorem ins_mul {c : Nat} (hc : 0 < c) (F : Nat → Nat) (i : Nat) : ∀ l, insI (fun i => c * F i) i l = insI F i l
  | [] => rfl
  | j :: l => by
    simp only [insI]
    rw [ins_mul hc F i l]
    by_cases h : F j ≤ F i
    · rw [if_pos h, if_pos (Nat.mul_le_mul_left c h)]
    · rw [if_neg h, if_neg (fun g => h (Nat.le_of_mul_le_mul_left g hc))]
theorem items_mul {c : Nat} (hc : 0 < c) (F : Nat → Nat) : ∀ n, itemsL (fun i => c * F i) n = itemsL F n
  | 0 => rfl
  | n + 1 => by
    simp only [itemsL]
    rw [items_mul hc F n, ins_mul hc]
    by_cases h : 0 < F n
    · rw [if_pos h, if_pos (Nat.mul_pos hc h)]
    · rw [if_neg h, if_neg (by rw [show F n = 0 by omega]; simp)]
theorem nI_mul {c : Nat} (hc : 0 < c) (F : Nat → Nat) (n : Nat) : nI (fun i => c * F i) n = nI F n := by rw [← items_length, items_mul hc, items_length]
theorem lenB_mul {c : Nat} (hc : 0 < c) (F : Nat → Nat) (n L i : Nat) : lenB (fun i => c * F i) n L i = lenB F n L i := by
  have e1 : itemW (fun i => c * F i) n = fun r => c * itemW F n r := by funext r; unfold itemW; rw [items_mul hc]
  unfold lenB
  rw [nI_mul hc, e1, cnt_mul hc]
  have e2 : rankN (fun i => c * F i) n i = rankN F n i := by unfold rankN; rw [items_mul hc]
  rw [e2]
  by_cases h : F i = 0
  · rw [if_pos h, if_pos (by show c * F i = 0; rw [h, Nat.mul_zero])]
  · rw [if_neg h, if_neg (fun g => by rcases Nat.mul_eq_zero.1 g with g | g <;> omega)]
/-- More bits never cost more. -/
theorem build_wider {F : Nat → Nat} {n L : Nat} (hL : 0 < L) (hn : nI F n ≤ 2 ^ L) : costN F (lenB F n (L + 1)) n ≤ costN F (lenB F n L) n := by
  have h2 : (2 : Nat) ^ (L + 1) = 2 ^ L * 2 := Nat.pow_succ _ _
  apply build_least (by omega)
  · intro i hi
    refine ⟨by have := lenB_le F (n := n) hL i; omega, fun h => ?_⟩
    have := lenB_bd hL hn hi h; omega
  · have h := build_count (F := F) hL hn
    have e : countN (L + 1) (lenB F n L) n = 2 * countN L (lenB F n L) n := by
      unfold countN
      have : ∀ k, sums (fun i => if 0 < lenB F n L i then 2 ^ (L + 1 - lenB F n L i) else 0) k = 2 * sums (fun i => if 0 < lenB F n L i then 2 ^ (L - lenB F n L i) else 0) k := by
        intro k
        induction k with
        | zero => rfl
        | succ k ih =>
          simp only [sums]
          rw [ih, Nat.mul_add]
          have hl := lenB_le F (n := n) hL k
          by_cases g : 0 < lenB F n L k
          · rw [if_pos g, if_pos g, show L + 1 - lenB F n L k = L - lenB F n L k + 1 by omega, Nat.pow_succ]; omega
          · rw [if_neg g, if_neg g]
      exact this n
    rw [e, h]
    have h3 : (2 : Nat) ^ (L - 1) ≤ 2 ^ L := Nat.pow_le_pow_right (by omega) (by omega)
    split
    · omega
    · split <;> omega
end Go.Proofs.Ytgppikhfkikknaa
