/-
  Layer 5 (tree), numbers alone: what is read is a symbol with its code there; where there are 15 bits of a whole tree there is one; what stands behind counts for nothing.
-/
import Derived.Test.YtedjapamimhglaaTreeExt
namespace Go.Proofs.Ytedjapamimhglaa
theorem bv_prefix (g : Nat → Nat) (a k : Nat) : ∀ d, bvN g a (k + d) / 2 ^ d = bvN g a k
  | 0 => by simp
  | d + 1 => by
    have h := bitAt_lt g (a + (k + d))
    have e : bvN g a (k + (d + 1)) / 2 = bvN g a (k + d) := by
      show (2 * bvN g a (k + d) + bitAt g (a + (k + d))) / 2 = _
      omega
    rw [Nat.pow_succ, Nat.mul_comm, ← Nat.div_div_eq_div_mul, e]
    exact bv_prefix g a k d
/-- What is read without an error has its code there. -/
theorem read_found {f : Nat → Nat} {N : Nat} {g : Nat → Nat} {l a : Nat} : ∀ fuel k, (readR f N g l a fuel k).2.2 = 0 →
    ∃ k', (readR f N g l a fuel k).2.1 = a + k' ∧ (readR f N g l a fuel k).1 < N ∧ isB f N (bvN g a k') k' (readR f N g l a fuel k).1 = true
  | 0, _, h => by simp [readR] at h
  | fuel + 1, k, h => by
    simp only [readR] at h ⊢
    cases hf : fndN f N (bvN g a k) k N with
    | some i => exact ⟨k, rfl, (fndN_some hf).1, (fndN_some hf).2⟩
    | none =>
      rw [hf] at h
      simp only [] at h ⊢
      by_cases h1 : morN f N (bvN g a k) k N = false
      · rw [if_pos h1] at h; simp at h
      · rw [if_neg h1] at h ⊢
        by_cases h2 : 8 * l ≤ a + k
        · rw [if_pos h2] at h; simp at h
        · rw [if_neg h2] at h ⊢
          exact read_found fuel (k + 1) h
/-- Where a code stands something is read. -/
theorem read_ok {f : Nat → Nat} {N : Nat} {g : Nat → Nat} {l a i : Nat} (hi : i < N) (h15 : f i ≤ 15) (h0 : 0 < f i) (hc : codeB f N i = bvN g a (f i)) (hl : a + f i ≤ 8 * l) : ∀ d k, k + d = f i → (readR f N g l a (17 - k) k).2.2 = 0 := by
  intro d
  induction d with
  | zero =>
    intro k hk
    rw [show 17 - k = (16 - k) + 1 by omega]
    simp only [readR]
    cases hf : fndN f N (bvN g a k) k N with
    | some j => rfl
    | none =>
      have := fndN_none.1 hf i hi
      have h2 : isB f N (bvN g a k) k i = true := decide_eq_true ⟨by omega, by omega, by rw [hc, show k = f i by omega]⟩
      rw [this] at h2; cases h2
  | succ d ih =>
    intro k hk
    rw [show 17 - k = (16 - k) + 1 by omega]
    simp only [readR]
    cases hf : fndN f N (bvN g a k) k N with
    | some j => rfl
    | none =>
      have hm : morN f N (bvN g a k) k N = true := morN_true.2 ⟨i, hi, decide_eq_true ⟨by omega, by
        rw [hc, show f i - k = d + 1 by omega, show f i = k + (d + 1) by omega]; exact bv_prefix g a k (d + 1)⟩⟩
      simp only []
      rw [if_neg (by rw [hm]; decide), if_neg (by omega)]
      have := ih (k + 1) (by omega)
      rw [show 17 - (k + 1) = 16 - k by omega] at this
      exact this
theorem hits_ex {f : Nat → Nat} {n r : Nat} : ∀ {k}, hits f n r k = 1 → ∃ i, i < k ∧ beginsB (codeB f n i) (f i) r 15 = true
  | 0, h => by simp [hits] at h
  | k + 1, h => by
    simp only [hits] at h
    cases hb : beginsB (codeB f n k) (f k) r 15 with
    | true => exact ⟨k, by omega, hb⟩
    | false =>
      rw [hb] at h
      obtain ⟨i, hi, h2⟩ := hits_ex (by simpa using h)
      exact ⟨i, by omega, h2⟩
set_option maxRecDepth 100000 in
/-- A tree of two symbols at least, and 15 bits: a symbol. -/
theorem full_read {c : Nat → Int} {s : List Int} {f : Nat → Nat} (hf : IsTree c s f) (h2 : 2 ≤ s.length) {g : Nat → Nat} {l a : Nat} (hl : a + 15 ≤ 8 * l) :
    ∃ i k, readR f 320 g l a 17 0 = (i, a + k, 0) ∧ 1 ≤ k ∧ k ≤ 15 ∧ i < 320 ∧ f i = k := by
  have hu : ¬ usedN f 320 < 2 := by rw [usedN_sum f 320 (isTree_lens hf), ← (isTree_length hf).1]; omega
  have hr : bvN g a 15 < 32768 := bvN_lt g a 15
  have h1 := (hits_full hf.1 hr).2.resolve_left hu
  obtain ⟨i, hi, hb⟩ := hits_ex h1
  obtain ⟨b0, b1, b2⟩ := of_decide_eq_true hb
  have hc : codeB f 320 i = bvN g a (f i) := by
    rw [← b2]
    have := bv_prefix g a (f i) (15 - f i)
    rw [show f i + (15 - f i) = 15 by omega] at this
    exact this
  have hok : (readR f 320 g l a 17 0).2.2 = 0 := read_ok (l := l) hi b1 b0 hc (by omega) (f i) 0 (by omega)
  obtain ⟨k, e1, e2, e3⟩ := read_found 17 0 hok
  obtain ⟨c0, c1, _⟩ := of_decide_eq_true e3
  refine ⟨(readR f 320 g l a 17 0).1, k, ?_, by omega, ?_, e2, c1⟩
  · rw [← e1]
    have : (readR f 320 g l a 17 0).2.2 = 0 := hok
    rcases hP : readR f 320 g l a 17 0 with ⟨p1, p2, p3⟩
    rw [hP] at this
    simp only at this
    rw [this]
  · have := isTree_lens hf _ e2
    omega
set_option maxRecDepth 100000 in
/-- A symbol that has a length is in the row. -/
theorem sym_in {c : Nat → Int} {s : List Int} {f : Nat → Nat} (hf : IsTree c s f) {i : Nat} (hi : i < 320) (h0 : 0 < f i) : ∃ j, j < s.length ∧ s.getD j 0 = (i : Int) := by
  have h15 := isTree_lens hf i hi
  have hmem : i ∈ rowM f (f i) 320 := (rowM_mem f _ i 320).2 ⟨hi, rfl⟩
  obtain ⟨q, hq, he⟩ := List.mem_iff_getElem.1 hmem
  have hq2 : q < tcN f (f i) 320 := by rw [← rowM_length f h0]; exact hq
  have h1 := (sym_at hf h0 h15 hq2).1
  have h5 : (rowM f (f i) 320).getD q 0 = i := by rw [List.getD_eq_getElem?_getD, List.getElem?_eq_getElem hq]; exact he
  rw [h5] at h1
  have hlen := (isTree_length hf).1
  have h6 : sumC f 320 (f i - 1) + q < s.length := by
    rw [hlen]
    have h3 := sumC_mono f 320 h15
    have h4 : sumC f 320 (f i - 1 + 1) = sumC f 320 (f i - 1) + tcN f (f i - 1 + 1) 320 := rfl
    rw [show f i - 1 + 1 = f i by omega] at h4
    omega
  exact ⟨_, h6, h1⟩
/-! ### other bytes behind -/
theorem bv_congr {g h : Nat → Nat} {a : Nat} : ∀ n, (∀ j, j < n → bitAt g (a + j) = bitAt h (a + j)) → bvN g a n = bvN h a n
  | 0, _ => rfl
  | n + 1, e => by simp only [bvN]; rw [bv_congr n (fun j hj => e j (by omega)), e n (by omega)]
/-- With other bytes behind the same is read, unless the bytes ended. -/
theorem read_alone {f : Nat → Nat} {N : Nat} {g h : Nat → Nat} {l m a : Nat} (hm : l ≤ m) (hb : ∀ j, j < 8 * l → bitAt g j = bitAt h j) : ∀ fuel k, (k = 0 ∨ a + k ≤ 8 * l) →
    readR f N g l a fuel k = readR f N h m a fuel k ∨ (readR f N g l a fuel k = (0, 0, 10) ∧ ((readR f N h m a fuel k).2.2 = 0 ∨ (readR f N h m a fuel k).2.2 = 10 ∨ (readR f N h m a fuel k).2.2 = 50))
  | 0, _, _ => .inl rfl
  | fuel + 1, k, hk => by
    have e : bvN g a k = bvN h a k := by
      rcases hk with rfl | hk
      · rfl
      · exact bv_congr k (fun j hj => hb _ (by omega))
    simp only [readR]
    rw [← e]
    cases hf : fndN f N (bvN g a k) k N with
    | some i => exact .inl rfl
    | none =>
      simp only []
      by_cases h1 : morN f N (bvN g a k) k N = false
      · rw [if_pos h1, if_pos h1]; exact .inl rfl
      · rw [if_neg h1, if_neg h1]
        by_cases h2 : 8 * l ≤ a + k
        · rw [if_pos h2]
          refine .inr ⟨rfl, ?_⟩
          by_cases h3 : 8 * m ≤ a + k
          · rw [if_pos h3]; exact .inr (.inl rfl)
          · rw [if_neg h3]
            have key : ∀ fuel k, (readR f N h m a fuel k).2.2 = 0 ∨ (readR f N h m a fuel k).2.2 = 10 ∨ (readR f N h m a fuel k).2.2 = 50 := by
              intro fuel
              induction fuel with
              | zero => intro k; exact .inr (.inr rfl)
              | succ fuel ih =>
                intro k
                simp only [readR]
                cases fndN f N (bvN h a k) k N with
                | some i => exact .inl rfl
                | none =>
                  simp only []
                  split
                  · exact .inr (.inr rfl)
                  · split
                    · exact .inr (.inl rfl)
                    · exact ih (k + 1)
            exact key fuel (k + 1)
        · rw [if_neg h2, if_neg (by omega)]
          exact read_alone hm hb fuel (k + 1) (.inr (by omega))
end Go.Proofs.Ytedjapamimhglaa
