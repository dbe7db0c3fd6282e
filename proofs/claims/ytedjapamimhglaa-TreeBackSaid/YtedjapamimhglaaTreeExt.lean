/-
  Layer 5 (tree), numbers alone: lengths within all symbols; their tree is one, and is read by the same codes.
-/
import Derived.Test.YtedjapamimhglaaTreeRnx
namespace Go.Proofs.Ytedjapamimhglaa
/-- Lengths for all symbols that may be. -/
def extF (n : Nat) (f : Nat → Nat) (j : Nat) : Nat := if j < n then f j else 0
theorem extF_in {n j : Nat} (f : Nat → Nat) (h : j < n) : extF n f j = f j := by unfold extF; rw [if_pos h]
theorem extF_out {n j : Nat} (f : Nat → Nat) (h : n ≤ j) : extF n f j = 0 := by unfold extF; rw [if_neg (by omega)]
theorem ext_sums {n : Nat} (f : Nat → Nat) : ∀ k, n ≤ k → allN (extF n f) k = allN f n ∧ usedN (extF n f) k = usedN f n := by
  have h0 : ∀ k, k ≤ n → allN (extF n f) k = allN f k ∧ usedN (extF n f) k = usedN f k := by
    intro k
    induction k with
    | zero => intro _; exact ⟨rfl, rfl⟩
    | succ k ih => intro hk; have := ih (by omega); simp only [allN, usedN, extF_in f (show k < n by omega), this.1, this.2]; exact ⟨trivial, trivial⟩
  intro k
  induction k with
  | zero => intro hk; rw [show n = 0 by omega]; exact ⟨rfl, rfl⟩
  | succ k ih =>
    intro hk
    rcases Nat.eq_or_lt_of_le hk with e | e
    · rw [← e]; exact h0 n (Nat.le_refl _)
    · have := ih (by omega)
      simp only [allN, usedN, extF_out f (show n ≤ k by omega)]
      exact ⟨by simpa using this.1, by simpa using this.2⟩
theorem ext_rows {n m : Nat} (f : Nat → Nat) (hm : 0 < m) : ∀ k, n ≤ k → tcN (extF n f) m k = tcN f m n ∧ rowM (extF n f) m k = rowM f m n ∧ inN (extF n f) m k = inN f m n := by
  have h0 : ∀ k, k ≤ n → tcN (extF n f) m k = tcN f m k ∧ rowM (extF n f) m k = rowM f m k ∧ inN (extF n f) m k = inN f m k := by
    intro k
    induction k with
    | zero => intro _; exact ⟨rfl, rfl, rfl⟩
    | succ k ih => intro hk; have := ih (by omega); simp only [tcN, rowM, inN, extF_in f (show k < n by omega), this.1, this.2.1, this.2.2]; exact ⟨trivial, trivial, trivial⟩
  intro k
  induction k with
  | zero => intro hk; rw [show n = 0 by omega]; exact ⟨rfl, rfl, rfl⟩
  | succ k ih =>
    intro hk
    rcases Nat.eq_or_lt_of_le hk with e | e
    · rw [← e]; exact h0 n (Nat.le_refl _)
    · have := ih (by omega)
      simp only [tcN, rowM, inN, extF_out f (show n ≤ k by omega)]
      rw [if_neg (by omega), if_neg (by omega), if_neg (by omega)]
      exact ⟨this.1, by simpa using this.2.1, this.2.2⟩
theorem ext_sumTo {n : Nat} (f : Nat → Nat) {k : Nat} (hk : n ≤ k) : ∀ M, sumTo (extF n f) k M = sumTo f n M
  | 0 => rfl
  | M + 1 => by simp only [sumTo]; rw [ext_sumTo f hk M, (ext_rows f (by omega) k hk).2.2]
theorem ext_symL {n : Nat} (f : Nat → Nat) {k : Nat} (hk : n ≤ k) : ∀ M, symL (extF n f) k M = symL f n M
  | 0 => rfl
  | M + 1 => by simp only [symL]; rw [ext_symL f hk M, (ext_rows f (by omega) k hk).2.1]
theorem inN_pre {f g : Nat → Nat} (m : Nat) : ∀ i, (∀ j, j < i → f j = g j) → inN f m i = inN g m i
  | 0, _ => rfl
  | i + 1, h => by simp only [inN]; rw [inN_pre m i (fun j hj => h j (by omega)), h i (by omega)]
theorem ext_code {n : Nat} (f : Nat → Nat) {k : Nat} (hk : n ≤ k) {i : Nat} (hi : i < n) : codeB (extF n f) k i = codeB f n i := by
  unfold codeB stN
  rw [extF_in f hi, ext_sumTo f hk, inN_pre (f i) i (fun j hj => extF_in f (by omega))]
theorem ext_check {f : Nat → Nat} {n : Nat} {most : Int} (h : checkE f n most = 0) : checkE (extF n f) 320 15 = 0 := by
  obtain ⟨h1, h15, hn, hb, ha, ho⟩ := check_ok h
  obtain ⟨e1, e2⟩ := ext_sums f 320 hn
  unfold checkE
  rw [if_neg (by omega), if_neg (by omega)]
  have : bigB (extF n f) 320 15 = false := bigB_mk fun j _ => by
    unfold extF; split
    · rename_i hj; have := hb j hj; omega
    · omega
  rw [this, if_neg (by decide), e1, e2]
  unfold endE
  rw [if_neg (by omega), if_pos ho]
/-- What Grow tells is a tree, of these lengths. -/
theorem grown_tree {f : Nat → Nat} {n : Nat} {most : Int} (h : checkE f n most = 0) : IsTree (grC f n most) (grS f n most) (extF n f) := by
  have hn := (check_ok h).2.2.1
  refine ⟨ext_check h, fun j hj => extF_out f (by omega), fun m hm => ?_, ?_⟩
  · unfold grC
    rw [if_pos h]
    rcases Nat.eq_zero_or_pos m with e | e
    · subst e; rw [cntN_zero, cntN_zero]
    · rw [(ext_rows f e 320 hn).1]
  · unfold grS
    rw [if_pos h, ext_symL f hn]
theorem ext_is {f : Nat → Nat} {n v k : Nat} (hn : n ≤ 320) : ∀ i, i < n → isB (extF n f) 320 v k i = isB f n v k i ∧ onB (extF n f) 320 v k i = onB f n v k i := fun i hi => by
  unfold isB onB
  rw [extF_in f hi, ext_code f hn hi]
  exact ⟨rfl, rfl⟩
theorem ext_fnd {f : Nat → Nat} {n v k : Nat} (hn : n ≤ 320) : fndN (extF n f) 320 v k 320 = fndN f n v k n ∧ morN (extF n f) 320 v k 320 = morN f n v k n := by
  have h0 : ∀ j, j ≤ n → fndN (extF n f) 320 v k j = fndN f n v k j ∧ morN (extF n f) 320 v k j = morN f n v k j := by
    intro j
    induction j with
    | zero => intro _; exact ⟨rfl, rfl⟩
    | succ j ih =>
      intro hj
      have h := ih (by omega)
      have he := ext_is (f := f) (v := v) (k := k) hn j (by omega)
      simp only [fndN, morN]
      rw [h.1, h.2, he.1, he.2]
      exact ⟨rfl, rfl⟩
  have h1 : ∀ j, n ≤ j → fndN (extF n f) 320 v k j = fndN f n v k n ∧ morN (extF n f) 320 v k j = morN f n v k n := by
    intro j
    induction j with
    | zero => intro hj; obtain rfl : n = 0 := by omega
              exact ⟨rfl, rfl⟩
    | succ j ih =>
      intro hj
      rcases Nat.eq_or_lt_of_le hj with e | e
      · rw [← e]; exact h0 n (Nat.le_refl _)
      · have h := ih (by omega)
        have hi : isB (extF n f) 320 v k j = false := decide_eq_false (by rw [extF_out f (by omega)]; omega)
        have ho : onB (extF n f) 320 v k j = false := decide_eq_false (by rw [extF_out f (by omega)]; omega)
        simp only [fndN, morN]
        rw [h.1, h.2, ho, Bool.or_false]
        refine ⟨?_, rfl⟩
        cases fndN f n v k n with
        | some _ => rfl
        | none => simp [hi]
  exact h1 320 hn
theorem ext_read {f : Nat → Nat} {n : Nat} (hn : n ≤ 320) (g : Nat → Nat) (l a : Nat) : ∀ fuel k, readR (extF n f) 320 g l a fuel k = readR f n g l a fuel k
  | 0, _ => rfl
  | fuel + 1, k => by
    simp only [readR]
    rw [(ext_fnd (f := f) (v := bvN g a k) (k := k) hn).1, (ext_fnd (f := f) (v := bvN g a k) (k := k) hn).2, ext_read hn g l a fuel (k + 1)]
/-- What is read of the tree that Grow tells. -/
theorem grown_read {f : Nat → Nat} {n : Nat} {most : Int} (h : checkE f n most = 0) {g : Nat → Nat} {l : Nat} {a : Int} {e : Ending} (ho : NxtOut (grC f n most) (grS f n most) g l a e) :
    e = .returned (RdOut (if a < 0 then (0, 0, 2) else readR f n g l a.toNat 17 0)) := by
  have ht := grown_tree h
  rcases ho with ⟨F, hF, rfl⟩ | ⟨hno, _⟩
  · rw [isTree_one hF ht]
    unfold nxtP
    rw [ext_read (check_ok h).2.2.1]
  · exact absurd ht (hno _)
end Go.Proofs.Ytedjapamimhglaa
