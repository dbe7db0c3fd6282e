/-
  Layer 10 (runs): the runs of lengths by places; what Squeeze and Stretch answer.
-/
import Derived.Test.YtgkbnmknlmapdaaRunNum
namespace Go.Proofs.Ytgkbnmknlmapdaa
/-- The lengths from a place on. -/
def dropU (f : Nat → Nat) (n a : Nat) : List Nat := ((List.range n).map f).drop a
theorem dropU_cons {f : Nat → Nat} {n a : Nat} (h : a < n) : dropU f n a = f a :: dropU f n (a + 1) := by
  unfold dropU
  rw [List.drop_eq_getElem_cons (by simpa using h)]
  simp
theorem dropU_end {f : Nat → Nat} {n a : Nat} (h : n ≤ a) : dropU f n a = [] := List.drop_eq_nil_of_le (by simpa using h)
theorem dropU_length (f : Nat → Nat) (n a : Nat) : (dropU f n a).length = n - a := by simp [dropU]
theorem dropU_drop (f : Nat → Nat) (n a k : Nat) : (dropU f n a).drop k = dropU f n (a + k) := by unfold dropU; rw [List.drop_drop]
/-- How many from a place on are as the one there. -/
def ldsU (f : Nat → Nat) (n a : Nat) : Nat := leadN (f a) (dropU f n (a + 1)) + 1
theorem lead_go {f : Nat → Nat} {n a x : Nat} (h : a < n) (hx : f a = x) : leadN x (dropU f n a) = leadN x (dropU f n (a + 1)) + 1 := by
  rw [dropU_cons h]; simp only [leadN]; rw [if_pos hx]
theorem lead_stop {f : Nat → Nat} {n a x : Nat} (h : n ≤ a ∨ f a ≠ x) : leadN x (dropU f n a) = 0 := by
  rcases Nat.lt_or_ge a n with g | g
  · rw [dropU_cons g]; simp only [leadN]; rw [if_neg (by omega)]
  · rw [dropU_end g]; rfl
theorem lds_le {f : Nat → Nat} {n a : Nat} (h : a < n) : 1 ≤ ldsU f n a ∧ a + ldsU f n a ≤ n := by
  have := leadN_le (f a) (dropU f n (a + 1))
  rw [dropU_length] at this
  unfold ldsU; omega
theorem lds_same {f : Nat → Nat} {n a : Nat} (h : a < n) : ∀ i, i < ldsU f n a → f (a + i) = f a := by
  intro i hi
  have h1 := leadN_take (f a) (dropU f n a) (ldsU f n a) (by unfold ldsU; rw [lead_go h rfl]; exact Nat.le_refl _)
  have h2 := congrArg (fun l => l[i]?) h1
  simp only [List.getElem?_take, if_pos hi, List.getElem?_replicate] at h2
  have hl := (lds_le (f := f) h).2
  unfold dropU at h2
  rw [List.getElem?_drop] at h2
  simp [show a + i < n by omega] at h2
  exact h2
/-- The length ahead. -/
def prvU (f : Nat → Nat) (a : Nat) : Option Nat := if a = 0 then none else some (f (a - 1))
def fstU (f : Nat → Nat) (n a : Nat) : (Int × Int) × Nat := fstR (prvU f a) (f a) (ldsU f n a)
theorem ofR_fuel : ∀ d d' prev l, l.length ≤ d → l.length ≤ d' → (∀ x ∈ l, x ≤ 15) → ofR d prev l = ofR d' prev l
  | 0, d', prev, l, h, _, _ => by
    have : l = [] := List.length_eq_zero_iff.1 (by omega)
    subst this
    cases d' <;> rfl
  | d + 1, 0, prev, l, _, h, _ => by
    have : l = [] := List.length_eq_zero_iff.1 (by omega)
    subst this; rfl
  | d + 1, d' + 1, prev, [], _, _, _ => rfl
  | d + 1, d' + 1, prev, x :: l, h1, h2, h15 => by
    simp only [ofR]
    have hs := fstR_spec prev x (leadN x l + 1) (h15 x List.mem_cons_self) (by omega)
    simp only [List.length_cons] at h1 h2
    rw [ofR_fuel d d' (some x) _ (by rw [List.length_drop, List.length_cons]; omega) (by rw [List.length_drop, List.length_cons]; omega) (fun y hy => h15 y (List.mem_of_mem_drop hy))]
/-- The runs of lengths from a place on. -/
def ofU (f : Nat → Nat) (n a : Nat) : List (Int × Int) := ofR (n - a) (prvU f a) (dropU f n a)
theorem ofU_end {f : Nat → Nat} {n a : Nat} (h : n ≤ a) : ofU f n a = [] := by unfold ofU; rw [show n - a = 0 by omega]; rfl
theorem ofU_cons {f : Nat → Nat} {n a : Nat} (h : a < n) (h15 : ∀ i, i < n → f i ≤ 15) : ofU f n a = (fstU f n a).1 :: ofU f n (a + (fstU f n a).2) ∧ 1 ≤ (fstU f n a).2 ∧ a + (fstU f n a).2 ≤ n := by
  obtain ⟨g1, g2, _⟩ := fstR_spec (prvU f a) (f a) (ldsU f n a) (h15 a h) (lds_le (f := f) h).1
  have hl := (lds_le (f := f) h).2
  have e : fstR (prvU f a) (f a) (ldsU f n a) = fstU f n a := rfl
  rw [e] at g1 g2
  refine ⟨?_, g1, by omega⟩
  unfold ofU
  rw [show n - a = (n - (a + 1)) + 1 by omega, dropU_cons h]
  simp only [ofR]
  have e2 : fstR (prvU f a) (f a) (leadN (f a) (dropU f n (a + 1)) + 1) = fstU f n a := rfl
  rw [e2, ← dropU_cons h, dropU_drop]
  have hp : prvU f (a + (fstU f n a).2) = some (f a) := by
    unfold prvU
    rw [if_neg (by omega)]
    have := lds_same (f := f) h ((fstU f n a).2 - 1) (by omega)
    rw [show a + (fstU f n a).2 - 1 = a + ((fstU f n a).2 - 1) by omega, this]
  rw [hp, ofR_fuel (n - (a + 1)) (n - (a + (fstU f n a).2)) _ _ (by rw [dropU_length]; omega) (by rw [dropU_length]; omega)]
  intro x hx
  unfold dropU at hx
  have hx := List.mem_of_mem_drop hx
  rw [List.mem_map] at hx
  obtain ⟨i, hi, rfl⟩ := hx
  exact h15 i (List.mem_range.1 hi)
def sqE (f : Nat → Nat) (n : Nat) : Int := if 320 < n then 4 else if ∀ i, i < n → f i ≤ 15 then 0 else 2
def sqV (f : Nat → Nat) (n : Nat) : List (Int × Int) := if sqE f n = 0 then ofU f n 0 else []
def bitE (s : Int) : Int := if 0 ≤ s ∧ s ≤ 18 then 0 else 2
def bitV (s : Int) : Int := if 0 ≤ s ∧ s ≤ 18 then (bitsR s : Nat) else 0
def strO (l : List (Int × Int)) (n : Int) : Int × List Nat := if n < 0 ∨ 320 < n then (2, []) else strR n.toNat l []
/-- The runs of lengths make these lengths. -/
theorem sq_back {f : Nat → Nat} {n : Nat} (h : sqE f n = 0) : strO (sqV f n) (n : Int) = (0, (List.range n).map f) ∧ (sqV f n).length ≤ n := by
  have hv : sqV f n = ofU f n 0 := if_pos h
  unfold sqE at h
  have h1 : ¬ 320 < n := fun q => by rw [if_pos q] at h; omega
  rw [if_neg h1] at h
  have h15 : ∀ i, i < n → f i ≤ 15 := by
    by_cases q : ∀ i, i < n → f i ≤ 15
    · exact q
    · rw [if_neg q] at h; omega
  have hb := ofR_back n (n - 0) (prvU f 0) (dropU f n 0) [] (by rw [dropU_length]; exact Nat.le_refl _) (fun x hx => by
    unfold dropU at hx
    have hx := List.mem_of_mem_drop hx
    rw [List.mem_map] at hx
    obtain ⟨i, hi, rfl⟩ := hx
    exact h15 i (List.mem_range.1 hi)) rfl (by rw [dropU_length]; simp)
  rw [hv]
  unfold strO
  rw [if_neg (by omega), Int.toNat_natCast]
  refine ⟨hb.1, ?_⟩
  have := hb.2
  rw [dropU_length] at this
  exact this
end Go.Proofs.Ytgkbnmknlmapdaa
