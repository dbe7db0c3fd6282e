/-
  Layer 10 (runs), numbers alone: the runs of lengths; the lengths that runs make; there and back.
-/
import Derived.Test.YtgkbnmknlmapdaaBase
namespace Go.Proofs.Ytgkbnmknlmapdaa
/-- How many of a list's first are x. -/
def leadN (x : Nat) : List Nat → Nat
  | [] => 0
  | y :: l => if y = x then leadN x l + 1 else 0
theorem leadN_le (x : Nat) : ∀ l, leadN x l ≤ l.length
  | [] => Nat.le_refl _
  | y :: l => by
    have := leadN_le x l
    simp only [leadN, List.length_cons]
    split <;> omega
theorem leadN_take (x : Nat) : ∀ l k, k ≤ leadN x l → l.take k = List.replicate k x
  | [], k, h => by simp [leadN] at h; subst h; rfl
  | y :: l, 0, _ => rfl
  | y :: l, k + 1, h => by
    simp only [leadN] at h
    by_cases e : y = x
    · rw [if_pos e] at h
      rw [List.take_succ_cons, List.replicate_succ, leadN_take x l k (by omega), e]
    · rw [if_neg e] at h; omega
/-- The run at a place, and how many lengths it is: prev is the length ahead. -/
def fstR (prev : Option Nat) (x : Nat) (n : Nat) : (Int × Int) × Nat :=
  if x = 0 ∧ 11 ≤ n then ((18, (min n 138 - 11 : Nat)), min n 138)
  else if x = 0 ∧ 3 ≤ n then ((17, (n - 3 : Nat)), n)
  else if x ≠ 0 ∧ prev = some x ∧ 3 ≤ n then ((16, (min n 6 - 3 : Nat)), min n 6)
  else ((((x : Nat) : Int), 0), 1)
def ofR : Nat → Option Nat → List Nat → List (Int × Int)
  | 0, _, _ => []
  | _ + 1, _, [] => []
  | d + 1, prev, x :: l => (fstR prev x (leadN x l + 1)).1 :: ofR d (some x) ((x :: l).drop (fstR prev x (leadN x l + 1)).2)
def bitsR (s : Int) : Nat := if s = 16 then 2 else if s = 17 then 3 else if s = 18 then 7 else 0
def timesR (s x : Int) : Nat := if s = 16 ∨ s = 17 then x.toNat + 3 else if s = 18 then x.toNat + 11 else 1
def valR (s : Int) (out : List Nat) : Nat := if s = 16 then out.getLast?.getD 0 else if s < 16 then s.toNat else 0
/-- What Stretch tells: an error, or the lengths. -/
def strR (n : Nat) : List (Int × Int) → List Nat → Int × List Nat
  | [], out => if out.length = n then (0, out) else (100, [])
  | (s, x) :: rs, out => if s < 0 ∨ 18 < s ∨ x < 0 ∨ (2 ^ bitsR s : Nat) ≤ x then (8, []) else
      if (s = 16 ∧ out = []) ∨ n < out.length + timesR s x then (100, []) else strR n rs (out ++ List.replicate (timesR s x) (valR s out))
theorem fstR_spec (prev : Option Nat) (x n : Nat) (hx : x ≤ 15) (hn : 1 ≤ n) : 1 ≤ (fstR prev x n).2 ∧ (fstR prev x n).2 ≤ n ∧ timesR (fstR prev x n).1.1 (fstR prev x n).1.2 = (fstR prev x n).2 ∧
    ¬ ((fstR prev x n).1.1 < 0 ∨ 18 < (fstR prev x n).1.1 ∨ (fstR prev x n).1.2 < 0 ∨ (2 ^ bitsR (fstR prev x n).1.1 : Nat) ≤ (fstR prev x n).1.2) ∧
    ((fstR prev x n).1.1 = 16 → prev = some x) ∧ ((fstR prev x n).1.1 ≠ 16 → (if (fstR prev x n).1.1 < 16 then (fstR prev x n).1.1.toNat else 0) = x) := by
  unfold fstR
  by_cases h1 : x = 0 ∧ 11 ≤ n
  · rw [if_pos h1]
    simp only [timesR, bitsR]
    refine ⟨by omega, by omega, by simp; omega, by simp; omega, by simp, by simp; omega⟩
  · rw [if_neg h1]
    by_cases h2 : x = 0 ∧ 3 ≤ n
    · rw [if_pos h2]
      simp only [timesR, bitsR]
      refine ⟨by omega, by omega, by simp; omega, by simp; omega, by simp, by simp; omega⟩
    · rw [if_neg h2]
      by_cases h3 : x ≠ 0 ∧ prev = some x ∧ 3 ≤ n
      · rw [if_pos h3]
        simp only [timesR, bitsR]
        refine ⟨by omega, by omega, by simp; omega, by simp; omega, fun _ => h3.2.1, by simp⟩
      · rw [if_neg h3]
        simp only [timesR, bitsR]
        refine ⟨by omega, by omega, ?_, ?_, fun h => by omega, fun _ => ?_⟩
        · rw [if_neg (by omega), if_neg (by omega)]
        · rw [if_neg (by omega), if_neg (by omega), if_neg (by omega)]; simp; omega
        · rw [if_pos (by omega)]; omega
theorem ofR_back (n : Nat) : ∀ d prev l out, l.length ≤ d → (∀ x ∈ l, x ≤ 15) → prev = out.getLast? → n = out.length + l.length → strR n (ofR d prev l) out = (0, out ++ l) ∧ (ofR d prev l).length ≤ l.length
  | 0, prev, l, out, hd, _, _, hn => by
    have : l = [] := List.length_eq_zero_iff.1 (by omega)
    subst this
    simp only [ofR, strR]
    rw [if_pos (by simpa using hn.symm)]
    simp
  | d + 1, prev, [], out, _, _, _, hn => by
    simp only [ofR, strR]
    rw [if_pos (by simpa using hn.symm)]
    simp
  | d + 1, prev, x :: l, out, hd, h15, hp, hn => by
    have hx := h15 x List.mem_cons_self
    obtain ⟨h1, h2, h3, h4, h5, h6⟩ := fstR_spec prev x (leadN x l + 1) hx (by omega)
    simp only [ofR]
    obtain ⟨s, hs⟩ : ∃ s, s = (fstR prev x (leadN x l + 1)).1.1 := ⟨_, rfl⟩
    obtain ⟨e, he⟩ : ∃ e, e = (fstR prev x (leadN x l + 1)).1.2 := ⟨_, rfl⟩
    obtain ⟨k, hk⟩ : ∃ k, k = (fstR prev x (leadN x l + 1)).2 := ⟨_, rfl⟩
    have hpair : (fstR prev x (leadN x l + 1)).1 = (s, e) := by rw [hs, he]
    rw [← hs, ← he, ← hk] at h3
    rw [← hs, ← he] at h4
    rw [← hs] at h5 h6
    rw [← hk] at h1 h2 ⊢
    rw [hpair]
    have hll := leadN_le x l
    have htake : (x :: l).take k = List.replicate k x := leadN_take x (x :: l) k (by simp only [leadN, if_true]; exact h2)
    have hval : valR s out = x := by
      unfold valR
      by_cases h16 : s = 16
      · rw [if_pos h16, ← hp, h5 h16]; rfl
      · rw [if_neg h16]; exact h6 h16
    have hne : ¬ ((s = 16 ∧ out = []) ∨ n < out.length + timesR s e) := by
      rw [h3]
      simp only [List.length_cons] at hn
      rintro (⟨a, b⟩ | a)
      · have := h5 a
        rw [hp, b] at this; cases this
      · omega
    simp only [strR]
    rw [if_neg h4, if_neg hne, h3, hval, ← htake]
    have hlen : ((x :: l).drop k).length = l.length + 1 - k := by simp
    have hlt : ((x :: l).take k).length = k := by rw [List.length_take, List.length_cons]; omega
    simp only [List.length_cons] at hd hn
    have ih := ofR_back n d (some x) ((x :: l).drop k) (out ++ (x :: l).take k) (by omega) (fun y hy => h15 y (List.mem_of_mem_drop hy)) (by
      rw [htake]
      obtain ⟨j, rfl⟩ : ∃ j, k = j + 1 := ⟨k - 1, by omega⟩
      rw [List.replicate_succ', ← List.append_assoc, List.getLast?_append]
      simp) (by rw [List.length_append, hlt, hlen]; omega)
    refine ⟨?_, ?_⟩
    · rw [ih.1, List.append_assoc, List.take_append_drop]
    · have := ih.2
      rw [hlen] at this
      simp only [List.length_cons]; omega
/-- How many lengths runs tell together. -/
def sumR : List (Int × Int) → Nat
  | [] => 0
  | (s, x) :: rs => timesR s x + sumR rs
theorem strR_count {n : Nat} : ∀ rs out, (strR n rs out).1 = 0 → (∀ x ∈ out, x ≤ 15) → n = out.length + sumR rs ∧ (strR n rs out).2.length = n ∧ ∀ x ∈ (strR n rs out).2, x ≤ 15
  | [], out, h, h15 => by
    simp only [strR] at h ⊢
    by_cases e : out.length = n
    · rw [if_pos e]; exact ⟨by simp [sumR, e], e, h15⟩
    · rw [if_neg e] at h; simp at h
  | (s, x) :: rs, out, h, h15 => by
    simp only [strR] at h ⊢
    by_cases h1 : s < 0 ∨ 18 < s ∨ x < 0 ∨ (2 ^ bitsR s : Nat) ≤ x
    · rw [if_pos h1] at h; simp at h
    · rw [if_neg h1] at h ⊢
      by_cases h2 : (s = 16 ∧ out = []) ∨ n < out.length + timesR s x
      · rw [if_pos h2] at h; simp at h
      · rw [if_neg h2] at h ⊢
        obtain ⟨a, b, c⟩ := strR_count rs _ h (fun y hy => by
          rcases List.mem_append.1 hy with hy | hy
          · exact h15 y hy
          · rw [List.mem_replicate] at hy
            rw [hy.2]
            unfold valR
            split
            · cases hl : out.getLast? with
              | none => simp
              | some z => exact h15 z (List.mem_of_getLast? hl)
            · split <;> omega)
        refine ⟨?_, b, c⟩
        rw [a, List.length_append, List.length_replicate]
        simp only [sumR]; omega
theorem strR_err {n : Nat} : ∀ rs out, (strR n rs out).1 ≠ 0 → (strR n rs out).2 = []
  | [], out, h => by
    simp only [strR] at h ⊢
    split
    · rename_i e; rw [if_pos e] at h; simp at h
    · rfl
  | (s, x) :: rs, out, h => by
    simp only [strR] at h ⊢
    split
    · rfl
    · rename_i h1
      rw [if_neg h1] at h
      split
      · rfl
      · rename_i h2
        rw [if_neg h2] at h
        exact strR_err rs _ h
end Go.Proofs.Ytgkbnmknlmapdaa
