/-
  Layer 6 (slide), numbers alone: what a window holds behind bytes that go in, and a copy's bytes.
-/
import Derived.Test.YtihfcjehpmiolaaBase
namespace Go.Proofs.Ytihfcjehpmiolaa
/-- How many of T bytes a window of size S keeps, and how many it drops. -/
def keepN (S T : Nat) : Nat := min S T
def dropN (S T : Nat) : Nat := T - S
/-- A window's bytes (n of them, f) behind m more, g. -/
def inN (S n m : Nat) : Nat := keepN S (n + m)
def inF (S n : Nat) (f : Nat → Nat) (m : Nat) (g : Nat → Nat) (j : Nat) : Nat := cat f n g (j + dropN S (n + m))
theorem inN_le (S n m : Nat) : inN S n m ≤ S := Nat.min_le_left _ _
theorem inF_lt {S n m : Nat} {f g : Nat → Nat} (hf : ∀ j, f j < 256) (hg : ∀ j, g j < 256) (j : Nat) : inF S n f m g j < 256 := cat_lt hf hg _
/-- THE STAGE'S THEOREM, by numbers: in two parts as at once. -/
theorem in_two {S n l m : Nat} : inN S (inN S n l) m = inN S n (l + m) := by
  unfold inN keepN; omega
theorem in_twoF {S n l m : Nat} {f a b : Nat → Nat} {j : Nat} (_hj : j < inN S n (l + m)) : inF S (inN S n l) (inF S n f l a) m b j = inF S n f (l + m) (cat a l b) j := by
  unfold inN keepN at _hj
  unfold inF inN keepN dropN cat
  dsimp only
  repeat' split
  all_goals first | rfl | (exfalso; omega) | (congr 1; omega)
/-- A copy's byte i, of bytes that stand d ahead. -/
def copF (n : Nat) (f : Nat → Nat) (d i : Nat) : Nat := f (n - d + i % d)
theorem copF_lt {n d : Nat} {f : Nat → Nat} (hf : ∀ j, f j < 256) (i : Nat) : copF n f d i < 256 := hf _
/-- It is the byte that stands d ahead of its place in all bytes. -/
theorem cop_ahead {n d i : Nat} {f : Nat → Nat} (_hd : 1 ≤ d) (hdn : d ≤ n) : copF n f d i = cat f n (copF n f d) (n + i - d) := by
  unfold cat
  by_cases h : n + i - d < n
  · rw [if_pos h]
    unfold copF
    rw [Nat.mod_eq_of_lt (by omega)]
    congr 1; omega
  · rw [if_neg h]
    unfold copF
    have e : n + i - d - n = i - d := by omega
    rw [e, Nat.mod_eq_sub_mod (by omega : i ≥ d)]
/-- A distance of 1: the last byte. -/
theorem cop_one {n i : Nat} {f : Nat → Nat} (_hn : 1 ≤ n) : copF n f 1 i = f (n - 1) := by
  unfold copF; rw [Nat.mod_one]; congr 1
/-- Going on with a copy: behind k of its bytes the window's last d bytes tell the rest. -/
theorem cop_on {S n d k i : Nat} {f : Nat → Nat} (hd : 1 ≤ d) (hdn : d ≤ n) (hn : n ≤ S) : copF (inN S n k) (inF S n f k (copF n f d)) d i = copF n f d (k + i) := by
  induction i using Nat.strongRecOn with
  | ind i ih =>
    by_cases h : i < d
    · have h1 : copF (inN S n k) (inF S n f k (copF n f d)) d i = inF S n f k (copF n f d) (inN S n k - d + i) := by
        unfold copF; rw [Nat.mod_eq_of_lt h]
      rw [h1]
      have h2 : inF S n f k (copF n f d) (inN S n k - d + i) = cat f n (copF n f d) (n + (k + i) - d) := by
        unfold inF; congr 1; unfold inN keepN dropN; omega
      rw [h2, ← cop_ahead hd hdn]
    · have e1 : copF (inN S n k) (inF S n f k (copF n f d)) d i = copF (inN S n k) (inF S n f k (copF n f d)) d (i - d) := by
        unfold copF; rw [Nat.mod_eq_sub_mod (by omega : i ≥ d)]
      have e2 : copF n f d (k + i) = copF n f d (k + (i - d)) := by
        unfold copF
        rw [show k + i = (k + (i - d)) + d by omega, Nat.add_mod_right]
      rw [e1, e2, ih (i - d) (by omega)]
end Go.Proofs.Ytihfcjehpmiolaa
