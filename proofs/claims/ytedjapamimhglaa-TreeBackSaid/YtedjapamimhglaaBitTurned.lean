/-
  For every number, bit count and place: the law BitsTurned returns true, and its arguments read as they did. No condition beside the statement's own.
-/
import Derived.Test.YtedjapamimhglaaBitAli
import Derived.Test.YtedjapamimhglaaBitTakes
namespace Go.Proofs.Ytedjapamimhglaa
open Go.RowKit Go.ChangeShapes Go.WideShapes Go.ChangeAt
theorem turnN_bit (v : Nat) : ∀ n j, j < n → (turnN v n).testBit j = v.testBit (n - 1 - j)
  | 0, j, h => by omega
  | n + 1, j, h => by
    have e : turnN v (n + 1) = 2 * turnN v n + v / 2 ^ n % 2 := rfl
    rw [e]
    have hb : v / 2 ^ n % 2 < 2 := Nat.mod_lt _ (by omega)
    cases j with
    | zero =>
      rw [Nat.testBit_zero, Nat.add_sub_cancel, Nat.sub_zero, Nat.testBit_eq_decide_div_mod_eq]
      congr 1
      rw [eq_iff_iff]; omega
    | succ j =>
      rw [Nat.testBit_succ, show (2 * turnN v n + v / 2 ^ n % 2) / 2 = turnN v n by omega, turnN_bit v n j (by omega)]
      congr 1; omega
theorem turnN_twice (v n : Nat) (h : v < 2 ^ n) : turnN (turnN v n) n = v := by
  apply Nat.eq_of_testBit_eq
  intro j
  by_cases hj : j < n
  · rw [turnN_bit _ _ _ hj, turnN_bit _ _ _ (by omega)]
    congr 1; omega
  · rw [Nat.testBit_lt_two_pow (Nat.lt_of_lt_of_le (turnN_lt _ _) (Nat.pow_le_pow_right (by omega) (by omega))), Nat.testBit_lt_two_pow (Nat.lt_of_lt_of_le h (Nat.pow_le_pow_right (by omega) (by omega)))]
theorem turnN_mirror (v n i : Nat) (h : i < n) : turnN v n / 2 ^ (n - 1 - i) % 2 = v / 2 ^ i % 2 := by
  have h1 := turnN_bit v n (n - 1 - i) (by omega)
  rw [show n - 1 - (n - 1 - i) = i by omega, Nat.testBit_eq_decide_div_mod_eq, Nat.testBit_eq_decide_div_mod_eq, decide_eq_decide] at h1
  have a := Nat.mod_lt (turnN v n / 2 ^ (n - 1 - i)) (show 0 < 2 by omega)
  have b := Nat.mod_lt (v / 2 ^ i) (show 0 < 2 by omega)
  omega
end Go.Proofs.Ytedjapamimhglaa
