/-
  Layer 1 (bits), reading: what bits.Take answers for every argument; and what the document's own Take and Turn answer.
-/
import Derived.Test.YtedjapamimhglaaBitNum
import Derived.Handy
namespace Go.Proofs.Ytedjapamimhglaa
open Go.RowKit
def bitAt (f : Nat → Nat) (k : Nat) : Nat := f (k / 8) / 2 ^ (k % 8) % 2
theorem bitAt_lt (f : Nat → Nat) (k : Nat) : bitAt f k < 2 := Nat.mod_lt _ (by omega)
def numN (f : Nat → Nat) (at_ : Nat) : Nat → Nat
  | 0 => 0
  | i + 1 => numN f at_ i + bitAt f (at_ + i) * 2 ^ i
theorem numN_lt (f : Nat → Nat) (at_ : Nat) : ∀ i, numN f at_ i < 2 ^ i
  | 0 => by simp [numN]
  | i + 1 => by
    have := numN_lt f at_ i
    have h2 := bitAt_lt f (at_ + i)
    have : bitAt f (at_ + i) * 2 ^ i ≤ 1 * 2 ^ i := Nat.mul_le_mul_right _ (by omega)
    simp only [numN, Nat.pow_succ]; omega
set_option maxHeartbeats 400000 in
theorem bit_any (w : World) (B : Nat) (A : Option Addr) (n c : Nat) (f : Nat → Nat) (k : Nat) (hr : RdB w B A n f) (hk : k < 8 * n) (hn : n ≤ 9223372036854775807 / 8) :
    Calls Try.prog 48 #[.slice A n c, .int .i64 (k : Int)] w fun e w' => e = .returned (.int .u32 (bitAt f k : Nat)) ∧ w = w' := by
  obtain ⟨hf, hc⟩ := hr
  obtain ⟨b, o, rfl, hb, hc⟩ := hc (by omega)
  have hcell := hc (k / 8) (by omega)
  have hlt : k / 8 < n := by omega
  have hf8 := hf (k / 8)
  clear hc
  go_enter Try.func48, Try.ntmps48
  go_wp2
  go_ret
  refine ⟨ret_int ?_, rfl⟩
  have h5 : f (k / 8) / 2 ^ (k % 8) < 256 := Nat.lt_of_le_of_lt (Nat.div_le_self _ _) hf8
  rw [cast_shr, emod_u32 _ (by omega), u32_and_one _ (by omega)]
  rfl
def takeArg (a n : Int) : Bool := decide (a < 0 ∨ n < 0 ∨ 32 < n)
set_option maxHeartbeats 400000 in
theorem take_arg (w : World) (A : Option Addr) (l c : Nat) (a n : Int) (h : a < 0 ∨ n < 0 ∨ 32 < n) :
    Calls Try.prog 34 #[.slice A l c, .int .i64 a, .int .i64 n] w fun e w' => e = .returned (.tuple #[.int .u32 0, .int .i64 2]) ∧ w = w' := by
  by_cases h1 : a < 0
  · go_enter Try.func34, Try.ntmps34
    go_wp2
    go_ret2
    exact ⟨rfl, rfl⟩
  · by_cases h2 : n < 0
    · go_enter Try.func34, Try.ntmps34
      go_wp2
      go_ret2
      exact ⟨rfl, rfl⟩
    · have h3 : 32 < n := by omega
      clear h
      go_enter Try.func34, Try.ntmps34
      go_wp2
      go_ret2
      exact ⟨rfl, rfl⟩
set_option maxHeartbeats 400000 in
theorem take_end (w : World) (A : Option Addr) (l c : Nat) (a n : Nat) (ha : a ≤ 9223372036854775807) (hn : n ≤ 32) (hl : l ≤ 1000000000000) (h : 8 * l < a + n) :
    Calls Try.prog 34 #[.slice A l c, .int .i64 (a : Int), .int .i64 (n : Int)] w fun e w' => e = .returned (.tuple #[.int .u32 0, .int .i64 10]) ∧ w = w' := by
  go_enter Try.func34, Try.ntmps34
  go_wp2
  go_ret2
  exact ⟨rfl, rfl⟩
set_option maxHeartbeats 400000 in
theorem take_ok (w : World) (B : Nat) (A : Option Addr) (l c : Nat) (f : Nat → Nat) (a n : Nat) (hr : RdB w B A l f) (hn : n ≤ 32) (hl : l ≤ 1000000000000) (h : a + n ≤ 8 * l) :
    Calls Try.prog 34 #[.slice A l c, .int .i64 (a : Int), .int .i64 (n : Int)] w fun e w' => e = .returned (.tuple #[.int .u32 (numN f a n : Nat), .int .i64 0]) ∧ w = w' := by
  have HR := Lib.hid hr
  clear hr
  go_enter Try.func34, Try.ntmps34
  go_wp2
  go_loop [8, 9, 31] (fun t _ i => ∃ k : Nat, k ≤ n ∧ i = .int .i64 k ∧ t = .int .u32 (numN f a k : Nat)) (fun _ _ i => n - (intOf i).toNat)
  case atStart => exact ⟨0, Nat.zero_le _, rfl, rfl⟩
  case round =>
    obtain ⟨k, hk, rfl, rfl⟩ := hrel
    have hb := numN_lt f a k
    have hb2 : numN f a k < 4294967296 := lt_32 hb (by omega)
    have h4 := bitAt_lt f (a + k)
    by_cases hlt : k < n
    · go_wp2_with (go_at_call 48; refine (bit_any _ B _ _ _ f (a + k) HR.out (by omega) (by omega)).mono ?_; rintro e w' ⟨rfl, rfl⟩)
      refine ⟨⟨k + 1, hlt, by go_num, val_int ?_⟩, by simp [intOf]; omega⟩
      have h6 : bitAt f (a + k) * 2 ^ k ≤ 1 * 2 ^ k := Nat.mul_le_mul_right _ (by omega)
      have h7 := pow_le_32 (k := k + 1) (by omega)
      rw [Nat.pow_succ] at h7
      have h8 : bitAt f (a + k) * 2 ^ k < 4294967296 := by omega
      rw [cast_shl, emod_u32 _ h8, u32_or_add' _ _ k hb2 h8 hb (Nat.dvd_mul_left _ _)]
      rfl
    · go_wp2
      go_ret2
      exact ⟨ret_two (by rw [show k = n by omega]) rfl, rfl⟩

/-! ### the document's own -/
/-- v without its lowest j bits; 2 to the power of j: by name, for the walks. -/
def shrN (v j : Nat) : Nat := v / 2 ^ j
theorem shrN_zero (v : Nat) : shrN v 0 = v := by simp [shrN]
theorem shrN_succ (v j : Nat) : shrN v (j + 1) = shrN v j / 2 := by unfold shrN; rw [Nat.pow_succ, ← Nat.div_div_eq_div_mul]
theorem shrN_le (v j : Nat) : shrN v j ≤ v := Nat.div_le_self _ _
def powN (j : Nat) : Nat := 2 ^ j
theorem powN_zero : powN 0 = 1 := rfl
theorem powN_succ (j : Nat) : powN (j + 1) = 2 * powN j := by unfold powN; rw [Nat.pow_succ, Nat.mul_comm]
theorem powN_le (j : Nat) (h : j ≤ 63) : powN j ≤ 9223372036854775808 := by
  have := Nat.pow_le_pow_right (n := 2) (by omega) h; simpa [powN] using this
theorem powN_pos (j : Nat) : 0 < powN j := Nat.two_pow_pos j
set_option maxHeartbeats 400000 in
theorem rbit_any (w : World) (B : Nat) (A : Option Addr) (n c : Nat) (f : Nat → Nat) (k : Nat) (hr : RdB w B A n f) (hk : k < 8 * n) (hn : n ≤ 1000000000000) :
    Calls Try.prog 55 #[.slice A n c, .int .i64 (k : Int)] w fun e w' => e = .returned (.int .u32 (bitAt f k : Nat)) ∧ w = w' := by
  obtain ⟨hf, hc⟩ := hr
  obtain ⟨b, o, rfl, hb, hc⟩ := hc (by omega)
  have hcell := hc (k / 8) (by omega)
  have hlt : k / 8 < n := by omega
  have hf8 := hf (k / 8)
  clear hc hf
  go_enter Try.func55, Try.ntmps55
  go_wp2
  go_loop [5, 6] (fun t i => ∃ j : Nat, j ≤ k % 8 ∧ i = .int .i64 j ∧ t = .int .i64 (shrN (f (k / 8)) j : Nat)) (fun _ i => 8 - (intOf i).toNat)
  case atStart => exact ⟨0, Nat.zero_le _, rfl, by rw [shrN_zero]⟩
  case round =>
    obtain ⟨j, hj, rfl, rfl⟩ := hrel
    have h5 := shrN_le (f (k / 8)) j
    have h6 := shrN_succ (f (k / 8)) j
    have H6 := Lib.hid h6; clear h6
    by_cases hlt : j < k % 8
    · go_wp2
      refine ⟨⟨j + 1, hlt, by go_num, val_int ?_⟩, by simp [intOf]; omega⟩
      rw [H6.out]; omega
    · go_wp2
      go_ret
      obtain rfl : j = k % 8 := by omega
      refine ⟨ret_int ?_, rfl⟩
      show _ = ((shrN (f (k / 8)) (k % 8) % 2 : Nat) : Int)
      omega
set_option maxHeartbeats 400000 in
theorem power_any (w : World) (n : Nat) (hn : n < 64) :
    Calls Try.prog 56 #[.int .i64 (n : Int)] w fun e w' => e = .returned (.int .u64 (powN n : Nat)) ∧ w = w' := by
  go_enter Try.func56, Try.ntmps56
  go_wp2
  go_loop [3, 4] (fun t i => ∃ j : Nat, j ≤ n ∧ i = .int .i64 j ∧ t = .int .u64 (powN j : Nat)) (fun _ i => n - (intOf i).toNat)
  case atStart => exact ⟨0, Nat.zero_le _, rfl, by rw [powN_zero]; rfl⟩
  case round =>
    obtain ⟨j, hj, rfl, rfl⟩ := hrel
    by_cases hlt : j < n
    · have hp := powN_le (j + 1) (by omega)
      rw [powN_succ] at hp
      have H := Lib.hid (powN_succ j)
      go_wp2
      refine ⟨⟨j + 1, hlt, by go_num, val_int ?_⟩, by simp [intOf]; omega⟩
      rw [H.out]; omega
    · go_wp2
      go_ret
      obtain rfl : j = n := by omega
      exact ⟨rfl, rfl⟩
set_option maxHeartbeats 400000 in
theorem number_any (w : World) (B : Nat) (A : Option Addr) (l c : Nat) (f : Nat → Nat) (a n : Nat) (hr : RdB w B A l f) (hn : n ≤ 32) (hl : l ≤ 1000000000000) (h : a + n ≤ 8 * l) :
    Calls Try.prog 54 #[.slice A l c, .int .i64 (a : Int), .int .i64 (n : Int)] w fun e w' => e = .returned (.int .u32 (numN f a n : Nat)) ∧ w = w' := by
  have HR := Lib.hid hr
  clear hr
  go_enter Try.func54, Try.ntmps54
  go_wp2
  go_loop [7, 8] (fun t i => ∃ k : Nat, k ≤ n ∧ i = .int .i64 k ∧ t = .int .u64 (numN f a k : Nat)) (fun _ i => n - (intOf i).toNat)
  case atStart => exact ⟨0, Nat.zero_le _, rfl, rfl⟩
  case round =>
    obtain ⟨k, hk, rfl, rfl⟩ := hrel
    have hb := numN_lt f a k
    have hb2 : numN f a k < 4294967296 := lt_32 hb (by omega)
    clear hb
    have h4 := bitAt_lt f (a + k)
    by_cases hlt : k < n
    · have h5 : bitAt f (a + k) * powN k ≤ 4294967296 := by
        have h6 : bitAt f (a + k) * powN k ≤ 1 * powN k := Nat.mul_le_mul_right _ (by omega)
        have h7 := pow_le_32 (k := k) (by omega)
        unfold powN at h6 ⊢; omega
      have h8 := powN_le k (by omega)
      go_wp2_with (first | (go_at_call 55; refine (rbit_any _ B _ _ _ f (a + k) HR.out (by omega) (by omega)).mono ?_; rintro e w' ⟨rfl, rfl⟩) | (go_at_call 56; refine (power_any _ k (by omega)).mono ?_; rintro e w' ⟨rfl, rfl⟩))
      refine ⟨⟨k + 1, hlt, by go_num, val_int ?_⟩, by simp [intOf]; omega⟩
      rw [← Int.natCast_mul, ← Int.natCast_add]
      rfl
    · go_wp2
      go_ret
      obtain rfl : k = n := by omega
      exact ⟨ret_int (by omega), rfl⟩
set_option maxHeartbeats 400000 in
theorem rtake_arg (w : World) (A : Option Addr) (l c : Nat) (a n : Int) (h : a < 0 ∨ n < 0 ∨ 32 < n) :
    Calls Try.prog 49 #[.slice A l c, .int .i64 a, .int .i64 n] w fun e w' => e = .returned (.tuple #[.int .u32 0, .int .i64 2]) ∧ w = w' := by
  by_cases h1 : a < 0
  · go_enter Try.func49, Try.ntmps49
    go_wp2
    go_ret2
    exact ⟨rfl, rfl⟩
  · by_cases h2 : n < 0
    · go_enter Try.func49, Try.ntmps49
      go_wp2
      go_ret2
      exact ⟨rfl, rfl⟩
    · have h3 : 32 < n := by omega
      clear h
      go_enter Try.func49, Try.ntmps49
      go_wp2
      go_ret2
      exact ⟨rfl, rfl⟩
set_option maxHeartbeats 400000 in
theorem rtake_end (w : World) (A : Option Addr) (l c : Nat) (a n : Nat) (ha : a ≤ 9223372036854775807) (hn : n ≤ 32) (hl : l ≤ 1000000000000) (h : 8 * l < a + n) :
    Calls Try.prog 49 #[.slice A l c, .int .i64 (a : Int), .int .i64 (n : Int)] w fun e w' => e = .returned (.tuple #[.int .u32 0, .int .i64 10]) ∧ w = w' := by
  by_cases h1 : 8 * l < a
  · go_enter Try.func49, Try.ntmps49
    go_wp2
    go_ret2
    exact ⟨rfl, rfl⟩
  · go_enter Try.func49, Try.ntmps49
    go_wp2
    go_ret2
    exact ⟨rfl, rfl⟩
set_option maxHeartbeats 400000 in
theorem rtake_ok (w : World) (B : Nat) (A : Option Addr) (l c : Nat) (f : Nat → Nat) (a n : Nat) (hr : RdB w B A l f) (hn : n ≤ 32) (hl : l ≤ 1000000000000) (h : a + n ≤ 8 * l) :
    Calls Try.prog 49 #[.slice A l c, .int .i64 (a : Int), .int .i64 (n : Int)] w fun e w' => e = .returned (.tuple #[.int .u32 (numN f a n : Nat), .int .i64 0]) ∧ w = w' := by
  have HR := Lib.hid hr
  clear hr
  go_enter Try.func49, Try.ntmps49
  go_wp2_with (go_at_call 54; refine (number_any _ B _ _ _ f a n HR.out hn hl h).mono ?_; rintro e w' ⟨rfl, rfl⟩)
  go_ret2
  exact ⟨rfl, rfl⟩
end Go.Proofs.Ytedjapamimhglaa
