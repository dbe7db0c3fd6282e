/-
  Layer 1 (bits): what bits.Check answers for every pen.
-/
import Derived.Test.YtedjapamimhglaaBitMem
import Derived.Deep.QuietTactic
import Derived.BigQuiet
namespace Go.Proofs.Ytedjapamimhglaa
open Go.RowKit
/-- May the pen of n bytes f and k bits be? -/
def penB (f : Nat → Nat) (n : Nat) (k : Int) : Bool := decide (0 ≤ k ∧ k ≤ 8388608 ∧ n = (k.toNat + 7) / 8 ∧ (k % 8 = 0 ∨ shrN (f (n - 1)) (k % 8).toNat = 0))
def penE (f : Nat → Nat) (n : Nat) (k : Int) : Int := if penB f n k then 0 else 8
theorem checkE_bad {f : Nat → Nat} {n : Nat} {k : Int} (h : ¬ (0 ≤ k ∧ k ≤ 8388608 ∧ n = (k.toNat + 7) / 8 ∧ (k % 8 = 0 ∨ shrN (f (n - 1)) (k % 8).toNat = 0))) : penE f n k = 8 := by
  unfold penE penB; rw [decide_eq_false h]; rfl
theorem checkE_ok {f : Nat → Nat} {n : Nat} {k : Int} (h : 0 ≤ k ∧ k ≤ 8388608 ∧ n = (k.toNat + 7) / 8 ∧ (k % 8 = 0 ∨ shrN (f (n - 1)) (k % 8).toNat = 0)) : penE f n k = 0 := by
  unfold penE penB; rw [decide_eq_true h]; rfl
theorem checkE_nat (f : Nat → Nat) (n k : Nat) : penE f n (k : Int) = if k ≤ 8388608 ∧ n = (k + 7) / 8 ∧ (k % 8 = 0 ∨ shrN (f (n - 1)) (k % 8) = 0) then 0 else 8 := by
  have e : ((k : Int) % 8).toNat = k % 8 := by omega
  by_cases h : k ≤ 8388608 ∧ n = (k + 7) / 8 ∧ (k % 8 = 0 ∨ shrN (f (n - 1)) (k % 8) = 0)
  · rw [if_pos h]
    exact checkE_ok ⟨by omega, by omega, by simpa using h.2.1, by rw [e]; exact h.2.2.imp (fun h => by omega) id⟩
  · rw [if_neg h]
    refine checkE_bad fun h' => h ⟨by omega, by simpa using h'.2.2.1, ?_⟩
    have h3 := h'.2.2.2
    rw [e] at h3
    exact h3.imp (fun h => by omega) id
theorem below_draws {B : Nat} {a w : World} (h : Below B a w) (n : Nat) : Below B a (w.drewN n) := ⟨h.os, h.tape, h.output, h.size, h.block⟩
set_option maxHeartbeats 400000 in
theorem check_neg (w : World) (A : Option Addr) (n c : Nat) (f : Nat → Nat) (k : Int) (h1 : k < 0) :
    Calls Try.prog 25 #[.agg #[.slice A n c, .int .i64 k]] w fun e w' => e = .returned (.int .i64 (penE f n k)) ∧ Below w.heap.size w w' := by
  go_enter Try.func25, Try.ntmps25
  go_wp2
  go_quiet (fail)
  go_wp2
  go_ret
  exact ⟨ret_int (checkE_bad (by omega)).symm, below_draws ((Below.refl _ _).alloc (Nat.le_refl _) _) _⟩
set_option maxHeartbeats 400000 in
theorem check_great (w : World) (A : Option Addr) (n c : Nat) (f : Nat → Nat) (k : Int) (h1 : 8388608 < k) :
    Calls Try.prog 25 #[.agg #[.slice A n c, .int .i64 k]] w fun e w' => e = .returned (.int .i64 (penE f n k)) ∧ Below w.heap.size w w' := by
  have hd : decide (k < 0) = false := decide_eq_false (by omega)
  have hd1 : decide ((8388608 : Int) < k) = true := decide_eq_true (by omega)
  go_enter Try.func25, Try.ntmps25
  go_wp2
  go_quiet (fail)
  go_wp2
  go_ret
  exact ⟨ret_int (checkE_bad (by omega)).symm, below_draws ((Below.refl _ _).alloc (Nat.le_refl _) _) _⟩
set_option maxHeartbeats 400000 in
theorem check_len (w : World) (A : Option Addr) (n c : Nat) (f : Nat → Nat) (k : Nat) (hk : k ≤ 8388608) (hn : n ≠ (k + 7) / 8) :
    Calls Try.prog 25 #[.agg #[.slice A n c, .int .i64 (k : Int)]] w fun e w' => e = .returned (.int .i64 (penE f n k)) ∧ Below w.heap.size w w' := by
  have hne : ((n : Int) == (((k + 7) / 8 : Nat) : Int)) = false := by simp; omega
  have hne' : ((n : Int) != (((k + 7) / 8 : Nat) : Int)) = true := by simp; omega
  have hd : decide ((k : Int) < 0) = false := decide_eq_false (by omega)
  have hd1 : decide ((8388608 : Int) < (k : Int)) = false := decide_eq_false (by omega)
  have HN := Lib.hid hn
  clear hn
  go_enter Try.func25, Try.ntmps25
  go_wp2
  go_quiet ((go_at_call 43; exact Calls.quiet_of_same ((need_any k _ (by omega)).mono fun _ _ ⟨a, b⟩ => ⟨a, b.symm⟩)))
  go_wp2
  go_ret
  have := HN.out
  exact ⟨ret_int (checkE_bad (by omega)).symm, below_draws ((Below.refl _ _).alloc (Nat.le_refl _) _) _⟩
set_option maxHeartbeats 400000 in
theorem check_whole (w : World) (A : Option Addr) (n c : Nat) (f : Nat → Nat) (k : Nat) (hk : k ≤ 8388608) (hn : n = (k + 7) / 8) (h8 : k % 8 = 0) :
    Calls Try.prog 25 #[.agg #[.slice A n c, .int .i64 (k : Int)]] w fun e w' => e = .returned (.int .i64 (penE f n k)) ∧ Below w.heap.size w w' := by
  have hne : ((n : Int) == (((k + 7) / 8 : Nat) : Int)) = true := by simp; omega
  have hne' : ((n : Int) != (((k + 7) / 8 : Nat) : Int)) = false := by simp; omega
  have hk8 : ¬ 0 < (k : Int) % 8 := by omega
  have hd : decide ((k : Int) < 0) = false := decide_eq_false (by omega)
  have hd1 : decide ((8388608 : Int) < (k : Int)) = false := decide_eq_false (by omega)
  have HN := Lib.hid hn
  have H8 := Lib.hid h8
  clear hn h8
  go_enter Try.func25, Try.ntmps25
  go_wp2
  go_quiet ((go_at_call 43; exact Calls.quiet_of_same ((need_any k _ (by omega)).mono fun _ _ ⟨a, b⟩ => ⟨a, b.symm⟩)))
  go_wp2
  go_ret
  have := HN.out
  have := H8.out
  exact ⟨ret_int (checkE_ok (by omega)).symm, below_draws ((Below.refl _ _).alloc (Nat.le_refl _) _) _⟩
set_option maxHeartbeats 400000 in
theorem check_part (w : World) (A : Option Addr) (n c : Nat) (f : Nat → Nat) (k : Nat) (hr : RdB w w.heap.size A n f) (hk : k ≤ 8388608) (hn : n = (k + 7) / 8) (h8 : 0 < k % 8) :
    Calls Try.prog 25 #[.agg #[.slice A n c, .int .i64 (k : Int)]] w fun e w' => e = .returned (.int .i64 (penE f n k)) ∧ Below w.heap.size w w' := by
  obtain ⟨hf, hc⟩ := hr
  obtain ⟨b, o, rfl, hb, hc⟩ := hc (by omega)
  have hcell := hc (n - 1) (by omega)
  have hf8 := hf (n - 1)
  clear hc hf
  obtain ⟨m, rfl⟩ : ∃ m, n = m + 1 := ⟨n - 1, by omega⟩
  have hne : (((m + 1 : Nat) : Int) == (((k + 7) / 8 : Nat) : Int)) = true := by simp; omega
  have hne' : (((m + 1 : Nat) : Int) != (((k + 7) / 8 : Nat) : Int)) = false := by simp; omega
  have hk8 : 0 < (k : Int) % 8 := by omega
  have hm : m ≤ 1048576 := by omega
  have hd : decide ((k : Int) < 0) = false := decide_eq_false (by omega)
  have hd1 : decide ((8388608 : Int) < (k : Int)) = false := decide_eq_false (by omega)
  have HN := Lib.hid hn
  have H8 := Lib.hid h8
  clear hn h8
  rw [Nat.add_sub_cancel] at hcell hf8
  go_enter Try.func25, Try.ntmps25
  go_wp2
  go_quiet ((go_at_call 43; exact Calls.quiet_of_same ((need_any k _ (by omega)).mono fun _ _ ⟨a, b⟩ => ⟨a, b.symm⟩)))
  go_wp2
  all_goals go_ret
  all_goals refine ⟨ret_int ?_, below_draws ((Below.refl _ _).alloc (Nat.le_refl _) _) _⟩
  · have h : (((f m : Nat) : Int) / 2 ^ (k % 8) != 0) = true := by assumption
    rw [cast_shr] at h
    simp only [bne_iff_ne, ne_eq] at h
    rw [checkE_nat, if_neg]
    rintro ⟨_, _, h3⟩
    have := H8.out
    rw [Nat.add_sub_cancel] at h3
    unfold shrN at h3
    omega
  · have h : (((f m : Nat) : Int) / 2 ^ (k % 8) != 0) = false := by assumption
    rw [cast_shr] at h
    simp only [bne_eq_false_iff_eq] at h
    rw [checkE_nat, if_pos]
    refine ⟨hk, HN.out, .inr ?_⟩
    rw [Nat.add_sub_cancel]
    unfold shrN
    omega
theorem pcheck_any (w : World) (A : Option Addr) (n c : Nat) (f : Nat → Nat) (k : Int) (hr : RdB w w.heap.size A n f) :
    Calls Try.prog 25 #[.agg #[.slice A n c, .int .i64 k]] w fun e w' => e = .returned (.int .i64 (penE f n k)) ∧ Below w.heap.size w w' := by
  by_cases h1 : k < 0
  · exact check_neg w A n c f k h1
  · obtain ⟨k, rfl⟩ := Int.eq_ofNat_of_zero_le (show 0 ≤ k by omega)
    rcases Nat.lt_or_ge 8388608 k with h2 | h2
    · exact check_great w A n c f k (by omega)
    · by_cases h3 : n = (k + 7) / 8
      · rcases Nat.eq_zero_or_pos (k % 8) with h4 | h4
        · exact check_whole w A n c f k h2 h3 h4
        · exact check_part w A n c f k hr h2 h3 h4
      · exact check_len w A n c f k h2 h3
end Go.Proofs.Ytedjapamimhglaa
