/-
  Layer 2 (sums): what sums.Adler and the document's own Adler answer, for every sum and bytes.
-/
import Derived.Test.YtpnnnmkonodbiaaSumCrc
namespace Go.Proofs.Ytpnnnmkonodbiaa
open Go.RowKit
theorem and_low (s : Nat) (hs : s < 4294967296) : bits .and .u32 (s : Int) 65535 = ((s % 65536 : Nat) : Int) := by
  have h := u32_and s 65535 hs (by omega)
  have e : s &&& 65535 = s % 65536 := Nat.and_two_pow_sub_one_eq_mod s 16
  rw [e] at h
  exact h
theorem or_high (h a : Nat) (hh : h < 65536) (ha : a < 65536) : bits .or .u32 (((h * 65536 : Nat) : Int)) (a : Int) = ((h * 65536 + a : Nat) : Int) :=
  u32_or_add (h * 65536) a 16 (by omega) (by omega) (by omega) (by omega)
set_option maxRecDepth 100000 in
set_option maxHeartbeats 1000000 in
theorem adl_any (w : World) (B : Nat) (s : Nat) (A : Option Addr) (l c : Nat) (f : Nat → Nat) (hs : s < 4294967296) (hr : RdB w B A l f) (hl : l ≤ 1000000000000) :
    Calls Try.prog 12 #[.int .u32 (s : Int), .slice A l c] w fun e w' => e = .returned (.int .u32 (adlV s f l : Nat)) ∧ w = w' := by
  have HR := Lib.hid hr
  have HF := Lib.hid hr.1
  have h1 := and_low s hs
  clear hr
  go_enter Try.func12, Try.ntmps12
  go_wp2
  clear h1
  go_loop [5, 6, 15] (fun a h k => ∃ j : Nat, j ≤ l ∧ k = .int .i64 j ∧ a = .int .u32 (loN (s % 65536) f j : Nat) ∧ h = .int .u32 (hiN (s % 65536) (s / 65536) f j : Nat)) (fun _ _ k => l - (intOf k).toNat)
  case atStart => exact ⟨0, Nat.zero_le _, rfl, rfl, rfl⟩
  case round =>
    obtain ⟨j, hj, rfl, rfl, rfl⟩ := hrel
    have ha := loN_lt f (a := s % 65536) (by omega) j
    have hh := hiN_lt f (a := s % 65536) (h := s / 65536) (by omega) j
    obtain ⟨a, hae⟩ : ∃ a, a = loN (s % 65536) f j := ⟨_, rfl⟩
    obtain ⟨h, hhe⟩ : ∃ h, h = hiN (s % 65536) (s / 65536) f j := ⟨_, rfl⟩
    rw [← hae] at ha
    rw [← hhe] at hh
    rw [← hae, ← hhe]
    have HA := Lib.hid hae
    have HH := Lib.hid hhe
    clear hae hhe
    by_cases hlt : j < l
    · obtain ⟨b, o, rfl, hb, hc⟩ := HR.out.at (by omega)
      have hcell := hc j hlt
      clear hc
      have hf := HF.out j
      go_wp2
      refine ⟨⟨j + 1, hlt, by go_num, val_int ?_, val_int ?_⟩, by simp [intOf]; omega⟩
      · simp only [loN]; rw [← HA.out]; omega
      · simp only [hiN, loN]; rw [← HA.out, ← HH.out]; omega
    · obtain rfl : j = l := by omega
      have ho := or_high h a hh ha
      rw [show ((h * 65536 : Nat) : Int) = (h : Int) * 65536 by omega] at ho
      clear hj hlt
      go_wp2
      go_ret
      exact ⟨ret_int (by unfold adlV; rw [← HA.out, ← HH.out]; omega), rfl⟩
theorem mod_same {a b : Nat} (h : a % 65521 = b % 65521) (ha : a < 65521) : a = b % 65521 := by omega
set_option maxRecDepth 100000 in
set_option maxHeartbeats 1000000 in
theorem radl_any (w : World) (B : Nat) (s : Nat) (A : Option Addr) (l c : Nat) (f : Nat → Nat) (hs : s < 4294967296) (hr : RdB w B A l f) (hl : l ≤ 1000000000000) :
    Calls Try.prog 14 #[.int .u32 (s : Int), .slice A l c] w fun e w' => e = .returned (.int .u32 (adlV s f l : Nat)) ∧ w = w' := by
  have HR := Lib.hid hr
  have HF := Lib.hid hr.1
  clear hr
  go_enter Try.func14, Try.ntmps14
  go_wp2
  go_loop [5, 6, 7] (fun a h k => ∃ j : Nat, j ≤ l ∧ k = .int .i64 j ∧ a = .int .u64 (loN (s % 65536) f j : Nat) ∧ h = .int .u64 (hiN (s % 65536) (s / 65536) f j : Nat)) (fun _ _ k => l - (intOf k).toNat)
  case atStart => exact ⟨0, Nat.zero_le _, rfl, rfl, rfl⟩
  case round =>
    obtain ⟨j, hj, rfl, rfl, rfl⟩ := hrel
    have ha := loN_lt f (a := s % 65536) (by omega) j
    have hh := hiN_lt f (a := s % 65536) (h := s / 65536) (by omega) j
    obtain ⟨a, hae⟩ : ∃ a, a = loN (s % 65536) f j := ⟨_, rfl⟩
    obtain ⟨h, hhe⟩ : ∃ h, h = hiN (s % 65536) (s / 65536) f j := ⟨_, rfl⟩
    rw [← hae] at ha
    rw [← hhe] at hh
    rw [← hae, ← hhe]
    have HA := Lib.hid hae
    have HH := Lib.hid hhe
    clear hae hhe
    by_cases hlt : j < l
    · have hd : decide ((j : Int) < (l : Int)) = true := by simp; omega
      have hd2 : decide (j < l) = true := by simp; omega
      obtain ⟨b, o, rfl, hb, hc⟩ := HR.out.at (by omega)
      have hcell := hc j hlt
      clear hc
      have hf := HF.out j
      go_wp2
      go_loop [5] (fun v => ∃ x : Nat, x % 65521 = (a + f j) % 65521 ∧ x < 70000 ∧ v = .int .u64 x) (fun v => (intOf v).toNat)
      case atStart => exact ⟨a + f j, rfl, by omega, by go_num⟩
      case round =>
        obtain ⟨x, hx, hx2, rfl⟩ := hrel
        by_cases hge : (65521 : Int) ≤ (x : Int)
        · have HX := Lib.hid hx; clear hx
          go_wp2
          go_round
          case rel => exact ⟨x - 65521, by have := HX.out; omega, by omega, val_int (by omega)⟩
          case measure => simp [intOf]; omega
        · have hx3 : x = (a + f j) % 65521 := mod_same hx (by omega)
          have HX := Lib.hid hx3; clear hx hx3
          have hd3 : decide ((65521 : Int) ≤ (x : Int)) = false := by simp; omega
          go_wp2
          go_loop [6] (fun v => ∃ y : Nat, y % 65521 = (h + x) % 65521 ∧ y < 140000 ∧ v = .int .u64 y) (fun v => (intOf v).toNat)
          case atStart => exact ⟨h + x, rfl, by omega, by go_num⟩
          case round =>
            obtain ⟨y, hy, hy2, rfl⟩ := hrel
            by_cases hge2 : (65521 : Int) ≤ (y : Int)
            · have HY := Lib.hid hy; clear hy
              go_wp2
              go_round
              case rel => exact ⟨y - 65521, by have := HY.out; omega, by omega, val_int (by omega)⟩
              case measure => simp [intOf]; omega
            · have hy3 : y = (h + x) % 65521 := mod_same hy (by omega)
              have HY := Lib.hid hy3; clear hy hy3
              have hd4 : decide ((65521 : Int) ≤ (y : Int)) = false := by simp; omega
              go_wp2
              go_round
              case rel =>
                refine ⟨j + 1, by omega, by go_num, val_int ?_, val_int ?_⟩
                · simp only [loN]; rw [← HA.out, ← HX.out]
                · simp only [hiN, loN]; rw [← HA.out, ← HH.out, ← HX.out, ← HY.out]
              case measure => simp [intOf]; omega
    · obtain rfl : j = l := by omega
      clear hj hlt
      go_wp2
      go_ret
      exact ⟨ret_int (by unfold adlV; rw [← HA.out, ← HH.out]; omega), rfl⟩
end Go.Proofs.Ytpnnnmkonodbiaa
