/-
  Layer 9 (reach), the landed code: symbol of a kind.
-/
import Derived.Test.YtdecacajignkoaaReaKnd
import Derived.BigRegion
import Derived.BigQuiet
namespace Go.Proofs.Ytdecacajignkoaa
open Go.RowKit
theorem i64_and (a b : Nat) (ha : a < 9223372036854775808) (hb : b < 9223372036854775808) : bits .and .i64 (a : Int) (b : Int) = ((a &&& b : Nat) : Int) := by
  have hx : a &&& b < 2 ^ 63 := Nat.and_lt_two_pow _ (by omega)
  show IntKind.i64.wrap ((BitVec.ofInt 64 (a : Int) &&& BitVec.ofInt 64 (b : Int)).toNat : Int) = _
  rw [BitVec.toNat_and, ofInt_nat 64 a (by omega), ofInt_nat 64 b (by omega), IntKind.wrap_i64]
  have e : (2 : Nat) ^ 63 = 9223372036854775808 := rfl
  generalize a &&& b = x at hx ⊢
  omega
theorem mask9 (z b : Nat) (hz : z ≤ 40000) (hb : b < 14) : bits .and .i64 (z : Int) (wrap64 (wrap64 ((2 : Int) ^ b) - 1)) = ((z % p2N b : Nat) : Int) := by
  have e : (2 : Int) ^ b = ((2 ^ b : Nat) : Int) := by rw [Int.natCast_pow]; rfl
  have h1 : 2 ^ b ≤ 2 ^ 13 := Nat.pow_le_pow_right (by omega) (by omega)
  have h0 : 0 < 2 ^ b := Nat.pow_pos (by omega)
  have e2 : wrap64 (wrap64 ((2 : Int) ^ b) - 1) = ((2 ^ b - 1 : Nat) : Int) := by
    rw [e]
    generalize 2 ^ b = x at h1 h0
    unfold wrap64
    omega
  rw [e2, i64_and z _ (by omega) (by omega), Nat.and_two_pow_sub_one_eq_mod]
  rfl
/-- What symbol tells. -/
def SyOut (l m f s o : Int) (M : Nat → Nat) (n : Int) (e : Ending) : Prop :=
  if n < l ∨ m < n then e = .returned (.tuple #[.int .i64 0, .int .i64 0, .int .i64 0, .int .i64 2]) else
  if n = o then e = .returned (.tuple #[.int .i64 s, .int .i64 0, .int .i64 0, .int .i64 0]) else
  ∃ b z : Nat, b < 14 ∧ z < M b * p2N b ∧ n = l + ((smS M b + z : Nat) : Int) ∧ e = .returned (.tuple #[.int .i64 (f + ((smC M b + z / p2N b : Nat) : Int)), .int .i64 (b : Int), .int .i64 ((z % p2N b : Nat) : Int), .int .i64 0])
set_option maxRecDepth 100000 in
set_option maxHeartbeats 4000000 in
theorem symbol9_any (w : World) (l m f s o : Int) (M : Nat → Nat) (hk : KndOk l m f s o M) (n : Int) :
    Calls Try.prog 27 #[.agg (kdA l m f s o M), .int .i64 n] w fun e w' => SyOut l m f s o M n e ∧ Below w.heap.size w w' := by
  have hkn := knd_new w l m f s o M
  have hb : Below w.heap.size w (w.alloc (.cells (kdA l m f s o M) 41)) := (Below.refl _ _).alloc (Nat.le_refl _) _
  have k0 := hkn.least
  have k1 := hkn.most
  have k2 := hkn.first
  have k3 := hkn.last
  have k4 := hkn.own
  have HKN := Lib.hid hkn; have HB := Lib.hid hb; have HK := Lib.hid hk
  clear hkn hb hk
  by_cases y0 : n < l
  · have d0 : decide (n < l) = true := decY y0
    go_enter Try.func27, Try.ntmps27
    go_wp2
    refine bodyPost_ret (results_tmp4 rfl _ _ _) rfl ?_
    exact ⟨by unfold SyOut; rw [if_pos (.inl y0)]; rfl, HB.out⟩
  have d0 : decide (n < l) = false := decN y0
  by_cases y1 : m < n
  · have d1 : decide (m < n) = true := decY y1
    go_enter Try.func27, Try.ntmps27
    go_wp2
    refine bodyPost_ret (results_tmp4 rfl _ _ _) rfl ?_
    exact ⟨by unfold SyOut; rw [if_pos (.inr y1)]; rfl, HB.out⟩
  have d1 : decide (m < n) = false := decN y1
  have hno : ¬ (n < l ∨ m < n) := by omega
  by_cases y2 : n = o
  · subst y2
    have d2 : (n == n) = true := by simp
    have HN := Lib.hid hno
    clear hno
    go_enter Try.func27, Try.ntmps27
    go_wp2
    refine bodyPost_ret (results_tmp4 rfl _ _ _) rfl ?_
    exact ⟨by unfold SyOut; rw [if_neg HN.out, if_pos rfl]; rfl, HB.out⟩
  have d2 : (n == o) = false := by simpa using y2
  obtain ⟨hl0, hl1⟩ := HK.out.l0
  obtain ⟨hf0, hf1⟩ := HK.out.f0
  have hS14 := HK.out.S14
  have hm0 := HK.out.m0
  have hnl : 0 ≤ n - l ∧ n - l ≤ 40000 ∧ n - l < ((smS M 14 : Nat) : Int) := by omega
  obtain ⟨hn1, hn2, hn3⟩ := hnl
  have HN := Lib.hid hno; have H3 := Lib.hid hn3; have HO := Lib.hid y2
  clear hS14 hm0 hno hn3 y2
  go_enter Try.func27, Try.ntmps27
  go_wp2
  go_quiet (fail)
  go_wp2
  go_loopw [4, 5, 8] (fun sv bv fv wr => ∃ b z C : Nat, b < 14 ∧ z ≤ 40000 ∧ C ≤ 40 ∧ sv = .int .i64 (f + (C : Int)) ∧ bv = .int .i64 (b : Int) ∧ fv = .int .i64 (z : Int) ∧ Hid (C = smC M b) ∧ Hid (n = l + ((smS M b + z : Nat) : Int)) ∧ Hid (Knd wr w.heap.size l m f s o M) ∧ Hid (Below w.heap.size w wr)) (fun _ bv _ _ => 14 - (intOf bv).toNat)
  case atStart =>
    refine ⟨0, (n - l).toNat, 0, by omega, by omega, by omega, by simp, rfl, ?_, Lib.hid rfl, Lib.hid ?_, Lib.hid (HKN.out.drewN _), Lib.hid (belowN9 HB.out _)⟩
    · exact val_int (by omega)
    · show n = l + ((0 + (n - l).toNat : Nat) : Int); omega
  case round =>
    obtain ⟨b, z, C, hb, hz, hC, rfl, rfl, rfl, HCC, HY, HKR, HBR⟩ := hrel
    have c1 := HKR.out.many hb
    obtain ⟨q, hq⟩ : ∃ q, q = M b := ⟨_, rfl⟩
    rw [← hq] at c1
    have HQ := Lib.hid hq
    clear hq
    have hq40 : q ≤ 40 := by
      rw [HQ.out]
      have := (many_le (M := M) hb).1
      have := HK.out.C14; omega
    obtain ⟨g1, g2⟩ := sh9 q b (by omega) hb
    obtain ⟨P, hP⟩ : ∃ P, P = q * p2N b := ⟨_, rfl⟩
    rw [← hP] at g1 g2
    have HP := Lib.hid hP; have G1 := Lib.hid g1
    clear hP g1
    by_cases hlt : P ≤ z
    · have hlt2 : (P : Int) ≤ (z : Int) := by omega
      have hd : decide (wrap64 ((q : Int) * 2 ^ b) ≤ (z : Int)) = true := by rw [G1.out]; exact decY hlt2
      go_wp2
      go_roundw
      case rel =>
        have hb13 : b + 1 < 14 := by
          rcases Nat.lt_or_ge (b + 1) 14 with h | h
          · exact h
          · exfalso
            have e13 : b = 13 := by omega
            have h1 := H3.out; have h2 := HY.out
            have h3 : smS M 14 = smS M 13 + M 13 * p2N 13 := rfl
            have h4 := HP.out
            rw [e13] at h2 h4 HQ
            rw [HQ.out] at h4
            omega
        have hS1 : smS M (b + 1) = smS M b + P := by rw [HP.out, HQ.out]; rfl
        have hC1 : smC M (b + 1) = C + q := by rw [HQ.out, HCC.out]; rfl
        have hC2 : smC M (b + 1) ≤ 40 := Nat.le_trans (smC_le M (by omega)) HK.out.C14
        refine ⟨b + 1, z - P, C + q, hb13, by omega, by omega, val_int (by omega), by go_num, val_int ?_, Lib.hid hC1.symm, Lib.hid ?_, HKR, HBR⟩
        · rw [G1.out]; unfold wrap64; omega
        · rw [HY.out, hS1]; omega
      case measure => simp [intOf]; omega
    · have hd : decide (wrap64 ((q : Int) * 2 ^ b) ≤ (z : Int)) = false := by rw [G1.out]; exact decN (by omega)
      have hsv : (z : Int) / 2 ^ b = ((z / p2N b : Nat) : Int) ∧ z / p2N b ≤ 40000 := by
        have e : (2 : Int) ^ b = ((2 ^ b : Nat) : Int) := by rw [Int.natCast_pow]; rfl
        refine ⟨by rw [e]; rfl, Nat.le_trans (Nat.div_le_self _ _) hz⟩
      have HSV := Lib.hid hsv
      clear hsv
      go_wp2
      go_quiet (fail)
      go_wp2
      refine bodyPost_ret (results_tmp4 rfl _ _ _) rfl ?_
      refine ⟨?_, belowN9 HBR.out _⟩
      unfold SyOut
      rw [if_neg HN.out, if_neg HO.out]
      refine ⟨b, z, hb, by rw [← HQ.out, ← HP.out]; omega, HY.out, ?_⟩
      have e1 : wrap64 (f + (C : Int) + (z : Int) / 2 ^ b) = f + ((smC M b + z / p2N b : Nat) : Int) := by
        rw [HSV.out.1, ← HCC.out]
        have := HSV.out.2
        generalize z / p2N b = x at this
        unfold wrap64; omega
      rw [e1, mask9 z b hz hb]
      rfl
end Go.Proofs.Ytdecacajignkoaa
