/-
  Layer 11 (block), the program's: how often each symbol stands in tokens, and how many extra bits these have.
-/
import Derived.BigRegion
import Derived.BigQuiet
import Derived.Test.YtjhljkhgjcckhaaGreatMhar
namespace Go.Proofs.YtjhljkhgjcckhaaGreat
open Go.RowKit
set_option maxRecDepth 100000 in
set_option maxHeartbeats 4000000 in
theorem longs9_any (w : World) : Calls Tryz.prog 64 #[] w fun e w' => e = .returned (.agg (kdA 3 258 257 285 258 (lsM longL))) ∧ Below w.heap.size w w' := by
  have hz := (zero_of_info infoKd).1
  obtain ⟨hr, v0, b0, hlt⟩ := made_row w (kdA 0 0 0 0 0 (fun _ => 0)) 124 longL #[.int .i64 8, .int .i64 4, .int .i64 4, .int .i64 4, .int .i64 4, .int .i64 4] rfl
  have hfl := filled9_any _ 3 257 _ 6 6 longL rfl (by omega) hr (by omega) (by omega) (by decide) (by decide)
  have e1 : (3 : Int) - 1 + ((smS (lsM longL) 6 : Nat) : Int) = 258 := by decide
  have e2 : (257 : Int) - 1 + ((smC (lsM longL) 6 : Nat) : Int) = 284 := by decide
  rw [e1, e2] at hfl
  obtain ⟨V, hV⟩ : ∃ V, V = ((w.alloc (.cells (kdA 0 0 0 0 0 (fun _ => 0)) 124)).alloc (.cells #[.int .i64 8, .int .i64 4, .int .i64 4, .int .i64 4, .int .i64 4, .int .i64 4] 3)) := ⟨_, rfl⟩
  rw [← hV] at hfl v0 b0 hlt
  have HF := Lib.hid hfl; have V0 := Lib.hid v0; have B0 := Lib.hid b0; have HV := Lib.hid hV.symm; have HLT := Lib.hid hlt
  clear hfl v0 b0 hV hr e1 e2 hlt
  obtain ⟨MM, hMM⟩ : ∃ MM, MM = lsM longL := ⟨_, rfl⟩
  rw [← hMM] at HF ⊢
  clear hMM
  go_enter Tryz.func64, Tryz.ntmps64
  go_wp2_with fail
  rw [HV.out]
  refine HF.out.mono ?_
  rintro e w1 ⟨rfl, hb1⟩
  have hk1 : Knd w1 w.heap.size 0 0 0 0 0 (fun _ => 0) := (hb1.block w.heap.size HLT.out).trans V0.out
  have bb1 : Below w.heap.size w w1 := B0.out.trans (hb1.mono (Nat.le_of_lt HLT.out))
  have hne : w.heap.size ≠ w1.heap.size := by have := hk1.lt; omega
  obtain ⟨U, hU⟩ : ∃ U, U = mkV w1 (kdA 0 0 0 0 0 (fun _ => 0)) (kdA 3 258 257 284 0 MM) 124 := ⟨_, rfl⟩
  have u1 : Knd U w1.heap.size 3 258 257 284 0 MM := by rw [hU]; exact mkV_row _ _ _ _
  have bU : Below w1.heap.size w1 U := by rw [hU]; exact mkV_below _ _ _ _
  have u0 : Knd U w.heap.size 0 0 0 0 0 (fun _ => 0) := hk1.below bU hk1.lt
  have f1 := u1.frozen 18
  have k1 := u1.own
  have u2 := u1.setOwn 258
  have f2 := u2.frozen 3
  have k2 := u2.last
  have u3 := u2.setLast 285
  have z3 := (u0.other (p := ⟨w1.heap.size, 18, none⟩) hne (.int .i64 258)).other (p := ⟨w1.heap.size, 3, none⟩) hne (.int .i64 285)
  have bb3 := ((bb1.trans (bU.mono bb1.size)).setCell (p := ⟨w1.heap.size, 18, none⟩) bb1.size (.int .i64 258)).setCell (p := ⟨w1.heap.size, 3, none⟩) bb1.size (.int .i64 285)
  have HU := Lib.hid hU.symm; have U3 := Lib.hid u3; have Z3 := Lib.hid z3; have BB3 := Lib.hid bb3
  clear hk1 bb1 hne hU u1 bU u0 u2 u3 z3 bb3 hb1
  go_wp2_with (first
    | (refine wpList_store_rowTo rfl _ _ _ rfl rfl w1.heap.size (kdA 3 258 257 284 0 MM) rfl rfl 124 (kdA 0 0 0 0 0 (fun _ => 0)) (heap_alloc_new w1 _) (szKd _) rfl (tblA_one _ _) ?_; change wpList _ _ _ _ _ (mkV w1 (kdA 0 0 0 0 0 (fun _ => 0)) (kdA 3 258 257 284 0 MM) 124); rw [HU.out])
    | (refine wpList_load_row rfl _ _ rfl w1.heap.size rfl _ (kdA 3 258 257 285 258 MM) (0, 0) _ U3.out Tryz.underlying124 rfl (szKd _) ?_)
    | (refine wpList_store_rowTo rfl _ _ _ rfl rfl w.heap.size (kdA 3 258 257 285 258 MM) rfl rfl 124 (kdA 0 0 0 0 0 (fun _ => 0)) Z3.out (szKd _) rfl (tblA_one _ _) ?_)
    | fail)
  refine bodyPost_ret (v := .agg (kdA 3 258 257 285 258 MM)) ?_ rfl ⟨rfl, below_row9 BB3.out (Nat.le_refl _) _⟩
  exact results_cell_row rfl _ _ w.heap.size _ _ (0, 0) _ rfl (setRow_heap _ _ _ _ _ _ Z3.out) Tryz.underlying124 rfl (szKd _)
theorem long_ok9 : KndOk 3 258 257 285 258 (lsM longL) := ⟨by omega, by omega, by omega, by omega, by decide, .inr (by decide), by decide, by decide⟩
theorem far_ok9 : KndOk 1 32768 0 29 0 (lsM farL) := ⟨by omega, by omega, by omega, by omega, by decide, .inl (by decide), by decide, by decide⟩
/-- The numbers of a kind are the table's. -/
theorem long_tab : ∀ b, b < 14 → ∀ z, z < lsM longL b → smC (lsM longL) b + z < 28 ∧ longT (smC (lsM longL) b + z) = 3 + (smS (lsM longL) b + z * p2N b) ∧ longX (smC (lsM longL) b + z) = b := by decide +kernel
theorem far_tab : ∀ b, b < 14 → ∀ z, z < lsM farL b → smC (lsM farL) b + z < 30 ∧ farT (smC (lsM farL) b + z) = 1 + (smS (lsM farL) b + z * p2N b) ∧ farX (smC (lsM farL) b + z) = b := by decide +kernel
end Go.Proofs.YtjhljkhgjcckhaaGreat

namespace Go.Proofs.YtjhljkhgjcckhaaGreat
open Go.RowKit
theorem i64_and (a b : Nat) (ha : a < 9223372036854775808) (hb : b < 9223372036854775808) : bits .and .i64 (a : Int) (b : Int) = ((a &&& b : Nat) : Int) := by
  have hx : a &&& b < 2 ^ 63 := Nat.and_lt_two_pow _ (by omega)
  show IntKind.i64.wrap ((BitVec.ofInt 64 (a : Int) &&& BitVec.ofInt 64 (b : Int)).toNat : Int) = _
  rw [BitVec.toNat_and, ofInt_nat 64 a (by omega), ofInt_nat 64 b (by omega), IntKind.wrap_i64]
  have e : (2 : Nat) ^ 63 = 9223372036854775808 := rfl
  generalize a &&& b = x at hx ⊢
  omega
theorem mask9 (z b : Nat) (hz : z ≤ 40000) (hb : b < 14) : bits .and .i64 (z : Int) (wrap64 (wrap64 ((2 : Int) ^ b) - 1)) = ((z % p2N b : Nat) : Int) := by
  have e : (2 : Int) ^ b = ((2 ^ b : Nat) : Int) := by rw [Int.natCast_pow]; rfl
  have h1 : 2 ^ b ≤ 2 ^ 13 := Nat.pow_le_pow_right (by omega) (by omega)
  have h0 : 0 < 2 ^ b := Nat.pow_pos (by omega)
  have e2 : wrap64 (wrap64 ((2 : Int) ^ b) - 1) = ((2 ^ b - 1 : Nat) : Int) := by
    rw [e]
    generalize 2 ^ b = x at h1 h0
    unfold wrap64
    omega
  rw [e2, i64_and z _ (by omega) (by omega), Nat.and_two_pow_sub_one_eq_mod]
  rfl
/-- What symbol tells. -/
def SyOut (l m f s o : Int) (M : Nat → Nat) (n : Int) (e : Ending) : Prop :=
  if n < l ∨ m < n then e = .returned (.tuple #[.int .i64 0, .int .i64 0, .int .i64 0, .int .i64 2]) else
  if n = o then e = .returned (.tuple #[.int .i64 s, .int .i64 0, .int .i64 0, .int .i64 0]) else
  ∃ b z : Nat, b < 14 ∧ z < M b * p2N b ∧ n = l + ((smS M b + z : Nat) : Int) ∧ e = .returned (.tuple #[.int .i64 (f + ((smC M b + z / p2N b : Nat) : Int)), .int .i64 (b : Int), .int .i64 ((z % p2N b : Nat) : Int), .int .i64 0])
set_option maxRecDepth 100000 in
set_option maxHeartbeats 4000000 in
theorem symbol9_any (w : World) (l m f s o : Int) (M : Nat → Nat) (hk : KndOk l m f s o M) (n : Int) :
    Calls Tryz.prog 65 #[.agg (kdA l m f s o M), .int .i64 n] w fun e w' => SyOut l m f s o M n e ∧ Below w.heap.size w w' := by
  have hkn := knd_new w l m f s o M
  have hb : Below w.heap.size w (w.alloc (.cells (kdA l m f s o M) 124)) := (Below.refl _ _).alloc (Nat.le_refl _) _
  have k0 := hkn.least
  have k1 := hkn.most
  have k2 := hkn.first
  have k3 := hkn.last
  have k4 := hkn.own
  have HKN := Lib.hid hkn; have HB := Lib.hid hb; have HK := Lib.hid hk
  clear hkn hb hk
  by_cases y0 : n < l
  · have d0 : decide (n < l) = true := decY y0
    go_enter Tryz.func65, Tryz.ntmps65
    go_wp2
    refine bodyPost_ret (results_tmp4 rfl _ _ _) rfl ?_
    exact ⟨by unfold SyOut; rw [if_pos (.inl y0)]; rfl, HB.out⟩
  have d0 : decide (n < l) = false := decN y0
  by_cases y1 : m < n
  · have d1 : decide (m < n) = true := decY y1
    go_enter Tryz.func65, Tryz.ntmps65
    go_wp2
    refine bodyPost_ret (results_tmp4 rfl _ _ _) rfl ?_
    exact ⟨by unfold SyOut; rw [if_pos (.inr y1)]; rfl, HB.out⟩
  have d1 : decide (m < n) = false := decN y1
  have hno : ¬ (n < l ∨ m < n) := by omega
  by_cases y2 : n = o
  · subst y2
    have d2 : (n == n) = true := by simp
    have HN := Lib.hid hno
    clear hno
    go_enter Tryz.func65, Tryz.ntmps65
    go_wp2
    refine bodyPost_ret (results_tmp4 rfl _ _ _) rfl ?_
    exact ⟨by unfold SyOut; rw [if_neg HN.out, if_pos rfl]; rfl, HB.out⟩
  have d2 : (n == o) = false := by simpa using y2
  obtain ⟨hl0, hl1⟩ := HK.out.l0
  obtain ⟨hf0, hf1⟩ := HK.out.f0
  have hS14 := HK.out.S14
  have hm0 := HK.out.m0
  have hnl : 0 ≤ n - l ∧ n - l ≤ 40000 ∧ n - l < ((smS M 14 : Nat) : Int) := by omega
  obtain ⟨hn1, hn2, hn3⟩ := hnl
  have HN := Lib.hid hno; have H3 := Lib.hid hn3; have HO := Lib.hid y2
  clear hS14 hm0 hno hn3 y2
  go_enter Tryz.func65, Tryz.ntmps65
  go_wp2
  go_quiet (fail)
  go_wp2
  go_loopw [4, 5, 8] (fun sv bv fv wr => ∃ b z C : Nat, b < 14 ∧ z ≤ 40000 ∧ C ≤ 40 ∧ sv = .int .i64 (f + (C : Int)) ∧ bv = .int .i64 (b : Int) ∧ fv = .int .i64 (z : Int) ∧ Hid (C = smC M b) ∧ Hid (n = l + ((smS M b + z : Nat) : Int)) ∧ Hid (Knd wr w.heap.size l m f s o M) ∧ Hid (Below w.heap.size w wr)) (fun _ bv _ _ => 14 - (intOf bv).toNat)
  case atStart =>
    refine ⟨0, (n - l).toNat, 0, by omega, by omega, by omega, by simp, rfl, ?_, Lib.hid rfl, Lib.hid ?_, Lib.hid (HKN.out.drewN _), Lib.hid (belowN9 HB.out _)⟩
    · exact val_int (by omega)
    · show n = l + ((0 + (n - l).toNat : Nat) : Int); omega
  case round =>
    obtain ⟨b, z, C, hb, hz, hC, rfl, rfl, rfl, HCC, HY, HKR, HBR⟩ := hrel
    have c1 := HKR.out.many hb
    obtain ⟨q, hq⟩ : ∃ q, q = M b := ⟨_, rfl⟩
    rw [← hq] at c1
    have HQ := Lib.hid hq
    clear hq
    have hq40 : q ≤ 40 := by
      rw [HQ.out]
      have := (many_le (M := M) hb).1
      have := HK.out.C14; omega
    obtain ⟨g1, g2⟩ := sh9 q b (by omega) hb
    obtain ⟨P, hP⟩ : ∃ P, P = q * p2N b := ⟨_, rfl⟩
    rw [← hP] at g1 g2
    have HP := Lib.hid hP; have G1 := Lib.hid g1
    clear hP g1
    by_cases hlt : P ≤ z
    · have hlt2 : (P : Int) ≤ (z : Int) := by omega
      have hd : decide (wrap64 ((q : Int) * 2 ^ b) ≤ (z : Int)) = true := by rw [G1.out]; exact decY hlt2
      go_wp2
      go_roundw
      case rel =>
        have hb13 : b + 1 < 14 := by
          rcases Nat.lt_or_ge (b + 1) 14 with h | h
          · exact h
          · exfalso
            have e13 : b = 13 := by omega
            have h1 := H3.out; have h2 := HY.out
            have h3 : smS M 14 = smS M 13 + M 13 * p2N 13 := rfl
            have h4 := HP.out
            rw [e13] at h2 h4 HQ
            rw [HQ.out] at h4
            omega
        have hS1 : smS M (b + 1) = smS M b + P := by rw [HP.out, HQ.out]; rfl
        have hC1 : smC M (b + 1) = C + q := by rw [HQ.out, HCC.out]; rfl
        have hC2 : smC M (b + 1) ≤ 40 := Nat.le_trans (smC_le M (by omega)) HK.out.C14
        refine ⟨b + 1, z - P, C + q, hb13, by omega, by omega, val_int (by omega), by go_num, val_int ?_, Lib.hid hC1.symm, Lib.hid ?_, HKR, HBR⟩
        · rw [G1.out]; unfold wrap64; omega
        · rw [HY.out, hS1]; omega
      case measure => simp [intOf]; omega
    · have hd : decide (wrap64 ((q : Int) * 2 ^ b) ≤ (z : Int)) = false := by rw [G1.out]; exact decN (by omega)
      have hsv : (z : Int) / 2 ^ b = ((z / p2N b : Nat) : Int) ∧ z / p2N b ≤ 40000 := by
        have e : (2 : Int) ^ b = ((2 ^ b : Nat) : Int) := by rw [Int.natCast_pow]; rfl
        refine ⟨by rw [e]; rfl, Nat.le_trans (Nat.div_le_self _ _) hz⟩
      have HSV := Lib.hid hsv
      clear hsv
      go_wp2
      go_quiet (fail)
      go_wp2
      refine bodyPost_ret (results_tmp4 rfl _ _ _) rfl ?_
      refine ⟨?_, belowN9 HBR.out _⟩
      unfold SyOut
      rw [if_neg HN.out, if_neg HO.out]
      refine ⟨b, z, hb, by rw [← HQ.out, ← HP.out]; omega, HY.out, ?_⟩
      have e1 : wrap64 (f + (C : Int) + (z : Int) / 2 ^ b) = f + ((smC M b + z / p2N b : Nat) : Int) := by
        rw [HSV.out.1, ← HCC.out]
        have := HSV.out.2
        generalize z / p2N b = x at this
        unfold wrap64; omega
      rw [e1, mask9 z b hz hb]
      rfl
end Go.Proofs.YtjhljkhgjcckhaaGreat

namespace Go.Proofs.YtjhljkhgjcckhaaGreat
open Go.RowKit
theorem sy_long {n : Int} {e : Ending} (h : SyOut 3 258 257 285 258 (lsM longL) n e) : e = .returned (.tuple #[.int .i64 (lgS n), .int .i64 (lgB n), .int .i64 (lgX n), .int .i64 (lgE n)]) := by
  unfold SyOut at h
  by_cases h1 : n < 3 ∨ 258 < n
  · rw [if_pos h1] at h
    have hk : ¬ (3 ≤ n ∧ n ≤ 258) := by omega
    unfold lgS lgB lgX lgE
    rw [if_neg hk, if_neg hk, if_neg hk, if_neg hk]; exact h
  · rw [if_neg h1] at h
    have hk : 3 ≤ n ∧ n ≤ 258 := by omega
    by_cases h2 : n = 258
    · rw [if_pos h2] at h
      subst h2; exact h
    · rw [if_neg h2] at h
      obtain ⟨b, z, hb, hz, hn, he⟩ := h
      have hp : 0 < p2N b := Nat.pow_pos (by omega)
      have hd : z / p2N b < lsM longL b := Nat.div_lt_of_lt_mul (by rw [Nat.mul_comm]; exact hz)
      obtain ⟨g1, g2, g3⟩ := long_tab b hb _ hd
      have hm := Nat.mod_lt z hp
      have hdm := Nat.div_add_mod z (p2N b)
      rw [Nat.mul_comm] at hdm
      obtain ⟨i, hi⟩ : ∃ i, i = smC (lsM longL) b + z / p2N b := ⟨_, rfl⟩
      rw [← hi] at g1 g2 g3 he
      obtain ⟨x, hx⟩ : ∃ x, x = z % p2N b := ⟨_, rfl⟩
      rw [← hx] at hm hdm he
      have hT : n = ((longT i + x : Nat) : Int) := by omega
      have h27 : ¬ (i = 27 ∧ x = 31) := by
        rintro ⟨rfl, rfl⟩
        have e1 : longT 27 = 227 := rfl
        omega
      obtain ⟨q1, _, _⟩ := long_back (i := i) (x := x) (by omega) (by rw [g3]; exact hm) h27
      have eI : lgI n = i := by rw [hT]; exact q1
      have e2 : n.toNat - longT i = x := by omega
      unfold lgS lgB lgX lgE
      rw [if_pos hk, if_pos hk, if_pos hk, if_pos hk, eI, g3, e2, he]
      rw [show ((257 : Int) + (i : Int)) = ((257 + i : Nat) : Int) by omega]
theorem sy_far {n : Int} {e : Ending} (h : SyOut 1 32768 0 29 0 (lsM farL) n e) : e = .returned (.tuple #[.int .i64 (frS n), .int .i64 (frB n), .int .i64 (frX n), .int .i64 (frE n)]) := by
  unfold SyOut at h
  by_cases h1 : n < 1 ∨ 32768 < n
  · rw [if_pos h1] at h
    have hk : ¬ (1 ≤ n ∧ n ≤ 32768) := by omega
    unfold frS frB frX frE
    rw [if_neg hk, if_neg hk, if_neg hk, if_neg hk]; exact h
  · rw [if_neg h1] at h
    have hk : 1 ≤ n ∧ n ≤ 32768 := by omega
    rw [if_neg (by omega)] at h
    obtain ⟨b, z, hb, hz, hn, he⟩ := h
    have hp : 0 < p2N b := Nat.pow_pos (by omega)
    have hd : z / p2N b < lsM farL b := Nat.div_lt_of_lt_mul (by rw [Nat.mul_comm]; exact hz)
    obtain ⟨g1, g2, g3⟩ := far_tab b hb _ hd
    have hm := Nat.mod_lt z hp
    have hdm := Nat.div_add_mod z (p2N b)
    rw [Nat.mul_comm] at hdm
    obtain ⟨i, hi⟩ : ∃ i, i = smC (lsM farL) b + z / p2N b := ⟨_, rfl⟩
    rw [← hi] at g1 g2 g3 he
    obtain ⟨x, hx⟩ : ∃ x, x = z % p2N b := ⟨_, rfl⟩
    rw [← hx] at hm hdm he
    have hT : n = ((farT i + x : Nat) : Int) := by omega
    obtain ⟨q1, _, _⟩ := far_back (i := i) (x := x) (by omega) (by rw [g3]; exact hm)
    have eI : frI n = i := by rw [hT]; exact q1
    have e2 : n.toNat - farT i = x := by omega
    unfold frS frB frX frE
    rw [if_pos hk, if_pos hk, if_pos hk, if_pos hk, eI, g3, e2, he]
    rw [Int.zero_add]
set_option maxRecDepth 100000 in
set_option maxHeartbeats 1000000 in
theorem long9_any (w : World) (n : Int) : Calls Tryz.prog 45 #[.int .i64 n] w fun e w' => e = .returned (.tuple #[.int .i64 (lgS n), .int .i64 (lgB n), .int .i64 (lgX n), .int .i64 (lgE n)]) ∧ Below w.heap.size w w' := by
  obtain ⟨X, hX⟩ : ∃ X, X = kdA 3 258 257 285 258 (lsM longL) := ⟨_, rfl⟩
  have hs := fun v => symbol9_any v 3 258 257 285 258 (lsM longL) long_ok9 n
  have hk := longs9_any w
  rw [← hX] at hk hs
  have HM := Lib.hid hk; have HS := Lib.hid hs
  obtain ⟨z0, hz0⟩ : ∃ z, z = lgS n := ⟨_, rfl⟩; obtain ⟨z1, hz1⟩ : ∃ z, z = lgB n := ⟨_, rfl⟩; obtain ⟨z2, hz2⟩ : ∃ z, z = lgX n := ⟨_, rfl⟩; obtain ⟨z3, hz3⟩ : ∃ z, z = lgE n := ⟨_, rfl⟩
  have hy : ∀ e, SyOut 3 258 257 285 258 (lsM longL) n e → e = .returned (.tuple #[.int .i64 z0, .int .i64 z1, .int .i64 z2, .int .i64 z3]) := fun e h => by rw [hz0, hz1, hz2, hz3]; exact sy_long h
  rw [← hz0, ← hz1, ← hz2, ← hz3]
  have HY := Lib.hid hy
  clear hz0 hz1 hz2 hz3 hX hk hs hy
  go_enter Tryz.func45, Tryz.ntmps45
  go_wp2_with fail
  refine HM.out.mono ?_
  rintro e w1 ⟨rfl, hb1⟩
  have HB1 := Lib.hid hb1
  clear hb1
  go_wp2_with fail
  refine (HS.out w1).mono ?_
  rintro e w2 ⟨he, hb2⟩
  obtain rfl := HY.out _ he
  have HB2 := Lib.hid (HB1.out.trans (hb2.mono HB1.out.size))
  clear hb2 he
  go_wp2
  refine bodyPost_ret (results_tmp4 rfl _ _ _) rfl ?_
  exact ⟨rfl, HB2.out⟩
set_option maxRecDepth 100000 in
set_option maxHeartbeats 1000000 in
theorem far9_any (w : World) (n : Int) : Calls Tryz.prog 46 #[.int .i64 n] w fun e w' => e = .returned (.tuple #[.int .i64 (frS n), .int .i64 (frB n), .int .i64 (frX n), .int .i64 (frE n)]) ∧ Below w.heap.size w w' := by
  obtain ⟨X, hX⟩ : ∃ X, X = kdA 1 32768 0 29 0 (lsM farL) := ⟨_, rfl⟩
  have hs := fun v => symbol9_any v 1 32768 0 29 0 (lsM farL) far_ok9 n
  have hk := fars9_any w
  rw [← hX] at hk hs
  have HM := Lib.hid hk; have HS := Lib.hid hs
  obtain ⟨z0, hz0⟩ : ∃ z, z = frS n := ⟨_, rfl⟩; obtain ⟨z1, hz1⟩ : ∃ z, z = frB n := ⟨_, rfl⟩; obtain ⟨z2, hz2⟩ : ∃ z, z = frX n := ⟨_, rfl⟩; obtain ⟨z3, hz3⟩ : ∃ z, z = frE n := ⟨_, rfl⟩
  have hy : ∀ e, SyOut 1 32768 0 29 0 (lsM farL) n e → e = .returned (.tuple #[.int .i64 z0, .int .i64 z1, .int .i64 z2, .int .i64 z3]) := fun e h => by rw [hz0, hz1, hz2, hz3]; exact sy_far h
  rw [← hz0, ← hz1, ← hz2, ← hz3]
  have HY := Lib.hid hy
  clear hz0 hz1 hz2 hz3 hX hk hs hy
  go_enter Tryz.func46, Tryz.ntmps46
  go_wp2_with fail
  refine HM.out.mono ?_
  rintro e w1 ⟨rfl, hb1⟩
  have HB1 := Lib.hid hb1
  clear hb1
  go_wp2_with fail
  refine (HS.out w1).mono ?_
  rintro e w2 ⟨he, hb2⟩
  obtain rfl := HY.out _ he
  have HB2 := Lib.hid (HB1.out.trans (hb2.mono HB1.out.size))
  clear hb2 he
  go_wp2
  refine bodyPost_ret (results_tmp4 rfl _ _ _) rfl ?_
  exact ⟨rfl, HB2.out⟩
end Go.Proofs.YtjhljkhgjcckhaaGreat

namespace Go.Proofs.YtjhljkhgjcckhaaGreat
open Go.RowKit Go.ChangeShapes Go.WideShapes Go.ChangeAt Go.Joins
/-- The extra bits of tokens. -/
def extK (t : Tok) : Nat := if t.n = 0 then 0 else (lgB t.n).toNat + (frB t.d).toNat
def extT (l : List Tok) : Nat := (l.map extK).sum
theorem extT_one (l : List Tok) (t : Tok) : extT (l ++ [t]) = extT l + extK t := by unfold extT; simp
/-- What is counted of tokens, ahead of their end. -/
def cntL (l : List Tok) (i : Nat) : Nat := if i < 286 then l.countP (fun t => decide (symA t = i)) else if i < 316 then cntB l (i - 286) else extT l
theorem cntL_one (l : List Tok) (t : Tok) (i : Nat) : cntL (l ++ [t]) i = cntL l i + (if i < 286 then (if symA t = i then 1 else 0) else if i < 316 then (if t.n ≠ 0 ∧ symB t = i - 286 then 1 else 0) else extK t) := by
  unfold cntL
  split
  · rw [List.countP_append, List.countP_singleton]; simp only [decide_eq_true_eq]
  · split
    · rw [cntB_one]
    · rw [extT_one]
theorem cntL_le (l : List Tok) (i : Nat) (hi : i < 316) : cntL l i ≤ l.length := by
  unfold cntL
  split
  · exact List.countP_le_length
  · exact cntB_le _ _
theorem extK_le {t : Tok} (h : mayT t = true) (hx : t.x < 256) : extK t ≤ 18 := by
  unfold extK
  by_cases h0 : t.n = 0
  · rw [if_pos h0]; omega
  · rw [if_neg h0]
    obtain ⟨hE1, hE2, _⟩ := (sym_lt h hx).2.2 h0
    obtain ⟨_, _, _, _, _, _, p3, p4⟩ := long_there hE1
    obtain ⟨_, _, _, _, _, _, q3, q4⟩ := far_there hE2
    omega
theorem extT_le : ∀ l : List Tok, (∀ t ∈ l, mayT t = true ∧ t.x < 256) → extT l ≤ 18 * l.length
  | [], _ => by simp [extT]
  | t :: l, h => by
    have h1 := extK_le (h t List.mem_cons_self).1 (h t List.mem_cons_self).2
    have h2 := extT_le l fun u hu => h u (List.mem_cons_of_mem _ hu)
    have e : extT (t :: l) = extK t + extT l := by simp [extT]
    rw [e, List.length_cons]; omega
/-- What is counted, their end too. -/
def cntE (l : List Tok) (i : Nat) : Nat := if i = 256 then 1 else cntL l i
theorem cntE_A {l : List Tok} (h : ∀ t ∈ l, mayT t = true ∧ t.x < 256) {i : Nat} (hi : i < 286) : cntE l i = cntA l i := by
  unfold cntE cntA cntL
  by_cases e : i = 256
  · subst e
    rw [if_pos rfl, if_pos rfl]
    have : l.countP (fun t => decide (symA t = 256)) = 0 := by
      rw [List.countP_eq_zero]
      intro t ht
      obtain ⟨_, h1, h2⟩ := sym_lt (h t ht).1 (h t ht).2
      have hx := (h t ht).2
      simp only [decide_eq_true_eq]
      by_cases h0 : t.n = 0
      · have := h1 h0; omega
      · have := (h2 h0).2.2.1; omega
    omega
  · rw [if_neg e, if_pos hi, if_neg e]; omega
theorem cntE_B (l : List Tok) {i : Nat} (hi : i < 30) : cntE l (286 + i) = cntB l i := by
  unfold cntE cntL
  rw [if_neg (by omega), if_neg (by omega), if_pos (by omega), show 286 + i - 286 = i by omega]
theorem cntE_X (l : List Tok) : cntE l 316 = extT l := by
  unfold cntE cntL
  rw [if_neg (by omega), if_neg (by omega), if_neg (by omega)]
theorem builtCounts : Tryz.prog.built 90 [] = some (tblA (fun _ => 0) 317) := by kernel_rfl
set_option maxRecDepth 100000 in
set_option maxHeartbeats 4000000 in
theorem count11_any (w : World) (A : Option Addr) (m c : Nat) (l : List Tok) (hm : m = l.length) (hr : RdT w w.heap.size A l) (hm2 : m ≤ 1000000) (hok : ∀ t ∈ l, mayT t = true ∧ t.x < 256) :
    Calls Tryz.prog 23 #[.slice A m c] w fun e w' => e = .returned (.pointer (some ⟨w.heap.size, 0, none⟩)) ∧ RowT w' w.heap.size 317 (cntE l) 90 ∧ Below w.heap.size w w' := by
  have hbu := builtCounts
  obtain ⟨Z, hZ⟩ : ∃ Z : Array Value, Z = tblA (fun _ => 0) 317 := ⟨_, rfl⟩
  rw [← hZ] at hbu
  obtain ⟨h, hh⟩ : ∃ h, h = w.heap.size := ⟨_, rfl⟩
  obtain ⟨W1, hW1⟩ : ∃ W, W = w.alloc (.cells Z 90) := ⟨_, rfl⟩
  have hb1 : Below h w W1 := by rw [hW1, hh]; exact (Below.refl _ _).alloc (Nat.le_refl _) _
  have hr1 : RowT W1 h 317 (cntL (l.take 0)) 90 := by
    unfold RowT
    rw [hW1, hh, heap_alloc_new, hZ]
    refine congrArg (fun a => some (Obj.cells a 90 (0, 0))) (tbl_ext fun k hk => ?_)
    simp [cntL, cntB, extT]
  rw [← hh] at hr ⊢
  have HM := Lib.hid hm; have HR := Lib.hid hr; have HOK := Lib.hid hok; have HB1 := Lib.hid hb1; have HR1 := Lib.hid hr1; have HW1 := Lib.hid hW1; have HH := Lib.hid hh; have HBU := Lib.hid hbu
  clear hm hr hok hb1 hr1 hW1 hh hZ hbu
  go_enter Tryz.func23, Tryz.ntmps23
  go_wp2_with (first | (refine wpList_buildTo rfl 90 #[] rfl (some 14) rfl Z ?_ ?_; focus (simpa [Act.eval] using HBU.out)) | rw [← HW1.out, ← HH.out] | fail)
  go_loopw [18] (fun iv wr => ∃ i : Nat, i ≤ m ∧ iv = .int .i64 (i : Int) ∧ Hid (RowT wr h 317 (cntL (l.take i)) 90) ∧ Hid (Below h w wr)) (fun iv _ => m - (intOf iv).toNat)
  case atStart => exact ⟨0, Nat.zero_le _, rfl, HR1, HB1⟩
  case round =>
    obtain ⟨i, hi, rfl, HRW, HB⟩ := hrel
    have hle : w.heap.size = h := HH.out.symm
    have hgl : h < wr.heap.size := HRW.out.lt
    by_cases hlt : i < m
    · have hlti : (i : Int) < (m : Int) := by omega
      have hil : i < l.length := by rw [← HM.out]; exact hlt
      have htw : RdT wr h A l := HR.out.below HB.out (Nat.le_refl _)
      obtain ⟨b, o, rfl, hbl, hc⟩ := htw.at hil
      have hrg := htw.range rfl hil
      have hmem : l.getD i tok0 ∈ l := by rw [List.getD_eq_getElem?_getD, List.getElem?_eq_getElem hil]; exact List.getElem_mem hil
      obtain ⟨hmy, hx8⟩ := HOK.out _ hmem
      have htk := take_one hil
      have htl : (l.take i).length ≤ 1000000 := by rw [List.length_take]; omega
      have hokt : ∀ t ∈ l.take i, mayT t = true ∧ t.x < 256 := fun t ht => HOK.out t (List.mem_of_mem_take ht)
      have hxt := extT_le _ hokt
      obtain ⟨t, ht⟩ : ∃ t, t = l.getD i tok0 := ⟨_, rfl⟩
      rw [← ht] at hrg hmy hx8 htk
      have hstep := cntL_one (l.take i) t
      rw [← htk] at hstep
      have hcl := cntL_le (l.take i)
      have hcx : cntL (l.take i) 316 = extT (l.take i) := by unfold cntL; rw [if_neg (by omega), if_neg (by omega)]
      obtain ⟨C, hC⟩ : ∃ C, C = cntL (l.take i) := ⟨_, rfl⟩
      have hr := HRW.out
      rw [← hC] at hstep hcl hcx hr
      obtain ⟨W3, hW3⟩ : ∃ W3, W3 = mkV wr #[.int .u8 0, .int .i64 0, .int .i64 0] (tokC t).toArray 72 := ⟨_, rfl⟩
      have hb3 : Below wr.heap.size wr W3 := by rw [hW3]; exact mkV_below _ _ _ _
      have hrow : W3.heap[wr.heap.size]? = some (.cells (tokC t).toArray 72 (0, 0)) := by rw [hW3]; exact mkV_row wr _ _ _
      have y0 : W3.cell? ⟨wr.heap.size, 0, none⟩ = some (.int .u8 (t.x : Int)) := (cell_of_row W3 _ 0 _ _ (0, 0) hrow).trans rfl
      have y1 : W3.cell? ⟨wr.heap.size, 1, none⟩ = some (.int .i64 t.d) := (cell_of_row W3 _ 1 _ _ (0, 0) hrow).trans rfl
      have y2 : W3.cell? ⟨wr.heap.size, 2, none⟩ = some (.int .i64 t.n) := (cell_of_row W3 _ 2 _ _ (0, 0) hrow).trans rfl
      have hr3 := hr.below hb3 hr.lt
      have HRG := Lib.hid hrg; have HSTEP := Lib.hid hstep; have HCL := Lib.hid hcl; have HCX := Lib.hid hcx; have HXT := Lib.hid hxt; have HMY := Lib.hid hmy; have HR3 := Lib.hid hr3; have HB3 := Lib.hid (HB.out.trans (hb3.mono (by omega))); have HW3 := Lib.hid hW3
      have hhs : wr.heap.size < W3.heap.size := (Array.getElem?_eq_some_iff.1 hrow).1
      by_cases h0 : t.n = 0
      · have hn0 : (t.n == 0) = true := by rw [h0]; rfl
        obtain ⟨hs1, hs2, _⟩ := sym_lt hmy hx8
        have hsx := hs2 h0
        have k1 := hr3.cell (i := t.x) (by omega)
        have z1 := hr3.frozen t.x
        have hcb := hcl t.x (by omega)
        have hset := hr3.set (T' := cntL (l.take (i + 1))) t.x (C t.x + 1) (fun k hk => by
          rw [hstep k, hsx]
          have e1 : extK t = 0 := by unfold extK; rw [if_pos h0]
          rw [e1]
          by_cases hkx : k = t.x
          · subst hkx; rw [if_pos rfl, if_pos (by omega), if_pos rfl]
          · rw [if_neg hkx]
            by_cases h1 : k < 286
            · rw [if_pos h1, if_neg (fun e => hkx e.symm)]; rfl
            · rw [if_neg h1]
              by_cases h2 : k < 316
              · rw [if_pos h2, if_neg (fun e => e.1 h0)]; rfl
              · rw [if_neg h2]; rfl)
        obtain ⟨q, hq⟩ : ∃ q, q = t.x := ⟨_, rfl⟩
        obtain ⟨V, hV⟩ : ∃ V, V = C q := ⟨_, rfl⟩
        rw [← hq] at k1 z1 hcb hset y0 hx8
        rw [← hV] at k1 hset hcb
        have eV : ((V + 1 : Nat) : Int) = (V : Int) + 1 := by omega
        rw [eV] at hset
        have hVb : V ≤ 1000000 := by omega
        have hq86 : (q : Int) < 286 := by omega
        have HSET := Lib.hid hset.drew
        clear hrg hstep hcl hcx hxt hr3 hb3 hrow hW3 htk ht hC htl hokt htw hc hr hset hV hq hs1 hs2 hsx hmem hmy HCL
        go_wp2_with (first | refine wpList_load_mid rfl _ _ rfl b (o + i * 3) rfl (tokC t) _ HRG.out Tryz.underlying72 rfl szTok ?_ | refine wpList_store_rowTo rfl _ _ _ rfl rfl wr.heap.size (tokC t).toArray rfl rfl 72 #[.int .u8 0, .int .i64 0, .int .i64 0] (heap_alloc_new wr _) (szTokA _) rfl (tokA_one _) ?_; change wpList _ _ _ _ _ (mkV wr #[.int .u8 0, .int .i64 0, .int .i64 0] (tokC t).toArray 72); rw [← HW3.out])
        go_region
        go_wp2
        go_roundw
        case rel => exact ⟨i + 1, by omega, by go_num, HSET, Lib.hid (HB3.out.setCell (Nat.le_refl _) _).drew⟩
        case measure => simp [intOf]; omega
      · have hn0 : (t.n == 0) = false := by rw [beq_eq_false_iff_ne]; exact h0
        obtain ⟨_, _, hs3⟩ := sym_lt hmy hx8
        obtain ⟨hE1, hE2, hs4, hs5⟩ := hs3 h0
        have hs1 := (sym_lt hmy hx8).1
        obtain ⟨_, _, _, _, _, _, p3, p4⟩ := long_there hE1
        obtain ⟨_, _, _, _, _, _, q3, q4⟩ := far_there hE2
        obtain ⟨S, hS⟩ : ∃ S, S = symA t := ⟨_, rfl⟩
        obtain ⟨D, hD⟩ : ∃ D, D = symB t := ⟨_, rfl⟩
        have eS : lgS t.n = (S : Int) := by
          have h5 : 3 ≤ t.n ∧ t.n ≤ 258 := lg_ok hE1
          have : 0 ≤ lgS t.n := by unfold lgS; rw [if_pos h5]; omega
          rw [hS]; unfold symA; rw [if_neg h0]; omega
        have eD : frS t.d = (D : Int) := by
          have h5 : 1 ≤ t.d ∧ t.d ≤ 32768 := fr_ok hE2
          have : 0 ≤ frS t.d := by unfold frS; rw [if_pos h5]; omega
          rw [hD]; unfold symB; omega
        obtain ⟨u, eu⟩ := Int.eq_ofNat_of_zero_le p3
        obtain ⟨v, ev⟩ := Int.eq_ofNat_of_zero_le q3
        have hek : extK t = u + v := by unfold extK; rw [if_neg h0, eu, ev]; rfl
        have hlg := fun V : World => long9_any V t.n
        have hfr := fun V : World => far9_any V t.d
        rw [eS, eu, hE1] at hlg
        rw [eD, ev, hE2] at hfr
        rw [eu] at p4; rw [ev] at q4
        rw [← hS] at hs1 hs4; rw [← hD] at hs5
        have hcS := hcl S (by omega)
        have hcD := hcl (286 + D) (by omega)
        obtain ⟨VS, hVS⟩ : ∃ V, V = C S := ⟨_, rfl⟩
        obtain ⟨VD, hVD⟩ : ∃ V, V = C (286 + D) := ⟨_, rfl⟩
        obtain ⟨VX, hVX⟩ : ∃ V, V = C 316 := ⟨_, rfl⟩
        rw [← hVS] at hcS; rw [← hVD] at hcD; rw [← hVX] at hcx
        have hVSb : VS ≤ 1000000 := by omega
        have hVDb : VD ≤ 1000000 := by omega
        have hVXb : VX ≤ 18000000 := by omega
        have HLG := Lib.hid hlg; have HFR := Lib.hid hfr; have HVS := Lib.hid hVS; have HVD := Lib.hid hVD; have HVX := Lib.hid hVX; have HEK := Lib.hid hek; have HS := Lib.hid hS; have HD := Lib.hid hD
        clear hlg hfr hVS hVD hVX hek hS hD eS eD eu ev hE1 hE2 hs3 hcS hcD hcx hrg hstep hcl hxt hr3 hb3 hrow hW3 htk ht hC htl hokt htw hc hr hmem hmy HCL HCX HXT y0 hx8
        go_wp2_with (first | refine wpList_load_mid rfl _ _ rfl b (o + i * 3) rfl (tokC t) _ HRG.out Tryz.underlying72 rfl szTok ?_ | refine wpList_store_rowTo rfl _ _ _ rfl rfl wr.heap.size (tokC t).toArray rfl rfl 72 #[.int .u8 0, .int .i64 0, .int .i64 0] (heap_alloc_new wr _) (szTokA _) rfl (tokA_one _) ?_; change wpList _ _ _ _ _ (mkV wr #[.int .u8 0, .int .i64 0, .int .i64 0] (tokC t).toArray 72); rw [← HW3.out] | fail)
        refine (HLG.out W3).mono ?_
        rintro e w4 ⟨rfl, hb4⟩
        have y1' := (hb4.cell (p := ⟨wr.heap.size, 1, none⟩) hhs).trans y1
        have HR4 := Lib.hid (HR3.out.below hb4 (by have := HB3.out.size; omega)); have HB4 := Lib.hid (HB3.out.trans (hb4.mono (by have := HR3.out.lt; omega)))
        clear hb4 y1 y2 HR3 HB3 hhs
        go_wp2_with fail
        refine (HFR.out w4).mono ?_
        rintro e w5 ⟨rfl, hb5⟩
        have hr5 := HR4.out.below hb5 HR4.out.lt
        have HB5 := Lib.hid (HB4.out.trans (hb5.mono (by have := HR4.out.lt; omega)))
        clear hb5 y1' HR4 HB4
        have k1 := hr5.cell (i := S) (by omega)
        have z1 := hr5.frozen S
        rw [← HVS.out] at k1
        have hr6 := (hr5.set (T' := fun k => if k = S then VS + 1 else C k) S (VS + 1) (fun _ _ => rfl)).drew
        have eVS : ((VS + 1 : Nat) : Int) = (VS : Int) + 1 := by omega
        rw [eVS] at hr6
        obtain ⟨W6, hW6⟩ : ∃ W, W = (w5.setCell ⟨h, S, none⟩ (.int .i64 ((VS : Int) + 1))).drew := ⟨_, rfl⟩
        rw [← hW6] at hr6
        have k2 := hr6.cell (i := 286 + D) (by omega)
        rw [if_neg (by omega), ← HVD.out] at k2
        have z2 := hr6.frozen (286 + D)
        have hr7 := (hr6.set (T' := fun k => if k = 286 + D then VD + 1 else if k = S then VS + 1 else C k) (286 + D) (VD + 1) (fun _ _ => rfl)).drew
        have eVD : ((VD + 1 : Nat) : Int) = (VD : Int) + 1 := by omega
        rw [eVD] at hr7
        obtain ⟨W7, hW7⟩ : ∃ W, W = (W6.setCell ⟨h, 286 + D, none⟩ (.int .i64 ((VD : Int) + 1))).drew := ⟨_, rfl⟩
        rw [← hW7] at hr7
        have k3 := hr7.cell (i := 316) (by omega)
        rw [if_neg (by omega), if_neg (by omega), ← HVX.out] at k3
        have z3 := hr7.frozen 316
        have hr8 := hr7.set (T' := cntL (l.take (i + 1))) 316 (VX + (u + v)) (fun k hk => by
          rw [HSTEP.out k, HEK.out, ← HS.out, ← HD.out]
          by_cases h1 : k = 316
          · subst h1; rw [if_pos rfl, if_neg (by omega), if_neg (by omega), HVX.out]
          · rw [if_neg h1]
            by_cases h2 : k = 286 + D
            · rw [if_pos h2, if_neg (by omega), if_pos (by omega), if_pos ⟨h0, by omega⟩, HVD.out, h2]
            · rw [if_neg h2]
              by_cases h3 : k = S
              · rw [if_pos h3, if_pos (by omega), if_pos h3.symm, HVS.out, h3]
              · rw [if_neg h3]
                by_cases h4 : k < 286
                · rw [if_pos h4, if_neg (fun e => h3 e.symm)]; rfl
                · rw [if_neg h4, if_pos (by omega), if_neg (fun e => h2 (by omega))]; rfl)
        have eVX : ((VX + (u + v) : Nat) : Int) = (VX : Int) + ((u : Int) + (v : Int)) := by omega
        rw [eVX] at hr8
        have hb6 : Below h w W6 := by rw [hW6]; exact (HB5.out.setCell (Nat.le_refl _) _).drew
        have hb7 : Below h w W7 := by rw [hW7]; exact (hb6.setCell (Nat.le_refl _) _).drew
        have HR8 := Lib.hid hr8; have HB8 := Lib.hid (hb7.setCell (p := ⟨h, 316, none⟩) (Nat.le_refl _) (.int .i64 ((VX : Int) + ((u : Int) + (v : Int))))); have HW6 := Lib.hid hW6; have HW7 := Lib.hid hW7
        have hSi : (S : Int) < 286 := by omega
        have hDi : (D : Int) < 30 := by omega
        clear hr5 hr6 hr7 hr8 hb6 hb7 hW6 hW7 eVS eVD eVX
        go_wp2
        go_region
        rw [← HW6.out]
        go_wp2
        go_region
        rw [← HW7.out]
        go_wp2
        go_roundw
        case rel => exact ⟨i + 1, by omega, by go_num, HR8, HB8⟩
        case measure => simp [intOf]; omega
    · obtain rfl : i = m := by omega
      have hlti : ¬ (i : Int) < (i : Int) := by omega
      have hr := HRW.out
      rw [HM.out, List.take_length] at hr
      have k1 := hr.cell (i := 256) (by omega)
      have z1 := hr.frozen 256
      have hset := hr.set (T' := cntE l) 256 1 (fun k _ => by unfold cntE; rfl)
      have HSET := Lib.hid hset
      clear hset hr
      go_wp2
      go_ret
      exact ⟨rfl, HSET.out, HB.out.setCell (Nat.le_refl _) _⟩
end Go.Proofs.YtjhljkhgjcckhaaGreat

