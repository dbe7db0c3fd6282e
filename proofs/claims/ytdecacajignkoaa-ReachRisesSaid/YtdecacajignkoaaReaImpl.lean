/-
  Layer 9 (reach): what the program's functions answer, over the landed code.
-/
import Derived.Test.YtdecacajignkoaaReaLng
import Derived.Test.YtdecacajignkoaaReaKn2
import Derived.Test.YtdecacajignkoaaReaKn3
namespace Go.Proofs.Ytdecacajignkoaa
open Go.RowKit
theorem sy_long {n : Int} {e : Ending} (h : SyOut 3 258 257 285 258 (lsM longL) n e) : e = .returned (.tuple #[.int .i64 (lgS n), .int .i64 (lgB n), .int .i64 (lgX n), .int .i64 (lgE n)]) := by
  unfold SyOut at h
  by_cases h1 : n < 3 ∨ 258 < n
  · rw [if_pos h1] at h
    have hk : ¬ (3 ≤ n ∧ n ≤ 258) := by omega
    unfold lgS lgB lgX lgE
    rw [if_neg hk, if_neg hk, if_neg hk, if_neg hk]; exact h
  · rw [if_neg h1] at h
    have hk : 3 ≤ n ∧ n ≤ 258 := by omega
    by_cases h2 : n = 258
    · rw [if_pos h2] at h
      subst h2; exact h
    · rw [if_neg h2] at h
      obtain ⟨b, z, hb, hz, hn, he⟩ := h
      have hp : 0 < p2N b := Nat.pow_pos (by omega)
      have hd : z / p2N b < lsM longL b := Nat.div_lt_of_lt_mul (by rw [Nat.mul_comm]; exact hz)
      obtain ⟨g1, g2, g3⟩ := long_tab b hb _ hd
      have hm := Nat.mod_lt z hp
      have hdm := Nat.div_add_mod z (p2N b)
      rw [Nat.mul_comm] at hdm
      obtain ⟨i, hi⟩ : ∃ i, i = smC (lsM longL) b + z / p2N b := ⟨_, rfl⟩
      rw [← hi] at g1 g2 g3 he
      obtain ⟨x, hx⟩ : ∃ x, x = z % p2N b := ⟨_, rfl⟩
      rw [← hx] at hm hdm he
      have hT : n = ((longT i + x : Nat) : Int) := by omega
      have h27 : ¬ (i = 27 ∧ x = 31) := by
        rintro ⟨rfl, rfl⟩
        have e1 : longT 27 = 227 := rfl
        omega
      obtain ⟨q1, _, _⟩ := long_back (i := i) (x := x) (by omega) (by rw [g3]; exact hm) h27
      have eI : lgI n = i := by rw [hT]; exact q1
      have e2 : n.toNat - longT i = x := by omega
      unfold lgS lgB lgX lgE
      rw [if_pos hk, if_pos hk, if_pos hk, if_pos hk, eI, g3, e2, he]
      rw [show ((257 : Int) + (i : Int)) = ((257 + i : Nat) : Int) by omega]
theorem sy_far {n : Int} {e : Ending} (h : SyOut 1 32768 0 29 0 (lsM farL) n e) : e = .returned (.tuple #[.int .i64 (frS n), .int .i64 (frB n), .int .i64 (frX n), .int .i64 (frE n)]) := by
  unfold SyOut at h
  by_cases h1 : n < 1 ∨ 32768 < n
  · rw [if_pos h1] at h
    have hk : ¬ (1 ≤ n ∧ n ≤ 32768) := by omega
    unfold frS frB frX frE
    rw [if_neg hk, if_neg hk, if_neg hk, if_neg hk]; exact h
  · rw [if_neg h1] at h
    have hk : 1 ≤ n ∧ n ≤ 32768 := by omega
    rw [if_neg (by omega)] at h
    obtain ⟨b, z, hb, hz, hn, he⟩ := h
    have hp : 0 < p2N b := Nat.pow_pos (by omega)
    have hd : z / p2N b < lsM farL b := Nat.div_lt_of_lt_mul (by rw [Nat.mul_comm]; exact hz)
    obtain ⟨g1, g2, g3⟩ := far_tab b hb _ hd
    have hm := Nat.mod_lt z hp
    have hdm := Nat.div_add_mod z (p2N b)
    rw [Nat.mul_comm] at hdm
    obtain ⟨i, hi⟩ : ∃ i, i = smC (lsM farL) b + z / p2N b := ⟨_, rfl⟩
    rw [← hi] at g1 g2 g3 he
    obtain ⟨x, hx⟩ : ∃ x, x = z % p2N b := ⟨_, rfl⟩
    rw [← hx] at hm hdm he
    have hT : n = ((farT i + x : Nat) : Int) := by omega
    obtain ⟨q1, _, _⟩ := far_back (i := i) (x := x) (by omega) (by rw [g3]; exact hm)
    have eI : frI n = i := by rw [hT]; exact q1
    have e2 : n.toNat - farT i = x := by omega
    unfold frS frB frX frE
    rw [if_pos hk, if_pos hk, if_pos hk, if_pos hk, eI, g3, e2, he]
    rw [Int.zero_add]
theorem bt_long {y : Int} {e : Ending} (h : BtOut 3 257 285 258 (lsM longL) y e) : e = .returned (.tuple #[.int .i64 (lbV y), .int .i64 (lbE y)]) := by
  unfold BtOut at h
  unfold lbV lbE
  by_cases hy : 257 ≤ y ∧ y ≤ 285
  · rw [if_pos hy] at h ⊢
    obtain ⟨L, b, hb, rfl⟩ := h
    rw [if_pos hy, (bg_long hy hb).2]
  · rw [if_neg hy] at h ⊢
    rw [if_neg hy]; exact h
theorem bt_far {y : Int} {e : Ending} (h : BtOut 1 0 29 0 (lsM farL) y e) : e = .returned (.tuple #[.int .i64 (fbV y), .int .i64 (fbE y)]) := by
  unfold BtOut at h
  unfold fbV fbE
  by_cases hy : 0 ≤ y ∧ y ≤ 29
  · rw [if_pos hy] at h ⊢
    obtain ⟨L, b, hb, rfl⟩ := h
    rw [if_pos hy, (bg_far hy hb).2]
  · rw [if_neg hy] at h ⊢
    rw [if_neg hy]; exact h
theorem nm_long {y x : Int} {e : Ending} (h : NmOut 3 257 285 258 (lsM longL) y x e) : e = .returned (.tuple #[.int .i64 (loV y x), .int .i64 (loE y x)]) := by
  unfold NmOut at h
  by_cases hy : 257 ≤ y ∧ y ≤ 285
  · rw [if_pos hy] at h
    obtain ⟨L, b, hb, h⟩ := h
    obtain ⟨rfl, rfl⟩ := bg_long hy hb
    have ep : p2N (longX (y - 257).toNat) = 2 ^ longX (y - 257).toNat := rfl
    rw [ep] at h
    rcases h with ⟨h1, rfl⟩ | ⟨h1, h⟩
    · have hE : loE y x = 2 := by unfold loE; rw [if_pos hy, if_pos h1]
      have hV : loV y x = 0 := by unfold loV; rw [if_neg (by rw [hE]; decide)]
      rw [hE, hV]
    · have hneg : ¬ (x < 0 ∨ ((2 ^ longX (y - 257).toNat : Nat) : Int) ≤ x) := by omega
      have hiff : ((((longT (y - 257).toNat : Nat) : Int) + x = 258 ∧ y ≠ 285)) ↔ (y = 284 ∧ x = 31) := by
        obtain ⟨X, rfl⟩ := Int.eq_ofNat_of_zero_le h1.1
        obtain ⟨i, hi⟩ : ∃ i, i = (y - 257).toNat := ⟨_, rfl⟩
        rw [← hi] at h1 ⊢
        have hx : X < 2 ^ longX i := by omega
        constructor
        · rintro ⟨a, c⟩
          have h28 : i < 28 := by omega
          by_cases e27 : i = 27
          · subst e27
            have e1 : longT 27 = 227 := rfl
            omega
          · exfalso
            have hn := long_next i h28 e27
            have hr := longs_rise.mono (i := i + 1) (27 - (i + 1)) (by omega)
            rw [show i + 1 + (27 - (i + 1)) = 27 by omega] at hr
            have e1 : longT 27 = 227 := rfl
            omega
        · rintro ⟨a, c⟩
          have e27 : i = 27 := by omega
          subst e27
          have e1 : longT 27 = 227 := rfl
          omega
      rcases h with ⟨h2, rfl⟩ | ⟨h2, rfl⟩
      · have hE : loE y x = 90 := by unfold loE; rw [if_pos hy, if_neg hneg, if_pos (hiff.1 h2)]
        have hV : loV y x = 0 := by unfold loV; rw [if_neg (by rw [hE]; decide)]
        rw [hE, hV]
      · have hE : loE y x = 0 := by unfold loE; rw [if_pos hy, if_neg hneg, if_neg (fun g => h2 (hiff.2 g))]
        have hV : loV y x = ((longT (y - 257).toNat : Nat) : Int) + x := by unfold loV; rw [if_pos hE]
        rw [hE, hV]
  · rw [if_neg hy] at h
    have hE : loE y x = 90 := by unfold loE; rw [if_neg hy]
    have hV : loV y x = 0 := by unfold loV; rw [if_neg (by rw [hE]; decide)]
    rw [hE, hV]; exact h
theorem nm_far {y x : Int} {e : Ending} (h : NmOut 1 0 29 0 (lsM farL) y x e) : e = .returned (.tuple #[.int .i64 (foV y x), .int .i64 (foE y x)]) := by
  unfold NmOut at h
  by_cases hy : 0 ≤ y ∧ y ≤ 29
  · rw [if_pos hy] at h
    obtain ⟨L, b, hb, h⟩ := h
    obtain ⟨rfl, rfl⟩ := bg_far hy hb
    have ep : p2N (farX y.toNat) = 2 ^ farX y.toNat := rfl
    rw [ep] at h
    have hpos : 1 ≤ farT y.toNat := by
      have h1 := fars_rise.mono (i := 0) y.toNat (by omega)
      have e0 : farT 0 = 1 := rfl
      rw [Nat.zero_add] at h1
      omega
    rcases h with ⟨h1, rfl⟩ | ⟨h1, h⟩
    · have hE : foE y x = 2 := by unfold foE; rw [if_pos hy, if_pos h1]
      have hV : foV y x = 0 := by unfold foV; rw [if_neg (by rw [hE]; decide)]
      rw [hE, hV]
    · have hneg : ¬ (x < 0 ∨ ((2 ^ farX y.toNat : Nat) : Int) ≤ x) := by omega
      rcases h with ⟨h2, rfl⟩ | ⟨h2, rfl⟩
      · omega
      · have hE : foE y x = 0 := by unfold foE; rw [if_pos hy, if_neg hneg]
        have hV : foV y x = ((farT y.toNat : Nat) : Int) + x := by unfold foV; rw [if_pos hE]
        rw [hE, hV]
  · rw [if_neg hy] at h
    have hE : foE y x = 90 := by unfold foE; rw [if_neg hy]
    have hV : foV y x = 0 := by unfold foV; rw [if_neg (by rw [hE]; decide)]
    rw [hE, hV]; exact h
set_option maxRecDepth 100000 in
set_option maxHeartbeats 1000000 in
theorem long9_any (w : World) (n : Int) : Calls Try.prog 13 #[.int .i64 n] w fun e w' => e = .returned (.tuple #[.int .i64 (lgS n), .int .i64 (lgB n), .int .i64 (lgX n), .int .i64 (lgE n)]) ∧ Below w.heap.size w w' := by
  obtain ⟨X, hX⟩ : ∃ X, X = kdA 3 258 257 285 258 (lsM longL) := ⟨_, rfl⟩
  have hs := fun v => symbol9_any v 3 258 257 285 258 (lsM longL) long_ok9 n
  have hk := longs9_any w
  rw [← hX] at hk hs
  have HM := Lib.hid hk; have HS := Lib.hid hs
  obtain ⟨z0, hz0⟩ : ∃ z, z = lgS n := ⟨_, rfl⟩; obtain ⟨z1, hz1⟩ : ∃ z, z = lgB n := ⟨_, rfl⟩; obtain ⟨z2, hz2⟩ : ∃ z, z = lgX n := ⟨_, rfl⟩; obtain ⟨z3, hz3⟩ : ∃ z, z = lgE n := ⟨_, rfl⟩
  have hy : ∀ e, SyOut 3 258 257 285 258 (lsM longL) n e → e = .returned (.tuple #[.int .i64 z0, .int .i64 z1, .int .i64 z2, .int .i64 z3]) := fun e h => by rw [hz0, hz1, hz2, hz3]; exact sy_long h
  rw [← hz0, ← hz1, ← hz2, ← hz3]
  have HY := Lib.hid hy
  clear hz0 hz1 hz2 hz3 hX hk hs hy
  go_enter Try.func13, Try.ntmps13
  go_wp2_with fail
  refine HM.out.mono ?_
  rintro e w1 ⟨rfl, hb1⟩
  have HB1 := Lib.hid hb1
  clear hb1
  go_wp2_with fail
  refine (HS.out w1).mono ?_
  rintro e w2 ⟨he, hb2⟩
  obtain rfl := HY.out _ he
  have HB2 := Lib.hid (HB1.out.trans (hb2.mono HB1.out.size))
  clear hb2 he
  go_wp2
  refine bodyPost_ret (results_tmp4 rfl _ _ _) rfl ?_
  exact ⟨rfl, HB2.out⟩
set_option maxRecDepth 100000 in
set_option maxHeartbeats 1000000 in
theorem far9_any (w : World) (n : Int) : Calls Try.prog 14 #[.int .i64 n] w fun e w' => e = .returned (.tuple #[.int .i64 (frS n), .int .i64 (frB n), .int .i64 (frX n), .int .i64 (frE n)]) ∧ Below w.heap.size w w' := by
  obtain ⟨X, hX⟩ : ∃ X, X = kdA 1 32768 0 29 0 (lsM farL) := ⟨_, rfl⟩
  have hs := fun v => symbol9_any v 1 32768 0 29 0 (lsM farL) far_ok9 n
  have hk := fars9_any w
  rw [← hX] at hk hs
  have HM := Lib.hid hk; have HS := Lib.hid hs
  obtain ⟨z0, hz0⟩ : ∃ z, z = frS n := ⟨_, rfl⟩; obtain ⟨z1, hz1⟩ : ∃ z, z = frB n := ⟨_, rfl⟩; obtain ⟨z2, hz2⟩ : ∃ z, z = frX n := ⟨_, rfl⟩; obtain ⟨z3, hz3⟩ : ∃ z, z = frE n := ⟨_, rfl⟩
  have hy : ∀ e, SyOut 1 32768 0 29 0 (lsM farL) n e → e = .returned (.tuple #[.int .i64 z0, .int .i64 z1, .int .i64 z2, .int .i64 z3]) := fun e h => by rw [hz0, hz1, hz2, hz3]; exact sy_far h
  rw [← hz0, ← hz1, ← hz2, ← hz3]
  have HY := Lib.hid hy
  clear hz0 hz1 hz2 hz3 hX hk hs hy
  go_enter Try.func14, Try.ntmps14
  go_wp2_with fail
  refine HM.out.mono ?_
  rintro e w1 ⟨rfl, hb1⟩
  have HB1 := Lib.hid hb1
  clear hb1
  go_wp2_with fail
  refine (HS.out w1).mono ?_
  rintro e w2 ⟨he, hb2⟩
  obtain rfl := HY.out _ he
  have HB2 := Lib.hid (HB1.out.trans (hb2.mono HB1.out.size))
  clear hb2 he
  go_wp2
  refine bodyPost_ret (results_tmp4 rfl _ _ _) rfl ?_
  exact ⟨rfl, HB2.out⟩
set_option maxRecDepth 100000 in
set_option maxHeartbeats 1000000 in
theorem lbit9_any (w : World) (n : Int) : Calls Try.prog 20 #[.int .i64 n] w fun e w' => e = .returned (.tuple #[.int .i64 (lbV n), .int .i64 (lbE n)]) ∧ Below w.heap.size w w' := by
  obtain ⟨X, hX⟩ : ∃ X, X = kdA 3 258 257 285 258 (lsM longL) := ⟨_, rfl⟩
  have hs := fun v => bits9_any v 3 258 257 285 258 (lsM longL) long_ok9 n
  have hk := longs9_any w
  rw [← hX] at hk hs
  have HM := Lib.hid hk; have HS := Lib.hid hs
  obtain ⟨z0, hz0⟩ : ∃ z, z = lbV n := ⟨_, rfl⟩; obtain ⟨z1, hz1⟩ : ∃ z, z = lbE n := ⟨_, rfl⟩
  have hy : ∀ e, BtOut 3 257 285 258 (lsM longL) n e → e = .returned (.tuple #[.int .i64 z0, .int .i64 z1]) := fun e h => by rw [hz0, hz1]; exact bt_long h
  rw [← hz0, ← hz1]
  have HY := Lib.hid hy
  clear hz0 hz1 hX hk hs hy
  go_enter Try.func20, Try.ntmps20
  go_wp2_with fail
  refine HM.out.mono ?_
  rintro e w1 ⟨rfl, hb1⟩
  have HB1 := Lib.hid hb1
  clear hb1
  go_wp2_with fail
  refine (HS.out w1).mono ?_
  rintro e w2 ⟨he, hb2⟩
  obtain rfl := HY.out _ he
  have HB2 := Lib.hid (HB1.out.trans (hb2.mono HB1.out.size))
  clear hb2 he
  go_wp2
  go_ret2
  exact ⟨rfl, HB2.out⟩
set_option maxRecDepth 100000 in
set_option maxHeartbeats 1000000 in
theorem fbit9_any (w : World) (n : Int) : Calls Try.prog 12 #[.int .i64 n] w fun e w' => e = .returned (.tuple #[.int .i64 (fbV n), .int .i64 (fbE n)]) ∧ Below w.heap.size w w' := by
  obtain ⟨X, hX⟩ : ∃ X, X = kdA 1 32768 0 29 0 (lsM farL) := ⟨_, rfl⟩
  have hs := fun v => bits9_any v 1 32768 0 29 0 (lsM farL) far_ok9 n
  have hk := fars9_any w
  rw [← hX] at hk hs
  have HM := Lib.hid hk; have HS := Lib.hid hs
  obtain ⟨z0, hz0⟩ : ∃ z, z = fbV n := ⟨_, rfl⟩; obtain ⟨z1, hz1⟩ : ∃ z, z = fbE n := ⟨_, rfl⟩
  have hy : ∀ e, BtOut 1 0 29 0 (lsM farL) n e → e = .returned (.tuple #[.int .i64 z0, .int .i64 z1]) := fun e h => by rw [hz0, hz1]; exact bt_far h
  rw [← hz0, ← hz1]
  have HY := Lib.hid hy
  clear hz0 hz1 hX hk hs hy
  go_enter Try.func12, Try.ntmps12
  go_wp2_with fail
  refine HM.out.mono ?_
  rintro e w1 ⟨rfl, hb1⟩
  have HB1 := Lib.hid hb1
  clear hb1
  go_wp2_with fail
  refine (HS.out w1).mono ?_
  rintro e w2 ⟨he, hb2⟩
  obtain rfl := HY.out _ he
  have HB2 := Lib.hid (HB1.out.trans (hb2.mono HB1.out.size))
  clear hb2 he
  go_wp2
  go_ret2
  exact ⟨rfl, HB2.out⟩
set_option maxRecDepth 100000 in
set_option maxHeartbeats 1000000 in
theorem lof9_any (w : World) (n x : Int) : Calls Try.prog 10 #[.int .i64 n, .int .i64 x] w fun e w' => e = .returned (.tuple #[.int .i64 (loV n x), .int .i64 (loE n x)]) ∧ Below w.heap.size w w' := by
  obtain ⟨X, hX⟩ : ∃ X, X = kdA 3 258 257 285 258 (lsM longL) := ⟨_, rfl⟩
  have hs := fun v => number9_any v 3 258 257 285 258 (lsM longL) long_ok9 n x
  have hk := longs9_any w
  rw [← hX] at hk hs
  have HM := Lib.hid hk; have HS := Lib.hid hs
  obtain ⟨z0, hz0⟩ : ∃ z, z = loV n x := ⟨_, rfl⟩; obtain ⟨z1, hz1⟩ : ∃ z, z = loE n x := ⟨_, rfl⟩
  have hy : ∀ e, NmOut 3 257 285 258 (lsM longL) n x e → e = .returned (.tuple #[.int .i64 z0, .int .i64 z1]) := fun e h => by rw [hz0, hz1]; exact nm_long h
  rw [← hz0, ← hz1]
  have HY := Lib.hid hy
  clear hz0 hz1 hX hk hs hy
  go_enter Try.func10, Try.ntmps10
  go_wp2_with fail
  refine HM.out.mono ?_
  rintro e w1 ⟨rfl, hb1⟩
  have HB1 := Lib.hid hb1
  clear hb1
  go_wp2_with fail
  refine (HS.out w1).mono ?_
  rintro e w2 ⟨he, hb2⟩
  obtain rfl := HY.out _ he
  have HB2 := Lib.hid (HB1.out.trans (hb2.mono HB1.out.size))
  clear hb2 he
  go_wp2
  go_ret2
  exact ⟨rfl, HB2.out⟩
set_option maxRecDepth 100000 in
set_option maxHeartbeats 1000000 in
theorem fof9_any (w : World) (n x : Int) : Calls Try.prog 11 #[.int .i64 n, .int .i64 x] w fun e w' => e = .returned (.tuple #[.int .i64 (foV n x), .int .i64 (foE n x)]) ∧ Below w.heap.size w w' := by
  obtain ⟨X, hX⟩ : ∃ X, X = kdA 1 32768 0 29 0 (lsM farL) := ⟨_, rfl⟩
  have hs := fun v => number9_any v 1 32768 0 29 0 (lsM farL) far_ok9 n x
  have hk := fars9_any w
  rw [← hX] at hk hs
  have HM := Lib.hid hk; have HS := Lib.hid hs
  obtain ⟨z0, hz0⟩ : ∃ z, z = foV n x := ⟨_, rfl⟩; obtain ⟨z1, hz1⟩ : ∃ z, z = foE n x := ⟨_, rfl⟩
  have hy : ∀ e, NmOut 1 0 29 0 (lsM farL) n x e → e = .returned (.tuple #[.int .i64 z0, .int .i64 z1]) := fun e h => by rw [hz0, hz1]; exact nm_far h
  rw [← hz0, ← hz1]
  have HY := Lib.hid hy
  clear hz0 hz1 hX hk hs hy
  go_enter Try.func11, Try.ntmps11
  go_wp2_with fail
  refine HM.out.mono ?_
  rintro e w1 ⟨rfl, hb1⟩
  have HB1 := Lib.hid hb1
  clear hb1
  go_wp2_with fail
  refine (HS.out w1).mono ?_
  rintro e w2 ⟨he, hb2⟩
  obtain rfl := HY.out _ he
  have HB2 := Lib.hid (HB1.out.trans (hb2.mono HB1.out.size))
  clear hb2 he
  go_wp2
  go_ret2
  exact ⟨rfl, HB2.out⟩
end Go.Proofs.Ytdecacajignkoaa
