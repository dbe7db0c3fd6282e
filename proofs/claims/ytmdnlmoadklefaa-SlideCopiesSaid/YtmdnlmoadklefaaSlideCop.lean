/-
  The law SlideCopies, for every window, numbers and part, returns true: a copy's byte is the one that stands the distance ahead of it, and a copy in two parts is one at once. No condition.
-/
import Derived.Test.YtmdnlmoadklefaaSlideWin
import Derived.Test.YtmdnlmoadklefaaSlideOpn
import Derived.Deep.DeepCutAuto
import Derived.BigRegion
import Derived.Lib.SmallJoins
namespace Go.Proofs.Ytmdnlmoadklefaa
open Go.RowKit Go.ChangeShapes Go.WideShapes Go.ChangeAt Go.Joins
theorem below_drwC {g : Nat} {a w : World} (h : Below g a w) (q : Nat) : Below g a (w.drewN q) := ⟨h.os, h.tape, h.output, h.size, h.block⟩
theorem WinAt.drwC {w : World} {X n c : Nat} {S : Int} {A : Option Addr} (h : WinAt w X S A n c) (q : Nat) : WinAt (w.drewN q) X S A n c := h
theorem ByR.drwC {w : World} {B n c : Nat} {A : Option Addr} {f : Nat → Nat} (h : ByR w B A n c f) (q : Nat) : ByR (w.drewN q) B A n c f := h
theorem strB_cat (f g : Nat → Nat) (n m : Nat) : strB n f ++ strB m g = strB (n + m) (cat f n g) := by
  have e : ((List.range (n + m)).map fun j => (cat f n g j : Int)) = ((List.range n).map fun j => (f j : Int)) ++ ((List.range m).map fun j => (g j : Int)) := by
    rw [List.range_add, List.map_append, List.map_map]
    congr 1
    · refine List.map_congr_left fun j hj => ?_
      unfold cat; rw [if_pos (List.mem_range.1 hj)]
    · refine List.map_congr_left fun j _ => ?_
      show ((cat f n g (n + j) : Nat) : Int) = _
      unfold cat; rw [if_neg (by omega), Nat.add_sub_cancel_left]
  unfold strB
  rw [e]
  apply ByteArray.ext
  apply Array.toList_inj.1
  simp [strOfNums]
theorem strB_size (n : Nat) (f : Nat → Nat) : (strB n f).size = n := by unfold strB; rw [strOfNums_size]; simp
/-- A copy in two parts. -/
theorem cop_cat {S n d k : Nat} {f : Nat → Nat} (hd : 1 ≤ d) (hdn : d ≤ n) (hn : n ≤ S) : cat (copF n f d) k (copF (inN S n k) (inF S n f k (copF n f d)) d) = copF n f d := by
  funext j
  unfold cat
  split
  · rfl
  · rw [cop_on hd hdn hn]; congr 1; omega
theorem copyE_in {S : Int} {n : Nat} {d k : Int} (h : copyE S n d k = 0) : winE S n = 0 ∧ 0 ≤ k ∧ k ≤ 258 ∧ 1 ≤ d ∧ d ≤ (n : Int) := by
  unfold copyE at h
  split at h
  · refine ⟨by assumption, ?_⟩
    split at h
    · cases h
    · split at h
      · cases h
      · omega
  · cases h
set_option maxRecDepth 100000 in
set_option maxHeartbeats 8000000 in
theorem copies_law (S : Int) (A : Option Addr) (n c : Nat) (f : Nat → Nat) (d k : Int) (P : Nat) (w : World) (hr : ByR w w.heap.size A n c f) (h1 : -9223372036854775808 ≤ S) (h2 : S ≤ 9223372036854775807)
    (hd1 : -9223372036854775808 ≤ d) (hd2 : d ≤ 9223372036854775807) (hk1 : -9223372036854775808 ≤ k) (hk2 : k ≤ 9223372036854775807) (hP : P < 256) :
    Calls Try.prog 5 #[.agg #[.int .i64 S, .slice A n c], .int .i64 d, .int .i64 k, .int .u8 (P : Int)] w fun e w' => e = .returned (.bool true) ∧ Below w.heap.size w w' := by
  have HB0 := Lib.hid ((Below.refl w.heap.size w).alloc (Nat.le_refl _) (.cells #[.int .i64 S, .slice A n c] 24))
  have HW0 := Lib.hid (WinAt.new w S A n c)
  have HAL := Lib.hid (alive6_any (w.alloc (.cells #[.int .i64 S, .slice A n c] 24)))
  have HR := Lib.hid hr
  clear hr
  go_enter Try.func5, Try.ntmps5
  go_wp2_with fail
  refine HAL.out.mono ?_
  rintro e w1 ⟨rfl, hb1⟩
  have HW1 := Lib.hid (HW0.out.below hb1 HW0.out.lt)
  have HB1 := Lib.hid (HB0.out.trans (hb1.mono HB0.out.size))
  have a1 := HW1.out.size; have a2 := HW1.out.bytes; have a3 := HW1.out.lt
  clear hb1 HAL HW0
  by_cases hn1 : 10000 < n
  · have hd : decide (10000 < (n : Int)) = true := by simp; omega
    go_wp2
    go_ret
    exact ⟨rfl, HB1.out⟩
  have hd : decide (10000 < (n : Int)) = false := by simp; omega
  have HCP := Lib.hid (scopy_any w1 S A n c f ((HR.out.below HB1.out (Nat.le_refl _)).more HB1.out.size) h1 h2 d k hd1 hd2 hk1 hk2)
  go_wp2_with fail
  refine HCP.out.mono ?_
  rintro e w2 ⟨⟨S', A', l', c', F', B', k', b', G', rfl, hx, hy, -, -, ho⟩, hb2⟩
  have HB2 := Lib.hid (HB1.out.trans (hb2.mono HB1.out.size))
  have HW2 := Lib.hid (HW1.out.below hb2 a3)
  have b1 := HW2.out.size; have b2 := HW2.out.bytes; have b3 := HW2.out.lt
  clear HCP hb2 HB1 HW1 a1 a2 a3
  by_cases hE : copyE S n d k = 0
  · rw [if_pos hE] at ho
    obtain ⟨g1, hl, hF, hkq, hG⟩ := ho
    rw [hE]
    obtain ⟨hw0, k1, k2, k3, k4⟩ := copyE_in hE
    rcases winE_cases S n with ⟨_, hS1, hS2, hS3⟩ | hbad
    · obtain ⟨s, rfl⟩ := Int.eq_ofNat_of_zero_le (show 0 ≤ S by omega)
      obtain ⟨D, rfl⟩ := Int.eq_ofNat_of_zero_le (show 0 ≤ d by omega)
      obtain ⟨q, rfl⟩ := Int.eq_ofNat_of_zero_le (show 0 ≤ k by omega)
      subst S'
      rw [Int.toNat_natCast] at hl hF hkq hG
      rw [Int.toNat_natCast] at hl hF
      subst k'
      rw [Int.toNat_natCast] at hF
      have hD1 : 1 ≤ D := by omega
      have hDn : D ≤ n := by omega
      have hns : n ≤ s := by omega
      have hq258 : q ≤ 258 := by omega
      obtain ⟨W3, hW3⟩ : ∃ W, W = w2.alloc (.cells #[.int .i64 (s : Int), .slice A' l' c'] 24) := ⟨_, rfl⟩
      have hz3 : Below w2.heap.size w2 W3 := by rw [hW3]; exact (Below.refl _ _).alloc (Nat.le_refl _) _
      have hX3 : WinAt W3 w2.heap.size (s : Int) A' l' c' := by rw [hW3]; exact WinAt.new w2 _ _ _ _
      have HB3 := Lib.hid (HB2.out.trans (hz3.mono HB2.out.size)); have HV3 := HW2.out.below hz3 b3
      have hy3 := (hy.below hz3 (Nat.le_refl _)).more hz3.size
      have hx3 := (hx.below hz3 (Nat.le_refl _)).more hz3.size
      obtain ⟨Aa, ca, wa, Ad, cd, wd, hrun1, hrun2, hbd, hbw⟩ := both_rows W3 A n c f B' q b' G' ((HR.out.below HB3.out (Nat.le_refl _)).more HB3.out.size) hy3 (by omega) (by omega)
      rw [hW3] at hrun1
      obtain ⟨N, hN⟩ : ∃ N, N = n + q := ⟨_, rfl⟩
      rw [← hN] at hrun2 hbw
      have HRUN1 := Lib.hid hrun1; have HRUN2 := Lib.hid hrun2
      have HBd := Lib.hid (HB3.out.trans (hbd.mono HB3.out.size)); have HVd := Lib.hid (HV3.below hbd HV3.lt); have HXd := Lib.hid (hX3.below hbd hX3.lt)
      have HYd := Lib.hid ((hy3.below hbd (Nat.le_refl _)).more hbd.size); have HZd := Lib.hid ((hx3.below hbd (Nat.le_refl _)).more hbd.size)
      obtain ⟨bw, ow, hAd, hbwl, hcw⟩ := hbw.1.2 (by omega)
      subst hAd
      have HCW := Lib.hid hcw; have HG := Lib.hid hG; have HF := Lib.hid hF; have HL := Lib.hid hl; have HW0 := Lib.hid hw0
      have hqq : ((q : Int) != (q : Int)) = false := by simp
      have c1 := HVd.out.size; have c2 := HVd.out.bytes; have c3 := HVd.out.lt
      clear hrun1 hrun2 hbd hbw hcw hG hF hl hx hy hx3 hy3 hz3 hX3 HV3 HB3 hW3 hE HB2 HW2 hw0
      have tok1 : True := trivial
      go_wp2_with (first
        | (at_builtin; have _t := tok1; refine wpList_append_run rfl (.const (.slice none 0 0)) (.tmp 57) 22 rfl (.slice none 0 0) (.slice A n c) (.slice Aa n ca) wa rfl rfl HRUN1.out ?_; clear tok1)
        | (at_builtin; refine wpList_append_run rfl (.tmp 58) (.tmp 59) 22 rfl (.slice Aa n ca) (.slice B' q b') (.slice (some ⟨bw, ow, none⟩) N cd) wd rfl rfl HRUN2.out ?_))
      go_loopw [14] (fun vi wr => ∃ i t : Nat, n ≤ i ∧ i ≤ N ∧ vi = .int .i64 (i : Int) ∧ wr = wd.drewN t) (fun vi _ => N - (intOf vi).toNat)
      case atStart => exact ⟨n, 0, Nat.le_refl _, by omega, rfl, rfl⟩
      case round =>
        obtain ⟨i, t, hi1, hi2, rfl, rfl⟩ := hrel
        by_cases hlt : i < N
        · have hlti : (i : Int) < (N : Int) := by omega
          have x1 := HCW.out i hlt
          have x2 := HCW.out (i - D) (by omega)
          have hsame : cat f n G' (i - D) = cat f n G' i := by
            rw [HG.out]
            have e : cat f n (copF n f D) i = copF n f D (i - n) := by unfold cat; rw [if_neg (by omega)]
            rw [e, cop_ahead hD1 hDn]
            congr 1; omega
          rw [hsame] at x2
          obtain ⟨u, hu⟩ : ∃ u, u = cat f n G' i := ⟨_, rfl⟩
          rw [← hu] at x1 x2
          obtain ⟨p, hp⟩ : ∃ p, p = i - D := ⟨_, rfl⟩
          rw [← hp] at x2
          have ep : (i : Int) - (D : Int) = (p : Int) := by omega
          have hnn : ((u : Int) != (u : Int)) = false := by simp
          have hp1 : (0 : Int) ≤ (p : Int) := by omega
          have hp2 : (p : Int) < (N : Int) := by omega
          have hp3 : (0 : Int) ≤ (i : Int) := by omega
          have hpN : p < N := by omega
          clear hsame hu hp c1 c2
          go_wp2
          go_quiet (fail)
          go_wp2
          go_roundw
          case rel => exact ⟨i + 1, _, by omega, by omega, by go_num, rfl⟩
          case measure => simp [intOf]; omega
        · obtain rfl : i = N := by omega
          have hlti : ¬ (i : Int) < (i : Int) := by omega
          have e1 := (HVd.out.drwC t).size; have e2 := (HVd.out.drwC t).bytes; have e3 := (HVd.out.drwC t).lt
          have HPY := Lib.hid (spush_any (wd.drewN t) (s : Int) A n c f (((HR.out.below HBd.out (Nat.le_refl _)).more HBd.out.size).drwC t) h1 h2 B' q b' G' (HYd.out.drwC t))
          clear c1 c2 c3
          go_wp2_with fail
          refine HPY.out.mono ?_
          rintro e w4 ⟨⟨S4, A4, l4, c4, F4, rfl, hx4, -, ho4⟩, hb4⟩
          rw [pushE_small (by omega), HW0.out] at ho4 ⊢
          rw [if_pos rfl, Int.toNat_natCast] at ho4
          obtain ⟨g4, hl4, hF4⟩ := ho4
          subst S4
          have hll : l4 = l' := by rw [hl4, HL.out]
          have hFF : F4 = F' := by rw [hF4, HF.out, HG.out]
          subst hll; subst hFF
          obtain ⟨W5, hW5⟩ : ∃ W, W = w4.alloc (.cells #[.int .i64 (s : Int), .slice A4 l4 c4] 24) := ⟨_, rfl⟩
          have hz5 : Below w4.heap.size w4 W5 := by rw [hW5]; exact (Below.refl _ _).alloc (Nat.le_refl _) _
          have hb5 : Below (wd.drewN t).heap.size (wd.drewN t) W5 := hb4.trans (hz5.mono hb4.size)
          obtain ⟨Z, hZ⟩ : ∃ Z, Z = strB l4 F4 := ⟨_, rfl⟩
          have s5 := run_str ((hx4.below hz5 (Nat.le_refl _)).more hz5.size).1 c4
          have s6 := run_str (((HZd.out.drwC t).below hb5 (Nat.le_refl _)).more hb5.size).1 c'
          rw [← hZ, hW5] at s5 s6
          have HV4 := (HVd.out.drwC t).below hb4 (HVd.out.drwC t).lt; have HX4 := (HXd.out.drwC t).below hb4 (HXd.out.drwC t).lt
          have f1 := HV4.size; have f2 := HV4.bytes; have f3 := HV4.lt; have f4 := HX4.size; have f5 := HX4.bytes; have f6 := HX4.lt
          have HB5 := Lib.hid ((below_drwC HBd.out t).trans (hb5.mono (below_drwC HBd.out t).size)); have HV5 := Lib.hid (HV4.below hz5 f3); have HX5 := Lib.hid (HX4.below hz5 f6)
          have HY5 := Lib.hid (((HYd.out.drwC t).below hb5 (Nat.le_refl _)).more hb5.size); have HXX5 := Lib.hid (((HZd.out.drwC t).below hb5 (Nat.le_refl _)).more hb5.size)
          have HZ := Lib.hid hZ; have HW5 := Lib.hid hW5
          have hss : ((s : Int) != (s : Int)) = false := by simp
          clear hl4 hF4 hx4 hb4 hz5 hb5 hZ hW5 HV4 HX4 HVd HXd HYd HZd HPY HCW HBd e1 e2 e3
          by_cases hPq : q < P
          · have hd3 : (q : Int) < (P : Int) := by omega
            go_wp2
            go_ret
            exact ⟨rfl, by rw [← HW5.out]; exact HB5.out⟩
          · have hd3 : ¬ (q : Int) < (P : Int) := by omega
            have hcc := scopy_any W5 (s : Int) A n c f ((HR.out.below HB5.out (Nat.le_refl _)).more HB5.out.size) h1 h2 (D : Int) (P : Int) hd1 hd2 (by omega) (by omega)
            have HE1 := Lib.hid (copyE_ok (d := (D : Int)) (k := (P : Int)) HW0.out (by omega) (by omega))
            have HCC := Lib.hid hcc
            clear hcc
            go_wp2_with fail
            rw [← HW5.out]
            refine HCC.out.mono ?_
            rintro e w6 ⟨⟨S6, A6, l6, c6, F6, B6, k6, b6, G6, rfl, hx6, hy6, -, -, ho6⟩, hb6⟩
            rw [HE1.out] at ho6 ⊢
            rw [if_pos rfl, Int.toNat_natCast, Int.toNat_natCast, Int.toNat_natCast] at ho6
            obtain ⟨g6, hl6, hF6, hk6, hG6⟩ := ho6
            subst S6; subst k6
            obtain ⟨W7, hW7⟩ : ∃ W, W = w6.alloc (.cells #[.int .i64 (s : Int), .slice A6 l6 c6] 24) := ⟨_, rfl⟩
            have hz7 : Below w6.heap.size w6 W7 := by rw [hW7]; exact (Below.refl _ _).alloc (Nat.le_refl _) _
            have hb7 : Below W5.heap.size W5 W7 := hb6.trans (hz7.mono hb6.size)
            have HB7 := Lib.hid (HB5.out.trans (hb7.mono HB5.out.size)); have HV7 := Lib.hid (HV5.out.below hb7 HV5.out.lt); have HX7 := Lib.hid (HX5.out.below hb7 HX5.out.lt)
            have HY7 := Lib.hid ((HY5.out.below hb7 (Nat.le_refl _)).more hb7.size); have HXX7 := Lib.hid ((HXX5.out.below hb7 (Nat.le_refl _)).more hb7.size)
            have HC7 := Lib.hid ((hy6.below hz7 (Nat.le_refl _)).more hz7.size); have hP7 := (hx6.below hz7 (Nat.le_refl _)).more hz7.size
            obtain ⟨r, hr⟩ : ∃ r, r = q - P := ⟨_, rfl⟩
            have er : (q : Int) - (P : Int) = (r : Int) := by omega
            have hw6 : winE (s : Int) l6 = 0 := by have := winE_in (l := P) HW0.out; rw [Int.toNat_natCast, ← hl6] at this; exact this
            have hl6n : n ≤ l6 := by rw [hl6]; unfold inN keepN; omega
            have HE2 := Lib.hid (copyE_ok (d := (D : Int)) (k := (r : Int)) hw6 (by omega) (by omega))
            have HCD := Lib.hid (scopy_any W7 (s : Int) A6 l6 c6 F6 hP7 h1 h2 (D : Int) (r : Int) hd1 hd2 (by omega) (by omega))
            have HW7 := Lib.hid hW7; have HL6 := Lib.hid hl6; have HF6 := Lib.hid hF6; have HG6 := Lib.hid hG6; have HRR := Lib.hid hr
            clear hl6 hF6 hG6 hW7 hz7 hb7 hb6 hx6 hy6 hP7 hw6 hr HCC HB5 HV5 HX5 HY5 HXX5 f1 f2 f3 f4 f5 f6 s5 s6
            go_wp2_with fail
            rw [← HW7.out]
            refine HCD.out.mono ?_
            rintro e w8 ⟨⟨S8, A8, l8, c8, F8, B8, k8, b8, G8, rfl, hx8, hy8, -, -, ho8⟩, hb8⟩
            rw [HE2.out] at ho8 ⊢
            rw [if_pos rfl, Int.toNat_natCast, Int.toNat_natCast, Int.toNat_natCast] at ho8
            obtain ⟨g8, hl8, hF8, hk8, hG8⟩ := ho8
            subst S8; subst k8
            have hpr : P + r = q := by have := HRR.out; omega
            have hcat := cop_cat (S := s) (k := P) (f := f) hD1 hDn hns
            rw [← HL6.out, ← HF6.out] at hcat
            have hs1 : strB P G6 ++ strB r G8 = strB q G' := by rw [strB_cat, hpr, HG6.out, hG8, hcat, HG.out]
            have hl84 : l8 = l4 := by rw [hl8, HL6.out, in_two, hpr, HL.out]
            have hs2 : strB l8 F8 = strB l4 F4 := by
              rw [hl84]
              unfold strB
              congr 1
              refine List.map_congr_left fun j hj => ?_
              have hj4 : j < inN s n (P + r) := by have := List.mem_range.1 hj; rw [HL.out, ← hpr] at this; exact this
              rw [hF8, HL6.out, HF6.out, in_twoF hj4, ← HF6.out, ← HL6.out, hcat, hpr, HF.out]
            obtain ⟨W9, hW9⟩ : ∃ W, W = w8.alloc (.cells #[.int .i64 (s : Int), .slice A8 l8 c8] 24) := ⟨_, rfl⟩
            have hz9 : Below w8.heap.size w8 W9 := by rw [hW9]; exact (Below.refl _ _).alloc (Nat.le_refl _) _
            have hb9 : Below W7.heap.size W7 W9 := hb8.trans (hz9.mono hb8.size)
            have t1 := run_str ((HC7.out.below hb9 (Nat.le_refl _)).more hb9.size).1 b6
            have t2 := run_str ((hy8.below hz9 (Nat.le_refl _)).more hz9.size).1 b8
            have t3 := run_str ((HY7.out.below hb9 (Nat.le_refl _)).more hb9.size).1 b'
            have t4 := run_str ((hx8.below hz9 (Nat.le_refl _)).more hz9.size).1 c8
            have t5 := run_str ((HXX7.out.below hb9 (Nat.le_refl _)).more hb9.size).1 c'
            rw [← hs1] at t3
            rw [hs2] at t4
            rw [← HZ.out] at t4 t5
            obtain ⟨Z1, hZ1⟩ : ∃ Z1, Z1 = strB P G6 := ⟨_, rfl⟩
            obtain ⟨Z2, hZ2⟩ : ∃ Z2, Z2 = strB r G8 := ⟨_, rfl⟩
            have z1 : Z1.size = P := by rw [hZ1]; exact strB_size _ _
            have z2 : Z2.size = r := by rw [hZ2]; exact strB_size _ _
            have z3 : ¬ (9223372036854775807 : Int) < (Z1.size : Int) + (Z2.size : Int) := by omega
            have z4 : ¬ 9223372036854775807 < Z1.size + Z2.size := by omega
            rw [← hZ1] at t1 t3
            rw [← hZ2] at t2 t3
            rw [hW9] at t1 t2 t3 t4 t5
            have HX8 := HX7.out.below hb8 HX7.out.lt
            have f4 := HX8.size; have f5 := HX8.bytes; have f6 := HX8.lt
            have HB9 := Lib.hid (HB7.out.trans (hb9.mono HB7.out.size)); have HW9 := Lib.hid hW9
            clear z1 z2 hx8 hy8 hb8 hl8 hF8 hG8 hcat hs1 hs2 hz9 hb9 hW9 hZ1 hZ2 hl84 HX8 HB7 HV7 HX7 HY7 HXX7 HC7 HCD
            go_wp2
            go_ret
            exact ⟨rfl, by rw [← HW9.out]; exact HB9.out⟩
    · rw [hbad] at hw0; cases hw0
  · rw [if_neg hE] at ho
    obtain ⟨rfl, rfl, rfl⟩ := ho
    obtain ⟨E, hEE⟩ : ∃ E, E = copyE S n d k := ⟨_, rfl⟩
    rw [← hEE] at hE ⊢
    have hne : (E != 0) = true := by simpa using hE
    clear hEE hx hy
    go_wp2
    go_ret
    exact ⟨rfl, HB2.out.alloc (by omega) _⟩
-- LAW
set_option maxRecDepth 100000 in
theorem copies_law_lifted (os : Os) (started : os.Started) (H : Type) (enc : TypeId × Value → H) :
    ReturnsInHanded {} Try.checked os 5 .any (Rows.slideCopiesSpec.pre6 enc Try.prog Try.f5 Rows.slideCopiesRow.domain false) (Rows.slideCopiesSpec.post enc Try.prog Try.f5 false true false false) := by
  refine returnsInHanded_of_change (C := Try.checked) own started (by kernel_rfl) Try.func5
    (ChangeSpec.witness6 (enc := enc) (C := Try.checked) false ⟨#[], #[.agg #[.int .i64 0, .slice none 0 0], .int .i64 0, .int .i64 0, .int .u8 0], []⟩ 8 (by kernel_rfl) (by kernel_rfl) (by kernel_rfl) (by kernel_rfl)) ?_
  intro W base args ds gs before hval0 hW _ _
  have hval : ∀ (j : Nat) t v, Try.f5.params[j]? = some t → args[j]? = some v → Value.okWide Try.prog W .any base t v := hval0
  have hW' := hW
  obtain ⟨p, q, hA0, hV, rfl, _, _⟩ := hW
  have hA : DataW.TrodAll enc Try.prog W 0 (fun _ => true) true Try.f5.params.toList args.toList ds p := hA0
  rw [Try.params5] at hA hval
  obtain ⟨v0, vs0, d0, ds0, p0, q0, hargs, rfl, rfl, h0, r0⟩ := trodAll_cons hA
  obtain ⟨v1, vs1, d1, ds1, p1, q1, rfl, rfl, rfl, h1, r1⟩ := trodAll_cons r0
  obtain ⟨v2, vs2, d2, ds2, p2, q2, rfl, rfl, rfl, h2, r2⟩ := trodAll_cons r1
  obtain ⟨v3, vs3, d3, ds3, p3, q3, rfl, rfl, rfl, h3, r3⟩ := trodAll_cons r2
  obtain ⟨rfl, rfl, rfl⟩ := trodAll_nil r3
  obtain rfl : args = #[v0, v1, v2, v3] := by cases args; simp_all
  obtain ⟨rfl, rfl⟩ := trodVars_none hV
  have k0 := h0
  have lt0 : ∀ x ∈ p0, x.block < W.heap.size := by obtain ⟨m, hm⟩ := k0; exact DataW.trod_lt m _ _ _ hm
  obtain ⟨a0, A0, len0, cap0, f0, rfl, hr0, u0⟩ := open_win (hval 0 24 v0 rfl rfl) h0
  have k1 := h1
  have lt1 : ∀ x ∈ p1, x.block < W.heap.size := by obtain ⟨m, hm⟩ := k1; exact DataW.trod_lt m _ _ _ hm
  obtain ⟨a1, rfl, rfl, rfl, w1⟩ := open_int Try.underlying3 (hval 1 3 v1 rfl rfl) h1
  have u1 := wf_i64_range w1
  have k2 := h2
  have lt2 : ∀ x ∈ p2, x.block < W.heap.size := by obtain ⟨m, hm⟩ := k2; exact DataW.trod_lt m _ _ _ hm
  obtain ⟨a2, rfl, rfl, rfl, w2⟩ := open_int Try.underlying3 (hval 2 3 v2 rfl rfl) h2
  have u2 := wf_i64_range w2
  have k3 := h3
  have lt3 : ∀ x ∈ p3, x.block < W.heap.size := by obtain ⟨m, hm⟩ := k3; exact DataW.trod_lt m _ _ _ hm
  obtain ⟨a3, rfl, rfl, rfl, w3⟩ := open_int Try.underlying5 (hval 3 5 v3 rfl rfl) h3
  have u3 := wf_u8_range w3
  obtain ⟨a3, rfl⟩ := Int.eq_ofNat_of_zero_le u3.1
  clear hA0 hval0
  refine (copies_law a0 A0 len0 cap0 f0 a1 a2 a3 W hr0 u0.1 u0.2 u1.1 u1.2 u2.1 u2.2 (by omega)).mono fun e W' ⟨he, bel⟩ => ?_
  subst he
  exact ⟨_, rfl, _, _, _, [], _, [], hW', trodAll_mk1 (shut_bool Try.underlying4 _), (trodAll_cons_mk (Below.trod laidOut (by kernel_rfl) (of_decide_eq_true (by kernel_rfl)) k0 bel lt0) (trodAll_cons_mk (Below.trod laidOut (by kernel_rfl) (of_decide_eq_true (by kernel_rfl)) k1 bel lt1) (trodAll_cons_mk (Below.trod laidOut (by kernel_rfl) (of_decide_eq_true (by kernel_rfl)) k2 bel lt2) (trodAll_cons_mk (Below.trod laidOut (by kernel_rfl) (of_decide_eq_true (by kernel_rfl)) k3 bel lt3) trodAll_mk0)))), rfl, bel.frame _, fun h => by cases h⟩
theorem copies_law_holds : Rows.SlideCopiesSaid :=
  OpenClaim.holds_of_wide 5 Try.f5 rfl rfl rfl rfl rfl rfl rfl ⟨rfl, rfl, rfl, rfl, rfl⟩ rfl rfl rfl rfl rfl (by kernel_rfl) Try.func5 (by kernel_rfl)
    (of_decide_eq_true (by kernel_rfl)) (by unfold Func.isWrapper; first | (rw [if_pos (by decide +kernel)]; kernel_rfl) | (rw [if_neg (by decide +kernel)]; exact ⟨rfl, rfl⟩))
    (fun os started H enc _ => copies_law_lifted os started H enc)
#print axioms copies_law_holds
end Go.Proofs.Ytmdnlmoadklefaa
