/-
  Layer 3 (canon): what the document's own part, Parts, Check, Made and Codes answer.
-/
import Derived.Test.YtedjapamimhglaaCanonNum
import Derived.Test.YtedjapamimhglaaCodeMem
namespace Go.Proofs.Ytedjapamimhglaa
open Go.RowKit
theorem part_any (w : World) (m : Nat) (hm : m < 256) :
    Calls Try.prog 50 #[.int .u8 (m : Int)] w fun e w' => e = .returned (.int .i64 (pt m : Nat)) ∧ w = w' := by
  go_enter Try.func50, Try.ntmps50
  go_wp2
  go_loop [3, 4] (fun p i => ∃ k : Nat, k ≤ m ∧ i = .int .i64 k ∧ p = .int .i64 (pt k : Nat)) (fun _ i => m - (intOf i).toNat)
  case atStart => exact ⟨0, Nat.zero_le _, rfl, rfl⟩
  case round =>
    obtain ⟨k, hk, rfl, rfl⟩ := hrel
    have hp := pt_le k
    have H := Lib.hid (pt_half k)
    obtain ⟨p, hpe⟩ : ∃ p, p = pt k := ⟨_, rfl⟩
    rw [← hpe] at hp H ⊢
    have HP := Lib.hid hpe
    clear hpe
    by_cases hlt : k < m
    · go_wp2
      refine ⟨⟨k + 1, hlt, by go_num, val_int ?_⟩, by simp [intOf]; omega⟩
      rw [H.out]; omega
    · obtain rfl : k = m := by omega
      clear hlt hk
      go_wp2
      go_ret
      exact ⟨ret_int (by rw [HP.out]), rfl⟩
theorem allN_le (f : Nat → Nat) : ∀ n, allN f n ≤ 32768 * n
  | 0 => Nat.le_refl _
  | n + 1 => by
    have h1 := allN_le f n
    have h2 := pt_le (f n)
    simp only [allN]; split <;> omega
set_option maxHeartbeats 1000000 in
theorem parts_any (w : World) (B : Nat) (A : Option Addr) (n c : Nat) (f : Nat → Nat) (hr : RdB w B A n f) (hn : n ≤ 1000000) :
    Calls Try.prog 47 #[.slice A n c] w fun e w' => e = .returned (.tuple #[.int .i64 (allN f n : Nat), .int .i64 (usedN f n : Nat)]) ∧ w = w' := by
  have HR := Lib.hid hr
  clear hr
  go_enter Try.func47, Try.ntmps47
  go_wp2
  go_loop [4, 5, 6] (fun a u i => ∃ k : Nat, k ≤ n ∧ i = .int .i64 k ∧ a = .int .i64 (allN f k : Nat) ∧ u = .int .i64 (usedN f k : Nat)) (fun _ _ i => n - (intOf i).toNat)
  case atStart => exact ⟨0, Nat.zero_le _, rfl, rfl, rfl⟩
  case round =>
    obtain ⟨k, hk, rfl, rfl, rfl⟩ := hrel
    have ha := allN_le f k
    have hu := used_le f k
    have hf := HR.out.1 k
    have hs1 : allN f (k + 1) = allN f k + if 0 < f k then pt (f k) else 0 := rfl
    have hs2 : usedN f (k + 1) = usedN f k + if 0 < f k then 1 else 0 := rfl
    have H1 := Lib.hid hs1; have H2 := Lib.hid hs2
    clear hs1 hs2
    obtain ⟨a, hae⟩ : ∃ p, p = allN f k := ⟨_, rfl⟩
    obtain ⟨u, hue⟩ : ∃ p, p = usedN f k := ⟨_, rfl⟩
    rw [← hae] at ha H1 ⊢
    rw [← hue] at hu H2 ⊢
    have HA := Lib.hid hae; have HU := Lib.hid hue
    clear hae hue
    by_cases hlt : k < n
    · obtain ⟨b, o, rfl, _, hc⟩ := HR.out.2 (by omega)
      have hcell := hc k hlt
      clear hc
      have hp := pt_le (f k)
      by_cases h0 : 0 < f k
      · go_wp2_with (go_at_call 50; refine (part_any _ (f k) hf).mono ?_; rintro e w' ⟨rfl, rfl⟩)
        refine ⟨⟨k + 1, hlt, by go_num, val_int ?_, val_int ?_⟩, by simp [intOf]; omega⟩
        · rw [H1.out, if_pos h0]; omega
        · rw [H2.out, if_pos h0]; omega
      · go_wp2
        refine ⟨⟨k + 1, hlt, by go_num, val_int ?_, val_int ?_⟩, by simp [intOf]; omega⟩
        · rw [H1.out, if_neg h0]; omega
        · rw [H2.out, if_neg h0]; omega
    · obtain rfl : k = n := by omega
      clear hk hlt
      go_wp2
      go_ret2
      exact ⟨ret_two (by rw [HA.out]) (by rw [HU.out]), rfl⟩
theorem rcheck_arg (w : World) (A : Option Addr) (n c : Nat) (most : Int) (h : most < 1 ∨ 15 < most) :
    Calls Try.prog 29 #[.slice A n c, .int .i64 most] w fun e w' => e = .returned (.int .i64 2) ∧ w = w' := by
  by_cases h1 : most < 1
  · have hd : decide (most < 1) = true := by simpa using h1
    clear h
    go_enter Try.func29, Try.ntmps29
    go_wp2
    go_ret
    exact ⟨rfl, rfl⟩
  · have h2 : 15 < most := by omega
    have hd : decide (most < 1) = false := by simpa using h1
    clear h
    go_enter Try.func29, Try.ntmps29
    go_wp2
    go_ret
    exact ⟨rfl, rfl⟩
theorem rcheck_many (w : World) (A : Option Addr) (n c : Nat) (most : Int) (h1 : 1 ≤ most) (h2 : most ≤ 15) (h : 320 < n) :
    Calls Try.prog 29 #[.slice A n c, .int .i64 most] w fun e w' => e = .returned (.int .i64 4) ∧ w = w' := by
  have hd : decide (most < 1) = false := by simp; omega
  have hd2 : decide (15 < most) = false := by simp; omega
  go_enter Try.func29, Try.ntmps29
  go_wp2
  go_ret
  exact ⟨rfl, rfl⟩
/-- How the document's Check ends: by what the lengths count. -/
def endB (all used : Nat) : Bool := decide (all = 32768 ∨ used = 0 ∨ (used = 1 ∧ all = 16384))
set_option maxRecDepth 100000 in
set_option maxHeartbeats 2000000 in
theorem rcheck_rest (w : World) (B : Nat) (A : Option Addr) (n c : Nat) (f : Nat → Nat) (most : Int) (hr : RdB w B A n f) (h1 : 1 ≤ most) (h2 : most ≤ 15) (h : n ≤ 320) :
    Calls Try.prog 29 #[.slice A n c, .int .i64 most] w fun e w' => e = .returned (.int .i64 (if bigB f n most = true then 2 else endE (allN f n) (usedN f n))) ∧ w = w' := by
  have HR := Lib.hid hr
  clear hr
  have hd : decide (most < 1) = false := by simp; omega
  have hd2 : decide (15 < most) = false := by simp; omega
  have hd3 : decide ((320 : Int) < (n : Int)) = false := by simp; omega
  have ha := allN_le f n
  have hu := used_le f n
  obtain ⟨a, hae⟩ : ∃ p, p = allN f n := ⟨_, rfl⟩
  obtain ⟨u, hue⟩ : ∃ p, p = usedN f n := ⟨_, rfl⟩
  obtain ⟨E, hE⟩ : ∃ E, E = (if bigB f n most = true then 2 else endE (allN f n) (usedN f n)) := ⟨_, rfl⟩
  rw [← hE]
  rw [← hae] at ha
  rw [← hue] at hu
  have HA := Lib.hid hae; have HU := Lib.hid hue; have HE := Lib.hid hE
  clear hae hue hE
  go_enter Try.func29, Try.ntmps29
  go_wp2
  go_loop [5] (fun i => ∃ k : Nat, k ≤ n ∧ i = .int .i64 k ∧ ∀ j, j < k → (f j : Int) ≤ most) (fun i => n - (intOf i).toNat)
  case atStart => exact ⟨0, Nat.zero_le _, rfl, fun j hj => absurd hj (by omega)⟩
  case round =>
    obtain ⟨k, hk, rfl, hall⟩ := hrel
    have HALL := Lib.hid hall
    clear hall
    have hf := HR.out.1 k
    by_cases hlt : k < n
    · obtain ⟨b, o, rfl, _, hc⟩ := HR.out.2 (by omega)
      have hcell := hc k hlt
      clear hc
      by_cases hb : most < (f k : Int)
      · have HB := Lib.hid (bigB_yes hlt hb)
        go_wp2
        go_ret
        exact ⟨ret_int (by rw [HE.out, if_pos HB.out]), rfl⟩
      · go_wp2
        refine ⟨⟨k + 1, hlt, by go_num, fun j hj => ?_⟩, by simp [intOf]; omega⟩
        rcases Nat.eq_or_lt_of_le (Nat.le_of_lt_succ hj) with e | e
        · subst e; omega
        · exact HALL.out j e
    · obtain rfl : k = n := by omega
      clear hk hlt
      have HE2 := Lib.hid (HE.out.trans (by rw [if_neg (by rw [bigB_mk HALL.out]; decide), ← HA.out, ← HU.out] : _ = endE a u))
      by_cases e1 : (32768 : Int) < (a : Int)
      · go_wp2_with (go_at_call 47; refine (parts_any _ B A k c f HR.out (by omega)).mono ?_; rintro e w' ⟨rfl, rfl⟩; rw [← HA.out, ← HU.out])
        go_ret
        exact ⟨ret_int (by rw [HE2.out]; unfold endE; rw [if_pos (by omega)]), rfl⟩
      · have d1 : decide ((32768 : Int) < (a : Int)) = false := by simp; omega
        have hEE : E = if endB a u = true then 0 else 31 := by
          rw [HE2.out]; unfold endE endB
          rw [if_neg (by omega)]; simp only [decide_eq_true_eq]
        have HE3 := Lib.hid hEE
        clear hEE
        by_cases g1 : (a : Int) = 32768
        · have t1 : ((a : Int) == 32768) = true := by simpa using g1
          have HB := Lib.hid (show endB a u = true from decide_eq_true (.inl (by omega)))
          clear g1 e1
          go_wp2_with (go_at_call 47; refine (parts_any _ B A k c f HR.out (by omega)).mono ?_; rintro e w' ⟨rfl, rfl⟩; rw [← HA.out, ← HU.out])
          go_ret
          exact ⟨ret_int (by rw [HE3.out, if_pos HB.out]), rfl⟩
        · have t1 : ((a : Int) == 32768) = false := by simpa using g1
          by_cases g2 : (u : Int) = 0
          · have t2 : ((u : Int) == 0) = true := by simpa using g2
            have HB := Lib.hid (show endB a u = true from decide_eq_true (.inr (.inl (by omega))))
            clear g1 g2 e1
            go_wp2_with (go_at_call 47; refine (parts_any _ B A k c f HR.out (by omega)).mono ?_; rintro e w' ⟨rfl, rfl⟩; rw [← HA.out, ← HU.out])
            go_ret
            exact ⟨ret_int (by rw [HE3.out, if_pos HB.out]), rfl⟩
          · have t2 : ((u : Int) == 0) = false := by simpa using g2
            by_cases g3 : (u : Int) = 1
            · have t3 : ((u : Int) == 1) = true := by simpa using g3
              by_cases g4 : (a : Int) = 16384
              · have t4 : ((a : Int) == 16384) = true := by simpa using g4
                have HB := Lib.hid (show endB a u = true from decide_eq_true (.inr (.inr ⟨by omega, by omega⟩)))
                clear g1 g2 g3 g4 e1
                go_wp2_with (go_at_call 47; refine (parts_any _ B A k c f HR.out (by omega)).mono ?_; rintro e w' ⟨rfl, rfl⟩; rw [← HA.out, ← HU.out])
                go_ret
                exact ⟨ret_int (by rw [HE3.out, if_pos HB.out]), rfl⟩
              · have t4 : ((a : Int) == 16384) = false := by simpa using g4
                have HB := Lib.hid (show endB a u = false from decide_eq_false (by omega))
                clear g1 g2 g3 g4 e1
                go_wp2_with (go_at_call 47; refine (parts_any _ B A k c f HR.out (by omega)).mono ?_; rintro e w' ⟨rfl, rfl⟩; rw [← HA.out, ← HU.out])
                go_ret
                exact ⟨ret_int (by rw [HE3.out, if_neg (by rw [HB.out]; decide)]), rfl⟩
            · have t3 : ((u : Int) == 1) = false := by simpa using g3
              have HB := Lib.hid (show endB a u = false from decide_eq_false (by omega))
              clear g1 g2 g3 e1
              go_wp2_with (go_at_call 47; refine (parts_any _ B A k c f HR.out (by omega)).mono ?_; rintro e w' ⟨rfl, rfl⟩; rw [← HA.out, ← HU.out])
              go_ret
              exact ⟨ret_int (by rw [HE3.out, if_neg (by rw [HB.out]; decide)]), rfl⟩
theorem rcheck_any (w : World) (B : Nat) (A : Option Addr) (n c : Nat) (f : Nat → Nat) (most : Int) (hr : RdB w B A n f) :
    Calls Try.prog 29 #[.slice A n c, .int .i64 most] w fun e w' => e = .returned (.int .i64 (checkE f n most)) ∧ w = w' := by
  unfold checkE
  by_cases h1 : most < 1 ∨ 15 < most
  · rw [if_pos h1]; exact rcheck_arg w A n c most h1
  · rw [if_neg h1]
    by_cases h2 : 320 < n
    · rw [if_pos h2]; exact rcheck_many w A n c most (by omega) (by omega) h2
    · rw [if_neg h2]; exact rcheck_rest w B A n c f most hr (by omega) (by omega) (by omega)
end Go.Proofs.Ytedjapamimhglaa
