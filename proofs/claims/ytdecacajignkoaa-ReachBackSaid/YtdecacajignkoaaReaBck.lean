/-
  Layer 9 (reach): ReachBack: each length and distance has one symbol and extra, and these tell it; what tells a number is that number's; any numbers.
-/
import Derived.Test.YtdecacajignkoaaReaAlv
namespace Go.Proofs.Ytdecacajignkoaa
open Go.RowKit Go.ChangeShapes Go.WideShapes Go.ChangeAt
theorem sh_eq {k p : Nat} (hp : p = 2 ^ k) (hk : k ≤ 20) : wrap64 ((2 : Int) ^ k) = (p : Int) := by
  have h1 : ((2 : Int) ^ k) = ((2 ^ k : Nat) : Int) := by norm_cast
  have h2 := Nat.pow_le_pow_right (n := 2) (by omega) hk
  rw [h1, ← hp]
  unfold wrap64
  omega
set_option maxRecDepth 100000 in
set_option maxHeartbeats 8000000 in
theorem back9_law (n s x : Int) (w : World) (_ : -9223372036854775808 ≤ n) (_ : n ≤ 9223372036854775807) (_ : -9223372036854775808 ≤ s) (_ : s ≤ 9223372036854775807) (_ : -9223372036854775808 ≤ x) (_ : x ≤ 9223372036854775807) :
    Calls Try.prog 6 #[.int .i64 n, .int .i64 s, .int .i64 x] w fun e w' => e = .returned (.bool true) ∧ Below w.heap.size w w' := by
  have HA := Lib.hid (alive9_any)
  have HLa := Lib.hid (fun w => long9_any w n)
  have HLb := Lib.hid (fun w => far9_any w n)
  have ha := @long_there n
  obtain ⟨Sa, hSa⟩ : ∃ S, S = lgS n := ⟨_, rfl⟩
  obtain ⟨Ba, hBa⟩ : ∃ B, B = lgB n := ⟨_, rfl⟩
  obtain ⟨Xa, hXa⟩ : ∃ X, X = lgX n := ⟨_, rfl⟩
  obtain ⟨Ea, hEa⟩ : ∃ E, E = lgE n := ⟨_, rfl⟩
  rw [← hSa, ← hBa, ← hXa, ← hEa] at HLa ha
  have HOa := Lib.hid (fun w => lof9_any w Sa Xa)
  have HIa := Lib.hid (fun w => lbit9_any w Sa)
  clear hSa hBa hXa hEa
  have hcasea : (Ea == 0) = false ∨ (∃ (k p : Nat), (Ea == 0) = true ∧ Ba = (k : Int) ∧ wrap64 ((2 : Int) ^ k) = (p : Int) ∧ decide (Xa < 0) = false ∧ decide ((p : Int) ≤ Xa) = false ∧ 0 ≤ Xa ∧ Xa < (p : Int) ∧ p ≤ 1048576 ∧ k ≤ 20 ∧
      Hid (∀ w, Calls Try.prog 10 #[.int .i64 Sa, .int .i64 Xa] w fun e w' => e = .returned (.tuple #[.int .i64 n, .int .i64 0]) ∧ Below w.heap.size w w') ∧
      Hid (∀ w, Calls Try.prog 20 #[.int .i64 Sa] w fun e w' => e = .returned (.tuple #[.int .i64 (k : Int), .int .i64 0]) ∧ Below w.heap.size w w')) := by
    by_cases q : Ea = 0
    · obtain ⟨g1, g2, g3, g4, g5, g6, g7, g8⟩ := ha q
      rw [g1, g2] at HOa
      rw [g3, g4] at HIa
      obtain ⟨k, hk⟩ := Int.eq_ofNat_of_zero_le g7
      rw [hk] at HIa g6
      rw [Int.toNat_natCast] at g6
      have hp1 := Nat.pow_le_pow_right (n := 2) (by omega) (show k ≤ 20 by omega)
      obtain ⟨p, hp⟩ : ∃ p : Nat, p = 2 ^ k := ⟨_, rfl⟩
      rw [← hp] at g6 hp1
      exact .inr ⟨k, p, by simp [q], hk, sh_eq hp (by omega), by simp; omega, by simp; omega, g5, g6, hp1, by omega, HOa, HIa⟩
    · exact .inl (by simp [q])
  clear ha HOa HIa
  have hb := @far_there n
  obtain ⟨Sb, hSb⟩ : ∃ S, S = frS n := ⟨_, rfl⟩
  obtain ⟨Bb, hBb⟩ : ∃ B, B = frB n := ⟨_, rfl⟩
  obtain ⟨Xb, hXb⟩ : ∃ X, X = frX n := ⟨_, rfl⟩
  obtain ⟨Eb, hEb⟩ : ∃ E, E = frE n := ⟨_, rfl⟩
  rw [← hSb, ← hBb, ← hXb, ← hEb] at HLb hb
  have HOb := Lib.hid (fun w => fof9_any w Sb Xb)
  have HIb := Lib.hid (fun w => fbit9_any w Sb)
  clear hSb hBb hXb hEb
  have hcaseb : (Eb == 0) = false ∨ (∃ (k p : Nat), (Eb == 0) = true ∧ Bb = (k : Int) ∧ wrap64 ((2 : Int) ^ k) = (p : Int) ∧ decide (Xb < 0) = false ∧ decide ((p : Int) ≤ Xb) = false ∧ 0 ≤ Xb ∧ Xb < (p : Int) ∧ p ≤ 1048576 ∧ k ≤ 20 ∧
      Hid (∀ w, Calls Try.prog 11 #[.int .i64 Sb, .int .i64 Xb] w fun e w' => e = .returned (.tuple #[.int .i64 n, .int .i64 0]) ∧ Below w.heap.size w w') ∧
      Hid (∀ w, Calls Try.prog 12 #[.int .i64 Sb] w fun e w' => e = .returned (.tuple #[.int .i64 (k : Int), .int .i64 0]) ∧ Below w.heap.size w w')) := by
    by_cases q : Eb = 0
    · obtain ⟨g1, g2, g3, g4, g5, g6, g7, g8⟩ := hb q
      rw [g1, g2] at HOb
      rw [g3, g4] at HIb
      obtain ⟨k, hk⟩ := Int.eq_ofNat_of_zero_le g7
      rw [hk] at HIb g6
      rw [Int.toNat_natCast] at g6
      have hp1 := Nat.pow_le_pow_right (n := 2) (by omega) (show k ≤ 20 by omega)
      obtain ⟨p, hp⟩ : ∃ p : Nat, p = 2 ^ k := ⟨_, rfl⟩
      rw [← hp] at g6 hp1
      exact .inr ⟨k, p, by simp [q], hk, sh_eq hp (by omega), by simp; omega, by simp; omega, g5, g6, hp1, by omega, HOb, HIb⟩
    · exact .inl (by simp [q])
  clear hb HOb HIb
  have HOc := Lib.hid (fun w => lof9_any w s x)
  obtain ⟨Vc, hVc⟩ : ∃ V, V = loV s x := ⟨_, rfl⟩
  obtain ⟨Ec, hEc⟩ : ∃ E, E = loE s x := ⟨_, rfl⟩
  rw [← hVc, ← hEc] at HOc
  have hcasec : (Ec == 0) = false ∨ ((Ec == 0) = true ∧ ∃ Y : Int, Hid (∀ w, Calls Try.prog 13 #[.int .i64 Vc] w fun e w' => e = .returned (.tuple #[.int .i64 s, .int .i64 Y, .int .i64 x, .int .i64 0]) ∧ Below w.heap.size w w')) := by
    by_cases q : Ec = 0
    · obtain ⟨g1, g2, g3⟩ := long_here (hEc ▸ q : loE s x = 0)
      refine .inr ⟨by simp [q], lgB Vc, Lib.hid fun w => ?_⟩
      have h := long9_any w Vc
      rw [hVc] at h ⊢
      rw [g1, g2, g3] at h
      exact h
    · exact .inl (by simp [q])
  clear hVc hEc
  have HOd := Lib.hid (fun w => fof9_any w s x)
  obtain ⟨Vd, hVd⟩ : ∃ V, V = foV s x := ⟨_, rfl⟩
  obtain ⟨Ed, hEd⟩ : ∃ E, E = foE s x := ⟨_, rfl⟩
  rw [← hVd, ← hEd] at HOd
  have hcased : (Ed == 0) = false ∨ ((Ed == 0) = true ∧ ∃ Y : Int, Hid (∀ w, Calls Try.prog 14 #[.int .i64 Vd] w fun e w' => e = .returned (.tuple #[.int .i64 s, .int .i64 Y, .int .i64 x, .int .i64 0]) ∧ Below w.heap.size w w')) := by
    by_cases q : Ed = 0
    · obtain ⟨g1, g2, g3⟩ := far_here (hEd ▸ q : foE s x = 0)
      refine .inr ⟨by simp [q], frB Vd, Lib.hid fun w => ?_⟩
      have h := far9_any w Vd
      rw [hVd] at h ⊢
      rw [g1, g2, g3] at h
      exact h
    · exact .inl (by simp [q])
  clear hVd hEd
  have es : (s == s) = true := by simp
  have ex : (x == x) = true := by simp
  have es2 : (s != s) = false := by simp
  have ex2 : (x != x) = false := by simp
  have en : (n != n) = false := by simp
  rcases hcasea with ca | ⟨ka, pa, ca, rfl, ca1, ca2, ca3, ca4, ca5, ca6, ca7, HOa, HIa⟩ <;>
  rcases hcaseb with cb | ⟨kb, pb, cb, rfl, cb1, cb2, cb3, cb4, cb5, cb6, cb7, HOb, HIb⟩ <;>
  rcases hcasec with cc | ⟨cc, Yc, HFc⟩ <;>
  rcases hcased with cd | ⟨cd, Yd, HFd⟩
  · skip
    go_enter Try.func6, Try.ntmps6
    go_wp2_with fail
    refine (HA.out w).mono ?_
    rintro e w1 ⟨rfl, b1⟩
    have Q1 := Lib.hid (b1)
    clear b1
    go_wp2_with fail
    refine (HLa.out w1).mono ?_
    rintro e w2 ⟨rfl, b2⟩
    have Q2 := Lib.hid (Q1.out.trans (b2.mono Q1.out.size))
    clear b2
    go_wp2_with fail
    refine (HLb.out w2).mono ?_
    rintro e w3 ⟨rfl, b3⟩
    have Q3 := Lib.hid (Q2.out.trans (b3.mono Q2.out.size))
    clear b3
    go_wp2_with fail
    refine (HOc.out w3).mono ?_
    rintro e w4 ⟨rfl, b4⟩
    have Q4 := Lib.hid (Q3.out.trans (b4.mono Q3.out.size))
    clear b4
    go_wp2_with fail
    refine (HOd.out w4).mono ?_
    rintro e w5 ⟨rfl, b5⟩
    have Q5 := Lib.hid (Q4.out.trans (b5.mono Q4.out.size))
    clear b5
    go_wp2
    go_ret
    exact ⟨rfl, Q5.out⟩
  · skip
    go_enter Try.func6, Try.ntmps6
    go_wp2_with fail
    refine (HA.out w).mono ?_
    rintro e w1 ⟨rfl, b1⟩
    have Q1 := Lib.hid (b1)
    clear b1
    go_wp2_with fail
    refine (HLa.out w1).mono ?_
    rintro e w2 ⟨rfl, b2⟩
    have Q2 := Lib.hid (Q1.out.trans (b2.mono Q1.out.size))
    clear b2
    go_wp2_with fail
    refine (HLb.out w2).mono ?_
    rintro e w3 ⟨rfl, b3⟩
    have Q3 := Lib.hid (Q2.out.trans (b3.mono Q2.out.size))
    clear b3
    go_wp2_with fail
    refine (HOc.out w3).mono ?_
    rintro e w4 ⟨rfl, b4⟩
    have Q4 := Lib.hid (Q3.out.trans (b4.mono Q3.out.size))
    clear b4
    go_wp2_with fail
    refine (HOd.out w4).mono ?_
    rintro e w5 ⟨rfl, b5⟩
    have Q5 := Lib.hid (Q4.out.trans (b5.mono Q4.out.size))
    clear b5
    go_wp2_with fail
    refine (HFd.out w5).mono ?_
    rintro e w6 ⟨rfl, b6⟩
    have Q6 := Lib.hid (Q5.out.trans (b6.mono Q5.out.size))
    clear b6
    go_wp2
    go_ret
    exact ⟨rfl, Q6.out⟩
  · skip
    go_enter Try.func6, Try.ntmps6
    go_wp2_with fail
    refine (HA.out w).mono ?_
    rintro e w1 ⟨rfl, b1⟩
    have Q1 := Lib.hid (b1)
    clear b1
    go_wp2_with fail
    refine (HLa.out w1).mono ?_
    rintro e w2 ⟨rfl, b2⟩
    have Q2 := Lib.hid (Q1.out.trans (b2.mono Q1.out.size))
    clear b2
    go_wp2_with fail
    refine (HLb.out w2).mono ?_
    rintro e w3 ⟨rfl, b3⟩
    have Q3 := Lib.hid (Q2.out.trans (b3.mono Q2.out.size))
    clear b3
    go_wp2_with fail
    refine (HOc.out w3).mono ?_
    rintro e w4 ⟨rfl, b4⟩
    have Q4 := Lib.hid (Q3.out.trans (b4.mono Q3.out.size))
    clear b4
    go_wp2_with fail
    refine (HFc.out w4).mono ?_
    rintro e w5 ⟨rfl, b5⟩
    have Q5 := Lib.hid (Q4.out.trans (b5.mono Q4.out.size))
    clear b5
    go_wp2_with fail
    refine (HOd.out w5).mono ?_
    rintro e w6 ⟨rfl, b6⟩
    have Q6 := Lib.hid (Q5.out.trans (b6.mono Q5.out.size))
    clear b6
    go_wp2
    go_ret
    exact ⟨rfl, Q6.out⟩
  · skip
    go_enter Try.func6, Try.ntmps6
    go_wp2_with fail
    refine (HA.out w).mono ?_
    rintro e w1 ⟨rfl, b1⟩
    have Q1 := Lib.hid (b1)
    clear b1
    go_wp2_with fail
    refine (HLa.out w1).mono ?_
    rintro e w2 ⟨rfl, b2⟩
    have Q2 := Lib.hid (Q1.out.trans (b2.mono Q1.out.size))
    clear b2
    go_wp2_with fail
    refine (HLb.out w2).mono ?_
    rintro e w3 ⟨rfl, b3⟩
    have Q3 := Lib.hid (Q2.out.trans (b3.mono Q2.out.size))
    clear b3
    go_wp2_with fail
    refine (HOc.out w3).mono ?_
    rintro e w4 ⟨rfl, b4⟩
    have Q4 := Lib.hid (Q3.out.trans (b4.mono Q3.out.size))
    clear b4
    go_wp2_with fail
    refine (HFc.out w4).mono ?_
    rintro e w5 ⟨rfl, b5⟩
    have Q5 := Lib.hid (Q4.out.trans (b5.mono Q4.out.size))
    clear b5
    go_wp2_with fail
    refine (HOd.out w5).mono ?_
    rintro e w6 ⟨rfl, b6⟩
    have Q6 := Lib.hid (Q5.out.trans (b6.mono Q5.out.size))
    clear b6
    go_wp2_with fail
    refine (HFd.out w6).mono ?_
    rintro e w7 ⟨rfl, b7⟩
    have Q7 := Lib.hid (Q6.out.trans (b7.mono Q6.out.size))
    clear b7
    go_wp2
    go_ret
    exact ⟨rfl, Q7.out⟩
  · skip
    have kb1 : ((kb : Int) != (kb : Int)) = false := by simp
    have kb2 : (kb : Int) ≤ 20 := by omega
    go_enter Try.func6, Try.ntmps6
    go_wp2_with fail
    refine (HA.out w).mono ?_
    rintro e w1 ⟨rfl, b1⟩
    have Q1 := Lib.hid (b1)
    clear b1
    go_wp2_with fail
    refine (HLa.out w1).mono ?_
    rintro e w2 ⟨rfl, b2⟩
    have Q2 := Lib.hid (Q1.out.trans (b2.mono Q1.out.size))
    clear b2
    go_wp2_with fail
    refine (HLb.out w2).mono ?_
    rintro e w3 ⟨rfl, b3⟩
    have Q3 := Lib.hid (Q2.out.trans (b3.mono Q2.out.size))
    clear b3
    go_wp2_with fail
    refine (HOb.out w3).mono ?_
    rintro e w4 ⟨rfl, b4⟩
    have Q4 := Lib.hid (Q3.out.trans (b4.mono Q3.out.size))
    clear b4
    go_wp2_with fail
    refine (HIb.out w4).mono ?_
    rintro e w5 ⟨rfl, b5⟩
    have Q5 := Lib.hid (Q4.out.trans (b5.mono Q4.out.size))
    clear b5
    go_wp2_with fail
    refine (HOc.out w5).mono ?_
    rintro e w6 ⟨rfl, b6⟩
    have Q6 := Lib.hid (Q5.out.trans (b6.mono Q5.out.size))
    clear b6
    go_wp2_with fail
    refine (HOd.out w6).mono ?_
    rintro e w7 ⟨rfl, b7⟩
    have Q7 := Lib.hid (Q6.out.trans (b7.mono Q6.out.size))
    clear b7
    go_wp2
    go_ret
    exact ⟨rfl, Q7.out⟩
  · skip
    have kb1 : ((kb : Int) != (kb : Int)) = false := by simp
    have kb2 : (kb : Int) ≤ 20 := by omega
    go_enter Try.func6, Try.ntmps6
    go_wp2_with fail
    refine (HA.out w).mono ?_
    rintro e w1 ⟨rfl, b1⟩
    have Q1 := Lib.hid (b1)
    clear b1
    go_wp2_with fail
    refine (HLa.out w1).mono ?_
    rintro e w2 ⟨rfl, b2⟩
    have Q2 := Lib.hid (Q1.out.trans (b2.mono Q1.out.size))
    clear b2
    go_wp2_with fail
    refine (HLb.out w2).mono ?_
    rintro e w3 ⟨rfl, b3⟩
    have Q3 := Lib.hid (Q2.out.trans (b3.mono Q2.out.size))
    clear b3
    go_wp2_with fail
    refine (HOb.out w3).mono ?_
    rintro e w4 ⟨rfl, b4⟩
    have Q4 := Lib.hid (Q3.out.trans (b4.mono Q3.out.size))
    clear b4
    go_wp2_with fail
    refine (HIb.out w4).mono ?_
    rintro e w5 ⟨rfl, b5⟩
    have Q5 := Lib.hid (Q4.out.trans (b5.mono Q4.out.size))
    clear b5
    go_wp2_with fail
    refine (HOc.out w5).mono ?_
    rintro e w6 ⟨rfl, b6⟩
    have Q6 := Lib.hid (Q5.out.trans (b6.mono Q5.out.size))
    clear b6
    go_wp2_with fail
    refine (HOd.out w6).mono ?_
    rintro e w7 ⟨rfl, b7⟩
    have Q7 := Lib.hid (Q6.out.trans (b7.mono Q6.out.size))
    clear b7
    go_wp2_with fail
    refine (HFd.out w7).mono ?_
    rintro e w8 ⟨rfl, b8⟩
    have Q8 := Lib.hid (Q7.out.trans (b8.mono Q7.out.size))
    clear b8
    go_wp2
    go_ret
    exact ⟨rfl, Q8.out⟩
  · skip
    have kb1 : ((kb : Int) != (kb : Int)) = false := by simp
    have kb2 : (kb : Int) ≤ 20 := by omega
    go_enter Try.func6, Try.ntmps6
    go_wp2_with fail
    refine (HA.out w).mono ?_
    rintro e w1 ⟨rfl, b1⟩
    have Q1 := Lib.hid (b1)
    clear b1
    go_wp2_with fail
    refine (HLa.out w1).mono ?_
    rintro e w2 ⟨rfl, b2⟩
    have Q2 := Lib.hid (Q1.out.trans (b2.mono Q1.out.size))
    clear b2
    go_wp2_with fail
    refine (HLb.out w2).mono ?_
    rintro e w3 ⟨rfl, b3⟩
    have Q3 := Lib.hid (Q2.out.trans (b3.mono Q2.out.size))
    clear b3
    go_wp2_with fail
    refine (HOb.out w3).mono ?_
    rintro e w4 ⟨rfl, b4⟩
    have Q4 := Lib.hid (Q3.out.trans (b4.mono Q3.out.size))
    clear b4
    go_wp2_with fail
    refine (HIb.out w4).mono ?_
    rintro e w5 ⟨rfl, b5⟩
    have Q5 := Lib.hid (Q4.out.trans (b5.mono Q4.out.size))
    clear b5
    go_wp2_with fail
    refine (HOc.out w5).mono ?_
    rintro e w6 ⟨rfl, b6⟩
    have Q6 := Lib.hid (Q5.out.trans (b6.mono Q5.out.size))
    clear b6
    go_wp2_with fail
    refine (HFc.out w6).mono ?_
    rintro e w7 ⟨rfl, b7⟩
    have Q7 := Lib.hid (Q6.out.trans (b7.mono Q6.out.size))
    clear b7
    go_wp2_with fail
    refine (HOd.out w7).mono ?_
    rintro e w8 ⟨rfl, b8⟩
    have Q8 := Lib.hid (Q7.out.trans (b8.mono Q7.out.size))
    clear b8
    go_wp2
    go_ret
    exact ⟨rfl, Q8.out⟩
  · skip
    have kb1 : ((kb : Int) != (kb : Int)) = false := by simp
    have kb2 : (kb : Int) ≤ 20 := by omega
    go_enter Try.func6, Try.ntmps6
    go_wp2_with fail
    refine (HA.out w).mono ?_
    rintro e w1 ⟨rfl, b1⟩
    have Q1 := Lib.hid (b1)
    clear b1
    go_wp2_with fail
    refine (HLa.out w1).mono ?_
    rintro e w2 ⟨rfl, b2⟩
    have Q2 := Lib.hid (Q1.out.trans (b2.mono Q1.out.size))
    clear b2
    go_wp2_with fail
    refine (HLb.out w2).mono ?_
    rintro e w3 ⟨rfl, b3⟩
    have Q3 := Lib.hid (Q2.out.trans (b3.mono Q2.out.size))
    clear b3
    go_wp2_with fail
    refine (HOb.out w3).mono ?_
    rintro e w4 ⟨rfl, b4⟩
    have Q4 := Lib.hid (Q3.out.trans (b4.mono Q3.out.size))
    clear b4
    go_wp2_with fail
    refine (HIb.out w4).mono ?_
    rintro e w5 ⟨rfl, b5⟩
    have Q5 := Lib.hid (Q4.out.trans (b5.mono Q4.out.size))
    clear b5
    go_wp2_with fail
    refine (HOc.out w5).mono ?_
    rintro e w6 ⟨rfl, b6⟩
    have Q6 := Lib.hid (Q5.out.trans (b6.mono Q5.out.size))
    clear b6
    go_wp2_with fail
    refine (HFc.out w6).mono ?_
    rintro e w7 ⟨rfl, b7⟩
    have Q7 := Lib.hid (Q6.out.trans (b7.mono Q6.out.size))
    clear b7
    go_wp2_with fail
    refine (HOd.out w7).mono ?_
    rintro e w8 ⟨rfl, b8⟩
    have Q8 := Lib.hid (Q7.out.trans (b8.mono Q7.out.size))
    clear b8
    go_wp2_with fail
    refine (HFd.out w8).mono ?_
    rintro e w9 ⟨rfl, b9⟩
    have Q9 := Lib.hid (Q8.out.trans (b9.mono Q8.out.size))
    clear b9
    go_wp2
    go_ret
    exact ⟨rfl, Q9.out⟩
  · skip
    have ka1 : ((ka : Int) != (ka : Int)) = false := by simp
    have ka2 : (ka : Int) ≤ 20 := by omega
    go_enter Try.func6, Try.ntmps6
    go_wp2_with fail
    refine (HA.out w).mono ?_
    rintro e w1 ⟨rfl, b1⟩
    have Q1 := Lib.hid (b1)
    clear b1
    go_wp2_with fail
    refine (HLa.out w1).mono ?_
    rintro e w2 ⟨rfl, b2⟩
    have Q2 := Lib.hid (Q1.out.trans (b2.mono Q1.out.size))
    clear b2
    go_wp2_with fail
    refine (HOa.out w2).mono ?_
    rintro e w3 ⟨rfl, b3⟩
    have Q3 := Lib.hid (Q2.out.trans (b3.mono Q2.out.size))
    clear b3
    go_wp2_with fail
    refine (HIa.out w3).mono ?_
    rintro e w4 ⟨rfl, b4⟩
    have Q4 := Lib.hid (Q3.out.trans (b4.mono Q3.out.size))
    clear b4
    go_wp2_with fail
    refine (HLb.out w4).mono ?_
    rintro e w5 ⟨rfl, b5⟩
    have Q5 := Lib.hid (Q4.out.trans (b5.mono Q4.out.size))
    clear b5
    go_wp2_with fail
    refine (HOc.out w5).mono ?_
    rintro e w6 ⟨rfl, b6⟩
    have Q6 := Lib.hid (Q5.out.trans (b6.mono Q5.out.size))
    clear b6
    go_wp2_with fail
    refine (HOd.out w6).mono ?_
    rintro e w7 ⟨rfl, b7⟩
    have Q7 := Lib.hid (Q6.out.trans (b7.mono Q6.out.size))
    clear b7
    go_wp2
    go_ret
    exact ⟨rfl, Q7.out⟩
  · skip
    have ka1 : ((ka : Int) != (ka : Int)) = false := by simp
    have ka2 : (ka : Int) ≤ 20 := by omega
    go_enter Try.func6, Try.ntmps6
    go_wp2_with fail
    refine (HA.out w).mono ?_
    rintro e w1 ⟨rfl, b1⟩
    have Q1 := Lib.hid (b1)
    clear b1
    go_wp2_with fail
    refine (HLa.out w1).mono ?_
    rintro e w2 ⟨rfl, b2⟩
    have Q2 := Lib.hid (Q1.out.trans (b2.mono Q1.out.size))
    clear b2
    go_wp2_with fail
    refine (HOa.out w2).mono ?_
    rintro e w3 ⟨rfl, b3⟩
    have Q3 := Lib.hid (Q2.out.trans (b3.mono Q2.out.size))
    clear b3
    go_wp2_with fail
    refine (HIa.out w3).mono ?_
    rintro e w4 ⟨rfl, b4⟩
    have Q4 := Lib.hid (Q3.out.trans (b4.mono Q3.out.size))
    clear b4
    go_wp2_with fail
    refine (HLb.out w4).mono ?_
    rintro e w5 ⟨rfl, b5⟩
    have Q5 := Lib.hid (Q4.out.trans (b5.mono Q4.out.size))
    clear b5
    go_wp2_with fail
    refine (HOc.out w5).mono ?_
    rintro e w6 ⟨rfl, b6⟩
    have Q6 := Lib.hid (Q5.out.trans (b6.mono Q5.out.size))
    clear b6
    go_wp2_with fail
    refine (HOd.out w6).mono ?_
    rintro e w7 ⟨rfl, b7⟩
    have Q7 := Lib.hid (Q6.out.trans (b7.mono Q6.out.size))
    clear b7
    go_wp2_with fail
    refine (HFd.out w7).mono ?_
    rintro e w8 ⟨rfl, b8⟩
    have Q8 := Lib.hid (Q7.out.trans (b8.mono Q7.out.size))
    clear b8
    go_wp2
    go_ret
    exact ⟨rfl, Q8.out⟩
  · skip
    have ka1 : ((ka : Int) != (ka : Int)) = false := by simp
    have ka2 : (ka : Int) ≤ 20 := by omega
    go_enter Try.func6, Try.ntmps6
    go_wp2_with fail
    refine (HA.out w).mono ?_
    rintro e w1 ⟨rfl, b1⟩
    have Q1 := Lib.hid (b1)
    clear b1
    go_wp2_with fail
    refine (HLa.out w1).mono ?_
    rintro e w2 ⟨rfl, b2⟩
    have Q2 := Lib.hid (Q1.out.trans (b2.mono Q1.out.size))
    clear b2
    go_wp2_with fail
    refine (HOa.out w2).mono ?_
    rintro e w3 ⟨rfl, b3⟩
    have Q3 := Lib.hid (Q2.out.trans (b3.mono Q2.out.size))
    clear b3
    go_wp2_with fail
    refine (HIa.out w3).mono ?_
    rintro e w4 ⟨rfl, b4⟩
    have Q4 := Lib.hid (Q3.out.trans (b4.mono Q3.out.size))
    clear b4
    go_wp2_with fail
    refine (HLb.out w4).mono ?_
    rintro e w5 ⟨rfl, b5⟩
    have Q5 := Lib.hid (Q4.out.trans (b5.mono Q4.out.size))
    clear b5
    go_wp2_with fail
    refine (HOc.out w5).mono ?_
    rintro e w6 ⟨rfl, b6⟩
    have Q6 := Lib.hid (Q5.out.trans (b6.mono Q5.out.size))
    clear b6
    go_wp2_with fail
    refine (HFc.out w6).mono ?_
    rintro e w7 ⟨rfl, b7⟩
    have Q7 := Lib.hid (Q6.out.trans (b7.mono Q6.out.size))
    clear b7
    go_wp2_with fail
    refine (HOd.out w7).mono ?_
    rintro e w8 ⟨rfl, b8⟩
    have Q8 := Lib.hid (Q7.out.trans (b8.mono Q7.out.size))
    clear b8
    go_wp2
    go_ret
    exact ⟨rfl, Q8.out⟩
  · skip
    have ka1 : ((ka : Int) != (ka : Int)) = false := by simp
    have ka2 : (ka : Int) ≤ 20 := by omega
    go_enter Try.func6, Try.ntmps6
    go_wp2_with fail
    refine (HA.out w).mono ?_
    rintro e w1 ⟨rfl, b1⟩
    have Q1 := Lib.hid (b1)
    clear b1
    go_wp2_with fail
    refine (HLa.out w1).mono ?_
    rintro e w2 ⟨rfl, b2⟩
    have Q2 := Lib.hid (Q1.out.trans (b2.mono Q1.out.size))
    clear b2
    go_wp2_with fail
    refine (HOa.out w2).mono ?_
    rintro e w3 ⟨rfl, b3⟩
    have Q3 := Lib.hid (Q2.out.trans (b3.mono Q2.out.size))
    clear b3
    go_wp2_with fail
    refine (HIa.out w3).mono ?_
    rintro e w4 ⟨rfl, b4⟩
    have Q4 := Lib.hid (Q3.out.trans (b4.mono Q3.out.size))
    clear b4
    go_wp2_with fail
    refine (HLb.out w4).mono ?_
    rintro e w5 ⟨rfl, b5⟩
    have Q5 := Lib.hid (Q4.out.trans (b5.mono Q4.out.size))
    clear b5
    go_wp2_with fail
    refine (HOc.out w5).mono ?_
    rintro e w6 ⟨rfl, b6⟩
    have Q6 := Lib.hid (Q5.out.trans (b6.mono Q5.out.size))
    clear b6
    go_wp2_with fail
    refine (HFc.out w6).mono ?_
    rintro e w7 ⟨rfl, b7⟩
    have Q7 := Lib.hid (Q6.out.trans (b7.mono Q6.out.size))
    clear b7
    go_wp2_with fail
    refine (HOd.out w7).mono ?_
    rintro e w8 ⟨rfl, b8⟩
    have Q8 := Lib.hid (Q7.out.trans (b8.mono Q7.out.size))
    clear b8
    go_wp2_with fail
    refine (HFd.out w8).mono ?_
    rintro e w9 ⟨rfl, b9⟩
    have Q9 := Lib.hid (Q8.out.trans (b9.mono Q8.out.size))
    clear b9
    go_wp2
    go_ret
    exact ⟨rfl, Q9.out⟩
  · skip
    have ka1 : ((ka : Int) != (ka : Int)) = false := by simp
    have ka2 : (ka : Int) ≤ 20 := by omega
    have kb1 : ((kb : Int) != (kb : Int)) = false := by simp
    have kb2 : (kb : Int) ≤ 20 := by omega
    go_enter Try.func6, Try.ntmps6
    go_wp2_with fail
    refine (HA.out w).mono ?_
    rintro e w1 ⟨rfl, b1⟩
    have Q1 := Lib.hid (b1)
    clear b1
    go_wp2_with fail
    refine (HLa.out w1).mono ?_
    rintro e w2 ⟨rfl, b2⟩
    have Q2 := Lib.hid (Q1.out.trans (b2.mono Q1.out.size))
    clear b2
    go_wp2_with fail
    refine (HOa.out w2).mono ?_
    rintro e w3 ⟨rfl, b3⟩
    have Q3 := Lib.hid (Q2.out.trans (b3.mono Q2.out.size))
    clear b3
    go_wp2_with fail
    refine (HIa.out w3).mono ?_
    rintro e w4 ⟨rfl, b4⟩
    have Q4 := Lib.hid (Q3.out.trans (b4.mono Q3.out.size))
    clear b4
    go_wp2_with fail
    refine (HLb.out w4).mono ?_
    rintro e w5 ⟨rfl, b5⟩
    have Q5 := Lib.hid (Q4.out.trans (b5.mono Q4.out.size))
    clear b5
    go_wp2_with fail
    refine (HOb.out w5).mono ?_
    rintro e w6 ⟨rfl, b6⟩
    have Q6 := Lib.hid (Q5.out.trans (b6.mono Q5.out.size))
    clear b6
    go_wp2_with fail
    refine (HIb.out w6).mono ?_
    rintro e w7 ⟨rfl, b7⟩
    have Q7 := Lib.hid (Q6.out.trans (b7.mono Q6.out.size))
    clear b7
    go_wp2_with fail
    refine (HOc.out w7).mono ?_
    rintro e w8 ⟨rfl, b8⟩
    have Q8 := Lib.hid (Q7.out.trans (b8.mono Q7.out.size))
    clear b8
    go_wp2_with fail
    refine (HOd.out w8).mono ?_
    rintro e w9 ⟨rfl, b9⟩
    have Q9 := Lib.hid (Q8.out.trans (b9.mono Q8.out.size))
    clear b9
    go_wp2
    go_ret
    exact ⟨rfl, Q9.out⟩
  · skip
    have ka1 : ((ka : Int) != (ka : Int)) = false := by simp
    have ka2 : (ka : Int) ≤ 20 := by omega
    have kb1 : ((kb : Int) != (kb : Int)) = false := by simp
    have kb2 : (kb : Int) ≤ 20 := by omega
    go_enter Try.func6, Try.ntmps6
    go_wp2_with fail
    refine (HA.out w).mono ?_
    rintro e w1 ⟨rfl, b1⟩
    have Q1 := Lib.hid (b1)
    clear b1
    go_wp2_with fail
    refine (HLa.out w1).mono ?_
    rintro e w2 ⟨rfl, b2⟩
    have Q2 := Lib.hid (Q1.out.trans (b2.mono Q1.out.size))
    clear b2
    go_wp2_with fail
    refine (HOa.out w2).mono ?_
    rintro e w3 ⟨rfl, b3⟩
    have Q3 := Lib.hid (Q2.out.trans (b3.mono Q2.out.size))
    clear b3
    go_wp2_with fail
    refine (HIa.out w3).mono ?_
    rintro e w4 ⟨rfl, b4⟩
    have Q4 := Lib.hid (Q3.out.trans (b4.mono Q3.out.size))
    clear b4
    go_wp2_with fail
    refine (HLb.out w4).mono ?_
    rintro e w5 ⟨rfl, b5⟩
    have Q5 := Lib.hid (Q4.out.trans (b5.mono Q4.out.size))
    clear b5
    go_wp2_with fail
    refine (HOb.out w5).mono ?_
    rintro e w6 ⟨rfl, b6⟩
    have Q6 := Lib.hid (Q5.out.trans (b6.mono Q5.out.size))
    clear b6
    go_wp2_with fail
    refine (HIb.out w6).mono ?_
    rintro e w7 ⟨rfl, b7⟩
    have Q7 := Lib.hid (Q6.out.trans (b7.mono Q6.out.size))
    clear b7
    go_wp2_with fail
    refine (HOc.out w7).mono ?_
    rintro e w8 ⟨rfl, b8⟩
    have Q8 := Lib.hid (Q7.out.trans (b8.mono Q7.out.size))
    clear b8
    go_wp2_with fail
    refine (HOd.out w8).mono ?_
    rintro e w9 ⟨rfl, b9⟩
    have Q9 := Lib.hid (Q8.out.trans (b9.mono Q8.out.size))
    clear b9
    go_wp2_with fail
    refine (HFd.out w9).mono ?_
    rintro e w10 ⟨rfl, b10⟩
    have Q10 := Lib.hid (Q9.out.trans (b10.mono Q9.out.size))
    clear b10
    go_wp2
    go_ret
    exact ⟨rfl, Q10.out⟩
  · skip
    have ka1 : ((ka : Int) != (ka : Int)) = false := by simp
    have ka2 : (ka : Int) ≤ 20 := by omega
    have kb1 : ((kb : Int) != (kb : Int)) = false := by simp
    have kb2 : (kb : Int) ≤ 20 := by omega
    go_enter Try.func6, Try.ntmps6
    go_wp2_with fail
    refine (HA.out w).mono ?_
    rintro e w1 ⟨rfl, b1⟩
    have Q1 := Lib.hid (b1)
    clear b1
    go_wp2_with fail
    refine (HLa.out w1).mono ?_
    rintro e w2 ⟨rfl, b2⟩
    have Q2 := Lib.hid (Q1.out.trans (b2.mono Q1.out.size))
    clear b2
    go_wp2_with fail
    refine (HOa.out w2).mono ?_
    rintro e w3 ⟨rfl, b3⟩
    have Q3 := Lib.hid (Q2.out.trans (b3.mono Q2.out.size))
    clear b3
    go_wp2_with fail
    refine (HIa.out w3).mono ?_
    rintro e w4 ⟨rfl, b4⟩
    have Q4 := Lib.hid (Q3.out.trans (b4.mono Q3.out.size))
    clear b4
    go_wp2_with fail
    refine (HLb.out w4).mono ?_
    rintro e w5 ⟨rfl, b5⟩
    have Q5 := Lib.hid (Q4.out.trans (b5.mono Q4.out.size))
    clear b5
    go_wp2_with fail
    refine (HOb.out w5).mono ?_
    rintro e w6 ⟨rfl, b6⟩
    have Q6 := Lib.hid (Q5.out.trans (b6.mono Q5.out.size))
    clear b6
    go_wp2_with fail
    refine (HIb.out w6).mono ?_
    rintro e w7 ⟨rfl, b7⟩
    have Q7 := Lib.hid (Q6.out.trans (b7.mono Q6.out.size))
    clear b7
    go_wp2_with fail
    refine (HOc.out w7).mono ?_
    rintro e w8 ⟨rfl, b8⟩
    have Q8 := Lib.hid (Q7.out.trans (b8.mono Q7.out.size))
    clear b8
    go_wp2_with fail
    refine (HFc.out w8).mono ?_
    rintro e w9 ⟨rfl, b9⟩
    have Q9 := Lib.hid (Q8.out.trans (b9.mono Q8.out.size))
    clear b9
    go_wp2_with fail
    refine (HOd.out w9).mono ?_
    rintro e w10 ⟨rfl, b10⟩
    have Q10 := Lib.hid (Q9.out.trans (b10.mono Q9.out.size))
    clear b10
    go_wp2
    go_ret
    exact ⟨rfl, Q10.out⟩
  · skip
    have ka1 : ((ka : Int) != (ka : Int)) = false := by simp
    have ka2 : (ka : Int) ≤ 20 := by omega
    have kb1 : ((kb : Int) != (kb : Int)) = false := by simp
    have kb2 : (kb : Int) ≤ 20 := by omega
    go_enter Try.func6, Try.ntmps6
    go_wp2_with fail
    refine (HA.out w).mono ?_
    rintro e w1 ⟨rfl, b1⟩
    have Q1 := Lib.hid (b1)
    clear b1
    go_wp2_with fail
    refine (HLa.out w1).mono ?_
    rintro e w2 ⟨rfl, b2⟩
    have Q2 := Lib.hid (Q1.out.trans (b2.mono Q1.out.size))
    clear b2
    go_wp2_with fail
    refine (HOa.out w2).mono ?_
    rintro e w3 ⟨rfl, b3⟩
    have Q3 := Lib.hid (Q2.out.trans (b3.mono Q2.out.size))
    clear b3
    go_wp2_with fail
    refine (HIa.out w3).mono ?_
    rintro e w4 ⟨rfl, b4⟩
    have Q4 := Lib.hid (Q3.out.trans (b4.mono Q3.out.size))
    clear b4
    go_wp2_with fail
    refine (HLb.out w4).mono ?_
    rintro e w5 ⟨rfl, b5⟩
    have Q5 := Lib.hid (Q4.out.trans (b5.mono Q4.out.size))
    clear b5
    go_wp2_with fail
    refine (HOb.out w5).mono ?_
    rintro e w6 ⟨rfl, b6⟩
    have Q6 := Lib.hid (Q5.out.trans (b6.mono Q5.out.size))
    clear b6
    go_wp2_with fail
    refine (HIb.out w6).mono ?_
    rintro e w7 ⟨rfl, b7⟩
    have Q7 := Lib.hid (Q6.out.trans (b7.mono Q6.out.size))
    clear b7
    go_wp2_with fail
    refine (HOc.out w7).mono ?_
    rintro e w8 ⟨rfl, b8⟩
    have Q8 := Lib.hid (Q7.out.trans (b8.mono Q7.out.size))
    clear b8
    go_wp2_with fail
    refine (HFc.out w8).mono ?_
    rintro e w9 ⟨rfl, b9⟩
    have Q9 := Lib.hid (Q8.out.trans (b9.mono Q8.out.size))
    clear b9
    go_wp2_with fail
    refine (HOd.out w9).mono ?_
    rintro e w10 ⟨rfl, b10⟩
    have Q10 := Lib.hid (Q9.out.trans (b10.mono Q9.out.size))
    clear b10
    go_wp2_with fail
    refine (HFd.out w10).mono ?_
    rintro e w11 ⟨rfl, b11⟩
    have Q11 := Lib.hid (Q10.out.trans (b11.mono Q10.out.size))
    clear b11
    go_wp2
    go_ret
    exact ⟨rfl, Q11.out⟩
-- LAW
set_option maxRecDepth 100000 in
theorem back9_law_lifted (os : Os) (started : os.Started) (H : Type) (enc : TypeId × Value → H) :
    ReturnsInHanded {} Try.checked os 6 .any (Rows.reachBackSpec.pre6 enc Try.prog Try.f6 Rows.reachBackRow.domain false) (Rows.reachBackSpec.post enc Try.prog Try.f6 false true false false) := by
  refine returnsInHanded_of_change (C := Try.checked) own started (by kernel_rfl) Try.func6
    (ChangeSpec.witness6 (enc := enc) (C := Try.checked) false ⟨#[], #[.int .i64 0, .int .i64 0, .int .i64 0], []⟩ 8 (by kernel_rfl) (by kernel_rfl) (by kernel_rfl) (by kernel_rfl)) ?_
  intro W base args ds gs before hval0 hW _ _
  have hval : ∀ (j : Nat) t v, Try.f6.params[j]? = some t → args[j]? = some v → Value.okWide Try.prog W .any base t v := hval0
  have hW' := hW
  obtain ⟨p, q, hA0, hV, rfl, _, _⟩ := hW
  have hA : DataW.TrodAll enc Try.prog W 0 (fun _ => true) true Try.f6.params.toList args.toList ds p := hA0
  rw [Try.params6] at hA hval
  obtain ⟨v0, vs0, d0, ds0, p0, q0, hargs, rfl, rfl, h0, r0⟩ := trodAll_cons hA
  obtain ⟨v1, vs1, d1, ds1, p1, q1, rfl, rfl, rfl, h1, r1⟩ := trodAll_cons r0
  obtain ⟨v2, vs2, d2, ds2, p2, q2, rfl, rfl, rfl, h2, r2⟩ := trodAll_cons r1
  obtain ⟨rfl, rfl, rfl⟩ := trodAll_nil r2
  obtain rfl : args = #[v0, v1, v2] := by cases args; simp_all
  obtain ⟨rfl, rfl⟩ := trodVars_none hV
  have k0 := h0
  have lt0 : ∀ x ∈ p0, x.block < W.heap.size := by obtain ⟨m, hm⟩ := k0; exact DataW.trod_lt m _ _ _ hm
  obtain ⟨a0, rfl, rfl, rfl, w0⟩ := open_int Try.underlying3 (hval 0 3 v0 rfl rfl) h0
  have u0 := wf_i64_range w0
  have k1 := h1
  have lt1 : ∀ x ∈ p1, x.block < W.heap.size := by obtain ⟨m, hm⟩ := k1; exact DataW.trod_lt m _ _ _ hm
  obtain ⟨a1, rfl, rfl, rfl, w1⟩ := open_int Try.underlying3 (hval 1 3 v1 rfl rfl) h1
  have u1 := wf_i64_range w1
  have k2 := h2
  have lt2 : ∀ x ∈ p2, x.block < W.heap.size := by obtain ⟨m, hm⟩ := k2; exact DataW.trod_lt m _ _ _ hm
  obtain ⟨a2, rfl, rfl, rfl, w2⟩ := open_int Try.underlying3 (hval 2 3 v2 rfl rfl) h2
  have u2 := wf_i64_range w2
  clear hA0 hval0
  refine (back9_law a0 a1 a2 W u0.1 u0.2 u1.1 u1.2 u2.1 u2.2).mono fun e W' ⟨he, bel⟩ => ?_
  subst he
  exact ⟨_, rfl, _, _, _, [], _, [], hW', trodAll_mk1 (shut_bool Try.underlying4 _), (trodAll_cons_mk (Below.trod laidOut (by kernel_rfl) (of_decide_eq_true (by kernel_rfl)) k0 bel lt0) (trodAll_cons_mk (Below.trod laidOut (by kernel_rfl) (of_decide_eq_true (by kernel_rfl)) k1 bel lt1) (trodAll_cons_mk (Below.trod laidOut (by kernel_rfl) (of_decide_eq_true (by kernel_rfl)) k2 bel lt2) trodAll_mk0))), rfl, bel.frame _, fun h => by cases h⟩
theorem back9_law_holds : Rows.ReachBackSaid :=
  OpenClaim.holds_of_wide 6 Try.f6 rfl rfl rfl rfl rfl rfl rfl ⟨rfl, rfl, rfl, rfl, rfl⟩ rfl rfl rfl rfl rfl (by kernel_rfl) Try.func6 (by kernel_rfl)
    (of_decide_eq_true (by kernel_rfl)) (by unfold Func.isWrapper; first | (rw [if_pos (by decide +kernel)]; kernel_rfl) | (rw [if_neg (by decide +kernel)]; exact ⟨rfl, rfl⟩))
    (fun os started H enc _ => back9_law_lifted os started H enc)
#print axioms back9_law_holds
end Go.Proofs.Ytdecacajignkoaa
