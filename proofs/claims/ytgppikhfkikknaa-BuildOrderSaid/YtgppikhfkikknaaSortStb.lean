/-
  A stable sort: the whole of it.
-/
import Derived.Test.YtgppikhfkikknaaSortMr3
namespace Go.Proofs.Ytgppikhfkikknaa
open Go.RowKit
theorem mrg_all (l : List Int) (B g N c : Nat) (hF : FrqOk l) (hN : N ≤ 400) : ∀ d, MrgOk l B g N c d
  | 0 => fun w f a m b hd ham hmb => by omega
  | d + 1 => fun w f a m b hd ham hmb hb hr hC hM hS h1 h2 => by
    by_cases e1 : m = a + 1
    · subst e1; exact mrg_first l B g N c hF hN w f a b hmb hb hr hC hM hS h2
    · by_cases e2 : b = m + 1
      · subst e2; exact mrg_last l B g N c hF hN w f a m (by omega) hb hr hC hM hS h1
      · exact mrg_mid l B g N c d hF hN (mrg_all l B g N c hF hN d) w f a m b hd (by omega) (by omega) hb hr hC hM hS h1 h2
theorem merge_any (l : List Int) (B g N c : Nat) (hF : FrqOk l) (hN : N ≤ 400) (w : World) (f : Nat → Nat) (a m b : Nat) (ham : a < m) (hmb : m < b) (hb : b ≤ N) (hr : RowZ w g N f) (hC : CmpF w B g l) (hM : ∀ t, t < N → f t < l.length) (hS : St (freqN l) f N) (h1 : Rs (freqN l) f a m) (h2 : Rs (freqN l) f m b) :
    Calls Try.prog 40 #[.slice (some ⟨g, 0, none⟩) N c, .int .i64 (a : Int), .int .i64 (m : Int), .int .i64 (b : Int), .func (.func 25) #[] #[.pointer (some ⟨B, 0, none⟩)]] w fun e w' => e = .returned (.tuple #[]) ∧ Below g w w' ∧ ∃ f', RowZ w' g N f' ∧ Same f f' a b ∧ Rs (freqN l) f' a b :=
  mrg_all l B g N c hF hN (b - a) w f a m b (Nat.le_refl _) ham hmb hb hr hC hM hS h1 h2
set_option maxRecDepth 100000 in
set_option maxHeartbeats 8000000 in
theorem stab_any (w : World) (g N c : Nat) (f : Nat → Nat) (hr : RowZ w g N f) (B : Nat) (l : List Int) (hC : CmpF w B g l) (hF : FrqOk l) (hM : ∀ t, t < N → f t < l.length) (hS : St (freqN l) f N) (hN : N ≤ 400) :
    Calls Try.prog 33 #[.slice (some ⟨g, 0, none⟩) N c, .int .i64 (N : Int), .func (.func 25) #[] #[.pointer (some ⟨B, 0, none⟩)]] w fun e w' => e = .returned (.tuple #[]) ∧ Below g w w' ∧ ∃ f', RowZ w' g N f' ∧ Same f f' 0 N ∧ Rs (freqN l) f' 0 N := by
  have HR := Lib.hid hr; have HC := Lib.hid hC; have HM := Lib.hid hM; have HS := Lib.hid hS; have HF := Lib.hid hF
  clear hr hC hM hS hF
  go_enter Try.func33, Try.ntmps33
  go_wp2
  go_loopw [7, 8] (fun va vb wr => ∃ (A E : Nat) (h : Nat → Nat), A ≤ N ∧ E = A + 20 ∧ va = .int .i64 (A : Int) ∧ vb = .int .i64 (E : Int) ∧ Below g w wr ∧ RowZ wr g N h ∧ Hid (∃ k, A = k * 20 ∧ Same f h 0 N ∧ St (freqN l) h N ∧ ∀ u, u < k → Rs (freqN l) h (u * 20) (u * 20 + 20))) (fun va _ _ => N - (intOf va).toNat)
  case atStart => exact ⟨0, 20, f, Nat.zero_le _, rfl, rfl, rfl, Below.refl _ _, HR.out, Lib.hid ⟨0, rfl, Same.refl _ _ _, HS.out, fun u hu => absurd hu (by omega)⟩⟩
  case round =>
    obtain ⟨A, E, h, hAN, hE, rfl, rfl, hbl, hrow, HI⟩ := hrel
    have HB := Lib.hid hbl; have HROW := Lib.hid hrow; have HE := Lib.hid hE
    clear hbl hrow
    by_cases hlt : E ≤ N
    · have hlti : (E : Int) ≤ (N : Int) := by omega
      have hAE : A ≤ E := by omega
      clear hE
      go_wp2_with (go_at_call 39; refine (inss_any _ g N c h HROW.out B l (HC.out.below HB.out) HF.out (by obtain ⟨k, q1, q2, q3, q4⟩ := HI.out; exact q2.lt (Nat.le_refl _) HM.out) (by obtain ⟨k, q1, q2, q3, q4⟩ := HI.out; exact q3) A E hAE hlt hN).mono ?_; rintro e w1 ⟨rfl, hb1, f1, hr1, hs1, ho1⟩; have HB1 := Lib.hid hb1; have HR1 := Lib.hid hr1; have HS1 := Lib.hid hs1; have HO1 := Lib.hid ho1; clear hb1 hr1 hs1 ho1)
      go_roundw
      case rel =>
        refine ⟨E, E + 20, f1, hlt, rfl, rfl, by go_num, HB.out.trans HB1.out, HR1.out, Lib.hid ?_⟩
        obtain ⟨k, q1, q2, q3, q4⟩ := HI.out
        have hE := HE.out
        refine ⟨k + 1, by omega, q2.trans (HS1.out.wide (Nat.zero_le _) hlt), q3.keep HS1.out HO1.out hlt, fun u hu => ?_⟩
        by_cases e : u = k
        · subst e; rw [← q1, ← hE]; exact HO1.out
        · exact (q4 u (by omega)).keep HS1.out (.inl (by omega))
      case measure => have := HE.out; simp [intOf]; omega
    · have hlti : ¬ (E : Int) ≤ (N : Int) := by omega
      clear hE
      go_wp2_with (go_at_call 39; refine (inss_any _ g N c h HROW.out B l (HC.out.below HB.out) HF.out (by obtain ⟨k, q1, q2, q3, q4⟩ := HI.out; exact q2.lt (Nat.le_refl _) HM.out) (by obtain ⟨k, q1, q2, q3, q4⟩ := HI.out; exact q3) A N hAN (Nat.le_refl _) hN).mono ?_; rintro e w1 ⟨rfl, hb1, f1, hr1, hs1, ho1⟩; have HB1 := Lib.hid hb1; have HR1 := Lib.hid hr1; have HS1 := Lib.hid hs1; have HO1 := Lib.hid ho1; clear hb1 hr1 hs1 ho1)
      have HP : Hid (Same f f1 0 N ∧ St (freqN l) f1 N ∧ Ch (freqN l) f1 20 N) := by
        obtain ⟨k, q1, q2, q3, q4⟩ := HI.out
        have hE := HE.out
        exact ⟨q2.trans (HS1.out.wide (Nat.zero_le _) (Nat.le_refl _)), q3.keep HS1.out HO1.out (Nat.le_refl _), ch_pass q1 (fun u hu => (q4 u hu).keep HS1.out (.inl (by omega))) HO1.out (by omega)⟩
      have HB2 := Lib.hid (HB.out.trans HB1.out)
      clear HB HROW HI HS1 HO1 HB1 HE hlti hlt hAN
      go_loopw [6, 7, 8, 9] (fun vs _ _ _ wr => ∃ (S : Nat) (h : Nat → Nat), 0 < S ∧ S ≤ 800 ∧ vs = .int .i64 (S : Int) ∧ Below g w wr ∧ RowZ wr g N h ∧ Hid (Same f h 0 N ∧ St (freqN l) h N ∧ Ch (freqN l) h S N)) (fun vs _ _ _ _ => N - (intOf vs).toNat)
      case atStart => exact ⟨20, f1, by omega, by omega, rfl, HB2.out, HR1.out, HP⟩
      case round =>
        clear HP HR1 HB2
        obtain ⟨S, h, hS0, hS8, rfl, hbl, hrow, HI⟩ := hrel
        have HB := Lib.hid hbl; have HROW := Lib.hid hrow
        clear hbl hrow
        by_cases hlt : S < N
        · have hlti : (S : Int) < (N : Int) := by omega
          obtain ⟨D, hD⟩ : ∃ D, D = 2 * S := ⟨_, rfl⟩
          have eD : 2 * (S : Int) = (D : Int) := by omega
          have eD2 : (S : Int) * 2 = (D : Int) := by omega
          have hD8 : D ≤ 800 := by omega
          have HD := Lib.hid hD
          clear hD
          go_wp2
          go_loopw [7, 8] (fun va vb wq => ∃ (A E : Nat) (k : Nat → Nat), A ≤ N ∧ E ≤ 1600 ∧ va = .int .i64 (A : Int) ∧ vb = .int .i64 (E : Int) ∧ Below g w wq ∧ RowZ wq g N k ∧ Hid (E = A + D ∧ ∃ n, A = n * D ∧ Same f k 0 N ∧ St (freqN l) k N ∧ (∀ u, u < n → Rs (freqN l) k (u * D) (u * D + D)) ∧ ∀ u, 2 * n ≤ u → Rs (freqN l) k (u * S) (min (u * S + S) N))) (fun va _ _ => N - (intOf va).toNat)
          case atStart => exact ⟨0, D, h, Nat.zero_le _, by omega, rfl, rfl, HB.out, HROW.out, Lib.hid ⟨by omega, 0, by simp, HI.out.1, HI.out.2.1, fun u hu => absurd hu (by omega), fun u _ => HI.out.2.2 u⟩⟩
          case round =>
            clear HI HB HROW
            obtain ⟨A, E, k, hAN, hE8, rfl, rfl, hbl, hrow, HI⟩ := hrel
            have HB := Lib.hid hbl; have HROW := Lib.hid hrow
            clear hbl hrow
            obtain ⟨M, hM⟩ : ∃ M, M = A + S := ⟨_, rfl⟩
            have eM : (A : Int) + (S : Int) = (M : Int) := by omega
            have hAM : A < M := by omega
            have HMM := Lib.hid hM
            have HLO : Hid (∀ n, A = n * D → ∀ (q : Nat → Nat), (∀ u, 2 * n ≤ u → Rs (freqN l) q (u * S) (min (u * S + S) N)) → Rs (freqN l) q A (min M N) ∧ Rs (freqN l) q M (min (M + S) N)) := fun n hn q hq => by
              have e1 : 2 * n * S = A := by rw [hn, HD.out, Nat.mul_comm 2 n, Nat.mul_assoc]
              have h1 := hq (2 * n) (Nat.le_refl _)
              have h2 := hq (2 * n + 1) (by omega)
              rw [Nat.add_mul, Nat.one_mul, e1] at h2
              rw [e1] at h1
              rw [hM]
              exact ⟨h1, h2⟩
            clear hM
            by_cases hle : E ≤ N
            · have hlei : (E : Int) ≤ (N : Int) := by omega
              have hME : M < E := by have := HI.out.1; have := HMM.out; have := HD.out; omega
              go_wp2_with (go_at_call 40; refine (merge_any l B g N c HF.out hN _ k A M E hAM hME hle HROW.out (HC.out.below HB.out) (by obtain ⟨_, n, q1, q2, q3, q4, q5⟩ := HI.out; exact q2.lt (Nat.le_refl _) HM.out) (by obtain ⟨_, n, q1, q2, q3, q4, q5⟩ := HI.out; exact q3)
                (by obtain ⟨_, n, q1, q2, q3, q4, q5⟩ := HI.out; exact (HLO.out n q1 k q5).1.part (Nat.le_refl _) (by omega)) (by obtain ⟨q0, n, q1, q2, q3, q4, q5⟩ := HI.out; exact (HLO.out n q1 k q5).2.part (Nat.le_refl _) (by have := HMM.out; have := HD.out; omega))).mono ?_; rintro e w1 ⟨rfl, hb1, f1, hr1, hs1, ho1⟩; have HB1 := Lib.hid hb1; have HR1 := Lib.hid hr1; have HS1 := Lib.hid hs1; have HO1 := Lib.hid ho1; clear hb1 hr1 hs1 ho1)
              go_roundw
              case rel =>
                refine ⟨E, E + D, f1, hle, by omega, rfl, by go_num, HB.out.trans HB1.out, HR1.out, Lib.hid ⟨rfl, ?_⟩⟩
                obtain ⟨q0, n, q1, q2, q3, q4, q5⟩ := HI.out
                have hmu : (n + 1) * D = n * D + D := by rw [Nat.add_mul, Nat.one_mul]
                refine ⟨n + 1, by omega, q2.trans (HS1.out.wide (Nat.zero_le _) hle), q3.keep HS1.out HO1.out hle, fun u hu => ?_, fun u hu => (q5 u (by omega)).keep HS1.out (.inr ?_)⟩
                · by_cases e : u = n
                  · subst e; rw [← q1, ← q0]; exact HO1.out
                  · exact (q4 u (by omega)).keep HS1.out (.inl (by have := mul_step (S := D) (show u < n by omega); omega))
                · have h1 : (2 * (n + 1)) * S ≤ u * S := Nat.mul_le_mul_right _ hu
                  have h2 : (2 * (n + 1)) * S = (n + 1) * D := by rw [HD.out, Nat.mul_comm 2 (n + 1), Nat.mul_assoc]
                  omega
              case measure => have := HI.out.1; simp [intOf]; omega
            · have hlei : ¬ (E : Int) ≤ (N : Int) := by omega
              by_cases hMN : M < N
              · have hMNi : (M : Int) < (N : Int) := by omega
                go_wp2_with (go_at_call 40; refine (merge_any l B g N c HF.out hN _ k A M N hAM hMN (Nat.le_refl _) HROW.out (HC.out.below HB.out) (by obtain ⟨_, n, q1, q2, q3, q4, q5⟩ := HI.out; exact q2.lt (Nat.le_refl _) HM.out) (by obtain ⟨_, n, q1, q2, q3, q4, q5⟩ := HI.out; exact q3)
                  (by obtain ⟨_, n, q1, q2, q3, q4, q5⟩ := HI.out; exact (HLO.out n q1 k q5).1.part (Nat.le_refl _) (by omega)) (by obtain ⟨q0, n, q1, q2, q3, q4, q5⟩ := HI.out; exact (HLO.out n q1 k q5).2.part (Nat.le_refl _) (by have := HMM.out; have := HD.out; omega))).mono ?_; rintro e w1 ⟨rfl, hb1, f1, hr1, hs1, ho1⟩; have HB1 := Lib.hid hb1; have HR1 := Lib.hid hr1; have HS1 := Lib.hid hs1; have HO1 := Lib.hid ho1; clear hb1 hr1 hs1 ho1)
                go_roundw
                case rel =>
                  refine ⟨D, f1, by have := HD.out; omega, hD8, by go_num, HB.out.trans HB1.out, HR1.out, Lib.hid ?_⟩
                  obtain ⟨q0, n, q1, q2, q3, q4, q5⟩ := HI.out
                  exact ⟨q2.trans (HS1.out.wide (Nat.zero_le _) (Nat.le_refl _)), q3.keep HS1.out HO1.out (Nat.le_refl _), ch_pass q1 (fun u hu => (q4 u hu).keep HS1.out (.inl (by have := mul_step (S := D) hu; omega))) HO1.out (by omega)⟩
                case measure => have := HD.out; simp [intOf]; omega
              · have hMNi : ¬ (M : Int) < (N : Int) := by omega
                go_wp2
                go_roundw
                case rel =>
                  refine ⟨D, k, by have := HD.out; omega, hD8, by go_num, HB.out, HROW.out, Lib.hid ?_⟩
                  obtain ⟨q0, n, q1, q2, q3, q4, q5⟩ := HI.out
                  exact ⟨q2, q3, ch_pass q1 q4 ((HLO.out n q1 k q5).1.part (Nat.le_refl _) (by omega)) (by omega)⟩
                case measure => have := HD.out; simp [intOf]; omega
        · have hlti : ¬ (S : Int) < (N : Int) := by omega
          go_wp2
          go_end0
          exact ⟨rfl, HB.out, h, HROW.out, HI.out.1, HI.out.2.2.whole (by omega)⟩
/-- The stable sort of a row of symbols by their frequencies. -/
theorem sort_any (w : World) (g N c : Nat) (f : Nat → Nat) (hr : RowZ w g N f) (B : Nat) (l : List Int) (hC : CmpF w B g l) (hF : FrqOk l) (hM : ∀ t, t < N → f t < l.length) (hS : St (freqN l) f N) (hN : N ≤ 400) :
    Calls Try.prog 24 #[.slice (some ⟨g, 0, none⟩) N c, .func (.func 25) #[] #[.pointer (some ⟨B, 0, none⟩)]] w fun e w' => e = .returned (.tuple #[]) ∧ Below g w w' ∧ ∃ f', RowZ w' g N f' ∧ Same f f' 0 N ∧ Rs (freqN l) f' 0 N := by
  have h := stab_any w g N c f hr B l hC hF hM hS hN
  have H := Lib.hid h
  clear h hr hC hF hM hS
  go_enter Try.func24, Try.ntmps24
  go_wp2_with (go_at_call 33; refine H.out.mono ?_; rintro e w1 ⟨rfl, h1⟩; have H1 := Lib.hid h1; clear h1)
  go_end0
  exact ⟨rfl, H1.out⟩
end Go.Proofs.Ytgppikhfkikknaa
