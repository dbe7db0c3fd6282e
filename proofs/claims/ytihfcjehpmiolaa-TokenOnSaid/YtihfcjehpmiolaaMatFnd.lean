/-
  Layer 7 (match): what Find answers, and the document's own Long and Find.
-/
import Derived.Test.YtihfcjehpmiolaaMatImpl
namespace Go.Proofs.Ytihfcjehpmiolaa
open Go.RowKit Go.ChangeShapes Go.WideShapes Go.ChangeAt Go.Joins
/-- Which of the tests fails. -/
theorem fin_bad {n : Nat} {a s h : Int} (hok : ¬ (0 ≤ a ∧ a ≤ (n : Int) ∧ 1 ≤ s ∧ s ≤ 32768 ∧ 0 ≤ h ∧ h ≤ 256)) :
    a < 0 ∨ (¬ a < 0 ∧ (n : Int) < a) ∨ (¬ a < 0 ∧ ¬ (n : Int) < a ∧ s < 1) ∨ (¬ a < 0 ∧ ¬ (n : Int) < a ∧ ¬ s < 1 ∧ 32768 < s) ∨ (¬ a < 0 ∧ ¬ (n : Int) < a ∧ ¬ s < 1 ∧ ¬ 32768 < s ∧ h < 0) ∨ (¬ a < 0 ∧ ¬ (n : Int) < a ∧ ¬ s < 1 ∧ ¬ 32768 < s ∧ ¬ h < 0 ∧ 256 < h) := by omega
theorem decN {p : Prop} [Decidable p] (h : ¬ p) : decide p = false := by simp [h]
theorem decY {p : Prop} [Decidable p] (h : p) : decide p = true := by simp [h]
set_option maxRecDepth 100000 in
set_option maxHeartbeats 4000000 in
theorem find7_any (w : World) (A : Option Addr) (n c : Nat) (f : Nat → Nat) (a s h : Int) (hr : ByR w w.heap.size A n c f) :
    Calls Try.prog 35 #[.slice A n c, .int .i64 a, .int .i64 s, .int .i64 h] w fun e w' => e = .returned (.tuple #[.int .i64 ((finT f n a s h).1 : Nat), .int .i64 ((finT f n a s h).2 : Nat), .int .i64 (finE f n a s h)]) ∧ Below w.heap.size w w' := by
  have HR := Lib.hid hr
  clear hr
  by_cases hn : 131072 < n
  · have e1 : finE f n a s h = 4 := if_pos hn
    have e2 : finT f n a s h = (0, 0) := if_neg (by omega)
    rw [e1, e2]
    have hni : 131072 < (n : Int) := by omega
    clear e1 e2
    go_enter Try.func35, Try.ntmps35
    go_wp2
    go_ret3
    exact ⟨rfl, Below.refl _ _⟩
  have hni : ¬ 131072 < (n : Int) := by omega
  by_cases hok : 0 ≤ a ∧ a ≤ (n : Int) ∧ 1 ≤ s ∧ s ≤ 32768 ∧ 0 ≤ h ∧ h ≤ 256
  · obtain ⟨T, hT⟩ : ∃ T, T = finT f n a s h := ⟨_, rfl⟩
    have e1 : finE f n a s h = if T.2 = 0 then 6 else 0 := by unfold finE; rw [if_neg hn, if_pos hok, hT]
    have e2 : T = bstN f n a.toNat s.toNat a.toNat h.toNat 0 0 := by rw [hT]; unfold finT; rw [if_pos ⟨hn, hok⟩]
    have e3 := fin_zero f n a s h
    obtain ⟨E, hE⟩ : ∃ E : Int, E = if T.2 = 0 then 6 else 0 := ⟨_, rfl⟩
    rw [e1, ← hE]
    rw [← hT] at e3 ⊢
    obtain ⟨x1, x2, x3, x4, x5, x6⟩ := hok
    obtain ⟨a, rfl⟩ := Int.eq_ofNat_of_zero_le x1
    obtain ⟨s, rfl⟩ := Int.eq_ofNat_of_zero_le (show 0 ≤ s by omega)
    obtain ⟨h, rfl⟩ := Int.eq_ofNat_of_zero_le x5
    rw [Int.toNat_natCast, Int.toNat_natCast, Int.toNat_natCast] at e2
    have hb := best_any w A n c a s h f HR.out (by omega) (by omega) (by omega) (by omega) (by omega)
    rw [← e2] at hb
    have HB := Lib.hid hb
    have d1 : decide ((a : Int) < 0) = false := decN (by omega)
    have d2 : decide ((n : Int) < (a : Int)) = false := decN (by omega)
    have d3 : decide ((s : Int) < 1) = false := decN (by omega)
    have d4 : decide (32768 < (s : Int)) = false := decN (by omega)
    have d5 : decide ((h : Int) < 0) = false := decN (by omega)
    have d6 : decide (256 < (h : Int)) = false := decN (by omega)
    obtain ⟨t1, t2⟩ := T
    have E3 := Lib.hid e3; have HE := Lib.hid hE
    clear e1 e2 e3 hb hT hE
    go_enter Try.func35, Try.ntmps35
    go_wp2_with fail
    refine HB.out.mono ?_
    rintro e w' ⟨rfl, hb⟩
    have HBL := Lib.hid hb
    clear hb
    rcases Nat.eq_zero_or_pos t2 with h0 | h0
    · subst h0
      have := E3.out rfl
      injection this with h1 _
      subst h1
      obtain rfl : E = 6 := HE.out
      go_wp2
      go_ret3
      exact ⟨rfl, HBL.out⟩
    · have hnz : ((t2 : Int) == 0) = false := by simp; omega
      obtain rfl : E = 0 := HE.out.trans (if_neg (by show ¬ t2 = 0; omega))
      go_wp2
      go_ret3
      exact ⟨rfl, HBL.out⟩
  · have e1 : finE f n a s h = 2 := by unfold finE; rw [if_neg hn, if_neg hok]
    have e2 : finT f n a s h = (0, 0) := if_neg (fun q => hok q.2)
    rw [e1, e2]
    have hbad := fin_bad hok
    clear e1 e2 hok
    rcases hbad with q1 | ⟨q1, q2⟩ | ⟨q1, q2, q3⟩ | ⟨q1, q2, q3, q4⟩ | ⟨q1, q2, q3, q4, q5⟩ | ⟨q1, q2, q3, q4, q5, q6⟩
    · have d1 := decY q1
      go_enter Try.func35, Try.ntmps35
      go_wp2
      go_ret3
      exact ⟨rfl, Below.refl _ _⟩
    · have d1 := decN q1; have d2 := decY q2
      go_enter Try.func35, Try.ntmps35
      go_wp2
      go_ret3
      exact ⟨rfl, Below.refl _ _⟩
    · have d1 := decN q1; have d2 := decN q2; have d3 := decY q3
      go_enter Try.func35, Try.ntmps35
      go_wp2
      go_ret3
      exact ⟨rfl, Below.refl _ _⟩
    · have d1 := decN q1; have d2 := decN q2; have d3 := decN q3; have d4 := decY q4
      go_enter Try.func35, Try.ntmps35
      go_wp2
      go_ret3
      exact ⟨rfl, Below.refl _ _⟩
    · have d1 := decN q1; have d2 := decN q2; have d3 := decN q3; have d4 := decN q4; have d5 := decY q5
      go_enter Try.func35, Try.ntmps35
      go_wp2
      go_ret3
      exact ⟨rfl, Below.refl _ _⟩
    · have d1 := decN q1; have d2 := decN q2; have d3 := decN q3; have d4 := decN q4; have d5 := decN q5; have d6 := decY q6
      go_enter Try.func35, Try.ntmps35
      go_wp2
      go_ret3
      exact ⟨rfl, Below.refl _ _⟩
theorem bst_end {f : Nat → Nat} {L a s : Nat} {p c d n : Nat} (hp : p ≤ a) (h : p = 0 ∨ s < a - (p - 1) ∨ c = 0) : bstN f L a s p c d n = (d, n) := by
  rcases p with _ | p
  · rfl
  · simp only [bstN]; rw [if_neg (by omega)]
theorem bst_few {f : Nat → Nat} {L a s : Nat} {p c d n : Nat} (h1 : a - p ≤ s) (h2 : 0 < c) (h3 : matN f L a p < 3) : bstN f L a s (p + 1) c d n = bstN f L a s p c d n := by
  simp only [bstN]; rw [if_pos ⟨h1, h2⟩, if_pos h3]
theorem bst_more {f : Nat → Nat} {L a s : Nat} {p c d n : Nat} (h1 : a - p ≤ s) (h2 : 0 < c) (h3 : ¬ matN f L a p < 3) (h4 : n < matN f L a p) : bstN f L a s (p + 1) c d n = bstN f L a s p (c - 1) (a - p) (matN f L a p) := by
  simp only [bstN]; rw [if_pos ⟨h1, h2⟩, if_neg h3, if_pos h4]
theorem bst_less {f : Nat → Nat} {L a s : Nat} {p c d n : Nat} (h1 : a - p ≤ s) (h2 : 0 < c) (h3 : ¬ matN f L a p < 3) (h4 : ¬ n < matN f L a p) : bstN f L a s (p + 1) c d n = bstN f L a s p (c - 1) d n := by
  simp only [bstN]; rw [if_pos ⟨h1, h2⟩, if_neg h3, if_neg h4]
set_option maxRecDepth 100000 in
set_option maxHeartbeats 4000000 in
theorem rbest7_any (w : World) (B : Nat) (A : Option Addr) (n c a z ch : Nat) (f : Nat → Nat) (hr : RdB w B A n f) (ha : a ≤ n) (hn : n ≤ 1000000) (hz : z ≤ 32768) (hch : ch ≤ 256) :
    Calls Try.prog 32 #[.slice A n c, .int .i64 (a : Int), .int .i64 (z : Int), .int .i64 (ch : Int)] w fun e w' => e = .returned (.tuple #[.int .i64 ((bstN f n a z a ch 0 0).1 : Nat), .int .i64 ((bstN f n a z a ch 0 0).2 : Nat)]) ∧ Drw w w' := by
  obtain ⟨T, hT⟩ : ∃ T, T = bstN f n a z a ch 0 0 := ⟨_, rfl⟩
  rw [← hT]
  have HR := Lib.hid hr; have HT := Lib.hid hT
  clear hr hT
  go_enter Try.func32, Try.ntmps32
  go_wp2
  go_loopw [3, 10, 11, 12] (fun cv dv nv pv wr => ∃ p c d m : Nat, p ≤ a ∧ c ≤ 256 ∧ d ≤ a ∧ m ≤ 258 ∧ cv = .int .i64 (c : Int) ∧ dv = .int .i64 (d : Int) ∧ nv = .int .i64 (m : Int) ∧ pv = .int .i64 ((p : Int) - 1) ∧ Hid (T = bstN f n a z p c d m) ∧ Hid (Drw w wr)) (fun _ _ _ pv _ => (intOf pv + 1).toNat)
  case atStart => exact ⟨a, ch, 0, 0, Nat.le_refl _, hch, Nat.zero_le _, by omega, rfl, rfl, rfl, by go_num, HT, Lib.hid (Drw.refl w)⟩
  case round =>
    obtain ⟨p, c', d, m, hp, hc, hd, hm, rfl, rfl, rfl, rfl, HK, HD⟩ := hrel
    rcases Nat.eq_zero_or_pos p with h0 | h0
    · subst h0
      have hst := HK.out.trans (bst_end (Nat.zero_le _) (.inl rfl))
      subst hst
      have d1 : decide ((0 : Int) ≤ ((0 : Nat) : Int) - 1) = false := by decide
      go_wp2
      go_ret2
      exact ⟨rfl, HD.out⟩
    · obtain ⟨q, rfl⟩ : ∃ q, p = q + 1 := ⟨p - 1, by omega⟩
      rw [show ((q + 1 : Nat) : Int) - 1 = (q : Int) by omega]
      obtain ⟨k, hk⟩ : ∃ k, k = matN f n a q := ⟨_, rfl⟩
      have hk258 := (matN_spec f n a q).1
      rw [← hk] at hk258
      have d1 : decide ((0 : Int) ≤ (q : Int)) = true := by simp
      obtain ⟨g, hg⟩ : ∃ g, g = a - q := ⟨_, rfl⟩
      have eg : (a : Int) - (q : Int) = (g : Int) := by omega
      by_cases hgz : g ≤ z
      · have d2 : decide ((g : Int) ≤ (z : Int)) = true := decY (by omega)
        have d2' : decide (g ≤ z) = true := decY (by omega)
        by_cases hc0 : c' = 0
        · subst hc0
          have hst := HK.out.trans (bst_end hp (.inr (.inr rfl)))
          subst hst
          have d3 : decide ((0 : Int) < ((0 : Nat) : Int)) = false := by decide
          clear hg hk
          go_wp2
          go_ret2
          exact ⟨rfl, HD.out⟩
        · have d3 : decide ((0 : Int) < (c' : Int)) = true := decY (by omega)
          obtain ⟨c1, rfl⟩ : ∃ c1, c' = c1 + 1 := ⟨c' - 1, by omega⟩
          have ec : ((c1 + 1 : Nat) : Int) - 1 = (c1 : Int) := by omega
          obtain ⟨cv, hcv⟩ : ∃ cv : Int, cv = ((c1 + 1 : Nat) : Int) := ⟨_, rfl⟩
          have hs := rsame7_any wr B A n c f a q (HD.out.rd HR.out) (by omega) ha hn
          rw [← hk] at hs
          have HS := Lib.hid hs; have HKK := Lib.hid hk
          by_cases hk3 : k < 3
          · have hst := HK.out.trans (bst_few (by omega) (by omega) (by rw [← hk]; exact hk3))
            have HST := Lib.hid hst
            have hgo : (c1 : Int) + 1 = cv := by omega
            rw [← hcv] at d3 ec ⊢
            have HCV := Lib.hid hcv
            have hk3i : (k : Int) < 3 := by omega
            clear hst hs hk hg hcv hgo
            go_wp2_with fail
            refine HS.out.mono ?_
            rintro e w2 ⟨rfl, hd2⟩
            have HD2 := Lib.hid (show Drw w w2 by obtain ⟨t, ht⟩ := hd2; rw [ht]; exact HD.out.more t)
            clear hd2
            go_wp2
            go_roundw
            case rel => exact ⟨q, c1 + 1, d, m, by omega, hc, hd, hm, by rw [HCV.out], rfl, rfl, rfl, HST, HD2⟩
            case measure => simp [intOf]
          · have hk3i : ¬ (k : Int) < 3 := by omega
            by_cases hmk : m < k
            · have hst := HK.out.trans (bst_more (by omega) (by omega) (by rw [← hk]; exact hk3) (by rw [← hk]; exact hmk))
              rw [← hk, ← hg] at hst
              have HST := Lib.hid hst
              rw [← hcv] at d3 ec ⊢
              have HCV := Lib.hid hcv
              have hmki : (m : Int) < (k : Int) := by omega
              have hga : g ≤ a := by omega
              clear hst hs hk hg hcv
              go_wp2_with fail
              refine HS.out.mono ?_
              rintro e w2 ⟨rfl, hd2⟩
              have HD2 := Lib.hid (show Drw w w2 by obtain ⟨t, ht⟩ := hd2; rw [ht]; exact HD.out.more t)
              clear hd2
              go_wp2
              go_roundw
              case rel => exact ⟨q, c1, g, k, by omega, by omega, hga, hk258, rfl, rfl, rfl, rfl, HST, HD2⟩
              case measure => simp [intOf]
            · have hst := HK.out.trans (bst_less (by omega) (by omega) (by rw [← hk]; exact hk3) (by rw [← hk]; exact hmk))
              have HST := Lib.hid hst
              rw [← hcv] at d3 ec ⊢
              have HCV := Lib.hid hcv
              have hmki : ¬ (m : Int) < (k : Int) := by omega
              clear hst hs hk hg hcv
              go_wp2_with fail
              refine HS.out.mono ?_
              rintro e w2 ⟨rfl, hd2⟩
              have HD2 := Lib.hid (show Drw w w2 by obtain ⟨t, ht⟩ := hd2; rw [ht]; exact HD.out.more t)
              clear hd2
              go_wp2
              go_roundw
              case rel => exact ⟨q, c1, d, m, by omega, by omega, hd, hm, rfl, rfl, rfl, rfl, HST, HD2⟩
              case measure => simp [intOf]
      · have hst := HK.out.trans (bst_end hp (.inr (.inl (by omega))))
        subst hst
        have d2 : decide ((g : Int) ≤ (z : Int)) = false := decN (by omega)
        have d2' : decide (g ≤ z) = false := decN (by omega)
        clear hg hk
        go_wp2
        go_ret2
        exact ⟨rfl, HD.out⟩
end Go.Proofs.Ytihfcjehpmiolaa
