/-
  The law MatchThere, for every bytes and numbers, returns true: what is found is there. No condition.
-/
import Derived.Test.YtkgpbdlhjhbijaaMatAlv
namespace Go.Proofs.Ytkgpbdlhjhbijaa
open Go.RowKit Go.ChangeShapes Go.WideShapes Go.ChangeAt Go.Joins
/-- What is told of what was found. -/
theorem fin_there {f : Nat → Nat} {n : Nat} {a s h : Int} (hE : finE f n a s h = 0) : ∃ A d k : Nat, a = (A : Int) ∧ finT f n a s h = (d, k) ∧ A ≤ n ∧ 1 ≤ d ∧ (d : Int) ≤ s ∧ d ≤ A ∧ 3 ≤ k ∧ k ≤ 258 ∧ k = matN f n A (A - d) ∧ A + k ≤ n := by
  unfold finE at hE
  split at hE
  · omega
  · split at hE
    · rename_i h1 hc
      obtain ⟨x1, x2, x3, x4, x5, x6⟩ := hc
      obtain ⟨A, rfl⟩ := Int.eq_ofNat_of_zero_le x1
      have hT : finT f n (A : Int) s h = bstN f n A s.toNat A h.toNat 0 0 := by
        unfold finT; rw [if_pos ⟨h1, by omega, by omega, x3, x4, x5, x6⟩, Int.toNat_natCast]
      have hnz : (finT f n (A : Int) s h).2 ≠ 0 := fun e => by rw [if_pos e] at hE; omega
      rcases bstN_found (f := f) (L := n) (a := A) (size := s.toNat) A h.toNat 0 0 (Nat.le_refl _) (.inl ⟨rfl, rfl⟩) with ⟨h2, h3⟩ | ⟨h2, h3, h4, h5, h6⟩
      · rw [hT] at hnz; exact absurd h3 hnz
      · have hend := matN_end (f := f) (p := A - (bstN f n A s.toNat A h.toNat 0 0).1) (show A ≤ n by omega)
        have h258 := (matN_spec f n A (A - (bstN f n A s.toNat A h.toNat 0 0).1)).1
        rw [← h6] at hend h258
        exact ⟨A, _, _, rfl, hT, by omega, h2, by omega, h4, h5, h258, h6, hend⟩
    · omega
theorem below_drwM {g : Nat} {a w : World} (h : Below g a w) (q : Nat) : Below g a (w.drewN q) := ⟨h.os, h.tape, h.output, h.size, h.block⟩
set_option maxRecDepth 100000 in
set_option maxHeartbeats 4000000 in
theorem there7_law (A : Option Addr) (n c : Nat) (f : Nat → Nat) (a s h : Int) (w : World) (hr : ByR w w.heap.size A n c f) (_ : -9223372036854775808 ≤ a) (_ : a ≤ 9223372036854775807) (_ : -9223372036854775808 ≤ s) (_ : s ≤ 9223372036854775807) (_ : -9223372036854775808 ≤ h) (_ : h ≤ 9223372036854775807) :
    Calls Try.prog 5 #[.slice A n c, .int .i64 a, .int .i64 s, .int .i64 h] w fun e w' => e = .returned (.bool true) ∧ Below w.heap.size w w' := by
  have HR := Lib.hid hr
  clear hr
  by_cases hn1 : 4000 < n
  · have hd : decide (4000 < (n : Int)) = true := decY (by omega)
    go_enter Try.func5, Try.ntmps5
    go_wp2_with fail
    refine (alive7_any w).mono ?_
    rintro e w1 ⟨rfl, hb⟩
    have HB1 := Lib.hid hb
    clear hb
    go_wp2
    go_ret
    exact ⟨rfl, HB1.out⟩
  have hd : decide (4000 < (n : Int)) = false := decN (by omega)
  obtain ⟨T, hT⟩ : ∃ T, T = finT f n a s h := ⟨_, rfl⟩
  obtain ⟨E, hE⟩ : ∃ E, E = finE f n a s h := ⟨_, rfl⟩
  have h0 := fin_zero f n a s h
  have h1 := fun e => fin_there (f := f) (n := n) (a := a) (s := s) (h := h) e
  have h2 : E ≠ 0 → T = (0, 0) := fun e => by
    rw [hT]
    refine h0 ?_
    rw [hE] at e
    unfold finE at e
    split at e
    · unfold finT; rw [if_neg (by omega)]
    · split at e
      · split at e
        · assumption
        · omega
      · rename_i hx hc
        unfold finT; rw [if_neg (fun q => hc q.2)]
  rw [← hT, ← hE] at h1
  have HT := Lib.hid hT; have HE := Lib.hid hE; have H1 := Lib.hid h1; have H2 := Lib.hid h2
  clear hT hE h0 h1 h2
  go_enter Try.func5, Try.ntmps5
  go_wp2_with fail
  refine (alive7_any w).mono ?_
  rintro e w1 ⟨rfl, hb⟩
  have HB1 := Lib.hid hb
  clear hb
  go_wp2_with fail
  refine (find7_any w1 A n c f a s h ((HR.out.below HB1.out (Nat.le_refl _)).more HB1.out.size)).mono ?_
  rintro e w2 ⟨rfl, hb⟩
  rw [← HT.out, ← HE.out]
  have HB2 := Lib.hid (HB1.out.trans (hb.mono HB1.out.size))
  clear hb HB1
  by_cases hE0 : E = 0
  · obtain ⟨a, d, k, rfl, rfl, hA, hd1, hds, hda, hk3, hk258, hk, hkn⟩ := H1.out hE0
    subst hE0
    obtain ⟨q, hq⟩ : ∃ q, q = a - d := ⟨_, rfl⟩
    obtain ⟨b, o, rfl, _, hc⟩ := ((HR.out.below HB2.out (Nat.le_refl _)).1).2 (by omega)
    rw [← hq] at hk
    obtain ⟨hm1, hm2, hm3⟩ := matN_spec f n a q
    rw [← hk] at hm2 hm3
    have HC := Lib.hid hc; have HM2 := Lib.hid hm2; have HM3 := Lib.hid hm3; have HQ := Lib.hid hq
    have x1 : decide ((d : Int) < 1) = false := decN (by omega)
    have x2 : decide (s < (d : Int)) = false := decN (by omega)
    have x3 : decide ((a : Int) < (d : Int)) = false := decN (by omega)
    have x3' : decide (a < d) = false := decN (by omega)
    have x4 : decide ((k : Int) < 3) = false := decN (by omega)
    have x5 : decide (258 < (k : Int)) = false := decN (by omega)
    obtain ⟨N, hN⟩ : ∃ N, N = a + k := ⟨_, rfl⟩
    have eN : (a : Int) + (k : Int) = (N : Int) := by omega
    have x6 : decide ((n : Int) < (N : Int)) = false := decN (by omega)
    have x6' : decide (n < N) = false := decN (by omega)
    have hNn : N ≤ n := by omega
    have HN := Lib.hid hN
    clear hc hm1 hm2 hm3 hk hq hN
    go_wp2
    clear x1 x2 x3 x3' x4 x5 x6 x6' hds
    go_loopw [13] (fun iv wr => ∃ i : Nat, i ≤ k ∧ iv = .int .i64 (i : Int) ∧ Hid (Drw w2 wr)) (fun iv _ => k - (intOf iv).toNat)
    case atStart => exact ⟨0, Nat.zero_le _, rfl, Lib.hid (Drw.refl _)⟩
    case round =>
      obtain ⟨i, hi, rfl, HD⟩ := hrel
      have HC2 : Hid (∀ j, j < n → wr.cell? ⟨b, o + j, none⟩ = some (.int .u8 (f j : Int))) := Lib.hid fun j hj => by
        obtain ⟨t, ht⟩ := HD.out; rw [ht]; exact HC.out j hj
      by_cases hlt : i < k
      · have hlti : (i : Int) < (k : Int) := by omega
        obtain ⟨Q, hQ⟩ : ∃ Q, Q = a + i := ⟨_, rfl⟩
        obtain ⟨P, hP⟩ : ∃ P, P = q + i := ⟨_, rfl⟩
        have hm := (HM2.out i hlt).2
        have hqq := HQ.out; have hNN := HN.out
        have eQ : (a : Int) + (i : Int) = (Q : Int) := by omega
        have eP : (Q : Int) - (d : Int) = (P : Int) := by omega
        have hQn : Q < n := by omega
        have hPn : P < n := by omega
        have hQi : (Q : Int) < (n : Int) := by omega
        have hPi : (P : Int) < (n : Int) := by omega
        have hQ0 : (0 : Int) ≤ (Q : Int) := by omega
        have hP0 : (0 : Int) ≤ (P : Int) := by omega
        have k1 := HC2.out Q hQn
        have k2 := HC2.out P hPn
        rw [← hQ, ← hP] at hm
        rw [hm] at k2
        obtain ⟨u, hu⟩ : ∃ u, u = f Q := ⟨_, rfl⟩
        rw [← hu] at k1 k2
        have hnn : ((u : Int) != (u : Int)) = false := by simp
        clear hQ hP hm hqq hNN hu eN
        go_wp2
        go_quiet (fail)
        go_wp2
        go_roundw
        case rel => exact ⟨i + 1, by omega, by go_num, Lib.hid (HD.out.more _)⟩
        case measure => simp [intOf]; omega
      · obtain rfl : i = k := by omega
        have hlti : ¬ (i : Int) < (i : Int) := by omega
        by_cases h258 : i = 258
        · have e1 : ((i : Int) == 258) = true := by simp; omega
          go_wp2
          go_quiet (fail)
          go_wp2
          go_ret
          exact ⟨rfl, (HD.out.more _).below HB2.out⟩
        have e1 : ((i : Int) == 258) = false := by simp; omega
        by_cases hNe : N = n
        · have e2 : ((N : Int) == (n : Int)) = true := by simp; omega
          have e3 : (N == n) = true := by simp; omega
          clear h258
          go_wp2
          go_quiet (fail)
          go_wp2
          go_ret
          exact ⟨rfl, (HD.out.more _).below HB2.out⟩
        · have e2 : ((N : Int) == (n : Int)) = false := by simp; omega
          have e3 : (N == n) = false := by simp; omega
          obtain ⟨P, hP⟩ : ∃ P, P = q + i := ⟨_, rfl⟩
          have hqq := HQ.out; have hNN := HN.out
          have eP : (N : Int) - (d : Int) = (P : Int) := by omega
          have hPn : P < n := by omega
          have hNn' : N < n := by omega
          have hNi : (N : Int) < (n : Int) := by omega
          have hPi : (P : Int) < (n : Int) := by omega
          have hN0 : (0 : Int) ≤ (N : Int) := by omega
          have hP0 : (0 : Int) ≤ (P : Int) := by omega
          have hm : f P ≠ f N := by
            rcases HM3.out with g | g
            · omega
            · rw [hP, hNN]; exact fun e => g ⟨by omega, e⟩
          have k1 := HC2.out N hNn'
          have k2 := HC2.out P hPn
          have hnn : ((f N : Int) != (f P : Int)) = true := by simp; omega
          have hnn2 : (f N != f P) = true := by simp; omega
          clear hP hm hqq hNN h258
          go_wp2
          go_quiet (fail)
          go_wp2
          go_ret
          exact ⟨rfl, (HD.out.more _).below HB2.out⟩
  · have hne : (E != 0) = true := by simpa using hE0
    have hTT := H2.out hE0
    subst hTT
    go_wp2
    go_ret
    exact ⟨rfl, HB2.out⟩
-- LAW
set_option maxRecDepth 100000 in
theorem there7_law_lifted (os : Os) (started : os.Started) (H : Type) (enc : TypeId × Value → H) :
    ReturnsInHanded {} Try.checked os 5 .any (Rows.matchThereSpec.pre6 enc Try.prog Try.f5 Rows.matchThereRow.domain false) (Rows.matchThereSpec.post enc Try.prog Try.f5 false true false false) := by
  refine returnsInHanded_of_change (C := Try.checked) own started (by kernel_rfl) Try.func5
    (ChangeSpec.witness6 (enc := enc) (C := Try.checked) false ⟨#[], #[.slice none 0 0, .int .i64 0, .int .i64 0, .int .i64 0], []⟩ 8 (by kernel_rfl) (by kernel_rfl) (by kernel_rfl) (by kernel_rfl)) ?_
  intro W base args ds gs before hval0 hW _ _
  have hval : ∀ (j : Nat) t v, Try.f5.params[j]? = some t → args[j]? = some v → Value.okWide Try.prog W .any base t v := hval0
  have hW' := hW
  obtain ⟨p, q, hA0, hV, rfl, _, _⟩ := hW
  have hA : DataW.TrodAll enc Try.prog W 0 (fun _ => true) true Try.f5.params.toList args.toList ds p := hA0
  rw [Try.params5] at hA hval
  obtain ⟨v0, vs0, d0, ds0, p0, q0, hargs, rfl, rfl, h0, r0⟩ := trodAll_cons hA
  obtain ⟨v1, vs1, d1, ds1, p1, q1, rfl, rfl, rfl, h1, r1⟩ := trodAll_cons r0
  obtain ⟨v2, vs2, d2, ds2, p2, q2, rfl, rfl, rfl, h2, r2⟩ := trodAll_cons r1
  obtain ⟨v3, vs3, d3, ds3, p3, q3, rfl, rfl, rfl, h3, r3⟩ := trodAll_cons r2
  obtain ⟨rfl, rfl, rfl⟩ := trodAll_nil r3
  obtain rfl : args = #[v0, v1, v2, v3] := by cases args; simp_all
  obtain ⟨rfl, rfl⟩ := trodVars_none hV
  have k0 := h0
  have lt0 : ∀ x ∈ p0, x.block < W.heap.size := by obtain ⟨m, hm⟩ := k0; exact DataW.trod_lt m _ _ _ hm
  obtain ⟨A0, len0, cap0, rfl⟩ := okWide_slice Try.underlying25 (hval 0 25 v0 rfl rfl)
  obtain ⟨f0, hr0⟩ := open_byr h0
  have k1 := h1
  have lt1 : ∀ x ∈ p1, x.block < W.heap.size := by obtain ⟨m, hm⟩ := k1; exact DataW.trod_lt m _ _ _ hm
  obtain ⟨a1, rfl, rfl, rfl, w1⟩ := open_int Try.underlying3 (hval 1 3 v1 rfl rfl) h1
  have u1 := wf_i64_range w1
  have k2 := h2
  have lt2 : ∀ x ∈ p2, x.block < W.heap.size := by obtain ⟨m, hm⟩ := k2; exact DataW.trod_lt m _ _ _ hm
  obtain ⟨a2, rfl, rfl, rfl, w2⟩ := open_int Try.underlying3 (hval 2 3 v2 rfl rfl) h2
  have u2 := wf_i64_range w2
  have k3 := h3
  have lt3 : ∀ x ∈ p3, x.block < W.heap.size := by obtain ⟨m, hm⟩ := k3; exact DataW.trod_lt m _ _ _ hm
  obtain ⟨a3, rfl, rfl, rfl, w3⟩ := open_int Try.underlying3 (hval 3 3 v3 rfl rfl) h3
  have u3 := wf_i64_range w3
  clear hA0 hval0
  refine (there7_law A0 len0 cap0 f0 a1 a2 a3 W hr0 u1.1 u1.2 u2.1 u2.2 u3.1 u3.2).mono fun e W' ⟨he, bel⟩ => ?_
  subst he
  exact ⟨_, rfl, _, _, _, [], _, [], hW', trodAll_mk1 (shut_bool Try.underlying4 _), (trodAll_cons_mk (Below.trod laidOut (by kernel_rfl) (of_decide_eq_true (by kernel_rfl)) k0 bel lt0) (trodAll_cons_mk (Below.trod laidOut (by kernel_rfl) (of_decide_eq_true (by kernel_rfl)) k1 bel lt1) (trodAll_cons_mk (Below.trod laidOut (by kernel_rfl) (of_decide_eq_true (by kernel_rfl)) k2 bel lt2) (trodAll_cons_mk (Below.trod laidOut (by kernel_rfl) (of_decide_eq_true (by kernel_rfl)) k3 bel lt3) trodAll_mk0)))), rfl, bel.frame _, fun h => by cases h⟩
theorem there7_law_holds : Rows.MatchThereSaid :=
  OpenClaim.holds_of_wide 5 Try.f5 rfl rfl rfl rfl rfl rfl rfl ⟨rfl, rfl, rfl, rfl, rfl⟩ rfl rfl rfl rfl rfl (by kernel_rfl) Try.func5 (by kernel_rfl)
    (of_decide_eq_true (by kernel_rfl)) (by unfold Func.isWrapper; first | (rw [if_pos (by decide +kernel)]; kernel_rfl) | (rw [if_neg (by decide +kernel)]; exact ⟨rfl, rfl⟩))
    (fun os started H enc _ => there7_law_lifted os started H enc)
#print axioms there7_law_holds
end Go.Proofs.Ytkgpbdlhjhbijaa
