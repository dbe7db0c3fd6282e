/-
  The law RunsCount, for every runs and two numbers, returns true: runs make just as many lengths as they tell together, and are refused with any other number; all lengths are at most 15. No condition.
-/
import Derived.Test.YtgkbnmknlmapdaaRunStl
namespace Go.Proofs.Ytgkbnmknlmapdaa
open Go.RowKit Go.ChangeShapes Go.WideShapes Go.ChangeAt Go.Joins
theorem strR_ok {n : Nat} : ∀ rs out, (strR n rs out).1 = 0 → ∀ r ∈ rs, 0 ≤ r.1 ∧ r.1 ≤ 18 ∧ 0 ≤ r.2 ∧ r.2 < 128
  | [], _, _, r, hr => by cases hr
  | (s, x) :: rs, out, h, r, hr => by
    simp only [strR] at h
    by_cases h1 : s < 0 ∨ 18 < s ∨ x < 0 ∨ (2 ^ bitsR s : Nat) ≤ x
    · rw [if_pos h1] at h; simp at h
    · rw [if_neg h1] at h
      by_cases h2 : (s = 16 ∧ out = []) ∨ n < out.length + timesR s x
      · rw [if_pos h2] at h; simp at h
      · rw [if_neg h2] at h
        rcases List.mem_cons.1 hr with rfl | hr
        · have hp := Nat.pow_le_pow_right (n := 2) (by omega) (bitsR_le s)
          obtain ⟨p, hpe⟩ : ∃ p : Nat, p = 2 ^ bitsR s := ⟨_, rfl⟩
          have e7 : (2 : Nat) ^ 7 = 128 := rfl
          rw [← hpe] at h1 hp
          exact ⟨by show 0 ≤ s; omega, by show s ≤ 18; omega, by show 0 ≤ x; omega, by show x < 128; omega⟩
        · exact strR_ok rs _ h r hr
/-- What is told where Stretch tells no error. -/
theorem str_told {l : List (Int × Int)} {n : Int} (h : (strO l n).1 = 0) : 0 ≤ n ∧ n ≤ 320 ∧ n = (sumR l : Int) ∧ ((strO l n).2.length : Int) = n ∧ (∀ x ∈ (strO l n).2, x ≤ 15) ∧ ∀ r ∈ l, 0 ≤ r.1 ∧ r.1 ≤ 18 ∧ 0 ≤ r.2 ∧ r.2 < 128 := by
  unfold strO at h ⊢
  by_cases q : n < 0 ∨ 320 < n
  · rw [if_pos q] at h; simp at h
  · rw [if_neg q] at h ⊢
    obtain ⟨a, b, c⟩ := strR_count l [] h (fun x hx => by cases hx)
    have hd := strR_ok l [] h
    simp at a
    exact ⟨by omega, by omega, by omega, by rw [b]; omega, c, hd⟩
theorem str_err {l : List (Int × Int)} {n : Int} (h : (strO l n).1 ≠ 0) : (strO l n).2 = [] := by
  unfold strO at h ⊢
  split
  · rfl
  · rename_i q
    rw [if_neg q] at h
    exact strR_err l [] h
theorem sumR_step {l : List (Int × Int)} {i : Nat} (h : i < l.length) : sumR (l.drop i) = timesR (l.getD i run0).1 (l.getD i run0).2 + sumR (l.drop (i + 1)) := by
  have e : l.drop i = l.getD i run0 :: l.drop (i + 1) := by
    rw [List.drop_eq_getElem_cons h, List.getD_eq_getElem?_getD, List.getElem?_eq_getElem h]; rfl
  rw [e]; rfl
set_option maxRecDepth 100000 in
set_option maxHeartbeats 4000000 in
theorem count10_law (A : Option Addr) (k c : Nat) (l : List (Int × Int)) (n m : Int) (w : World) (hr : RuR w w.heap.size A k c l) (_ : ∀ r ∈ l, RunIn r) (hn1 : -9223372036854775808 ≤ n) (hn2 : n ≤ 9223372036854775807) (hm1 : -9223372036854775808 ≤ m) (hm2 : m ≤ 9223372036854775807) :
    Calls Try.prog 7 #[.slice A k c, .int .i64 n, .int .i64 m] w fun e w' => e = .returned (.bool true) ∧ Below w.heap.size w w' := by
  have HAL := Lib.hid (aliveU_any w); have HR := Lib.hid hr; have HML := Lib.hid hr.1
  clear hr
  by_cases hk1 : 1000 < k
  · have hd : decide (1000 < (k : Int)) = true := by simp; omega
    go_enter Try.func7, Try.ntmps7
    go_wp2_with fail
    refine HAL.out.mono ?_
    rintro e w2 ⟨rfl, hb⟩
    go_wp2
    go_ret
    exact ⟨rfl, hb⟩
  have hd : decide (1000 < (k : Int)) = false := by simp; omega
  obtain ⟨O, hO⟩ : ∃ O, O = strO l n := ⟨_, rfl⟩
  obtain ⟨P, hP⟩ : ∃ P, P = strO l m := ⟨_, rfl⟩
  have HST : Hid (∀ u, RuR u u.heap.size A k c l → Calls Try.prog 9 #[.slice A k c, .int .i64 n] u fun e w' => ∃ A' n' c', e = .returned (.tuple #[.slice A' n' c', .int .i64 O.1]) ∧ n' = O.2.length ∧ ByR w' w'.heap.size A' n' c' (lst O.2) ∧ Below u.heap.size u w' ∧ NewB w' u.heap.size A' n') := Lib.hid fun u hu => by
    rw [hO]; exact str10_any u A k c l n hu (by omega) hn1 hn2
  have HSM : Hid (∀ u, RuR u u.heap.size A k c l → Calls Try.prog 9 #[.slice A k c, .int .i64 m] u fun e w' => ∃ A' n' c', e = .returned (.tuple #[.slice A' n' c', .int .i64 P.1]) ∧ n' = P.2.length ∧ ByR w' w'.heap.size A' n' c' (lst P.2) ∧ Below u.heap.size u w' ∧ NewB w' u.heap.size A' n') := Lib.hid fun u hu => by
    rw [hP]; exact str10_any u A k c l m hu (by omega) hm1 hm2
  have ht : O.1 = 0 → 0 ≤ n ∧ n ≤ 320 ∧ n = (sumR l : Int) ∧ (O.2.length : Int) = n ∧ (∀ x ∈ O.2, x ≤ 15) ∧ ∀ r ∈ l, 0 ≤ r.1 ∧ r.1 ≤ 18 ∧ 0 ≤ r.2 ∧ r.2 < 128 := fun q => by rw [hO] at q ⊢; exact str_told q
  have htm : P.1 = 0 → m = (sumR l : Int) := fun q => by rw [hP] at q; exact (str_told q).2.2.1
  have hte : O.1 ≠ 0 → O.2 = [] := fun q => by rw [hO] at q ⊢; exact str_err q
  obtain ⟨E, V⟩ := O
  obtain ⟨G, _⟩ := P
  dsimp only at ht htm hte HST HSM
  have HT := Lib.hid ht; have HTM := Lib.hid htm; have HTE := Lib.hid hte
  clear hO hP ht htm hte
  go_enter Try.func7, Try.ntmps7
  go_wp2_with fail
  refine HAL.out.mono ?_
  rintro e w1 ⟨rfl, hb⟩
  have HB1 := Lib.hid hb
  have HR1 := Lib.hid ((HR.out.below hb (Nat.le_refl _)).more hb.size)
  clear hb HAL
  go_wp2_with fail
  refine (HST.out w1 HR1.out).mono ?_
  rintro e w2 ⟨B, q, d, rfl, hq, hby, hb, _⟩
  have HB2 := Lib.hid (HB1.out.trans (hb.mono HB1.out.size))
  have HR2 := Lib.hid ((HR1.out.below hb (Nat.le_refl _)).more hb.size)
  have HY2 := Lib.hid hby; have HQ := Lib.hid hq
  clear hq hby hb HST
  by_cases hE : E = 0
  · have e0 : (E != 0) = false := by simp [hE]
    obtain ⟨t1, t2, t3, t4, t5, t6⟩ := HT.out hE
    obtain ⟨N, rfl⟩ := Int.eq_ofNat_of_zero_le t1
    have hqN : q = N := by rw [HQ.out]; omega
    subst hqN
    have hqs : q = sumR l := by omega
    have HT5 := Lib.hid t5; have HT6 := Lib.hid t6; have HQS := Lib.hid hqs
    have hq320 : q ≤ 320 := by omega
    clear t1 t2 t3 t4 t5 t6 hqs HT HTE hE
    go_wp2
    go_loopw [10, 11] (fun av iv wr => ∃ i a : Nat, i ≤ k ∧ a ≤ q ∧ av = .int .i64 (a : Int) ∧ iv = .int .i64 (i : Int) ∧ Hid (a + sumR (l.drop i) = q) ∧ w2 = wr) (fun _ iv _ => k - (intOf iv).toNat)
    case atStart => exact ⟨0, 0, Nat.zero_le _, Nat.zero_le _, rfl, rfl, Lib.hid (by rw [Nat.zero_add]; exact HQS.out.symm), rfl⟩
    case round =>
      obtain ⟨i, a, hi, haq, rfl, rfl, HK, rfl⟩ := hrel
      by_cases hlt : i < k
      · have hlti : (i : Int) < (k : Int) := by omega
        have hil : i < l.length := by rw [← HML.out]; exact hlt
        obtain ⟨b, o, rfl, _, hc⟩ := HR2.out.2.1.at hil
        obtain ⟨c0, c1⟩ := hc i hil
        have hst := sumR_step hil
        have hin := HT6.out (l.getD i run0) (by rw [List.getD_eq_getElem?_getD, List.getElem?_eq_getElem hil]; exact List.getElem_mem hil)
        obtain ⟨r, hr⟩ : ∃ r, r = l.getD i run0 := ⟨_, rfl⟩
        rw [← hr] at c0 c1 hst hin
        obtain ⟨s, x⟩ := r
        dsimp only at c0 c1 hst hin
        obtain ⟨h1, h2, h3, h4⟩ := hin
        obtain ⟨X, rfl⟩ := Int.eq_ofNat_of_zero_le h3
        obtain ⟨T, hT⟩ : ∃ T, T = timesR s (X : Int) := ⟨_, rfl⟩
        rw [← hT] at hst
        unfold timesR at hT
        rw [Int.toNat_natCast] at hT
        have HK2 : Hid ((a + T) + sumR (l.drop (i + 1)) = q) := Lib.hid (by have := HK.out; rw [hst] at this; omega)
        have haT : a + T ≤ q := by have := HK2.out; omega
        clear hc hr hst h1 h2 h3 hil
        by_cases s16 : s = 16
        · have d16 : (s == 16) = true := by simp [s16]
          have hT3 : T = X + 3 := by rw [hT, if_pos (.inl s16)]
          obtain ⟨u, hu⟩ : ∃ u, u = a + T := ⟨_, rfl⟩
          have eu : (a : Int) + (3 + (X : Int)) = (u : Int) := by omega
          have ev : 3 + (X : Int) = (T : Int) := by omega
          have eu2 : (a : Int) + (T : Int) = (u : Int) := by omega
          rw [← hu] at HK2 haT
          clear hu hT s16 hT3
          go_wp2
          go_roundw
          case rel => exact ⟨i + 1, u, by omega, haT, by go_num, by go_num, HK2, trivial⟩
          case measure => simp [intOf]; omega
        have d16 : (s == 16) = false := by simp [s16]
        by_cases s17 : s = 17
        · have d17 : (s == 17) = true := by simp [s17]
          have hT3 : T = X + 3 := by rw [hT, if_pos (.inr s17)]
          obtain ⟨u, hu⟩ : ∃ u, u = a + T := ⟨_, rfl⟩
          have eu : (a : Int) + (3 + (X : Int)) = (u : Int) := by omega
          have ev : 3 + (X : Int) = (T : Int) := by omega
          have eu2 : (a : Int) + (T : Int) = (u : Int) := by omega
          rw [← hu] at HK2 haT
          clear hu hT s17 s16 hT3
          go_wp2
          go_roundw
          case rel => exact ⟨i + 1, u, by omega, haT, by go_num, by go_num, HK2, trivial⟩
          case measure => simp [intOf]; omega
        have d17 : (s == 17) = false := by simp [s17]
        by_cases s18 : s = 18
        · have d18 : (s == 18) = true := by simp [s18]
          have hT3 : T = X + 11 := by rw [hT, if_neg (by omega), if_pos s18]
          obtain ⟨u, hu⟩ : ∃ u, u = a + T := ⟨_, rfl⟩
          have eu : (a : Int) + (11 + (X : Int)) = (u : Int) := by omega
          have ev : 11 + (X : Int) = (T : Int) := by omega
          have eu2 : (a : Int) + (T : Int) = (u : Int) := by omega
          rw [← hu] at HK2 haT
          clear hu hT s18 s17 s16 hT3
          go_wp2
          go_roundw
          case rel => exact ⟨i + 1, u, by omega, haT, by go_num, by go_num, HK2, trivial⟩
          case measure => simp [intOf]; omega
        · have d18 : (s == 18) = false := by simp [s18]
          have hT3 : T = 1 := by rw [hT, if_neg (by omega), if_neg s18]
          obtain ⟨u, hu⟩ : ∃ u, u = a + T := ⟨_, rfl⟩
          have eu : (a : Int) + (1) = (u : Int) := by omega
          skip
          skip
          rw [← hu] at HK2 haT
          clear hu hT s18 s17 s16 hT3
          go_wp2
          go_roundw
          case rel => exact ⟨i + 1, u, by omega, haT, by go_num, by go_num, HK2, trivial⟩
          case measure => simp [intOf]; omega
      · obtain rfl : i = k := by omega
        have hlti : ¬ (i : Int) < (i : Int) := by omega
        have haq2 : a = q := by
          have := HK.out
          rw [List.drop_eq_nil_of_le (by rw [← HML.out]; exact Nat.le_refl _)] at this
          simpa [sumR] using this
        subst haq2
        go_wp2
        go_loopw [12] (fun jv wr => ∃ j : Nat, j ≤ a ∧ jv = .int .i64 (j : Int) ∧ w2 = wr) (fun jv _ => a - (intOf jv).toNat)
        case atStart => exact ⟨0, Nat.zero_le _, rfl, rfl⟩
        case round =>
          obtain ⟨j, hj, rfl, rfl⟩ := hrel
          by_cases hlj : j < a
          · have hlji : (j : Int) < (a : Int) := by omega
            obtain ⟨b, o, rfl, _, hc⟩ := HY2.out.1.2 (by omega)
            have c1 := hc j hlj
            have hx15 : lst V j ≤ 15 := by
              unfold lst
              rw [List.getD_eq_getElem?_getD, List.getElem?_eq_getElem (by rw [← HQ.out]; exact hlj)]
              exact HT5.out _ (List.getElem_mem _)
            obtain ⟨x, hx⟩ : ∃ x, x = lst V j := ⟨_, rfl⟩
            rw [← hx] at c1 hx15
            have hxi : ¬ (15 : Int) < (x : Int) := by omega
            clear hc hx
            go_wp2
            go_roundw
            case rel => exact ⟨j + 1, by omega, by go_num, trivial⟩
            case measure => simp [intOf]; omega
          · obtain rfl : j = a := by omega
            have hlji : ¬ (j : Int) < (j : Int) := by omega
            go_wp2_with fail
            refine (HSM.out w2 HR2.out).mono ?_
            rintro e w5 ⟨B5, q5, d5, rfl, _, _, hb, _⟩
            have HB5 := Lib.hid (HB2.out.trans (hb.mono HB2.out.size))
            have ej : ((j : Int) == (j : Int)) = true := by simp
            clear hb
            by_cases hmn : m = (j : Int)
            · have em : (m == (j : Int)) = true := by simp [hmn]
              clear hmn
              go_wp2
              go_ret
              exact ⟨rfl, HB5.out⟩
            · have em : (m == (j : Int)) = false := by simp [hmn]
              have eg : (G != 0) = true := by
                simp only [bne_iff_ne, ne_eq]
                intro hg
                have h1 := HTM.out hg
                have h2 := HQS.out
                omega
              clear hmn
              go_wp2
              go_ret
              exact ⟨rfl, HB5.out⟩
  · have e0 : (E != 0) = true := by simp [hE]
    have hv := HTE.out hE
    subst hv
    have hq0 : q = 0 := HQ.out
    subst hq0
    clear hE HT HTE
    go_wp2
    go_ret
    exact ⟨rfl, HB2.out⟩
-- LAW
set_option maxRecDepth 100000 in
theorem count10_law_lifted (os : Os) (started : os.Started) (H : Type) (enc : TypeId × Value → H) :
    ReturnsInHanded {} Try.checked os 7 .any (Rows.runsCountSpec.pre6 enc Try.prog Try.f7 Rows.runsCountRow.domain false) (Rows.runsCountSpec.post enc Try.prog Try.f7 false true false false) := by
  refine returnsInHanded_of_change (C := Try.checked) own started (by kernel_rfl) Try.func7
    (ChangeSpec.witness6 (enc := enc) (C := Try.checked) false ⟨#[], #[.slice none 0 0, .int .i64 0, .int .i64 0], []⟩ 8 (by kernel_rfl) (by kernel_rfl) (by kernel_rfl) (by kernel_rfl)) ?_
  intro W base args ds gs before hval0 hW _ _
  have hval : ∀ (j : Nat) t v, Try.f7.params[j]? = some t → args[j]? = some v → Value.okWide Try.prog W .any base t v := hval0
  have hW' := hW
  obtain ⟨p, q, hA0, hV, rfl, _, _⟩ := hW
  have hA : DataW.TrodAll enc Try.prog W 0 (fun _ => true) true Try.f7.params.toList args.toList ds p := hA0
  rw [Try.params7] at hA hval
  obtain ⟨v0, vs0, d0, ds0, p0, q0, hargs, rfl, rfl, h0, r0⟩ := trodAll_cons hA
  obtain ⟨v1, vs1, d1, ds1, p1, q1, rfl, rfl, rfl, h1, r1⟩ := trodAll_cons r0
  obtain ⟨v2, vs2, d2, ds2, p2, q2, rfl, rfl, rfl, h2, r2⟩ := trodAll_cons r1
  obtain ⟨rfl, rfl, rfl⟩ := trodAll_nil r2
  obtain rfl : args = #[v0, v1, v2] := by cases args; simp_all
  obtain ⟨rfl, rfl⟩ := trodVars_none hV
  have k0 := h0
  have lt0 : ∀ x ∈ p0, x.block < W.heap.size := by obtain ⟨m, hm⟩ := k0; exact DataW.trod_lt m _ _ _ hm
  obtain ⟨A0, len0, cap0, rfl⟩ := okWide_slice Try.underlying26 (hval 0 26 v0 rfl rfl)
  obtain ⟨l0, hr0, hin0⟩ := open_runs h0
  have k1 := h1
  have lt1 : ∀ x ∈ p1, x.block < W.heap.size := by obtain ⟨m, hm⟩ := k1; exact DataW.trod_lt m _ _ _ hm
  obtain ⟨a1, rfl, rfl, rfl, w1⟩ := open_int Try.underlying3 (hval 1 3 v1 rfl rfl) h1
  have u1 := wf_i64_range w1
  have k2 := h2
  have lt2 : ∀ x ∈ p2, x.block < W.heap.size := by obtain ⟨m, hm⟩ := k2; exact DataW.trod_lt m _ _ _ hm
  obtain ⟨a2, rfl, rfl, rfl, w2⟩ := open_int Try.underlying3 (hval 2 3 v2 rfl rfl) h2
  have u2 := wf_i64_range w2
  clear hA0 hval0
  refine (count10_law A0 len0 cap0 l0 a1 a2 W hr0 hin0 u1.1 u1.2 u2.1 u2.2).mono fun e W' ⟨he, bel⟩ => ?_
  subst he
  exact ⟨_, rfl, _, _, _, [], _, [], hW', trodAll_mk1 (shut_bool Try.underlying4 _), (trodAll_cons_mk (Below.trod laidOut (by kernel_rfl) (of_decide_eq_true (by kernel_rfl)) k0 bel lt0) (trodAll_cons_mk (Below.trod laidOut (by kernel_rfl) (of_decide_eq_true (by kernel_rfl)) k1 bel lt1) (trodAll_cons_mk (Below.trod laidOut (by kernel_rfl) (of_decide_eq_true (by kernel_rfl)) k2 bel lt2) trodAll_mk0))), rfl, bel.frame _, fun h => by cases h⟩
theorem count10_law_holds : Rows.RunsCountSaid :=
  OpenClaim.holds_of_wide 7 Try.f7 rfl rfl rfl rfl rfl rfl rfl ⟨rfl, rfl, rfl, rfl, rfl⟩ rfl rfl rfl rfl rfl (by kernel_rfl) Try.func7 (by kernel_rfl)
    (of_decide_eq_true (by kernel_rfl)) (by unfold Func.isWrapper; first | (rw [if_pos (by decide +kernel)]; kernel_rfl) | (rw [if_neg (by decide +kernel)]; exact ⟨rfl, rfl⟩))
    (fun os started H enc _ => count10_law_lifted os started H enc)
#print axioms count10_law_holds
end Go.Proofs.Ytgkbnmknlmapdaa
