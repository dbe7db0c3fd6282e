/-
  The law MatchFinds, for every bytes and numbers, returns true: Long and Find answer as the document's own do, and what is handed in stays. No condition.
-/
import Derived.Test.YtkgpbdlhjhbijaaMatAlv
namespace Go.Proofs.Ytkgpbdlhjhbijaa
open Go.RowKit Go.ChangeShapes Go.WideShapes Go.ChangeAt Go.Joins
set_option maxRecDepth 100000 in
set_option maxHeartbeats 4000000 in
theorem finds7_law (A : Option Addr) (n c : Nat) (f : Nat → Nat) (a p s h : Int) (w : World) (hr : ByR w w.heap.size A n c f) (ha1 : -9223372036854775808 ≤ a) (ha2 : a ≤ 9223372036854775807) (hp1 : -9223372036854775808 ≤ p) (hp2 : p ≤ 9223372036854775807) (_ : -9223372036854775808 ≤ s) (_ : s ≤ 9223372036854775807) (_ : -9223372036854775808 ≤ h) (_ : h ≤ 9223372036854775807) :
    Calls Try.prog 4 #[.slice A n c, .int .i64 a, .int .i64 p, .int .i64 s, .int .i64 h] w fun e w' => e = .returned (.bool true) ∧ Below w.heap.size w w' := by
  have HR := Lib.hid hr
  by_cases hskip : (4000 < n ∧ n ≤ 131072) ∨ 131082 < n
  · rcases hskip with ⟨q1, q2⟩ | q
    · have d1 : decide (4000 < (n : Int)) = true := decY (by omega)
      have d2 : decide ((n : Int) ≤ 131072) = true := decY (by omega)
      clear hr
      go_enter Try.func4, Try.ntmps4
      go_wp2
      go_ret
      exact ⟨rfl, Below.refl _ _⟩
    · have d1 : decide (4000 < (n : Int)) = true := decY (by omega)
      have d2 : decide ((n : Int) ≤ 131072) = false := decN (by omega)
      have d3 : decide (131082 < (n : Int)) = true := decY (by omega)
      clear hr
      go_enter Try.func4, Try.ntmps4
      go_wp2
      go_ret
      exact ⟨rfl, Below.refl _ _⟩
  have d3 : decide (131082 < (n : Int)) = false := decN (by omega)
  obtain ⟨A1, c1, w1, hrun, hown, hb1, _⟩ := run_twin w w.heap.size A n c f hr.1 (by omega) 25 hr.2.1
  have hby1 := ByR.of_own hown hr.1.1
  have HRUN := Lib.hid hrun; have HB1 := Lib.hid hb1; have HY1 := Lib.hid hby1; have HR1 := Lib.hid ((hr.below hb1 (Nat.le_refl _)).more hb1.size)
  clear hr hrun hown hb1 hby1
  obtain ⟨v1, hv1⟩ : ∃ v, v = lonV f n a p := ⟨_, rfl⟩
  obtain ⟨v2, hv2⟩ : ∃ v, v = lonE n a p := ⟨_, rfl⟩
  obtain ⟨v3, hv3⟩ : ∃ v : Int, v = ((finT f n a s h).1 : Nat) := ⟨_, rfl⟩
  obtain ⟨v4, hv4⟩ : ∃ v : Int, v = ((finT f n a s h).2 : Nat) := ⟨_, rfl⟩
  obtain ⟨v5, hv5⟩ : ∃ v, v = finE f n a s h := ⟨_, rfl⟩
  have hl1 := long7_any w1 w1.heap.size A1 n c1 f a p HY1.out.1 ha1 ha2 hp1 hp2
  rw [← hv1, ← hv2] at hl1
  have HV1 := Lib.hid hv1; have HV2 := Lib.hid hv2; have HV3 := Lib.hid hv3; have HV4 := Lib.hid hv4; have HV5 := Lib.hid hv5; have HL1 := Lib.hid hl1
  clear hv1 hv2 hv3 hv4 hv5 hl1
  by_cases h4 : 4000 < n
  · have d1 : decide (4000 < (n : Int)) = true := decY (by omega)
    have d2 : decide ((n : Int) ≤ 131072) = false := decN (by omega)
    clear hskip
    go_enter Try.func4, Try.ntmps4
    go_wp2_with (at_builtin; refine wpList_append_run rfl (.const (.slice none 0 0)) (.tmp 35) 25 rfl (.slice none 0 0) (.slice A n c) (.slice A1 n c1) w1 rfl rfl HRUN.out ?_)
    refine (HL1.out).mono ?_
    rintro e w2 ⟨rfl, hd⟩
    have HB2 := Lib.hid (hd.below HB1.out); have HY2 := Lib.hid (hd.below (Below.refl w1.heap.size w1))
    clear hd
    go_wp2_with fail
    refine (rlong7_any w2 w1.heap.size A n c f a p (HR1.out.1.below HY2.out (Nat.le_refl _))).mono ?_
    rintro e w3 ⟨rfl, hd⟩
    rw [← HV1.out, ← HV2.out]
    have HB3 := Lib.hid (hd.below HB2.out); have HY3 := Lib.hid (hd.below HY2.out)
    clear hd HB2 HY2
    go_wp2_with fail
    refine (find7_any w3 A1 n c1 f a s h ((HY1.out.below HY3.out (Nat.le_refl _)).more HY3.out.size)).mono ?_
    rintro e w4 ⟨rfl, hb⟩
    rw [← HV3.out, ← HV4.out, ← HV5.out]
    have HB4 := Lib.hid (HB3.out.trans (hb.mono HB3.out.size)); have HY4 := Lib.hid (HY3.out.trans (hb.mono HY3.out.size))
    clear hb HB3 HY3
    go_wp2_with fail
    refine (rfind7_any w4 w1.heap.size A n c f a s h (HR1.out.1.below HY4.out (Nat.le_refl _))).mono ?_
    rintro e w5 ⟨rfl, hd⟩
    rw [← HV3.out, ← HV4.out, ← HV5.out]
    have HB5 := Lib.hid (hd.below HB4.out); have HY5 := hd.below HY4.out
    have s1 := run_str (HY1.out.1.below HY5 (Nat.le_refl _)) c1
    have s2 := run_str (HR1.out.1.below HY5 (Nat.le_refl _)) c
    clear hd HB4 HY4 HY5
    go_wp2
    go_ret
    exact ⟨rfl, HB5.out⟩
  · have d1 : decide (4000 < (n : Int)) = false := decN (by omega)
    clear hskip
    go_enter Try.func4, Try.ntmps4
    go_wp2_with (at_builtin; refine wpList_append_run rfl (.const (.slice none 0 0)) (.tmp 35) 25 rfl (.slice none 0 0) (.slice A n c) (.slice A1 n c1) w1 rfl rfl HRUN.out ?_)
    refine (HL1.out).mono ?_
    rintro e w2 ⟨rfl, hd⟩
    have HB2 := Lib.hid (hd.below HB1.out); have HY2 := Lib.hid (hd.below (Below.refl w1.heap.size w1))
    clear hd
    go_wp2_with fail
    refine (rlong7_any w2 w1.heap.size A n c f a p (HR1.out.1.below HY2.out (Nat.le_refl _))).mono ?_
    rintro e w3 ⟨rfl, hd⟩
    rw [← HV1.out, ← HV2.out]
    have HB3 := Lib.hid (hd.below HB2.out); have HY3 := Lib.hid (hd.below HY2.out)
    clear hd HB2 HY2
    go_wp2_with fail
    refine (find7_any w3 A1 n c1 f a s h ((HY1.out.below HY3.out (Nat.le_refl _)).more HY3.out.size)).mono ?_
    rintro e w4 ⟨rfl, hb⟩
    rw [← HV3.out, ← HV4.out, ← HV5.out]
    have HB4 := Lib.hid (HB3.out.trans (hb.mono HB3.out.size)); have HY4 := Lib.hid (HY3.out.trans (hb.mono HY3.out.size))
    clear hb HB3 HY3
    go_wp2_with fail
    refine (rfind7_any w4 w1.heap.size A n c f a s h (HR1.out.1.below HY4.out (Nat.le_refl _))).mono ?_
    rintro e w5 ⟨rfl, hd⟩
    rw [← HV3.out, ← HV4.out, ← HV5.out]
    have HB5 := Lib.hid (hd.below HB4.out); have HY5 := hd.below HY4.out
    have s1 := run_str (HY1.out.1.below HY5 (Nat.le_refl _)) c1
    have s2 := run_str (HR1.out.1.below HY5 (Nat.le_refl _)) c
    clear hd HB4 HY4 HY5
    go_wp2
    go_ret
    exact ⟨rfl, HB5.out⟩
-- LAW
set_option maxRecDepth 100000 in
theorem finds7_law_lifted (os : Os) (started : os.Started) (H : Type) (enc : TypeId × Value → H) :
    ReturnsInHanded {} Try.checked os 4 .any (Rows.matchFindsSpec.pre6 enc Try.prog Try.f4 Rows.matchFindsRow.domain false) (Rows.matchFindsSpec.post enc Try.prog Try.f4 false true false false) := by
  refine returnsInHanded_of_change (C := Try.checked) own started (by kernel_rfl) Try.func4
    (ChangeSpec.witness6 (enc := enc) (C := Try.checked) false ⟨#[], #[.slice none 0 0, .int .i64 0, .int .i64 0, .int .i64 0, .int .i64 0], []⟩ 8 (by kernel_rfl) (by kernel_rfl) (by kernel_rfl) (by kernel_rfl)) ?_
  intro W base args ds gs before hval0 hW _ _
  have hval : ∀ (j : Nat) t v, Try.f4.params[j]? = some t → args[j]? = some v → Value.okWide Try.prog W .any base t v := hval0
  have hW' := hW
  obtain ⟨p, q, hA0, hV, rfl, _, _⟩ := hW
  have hA : DataW.TrodAll enc Try.prog W 0 (fun _ => true) true Try.f4.params.toList args.toList ds p := hA0
  rw [Try.params4] at hA hval
  obtain ⟨v0, vs0, d0, ds0, p0, q0, hargs, rfl, rfl, h0, r0⟩ := trodAll_cons hA
  obtain ⟨v1, vs1, d1, ds1, p1, q1, rfl, rfl, rfl, h1, r1⟩ := trodAll_cons r0
  obtain ⟨v2, vs2, d2, ds2, p2, q2, rfl, rfl, rfl, h2, r2⟩ := trodAll_cons r1
  obtain ⟨v3, vs3, d3, ds3, p3, q3, rfl, rfl, rfl, h3, r3⟩ := trodAll_cons r2
  obtain ⟨v4, vs4, d4, ds4, p4, q4, rfl, rfl, rfl, h4, r4⟩ := trodAll_cons r3
  obtain ⟨rfl, rfl, rfl⟩ := trodAll_nil r4
  obtain rfl : args = #[v0, v1, v2, v3, v4] := by cases args; simp_all
  obtain ⟨rfl, rfl⟩ := trodVars_none hV
  have k0 := h0
  have lt0 : ∀ x ∈ p0, x.block < W.heap.size := by obtain ⟨m, hm⟩ := k0; exact DataW.trod_lt m _ _ _ hm
  obtain ⟨A0, len0, cap0, rfl⟩ := okWide_slice Try.underlying25 (hval 0 25 v0 rfl rfl)
  obtain ⟨f0, hr0⟩ := open_byr h0
  have k1 := h1
  have lt1 : ∀ x ∈ p1, x.block < W.heap.size := by obtain ⟨m, hm⟩ := k1; exact DataW.trod_lt m _ _ _ hm
  obtain ⟨a1, rfl, rfl, rfl, w1⟩ := open_int Try.underlying3 (hval 1 3 v1 rfl rfl) h1
  have u1 := wf_i64_range w1
  have k2 := h2
  have lt2 : ∀ x ∈ p2, x.block < W.heap.size := by obtain ⟨m, hm⟩ := k2; exact DataW.trod_lt m _ _ _ hm
  obtain ⟨a2, rfl, rfl, rfl, w2⟩ := open_int Try.underlying3 (hval 2 3 v2 rfl rfl) h2
  have u2 := wf_i64_range w2
  have k3 := h3
  have lt3 : ∀ x ∈ p3, x.block < W.heap.size := by obtain ⟨m, hm⟩ := k3; exact DataW.trod_lt m _ _ _ hm
  obtain ⟨a3, rfl, rfl, rfl, w3⟩ := open_int Try.underlying3 (hval 3 3 v3 rfl rfl) h3
  have u3 := wf_i64_range w3
  have k4 := h4
  have lt4 : ∀ x ∈ p4, x.block < W.heap.size := by obtain ⟨m, hm⟩ := k4; exact DataW.trod_lt m _ _ _ hm
  obtain ⟨a4, rfl, rfl, rfl, w4⟩ := open_int Try.underlying3 (hval 4 3 v4 rfl rfl) h4
  have u4 := wf_i64_range w4
  clear hA0 hval0
  refine (finds7_law A0 len0 cap0 f0 a1 a2 a3 a4 W hr0 u1.1 u1.2 u2.1 u2.2 u3.1 u3.2 u4.1 u4.2).mono fun e W' ⟨he, bel⟩ => ?_
  subst he
  exact ⟨_, rfl, _, _, _, [], _, [], hW', trodAll_mk1 (shut_bool Try.underlying4 _), (trodAll_cons_mk (Below.trod laidOut (by kernel_rfl) (of_decide_eq_true (by kernel_rfl)) k0 bel lt0) (trodAll_cons_mk (Below.trod laidOut (by kernel_rfl) (of_decide_eq_true (by kernel_rfl)) k1 bel lt1) (trodAll_cons_mk (Below.trod laidOut (by kernel_rfl) (of_decide_eq_true (by kernel_rfl)) k2 bel lt2) (trodAll_cons_mk (Below.trod laidOut (by kernel_rfl) (of_decide_eq_true (by kernel_rfl)) k3 bel lt3) (trodAll_cons_mk (Below.trod laidOut (by kernel_rfl) (of_decide_eq_true (by kernel_rfl)) k4 bel lt4) trodAll_mk0))))), rfl, bel.frame _, fun h => by cases h⟩
theorem finds7_law_holds : Rows.MatchFindsSaid :=
  OpenClaim.holds_of_wide 4 Try.f4 rfl rfl rfl rfl rfl rfl rfl ⟨rfl, rfl, rfl, rfl, rfl⟩ rfl rfl rfl rfl rfl (by kernel_rfl) Try.func4 (by kernel_rfl)
    (of_decide_eq_true (by kernel_rfl)) (by unfold Func.isWrapper; first | (rw [if_pos (by decide +kernel)]; kernel_rfl) | (rw [if_neg (by decide +kernel)]; exact ⟨rfl, rfl⟩))
    (fun os started H enc _ => finds7_law_lifted os started H enc)
#print axioms finds7_law_holds
end Go.Proofs.Ytkgpbdlhjhbijaa
