/-
  Layer 9 (reach): ReachRises: of two numbers the greater one has no lesser symbol, with at least as many extra bits, but for the last length; any two.
-/
import Derived.Test.YtdecacajignkoaaReaAlv
namespace Go.Proofs.Ytdecacajignkoaa
open Go.RowKit Go.ChangeShapes Go.WideShapes Go.ChangeAt
set_option maxRecDepth 100000 in
set_option maxHeartbeats 8000000 in
theorem rises9_law (n m : Int) (w : World) (_ : -9223372036854775808 ≤ n) (_ : n ≤ 9223372036854775807) (_ : -9223372036854775808 ≤ m) (_ : m ≤ 9223372036854775807) :
    Calls Try.prog 7 #[.int .i64 n, .int .i64 m] w fun e w' => e = .returned (.bool true) ∧ Below w.heap.size w w' := by
  have HA := Lib.hid (alive9_any)
  have H1 := Lib.hid (fun w => long9_any w n)
  have H2 := Lib.hid (fun w => long9_any w m)
  have H3 := Lib.hid (fun w => far9_any w n)
  have H4 := Lib.hid (fun w => far9_any w m)
  have hl := @long_more n m
  have hf := @far_more n m
  obtain ⟨Sa, hSa⟩ : ∃ z, z = lgS n := ⟨_, rfl⟩
  obtain ⟨Ba, hBa⟩ : ∃ z, z = lgB n := ⟨_, rfl⟩
  obtain ⟨Xa, hXa⟩ : ∃ z, z = lgX n := ⟨_, rfl⟩
  obtain ⟨Ea, hEa⟩ : ∃ z, z = lgE n := ⟨_, rfl⟩
  rw [← hSa, ← hBa, ← hXa, ← hEa] at H1
  obtain ⟨Sc, hSc⟩ : ∃ z, z = lgS m := ⟨_, rfl⟩
  obtain ⟨Bc, hBc⟩ : ∃ z, z = lgB m := ⟨_, rfl⟩
  obtain ⟨Xc, hXc⟩ : ∃ z, z = lgX m := ⟨_, rfl⟩
  obtain ⟨Ec, hEc⟩ : ∃ z, z = lgE m := ⟨_, rfl⟩
  rw [← hSc, ← hBc, ← hXc, ← hEc] at H2
  obtain ⟨Ss, hSs⟩ : ∃ z, z = frS n := ⟨_, rfl⟩
  obtain ⟨Bs, hBs⟩ : ∃ z, z = frB n := ⟨_, rfl⟩
  obtain ⟨Xs, hXs⟩ : ∃ z, z = frX n := ⟨_, rfl⟩
  obtain ⟨Es, hEs⟩ : ∃ z, z = frE n := ⟨_, rfl⟩
  rw [← hSs, ← hBs, ← hXs, ← hEs] at H3
  obtain ⟨Sv, hSv⟩ : ∃ z, z = frS m := ⟨_, rfl⟩
  obtain ⟨Bv, hBv⟩ : ∃ z, z = frB m := ⟨_, rfl⟩
  obtain ⟨Xv, hXv⟩ : ∃ z, z = frX m := ⟨_, rfl⟩
  obtain ⟨Ev, hEv⟩ : ∃ z, z = frE m := ⟨_, rfl⟩
  rw [← hSv, ← hBv, ← hXv, ← hEv] at H4
  rw [← hEa, ← hEc, ← hSa, ← hSc, ← hBa, ← hBc, ← hXa, ← hXc] at hl
  rw [← hEs, ← hEv, ← hSs, ← hSv, ← hBs, ← hBv, ← hXs, ← hXv] at hf
  clear hSa hBa hXa hEa hSc hBc hXc hEc hSs hBs hXs hEs hSv hBv hXv hEv
  have hnm : (decide (n < m) = false ∧ decide (m ≤ n) = true) ∨ (decide (n < m) = true ∧ decide (m ≤ n) = false ∧ n < m) := by
    by_cases q : n < m
    · exact .inr ⟨decY q, decN (by omega), q⟩
    · exact .inl ⟨decN q, decY (by omega)⟩
  have hE1 : (Ea == 0) = false ∨ ((Ea == 0) = true ∧ (Ec == 0) = false) ∨ ((Ea == 0) = true ∧ (Ec == 0) = true ∧ (¬ n < m ∨ (decide (Sc < Sa) = false ∧ (decide (m < 258) = false ∨ decide (m < 258) = true ∧ decide (Bc < Ba) = false) ∧ ((Sa == Sc) = false ∨ (Sa == Sc) = true ∧ decide (Xc ≤ Xa) = false)))) := by
    by_cases q1 : Ea = 0
    · by_cases q2 : Ec = 0
      · refine .inr (.inr ⟨by simp [q1], by simp [q2], ?_⟩)
        by_cases q3 : n < m
        · obtain ⟨g1, g2, g3⟩ := hl q1 q2 q3
          refine .inr ⟨decN (by omega), ?_, ?_⟩
          · by_cases q4 : m < 258
            · exact .inr ⟨decY q4, decN (by have := g2 q4; omega)⟩
            · exact .inl (decN q4)
          · by_cases q5 : Sa = Sc
            · exact .inr ⟨by simp [q5], decN (by have := g3 q5; omega)⟩
            · exact .inl (by simp [q5])
        · exact .inl q3
      · exact .inr (.inl ⟨by simp [q1], by simp [q2]⟩)
    · exact .inl (by simp [q1])
  have hF1 : (Es != 0) = true ∨ ((Es != 0) = false ∧ (Ev != 0) = true) ∨ ((Es != 0) = false ∧ (Ev != 0) = false ∧ (¬ n < m ∨ (decide (Ss ≤ Sv) = true ∧ decide (Bs ≤ Bv) = true ∧ (decide (Ss < Sv) = true ∨ decide (Ss < Sv) = false ∧ decide (Xs < Xv) = true)))) := by
    by_cases q1 : Es = 0
    · by_cases q2 : Ev = 0
      · refine .inr (.inr ⟨by simp [q1], by simp [q2], ?_⟩)
        by_cases q3 : n < m
        · obtain ⟨g1, g2, g3⟩ := hf q1 q2 q3
          refine .inr ⟨decY g1, decY g2, ?_⟩
          by_cases q5 : Ss = Sv
          · exact .inr ⟨decN (by omega), decY (g3 q5)⟩
          · exact .inl (decY (by omega))
        · exact .inl q3
      · exact .inr (.inl ⟨by simp [q1], by simp [q2]⟩)
    · exact .inl (by simp [q1])
  clear hl hf
  rcases hnm with ⟨m1, m2⟩ | ⟨m1, m2, m3⟩ <;>
  rcases hE1 with c1 | ⟨c1, c2⟩ | ⟨c1, c2, c3 | ⟨c3, c4 | ⟨c4, c5⟩, c6 | ⟨c6, c7⟩⟩⟩ <;>
  rcases hF1 with d1 | ⟨d1, d2⟩ | ⟨d1, d2, d3 | ⟨d3, d4, d5 | ⟨d5, d6⟩⟩⟩ <;>
  first
  | (exfalso; omega)
  | (
    go_enter Try.func7, Try.ntmps7
    go_wp2_with fail
    refine (HA.out w).mono ?_
    rintro e w1 ⟨rfl, b1⟩
    have Q1 := Lib.hid (b1)
    clear b1
    go_wp2_with fail
    refine (H1.out w1).mono ?_
    rintro e w2 ⟨rfl, b2⟩
    have Q2 := Lib.hid (Q1.out.trans (b2.mono Q1.out.size))
    clear b2
    go_wp2_with fail
    refine (H2.out w2).mono ?_
    rintro e w3 ⟨rfl, b3⟩
    have Q3 := Lib.hid (Q2.out.trans (b3.mono Q2.out.size))
    clear b3
    go_wp2_with fail
    refine (H3.out w3).mono ?_
    rintro e w4 ⟨rfl, b4⟩
    have Q4 := Lib.hid (Q3.out.trans (b4.mono Q3.out.size))
    clear b4
    go_wp2_with fail
    refine (H4.out w4).mono ?_
    rintro e w5 ⟨rfl, b5⟩
    have Q5 := Lib.hid (Q4.out.trans (b5.mono Q4.out.size))
    clear b5
    go_wp2
    go_ret
    exact ⟨rfl, Q5.out⟩)
-- LAW
set_option maxRecDepth 100000 in
theorem rises9_law_lifted (os : Os) (started : os.Started) (H : Type) (enc : TypeId × Value → H) :
    ReturnsInHanded {} Try.checked os 7 .any (Rows.reachRisesSpec.pre6 enc Try.prog Try.f7 Rows.reachRisesRow.domain false) (Rows.reachRisesSpec.post enc Try.prog Try.f7 false true false false) := by
  refine returnsInHanded_of_change (C := Try.checked) own started (by kernel_rfl) Try.func7
    (ChangeSpec.witness6 (enc := enc) (C := Try.checked) false ⟨#[], #[.int .i64 0, .int .i64 0], []⟩ 8 (by kernel_rfl) (by kernel_rfl) (by kernel_rfl) (by kernel_rfl)) ?_
  intro W base args ds gs before hval0 hW _ _
  have hval : ∀ (j : Nat) t v, Try.f7.params[j]? = some t → args[j]? = some v → Value.okWide Try.prog W .any base t v := hval0
  have hW' := hW
  obtain ⟨p, q, hA0, hV, rfl, _, _⟩ := hW
  have hA : DataW.TrodAll enc Try.prog W 0 (fun _ => true) true Try.f7.params.toList args.toList ds p := hA0
  rw [Try.params7] at hA hval
  obtain ⟨v0, vs0, d0, ds0, p0, q0, hargs, rfl, rfl, h0, r0⟩ := trodAll_cons hA
  obtain ⟨v1, vs1, d1, ds1, p1, q1, rfl, rfl, rfl, h1, r1⟩ := trodAll_cons r0
  obtain ⟨rfl, rfl, rfl⟩ := trodAll_nil r1
  obtain rfl : args = #[v0, v1] := by cases args; simp_all
  obtain ⟨rfl, rfl⟩ := trodVars_none hV
  have k0 := h0
  have lt0 : ∀ x ∈ p0, x.block < W.heap.size := by obtain ⟨m, hm⟩ := k0; exact DataW.trod_lt m _ _ _ hm
  obtain ⟨a0, rfl, rfl, rfl, w0⟩ := open_int Try.underlying3 (hval 0 3 v0 rfl rfl) h0
  have u0 := wf_i64_range w0
  have k1 := h1
  have lt1 : ∀ x ∈ p1, x.block < W.heap.size := by obtain ⟨m, hm⟩ := k1; exact DataW.trod_lt m _ _ _ hm
  obtain ⟨a1, rfl, rfl, rfl, w1⟩ := open_int Try.underlying3 (hval 1 3 v1 rfl rfl) h1
  have u1 := wf_i64_range w1
  clear hA0 hval0
  refine (rises9_law a0 a1 W u0.1 u0.2 u1.1 u1.2).mono fun e W' ⟨he, bel⟩ => ?_
  subst he
  exact ⟨_, rfl, _, _, _, [], _, [], hW', trodAll_mk1 (shut_bool Try.underlying4 _), (trodAll_cons_mk (Below.trod laidOut (by kernel_rfl) (of_decide_eq_true (by kernel_rfl)) k0 bel lt0) (trodAll_cons_mk (Below.trod laidOut (by kernel_rfl) (of_decide_eq_true (by kernel_rfl)) k1 bel lt1) trodAll_mk0)), rfl, bel.frame _, fun h => by cases h⟩
theorem rises9_law_holds : Rows.ReachRisesSaid :=
  OpenClaim.holds_of_wide 7 Try.f7 rfl rfl rfl rfl rfl rfl rfl ⟨rfl, rfl, rfl, rfl, rfl⟩ rfl rfl rfl rfl rfl (by kernel_rfl) Try.func7 (by kernel_rfl)
    (of_decide_eq_true (by kernel_rfl)) (by unfold Func.isWrapper; first | (rw [if_pos (by decide +kernel)]; kernel_rfl) | (rw [if_neg (by decide +kernel)]; exact ⟨rfl, rfl⟩))
    (fun os started H enc _ => rises9_law_lifted os started H enc)
#print axioms rises9_law_holds
end Go.Proofs.Ytdecacajignkoaa
