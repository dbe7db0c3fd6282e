/-
  Layer 9 (reach): ReachTells: a number's symbol, extra bits and extra are the document's; ReachOf: a symbol's extra bits, and its number, are the document's; any numbers.
-/
import Derived.Test.YtdecacajignkoaaReaImpl
namespace Go.Proofs.Ytdecacajignkoaa
open Go.RowKit Go.ChangeShapes Go.WideShapes Go.ChangeAt
set_option maxRecDepth 100000 in
set_option maxHeartbeats 2000000 in
theorem of9_law (s x : Int) (w : World) (_ : -9223372036854775808 ≤ s) (_ : s ≤ 9223372036854775807) (_ : -9223372036854775808 ≤ x) (_ : x ≤ 9223372036854775807) : Calls Try.prog 5 #[.int .i64 s, .int .i64 x] w fun e w' => e = .returned (.bool true) ∧ Below w.heap.size w w' := by
  have H0 := Lib.hid (fun w => lof9_any w s x)
  have H1 := Lib.hid (fun w => rlof9_any w s x)
  have H2 := Lib.hid (fun w => fof9_any w s x)
  have H3 := Lib.hid (fun w => rfof9_any w s x)
  have H4 := Lib.hid (fun w => lbit9_any w s)
  have H5 := Lib.hid (fun w => rlbit9_any w s)
  have H6 := Lib.hid (fun w => fbit9_any w s)
  have H7 := Lib.hid (fun w => rfbit9_any w s)
  obtain ⟨z0, hz0⟩ : ∃ z, z = loV s x := ⟨_, rfl⟩
  obtain ⟨z1, hz1⟩ : ∃ z, z = loE s x := ⟨_, rfl⟩
  obtain ⟨z2, hz2⟩ : ∃ z, z = foV s x := ⟨_, rfl⟩
  obtain ⟨z3, hz3⟩ : ∃ z, z = foE s x := ⟨_, rfl⟩
  obtain ⟨z4, hz4⟩ : ∃ z, z = lbV s := ⟨_, rfl⟩
  obtain ⟨z5, hz5⟩ : ∃ z, z = lbE s := ⟨_, rfl⟩
  obtain ⟨z6, hz6⟩ : ∃ z, z = fbV s := ⟨_, rfl⟩
  obtain ⟨z7, hz7⟩ : ∃ z, z = fbE s := ⟨_, rfl⟩
  simp only [← hz0, ← hz1, ← hz2, ← hz3, ← hz4, ← hz5, ← hz6, ← hz7] at H0 H1 H2 H3 H4 H5 H6 H7
  have ez0 : (z0 == z0) = true := by simp
  have ez1 : (z1 == z1) = true := by simp
  have ez2 : (z2 == z2) = true := by simp
  have ez3 : (z3 == z3) = true := by simp
  have ez4 : (z4 == z4) = true := by simp
  have ez5 : (z5 == z5) = true := by simp
  have ez6 : (z6 == z6) = true := by simp
  have ez7 : (z7 == z7) = true := by simp
  clear hz0 hz1 hz2 hz3 hz4 hz5 hz6 hz7
  go_enter Try.func5, Try.ntmps5
  go_wp2_with fail
  refine (H0.out w).mono ?_
  rintro e w1 ⟨rfl, b1⟩
  have B1 := Lib.hid (b1)
  clear b1
  go_wp2_with fail
  refine (H1.out w1).mono ?_
  rintro e w2 ⟨rfl, b2⟩
  have B2 := Lib.hid (B1.out.trans (b2.mono B1.out.size))
  clear b2
  go_wp2_with fail
  refine (H2.out w2).mono ?_
  rintro e w3 ⟨rfl, b3⟩
  have B3 := Lib.hid (B2.out.trans (b3.mono B2.out.size))
  clear b3
  go_wp2_with fail
  refine (H3.out w3).mono ?_
  rintro e w4 ⟨rfl, b4⟩
  have B4 := Lib.hid (B3.out.trans (b4.mono B3.out.size))
  clear b4
  go_wp2_with fail
  refine (H4.out w4).mono ?_
  rintro e w5 ⟨rfl, b5⟩
  have B5 := Lib.hid (B4.out.trans (b5.mono B4.out.size))
  clear b5
  go_wp2_with fail
  refine (H5.out w5).mono ?_
  rintro e w6 ⟨rfl, b6⟩
  have B6 := Lib.hid (B5.out.trans (b6.mono B5.out.size))
  clear b6
  go_wp2_with fail
  refine (H6.out w6).mono ?_
  rintro e w7 ⟨rfl, b7⟩
  have B7 := Lib.hid (B6.out.trans (b7.mono B6.out.size))
  clear b7
  go_wp2_with fail
  refine (H7.out w7).mono ?_
  rintro e w8 ⟨rfl, b8⟩
  have B8 := Lib.hid (B7.out.trans (b8.mono B7.out.size))
  clear b8
  go_wp2
  go_ret
  exact ⟨rfl, B8.out⟩
-- LAW
set_option maxRecDepth 100000 in
theorem of9_law_lifted (os : Os) (started : os.Started) (H : Type) (enc : TypeId × Value → H) :
    ReturnsInHanded {} Try.checked os 5 .any (Rows.reachOfSpec.pre6 enc Try.prog Try.f5 Rows.reachOfRow.domain false) (Rows.reachOfSpec.post enc Try.prog Try.f5 false true false false) := by
  refine returnsInHanded_of_change (C := Try.checked) own started (by kernel_rfl) Try.func5
    (ChangeSpec.witness6 (enc := enc) (C := Try.checked) false ⟨#[], #[.int .i64 0, .int .i64 0], []⟩ 8 (by kernel_rfl) (by kernel_rfl) (by kernel_rfl) (by kernel_rfl)) ?_
  intro W base args ds gs before hval0 hW _ _
  have hval : ∀ (j : Nat) t v, Try.f5.params[j]? = some t → args[j]? = some v → Value.okWide Try.prog W .any base t v := hval0
  have hW' := hW
  obtain ⟨p, q, hA0, hV, rfl, _, _⟩ := hW
  have hA : DataW.TrodAll enc Try.prog W 0 (fun _ => true) true Try.f5.params.toList args.toList ds p := hA0
  rw [Try.params5] at hA hval
  obtain ⟨v0, vs0, d0, ds0, p0, q0, hargs, rfl, rfl, h0, r0⟩ := trodAll_cons hA
  obtain ⟨v1, vs1, d1, ds1, p1, q1, rfl, rfl, rfl, h1, r1⟩ := trodAll_cons r0
  obtain ⟨rfl, rfl, rfl⟩ := trodAll_nil r1
  obtain rfl : args = #[v0, v1] := by cases args; simp_all
  obtain ⟨rfl, rfl⟩ := trodVars_none hV
  have k0 := h0
  have lt0 : ∀ x ∈ p0, x.block < W.heap.size := by obtain ⟨m, hm⟩ := k0; exact DataW.trod_lt m _ _ _ hm
  obtain ⟨a0, rfl, rfl, rfl, w0⟩ := open_int Try.underlying3 (hval 0 3 v0 rfl rfl) h0
  have u0 := wf_i64_range w0
  have k1 := h1
  have lt1 : ∀ x ∈ p1, x.block < W.heap.size := by obtain ⟨m, hm⟩ := k1; exact DataW.trod_lt m _ _ _ hm
  obtain ⟨a1, rfl, rfl, rfl, w1⟩ := open_int Try.underlying3 (hval 1 3 v1 rfl rfl) h1
  have u1 := wf_i64_range w1
  clear hA0 hval0
  refine (of9_law a0 a1 W u0.1 u0.2 u1.1 u1.2).mono fun e W' ⟨he, bel⟩ => ?_
  subst he
  exact ⟨_, rfl, _, _, _, [], _, [], hW', trodAll_mk1 (shut_bool Try.underlying4 _), (trodAll_cons_mk (Below.trod laidOut (by kernel_rfl) (of_decide_eq_true (by kernel_rfl)) k0 bel lt0) (trodAll_cons_mk (Below.trod laidOut (by kernel_rfl) (of_decide_eq_true (by kernel_rfl)) k1 bel lt1) trodAll_mk0)), rfl, bel.frame _, fun h => by cases h⟩
theorem of9_law_holds : Rows.ReachOfSaid :=
  OpenClaim.holds_of_wide 5 Try.f5 rfl rfl rfl rfl rfl rfl rfl ⟨rfl, rfl, rfl, rfl, rfl⟩ rfl rfl rfl rfl rfl (by kernel_rfl) Try.func5 (by kernel_rfl)
    (of_decide_eq_true (by kernel_rfl)) (by unfold Func.isWrapper; first | (rw [if_pos (by decide +kernel)]; kernel_rfl) | (rw [if_neg (by decide +kernel)]; exact ⟨rfl, rfl⟩))
    (fun os started H enc _ => of9_law_lifted os started H enc)
#print axioms of9_law_holds
end Go.Proofs.Ytdecacajignkoaa
