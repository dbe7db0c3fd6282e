/-
  Layer 9 (reach): ReachTells: a number's symbol, extra bits and extra are the document's; ReachOf: a symbol's extra bits, and its number, are the document's; any numbers.
-/
import Derived.Test.YtdecacajignkoaaReaImpl
namespace Go.Proofs.Ytdecacajignkoaa
open Go.RowKit Go.ChangeShapes Go.WideShapes Go.ChangeAt
set_option maxRecDepth 100000 in
set_option maxHeartbeats 2000000 in
theorem tells9_law (n : Int) (w : World) (_ : -9223372036854775808 ≤ n) (_ : n ≤ 9223372036854775807) : Calls Try.prog 4 #[.int .i64 n] w fun e w' => e = .returned (.bool true) ∧ Below w.heap.size w w' := by
  have H0 := Lib.hid (fun w => long9_any w n)
  have H1 := Lib.hid (fun w => rlong9_any w n)
  have H2 := Lib.hid (fun w => far9_any w n)
  have H3 := Lib.hid (fun w => rfar9_any w n)
  obtain ⟨z0, hz0⟩ : ∃ z, z = lgS n := ⟨_, rfl⟩
  obtain ⟨z1, hz1⟩ : ∃ z, z = lgB n := ⟨_, rfl⟩
  obtain ⟨z2, hz2⟩ : ∃ z, z = lgX n := ⟨_, rfl⟩
  obtain ⟨z3, hz3⟩ : ∃ z, z = lgE n := ⟨_, rfl⟩
  obtain ⟨z4, hz4⟩ : ∃ z, z = frS n := ⟨_, rfl⟩
  obtain ⟨z5, hz5⟩ : ∃ z, z = frB n := ⟨_, rfl⟩
  obtain ⟨z6, hz6⟩ : ∃ z, z = frX n := ⟨_, rfl⟩
  obtain ⟨z7, hz7⟩ : ∃ z, z = frE n := ⟨_, rfl⟩
  simp only [← hz0, ← hz1, ← hz2, ← hz3, ← hz4, ← hz5, ← hz6, ← hz7] at H0 H1 H2 H3
  have ez0 : (z0 == z0) = true := by simp
  have ez1 : (z1 == z1) = true := by simp
  have ez2 : (z2 == z2) = true := by simp
  have ez3 : (z3 == z3) = true := by simp
  have ez4 : (z4 == z4) = true := by simp
  have ez5 : (z5 == z5) = true := by simp
  have ez6 : (z6 == z6) = true := by simp
  have ez7 : (z7 == z7) = true := by simp
  clear hz0 hz1 hz2 hz3 hz4 hz5 hz6 hz7
  go_enter Try.func4, Try.ntmps4
  go_wp2_with fail
  refine (H0.out w).mono ?_
  rintro e w1 ⟨rfl, b1⟩
  have B1 := Lib.hid (b1)
  clear b1
  go_wp2_with fail
  refine (H1.out w1).mono ?_
  rintro e w2 ⟨rfl, b2⟩
  have B2 := Lib.hid (B1.out.trans (b2.mono B1.out.size))
  clear b2
  go_wp2_with fail
  refine (H2.out w2).mono ?_
  rintro e w3 ⟨rfl, b3⟩
  have B3 := Lib.hid (B2.out.trans (b3.mono B2.out.size))
  clear b3
  go_wp2_with fail
  refine (H3.out w3).mono ?_
  rintro e w4 ⟨rfl, b4⟩
  have B4 := Lib.hid (B3.out.trans (b4.mono B3.out.size))
  clear b4
  go_wp2
  go_ret
  exact ⟨rfl, B4.out⟩
-- LAW
set_option maxRecDepth 100000 in
theorem tells9_law_lifted (os : Os) (started : os.Started) (H : Type) (enc : TypeId × Value → H) :
    ReturnsInHanded {} Try.checked os 4 .any (Rows.reachTellsSpec.pre6 enc Try.prog Try.f4 Rows.reachTellsRow.domain false) (Rows.reachTellsSpec.post enc Try.prog Try.f4 false true false false) := by
  refine returnsInHanded_of_change (C := Try.checked) own started (by kernel_rfl) Try.func4
    (ChangeSpec.witness6 (enc := enc) (C := Try.checked) false ⟨#[], #[.int .i64 0], []⟩ 8 (by kernel_rfl) (by kernel_rfl) (by kernel_rfl) (by kernel_rfl)) ?_
  intro W base args ds gs before hval0 hW _ _
  have hval : ∀ (j : Nat) t v, Try.f4.params[j]? = some t → args[j]? = some v → Value.okWide Try.prog W .any base t v := hval0
  have hW' := hW
  obtain ⟨p, q, hA0, hV, rfl, _, _⟩ := hW
  have hA : DataW.TrodAll enc Try.prog W 0 (fun _ => true) true Try.f4.params.toList args.toList ds p := hA0
  rw [Try.params4] at hA hval
  obtain ⟨v0, vs0, d0, ds0, p0, q0, hargs, rfl, rfl, h0, r0⟩ := trodAll_cons hA
  obtain ⟨rfl, rfl, rfl⟩ := trodAll_nil r0
  obtain rfl : args = #[v0] := by cases args; simp_all
  obtain ⟨rfl, rfl⟩ := trodVars_none hV
  have k0 := h0
  have lt0 : ∀ x ∈ p0, x.block < W.heap.size := by obtain ⟨m, hm⟩ := k0; exact DataW.trod_lt m _ _ _ hm
  obtain ⟨a0, rfl, rfl, rfl, w0⟩ := open_int Try.underlying3 (hval 0 3 v0 rfl rfl) h0
  have u0 := wf_i64_range w0
  clear hA0 hval0
  refine (tells9_law a0 W u0.1 u0.2).mono fun e W' ⟨he, bel⟩ => ?_
  subst he
  exact ⟨_, rfl, _, _, _, [], _, [], hW', trodAll_mk1 (shut_bool Try.underlying4 _), (trodAll_cons_mk (Below.trod laidOut (by kernel_rfl) (of_decide_eq_true (by kernel_rfl)) k0 bel lt0) trodAll_mk0), rfl, bel.frame _, fun h => by cases h⟩
theorem tells9_law_holds : Rows.ReachTellsSaid :=
  OpenClaim.holds_of_wide 4 Try.f4 rfl rfl rfl rfl rfl rfl rfl ⟨rfl, rfl, rfl, rfl, rfl⟩ rfl rfl rfl rfl rfl (by kernel_rfl) Try.func4 (by kernel_rfl)
    (of_decide_eq_true (by kernel_rfl)) (by unfold Func.isWrapper; first | (rw [if_pos (by decide +kernel)]; kernel_rfl) | (rw [if_neg (by decide +kernel)]; exact ⟨rfl, rfl⟩))
    (fun os started H enc _ => tells9_law_lifted os started H enc)
#print axioms tells9_law_holds
end Go.Proofs.Ytdecacajignkoaa
