/-
  Layer 9 (reach): ReachNames: the errors have their numbers, and the chapter's examples are so.
-/
import Derived.Test.YtdecacajignkoaaReaAlv
namespace Go.Proofs.Ytdecacajignkoaa
open Go.RowKit Go.ChangeShapes Go.WideShapes Go.ChangeAt
theorem ex0 : lgS 3 = 257 ∧ lgB 3 = 0 ∧ lgX 3 = 0 ∧ lgE 3 = 0 := by decide
theorem ex1 : lgS 257 = 284 ∧ lgB 257 = 5 ∧ lgX 257 = 30 ∧ lgE 257 = 0 := by decide
theorem ex2 : lgS 258 = 285 ∧ lgB 258 = 0 ∧ lgX 258 = 0 ∧ lgE 258 = 0 := by decide
theorem ex3 : frS 1 = 0 ∧ frB 1 = 0 ∧ frX 1 = 0 ∧ frE 1 = 0 := by decide
theorem ex4 : frS 32768 = 29 ∧ frB 32768 = 13 ∧ frX 32768 = 8191 ∧ frE 32768 = 0 := by decide
theorem eo0 : loV 265 1 = 12 ∧ loE 265 1 = 0 := by decide
theorem eo1 : loV 284 31 = 0 ∧ loE 284 31 = 90 := by decide
theorem eo2 : loV 265 2 = 0 ∧ loE 265 2 = 2 := by decide
theorem eo3 : loV 256 0 = 0 ∧ loE 256 0 = 90 := by decide
theorem eo4 : foV 4 0 = 5 ∧ foE 4 0 = 0 := by decide
theorem eo5 : foV 30 0 = 0 ∧ foE 30 0 = 90 := by decide
theorem eo6 : fbV 29 = 13 ∧ fbE 29 = 0 := by decide
theorem el2 : lgS 2 = 0 ∧ lgB 2 = 0 ∧ lgX 2 = 0 ∧ lgE 2 = 2 := by decide
theorem ef0 : frS 0 = 0 ∧ frB 0 = 0 ∧ frX 0 = 0 ∧ frE 0 = 2 := by decide
set_option maxRecDepth 100000 in
set_option maxHeartbeats 4000000 in
theorem names9_law (w : World) : Calls Try.prog 3 #[] w fun e w' => e = .returned (.bool true) ∧ Below w.heap.size w w' := by
  have HA := Lib.hid alive9_any
  have HX0 := Lib.hid (fun w => islong9_any w 3 257 0 0 ex0.1 ex0.2.1 ex0.2.2.1 ex0.2.2.2)
  have HX1 := Lib.hid (fun w => islong9_any w 257 284 5 30 ex1.1 ex1.2.1 ex1.2.2.1 ex1.2.2.2)
  have HX2 := Lib.hid (fun w => islong9_any w 258 285 0 0 ex2.1 ex2.2.1 ex2.2.2.1 ex2.2.2.2)
  have HX3 := Lib.hid (fun w => isfar9_any w 1 0 0 0 ex3.1 ex3.2.1 ex3.2.2.1 ex3.2.2.2)
  have HX4 := Lib.hid (fun w => isfar9_any w 32768 29 13 8191 ex4.1 ex4.2.1 ex4.2.2.1 ex4.2.2.2)
  have HO0 := Lib.hid (fun w => lof9_any w 265 1)
  rw [eo0.1, eo0.2] at HO0
  have HO1 := Lib.hid (fun w => lof9_any w 284 31)
  rw [eo1.1, eo1.2] at HO1
  have HO2 := Lib.hid (fun w => lof9_any w 265 2)
  rw [eo2.1, eo2.2] at HO2
  have HO3 := Lib.hid (fun w => lof9_any w 256 0)
  rw [eo3.1, eo3.2] at HO3
  have HO4 := Lib.hid (fun w => fof9_any w 4 0)
  rw [eo4.1, eo4.2] at HO4
  have HO5 := Lib.hid (fun w => fof9_any w 30 0)
  rw [eo5.1, eo5.2] at HO5
  have HO6 := Lib.hid (fun w => fbit9_any w 29)
  rw [eo6.1, eo6.2] at HO6
  have HL := Lib.hid (fun w => long9_any w 2)
  rw [el2.1, el2.2.1, el2.2.2.1, el2.2.2.2] at HL
  have HF := Lib.hid (fun w => far9_any w 0)
  rw [ef0.1, ef0.2.1, ef0.2.2.1, ef0.2.2.2] at HF
  go_enter Try.func3, Try.ntmps3
  go_wp2_with fail
  refine (HX0.out w).mono ?_
  rintro e w1 ⟨rfl, b1⟩
  have Q1 := Lib.hid (b1)
  clear b1
  go_wp2_with fail
  refine (HX1.out w1).mono ?_
  rintro e w2 ⟨rfl, b2⟩
  have Q2 := Lib.hid (Q1.out.trans (b2.mono Q1.out.size))
  clear b2
  go_wp2_with fail
  refine (HX2.out w2).mono ?_
  rintro e w3 ⟨rfl, b3⟩
  have Q3 := Lib.hid (Q2.out.trans (b3.mono Q2.out.size))
  clear b3
  go_wp2_with fail
  refine (HX3.out w3).mono ?_
  rintro e w4 ⟨rfl, b4⟩
  have Q4 := Lib.hid (Q3.out.trans (b4.mono Q3.out.size))
  clear b4
  go_wp2_with fail
  refine (HX4.out w4).mono ?_
  rintro e w5 ⟨rfl, b5⟩
  have Q5 := Lib.hid (Q4.out.trans (b5.mono Q4.out.size))
  clear b5
  go_wp2_with fail
  refine (HO0.out w5).mono ?_
  rintro e w6 ⟨rfl, b6⟩
  have Q6 := Lib.hid (Q5.out.trans (b6.mono Q5.out.size))
  clear b6
  go_wp2_with fail
  refine (HO1.out w6).mono ?_
  rintro e w7 ⟨rfl, b7⟩
  have Q7 := Lib.hid (Q6.out.trans (b7.mono Q6.out.size))
  clear b7
  go_wp2_with fail
  refine (HO2.out w7).mono ?_
  rintro e w8 ⟨rfl, b8⟩
  have Q8 := Lib.hid (Q7.out.trans (b8.mono Q7.out.size))
  clear b8
  go_wp2_with fail
  refine (HO3.out w8).mono ?_
  rintro e w9 ⟨rfl, b9⟩
  have Q9 := Lib.hid (Q8.out.trans (b9.mono Q8.out.size))
  clear b9
  go_wp2_with fail
  refine (HO4.out w9).mono ?_
  rintro e w10 ⟨rfl, b10⟩
  have Q10 := Lib.hid (Q9.out.trans (b10.mono Q9.out.size))
  clear b10
  go_wp2_with fail
  refine (HO5.out w10).mono ?_
  rintro e w11 ⟨rfl, b11⟩
  have Q11 := Lib.hid (Q10.out.trans (b11.mono Q10.out.size))
  clear b11
  go_wp2_with fail
  refine (HO6.out w11).mono ?_
  rintro e w12 ⟨rfl, b12⟩
  have Q12 := Lib.hid (Q11.out.trans (b12.mono Q11.out.size))
  clear b12
  go_wp2_with fail
  refine (HL.out w12).mono ?_
  rintro e w13 ⟨rfl, b13⟩
  have Q13 := Lib.hid (Q12.out.trans (b13.mono Q12.out.size))
  clear b13
  go_wp2_with fail
  refine (HF.out w13).mono ?_
  rintro e w14 ⟨rfl, b14⟩
  have Q14 := Lib.hid (Q13.out.trans (b14.mono Q13.out.size))
  clear b14
  go_wp2_with fail
  refine (HA.out w14).mono ?_
  rintro e w15 ⟨rfl, b15⟩
  have Q15 := Lib.hid (Q14.out.trans (b15.mono Q14.out.size))
  clear b15
  go_wp2
  go_ret
  exact ⟨rfl, Q15.out⟩
-- LAW
set_option maxRecDepth 100000 in
theorem names9_law_lifted (os : Os) (started : os.Started) (H : Type) (enc : TypeId × Value → H) :
    ReturnsInHanded {} Try.checked os 3 .any (Rows.reachNamesSpec.pre6 enc Try.prog Try.f3 Rows.reachNamesRow.domain false) (Rows.reachNamesSpec.post enc Try.prog Try.f3 false true false false) := by
  refine returnsInHanded_of_change (C := Try.checked) own started (by kernel_rfl) Try.func3
    (ChangeSpec.witness6 (enc := enc) (C := Try.checked) false ⟨#[], #[], []⟩ 8 (by kernel_rfl) (by kernel_rfl) (by kernel_rfl) (by kernel_rfl)) ?_
  intro W base args ds gs before hval0 hW _ _
  have hval : ∀ (j : Nat) t v, Try.f3.params[j]? = some t → args[j]? = some v → Value.okWide Try.prog W .any base t v := hval0
  have hW' := hW
  obtain ⟨p, q, hA0, hV, rfl, _, _⟩ := hW
  have hA : DataW.TrodAll enc Try.prog W 0 (fun _ => true) true Try.f3.params.toList args.toList ds p := hA0
  rw [Try.params3] at hA
  obtain ⟨hargs, rfl, rfl⟩ := trodAll_nil hA
  obtain rfl : args = #[] := by cases args; simp_all
  obtain ⟨rfl, rfl⟩ := trodVars_none hV
  clear hA0 hval0
  refine (names9_law W ).mono fun e W' ⟨he, bel⟩ => ?_
  subst he
  exact ⟨_, rfl, _, _, _, [], _, [], hW', trodAll_mk1 (shut_bool Try.underlying4 _), trodAll_mk0, rfl, bel.frame _, fun h => by cases h⟩
theorem names9_law_holds : Rows.ReachNamesSaid :=
  OpenClaim.holds_of_wide 3 Try.f3 rfl rfl rfl rfl rfl rfl rfl ⟨rfl, rfl, rfl, rfl, rfl⟩ rfl rfl rfl rfl rfl (by kernel_rfl) Try.func3 (by kernel_rfl)
    (of_decide_eq_true (by kernel_rfl)) (by unfold Func.isWrapper; first | (rw [if_pos (by decide +kernel)]; kernel_rfl) | (rw [if_neg (by decide +kernel)]; exact ⟨rfl, rfl⟩))
    (fun os started H enc _ => names9_law_lifted os started H enc)
#print axioms names9_law_holds
end Go.Proofs.Ytdecacajignkoaa
