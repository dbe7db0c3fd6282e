/-
  The law MatchNames returns true: the limits and errors have their numbers, and the chapter's examples are so.
-/
import Derived.Test.YtkgpbdlhjhbijaaMatAlv
namespace Go.Proofs.Ytkgpbdlhjhbijaa
open Go.RowKit Go.ChangeShapes Go.WideShapes Go.ChangeAt Go.Joins
theorem long_txt (a p : Int) (v e : Int) (hv : lonV txtN 15 a p = v) (he : lonE 15 a p = e) (h1 : -9223372036854775808 ≤ a ∧ a ≤ 9223372036854775807) (h2 : -9223372036854775808 ≤ p ∧ p ≤ 9223372036854775807) (w : World) (A : Option Addr) (hr : ByR w w.heap.size A 15 15 txtN) :
    Calls Try.prog 8 #[.slice A 15 15, .int .i64 a, .int .i64 p] w fun x w' => x = .returned (.tuple #[.int .i64 v, .int .i64 e]) ∧ Below w.heap.size w w' := by
  refine (long7_any w _ A 15 15 txtN a p hr.1 h1.1 h1.2 h2.1 h2.2).mono ?_
  rintro x w' ⟨rfl, hd⟩
  rw [hv, he]
  exact ⟨rfl, hd.below (Below.refl _ _)⟩
theorem find_txt (a s h : Int) (d k e : Int) (hT : (((finT txtN 15 a s h).1 : Nat) : Int) = d) (hK : (((finT txtN 15 a s h).2 : Nat) : Int) = k) (hE : finE txtN 15 a s h = e) (w : World) (A : Option Addr) (hr : ByR w w.heap.size A 15 15 txtN) :
    Calls Try.prog 10 #[.slice A 15 15, .int .i64 a, .int .i64 s, .int .i64 h] w fun x w' => x = .returned (.tuple #[.int .i64 d, .int .i64 k, .int .i64 e]) ∧ Below w.heap.size w w' := by
  have := find7_any w A 15 15 txtN a s h hr
  rw [hT, hK, hE] at this
  exact this
set_option maxRecDepth 100000 in
set_option maxHeartbeats 4000000 in
theorem names7_law (w : World) : Calls Try.prog 3 #[] w fun e w' => e = .returned (.bool true) ∧ Below w.heap.size w w' := by
  have HX := Lib.hid (fun w => finds_yes w 9 8 9 6 5 (by decide +kernel) (by decide +kernel))
  have H0 := Lib.hid (long_txt 3 0 5 0 (by decide +kernel) (by decide +kernel) (by omega) (by omega))
  have H1 := Lib.hid (long_txt 9 3 5 0 (by decide +kernel) (by decide +kernel) (by omega) (by omega))
  have H2 := Lib.hid (long_txt 15 0 0 0 (by decide +kernel) (by decide +kernel) (by omega) (by omega))
  have H3 := Lib.hid (find_txt 8 32 9 0 0 6 (by decide +kernel) (by decide +kernel) (by decide +kernel))
  have H4 := Lib.hid (find_txt 9 32 0 0 0 6 (by decide +kernel) (by decide +kernel) (by decide +kernel))
  have H5 := Lib.hid (long_txt 3 3 0 2 (by decide +kernel) (by decide +kernel) (by omega) (by omega))
  have H6 := Lib.hid (find_txt 16 32 9 0 0 2 (by decide +kernel) (by decide +kernel) (by decide +kernel))
  have H7 := Lib.hid (find_txt 9 0 9 0 0 2 (by decide +kernel) (by decide +kernel) (by decide +kernel))
  have HB := Lib.hid (Below.refl w.heap.size w)
  go_enter Try.func3, Try.ntmps3
  go_wp2_with fail
  refine (text_any w).mono ?_
  rintro e t0 ⟨A0, rfl, hby, hb⟩
  have HBY := Lib.hid hby
  have HB0 := Lib.hid (HB.out.trans (hb.mono HB.out.size))
  clear hby hb HB
  go_wp2_with fail
  refine (H0.out _ _ HBY.out).mono ?_
  rintro e u0 ⟨rfl, hb⟩
  have HB := Lib.hid (HB0.out.trans (hb.mono HB0.out.size))
  clear hb HB0 HBY H0
  go_wp2_with fail
  refine (text_any u0).mono ?_
  rintro e t1 ⟨A1, rfl, hby, hb⟩
  have HBY := Lib.hid hby
  have HB1 := Lib.hid (HB.out.trans (hb.mono HB.out.size))
  clear hby hb HB
  go_wp2_with fail
  refine (H1.out _ _ HBY.out).mono ?_
  rintro e u1 ⟨rfl, hb⟩
  have HB := Lib.hid (HB1.out.trans (hb.mono HB1.out.size))
  clear hb HB1 HBY H1
  go_wp2_with fail
  refine (text_any u1).mono ?_
  rintro e t2 ⟨A2, rfl, hby, hb⟩
  have HBY := Lib.hid hby
  have HB2 := Lib.hid (HB.out.trans (hb.mono HB.out.size))
  clear hby hb HB
  go_wp2_with fail
  refine (H2.out _ _ HBY.out).mono ?_
  rintro e u2 ⟨rfl, hb⟩
  have HB := Lib.hid (HB2.out.trans (hb.mono HB2.out.size))
  clear hb HB2 HBY H2
  go_wp2_with fail
  refine (text_any u2).mono ?_
  rintro e t3 ⟨A3, rfl, hby, hb⟩
  have HBY := Lib.hid hby
  have HB3 := Lib.hid (HB.out.trans (hb.mono HB.out.size))
  clear hby hb HB
  go_wp2_with fail
  refine (H3.out _ _ HBY.out).mono ?_
  rintro e u3 ⟨rfl, hb⟩
  have HB := Lib.hid (HB3.out.trans (hb.mono HB3.out.size))
  clear hb HB3 HBY H3
  go_wp2_with fail
  refine (text_any u3).mono ?_
  rintro e t4 ⟨A4, rfl, hby, hb⟩
  have HBY := Lib.hid hby
  have HB4 := Lib.hid (HB.out.trans (hb.mono HB.out.size))
  clear hby hb HB
  go_wp2_with fail
  refine (H4.out _ _ HBY.out).mono ?_
  rintro e u4 ⟨rfl, hb⟩
  have HB := Lib.hid (HB4.out.trans (hb.mono HB4.out.size))
  clear hb HB4 HBY H4
  go_wp2_with fail
  refine (text_any u4).mono ?_
  rintro e t5 ⟨A5, rfl, hby, hb⟩
  have HBY := Lib.hid hby
  have HB5 := Lib.hid (HB.out.trans (hb.mono HB.out.size))
  clear hby hb HB
  go_wp2_with fail
  refine (H5.out _ _ HBY.out).mono ?_
  rintro e u5 ⟨rfl, hb⟩
  have HB := Lib.hid (HB5.out.trans (hb.mono HB5.out.size))
  clear hb HB5 HBY H5
  go_wp2_with fail
  refine (text_any u5).mono ?_
  rintro e t6 ⟨A6, rfl, hby, hb⟩
  have HBY := Lib.hid hby
  have HB6 := Lib.hid (HB.out.trans (hb.mono HB.out.size))
  clear hby hb HB
  go_wp2_with fail
  refine (H6.out _ _ HBY.out).mono ?_
  rintro e u6 ⟨rfl, hb⟩
  have HB := Lib.hid (HB6.out.trans (hb.mono HB6.out.size))
  clear hb HB6 HBY H6
  go_wp2_with fail
  refine (text_any u6).mono ?_
  rintro e t7 ⟨A7, rfl, hby, hb⟩
  have HBY := Lib.hid hby
  have HB7 := Lib.hid (HB.out.trans (hb.mono HB.out.size))
  clear hby hb HB
  go_wp2_with fail
  refine (H7.out _ _ HBY.out).mono ?_
  rintro e u7 ⟨rfl, hb⟩
  have HB := Lib.hid (HB7.out.trans (hb.mono HB7.out.size))
  clear hb HB7 HBY H7
  go_wp2_with fail
  refine (alive7_any u7).mono ?_
  rintro e x1 ⟨rfl, hb⟩
  have HB2 := Lib.hid (HB.out.trans (hb.mono HB.out.size))
  clear hb HB
  go_wp2_with fail
  refine (HX.out x1).mono ?_
  rintro e x2 ⟨rfl, hb⟩
  have HB3 := Lib.hid (HB2.out.trans (hb.mono HB2.out.size))
  clear hb HB2
  go_wp2
  go_ret
  exact ⟨rfl, HB3.out⟩
-- LAW
set_option maxRecDepth 100000 in
theorem names7_law_lifted (os : Os) (started : os.Started) (H : Type) (enc : TypeId × Value → H) :
    ReturnsInHanded {} Try.checked os 3 .any (Rows.matchNamesSpec.pre6 enc Try.prog Try.f3 Rows.matchNamesRow.domain false) (Rows.matchNamesSpec.post enc Try.prog Try.f3 false true false false) := by
  refine returnsInHanded_of_change (C := Try.checked) own started (by kernel_rfl) Try.func3
    (ChangeSpec.witness6 (enc := enc) (C := Try.checked) false ⟨#[], #[], []⟩ 8 (by kernel_rfl) (by kernel_rfl) (by kernel_rfl) (by kernel_rfl)) ?_
  intro W base args ds gs before hval0 hW _ _
  have hval : ∀ (j : Nat) t v, Try.f3.params[j]? = some t → args[j]? = some v → Value.okWide Try.prog W .any base t v := hval0
  have hW' := hW
  obtain ⟨p, q, hA0, hV, rfl, _, _⟩ := hW
  have hA : DataW.TrodAll enc Try.prog W 0 (fun _ => true) true Try.f3.params.toList args.toList ds p := hA0
  rw [Try.params3] at hA
  obtain ⟨hargs, rfl, rfl⟩ := trodAll_nil hA
  obtain rfl : args = #[] := by cases args; simp_all
  obtain ⟨rfl, rfl⟩ := trodVars_none hV
  clear hA0 hval0
  refine (names7_law W ).mono fun e W' ⟨he, bel⟩ => ?_
  subst he
  exact ⟨_, rfl, _, _, _, [], _, [], hW', trodAll_mk1 (shut_bool Try.underlying4 _), trodAll_mk0, rfl, bel.frame _, fun h => by cases h⟩
theorem names7_law_holds : Rows.MatchNamesSaid :=
  OpenClaim.holds_of_wide 3 Try.f3 rfl rfl rfl rfl rfl rfl rfl ⟨rfl, rfl, rfl, rfl, rfl⟩ rfl rfl rfl rfl rfl (by kernel_rfl) Try.func3 (by kernel_rfl)
    (of_decide_eq_true (by kernel_rfl)) (by unfold Func.isWrapper; first | (rw [if_pos (by decide +kernel)]; kernel_rfl) | (rw [if_neg (by decide +kernel)]; exact ⟨rfl, rfl⟩))
    (fun os started H enc _ => names7_law_lifted os started H enc)
#print axioms names7_law_holds
end Go.Proofs.Ytkgpbdlhjhbijaa
