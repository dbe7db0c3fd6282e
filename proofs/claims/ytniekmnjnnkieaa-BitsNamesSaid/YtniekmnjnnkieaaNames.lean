/-
  The law BitsNames, which has no argument, returns true: the limits and errors have their numbers and the chapter's examples are so. No condition.
-/
import Derived.Test.YtniekmnjnnkieaaTurned
namespace Go.Proofs.Ytniekmnjnnkieaa
open Go.RowKit Go.ChangeShapes Go.WideShapes Go.ChangeAt
theorem check_ten : checkE one10 2 ((10 : Nat) : Int) = 0 := by rw [checkE_nat, if_pos]; exact ⟨by omega, by omega, .inr (by decide)⟩
theorem check_one : checkE nof 0 1 = 8 := checkE_bad (by decide)
theorem fits13 : fitsB ((1 : Nat) : Int) ((3 : Nat) : Int) = true := fitsB_nat.2 ⟨by omega, by omega⟩
theorem fits21 : fitsB 2 1 = false := by decide
theorem fits42 : fitsB ((4 : Nat) : Int) 2 = false := by decide
set_option maxRecDepth 100000 in
set_option maxHeartbeats 2000000 in
theorem names_walk (w : World) : Calls Try.prog 3 #[] w fun e w' => e = .returned (.bool true) ∧ Below w.heap.size w w' := by
  go_enter Try.func3, Try.ntmps3
  have hrow : Row (w.alloc (.cells #[.int .u8 181, .int .u8 3] 5)) w.heap.size 2 two181 := row_new w 2 two181 _ rfl
  have hrd := hrow.rd two181_lt
  have HRD := Lib.hid hrd
  clear hrow hrd
  go_wp2_with fail
  refine (take_ok _ _ _ 2 2 two181 0 3 HRD.out (by omega) (by omega) (by omega)).mono ?_
  rintro e w' ⟨rfl, rfl⟩
  rw [show ((numN two181 0 3 : Nat) : Int) = 5 by decide]
  go_wp2_with fail
  refine (take_ok _ _ _ 2 2 two181 16 0 HRD.out (by omega) (by omega) (by omega)).mono ?_
  rintro e w' ⟨rfl, rfl⟩
  rw [show ((numN two181 16 0 : Nat) : Int) = 0 by decide]
  go_wp2_with fail
  refine (take_end _ _ 2 2 9 8 (by omega) (by omega) (by omega) (by omega)).mono ?_
  rintro e w' ⟨rfl, rfl⟩
  go_wp2_with fail
  refine (take_arg _ _ 2 2 (-1) 1 (.inl (by omega))).mono ?_
  rintro e w' ⟨rfl, rfl⟩
  go_wp2_with fail
  refine (take_arg _ _ 2 2 0 33 (.inr (.inr (by omega)))).mono ?_
  rintro e w' ⟨rfl, rfl⟩
  go_wp2_with fail
  refine (ten_any _).mono ?_
  rintro e w2 ⟨g, rfl, hg, hb, hrow⟩
  have HB2 := Lib.hid (((Below.refl w.heap.size w).alloc (Nat.le_refl _) (.cells #[.int .u8 181, .int .u8 3] 5)).trans (hb.mono (by simp)))
  have hs2 : w.heap.size < w2.heap.size := by have := hb.size; simp at this; omega
  have HROW2 := Lib.hid hrow
  have hg2 := hrow.lt
  clear hb hrow
  go_wp2_with fail
  refine (align_ok _ (some ⟨g, 0, none⟩) 2 2 one10 10 ((HROW2.out.alloc _).rd one10_lt) check_ten).mono ?_
  rintro e w3 ⟨g3, rfl, hg3, hb, hrow⟩
  rw [show ((8 * 2 : Nat) : Int) = 16 from rfl]
  have HB3 := Lib.hid (HB2.out.trans (((Below.refl w.heap.size w2).alloc (by omega) (.cells #[.slice (some ⟨g, 0, none⟩) 2 2, .int .i64 10] 28)).trans (hb.mono (by simp; omega))))
  have hs3 : w2.heap.size < w3.heap.size := by have := hb.size; simp at this; omega
  have hbox := (hb.block w2.heap.size (by simp)).trans (heap_alloc_new _ _)
  have hrow2 : Row w3 g 2 one10 := (HROW2.out.alloc _).below hb (by simp; omega)
  have HROW3 := Lib.hid hrow2
  obtain ⟨k2, k3, k4, k5⟩ := pair_cells hbox
  have HBOX3 := Lib.hid hbox
  clear hb hrow hrow2 hbox
  go_wp2_with fail
  refine (turn_ok 1 3 _ (by omega) (by omega) fits13).mono ?_
  rintro e w' ⟨rfl, rfl⟩
  rw [show ((turnN 1 3 : Nat) : Int) = 4 by decide]
  go_wp2_with fail
  refine (turn_bad 2 1 _ (by omega) (by omega) (by omega) (by omega) fits21).mono ?_
  rintro e w' ⟨rfl, rfl⟩
  go_wp2_with fail
  refine (put_arg _ (some ⟨g, 0, none⟩) 2 2 one10 ((10 : Nat) : Int) 2 4 ((HROW3.out.alloc _).rd one10_lt) check_ten (by omega) (by omega) (by omega) fits42).mono ?_
  rintro e w4 ⟨rfl, hb⟩
  have HB4 := Lib.hid (HB3.out.trans (((Below.refl w.heap.size w3).alloc (by omega) (.cells #[.slice (some ⟨g3, 0, none⟩) 2 2, .int .i64 16] 28)).trans (hb.mono (by simp; omega))))
  have hs4 : w3.heap.size < w4.heap.size := by have := hb.size; simp at this; omega
  have hbox := (hb.block w3.heap.size (by simp)).trans (heap_alloc_new _ _)
  have HBOX4 := Lib.hid hbox
  clear hb k2 k3 k4 k5 hbox
  go_wp2_with fail
  refine (alive_any _).mono ?_
  rintro e w5 ⟨rfl, hb⟩
  have HB5 := Lib.hid (HB4.out.trans (((Below.refl w.heap.size w4).alloc (by omega) (.cells #[.slice none 0 0, .int .i64 0] 28)).trans (hb.mono (by simp; omega))))
  have hs5 : w3.heap.size < w5.heap.size := by have := hb.size; simp at this; omega
  have hbox := (hb.block w3.heap.size (by simp; omega)).trans ((Below.heap_alloc _ _ _ (by omega)).trans HBOX4.out)
  obtain ⟨k2, k3, k4, k5⟩ := pair_cells hbox
  clear hb hbox
  go_wp2_with fail
  refine (check_any _ none 0 0 nof 1 (rd_none _ _)).mono ?_
  rintro e w6 ⟨rfl, hb⟩
  rw [check_one]
  have HB6 := Lib.hid (HB5.out.trans (hb.mono (by omega)))
  clear hb
  go_wp2
  go_ret
  exact ⟨rfl, HB6.out⟩
set_option maxRecDepth 100000 in
theorem names_walk_lifted (os : Os) (started : os.Started) (H : Type) (enc : TypeId × Value → H) :
    ReturnsInHanded {} Try.checked os 3 .any (Rows.bitsNamesSpec.pre6 enc Try.prog Try.f3 Rows.bitsNamesRow.domain false) (Rows.bitsNamesSpec.post enc Try.prog Try.f3 false true false false) := by
  refine returnsInHanded_of_change (C := Try.checked) own started (by kernel_rfl) Try.func3
    (ChangeSpec.witness6 (enc := enc) (C := Try.checked) false ⟨#[], #[], []⟩ 8 (by kernel_rfl) (by kernel_rfl) (by kernel_rfl) (by kernel_rfl)) ?_
  intro W base args ds gs before hval0 hW _ _
  have hval : ∀ (j : Nat) t v, Try.f3.params[j]? = some t → args[j]? = some v → Value.okWide Try.prog W .any base t v := hval0
  have hW' := hW
  obtain ⟨p, q, hA0, hV, rfl, _, _⟩ := hW
  have hA : DataW.TrodAll enc Try.prog W 0 (fun _ => true) true Try.f3.params.toList args.toList ds p := hA0
  rw [Try.params3] at hA hval
  obtain ⟨hargs, rfl, rfl⟩ := trodAll_nil hA
  obtain rfl : args = #[] := by cases args; simp_all
  obtain ⟨rfl, rfl⟩ := trodVars_none hV
  clear hA0 hval0
  refine (names_walk  W ).mono fun e W' ⟨he, bel⟩ => ?_
  subst he
  exact ⟨_, rfl, _, _, _, [], _, [], hW', trodAll_mk1 (shut_bool Try.underlying4 _), trodAll_mk0, rfl, bel.frame _, fun h => by cases h⟩
theorem names_walk_holds : Rows.BitsNamesSaid :=
  OpenClaim.holds_of_wide 3 Try.f3 rfl rfl rfl rfl rfl rfl rfl ⟨rfl, rfl, rfl, rfl, rfl⟩ rfl rfl rfl rfl rfl (by kernel_rfl) Try.func3 (by kernel_rfl)
    (of_decide_eq_true (by kernel_rfl)) (by unfold Func.isWrapper; first | (rw [if_pos (by decide +kernel)]; kernel_rfl) | (rw [if_neg (by decide +kernel)]; exact ⟨rfl, rfl⟩))
    (fun os started H enc _ => names_walk_lifted os started H enc)
#print axioms names_walk_holds
end Go.Proofs.Ytniekmnjnnkieaa
