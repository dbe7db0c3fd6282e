/-
  The law BuildNames, which has no argument, returns true. No condition.
-/
import Derived.Test.YtgppikhfkikknaaBuildAlv
namespace Go.Proofs.Ytgppikhfkikknaa
open Go.RowKit Go.ChangeShapes Go.WideShapes Go.ChangeAt
def lB : List Int := [1, 1, 2, 4, 8]
def lC : List Int := [1, 1, 1]
def lD : List Int := [0, 7, 0]
theorem askB : askE lB 3 = 0 := by decide +kernel
theorem strBB : strB (lenO lB 3) (outL lB 3) = ⟨#[3, 3, 3, 3, 1]⟩ := by decide +kernel
theorem askC : askE lC 15 = 0 := by decide +kernel
def wC : Nat → Nat := itemW (freqN lC) 3
theorem nC : nI (freqN lC) 3 = 3 := by decide +kernel
theorem c0 : ∀ t, t < rowLen 3 0 → rowW 3 wC 0 t = tab0 [1, 1, 1] t := all_of (M := 3) (by decide +kernel)
theorem c1 : ∀ t, t < rowLen 3 1 → rowW 3 wC 1 t = tab0 [1, 1, 1, 2] t := lv_step c0 (all_of (M := 4) (by decide +kernel))
theorem c2 : ∀ t, t < rowLen 3 2 → rowW 3 wC 2 t = tab0 [1, 1, 1, 2, 3] t := lv_step c1 (all_of (M := 5) (by decide +kernel))
theorem lenC3 (i : Nat) : cntN 3 wC 14 4 i = cntS (stepI 3 2 wC (prs (tab0 [1, 1, 1, 2, 3]))) 12 4 i :=
  ev_fix (n := 3) (k := 2) (M := 5) rfl (by decide +kernel) c2 (by decide +kernel) 12 4 i (by decide +kernel)
theorem outC : ∀ j, j < 3 → outL lC 15 j = tab0 [2, 2, 1] j := by
  have h : ∀ j, outL lC 15 j = if freqN lC j = 0 then 0 else cntS (stepI 3 2 wC (prs (tab0 [1, 1, 1, 2, 3]))) 12 4 (rankN (freqN lC) 3 j) := fun j => by
    unfold outL
    rw [askC, if_pos rfl]
    show lenB (freqN lC) 3 15 j = _
    unfold lenB
    rw [nC, if_neg (by omega : ¬ 3 = 1)]
    show (if freqN lC j = 0 then 0 else cntN 3 wC 14 4 _) = _
    rw [lenC3]
  intro j hj
  rw [h]
  exact all_of (M := 3) (f := fun j => if freqN lC j = 0 then 0 else cntS (stepI 3 2 wC (prs (tab0 [1, 1, 1, 2, 3]))) 12 4 (rankN (freqN lC) 3 j)) (by decide +kernel) j hj
theorem strC : strB (lenO lC 15) (outL lC 15) = ⟨#[2, 2, 1]⟩ := by
  have h : lenO lC 15 = 3 := by unfold lenO; rw [askC]; rfl
  rw [h, strB_ext outC]; decide +kernel
theorem askD : askE lD 15 = 0 := by decide +kernel
theorem strD : strB (lenO lD 15) (outL lD 15) = ⟨#[0, 1, 0]⟩ := by decide +kernel
theorem askN : askE [] 15 = 0 := by decide +kernel
theorem strN : strB (lenO [] 15) (outL [] 15) = ByteArray.empty := by decide +kernel
theorem askC1 : askE lC 1 = 4 := by decide +kernel
theorem askNeg : askE [-1] 15 = 2 := by decide +kernel
theorem askBig : askE [1073741825] 15 = 2 := by decide +kernel
theorem askN16 : askE [] 16 = 2 := by decide +kernel
theorem askMany : askE (List.replicate 321 0) 15 = 4 := by unfold askE; rw [if_neg (by omega), if_pos (by rw [List.length_replicate]; omega)]
set_option maxRecDepth 100000 in
set_option maxHeartbeats 4000000 in
theorem names_law (w : World) : Calls Try.prog 3 #[] w fun e w' => e = .returned (.bool true) ∧ Below w.heap.size w w' := by
  have HMK := Lib.hid (make_ints 321 (by omega))
  go_enter Try.func3, Try.ntmps3
  go_wp2_with fail
  refine (is_yes _ (some ⟨w.heap.size, 0, none⟩) 5 lB 3 ⟨#[3, 3, 3, 3, 1]⟩ 5 rfl (rdI_new w lB #[.int .i64 1, .int .i64 1, .int .i64 2, .int .i64 4, .int .i64 8] rfl) (fun h => by cases h) (by decide) (by decide) (by omega) (by omega) askB strBB).mono ?_
  rintro e w1 ⟨rfl, b1⟩
  have HB1 := Lib.hid (((Below.refl w.heap.size w).alloc (Nat.le_refl _) _).trans (b1.mono (by simp)))
  clear b1
  go_wp2_with fail
  refine (is_yes _ (some ⟨w1.heap.size, 0, none⟩) 3 lC 15 ⟨#[2, 2, 1]⟩ 3 rfl (rdI_new w1 lC #[.int .i64 1, .int .i64 1, .int .i64 1] rfl) (fun h => by cases h) (by decide) (by decide) (by omega) (by omega) askC strC).mono ?_
  rintro e w2 ⟨rfl, b2⟩
  have HB2 := Lib.hid ((HB1.out.alloc HB1.out.size _).trans (b2.mono (by have := HB1.out.size; simp; omega)))
  clear b2
  go_wp2_with fail
  refine (is_yes _ (some ⟨w2.heap.size, 0, none⟩) 3 lD 15 ⟨#[0, 1, 0]⟩ 3 rfl (rdI_new w2 lD #[.int .i64 0, .int .i64 7, .int .i64 0] rfl) (fun h => by cases h) (by decide) (by decide) (by omega) (by omega) askD strD).mono ?_
  rintro e w3 ⟨rfl, b3⟩
  have HB3 := Lib.hid ((HB2.out.alloc HB2.out.size _).trans (b3.mono (by have := HB2.out.size; simp; omega)))
  clear b3
  go_wp2_with fail
  refine (is_yes _ none 0 [] 15 ByteArray.empty 0 rfl (SrcL.none_ _ _ _ _) (fun _ => rfl) (by decide) (by decide) (by omega) (by omega) askN strN).mono ?_
  rintro e w4 ⟨rfl, b4⟩
  have HB4 := Lib.hid (HB3.out.trans (b4.mono HB3.out.size))
  clear b4
  go_wp2_with fail
  refine (lengths_any _ (some ⟨w4.heap.size, 0, none⟩) 3 lC 1 (rdI_new w4 lC #[.int .i64 1, .int .i64 1, .int .i64 1] rfl) (fun h => by cases h) (by decide) (by decide) (by omega) (by omega)).mono ?_
  rintro e w5 ⟨A5, c5, rfl, b5, _⟩
  rw [askC1]
  have HB5 := Lib.hid ((HB4.out.alloc HB4.out.size _).trans (b5.mono (by have := HB4.out.size; simp; omega)))
  clear b5
  go_wp2_with fail
  refine (lengths_any _ (some ⟨w5.heap.size, 0, none⟩) 1 [-1] 15 (rdI_new w5 [-1] #[.int .i64 (-1)] rfl) (fun h => by cases h) (by decide) (by decide) (by omega) (by omega)).mono ?_
  rintro e w6 ⟨A6, c6, rfl, b6, _⟩
  rw [askNeg]
  have HB6 := Lib.hid ((HB5.out.alloc HB5.out.size _).trans (b6.mono (by have := HB5.out.size; simp; omega)))
  clear b6
  go_wp2_with fail
  refine (lengths_any _ (some ⟨w6.heap.size, 0, none⟩) 1 [1073741825] 15 (rdI_new w6 [1073741825] #[.int .i64 1073741825] rfl) (fun h => by cases h) (by decide) (by decide) (by omega) (by omega)).mono ?_
  rintro e w7 ⟨A7, c7, rfl, b7, _⟩
  rw [askBig]
  have HB7 := Lib.hid ((HB6.out.alloc HB6.out.size _).trans (b7.mono (by have := HB6.out.size; simp; omega)))
  clear b7
  go_wp2_with fail
  refine (lengths_any _ none 0 [] 16 (SrcL.none_ _ _ _ _) (fun _ => rfl) (by decide) (by decide) (by omega) (by omega)).mono ?_
  rintro e w8 ⟨A8, c8, rfl, b8, _⟩
  rw [askN16]
  have HB8 := Lib.hid (HB7.out.trans (b8.mono HB7.out.size))
  clear b8
  have hmk : ∀ u : World, (Instr.makeSlice 23 (.int .i64 321) (.int .i64 321)).run Try.prog u = .ok (.slice (some ⟨u.heap.size, 0, none⟩) 321 321) (u.alloc (.cells (madeCells #[.int .i64 0] 321) 3)) := HMK.out
  go_wp2_with fail
  clear hmk
  refine (lengths_any _ (some ⟨w8.heap.size, 0, none⟩) 321 (List.replicate 321 0) 15 (rdI_new w8 (List.replicate 321 0) _ (by rw [toList_madeCells_one]; simp [intsL])) (fun h => by cases h) (by decide) (by decide) (by omega) (by omega)).mono ?_
  rintro e w9 ⟨A9, c9, rfl, b9, _⟩
  rw [askMany]
  have HB9 := Lib.hid ((HB8.out.alloc HB8.out.size _).trans (b9.mono (by have := HB8.out.size; simp; omega)))
  clear b9
  go_wp2_with fail
  refine (alive4_any w9).mono ?_
  rintro e w10 ⟨rfl, b10⟩
  have HB10 := Lib.hid (HB9.out.trans (b10.mono HB9.out.size))
  clear b10
  go_wp2
  go_ret
  exact ⟨rfl, HB10.out⟩
-- LAW
set_option maxRecDepth 100000 in
theorem names_law_lifted (os : Os) (started : os.Started) (H : Type) (enc : TypeId × Value → H) :
    ReturnsInHanded {} Try.checked os 3 .any (Rows.buildNamesSpec.pre6 enc Try.prog Try.f3 Rows.buildNamesRow.domain false) (Rows.buildNamesSpec.post enc Try.prog Try.f3 false true false false) := by
  refine returnsInHanded_of_change (C := Try.checked) own started (by kernel_rfl) Try.func3
    (ChangeSpec.witness6 (enc := enc) (C := Try.checked) false ⟨#[], #[], []⟩ 8 (by kernel_rfl) (by kernel_rfl) (by kernel_rfl) (by kernel_rfl)) ?_
  intro W base args ds gs before hval0 hW _ _
  have hval : ∀ (j : Nat) t v, Try.f3.params[j]? = some t → args[j]? = some v → Value.okWide Try.prog W .any base t v := hval0
  have hW' := hW
  obtain ⟨p, q, hA0, hV, rfl, _, _⟩ := hW
  have hA : DataW.TrodAll enc Try.prog W 0 (fun _ => true) true Try.f3.params.toList args.toList ds p := hA0
  rw [Try.params3] at hA
  obtain ⟨hargs, rfl, rfl⟩ := trodAll_nil hA
  obtain rfl : args = #[] := by cases args; simp_all
  obtain ⟨rfl, rfl⟩ := trodVars_none hV
  clear hA0 hval0
  refine (names_law W ).mono fun e W' ⟨he, bel⟩ => ?_
  subst he
  exact ⟨_, rfl, _, _, _, [], _, [], hW', trodAll_mk1 (shut_bool Try.underlying4 _), trodAll_mk0, rfl, bel.frame _, fun h => by cases h⟩
theorem names_law_holds : Rows.BuildNamesSaid :=
  OpenClaim.holds_of_wide 3 Try.f3 rfl rfl rfl rfl rfl rfl rfl ⟨rfl, rfl, rfl, rfl, rfl⟩ rfl rfl rfl rfl rfl (by kernel_rfl) Try.func3 (by kernel_rfl)
    (of_decide_eq_true (by kernel_rfl)) (by unfold Func.isWrapper; first | (rw [if_pos (by decide +kernel)]; kernel_rfl) | (rw [if_neg (by decide +kernel)]; exact ⟨rfl, rfl⟩))
    (fun os started H enc _ => names_law_lifted os started H enc)
#print axioms names_law_holds
end Go.Proofs.Ytgppikhfkikknaa
