/-
  The law SumsNames, which has no argument, returns true: the chapter's examples are so. No condition.
-/
import Derived.Test.YtpnnnmkonodbiaaSumAlive
namespace Go.Proofs.Ytpnnnmkonodbiaa
open Go.RowKit Go.ChangeShapes Go.WideShapes Go.ChangeAt
def nof (_ : Nat) : Nat := 0
theorem rd_none (w : World) (B : Nat) : RdB w B none 0 nof := ⟨fun _ => by show 0 < 256; omega, fun h => absurd h (by omega)⟩
def sevenN (j : Nat) : Nat := if j = 0 then 7 else 0
theorem sevenN_lt (j : Nat) : sevenN j < 256 := by unfold sevenN; split <;> omega
theorem row0 : rowN 0 = 0 := by decide +kernel
theorem row1 : rowN 1 = 1996959894 := by decide +kernel
theorem row128 : rowN 128 = 3988292384 := by decide +kernel
theorem row255 : rowN 255 = 755167117 := by decide +kernel
theorem crc_nof : crcV rowN 0 nof 0 = 0 := rfl
theorem adl_nof : adlV 1 nof 0 = 1 := rfl
theorem adl_seven : adlV 0 sevenN 1 = 458759 := by decide +kernel
set_option maxRecDepth 100000 in
set_option maxHeartbeats 2000000 in
theorem names_law (w : World) : Calls Try.prog 3 #[] w fun e w' => e = .returned (.bool true) ∧ Below w.heap.size w w' := by
  have hz := (zero_of_info infoTab).1
  go_enter Try.func3, Try.ntmps3
  go_wp2_with fail
  refine (table_any w).mono ?_
  rintro e w1 ⟨rfl, h1⟩
  have H1 := Lib.hid h1
  clear h1
  go_wp2_with (first
    | (refine wpList_store_row rfl _ _ _ rfl w1.heap.size (tabA rowN) rfl rfl _ (tabA zero0) (tab_new w1 zero0) (by rw [tabA_size]; exact szTab) (by rw [tabA_size, tabA_size]) (tabA_one _) ?_))
  obtain ⟨U, hU⟩ : ∃ U, U = (w1.alloc (.cells (tabA zero0) 23)).setRow w1.heap.size (tabA rowN) := ⟨_, rfl⟩
  have ht : Tab U w1.heap.size rowN := by rw [hU]; exact (tab_new w1 zero0).setRow
  have hb : Below w1.heap.size w1 U := by rw [hU]; exact below_setRow ((Below.refl _ _).alloc (Nat.le_refl _) _) (Nat.le_refl _) _
  rw [← hU]
  have HT := Lib.hid ht
  have HB := Lib.hid (H1.out.trans (hb.mono H1.out.size))
  have hlt := ht.lt
  clear hb ht hU
  go_wp2_with fail
  refine (alive_any U).mono ?_
  rintro e w2 ⟨rfl, h2⟩
  have ht2 := HT.out.below h2 hlt
  have c0 := ht2.cell (j := 0) (by omega)
  have c1 := ht2.cell (j := 1) (by omega)
  have c2 := ht2.cell (j := 128) (by omega)
  have c3 := ht2.cell (j := 255) (by omega)
  rw [row0] at c0
  rw [row1] at c1
  rw [row128] at c2
  rw [row255] at c3
  have HT2 := Lib.hid ht2
  have HB2 := Lib.hid (HB.out.trans (h2.mono HB.out.size))
  clear h2 ht2
  go_wp2_with fail
  clear c0 c1 c2 c3
  refine wp_load_row _ _ rfl w1.heap.size rfl _ (tabA rowN) (0, 0) _ HT2.out Try.underlying23 rfl (by rw [tabA_size]; exact szTab) ?_
  go_wp2_with fail
  refine (crc_any w2 w2.heap.size rowN 0 none 0 0 nof row_lt (by omega) (rd_none _ _) (Nat.le_refl _) (by omega)).mono ?_
  rintro e w3 ⟨rfl, h3⟩
  rw [crc_nof]
  have HB3 := Lib.hid (HB2.out.trans (h3.mono HB2.out.size))
  clear h3
  go_wp2_with fail
  refine (adl_any w3 0 1 none 0 0 nof (by omega) (rd_none _ _) (by omega)).mono ?_
  rintro e w4 ⟨rfl, rfl⟩
  rw [adl_nof]
  go_wp2_with fail
  have hrd := (row_new w3 1 sevenN #[.int .u8 7] rfl).rd sevenN_lt
  refine (adl_any _ _ 0 _ 1 1 sevenN (by omega) hrd (by omega)).mono ?_
  rintro e w4 ⟨rfl, rfl⟩
  rw [adl_seven]
  go_wp2
  go_ret
  exact ⟨rfl, HB3.out.alloc HB3.out.size _⟩
-- LAW
set_option maxRecDepth 100000 in
theorem names_law_lifted (os : Os) (started : os.Started) (H : Type) (enc : TypeId × Value → H) :
    ReturnsInHanded {} Try.checked os 3 .any (Rows.sumsNamesSpec.pre6 enc Try.prog Try.f3 Rows.sumsNamesRow.domain false) (Rows.sumsNamesSpec.post enc Try.prog Try.f3 false true false false) := by
  refine returnsInHanded_of_change (C := Try.checked) own started (by kernel_rfl) Try.func3
    (ChangeSpec.witness6 (enc := enc) (C := Try.checked) false ⟨#[], #[], []⟩ 8 (by kernel_rfl) (by kernel_rfl) (by kernel_rfl) (by kernel_rfl)) ?_
  intro W base args ds gs before hval0 hW _ _
  have hval : ∀ (j : Nat) t v, Try.f3.params[j]? = some t → args[j]? = some v → Value.okWide Try.prog W .any base t v := hval0
  have hW' := hW
  obtain ⟨p, q, hA0, hV, rfl, _, _⟩ := hW
  have hA : DataW.TrodAll enc Try.prog W 0 (fun _ => true) true Try.f3.params.toList args.toList ds p := hA0
  rw [Try.params3] at hA
  obtain ⟨hargs, rfl, rfl⟩ := trodAll_nil hA
  obtain rfl : args = #[] := by cases args; simp_all
  obtain ⟨rfl, rfl⟩ := trodVars_none hV
  clear hA0 hval0
  refine (names_law W ).mono fun e W' ⟨he, bel⟩ => ?_
  subst he
  exact ⟨_, rfl, _, _, _, [], _, [], hW', trodAll_mk1 (shut_bool Try.underlying4 _), trodAll_mk0, rfl, bel.frame _, fun h => by cases h⟩
theorem names_law_holds : Rows.SumsNamesSaid :=
  OpenClaim.holds_of_wide 3 Try.f3 rfl rfl rfl rfl rfl rfl rfl ⟨rfl, rfl, rfl, rfl, rfl⟩ rfl rfl rfl rfl rfl (by kernel_rfl) Try.func3 (by kernel_rfl)
    (of_decide_eq_true (by kernel_rfl)) (by unfold Func.isWrapper; first | (rw [if_pos (by decide +kernel)]; kernel_rfl) | (rw [if_neg (by decide +kernel)]; exact ⟨rfl, rfl⟩))
    (fun os started H enc _ => names_law_lifted os started H enc)
#print axioms names_law_holds
end Go.Proofs.Ytpnnnmkonodbiaa
