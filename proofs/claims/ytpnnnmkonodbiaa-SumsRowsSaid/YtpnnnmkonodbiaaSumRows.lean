/-
  For every two numbers of 8 bits: the law SumsRows returns true, and its arguments read as they did. No condition.
-/
import Derived.Test.YtpnnnmkonodbiaaSumAlive
import Derived.Test.YtpnnnmkonodbiaaAfter
namespace Go.Proofs.Ytpnnnmkonodbiaa
open Go.RowKit Go.ChangeShapes Go.WideShapes Go.ChangeAt
set_option maxRecDepth 100000 in
set_option maxHeartbeats 1000000 in
theorem rows_law (i k : Nat) (w : World) (hi : i < 256) (hk : k < 256) :
    Calls Try.prog 8 #[.int .u8 (i : Int), .int .u8 (k : Int)] w fun e w' => e = .returned (.bool true) ∧ Below w.heap.size w w' := by
  have hz := (zero_of_info infoTab).1
  go_enter Try.func8, Try.ntmps8
  go_wp2_with fail
  refine (table_any w).mono ?_
  rintro e w1 ⟨rfl, h1⟩
  have H1 := Lib.hid h1
  clear h1
  go_wp2_with (refine wpList_store_row rfl _ _ _ rfl w1.heap.size (tabA rowN) rfl rfl _ (tabA zero0) (tab_new w1 zero0) (by rw [tabA_size]; exact szTab) (by rw [tabA_size, tabA_size]) (tabA_one _) ?_)
  obtain ⟨U, hU⟩ : ∃ U, U = (w1.alloc (.cells (tabA zero0) 23)).setRow w1.heap.size (tabA rowN) := ⟨_, rfl⟩
  have ht : Tab U w1.heap.size rowN := by rw [hU]; exact (tab_new w1 zero0).setRow
  have hb : Below w1.heap.size w1 U := by rw [hU]; exact below_setRow ((Below.refl _ _).alloc (Nat.le_refl _) _) (Nat.le_refl _) _
  rw [← hU]
  have HT := Lib.hid ht
  have HB := Lib.hid (H1.out.trans (hb.mono H1.out.size))
  have hlt := ht.lt
  clear hb ht hU
  have T1 := Lib.hid (fun (V : World) (hV : Below U.heap.size U V) => show Calls Try.prog 10 #[] V fun e V' => e = .returned (.bool true) ∧ Below U.heap.size U V' from
    (alive_any V).mono fun _ _ ⟨a, b⟩ => ⟨a, hV.trans (b.mono hV.size)⟩)
  have hx : i ^^^ k < 256 := xor_lt8 hi hk
  have e1 := u8_xor i k hi hk
  have e2 := u32_xor (rowN i) (rowN k) (row_lt i hi) (row_lt k hk)
  rw [← rowN_xor] at e2
  obtain ⟨x, hxe⟩ : ∃ x, x = i ^^^ k := ⟨_, rfl⟩
  rw [← hxe] at hx e1 e2
  obtain ⟨ri, hri⟩ : ∃ r, r = rowN i := ⟨_, rfl⟩
  obtain ⟨rk, hrk⟩ : ∃ r, r = rowN k := ⟨_, rfl⟩
  obtain ⟨rx, hrx⟩ : ∃ r, r = rowN x := ⟨_, rfl⟩
  rw [← hri, ← hrk, ← hrx] at e2
  have c1 : ∀ p : After U.heap.size U, p.w.cell? ⟨w1.heap.size, i, none⟩ = some (.int .u32 (ri : Int)) := fun p => by rw [hri]; exact (HT.out.below p.h hlt).cell hi
  have c2 : ∀ p : After U.heap.size U, p.w.cell? ⟨w1.heap.size, k, none⟩ = some (.int .u32 (rk : Int)) := fun p => by rw [hrk]; exact (HT.out.below p.h hlt).cell hk
  have c3 : ∀ p : After U.heap.size U, p.w.cell? ⟨w1.heap.size, x, none⟩ = some (.int .u32 (rx : Int)) := fun p => by rw [hrx]; exact (HT.out.below p.h hlt).cell hx
  clear hxe hri hrk hrx
  simp only [Act.put]
  refine wp_region_after U.heap.size U (Below.refl _ _) (by kernel_rfl) (by kernel_rfl) ?_
  repeat (go_big_quiet_step (exact call_after T1.out _))
  refine wpQuiet_nil ?_
  rintro V ⟨⟨_, hV⟩, rfl⟩
  have HV := Lib.hid (HB.out.trans (hV.mono (Nat.le_trans HB.out.size (Nat.le_refl _))))
  clear hV
  go_wp2
  go_ret
  exact ⟨rfl, HV.out⟩
-- LAW
set_option maxRecDepth 100000 in
theorem rows_law_lifted (os : Os) (started : os.Started) (H : Type) (enc : TypeId × Value → H) :
    ReturnsInHanded {} Try.checked os 8 .any (Rows.sumsRowsSpec.pre6 enc Try.prog Try.f8 Rows.sumsRowsRow.domain false) (Rows.sumsRowsSpec.post enc Try.prog Try.f8 false true false false) := by
  refine returnsInHanded_of_change (C := Try.checked) own started (by kernel_rfl) Try.func8
    (ChangeSpec.witness6 (enc := enc) (C := Try.checked) false ⟨#[], #[.int .u8 0, .int .u8 0], []⟩ 8 (by kernel_rfl) (by kernel_rfl) (by kernel_rfl) (by kernel_rfl)) ?_
  intro W base args ds gs before hval0 hW _ _
  have hval : ∀ (j : Nat) t v, Try.f8.params[j]? = some t → args[j]? = some v → Value.okWide Try.prog W .any base t v := hval0
  have hW' := hW
  obtain ⟨p, q, hA0, hV, rfl, _, _⟩ := hW
  have hA : DataW.TrodAll enc Try.prog W 0 (fun _ => true) true Try.f8.params.toList args.toList ds p := hA0
  rw [Try.params8] at hA hval
  obtain ⟨v0, vs0, d0, ds0, p0, q0, hargs, rfl, rfl, h0, r0⟩ := trodAll_cons hA
  obtain ⟨v1, vs1, d1, ds1, p1, q1, rfl, rfl, rfl, h1, r1⟩ := trodAll_cons r0
  obtain ⟨rfl, rfl, rfl⟩ := trodAll_nil r1
  obtain rfl : args = #[v0, v1] := by cases args; simp_all
  obtain ⟨rfl, rfl⟩ := trodVars_none hV
  have k0 := h0
  have lt0 : ∀ x ∈ p0, x.block < W.heap.size := by obtain ⟨m, hm⟩ := k0; exact DataW.trod_lt m _ _ _ hm
  obtain ⟨a0, rfl, rfl, rfl, w0⟩ := open_int Try.underlying5 (hval 0 5 v0 rfl rfl) h0
  have u0 := wf_u8_range w0
  obtain ⟨a0, rfl⟩ := Int.eq_ofNat_of_zero_le u0.1
  have k1 := h1
  have lt1 : ∀ x ∈ p1, x.block < W.heap.size := by obtain ⟨m, hm⟩ := k1; exact DataW.trod_lt m _ _ _ hm
  obtain ⟨a1, rfl, rfl, rfl, w1⟩ := open_int Try.underlying5 (hval 1 5 v1 rfl rfl) h1
  have u1 := wf_u8_range w1
  obtain ⟨a1, rfl⟩ := Int.eq_ofNat_of_zero_le u1.1
  clear hA0 hval0
  refine (rows_law a0 a1 W (by omega) (by omega)).mono fun e W' ⟨he, bel⟩ => ?_
  subst he
  exact ⟨_, rfl, _, _, _, [], _, [], hW', trodAll_mk1 (shut_bool Try.underlying4 _), (trodAll_cons_mk (Below.trod laidOut (by kernel_rfl) (of_decide_eq_true (by kernel_rfl)) k0 bel lt0) (trodAll_cons_mk (Below.trod laidOut (by kernel_rfl) (of_decide_eq_true (by kernel_rfl)) k1 bel lt1) trodAll_mk0)), rfl, bel.frame _, fun h => by cases h⟩
theorem rows_law_holds : Rows.SumsRowsSaid :=
  OpenClaim.holds_of_wide 8 Try.f8 rfl rfl rfl rfl rfl rfl rfl ⟨rfl, rfl, rfl, rfl, rfl⟩ rfl rfl rfl rfl rfl (by kernel_rfl) Try.func8 (by kernel_rfl)
    (of_decide_eq_true (by kernel_rfl)) (by unfold Func.isWrapper; first | (rw [if_pos (by decide +kernel)]; kernel_rfl) | (rw [if_neg (by decide +kernel)]; exact ⟨rfl, rfl⟩))
    (fun os started H enc _ => rows_law_lifted os started H enc)
#print axioms rows_law_holds
end Go.Proofs.Ytpnnnmkonodbiaa
