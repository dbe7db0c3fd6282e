/-
  The law TreeNames returns true: limits, errors, the chapter's examples. No condition.
-/
import Derived.Test.YtedjapamimhglaaTreeAlv
import Derived.Test.YtedjapamimhglaaTreeRdx
namespace Go.Proofs.Ytedjapamimhglaa
open Go.RowKit Go.ChangeShapes Go.WideShapes Go.ChangeAt
theorem RdB.none_ (w : World) (B : Nat) : RdB w B none 0 (fun _ => 0) := ⟨fun _ => by show 0 < 256; omega, fun h => absurd h (by omega)⟩
def twoN (j : Nat) : Nat := if j = 1 then 1 else 0
theorem two_ok : checkE twoN 2 15 = 0 := by decide +kernel
theorem twoN_lt : ∀ j, twoN j < 256 := fun j => by unfold twoN; split <;> omega
theorem nil_ok : checkE (fun _ => 0) 0 15 = 0 := by decide +kernel
theorem rd7 : readR fourN 4 (oneF 13) 1 7 17 0 = (1, 8, 0) := by decide +kernel
theorem rd8 : (if (8 : Int) < 0 then (0, 0, 2) else readR fourN 4 (oneF 13) 1 (8 : Int).toNat 17 0) = (0, 0, 10) := by decide +kernel
theorem rdT : readR twoN 2 (oneF 254) 1 0 17 0 = (1, 1, 0) := by decide +kernel
theorem rdU : (if (1 : Int) < 0 then (0, 0, 2) else readR twoN 2 (oneF 254) 1 (1 : Int).toNat 17 0) = (0, 0, 50) := by decide +kernel
theorem rdV : (if (0 : Int) < 0 then (0, 0, 2) else readR (fun _ => 0) 0 (oneF 0) 1 (0 : Int).toNat 17 0) = (0, 0, 50) := by decide +kernel
theorem rdW : (if (-1 : Int) < 0 then (0, 0, 2) else readR fourN 4 (oneF 0) 1 (-1 : Int).toNat 17 0) = (0, 0, 2) := by decide +kernel
theorem gr4 : grC fourN 4 15 1 = 1 ∧ grC fourN 4 15 2 = 1 ∧ grC fourN 4 15 3 = 2 ∧ grS fourN 4 15 = [1, 0, 2, 3] := by decide +kernel
theorem chk_yes {c : Nat → Int} {s : List Int} {e : Ending} (h : ∃ f, IsTree c s f) (ho : ChkOut c s e) : e = .returned (.int .i64 0) := ho.elim (fun g => g.2) (fun g => absurd h (fun ⟨f, hf⟩ => g.1 f hf))
theorem chk_no {c : Nat → Int} {s : List Int} {e : Ending} (h : ∀ f, ¬ IsTree c s f) (ho : ChkOut c s e) : e = .returned (.int .i64 8) := ho.elim (fun g => absurd g.1 (fun ⟨f, hf⟩ => h f hf)) (fun g => g.2)
theorem tree_nil : ∃ f, IsTree (fun _ => 0) [] f := by
  have h := grown_tree nil_ok
  refine ⟨_, h.1, h.2.1, fun m hm => ?_, ?_⟩
  · have := h.2.2.1 m hm
    rw [← this]; unfold grC; rw [if_pos nil_ok]; rfl
  · have := h.2.2.2
    rw [← this]; unfold grS; rw [if_pos nil_ok]; decide +kernel
theorem tree_one : ∀ f, ¬ IsTree (fun _ => 0) [1] f := fun f h => by
  have hl := (isTree_length h).1
  have hz : ∀ M, M < 16 → sumC f 320 M = 0 := by
    intro M
    induction M with
    | zero => intro _; rfl
    | succ M ih =>
      intro hM
      have h1 : (0 : Int) = (tcN f (M + 1) 320 : Int) := h.2.2.1 (M + 1) hM
      have h2 := ih (by omega)
      have h3 : sumC f 320 (M + 1) = sumC f 320 M + tcN f (M + 1) 320 := rfl
      omega
  rw [hz 15 (by omega)] at hl
  cases hl
set_option maxRecDepth 100000 in
set_option maxHeartbeats 8000000 in
theorem names5_law (w : World) : Calls Try.prog 3 #[] w fun e w' => e = .returned (.bool true) ∧ Below w.heap.size w w' := by
  have hz := (zero_of_info infoTree).1
  go_enter Try.func3, Try.ntmps3
  go_wp2_with fail
  refine (four_any w).mono ?_
  rintro e w1 ⟨A1, rfl, hb1, h1⟩
  have hgr := tgrow_any w1 A1 4 4 fourN 15 h1 (by omega)
  rw [four_ok, gr4.2.2.2] at hgr
  obtain ⟨G, hG⟩ : ∃ G, G = grC fourN 4 15 := ⟨_, rfl⟩
  rw [← hG] at hgr
  have hg1 : G 1 = 1 := by rw [hG]; exact gr4.1
  have hg2 : G 2 = 1 := by rw [hG]; exact gr4.2.1
  have hg3 : G 3 = 2 := by rw [hG]; exact gr4.2.2.1
  have HGR := Lib.hid hgr; have B1 := Lib.hid hb1; have G1 := Lib.hid hg1; have G2 := Lib.hid hg2; have G3 := Lib.hid hg3
  clear hgr hb1 h1 hG hg1 hg2 hg3
  go_wp2_with fail
  refine HGR.out.mono ?_
  rintro e w2 ⟨v, rfl, hv, hb2⟩
  have hv1 := hv.one
  obtain ⟨As, ca, hve, hrs, _⟩ := hv
  subst hve
  obtain ⟨b, o, hA, hblt, hcc⟩ := hrs.at (k := 0) (by decide)
  subst hA
  have s0 := hcc 0 (by decide)
  have s1 := hcc 1 (by decide)
  have s2 := hcc 2 (by decide)
  have s3 := hcc 3 (by decide)
  obtain ⟨w3, hw3⟩ : ∃ w3, w3 = layV w2 G (.slice (some ⟨b, o, none⟩) 4 ca) := ⟨_, rfl⟩
  have hT3 := layV_tre w2 G (.slice (some ⟨b, o, none⟩) 4 ca)
  have hB3 := layV_below w2 G (.slice (some ⟨b, o, none⟩) 4 ca)
  rw [← hw3] at hT3 hB3
  have t0 := (hB3.cell (p := ⟨b, o + 0, none⟩) hblt).trans s0
  have t1 := (hB3.cell (p := ⟨b, o + 1, none⟩) hblt).trans s1
  have t2 := (hB3.cell (p := ⟨b, o + 2, none⟩) hblt).trans s2
  have t3 := (hB3.cell (p := ⟨b, o + 3, none⟩) hblt).trans s3
  rw [Nat.add_zero] at t0
  have k1 := hT3.cnt (i := 1) (by omega)
  have k2 := hT3.cnt (i := 2) (by omega)
  have k3 := hT3.cnt (i := 3) (by omega)
  have k4 := hT3.syms
  rw [G1.out] at k1
  rw [G2.out] at k2
  rw [G3.out] at k3
  simp only [List.getD_cons_zero, List.getD_cons_succ] at t0 t1 t2 t3
  have HW3 := Lib.hid hw3; have HV1 := Lib.hid hv1; have B3 := Lib.hid ((B1.out.trans (hb2.mono B1.out.size)).trans (hB3.mono (B1.out.trans (hb2.mono B1.out.size)).size))
  clear hw3 hv1 hT3 hB3 hrs hb2 hcc s0 s1 s2 s3
  have hZ := Lib.hid (box_tree w2 (fun _ => 0) (.slice none 0 0))
  go_wp2_with (first
    | (refine wpList_store_rowT rfl _ _ _ rfl w2.heap.size (trA G (.slice (some ⟨b, o, none⟩) 4 ca)) rfl rfl _ (trA (fun _ => 0) (.slice none 0 0)) hZ.out (by rw [trA_size]; exact szTree) (by rw [trA_size, trA_size]) (trA_one _ _ HV1.out) ?_; change wpList _ _ _ _ _ (layV w2 G (.slice (some ⟨b, o, none⟩) 4 ca)); rw [← HW3.out]))
  clear k1 k2 k3 k4 t0 t1 t2 t3 hblt
  go_wp2_with fail
  refine (four_any w3).mono ?_
  rintro e w4 ⟨A4, rfl, hb, hf⟩
  have B4 := Lib.hid (B3.out.trans (hb.mono B3.out.size))
  have R5 := Lib.hid (reads_yes w4 A4 4 4 fourN hf (by omega) 13 (by omega) 7 (by omega) (by omega) 1 8 four_ok rd7)
  clear hb hf
  go_wp2_with fail
  refine R5.out.mono ?_
  rintro e w5 ⟨rfl, hb⟩
  have B5 := Lib.hid (B4.out.trans (hb.mono B4.out.size))
  clear hb
  go_wp2_with fail
  refine (four_any w5).mono ?_
  rintro e w6 ⟨A6, rfl, hb, hf⟩
  have B6 := Lib.hid (B5.out.trans (hb.mono B5.out.size))
  have R7 := Lib.hid (fails_yes w6 A6 4 4 fourN hf (by omega) 13 (by omega) 8 (by omega) (by omega) 10 four_ok rd8)
  clear hb hf
  go_wp2_with fail
  refine R7.out.mono ?_
  rintro e w7 ⟨rfl, hb⟩
  have B7 := Lib.hid (B6.out.trans (hb.mono B6.out.size))
  clear hb
  have hf := (row_new w7 2 twoN #[.int .u8 0, .int .u8 1] rfl).rd twoN_lt
  have hb := (Below.refl w7.heap.size w7).alloc (Nat.le_refl _) (.cells #[.int .u8 0, .int .u8 1] 5)
  have B8 := Lib.hid (B7.out.trans (hb.mono B7.out.size))
  have R9 := Lib.hid (reads_yes (w7.alloc (.cells #[.int .u8 0, .int .u8 1] 5)) (some ⟨w7.heap.size, 0, none⟩) 2 2 twoN hf (by omega) 254 (by omega) 0 (by omega) (by omega) 1 1 two_ok rdT)
  clear hb hf
  go_wp2_with fail
  refine R9.out.mono ?_
  rintro e w9 ⟨rfl, hb⟩
  have B9 := Lib.hid (B8.out.trans (hb.mono B8.out.size))
  clear hb
  have hf := (row_new w9 2 twoN #[.int .u8 0, .int .u8 1] rfl).rd twoN_lt
  have hb := (Below.refl w9.heap.size w9).alloc (Nat.le_refl _) (.cells #[.int .u8 0, .int .u8 1] 5)
  have B10 := Lib.hid (B9.out.trans (hb.mono B9.out.size))
  have R11 := Lib.hid (fails_yes (w9.alloc (.cells #[.int .u8 0, .int .u8 1] 5)) (some ⟨w9.heap.size, 0, none⟩) 2 2 twoN hf (by omega) 254 (by omega) 1 (by omega) (by omega) 50 two_ok rdU)
  clear hb hf
  go_wp2_with fail
  refine R11.out.mono ?_
  rintro e w11 ⟨rfl, hb⟩
  have B11 := Lib.hid (B10.out.trans (hb.mono B10.out.size))
  clear hb
  have hf := RdB.none_ w11 w11.heap.size
  have hb := trivial
  have R12 := Lib.hid (fails_yes w11 none 0 0 (fun _ => 0) hf (by omega) 0 (by omega) 0 (by omega) (by omega) 50 nil_ok rdV)
  clear hb hf
  go_wp2_with fail
  refine R12.out.mono ?_
  rintro e w12 ⟨rfl, hb⟩
  have B12 := Lib.hid (B11.out.trans (hb.mono B11.out.size))
  clear hb
  go_wp2_with fail
  refine (four_any w12).mono ?_
  rintro e w13 ⟨A13, rfl, hb, hf⟩
  have B13 := Lib.hid (B12.out.trans (hb.mono B12.out.size))
  have R14 := Lib.hid (fails_yes w13 A13 4 4 fourN hf (by omega) 0 (by omega) (-1) (by omega) (by omega) 2 four_ok rdW)
  clear hb hf
  go_wp2_with fail
  refine R14.out.mono ?_
  rintro e w14 ⟨rfl, hb⟩
  have B14 := Lib.hid (B13.out.trans (hb.mono B13.out.size))
  clear hb
  have hf := trivial
  have hb := trivial
  have R15 := Lib.hid (alive5_any w14)
  clear hb hf
  go_wp2_with fail
  refine R15.out.mono ?_
  rintro e w15 ⟨rfl, hb⟩
  have B15 := Lib.hid (B14.out.trans (hb.mono B14.out.size))
  clear hb
  go_wp2_with fail
  refine (tchk_any w15 (fun _ => 0) (.slice none 0 0) [] ⟨none, 0, rfl, SrcL.none_ _ _ _ _, (fun _ => rfl), Nat.le_refl _, by unfold maxLen; omega⟩ (by simp)).mono ?_
  rintro e w16 ⟨ho, hb⟩
  obtain rfl := chk_yes tree_nil ho
  have B16 := Lib.hid (B15.out.trans (hb.mono B15.out.size))
  clear hb ho
  go_wp2_with fail
  rw [show (trA (fun _ => (0 : Int)) (.slice none 0 0)).setIfInBounds 16 (.slice (some ⟨w16.heap.size, 0, none⟩) 1 1) = trA (fun _ => 0) (.slice (some ⟨w16.heap.size, 0, none⟩) 1 1) from rfl]
  have hb := (Below.refl w16.heap.size w16).alloc (Nat.le_refl _) (.cells #[.int .i64 1] 3)
  refine (tchk_any _ (fun _ => 0) (.slice (some ⟨w16.heap.size, 0, none⟩) 1 1) [1] ⟨_, 1, rfl, rdI_new w16 [1] #[.int .i64 1] rfl, (fun h => by cases h), Nat.le_refl _, by unfold maxLen; omega⟩ (by simp)).mono ?_
  rintro e wz ⟨ho, hbz⟩
  obtain rfl := chk_no tree_one ho
  have BZ := Lib.hid (B16.out.trans ((hb.mono B16.out.size).trans (hbz.mono (B16.out.trans (hb.mono B16.out.size)).size)))
  clear hb hbz ho
  go_wp2
  go_ret
  exact ⟨rfl, BZ.out⟩
-- LAW
set_option maxRecDepth 100000 in
theorem names5_law_lifted (os : Os) (started : os.Started) (H : Type) (enc : TypeId × Value → H) :
    ReturnsInHanded {} Try.checked os 3 .any (Rows.treeNamesSpec.pre6 enc Try.prog Try.f3 Rows.treeNamesRow.domain false) (Rows.treeNamesSpec.post enc Try.prog Try.f3 false true false false) := by
  refine returnsInHanded_of_change (C := Try.checked) own started (by kernel_rfl) Try.func3
    (ChangeSpec.witness6 (enc := enc) (C := Try.checked) false ⟨#[], #[], []⟩ 8 (by kernel_rfl) (by kernel_rfl) (by kernel_rfl) (by kernel_rfl)) ?_
  intro W base args ds gs before hval0 hW _ _
  have hval : ∀ (j : Nat) t v, Try.f3.params[j]? = some t → args[j]? = some v → Value.okWide Try.prog W .any base t v := hval0
  have hW' := hW
  obtain ⟨p, q, hA0, hV, rfl, _, _⟩ := hW
  have hA : DataW.TrodAll enc Try.prog W 0 (fun _ => true) true Try.f3.params.toList args.toList ds p := hA0
  rw [Try.params3] at hA
  obtain ⟨hargs, rfl, rfl⟩ := trodAll_nil hA
  obtain rfl : args = #[] := by cases args; simp_all
  obtain ⟨rfl, rfl⟩ := trodVars_none hV
  clear hA0 hval0
  refine (names5_law W ).mono fun e W' ⟨he, bel⟩ => ?_
  subst he
  exact ⟨_, rfl, _, _, _, [], _, [], hW', trodAll_mk1 (shut_bool Try.underlying4 _), trodAll_mk0, rfl, bel.frame _, fun h => by cases h⟩
theorem names5_law_holds : Rows.TreeNamesSaid :=
  OpenClaim.holds_of_wide 3 Try.f3 rfl rfl rfl rfl rfl rfl rfl ⟨rfl, rfl, rfl, rfl, rfl⟩ rfl rfl rfl rfl rfl (by kernel_rfl) Try.func3 (by kernel_rfl)
    (of_decide_eq_true (by kernel_rfl)) (by unfold Func.isWrapper; first | (rw [if_pos (by decide +kernel)]; kernel_rfl) | (rw [if_neg (by decide +kernel)]; exact ⟨rfl, rfl⟩))
    (fun os started H enc _ => names5_law_lifted os started H enc)
#print axioms names5_law_holds
end Go.Proofs.Ytedjapamimhglaa
