/-
  The law TreeReads, for every tree, bytes and place, returns true: a symbol is read as the document says. No condition.
-/
import Derived.Test.YtedjapamimhglaaTreeImpl
import Derived.Test.YtedjapamimhglaaTreeOpn
namespace Go.Proofs.Ytedjapamimhglaa
open Go.RowKit Go.ChangeShapes Go.WideShapes Go.ChangeAt
theorem nxt_same {c : Nat → Int} {s : List Int} {g : Nat → Nat} {l : Nat} {a : Int} {e : Ending} (h : NxtOut c s g l a e) : ∃ P : Nat × Nat × Int, e = .returned (RdOut P) ∧ ∀ e2, NxtOut c s g l a e2 → e2 = .returned (RdOut P) := by
  rcases h with ⟨f, hf, rfl⟩ | ⟨hno, rfl⟩
  · refine ⟨_, rfl, fun e2 h2 => ?_⟩
    rcases h2 with ⟨f2, hf2, rfl⟩ | ⟨hno, _⟩
    · rw [isTree_one hf hf2]
    · exact absurd hf (hno f)
  · refine ⟨_, rfl, fun e2 h2 => ?_⟩
    rcases h2 with ⟨f2, hf2, _⟩ | ⟨_, rfl⟩
    · exact absurd hf2 (hno f2)
    · rfl
theorem sameT_refl (c : Nat → Int) (s : List Int) : sameT c c s s = true := by
  unfold sameT
  rw [Bool.and_eq_true, sameC_iff]
  exact ⟨fun _ _ => rfl, decide_eq_true rfl⟩
set_option maxRecDepth 100000 in
set_option maxHeartbeats 4000000 in
theorem reads_law (c : Nat → Int) (u : Value) (s : List Int) (A : Option Addr) (l cb : Nat) (g : Nat → Nat) (a : Int) (w : World) (hu : RdS w w.heap.size u s) (_hc : ∀ m, m < 16 → -9223372036854775808 ≤ c m ∧ c m ≤ 9223372036854775807) (_hs : ∀ x ∈ s, -9223372036854775808 ≤ x ∧ x ≤ 9223372036854775807)
    (hg : RdB w w.heap.size A l g) (hA : A = none → cb = 0) (h1 : -9223372036854775808 ≤ a) (h2 : a ≤ 9223372036854775807) :
    Calls Try.prog 5 #[.agg (trA c u), .slice A l cb, .int .i64 a] w fun e w' => e = .returned (.bool true) ∧ Below w.heap.size w w' := by
  have hz := (zero_of_info infoTree).1
  have hb0 := (Below.refl w.heap.size w).alloc (Nat.le_refl _) (.cells (trA c u) 25)
  have ht0 := box_tree w c u
  have k0 := ht0.syms
  obtain ⟨N, hN⟩ : ∃ N, N = s.length := ⟨_, rfl⟩
  have hu0 := hu
  obtain ⟨As, ca, hue, hrs, hns⟩ := hu
  subst hue
  rw [← hN] at k0
  by_cases hbig : 1000 < N ∨ 1000 < l
  · have HB0 := Lib.hid hb0
    clear hu0 hrs hns hb0 ht0 _hc _hs hg hA hz
    rw [← hN] at HB0 ⊢
    clear hN
    by_cases hb1 : 1000 < N
    · have hd : decide (1000 < (N : Int)) = true := by simp; omega
      go_enter Try.func5, Try.ntmps5
      go_wp2
      go_ret
      exact ⟨rfl, HB0.out⟩
    · have hd : decide (1000 < (N : Int)) = false := by simp; omega
      have hd2 : decide (1000 < (l : Int)) = true := by simp; omega
      go_enter Try.func5, Try.ntmps5
      go_wp2
      go_ret
      exact ⟨rfl, HB0.out⟩
  have hd : decide (1000 < (N : Int)) = false := by simp; omega
  have hd2 : decide (1000 < (l : Int)) = false := by simp; omega
  have hNl : N ≤ 1000 ∧ l ≤ 1000 := by omega
  clear hbig
  have htw := twin5_any (w.alloc (.cells (trA c (.slice As s.length ca)) 25)) c (.slice As s.length ca) s ((hu0.below hb0 (Nat.le_refl _)).more hb0.size) (by omega)
  have HTW := Lib.hid htw; have HT0 := Lib.hid ht0; have HB0 := Lib.hid hb0; have HU := Lib.hid hu0; have HG := Lib.hid hg; have HA := Lib.hid hA
  clear htw ht0 hb0 hu0 hrs hns hg hA _hc _hs
  rw [← hN] at HTW HT0 HB0 HU ⊢
  have HN := Lib.hid hN
  clear hN
  go_enter Try.func5, Try.ntmps5
  go_wp2_with (refine wpList_load_row rfl _ _ rfl w.heap.size rfl _ (trA c (.slice As N ca)) (0, 0) _ HT0.out Try.underlying25 rfl (by rw [trA_size]; exact szTree) ?_)
  refine HTW.out.mono ?_
  rintro e w2 ⟨v, rfl, hv, hb2⟩
  have hB2 := HB0.out.trans (hb2.mono HB0.out.size)
  have hT2 := HT0.out.below hb2 HT0.out.lt
  have hz2 : TreA (w2.alloc (.cells (trA (fun _ => 0) (.slice none 0 0)) 25)) w2.heap.size (fun _ => 0) (.slice none 0 0) := box_tree w2 _ _
  have hv1 := hv.one
  have HZ2 := Lib.hid hz2; have HV := Lib.hid hv; have HV1 := Lib.hid hv1; have HB2 := Lib.hid hB2; have HT2 := Lib.hid hT2
  clear hb2 hB2 hT2 hz2 hv hv1 k0
  have hw2 : w.heap.size < w2.heap.size := HT2.out.lt
  have hT3 : TreA ((w2.alloc (.cells (trA (fun _ => 0) (.slice none 0 0)) 25)).setRow w2.heap.size (trA c v)) w2.heap.size c v := setRow_tre HZ2.out
  have hB3x : Below w2.heap.size w2 ((w2.alloc (.cells (trA (fun _ => 0) (.slice none 0 0)) 25)).setRow w2.heap.size (trA c v)) := below_setRowT ((Below.refl _ _).alloc (Nat.le_refl _) _) (Nat.le_refl _) _
  obtain ⟨w3, hw3⟩ : ∃ w3, w3 = (w2.alloc (.cells (trA (fun _ => 0) (.slice none 0 0)) 25)).setRow w2.heap.size (trA c v) := ⟨_, rfl⟩
  rw [← hw3] at hT3 hB3x
  have hB3 := HB2.out.trans (hB3x.mono HB2.out.size)
  have hvR := (HV.out.rd.below hB3x (Nat.le_refl _)).more hB3x.size
  obtain ⟨A', c', w4, hrun, hown, hb4, hrd4⟩ := run_twin w3 w.heap.size A l cb g (HG.out.below hB3 (Nat.le_refl _)) (by omega) 29 HA.out
  have HW3 := Lib.hid hw3; have HT3 := Lib.hid hT3; have HB3 := Lib.hid hB3; have HVR := Lib.hid hvR; have HRUN := Lib.hid hrun; have HB4 := Lib.hid hb4; have HRD4 := Lib.hid hrd4; have HB3X := Lib.hid hB3x
  clear hw3 hT3 hB3 hvR hrun hown hb4 hrd4 hB3x
  go_wp2_with (first
    | (refine wpList_store_rowT rfl _ _ _ rfl w2.heap.size (trA c v) rfl rfl _ (trA (fun _ => 0) (.slice none 0 0)) HZ2.out (by rw [trA_size]; exact szTree) (by rw [trA_size, trA_size]) (trA_one _ _ HV1.out) ?_; rw [← HW3.out])
    | (at_builtin; refine wpList_append_run rfl (.const (.slice none 0 0)) (.tmp 26) 29 rfl (.slice none 0 0) (.slice A l cb) (.slice A' l c') w4 rfl rfl HRUN.out ?_)
    | (refine wpList_load_row rfl _ _ rfl w2.heap.size rfl _ (trA c v) (0, 0) _ (HT3.out.below HB4.out HT3.out.lt) Try.underlying25 rfl (by rw [trA_size]; exact szTree) ?_))
  have hB4 := HB3.out.trans (HB4.out.mono HB3.out.size)
  have hv4 := (HVR.out.below HB4.out (Nat.le_refl _)).more HB4.out.size
  refine (tnext_any w4 c v s hv4 (by rw [← HN.out]; omega) A' l c' g HRD4.out (by omega) a h1 h2).mono ?_
  rintro e w5 ⟨hout, hb5⟩
  obtain ⟨P, rfl, hsame⟩ := nxt_same hout
  have HS := Lib.hid hsame
  have hB5 := hB4.trans (hb5.mono hB4.size)
  have hT5 := ((HT2.out.below HB3X.out hw2).below HB4.out (by have := HB3X.out.size; omega)).below hb5 (by have := HB3X.out.size; have := HB4.out.size; omega)
  have hT5b := (HT3.out.below HB4.out HT3.out.lt).below hb5 (by have := HT3.out.lt; have := HB4.out.size; omega)
  have hv5 := (hv4.below hb5 (Nat.le_refl _)).more hb5.size
  have hrd5 := (HRD4.out.below hb5 (Nat.le_refl _)).more hb5.size
  obtain ⟨p1, p2, p3⟩ := P
  have HB5 := Lib.hid hB5; have HT5 := Lib.hid hT5; have HT5B := Lib.hid hT5b; have HV5 := Lib.hid hv5; have HRD5 := Lib.hid hrd5
  clear hout hsame hb5 hB4 hv4 hB5 hT5 hT5b hv5 hrd5
  simp only [RdOut]
  go_wp2_with (refine wpList_load_row rfl _ _ rfl w.heap.size rfl _ (trA c (.slice As N ca)) (0, 0) _ HT5.out Try.underlying25 rfl (by rw [trA_size]; exact szTree) ?_)
  have hu5 := (HU.out.below HB5.out (Nat.le_refl _)).more HB5.out.size
  refine (rnext_any w5 c (.slice As N ca) s hu5 (by rw [← HN.out]; omega) A l cb g ((HG.out.below HB5.out (Nat.le_refl _)).more HB5.out.size) (by omega) a h2).mono ?_
  rintro e w6 ⟨hout, hb6⟩
  obtain rfl := HS.out e hout
  have hw5 : w2.heap.size < w5.heap.size := HT5B.out.lt
  have hB6 := HB5.out.trans (hb6.mono HB5.out.size)
  have hT6 := HT5.out.below hb6 HT5.out.lt
  have hT6b := HT5B.out.below hb6 hw5
  have hv6 := (HV5.out.below hb6 (Nat.le_refl _)).more hb6.size
  have hu6 := (hu5.below hb6 (Nat.le_refl _)).more hb6.size
  have hrd6 := (HRD5.out.below hb6 (Nat.le_refl _)).more hb6.size
  have hsm := same5_any w6 c c v (.slice As N ca) s s hv6 hu6 (by rw [← HN.out]; omega) (by rw [← HN.out]; omega)
  rw [sameT_refl] at hsm
  have HB6 := Lib.hid hB6; have HT6 := Lib.hid hT6; have HT6B := Lib.hid hT6b; have HSM := Lib.hid hsm; have HRD6 := Lib.hid hrd6
  clear hout hb6 hu5 hB6 hT6 hT6b hv6 hu6 hrd6 hsm
  simp only [RdOut]
  go_wp2_with (first
    | (refine wpList_load_row_on (by rfl) _ _ rfl w2.heap.size rfl _ (trA c v) (0, 0) _ HT6B.out Try.underlying25 rfl (by rw [trA_size]; exact szTree) ?_)
    | (refine wpList_load_row_on (by rfl) _ _ rfl w.heap.size rfl _ (trA c (.slice As N ca)) (0, 0) _ HT6.out Try.underlying25 rfl (by rw [trA_size]; exact szTree) ?_))
  refine HSM.out.mono ?_
  rintro e w7 ⟨rfl, hb7⟩
  have hB7 := HB6.out.trans (hb7.mono HB6.out.size)
  have hst1 := run_str (HRD6.out.below hb7 (Nat.le_refl _)) c'
  have hst2 := run_str (HG.out.below hB7 (Nat.le_refl _)) cb
  obtain ⟨S, hS⟩ : ∃ S, S = strB l g := ⟨_, rfl⟩
  rw [← hS] at hst1 hst2
  have HB7 := Lib.hid hB7
  clear hb7 hB7 hS
  go_wp2
  go_ret
  exact ⟨rfl, HB7.out⟩
-- LAW
set_option maxRecDepth 100000 in
theorem reads_law_lifted (os : Os) (started : os.Started) (H : Type) (enc : TypeId × Value → H) :
    ReturnsInHanded {} Try.checked os 5 .any (Rows.treeReadsSpec.pre6 enc Try.prog Try.f5 Rows.treeReadsRow.domain false) (Rows.treeReadsSpec.post enc Try.prog Try.f5 false true false false) := by
  refine returnsInHanded_of_change (C := Try.checked) own started (by kernel_rfl) Try.func5
    (ChangeSpec.witness6 (enc := enc) (C := Try.checked) false ⟨#[], #[.agg (trA (fun _ => 0) (.slice none 0 0)), .slice none 0 0, .int .i64 0], []⟩ 8 (by kernel_rfl) (by kernel_rfl) (by kernel_rfl) (by kernel_rfl)) ?_
  intro W base args ds gs before hval0 hW _ _
  have hval : ∀ (j : Nat) t v, Try.f5.params[j]? = some t → args[j]? = some v → Value.okWide Try.prog W .any base t v := hval0
  have hW' := hW
  obtain ⟨p, q, hA0, hV, rfl, _, _⟩ := hW
  have hA : DataW.TrodAll enc Try.prog W 0 (fun _ => true) true Try.f5.params.toList args.toList ds p := hA0
  rw [Try.params5] at hA hval
  obtain ⟨v0, vs0, d0, ds0, p0, q0, hargs, rfl, rfl, h0, r0⟩ := trodAll_cons hA
  obtain ⟨v1, vs1, d1, ds1, p1, q1, rfl, rfl, rfl, h1, r1⟩ := trodAll_cons r0
  obtain ⟨v2, vs2, d2, ds2, p2, q2, rfl, rfl, rfl, h2, r2⟩ := trodAll_cons r1
  obtain ⟨rfl, rfl, rfl⟩ := trodAll_nil r2
  obtain rfl : args = #[v0, v1, v2] := by cases args; simp_all
  obtain ⟨rfl, rfl⟩ := trodVars_none hV
  have k0 := h0
  have lt0 : ∀ x ∈ p0, x.block < W.heap.size := by obtain ⟨m, hm⟩ := k0; exact DataW.trod_lt m _ _ _ hm
  obtain ⟨c0, u0, s0, rfl, hr0, hc0, hs0⟩ := open_tree (hval 0 25 v0 rfl rfl) h0
  have k1 := h1
  have lt1 : ∀ x ∈ p1, x.block < W.heap.size := by obtain ⟨m, hm⟩ := k1; exact DataW.trod_lt m _ _ _ hm
  obtain ⟨A1, len1, cap1, rfl⟩ := okWide_slice Try.underlying29 (hval 1 29 v1 rfl rfl)
  obtain ⟨f1, hr1, hn1, hl1, hm1⟩ := open_bytes h1
  have k2 := h2
  have lt2 : ∀ x ∈ p2, x.block < W.heap.size := by obtain ⟨m, hm⟩ := k2; exact DataW.trod_lt m _ _ _ hm
  obtain ⟨a2, rfl, rfl, rfl, w2⟩ := open_int Try.underlying3 (hval 2 3 v2 rfl rfl) h2
  have u2 := wf_i64_range w2
  clear hA0 hval0
  refine (reads_law c0 u0 s0 A1 len1 cap1 f1 a2 W hr0 hc0 hs0 hr1 hn1 u2.1 u2.2).mono fun e W' ⟨he, bel⟩ => ?_
  subst he
  exact ⟨_, rfl, _, _, _, [], _, [], hW', trodAll_mk1 (shut_bool Try.underlying4 _), (trodAll_cons_mk (Below.trod laidOut (by kernel_rfl) (of_decide_eq_true (by kernel_rfl)) k0 bel lt0) (trodAll_cons_mk (Below.trod laidOut (by kernel_rfl) (of_decide_eq_true (by kernel_rfl)) k1 bel lt1) (trodAll_cons_mk (Below.trod laidOut (by kernel_rfl) (of_decide_eq_true (by kernel_rfl)) k2 bel lt2) trodAll_mk0))), rfl, bel.frame _, fun h => by cases h⟩
theorem reads_law_holds : Rows.TreeReadsSaid :=
  OpenClaim.holds_of_wide 5 Try.f5 rfl rfl rfl rfl rfl rfl rfl ⟨rfl, rfl, rfl, rfl, rfl⟩ rfl rfl rfl rfl rfl (by kernel_rfl) Try.func5 (by kernel_rfl)
    (of_decide_eq_true (by kernel_rfl)) (by unfold Func.isWrapper; first | (rw [if_pos (by decide +kernel)]; kernel_rfl) | (rw [if_neg (by decide +kernel)]; exact ⟨rfl, rfl⟩))
    (fun os started H enc _ => reads_law_lifted os started H enc)
#print axioms reads_law_holds
end Go.Proofs.Ytedjapamimhglaa
