/-
  The law TreeAlone, for every tree, bytes, place and others, returns true: what stands behind a symbol's bits counts for nothing. No condition.
-/
import Derived.Test.YtedjapamimhglaaTreeFul
import Derived.Test.YtedjapamimhglaaStep
import Derived.Deep.RegionHeld3
namespace Go.Proofs.Ytedjapamimhglaa
open Go.RowKit Go.ChangeShapes Go.WideShapes Go.ChangeAt
/-- What is read of a tree, as numbers. -/
def NxtP (c : Nat → Int) (s : List Int) (g : Nat → Nat) (l : Nat) (a : Int) (P : Nat × Nat × Int) : Prop := (∃ f, IsTree c s f ∧ P = nxtP f g l a) ∨ ((∀ f, ¬ IsTree c s f) ∧ P = (0, 0, 8))
theorem nxt_num {c : Nat → Int} {s : List Int} {g : Nat → Nat} {l : Nat} {a : Int} {e : Ending} (h : NxtOut c s g l a e) : ∃ P, e = .returned (RdOut P) ∧ NxtP c s g l a P := by
  rcases h with ⟨f, hf, rfl⟩ | ⟨hno, rfl⟩
  · exact ⟨_, rfl, .inl ⟨f, hf, rfl⟩⟩
  · exact ⟨_, rfl, .inr ⟨hno, rfl⟩⟩
theorem bit_cat (g h : Nat → Nat) (l : Nat) {j : Nat} (hj : j < 8 * l) : bitAt g j = bitAt (cat g l h) j := by
  unfold bitAt cat
  rw [if_pos (by omega)]
theorem alone_num {c : Nat → Int} {s : List Int} {g h : Nat → Nat} {l m : Nat} {a : Int} {P R : Nat × Nat × Int} (hp : NxtP c s g l a P) (hr : NxtP c s (cat g l h) (l + m) a R) :
    (P.2.2 = 10 → R.2.2 = 0 ∨ R.2.2 = 10 ∨ R.2.2 = 50) ∧ (P.2.2 ≠ 10 → P = R) := by
  rcases hp with ⟨f, hf, rfl⟩ | ⟨hno, rfl⟩
  · rcases hr with ⟨f2, hf2, rfl⟩ | ⟨hno, _⟩
    · rw [isTree_one hf2 hf]
      unfold nxtP
      by_cases ha : a < 0
      · rw [if_pos ha, if_pos ha]; exact ⟨fun h => by simp at h, fun _ => rfl⟩
      · rw [if_neg ha, if_neg ha]
        rcases read_alone (f := f) (N := 320) (g := g) (h := cat g l h) (l := l) (m := l + m) (a := a.toNat) (by omega) (fun j hj => bit_cat g h l hj) 17 0 (.inl rfl) with e | ⟨e1, e2⟩
        · rw [e]
          exact ⟨fun h => .inr (.inl h), fun _ => rfl⟩
        · rw [e1]; exact ⟨fun _ => e2, fun h => absurd rfl h⟩
    · exact absurd hf (hno f)
  · rcases hr with ⟨f2, hf2, _⟩ | ⟨_, rfl⟩
    · exact absurd hf2 (hno f2)
    · exact ⟨fun h => by simp at h, fun _ => rfl⟩
set_option maxRecDepth 100000 in
set_option maxHeartbeats 8000000 in
theorem alone_law (c : Nat → Int) (u : Value) (s : List Int) (A : Option Addr) (l cb : Nat) (g : Nat → Nat) (a : Int) (A2 : Option Addr) (m cm : Nat) (h : Nat → Nat) (w : World) (hu : RdS w w.heap.size u s) (_hc : ∀ m, m < 16 → -9223372036854775808 ≤ c m ∧ c m ≤ 9223372036854775807) (_hs : ∀ x ∈ s, -9223372036854775808 ≤ x ∧ x ≤ 9223372036854775807)
    (hg : RdB w w.heap.size A l g) (hA : A = none → cb = 0) (h1 : -9223372036854775808 ≤ a) (h2 : a ≤ 9223372036854775807) (hh : RdB w w.heap.size A2 m h) (hA2 : A2 = none → cm = 0) :
    Calls Try.prog 8 #[.agg (trA c u), .slice A l cb, .int .i64 a, .slice A2 m cm] w fun e w' => e = .returned (.bool true) ∧ Below w.heap.size w w' := by
  have hb0 := (Below.refl w.heap.size w).alloc (Nat.le_refl _) (.cells (trA c u) 25)
  have ht0 := box_tree w c u
  obtain ⟨N, hN⟩ : ∃ N, N = s.length := ⟨_, rfl⟩
  have hu0 := hu
  obtain ⟨As, ca, hue, hrs, _⟩ := hu
  subst hue
  have hal := alive5_any (w.alloc (.cells (trA c (.slice As s.length ca)) 25))
  rw [← hN] at hb0 ht0 hu0 hal ⊢
  have HB0 := Lib.hid hb0; have HT0 := Lib.hid ht0; have HU := Lib.hid hu0; have HAL := Lib.hid hal; have HG := Lib.hid hg; have HN := Lib.hid hN; have HH := Lib.hid hh; have HA := Lib.hid hA; have HA2 := Lib.hid hA2
  clear hb0 ht0 hu0 hal hg hN hrs _hc _hs hh hA hA2
  go_enter Try.func8, Try.ntmps8
  go_wp2_with fail
  refine HAL.out.mono ?_
  rintro e w1 ⟨rfl, hb1⟩
  have hB1 := HB0.out.trans (hb1.mono HB0.out.size)
  have hT1 := HT0.out.below hb1 HT0.out.lt
  have k1 := hT1.syms
  have HB1 := Lib.hid hB1; have HT1 := Lib.hid hT1
  clear hb1 hB1 hT1
  by_cases hN1 : 1000 < N
  · have hd : decide (1000 < (N : Int)) = true := by simp; omega
    go_wp2
    go_ret
    exact ⟨rfl, HB1.out⟩
  have hd : decide (1000 < (N : Int)) = false := by simp; omega
  by_cases hl1 : 1000 < l
  · have hd2 : decide (1000 < (l : Int)) = true := by simp; omega
    go_wp2
    go_ret
    exact ⟨rfl, HB1.out⟩
  have hd2 : decide (1000 < (l : Int)) = false := by simp; omega
  by_cases hm1 : 1000 < m
  · have hd3 : decide (1000 < (m : Int)) = true := by simp; omega
    go_wp2
    go_ret
    exact ⟨rfl, HB1.out⟩
  have hd3 : decide (1000 < (m : Int)) = false := by simp; omega
  have hu1 := (HU.out.below HB1.out (Nat.le_refl _)).more HB1.out.size
  have hnx := tnext_any w1 c (.slice As N ca) s hu1 (by rw [← HN.out]; omega) A l cb g ((HG.out.below HB1.out (Nat.le_refl _)).more HB1.out.size) (by omega) a h1 h2
  have HNX := Lib.hid hnx; have HU1 := Lib.hid hu1
  clear hnx hu1
  go_wp2_with (refine wpList_load_row rfl _ _ rfl w.heap.size rfl _ (trA c (.slice As N ca)) (0, 0) _ HT1.out Try.underlying25 rfl (by rw [trA_size]; exact szTree) ?_)
  refine HNX.out.mono ?_
  rintro e w2 ⟨ho, hb2⟩
  obtain ⟨P, rfl, hP⟩ := nxt_num ho
  have hB2 := HB1.out.trans (hb2.mono HB1.out.size)
  have hT2 := HT1.out.below hb2 HT1.out.lt
  have hu2 := (HU1.out.below hb2 (Nat.le_refl _)).more hb2.size
  have hw2 : w.heap.size < w2.heap.size := hT2.lt
  obtain ⟨Aa, c1, wa, hra, hoa, hba, _⟩ := run_twin w2.drew w.heap.size A l cb g (HG.out.below hB2.drew (Nat.le_refl _)) (by omega) 29 HA.out
  have hba2 : Below w2.heap.size w2 wa := ⟨hba.os, hba.tape, hba.output, hba.size, hba.block⟩
  have hoa2 : wa.ownsRow w2.heap.size 5 1 (.slice Aa l c1) l (bytesL l g) := hoa
  have hBa := hB2.trans (hba2.mono hB2.size)
  obtain ⟨Ab, c2, wb, hrb, hob, hbb⟩ := run_more wa w2.heap.size w.heap.size (.slice Aa l c1) l g hoa2 A2 m cm h (HH.out.below hBa (Nat.le_refl _)) (by omega) 29 HA2.out hba2.size
  have hbb2 : Below w2.heap.size w2 wb := hba2.trans hbb
  have hrd := RdB.of_own hob (cat_lt HG.out.1 HH.out.1)
  have hBb := hB2.trans (hbb2.mono hB2.size)
  have hnx2 := tnext_any wb c (.slice As N ca) s ((hu2.below hbb2 (Nat.le_refl _)).more hbb2.size) (by rw [← HN.out]; omega) Ab (l + m) c2 (cat g l h) hrd (by omega) a h1 h2
  have SIX : ∀ V : World, Below w2.heap.size w2 V → V.cell? ⟨w.heap.size, 0, none⟩ = some (.int .i64 (c 0)) ∧ V.cell? ⟨w.heap.size, 1, none⟩ = some (.int .i64 (c 1)) ∧ V.cell? ⟨w.heap.size, 2, none⟩ = some (.int .i64 (c 2)) ∧ V.cell? ⟨w.heap.size, 3, none⟩ = some (.int .i64 (c 3)) ∧ V.cell? ⟨w.heap.size, 4, none⟩ = some (.int .i64 (c 4)) ∧ V.cell? ⟨w.heap.size, 5, none⟩ = some (.int .i64 (c 5)) ∧ V.cell? ⟨w.heap.size, 6, none⟩ = some (.int .i64 (c 6)) ∧ V.cell? ⟨w.heap.size, 7, none⟩ = some (.int .i64 (c 7)) ∧ V.cell? ⟨w.heap.size, 8, none⟩ = some (.int .i64 (c 8)) ∧ V.cell? ⟨w.heap.size, 9, none⟩ = some (.int .i64 (c 9)) ∧ V.cell? ⟨w.heap.size, 10, none⟩ = some (.int .i64 (c 10)) ∧ V.cell? ⟨w.heap.size, 11, none⟩ = some (.int .i64 (c 11)) ∧ V.cell? ⟨w.heap.size, 12, none⟩ = some (.int .i64 (c 12)) ∧ V.cell? ⟨w.heap.size, 13, none⟩ = some (.int .i64 (c 13)) ∧ V.cell? ⟨w.heap.size, 14, none⟩ = some (.int .i64 (c 14)) ∧ V.cell? ⟨w.heap.size, 15, none⟩ = some (.int .i64 (c 15)) ∧ V.cell? ⟨w.heap.size, 16, none⟩ = some (.slice As N ca) := fun V hV => by
    have hT := hT2.below hV hw2
    exact ⟨hT.cnt (by omega), hT.cnt (by omega), hT.cnt (by omega), hT.cnt (by omega), hT.cnt (by omega), hT.cnt (by omega), hT.cnt (by omega), hT.cnt (by omega), hT.cnt (by omega), hT.cnt (by omega), hT.cnt (by omega), hT.cnt (by omega), hT.cnt (by omega), hT.cnt (by omega), hT.cnt (by omega), hT.cnt (by omega), hT.syms⟩
  obtain ⟨p1, p2, p3⟩ := P
  have HB2 := Lib.hid hB2; have H6 := Lib.hid SIX; have RA := Lib.hid hra; have RB := Lib.hid hrb; have HBB := Lib.hid hBb; have HNX2 := Lib.hid hnx2; have HP := Lib.hid hP
  clear SIX hra hrb hBb hnx2 hP hob hoa hoa2 hba hBa hrd hT2 hu2 ho hb2 k1
  have hUU : Below w2.heap.size w2 w2.drew := (Below.refl _ _).drew
  simp only [RdOut]
  go_wp2_with fail
  go_region_held3 (fun V => V.cell? ⟨w.heap.size, 0, none⟩ = some (.int .i64 (c 0)) ∧ V.cell? ⟨w.heap.size, 1, none⟩ = some (.int .i64 (c 1)) ∧ V.cell? ⟨w.heap.size, 2, none⟩ = some (.int .i64 (c 2)) ∧ V.cell? ⟨w.heap.size, 3, none⟩ = some (.int .i64 (c 3)) ∧ V.cell? ⟨w.heap.size, 4, none⟩ = some (.int .i64 (c 4)) ∧ V.cell? ⟨w.heap.size, 5, none⟩ = some (.int .i64 (c 5)) ∧ V.cell? ⟨w.heap.size, 6, none⟩ = some (.int .i64 (c 6)) ∧ V.cell? ⟨w.heap.size, 7, none⟩ = some (.int .i64 (c 7)) ∧ V.cell? ⟨w.heap.size, 8, none⟩ = some (.int .i64 (c 8)) ∧ V.cell? ⟨w.heap.size, 9, none⟩ = some (.int .i64 (c 9)) ∧ V.cell? ⟨w.heap.size, 10, none⟩ = some (.int .i64 (c 10)) ∧ V.cell? ⟨w.heap.size, 11, none⟩ = some (.int .i64 (c 11)) ∧ V.cell? ⟨w.heap.size, 12, none⟩ = some (.int .i64 (c 12)) ∧ V.cell? ⟨w.heap.size, 13, none⟩ = some (.int .i64 (c 13)) ∧ V.cell? ⟨w.heap.size, 14, none⟩ = some (.int .i64 (c 14)) ∧ V.cell? ⟨w.heap.size, 15, none⟩ = some (.int .i64 (c 15)) ∧ V.cell? ⟨w.heap.size, 16, none⟩ = some (.slice As N ca))
    (exact H6.out _ (by first | assumption | exact Below.drew (by assumption) | exact Below.refl _ _))
    (first
      | (refine step_app rfl (.const (.slice none 0 0)) (.tmp 46) 29 29 rfl (.slice none 0 0) (.slice A l cb) rfl rfl (.slice Aa l c1) wa RA.out ?_)
      | (refine step_app rfl (.tmp 47) (.tmp 48) 29 29 rfl (.slice Aa l c1) (.slice A2 m cm) rfl rfl (.slice Ab (l + m) c2) wb RB.out ?_)
      | (go_at_call 20; refine HNX2.out.mono ?_; rintro e w3 ⟨ho2, hb3⟩; obtain ⟨⟨q1, q2, q3⟩, rfl, hQ⟩ := nxt_num ho2; have hb4 := hbb2.trans (hb3.mono hbb2.size); clear hb3 ho2; simp only [RdOut]))
  obtain ⟨g1, g2⟩ := alone_num HP.out hQ
  have hB5 := HB2.out.trans (hb4.mono HB2.out.size)
  have HB5 := Lib.hid hB5
  clear hQ hb4 hUU hbb hbb2 hba2 hB5
  by_cases hp10 : p3 = 10
  · have g := g1 hp10
    have hp : (p3 == 10) = true := by simpa using hp10
    clear g1 g2 HP
    rcases g with hq | hq | hq
    all_goals
      simp only at hq
      subst hq
      go_wp2
      go_ret
      exact ⟨rfl, HB5.out⟩
  · have g := g2 hp10
    have hp : (p3 == 10) = false := by simpa using hp10
    injection g with e1 e2
    injection e2 with e2 e3
    subst e1 e2 e3
    have x1 : ((p1 : Int) == (p1 : Int)) = true := by simp
    have x2 : ((p2 : Int) == (p2 : Int)) = true := by simp
    have x3 : (p3 == p3) = true := by simp
    clear g1 g2 HP
    go_wp2
    go_ret
    exact ⟨rfl, HB5.out⟩
-- LAW
set_option maxRecDepth 100000 in
theorem alone_law_lifted (os : Os) (started : os.Started) (H : Type) (enc : TypeId × Value → H) :
    ReturnsInHanded {} Try.checked os 8 .any (Rows.treeAloneSpec.pre6 enc Try.prog Try.f8 Rows.treeAloneRow.domain false) (Rows.treeAloneSpec.post enc Try.prog Try.f8 false true false false) := by
  refine returnsInHanded_of_change (C := Try.checked) own started (by kernel_rfl) Try.func8
    (ChangeSpec.witness6 (enc := enc) (C := Try.checked) false ⟨#[], #[.agg (trA (fun _ => 0) (.slice none 0 0)), .slice none 0 0, .int .i64 0, .slice none 0 0], []⟩ 8 (by kernel_rfl) (by kernel_rfl) (by kernel_rfl) (by kernel_rfl)) ?_
  intro W base args ds gs before hval0 hW _ _
  have hval : ∀ (j : Nat) t v, Try.f8.params[j]? = some t → args[j]? = some v → Value.okWide Try.prog W .any base t v := hval0
  have hW' := hW
  obtain ⟨p, q, hA0, hV, rfl, _, _⟩ := hW
  have hA : DataW.TrodAll enc Try.prog W 0 (fun _ => true) true Try.f8.params.toList args.toList ds p := hA0
  rw [Try.params8] at hA hval
  obtain ⟨v0, vs0, d0, ds0, p0, q0, hargs, rfl, rfl, h0, r0⟩ := trodAll_cons hA
  obtain ⟨v1, vs1, d1, ds1, p1, q1, rfl, rfl, rfl, h1, r1⟩ := trodAll_cons r0
  obtain ⟨v2, vs2, d2, ds2, p2, q2, rfl, rfl, rfl, h2, r2⟩ := trodAll_cons r1
  obtain ⟨v3, vs3, d3, ds3, p3, q3, rfl, rfl, rfl, h3, r3⟩ := trodAll_cons r2
  obtain ⟨rfl, rfl, rfl⟩ := trodAll_nil r3
  obtain rfl : args = #[v0, v1, v2, v3] := by cases args; simp_all
  obtain ⟨rfl, rfl⟩ := trodVars_none hV
  have k0 := h0
  have lt0 : ∀ x ∈ p0, x.block < W.heap.size := by obtain ⟨m, hm⟩ := k0; exact DataW.trod_lt m _ _ _ hm
  obtain ⟨c0, u0, s0, rfl, hr0, hc0, hs0⟩ := open_tree (hval 0 25 v0 rfl rfl) h0
  have k1 := h1
  have lt1 : ∀ x ∈ p1, x.block < W.heap.size := by obtain ⟨m, hm⟩ := k1; exact DataW.trod_lt m _ _ _ hm
  obtain ⟨A1, len1, cap1, rfl⟩ := okWide_slice Try.underlying29 (hval 1 29 v1 rfl rfl)
  obtain ⟨f1, hr1, hn1, hl1, hm1⟩ := open_bytes h1
  have k2 := h2
  have lt2 : ∀ x ∈ p2, x.block < W.heap.size := by obtain ⟨m, hm⟩ := k2; exact DataW.trod_lt m _ _ _ hm
  obtain ⟨a2, rfl, rfl, rfl, w2⟩ := open_int Try.underlying3 (hval 2 3 v2 rfl rfl) h2
  have u2 := wf_i64_range w2
  have k3 := h3
  have lt3 : ∀ x ∈ p3, x.block < W.heap.size := by obtain ⟨m, hm⟩ := k3; exact DataW.trod_lt m _ _ _ hm
  obtain ⟨A3, len3, cap3, rfl⟩ := okWide_slice Try.underlying29 (hval 3 29 v3 rfl rfl)
  obtain ⟨f3, hr3, hn3, hl3, hm3⟩ := open_bytes h3
  clear hA0 hval0
  refine (alone_law c0 u0 s0 A1 len1 cap1 f1 a2 A3 len3 cap3 f3 W hr0 hc0 hs0 hr1 hn1 u2.1 u2.2 hr3 hn3).mono fun e W' ⟨he, bel⟩ => ?_
  subst he
  exact ⟨_, rfl, _, _, _, [], _, [], hW', trodAll_mk1 (shut_bool Try.underlying4 _), (trodAll_cons_mk (Below.trod laidOut (by kernel_rfl) (of_decide_eq_true (by kernel_rfl)) k0 bel lt0) (trodAll_cons_mk (Below.trod laidOut (by kernel_rfl) (of_decide_eq_true (by kernel_rfl)) k1 bel lt1) (trodAll_cons_mk (Below.trod laidOut (by kernel_rfl) (of_decide_eq_true (by kernel_rfl)) k2 bel lt2) (trodAll_cons_mk (Below.trod laidOut (by kernel_rfl) (of_decide_eq_true (by kernel_rfl)) k3 bel lt3) trodAll_mk0)))), rfl, bel.frame _, fun h => by cases h⟩
theorem alone_law_holds : Rows.TreeAloneSaid :=
  OpenClaim.holds_of_wide 8 Try.f8 rfl rfl rfl rfl rfl rfl rfl ⟨rfl, rfl, rfl, rfl, rfl⟩ rfl rfl rfl rfl rfl (by kernel_rfl) Try.func8 (by kernel_rfl)
    (of_decide_eq_true (by kernel_rfl)) (by unfold Func.isWrapper; first | (rw [if_pos (by decide +kernel)]; kernel_rfl) | (rw [if_neg (by decide +kernel)]; exact ⟨rfl, rfl⟩))
    (fun os started H enc _ => alone_law_lifted os started H enc)
#print axioms alone_law_holds
end Go.Proofs.Ytedjapamimhglaa
