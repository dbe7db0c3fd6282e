/-
  The law TreeGrows, for every lengths, limit and two trees, returns true: trees are made, checked and compared as the document says. No condition.
-/
import Derived.Test.YtedjapamimhglaaTreeRea
namespace Go.Proofs.Ytedjapamimhglaa
open Go.RowKit Go.ChangeShapes Go.WideShapes Go.ChangeAt
theorem chk_same {c : Nat → Int} {s : List Int} : ∃ q : Int, ∀ e, ChkOut c s e → e = .returned (.int .i64 q) := by
  by_cases h : ∃ f, IsTree c s f
  · exact ⟨0, fun e he => he.elim (fun g => g.2) (fun g => absurd h (fun ⟨f, hf⟩ => g.1 f hf))⟩
  · exact ⟨8, fun e he => he.elim (fun g => absurd g.1 h) (fun g => g.2)⟩
theorem grS_le (f : Nat → Nat) (n : Nat) (most : Int) : (grS f n most).length ≤ 320 * 15 := by
  unfold grS
  split
  · rename_i h
    have hn := (check_ok h).2.2.1
    rw [natsI_length, symL_length]
    exact Nat.le_trans (sumC_le f n 15) (Nat.mul_le_mul_right _ hn)
  · exact Nat.zero_le _
theorem trA_range {w : World} {b : Nat} {c : Nat → Int} {v : Value} (h : TreA w b c v) : w.rangeAt b 0 (trL c v) := fun j u hu => by
  rw [Nat.zero_add, cell_of_row w b j _ _ (0, 0) h]
  simpa [trA] using hu
theorem szTreeL (c : Nat → Int) (v : Value) : (Try.prog.info? 25).map (·.size) = some (trL c v).length := by
  have : (trL c v).length = 17 := by simp [trL, cntV]
  rw [this]; exact szTree
/-- A tree laid into a variable of the call's own. -/
def layT (W : World) (c : Nat → Int) (v : Value) : World := (W.alloc (.cells (trA (fun _ => 0) (.slice none 0 0)) 25)).setRow W.heap.size (trA c v)
theorem layT_tre (W : World) (c : Nat → Int) (v : Value) : TreA (layT W c v) W.heap.size c v := setRow_tre (box_tree W _ _)
theorem layT_below (W : World) (c : Nat → Int) (v : Value) : Below W.heap.size W (layT W c v) := below_setRowT ((Below.refl _ _).alloc (Nat.le_refl _) _) (Nat.le_refl _) _
theorem layT_size (W : World) (c : Nat → Int) (v : Value) : (layT W c v).heap.size = W.heap.size + 1 := by unfold layT; rw [size_setRow]; simp
set_option maxRecDepth 100000 in
set_option maxHeartbeats 8000000 in
theorem grows_law (A : Option Addr) (n cb : Nat) (f : Nat → Nat) (most : Int) (c : Nat → Int) (u : Value) (s : List Int) (d : Nat → Int) (u2 : Value) (s2 : List Int) (w : World) (hg : RdB w w.heap.size A n f) (hA : A = none → cb = 0) (_h1 : -9223372036854775808 ≤ most) (_h2 : most ≤ 9223372036854775807)
    (hu : RdS w w.heap.size u s) (_hc : ∀ m, m < 16 → -9223372036854775808 ≤ c m ∧ c m ≤ 9223372036854775807) (_hs : ∀ x ∈ s, -9223372036854775808 ≤ x ∧ x ≤ 9223372036854775807)
    (hu2 : RdS w w.heap.size u2 s2) (_hc2 : ∀ m, m < 16 → -9223372036854775808 ≤ d m ∧ d m ≤ 9223372036854775807) (_hs2 : ∀ x ∈ s2, -9223372036854775808 ≤ x ∧ x ≤ 9223372036854775807) :
    Calls Try.prog 4 #[.slice A n cb, .int .i64 most, .agg (trA c u), .agg (trA d u2)] w fun e w' => e = .returned (.bool true) ∧ Below w.heap.size w w' := by
  have hz := (zero_of_info infoTree).1
  have hb0 := ((Below.refl w.heap.size w).alloc (Nat.le_refl _) (.cells (trA c u) 25)).alloc (by simp) (.cells (trA d u2) 25)
  have ht0 : TreA ((w.alloc (.cells (trA c u) 25)).alloc (.cells (trA d u2) 25)) w.heap.size c u := heap_alloc2_old w _ _
  have ht1 : TreA ((w.alloc (.cells (trA c u) 25)).alloc (.cells (trA d u2) 25)) (w.heap.size + 1) d u2 := heap_alloc2_new w _ _
  have hsz0 : ((w.alloc (.cells (trA c u) 25)).alloc (.cells (trA d u2) 25)).heap.size = w.heap.size + 2 := by simp
  have k0 := ht0.syms
  have k1 := ht1.syms
  obtain ⟨N, hN⟩ : ∃ N, N = s.length := ⟨_, rfl⟩
  obtain ⟨M, hM⟩ : ∃ M, M = s2.length := ⟨_, rfl⟩
  have hu0 := hu; have hu20 := hu2
  obtain ⟨As, ca, hue, _, _⟩ := hu
  obtain ⟨Bs, cb2, hue2, _, _⟩ := hu2
  subst hue hue2
  rw [← hN] at k0
  rw [← hM] at k1
  by_cases hbig : 1000 < n ∨ 1000 < N ∨ 1000 < M
  · rw [← hN] at k1 hb0 ⊢
    rw [← hM] at k0 hb0 ⊢
    have HB0 := Lib.hid hb0
    clear hu0 hu20 hb0 ht0 ht1 hg hA hz hN hM _hc _hs _hc2 _hs2
    by_cases hb1 : 1000 < n
    · have hd : decide (1000 < (n : Int)) = true := by simp; omega
      go_enter Try.func4, Try.ntmps4
      go_wp2
      go_ret
      exact ⟨rfl, HB0.out⟩
    · have hd : decide (1000 < (n : Int)) = false := by simp; omega
      by_cases hb2 : 1000 < N
      · have hd2 : decide (1000 < (N : Int)) = true := by simp; omega
        go_enter Try.func4, Try.ntmps4
        go_wp2
        go_ret
        exact ⟨rfl, HB0.out⟩
      · have hd2 : decide (1000 < (N : Int)) = false := by simp; omega
        have hd3 : decide (1000 < (M : Int)) = true := by simp; omega
        go_enter Try.func4, Try.ntmps4
        go_wp2
        go_ret
        exact ⟨rfl, HB0.out⟩
  have hd : decide (1000 < (n : Int)) = false := by simp; omega
  have hd2 : decide (1000 < (N : Int)) = false := by simp; omega
  have hd3 : decide (1000 < (M : Int)) = false := by simp; omega
  have hNl : n ≤ 1000 ∧ N ≤ 1000 ∧ M ≤ 1000 := by omega
  clear hbig
  have htw := twin5_any ((w.alloc (.cells (trA c (.slice As s.length ca)) 25)).alloc (.cells (trA d (.slice Bs s2.length cb2)) 25)) c (.slice As s.length ca) s ((hu0.below hb0 (Nat.le_refl _)).more hb0.size) (by omega)
  have HTW := Lib.hid htw; have HT0 := Lib.hid ht0; have HT1 := Lib.hid ht1; have HB0 := Lib.hid hb0; have HU := Lib.hid hu0; have HU2 := Lib.hid hu20; have HG := Lib.hid hg; have HA := Lib.hid hA
  clear htw ht0 ht1 hb0 hu0 hu20 hg hA _hc _hs _hc2 _hs2
  rw [← hN, ← hM] at HTW HT0 HT1 HB0
  rw [← hN, ← hM] at hsz0 ⊢
  rw [← hN] at HU k1
  rw [← hM] at HU2 k0
  have HN := Lib.hid hN; have HM := Lib.hid hM
  clear hN hM
  go_enter Try.func4, Try.ntmps4
  go_wp2_with (refine wpList_load_row rfl _ _ rfl w.heap.size rfl _ (trA c (.slice As N ca)) (0, 0) _ HT0.out Try.underlying25 rfl (by rw [trA_size]; exact szTree) ?_)
  refine HTW.out.mono ?_
  rintro e w2 ⟨v, rfl, hv, hb2⟩
  -- own
  have hB2 := HB0.out.trans (hb2.mono HB0.out.size)
  have hT2 := HT0.out.below hb2 HT0.out.lt
  have hT2b := HT1.out.below hb2 HT1.out.lt
  have hw2 : w.heap.size + 2 ≤ w2.heap.size := by have := hb2.size; omega
  have hv1 := hv.one
  obtain ⟨w3, hw3⟩ : ∃ w3, w3 = layT w2 c v := ⟨_, rfl⟩
  have hT3o := layT_tre w2 c v
  have hB3x := layT_below w2 c v
  have hs3 := layT_size w2 c v
  rw [← hw3] at hT3o hB3x hs3
  have hB3 := hB2.trans (hB3x.mono hB2.size)
  have hv3 := (hv.rd.below hB3x (Nat.le_refl _)).more hB3x.size
  have hT3 := hT2.below hB3x (by omega)
  have hT3b := hT2b.below hB3x (by omega)
  obtain ⟨A', c', w4, hrun, hown, hb4, hrd4⟩ := run_twin w3 w.heap.size A n cb f (HG.out.below hB3 (Nat.le_refl _)) (by omega) 29 HA.out
  have hB4 := hB3.trans (hb4.mono hB3.size)
  have hv4 := (hv3.below hb4 (Nat.le_refl _)).more hb4.size
  have hT4 := hT3.below hb4 (by omega)
  have hT4b := hT3b.below hb4 (by omega)
  have hT4o := hT3o.below hb4 (by omega)
  have hw4 := hb4.size
  have HW3 := Lib.hid hw3; have HV1 := Lib.hid hv1; have HRUN := Lib.hid hrun; have HB4 := Lib.hid hB4; have HV4 := Lib.hid hv4; have HT4 := Lib.hid hT4; have HT4B := Lib.hid hT4b; have HT4O := Lib.hid hT4o; have HRD4 := Lib.hid hrd4
  clear hb2 hB2 hT2 hT2b hv hw3 hT3o hB3x hB3 hv3 hT3 hT3b hrun hown hb4 hB4 hv4 hT4 hT4b hT4o hrd4 k0 k1 hv1
  have hZ2 := Lib.hid (box_tree w2 (fun _ => 0) (.slice none 0 0))
  go_wp2_with (first
    | (refine wpList_store_rowT rfl _ _ _ rfl w2.heap.size (trA c v) rfl rfl _ (trA (fun _ => 0) (.slice none 0 0)) hZ2.out (by rw [trA_size]; exact szTree) (by rw [trA_size, trA_size]) (trA_one _ _ HV1.out) ?_; change wpList _ _ _ _ _ (layT w2 c v); rw [← HW3.out])
    | (at_builtin; refine wpList_append_run rfl (.const (.slice none 0 0)) (.tmp 33) 29 rfl (.slice none 0 0) (.slice A n cb) (.slice A' n c') w4 rfl rfl HRUN.out ?_))
  -- x
  refine (tgrow_any w4 A' n c' f most HRD4.out (by omega)).mono ?_
  rintro e w5 ⟨vx, rfl, hx, hb5⟩
  obtain ⟨E, hE⟩ : ∃ E, E = checkE f n most := ⟨_, rfl⟩
  rw [← hE]
  have hgl := grS_le f n most
  obtain ⟨G, hG⟩ : ∃ G, G = grC f n most := ⟨_, rfl⟩
  obtain ⟨Y, hY⟩ : ∃ Y, Y = grS f n most := ⟨_, rfl⟩
  rw [← hG]
  rw [← hY] at hx hgl
  have HE := Lib.hid hE; have HGG := Lib.hid hG; have HY := Lib.hid hY
  clear hE hG hY
  have hx1 := hx.one
  have hB5 := HB4.out.trans (hb5.mono HB4.out.size)
  have hv5 := (HV4.out.below hb5 (Nat.le_refl _)).more hb5.size
  have hT5 := HT4.out.below hb5 HT4.out.lt
  have hT5b := HT4B.out.below hb5 HT4B.out.lt
  have hT5o := HT4O.out.below hb5 HT4O.out.lt
  have hrd5 := (HRD4.out.below hb5 (Nat.le_refl _)).more hb5.size
  have hw5 := hb5.size
  obtain ⟨w6, hw6⟩ : ∃ w6, w6 = layT w5 G vx := ⟨_, rfl⟩
  have hT6x := layT_tre w5 G vx
  have hB6x := layT_below w5 G vx
  have hs6 := layT_size w5 G vx
  rw [← hw6] at hT6x hB6x hs6
  have hB6 := hB5.trans (hB6x.mono hB5.size)
  have hv6 := (hv5.below hB6x (Nat.le_refl _)).more hB6x.size
  have hx6 := (hx.below hB6x (Nat.le_refl _)).more hB6x.size
  have hT6 := hT5.below hB6x hT5.lt
  have hT6b := hT5b.below hB6x hT5b.lt
  have hT6o := hT5o.below hB6x hT5o.lt
  have hrd6 := (hrd5.below hB6x (Nat.le_refl _)).more hB6x.size
  have hgr := rgrow_any w6 A n cb f most ((HG.out.below hB6 (Nat.le_refl _)).more hB6.size)
  rw [← HE.out, ← HGG.out, ← HY.out] at hgr
  have HGR := Lib.hid hgr
  have HW6 := Lib.hid hw6; have HX1 := Lib.hid hx1; have HB6 := Lib.hid hB6; have HV6 := Lib.hid hv6; have HX6 := Lib.hid hx6; have HT6 := Lib.hid hT6; have HT6B := Lib.hid hT6b; have HT6O := Lib.hid hT6o; have HT6X := Lib.hid hT6x; have HRD6 := Lib.hid hrd6
  clear hx hb5 hB5 hv5 hT5 hT5b hT5o hrd5 hw6 hT6x hB6x hB6 hv6 hx6 hT6 hT6b hT6o hrd6 hgr hx1
  have hZ5 := Lib.hid (box_tree w5 (fun _ => 0) (.slice none 0 0))
  go_wp2_with (refine wpList_store_rowT rfl _ _ _ rfl w5.heap.size (trA G vx) rfl rfl _ (trA (fun _ => 0) (.slice none 0 0)) hZ5.out (by rw [trA_size]; exact szTree) (by rw [trA_size, trA_size]) (trA_one _ _ HX1.out) ?_; change wpList _ _ _ _ _ (layT w5 G vx); rw [← HW6.out])
  -- y
  refine HGR.out.mono ?_
  rintro e w7 ⟨vy, rfl, hy, hb7⟩
  have hy1 := hy.one
  have hyr := hy.rd
  have hB7 := HB6.out.trans (hb7.mono HB6.out.size)
  obtain ⟨w8, hw8⟩ : ∃ w8, w8 = layT w7 G vy := ⟨_, rfl⟩
  have hT8y := layT_tre w7 G vy
  have hB8x := layT_below w7 G vy
  have hs8 := layT_size w7 G vy
  rw [← hw8] at hT8y hB8x hs8
  have hb68 := hb7.trans (hB8x.mono hb7.size)
  have hB8 := hB7.trans (hB8x.mono hB7.size)
  have hv8 := (HV6.out.below hb68 (Nat.le_refl _)).more hb68.size
  have hx8 := (HX6.out.below hb68 (Nat.le_refl _)).more hb68.size
  have hy8 := (hyr.below hB8x (Nat.le_refl _)).more hB8x.size
  have hT8 := HT6.out.below hb68 HT6.out.lt
  have hT8b := HT6B.out.below hb68 HT6B.out.lt
  have hT8o := HT6O.out.below hb68 HT6O.out.lt
  have hT8x := HT6X.out.below hb68 HT6X.out.lt
  have hrd8 := (HRD6.out.below hb68 (Nat.le_refl _)).more hb68.size
  have hw8s := hb68.size
  have HW8 := Lib.hid hw8; have HY1 := Lib.hid hy1; have HB8 := Lib.hid hB8; have HV8 := Lib.hid hv8; have HX8 := Lib.hid hx8; have HY8 := Lib.hid hy8; have HT8 := Lib.hid hT8; have HT8B := Lib.hid hT8b; have HT8O := Lib.hid hT8o; have HT8X := Lib.hid hT8x; have HT8Y := Lib.hid hT8y; have HRD8 := Lib.hid hrd8
  have hU8 := (HU.out.below hB8 (Nat.le_refl _)).more hB8.size
  have hU28 := (HU2.out.below hB8 (Nat.le_refl _)).more hB8.size
  have HU8 := Lib.hid hU8; have HU28 := Lib.hid hU28
  clear hy hb7 hB7 hw8 hT8y hB8x hB8 hb68 hv8 hx8 hy8 hT8 hT8b hT8o hT8x hrd8 hU8 hU28 hy1 hyr
  have hZ7 := Lib.hid (box_tree w7 (fun _ => 0) (.slice none 0 0))
  go_wp2_with (refine wpList_store_rowT rfl _ _ _ rfl w7.heap.size (trA G vy) rfl rfl _ (trA (fun _ => 0) (.slice none 0 0)) hZ7.out (by rw [trA_size]; exact szTree) (by rw [trA_size, trA_size]) (trA_one _ _ HY1.out) ?_; change wpList _ _ _ _ _ (layT w7 G vy); rw [← HW8.out])
  -- the comparisons
  obtain ⟨q, hq⟩ := chk_same (c := c) (s := s)
  have hlN : s.length ≤ 1000000 := by rw [← HN.out]; omega
  have hlM : s2.length ≤ 1000000 := by rw [← HM.out]; omega
  have S1 : ∀ V : World, Below w8.heap.size w8 V → Calls Try.prog 17 #[.agg (trL G vx).toArray, .agg (trL G vy).toArray] V fun e V' => e = .returned (.bool true) ∧ Below w8.heap.size w8 V' := fun V hV => by
    have h := same5_any V G G vx vy Y Y ((HX8.out.below hV (Nat.le_refl _)).more hV.size) ((HY8.out.below hV (Nat.le_refl _)).more hV.size) (by omega) (by omega)
    rw [sameT_refl] at h
    exact h.mono fun _ _ ⟨h1, h2⟩ => ⟨h1, hV.trans (h2.mono hV.size)⟩
  have S2 : ∀ V : World, Below w8.heap.size w8 V → Calls Try.prog 14 #[.agg (trL c v).toArray] V fun e V' => e = .returned (.int .i64 q) ∧ Below w8.heap.size w8 V' := fun V hV =>
    (tchk_any V c v s ((HV8.out.below hV (Nat.le_refl _)).more hV.size) hlN).mono fun _ _ ⟨h1, h2⟩ => ⟨hq _ h1, hV.trans (h2.mono hV.size)⟩
  have S3 : ∀ V : World, Below w8.heap.size w8 V → Calls Try.prog 18 #[.agg (trL c (.slice As N ca)).toArray] V fun e V' => e = .returned (.int .i64 q) ∧ Below w8.heap.size w8 V' := fun V hV =>
    (rchk5_any V c _ s ((HU8.out.below hV (Nat.le_refl _)).more hV.size) (by omega)).mono fun _ _ ⟨h1, h2⟩ => ⟨hq _ h1, hV.trans (h2.mono hV.size)⟩
  have LX : ∀ V : World, (∃ p : After w8.heap.size w8, V = p.w) → V.rangeAt w5.heap.size 0 (trL G vx) := fun V ⟨p, hp⟩ => hp ▸ trA_range (HT8X.out.below p.h HT8X.out.lt)
  have LY : ∀ V : World, (∃ p : After w8.heap.size w8, V = p.w) → V.rangeAt w7.heap.size 0 (trL G vy) := fun V ⟨p, hp⟩ => hp ▸ trA_range (HT8Y.out.below p.h HT8Y.out.lt)
  have LO : ∀ V : World, (∃ p : After w8.heap.size w8, V = p.w) → V.rangeAt w2.heap.size 0 (trL c v) := fun V ⟨p, hp⟩ => hp ▸ trA_range (HT8O.out.below p.h HT8O.out.lt)
  have LT : ∀ V : World, (∃ p : After w8.heap.size w8, V = p.w) → V.rangeAt w.heap.size 0 (trL c (.slice As N ca)) := fun V ⟨p, hp⟩ => hp ▸ trA_range (HT8.out.below p.h HT8.out.lt)
  have LU : ∀ V : World, (∃ p : After w8.heap.size w8, V = p.w) → V.rangeAt (w.heap.size + 1) 0 (trL d (.slice Bs M cb2)) := fun V ⟨p, hp⟩ => hp ▸ trA_range (HT8B.out.below p.h HT8B.out.lt)
  have T1 := Lib.hid S1; have T2 := Lib.hid S2; have T3 := Lib.hid S3; have RX := Lib.hid LX; have RY := Lib.hid LY; have RO := Lib.hid LO; have RT := Lib.hid LT; have RU := Lib.hid LU
  clear S1 S2 S3 LX LY LO LT LU hq
  have hEE : (E == E) = true := by simp
  have hqq : (q == q) = true := by simp
  refine wp_region_after w8.heap.size w8 (Below.refl _ _) (by kernel_rfl) (by kernel_rfl) ?_
  repeat (first
    | (go_big_quiet_want; with_reducible refine quiet_load_row _ _ rfl _ _ rfl _ _ RX.out Try.underlying25 rfl (szTreeL _ _) ?_; go_big_quiet_on; simp only [Act.put, List.setIfInBounds_toArray, List.set_cons_zero, List.set_cons_succ])
    | (go_big_quiet_want; with_reducible refine quiet_load_row _ _ rfl _ _ rfl _ _ RY.out Try.underlying25 rfl (szTreeL _ _) ?_; go_big_quiet_on; simp only [Act.put, List.setIfInBounds_toArray, List.set_cons_zero, List.set_cons_succ])
    | (go_big_quiet_want; with_reducible refine quiet_load_row _ _ rfl _ _ rfl _ _ RO.out Try.underlying25 rfl (szTreeL _ _) ?_; go_big_quiet_on; simp only [Act.put, List.setIfInBounds_toArray, List.set_cons_zero, List.set_cons_succ])
    | (go_big_quiet_want; with_reducible refine quiet_load_row _ _ rfl _ _ rfl _ _ RT.out Try.underlying25 rfl (szTreeL _ _) ?_; go_big_quiet_on; simp only [Act.put, List.setIfInBounds_toArray, List.set_cons_zero, List.set_cons_succ])
    | (go_big_quiet_step (first | (with_reducible exact call_after T1.out _) | (with_reducible exact call_after T2.out _) | (with_reducible exact call_after T3.out _))))
  refine wpQuiet_nil ?_
  rintro V ⟨⟨V, hV⟩, rfl⟩
  have HB9 := Lib.hid (HB8.out.trans (hV.mono HB8.out.size))
  have hv9 := (HV8.out.below hV (Nat.le_refl _)).more hV.size
  have hU9 := (HU8.out.below hV (Nat.le_refl _)).more hV.size
  have hU29 := (HU28.out.below hV (Nat.le_refl _)).more hV.size
  have LO : ∀ X : World, (∃ p : After V.heap.size V, X = p.w) → X.rangeAt w2.heap.size 0 (trL c v) := fun X ⟨p, hp⟩ => hp ▸ trA_range ((HT8O.out.below hV HT8O.out.lt).below p.h (HT8O.out.below hV HT8O.out.lt).lt)
  have LT : ∀ X : World, (∃ p : After V.heap.size V, X = p.w) → X.rangeAt w.heap.size 0 (trL c (.slice As N ca)) := fun X ⟨p, hp⟩ => hp ▸ trA_range ((HT8.out.below hV HT8.out.lt).below p.h (HT8.out.below hV HT8.out.lt).lt)
  have LU : ∀ X : World, (∃ p : After V.heap.size V, X = p.w) → X.rangeAt (w.heap.size + 1) 0 (trL d (.slice Bs M cb2)) := fun X ⟨p, hp⟩ => hp ▸ trA_range ((HT8B.out.below hV HT8B.out.lt).below p.h (HT8B.out.below hV HT8B.out.lt).lt)
  have hrd9 := (HRD8.out.below hV (Nat.le_refl _)).more hV.size
  have hg9 := (HG.out.below HB9.out (Nat.le_refl _)).more HB9.out.size
  obtain ⟨Z, hZ⟩ : ∃ Z, Z = sameT c d s s2 := ⟨_, rfl⟩
  have S1 : ∀ X : World, Below V.heap.size V X → Calls Try.prog 19 #[.agg (trL c v).toArray, .agg (trL d (.slice Bs M cb2)).toArray] X fun e V' => e = .returned (.bool Z) ∧ Below V.heap.size V V' := fun X hX => by
    rw [hZ]
    exact (tsame_any X c d v _ s s2 ((hv9.below hX (Nat.le_refl _)).more hX.size) ((hU29.below hX (Nat.le_refl _)).more hX.size) hlN hlM).mono fun _ _ ⟨h1, h2⟩ => ⟨h1, hX.trans (h2.mono hX.size)⟩
  have S2 : ∀ X : World, Below V.heap.size V X → Calls Try.prog 17 #[.agg (trL c (.slice As N ca)).toArray, .agg (trL d (.slice Bs M cb2)).toArray] X fun e V' => e = .returned (.bool Z) ∧ Below V.heap.size V V' := fun X hX => by
    rw [hZ]
    exact (same5_any X c d _ _ s s2 ((hU9.below hX (Nat.le_refl _)).more hX.size) ((hU29.below hX (Nat.le_refl _)).more hX.size) (by omega) (by omega)).mono fun _ _ ⟨h1, h2⟩ => ⟨h1, hX.trans (h2.mono hX.size)⟩
  have S3 : ∀ X : World, Below V.heap.size V X → Calls Try.prog 19 #[.agg (trL c v).toArray, .agg (trL c (.slice As N ca)).toArray] X fun e V' => e = .returned (.bool true) ∧ Below V.heap.size V V' := fun X hX => by
    have h := tsame_any X c c v (.slice As N ca) s s ((hv9.below hX (Nat.le_refl _)).more hX.size) ((hU9.below hX (Nat.le_refl _)).more hX.size) hlN hlN
    rw [sameT_refl] at h
    exact h.mono fun _ _ ⟨h1, h2⟩ => ⟨h1, hX.trans (h2.mono hX.size)⟩
  have S4 : ∀ X : World, Below V.heap.size V X → Calls Try.prog 17 #[.agg (trL c v).toArray, .agg (trL c (.slice As N ca)).toArray] X fun e V' => e = .returned (.bool true) ∧ Below V.heap.size V V' := fun X hX => by
    have h := same5_any X c c v (.slice As N ca) s s ((hv9.below hX (Nat.le_refl _)).more hX.size) ((hU9.below hX (Nat.le_refl _)).more hX.size) (by omega) (by omega)
    rw [sameT_refl] at h
    exact h.mono fun _ _ ⟨h1, h2⟩ => ⟨h1, hX.trans (h2.mono hX.size)⟩
  obtain ⟨S, hS⟩ : ∃ S, S = strB n f := ⟨_, rfl⟩
  have L1 : ∀ p : After V.heap.size V, (convert 29 9 (.slice A' n c')).run Try.prog p.w = .ok (.string S) p.w := fun p => by rw [hS]; exact run_str (hrd9.below p.h (Nat.le_refl _)) c'
  have L2 : ∀ p : After V.heap.size V, (convert 29 9 (.slice A n cb)).run Try.prog p.w = .ok (.string S) p.w := fun p => by rw [hS]; exact run_str (hg9.below p.h (Nat.le_refl _)) cb
  have hZZ : (Z == Z) = true := by simp
  clear T1 T2 T3 RX RY RO RT RU hS hZ hv9 hU9 hU29 hrd9 hg9
  have T1 := Lib.hid S1; have T2 := Lib.hid S2; have T3 := Lib.hid S3; have T4 := Lib.hid S4; have RO := Lib.hid LO; have RT := Lib.hid LT; have RU := Lib.hid LU
  clear S1 S2 S3 S4 LO LT LU hV
  go_wp2_with fail
  refine wp_region_after V.heap.size V (Below.refl _ _) (by kernel_rfl) (by kernel_rfl) ?_
  repeat (first
    | (go_big_quiet_want; with_reducible refine quiet_load_row _ _ rfl _ _ rfl _ _ RO.out Try.underlying25 rfl (szTreeL _ _) ?_; go_big_quiet_on; simp only [Act.put, List.setIfInBounds_toArray, List.set_cons_zero, List.set_cons_succ])
    | (go_big_quiet_want; with_reducible refine quiet_load_row _ _ rfl _ _ rfl _ _ RT.out Try.underlying25 rfl (szTreeL _ _) ?_; go_big_quiet_on; simp only [Act.put, List.setIfInBounds_toArray, List.set_cons_zero, List.set_cons_succ])
    | (go_big_quiet_want; with_reducible refine quiet_load_row _ _ rfl _ _ rfl _ _ RU.out Try.underlying25 rfl (szTreeL _ _) ?_; go_big_quiet_on; simp only [Act.put, List.setIfInBounds_toArray, List.set_cons_zero, List.set_cons_succ])
    | (go_big_quiet_step (first | (with_reducible exact call_after T1.out _) | (with_reducible exact call_after T2.out _) | (with_reducible exact call_after T3.out _) | (with_reducible exact call_after T4.out _))))
  refine wpQuiet_nil ?_
  rintro V2 ⟨⟨V2, hV2⟩, rfl⟩
  have HB10 := Lib.hid (HB9.out.trans (hV2.mono HB9.out.size))
  clear hV2 L1 L2
  go_wp2
  go_ret
  exact ⟨rfl, HB10.out⟩
-- LAW
set_option maxRecDepth 100000 in
theorem grows_law_lifted (os : Os) (started : os.Started) (H : Type) (enc : TypeId × Value → H) :
    ReturnsInHanded {} Try.checked os 4 .any (Rows.treeGrowsSpec.pre6 enc Try.prog Try.f4 Rows.treeGrowsRow.domain false) (Rows.treeGrowsSpec.post enc Try.prog Try.f4 false true false false) := by
  refine returnsInHanded_of_change (C := Try.checked) own started (by kernel_rfl) Try.func4
    (ChangeSpec.witness6 (enc := enc) (C := Try.checked) false ⟨#[], #[.slice none 0 0, .int .i64 0, .agg (trA (fun _ => 0) (.slice none 0 0)), .agg (trA (fun _ => 0) (.slice none 0 0))], []⟩ 8 (by kernel_rfl) (by kernel_rfl) (by kernel_rfl) (by kernel_rfl)) ?_
  intro W base args ds gs before hval0 hW _ _
  have hval : ∀ (j : Nat) t v, Try.f4.params[j]? = some t → args[j]? = some v → Value.okWide Try.prog W .any base t v := hval0
  have hW' := hW
  obtain ⟨p, q, hA0, hV, rfl, _, _⟩ := hW
  have hA : DataW.TrodAll enc Try.prog W 0 (fun _ => true) true Try.f4.params.toList args.toList ds p := hA0
  rw [Try.params4] at hA hval
  obtain ⟨v0, vs0, d0, ds0, p0, q0, hargs, rfl, rfl, h0, r0⟩ := trodAll_cons hA
  obtain ⟨v1, vs1, d1, ds1, p1, q1, rfl, rfl, rfl, h1, r1⟩ := trodAll_cons r0
  obtain ⟨v2, vs2, d2, ds2, p2, q2, rfl, rfl, rfl, h2, r2⟩ := trodAll_cons r1
  obtain ⟨v3, vs3, d3, ds3, p3, q3, rfl, rfl, rfl, h3, r3⟩ := trodAll_cons r2
  obtain ⟨rfl, rfl, rfl⟩ := trodAll_nil r3
  obtain rfl : args = #[v0, v1, v2, v3] := by cases args; simp_all
  obtain ⟨rfl, rfl⟩ := trodVars_none hV
  have k0 := h0
  have lt0 : ∀ x ∈ p0, x.block < W.heap.size := by obtain ⟨m, hm⟩ := k0; exact DataW.trod_lt m _ _ _ hm
  obtain ⟨A0, len0, cap0, rfl⟩ := okWide_slice Try.underlying29 (hval 0 29 v0 rfl rfl)
  obtain ⟨f0, hr0, hn0, hl0, hm0⟩ := open_bytes h0
  have k1 := h1
  have lt1 : ∀ x ∈ p1, x.block < W.heap.size := by obtain ⟨m, hm⟩ := k1; exact DataW.trod_lt m _ _ _ hm
  obtain ⟨a1, rfl, rfl, rfl, w1⟩ := open_int Try.underlying3 (hval 1 3 v1 rfl rfl) h1
  have u1 := wf_i64_range w1
  have k2 := h2
  have lt2 : ∀ x ∈ p2, x.block < W.heap.size := by obtain ⟨m, hm⟩ := k2; exact DataW.trod_lt m _ _ _ hm
  obtain ⟨c2, u2, s2, rfl, hr2, hc2, hs2⟩ := open_tree (hval 2 25 v2 rfl rfl) h2
  have k3 := h3
  have lt3 : ∀ x ∈ p3, x.block < W.heap.size := by obtain ⟨m, hm⟩ := k3; exact DataW.trod_lt m _ _ _ hm
  obtain ⟨c3, u3, s3, rfl, hr3, hc3, hs3⟩ := open_tree (hval 3 25 v3 rfl rfl) h3
  clear hA0 hval0
  refine (grows_law A0 len0 cap0 f0 a1 c2 u2 s2 c3 u3 s3 W hr0 hn0 u1.1 u1.2 hr2 hc2 hs2 hr3 hc3 hs3).mono fun e W' ⟨he, bel⟩ => ?_
  subst he
  exact ⟨_, rfl, _, _, _, [], _, [], hW', trodAll_mk1 (shut_bool Try.underlying4 _), (trodAll_cons_mk (Below.trod laidOut (by kernel_rfl) (of_decide_eq_true (by kernel_rfl)) k0 bel lt0) (trodAll_cons_mk (Below.trod laidOut (by kernel_rfl) (of_decide_eq_true (by kernel_rfl)) k1 bel lt1) (trodAll_cons_mk (Below.trod laidOut (by kernel_rfl) (of_decide_eq_true (by kernel_rfl)) k2 bel lt2) (trodAll_cons_mk (Below.trod laidOut (by kernel_rfl) (of_decide_eq_true (by kernel_rfl)) k3 bel lt3) trodAll_mk0)))), rfl, bel.frame _, fun h => by cases h⟩
theorem grows_law_holds : Rows.TreeGrowsSaid :=
  OpenClaim.holds_of_wide 4 Try.f4 rfl rfl rfl rfl rfl rfl rfl ⟨rfl, rfl, rfl, rfl, rfl⟩ rfl rfl rfl rfl rfl (by kernel_rfl) Try.func4 (by kernel_rfl)
    (of_decide_eq_true (by kernel_rfl)) (by unfold Func.isWrapper; first | (rw [if_pos (by decide +kernel)]; kernel_rfl) | (rw [if_neg (by decide +kernel)]; exact ⟨rfl, rfl⟩))
    (fun os started H enc _ => grows_law_lifted os started H enc)
#print axioms grows_law_holds
end Go.Proofs.Ytedjapamimhglaa
