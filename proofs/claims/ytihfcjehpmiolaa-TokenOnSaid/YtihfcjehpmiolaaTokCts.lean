/-
  The law TokenCuts, for every bytes, place and style, returns true: styles are checked, and the tokens of bytes told, as the document's own does; they stay. No condition.
-/
import Derived.Test.YtihfcjehpmiolaaTokRea
namespace Go.Proofs.Ytihfcjehpmiolaa
open Go.RowKit Go.ChangeShapes Go.WideShapes Go.ChangeAt Go.Joins
theorem szStyleC (s h m : Int) (z : Bool) : (Try.prog.info? 32).map (·.size) = some ([.int .i64 s, .int .i64 h, .int .i64 m, .bool z] : List Value).length := szStyle
theorem cutV_len {f : Nat → Nat} {n : Nat} {a s h m : Int} {lz : Bool} : (cutV f n a s h m lz).length ≤ 131072 := by
  unfold cutV
  split
  · rename_i e
    obtain ⟨k1, k2, k3, k4⟩ := cutE_ok e
    obtain ⟨x1, x2, _⟩ := mayS_is k1
    have := (cut_reach (f := f) (L := n) (size := s.toNat) (chain := h.toNat) lz (by omega) (n - a.toNat) a.toNat (by omega)).1
    have h2 : (cutA f n s.toNat h.toNat lz a.toNat).length ≤ n - a.toNat := this
    omega
  · simp
set_option maxRecDepth 100000 in
set_option maxHeartbeats 8000000 in
theorem cuts8_law (A : Option Addr) (n c : Nat) (f : Nat → Nat) (a s h m : Int) (lz : Bool) (w : World) (hr : ByR w w.heap.size A n c f) (ha1 : -9223372036854775808 ≤ a) (ha2 : a ≤ 9223372036854775807)
    (_ : -9223372036854775808 ≤ s ∧ s ≤ 9223372036854775807) (_ : -9223372036854775808 ≤ h ∧ h ≤ 9223372036854775807) (_ : -9223372036854775808 ≤ m ∧ m ≤ 9223372036854775807) :
    Calls Try.prog 4 #[.slice A n c, .int .i64 a, .agg #[.int .i64 s, .int .i64 h, .int .i64 m, .bool lz]] w fun e w' => e = .returned (.bool true) ∧ Below w.heap.size w w' := by
  have HB0 := Lib.hid ((Below.refl w.heap.size w).alloc (Nat.le_refl _) (.cells #[.int .i64 s, .int .i64 h, .int .i64 m, .bool lz] 32))
  by_cases hskip : (1500 < n ∧ n ≤ 131072) ∨ 131082 < n
  · clear hr ha1 ha2
    rcases hskip with ⟨q1, q2⟩ | q
    · have d1 : decide (1500 < (n : Int)) = true := by simp; omega
      have d2 : decide ((n : Int) ≤ 131072) = true := by simp; omega
      go_enter Try.func4, Try.ntmps4
      go_wp2
      go_ret
      exact ⟨rfl, HB0.out⟩
    · have d1 : decide (1500 < (n : Int)) = true := by simp; omega
      have d2 : decide ((n : Int) ≤ 131072) = false := by simp; omega
      have d3 : decide (131082 < (n : Int)) = true := by simp; omega
      go_enter Try.func4, Try.ntmps4
      go_wp2
      go_ret
      exact ⟨rfl, HB0.out⟩
  have d3 : decide (131082 < (n : Int)) = false := by simp; omega
  obtain ⟨W1, hW1⟩ : ∃ W1, W1 = w.alloc (.cells #[.int .i64 s, .int .i64 h, .int .i64 m, .bool lz] 32) := ⟨_, rfl⟩
  have hb0 : Below w.heap.size w W1 := by rw [hW1]; exact HB0.out
  have hbx : W1.heap[w.heap.size]? = some (.cells #[.int .i64 s, .int .i64 h, .int .i64 m, .bool lz] 32 (0, 0)) := by rw [hW1]; exact heap_alloc_new w _
  have hs1 : w.heap.size < W1.heap.size := by rw [hW1]; simp
  have hrw := (hr.below hb0 (Nat.le_refl _)).more hb0.size
  obtain ⟨A1, c1, w1, hrun, hown, hb1, _⟩ := run_twin W1 W1.heap.size A n c f hrw.1 (by omega) 22 hrw.2.1
  rw [hW1] at hrun
  have hby1 := ByR.of_own hown hr.1.1
  obtain ⟨E, hE⟩ : ∃ E, E = cutE n a s h m := ⟨_, rfl⟩
  obtain ⟨l, hl⟩ : ∃ l, l = cutV f n a s h m lz := ⟨_, rfl⟩
  have hln : l.length ≤ 131072 := by rw [hl]; exact cutV_len
  have hcu := cut8_any w1 A1 n c1 f a s h m lz hby1 ha1 ha2
  rw [← hE] at hcu
  have HRUN := Lib.hid hrun; have HB1 := Lib.hid (hb0.trans (hb1.mono hb0.size)); have HY1 := Lib.hid hby1; have HR1 := Lib.hid ((hrw.below hb1 (Nat.le_refl _)).more hb1.size)
  have HX1 := Lib.hid ((hb1.block w.heap.size hs1).trans hbx); have HCU := Lib.hid hcu; have HE := Lib.hid hE; have HV := Lib.hid hl; have HLN := Lib.hid hln
  have HLT := Lib.hid (show w.heap.size < w1.heap.size by have := hb1.size; omega)
  clear hr hrw hrun hown hb1 hby1 hcu hE hl hln hb0 hbx hs1 hW1
  by_cases h4 : 1500 < n
  · have d1 : decide (1500 < (n : Int)) = true := by simp; omega
    have d2 : decide ((n : Int) ≤ 131072) = false := by simp; omega
    clear hskip
    go_enter Try.func4, Try.ntmps4
    go_wp2_with (first
      | (at_builtin; refine wpList_append_run rfl (.const (.slice none 0 0)) (.tmp 25) 22 rfl (.slice none 0 0) (.slice A n c) (.slice A1 n c1) w1 rfl rfl HRUN.out ?_)
      | (refine wpList_load_row rfl _ _ rfl w.heap.size rfl _ #[.int .i64 s, .int .i64 h, .int .i64 m, .bool lz] (0, 0) _ HX1.out Try.underlying32 rfl szStyle ?_))
    refine (HCU.out).mono ?_
    rintro e w2 ⟨B1, m1, d1', rfl, ht, hb⟩
    have HB2 := Lib.hid (HB1.out.trans (hb.mono HB1.out.size)); have HY2 := Lib.hid hb
    have HX2 := Lib.hid ((hb.block w.heap.size HLT.out).trans HX1.out)
    have HT1 := Lib.hid ht
    clear hb ht
    go_wp2_with (refine wpList_load_row rfl _ _ rfl w.heap.size rfl _ #[.int .i64 s, .int .i64 h, .int .i64 m, .bool lz] (0, 0) _ HX2.out Try.underlying32 rfl szStyle ?_)
    refine (rcut8_any w2 A n c f a s h m lz ((HR1.out.below HY2.out (Nat.le_refl _)).more HY2.out.size).1).mono ?_
    rintro e w3 ⟨B2, m2, d2', rfl, ht, hb⟩
    rw [← HE.out]
    have HB3 := Lib.hid (HB2.out.trans (hb.mono HB2.out.size)); have HY3 := Lib.hid (HY2.out.trans (hb.mono HY2.out.size))
    have HT1b := Lib.hid ((HT1.out.below hb (Nat.le_refl _)).more hb.size)
    have HT2 := Lib.hid ht
    rw [← HV.out] at ht
    have hm2 := ht.1
    have hm1 := HT1.out.1
    rw [← HV.out] at hm1
    have hmm : m2 = m1 := by omega
    subst hmm
    have hx3 := (HY3.out.block w.heap.size HLT.out).trans HX1.out
    have hlen := HLN.out
    rw [← hm1] at hlen
    have hw3 : w.heap.size < w3.heap.size := (Array.getElem?_eq_some_iff.1 hx3).1
    have S1 : ∀ V : World, Below w3.heap.size w3 V → Calls Try.prog 15 #[.slice B1 m2 d1', .slice B2 m2 d2'] V fun e V' => e = .returned (.bool true) ∧ Below w3.heap.size w3 V' := fun V hV => by
      have hA := HT1b.out.2.1.below hV (Nat.le_refl _)
      have hB := HT2.out.2.1.below hV (Nat.le_refl _)
      rw [← HV.out] at hA hB
      have := rsame8_any V w3.heap.size B1 B2 d1' d2' l hA hB (by omega)
      rw [← hm1] at this
      exact this.mono fun _ _ ⟨h1, q, h2⟩ => ⟨h1, by rw [h2]; exact ⟨hV.os, hV.tape, hV.output, hV.size, hV.block⟩⟩
    have S2 : ∀ V : World, Below w3.heap.size w3 V → Calls Try.prog 16 #[.agg #[.int .i64 s, .int .i64 h, .int .i64 m, .bool lz]] V fun e V' => e = .returned (.int .i64 (styE s h m)) ∧ Below w3.heap.size w3 V' := fun V hV =>
      (sty8_any V s h m lz).mono fun _ _ ⟨h1, h2⟩ => ⟨h1, hV.trans (h2.mono hV.size)⟩
    have S3 : ∀ V : World, Below w3.heap.size w3 V → Calls Try.prog 17 #[.agg #[.int .i64 s, .int .i64 h, .int .i64 m, .bool lz]] V fun e V' => e = .returned (.int .i64 (styE s h m)) ∧ Below w3.heap.size w3 V' := fun V hV =>
      (rcsty8_any V s h m lz).mono fun _ _ ⟨h1, h2⟩ => ⟨h1, hV.trans (h2.mono hV.size)⟩
    have LX : ∀ V : World, (∃ p : After w3.heap.size w3, V = p.w) → V.rangeAt w.heap.size 0 [.int .i64 s, .int .i64 h, .int .i64 m, .bool lz] := fun V ⟨p, hp⟩ => by
      subst hp
      intro i v hv
      have h1 := (p.h.block w.heap.size hw3).trans hx3
      rw [cell_of_row p.w _ _ _ _ (0, 0) h1, Nat.zero_add]; simpa using hv
    have hA1 := HY1.out.below HY3.out (Nat.le_refl _)
    have hA2 := HR1.out.below HY3.out (Nat.le_refl _)
    have s1 : ∀ p : After w3.heap.size w3, (convert 22 9 (.slice A1 n c1)).run Try.prog p.w = .ok (.string (strB n f)) p.w := fun p => run_str (hA1.1.below p.h HY3.out.size) c1
    have s2 : ∀ p : After w3.heap.size w3, (convert 22 9 (.slice A n c)).run Try.prog p.w = .ok (.string (strB n f)) p.w := fun p => run_str (hA2.1.below p.h HY3.out.size) c
    obtain ⟨Z, hZ⟩ : ∃ Z, Z = strB n f := ⟨_, rfl⟩
    obtain ⟨y, hy⟩ : ∃ y, y = styE s h m := ⟨_, rfl⟩
    rw [← hZ] at s1 s2
    rw [← hy] at S2 S3
    have T1 := Lib.hid S1; have T2 := Lib.hid S2; have T3 := Lib.hid S3; have RX := Lib.hid LX
    have e1 : (Z.toList == Z.toList) = true := by simp
    have e2 : (E == E) = true := by simp
    have e3 : (y == y) = true := by simp
    clear S1 S2 S3 LX hA1 hA2 hx3 ht hZ hy hlen hm1 hm2
    go_wp2
    refine wp_region_after w3.heap.size w3 (Below.refl _ _) (by kernel_rfl) (by kernel_rfl) ?_
    repeat (first
      | (go_big_quiet_want; with_reducible refine quiet_load_row _ _ rfl _ _ rfl _ _ RX.out Try.underlying32 rfl (szStyleC s h m lz) ?_; go_big_quiet_on; simp only [Act.put, List.setIfInBounds_toArray, List.set_cons_zero, List.set_cons_succ])
      | (go_big_quiet_step (first | (with_reducible exact call_after T1.out _) | (with_reducible exact call_after T2.out _) | (with_reducible exact call_after T3.out _))))
    refine wpQuiet_nil ?_
    rintro V ⟨⟨V, hV⟩, rfl⟩
    have HV9 := Lib.hid (HB3.out.trans (hV.mono HB3.out.size))
    clear hV
    go_wp2
    go_ret
    exact ⟨rfl, HV9.out⟩
  · have d1 : decide (1500 < (n : Int)) = false := by simp; omega
    clear hskip
    go_enter Try.func4, Try.ntmps4
    go_wp2_with (first
      | (at_builtin; refine wpList_append_run rfl (.const (.slice none 0 0)) (.tmp 25) 22 rfl (.slice none 0 0) (.slice A n c) (.slice A1 n c1) w1 rfl rfl HRUN.out ?_)
      | (refine wpList_load_row rfl _ _ rfl w.heap.size rfl _ #[.int .i64 s, .int .i64 h, .int .i64 m, .bool lz] (0, 0) _ HX1.out Try.underlying32 rfl szStyle ?_))
    refine (HCU.out).mono ?_
    rintro e w2 ⟨B1, m1, d1', rfl, ht, hb⟩
    have HB2 := Lib.hid (HB1.out.trans (hb.mono HB1.out.size)); have HY2 := Lib.hid hb
    have HX2 := Lib.hid ((hb.block w.heap.size HLT.out).trans HX1.out)
    have HT1 := Lib.hid ht
    clear hb ht
    go_wp2_with (refine wpList_load_row rfl _ _ rfl w.heap.size rfl _ #[.int .i64 s, .int .i64 h, .int .i64 m, .bool lz] (0, 0) _ HX2.out Try.underlying32 rfl szStyle ?_)
    refine (rcut8_any w2 A n c f a s h m lz ((HR1.out.below HY2.out (Nat.le_refl _)).more HY2.out.size).1).mono ?_
    rintro e w3 ⟨B2, m2, d2', rfl, ht, hb⟩
    rw [← HE.out]
    have HB3 := Lib.hid (HB2.out.trans (hb.mono HB2.out.size)); have HY3 := Lib.hid (HY2.out.trans (hb.mono HY2.out.size))
    have HT1b := Lib.hid ((HT1.out.below hb (Nat.le_refl _)).more hb.size)
    have HT2 := Lib.hid ht
    rw [← HV.out] at ht
    have hm2 := ht.1
    have hm1 := HT1.out.1
    rw [← HV.out] at hm1
    have hmm : m2 = m1 := by omega
    subst hmm
    have hx3 := (HY3.out.block w.heap.size HLT.out).trans HX1.out
    have hlen := HLN.out
    rw [← hm1] at hlen
    have hw3 : w.heap.size < w3.heap.size := (Array.getElem?_eq_some_iff.1 hx3).1
    have S1 : ∀ V : World, Below w3.heap.size w3 V → Calls Try.prog 15 #[.slice B1 m2 d1', .slice B2 m2 d2'] V fun e V' => e = .returned (.bool true) ∧ Below w3.heap.size w3 V' := fun V hV => by
      have hA := HT1b.out.2.1.below hV (Nat.le_refl _)
      have hB := HT2.out.2.1.below hV (Nat.le_refl _)
      rw [← HV.out] at hA hB
      have := rsame8_any V w3.heap.size B1 B2 d1' d2' l hA hB (by omega)
      rw [← hm1] at this
      exact this.mono fun _ _ ⟨h1, q, h2⟩ => ⟨h1, by rw [h2]; exact ⟨hV.os, hV.tape, hV.output, hV.size, hV.block⟩⟩
    have S2 : ∀ V : World, Below w3.heap.size w3 V → Calls Try.prog 16 #[.agg #[.int .i64 s, .int .i64 h, .int .i64 m, .bool lz]] V fun e V' => e = .returned (.int .i64 (styE s h m)) ∧ Below w3.heap.size w3 V' := fun V hV =>
      (sty8_any V s h m lz).mono fun _ _ ⟨h1, h2⟩ => ⟨h1, hV.trans (h2.mono hV.size)⟩
    have S3 : ∀ V : World, Below w3.heap.size w3 V → Calls Try.prog 17 #[.agg #[.int .i64 s, .int .i64 h, .int .i64 m, .bool lz]] V fun e V' => e = .returned (.int .i64 (styE s h m)) ∧ Below w3.heap.size w3 V' := fun V hV =>
      (rcsty8_any V s h m lz).mono fun _ _ ⟨h1, h2⟩ => ⟨h1, hV.trans (h2.mono hV.size)⟩
    have LX : ∀ V : World, (∃ p : After w3.heap.size w3, V = p.w) → V.rangeAt w.heap.size 0 [.int .i64 s, .int .i64 h, .int .i64 m, .bool lz] := fun V ⟨p, hp⟩ => by
      subst hp
      intro i v hv
      have h1 := (p.h.block w.heap.size hw3).trans hx3
      rw [cell_of_row p.w _ _ _ _ (0, 0) h1, Nat.zero_add]; simpa using hv
    have hA1 := HY1.out.below HY3.out (Nat.le_refl _)
    have hA2 := HR1.out.below HY3.out (Nat.le_refl _)
    have s1 : ∀ p : After w3.heap.size w3, (convert 22 9 (.slice A1 n c1)).run Try.prog p.w = .ok (.string (strB n f)) p.w := fun p => run_str (hA1.1.below p.h HY3.out.size) c1
    have s2 : ∀ p : After w3.heap.size w3, (convert 22 9 (.slice A n c)).run Try.prog p.w = .ok (.string (strB n f)) p.w := fun p => run_str (hA2.1.below p.h HY3.out.size) c
    obtain ⟨Z, hZ⟩ : ∃ Z, Z = strB n f := ⟨_, rfl⟩
    obtain ⟨y, hy⟩ : ∃ y, y = styE s h m := ⟨_, rfl⟩
    rw [← hZ] at s1 s2
    rw [← hy] at S2 S3
    have T1 := Lib.hid S1; have T2 := Lib.hid S2; have T3 := Lib.hid S3; have RX := Lib.hid LX
    have e1 : (Z.toList == Z.toList) = true := by simp
    have e2 : (E == E) = true := by simp
    have e3 : (y == y) = true := by simp
    clear S1 S2 S3 LX hA1 hA2 hx3 ht hZ hy hlen hm1 hm2
    go_wp2
    refine wp_region_after w3.heap.size w3 (Below.refl _ _) (by kernel_rfl) (by kernel_rfl) ?_
    repeat (first
      | (go_big_quiet_want; with_reducible refine quiet_load_row _ _ rfl _ _ rfl _ _ RX.out Try.underlying32 rfl (szStyleC s h m lz) ?_; go_big_quiet_on; simp only [Act.put, List.setIfInBounds_toArray, List.set_cons_zero, List.set_cons_succ])
      | (go_big_quiet_step (first | (with_reducible exact call_after T1.out _) | (with_reducible exact call_after T2.out _) | (with_reducible exact call_after T3.out _))))
    refine wpQuiet_nil ?_
    rintro V ⟨⟨V, hV⟩, rfl⟩
    have HV9 := Lib.hid (HB3.out.trans (hV.mono HB3.out.size))
    clear hV
    go_wp2
    go_ret
    exact ⟨rfl, HV9.out⟩
-- LAW
set_option maxRecDepth 100000 in
theorem cuts8_law_lifted (os : Os) (started : os.Started) (H : Type) (enc : TypeId × Value → H) :
    ReturnsInHanded {} Try.checked os 4 .any (Rows.tokenCutsSpec.pre6 enc Try.prog Try.f4 Rows.tokenCutsRow.domain false) (Rows.tokenCutsSpec.post enc Try.prog Try.f4 false true false false) := by
  refine returnsInHanded_of_change (C := Try.checked) own started (by kernel_rfl) Try.func4
    (ChangeSpec.witness6 (enc := enc) (C := Try.checked) false ⟨#[], #[.slice none 0 0, .int .i64 0, .agg #[.int .i64 0, .int .i64 0, .int .i64 0, .bool false]], []⟩ 8 (by kernel_rfl) (by kernel_rfl) (by kernel_rfl) (by kernel_rfl)) ?_
  intro W base args ds gs before hval0 hW _ _
  have hval : ∀ (j : Nat) t v, Try.f4.params[j]? = some t → args[j]? = some v → Value.okWide Try.prog W .any base t v := hval0
  have hW' := hW
  obtain ⟨p, q, hA0, hV, rfl, _, _⟩ := hW
  have hA : DataW.TrodAll enc Try.prog W 0 (fun _ => true) true Try.f4.params.toList args.toList ds p := hA0
  rw [Try.params4] at hA hval
  obtain ⟨v0, vs0, d0, ds0, p0, q0, hargs, rfl, rfl, h0, r0⟩ := trodAll_cons hA
  obtain ⟨v1, vs1, d1, ds1, p1, q1, rfl, rfl, rfl, h1, r1⟩ := trodAll_cons r0
  obtain ⟨v2, vs2, d2, ds2, p2, q2, rfl, rfl, rfl, h2, r2⟩ := trodAll_cons r1
  obtain ⟨rfl, rfl, rfl⟩ := trodAll_nil r2
  obtain rfl : args = #[v0, v1, v2] := by cases args; simp_all
  obtain ⟨rfl, rfl⟩ := trodVars_none hV
  have k0 := h0
  have lt0 : ∀ x ∈ p0, x.block < W.heap.size := by obtain ⟨m, hm⟩ := k0; exact DataW.trod_lt m _ _ _ hm
  obtain ⟨A0, len0, cap0, rfl⟩ := okWide_slice Try.underlying22 (hval 0 22 v0 rfl rfl)
  obtain ⟨f0, hr0⟩ := open_byr h0
  have k1 := h1
  have lt1 : ∀ x ∈ p1, x.block < W.heap.size := by obtain ⟨m, hm⟩ := k1; exact DataW.trod_lt m _ _ _ hm
  obtain ⟨a1, rfl, rfl, rfl, w1⟩ := open_int Try.underlying3 (hval 1 3 v1 rfl rfl) h1
  have u1 := wf_i64_range w1
  have k2 := h2
  have lt2 : ∀ x ∈ p2, x.block < W.heap.size := by obtain ⟨m, hm⟩ := k2; exact DataW.trod_lt m _ _ _ hm
  obtain ⟨s2, c2, m2, z2, rfl, us2, uc2, um2⟩ := open_sty (hval 2 32 v2 rfl rfl) h2
  clear hA0 hval0
  refine (cuts8_law A0 len0 cap0 f0 a1 s2 c2 m2 z2 W hr0 u1.1 u1.2 us2 uc2 um2).mono fun e W' ⟨he, bel⟩ => ?_
  subst he
  exact ⟨_, rfl, _, _, _, [], _, [], hW', trodAll_mk1 (shut_bool Try.underlying4 _), (trodAll_cons_mk (Below.trod laidOut (by kernel_rfl) (of_decide_eq_true (by kernel_rfl)) k0 bel lt0) (trodAll_cons_mk (Below.trod laidOut (by kernel_rfl) (of_decide_eq_true (by kernel_rfl)) k1 bel lt1) (trodAll_cons_mk (Below.trod laidOut (by kernel_rfl) (of_decide_eq_true (by kernel_rfl)) k2 bel lt2) trodAll_mk0))), rfl, bel.frame _, fun h => by cases h⟩
theorem cuts8_law_holds : Rows.TokenCutsSaid :=
  OpenClaim.holds_of_wide 4 Try.f4 rfl rfl rfl rfl rfl rfl rfl ⟨rfl, rfl, rfl, rfl, rfl⟩ rfl rfl rfl rfl rfl (by kernel_rfl) Try.func4 (by kernel_rfl)
    (of_decide_eq_true (by kernel_rfl)) (by unfold Func.isWrapper; first | (rw [if_pos (by decide +kernel)]; kernel_rfl) | (rw [if_neg (by decide +kernel)]; exact ⟨rfl, rfl⟩))
    (fun os started H enc _ => cuts8_law_lifted os started H enc)
#print axioms cuts8_law_holds
end Go.Proofs.Ytihfcjehpmiolaa
