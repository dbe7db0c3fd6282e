/-
  The law TokenReach, for every bytes, place and style, returns true: copies reach no farther than the style's size, all tokens may be, there are no more than bytes. No condition.
-/
import Derived.Test.YtihfcjehpmiolaaTokBck
namespace Go.Proofs.Ytihfcjehpmiolaa
open Go.RowKit Go.ChangeShapes Go.WideShapes Go.ChangeAt Go.Joins
set_option maxRecDepth 100000 in
set_option maxHeartbeats 4000000 in
theorem reach8_law (A : Option Addr) (n c : Nat) (f : Nat → Nat) (a s h m : Int) (lz : Bool) (w : World) (hr : ByR w w.heap.size A n c f) (ha1 : -9223372036854775808 ≤ a) (ha2 : a ≤ 9223372036854775807)
    (_ : -9223372036854775808 ≤ s ∧ s ≤ 9223372036854775807) (_ : -9223372036854775808 ≤ h ∧ h ≤ 9223372036854775807) (_ : -9223372036854775808 ≤ m ∧ m ≤ 9223372036854775807) :
    Calls Try.prog 7 #[.slice A n c, .int .i64 a, .agg #[.int .i64 s, .int .i64 h, .int .i64 m, .bool lz]] w fun e w' => e = .returned (.bool true) ∧ Below w.heap.size w w' := by
  obtain ⟨W1, hW1⟩ : ∃ W1, W1 = w.alloc (.cells #[.int .i64 s, .int .i64 h, .int .i64 m, .bool lz] 32) := ⟨_, rfl⟩
  have hb1 : Below w.heap.size w W1 := by rw [hW1]; exact (Below.refl _ _).alloc (Nat.le_refl _) _
  have hbx : W1.heap[w.heap.size]? = some (.cells #[.int .i64 s, .int .i64 h, .int .i64 m, .bool lz] 32 (0, 0)) := by rw [hW1]; exact heap_alloc_new w _
  have hs1 : w.heap.size < W1.heap.size := by rw [hW1]; simp
  have HR := Lib.hid ((hr.below hb1 (Nat.le_refl _)).more hb1.size); have HB1 := Lib.hid hb1; have HBX := Lib.hid hbx; have HW1 := Lib.hid hW1; have HS1 := Lib.hid hs1
  clear hr hb1 hbx hW1 hs1
  have HAL := Lib.hid (alive8_any W1)
  by_cases hn1 : 1500 < n
  · have hd : decide (1500 < (n : Int)) = true := by simp; omega
    go_enter Try.func7, Try.ntmps7
    go_wp2_with fail
    rw [← HW1.out]
    refine HAL.out.mono ?_
    rintro e w2 ⟨rfl, hb⟩
    have HB2 := Lib.hid (HB1.out.trans (hb.mono HB1.out.size))
    clear hb
    go_wp2
    go_ret
    exact ⟨rfl, HB2.out⟩
  have hd : decide (1500 < (n : Int)) = false := by simp; omega
  obtain ⟨E, hE⟩ : ∃ E, E = cutE n a s h m := ⟨_, rfl⟩
  have hcu : ∀ u, ByR u u.heap.size A n c f → Calls Try.prog 10 #[.slice A n c, .int .i64 a, .agg #[.int .i64 s, .int .i64 h, .int .i64 m, .bool lz]] u fun e w' => ∃ A' n' c', e = .returned (.tuple #[.slice A' n' c', .int .i64 E]) ∧ TkR w' w'.heap.size A' n' c' (cutV f n a s h m lz) ∧ Below u.heap.size u w' := fun u hu => by
    rw [hE]; exact cut8_any u A n c f a s h m lz hu ha1 ha2
  have HCU := Lib.hid hcu; have HE := Lib.hid hE
  clear hcu hE
  go_enter Try.func7, Try.ntmps7
  go_wp2_with fail
  rw [← HW1.out]
  refine HAL.out.mono ?_
  rintro e w2 ⟨rfl, hb⟩
  have HB2 := Lib.hid (HB1.out.trans (hb.mono HB1.out.size))
  have HR2 := Lib.hid ((hb.block w.heap.size HS1.out).trans HBX.out)
  have HY2 := Lib.hid ((HR.out.below hb (Nat.le_refl _)).more hb.size)
  clear hb HAL
  go_wp2_with (refine wpList_load_row rfl _ _ rfl w.heap.size rfl _ #[.int .i64 s, .int .i64 h, .int .i64 m, .bool lz] (0, 0) _ HR2.out Try.underlying32 rfl szStyle ?_)
  refine (HCU.out w2 HY2.out).mono ?_
  rintro e w3 ⟨A', n', c', rfl, ht, hb⟩
  have HB3 := Lib.hid (HB2.out.trans (hb.mono HB2.out.size))
  have HY3 := Lib.hid ((HY2.out.below hb (Nat.le_refl _)).more hb.size)
  have HT := Lib.hid ht
  have HR3 := Lib.hid ((hb.block w.heap.size (by have := HS1.out; have := (Array.getElem?_eq_some_iff.1 HR2.out).1; omega)).trans HR2.out)
  clear hb ht HB2 HY2 HR2 HCU HR HB1 HBX
  by_cases hE0 : E = 0
  · subst hE0
    obtain ⟨k1, k2, k3, k4⟩ := cutE_ok HE.out.symm
    obtain ⟨x1, x2, x3, x4, x5, x6⟩ := mayS_is k1
    obtain ⟨a, rfl⟩ := Int.eq_ofNat_of_zero_le k3
    obtain ⟨s, rfl⟩ := Int.eq_ofNat_of_zero_le (show 0 ≤ s by omega)
    obtain ⟨h, rfl⟩ := Int.eq_ofNat_of_zero_le x3
    have han : a ≤ n := by omega
    have hl : cutV f n a s h m lz = cutA f n s h lz a := if_pos HE.out.symm
    obtain ⟨l, hll⟩ : ∃ l, l = cutA f n s h lz a := ⟨_, rfl⟩
    have htold := cut_told (f := f) HY3.out.1.1 (n := n) (a := a) (s := s) (h := h) (lz := lz) (by omega) han (by omega)
    rw [← hll] at hl htold
    have hin := htold.2.1; have hply := htold.2.2
    have htk := HT.out
    rw [hl] at htk
    have e0 : ((0 : Int) != 0) = false := by decide
    have hlen : n' ≤ n - a := by rw [htk.1]; exact htold.1
    have hnb : n' ≤ 1500 := by omega
    have hw3 : w.heap.size < w3.heap.size := (Array.getElem?_eq_some_iff.1 HR3.out).1
    have HIN := Lib.hid hin; have HTK := Lib.hid htk
    obtain ⟨g, hg⟩ : ∃ g, g = n - a := ⟨_, rfl⟩
    have eg : (n : Int) - (a : Int) = (g : Int) := by omega
    have hlg : decide ((n' : Int) ≤ (g : Int)) = true := by simp; omega
    have hlg' : decide (n' ≤ g) = true := by simp; omega
    clear hin hply htk hl hll k1 k2 k3 k4 x1 x2 x3 x4 x5 x6 HT HE ha1 ha2 htold hlen hg
    go_wp2
    go_loopw [10] (fun iv wr => ∃ i : Nat, i ≤ n' ∧ iv = .int .i64 (i : Int) ∧ Hid (Below w3.heap.size w3 wr)) (fun iv _ => n' - (intOf iv).toNat)
    case atStart => exact ⟨0, Nat.zero_le _, rfl, Lib.hid (Below.refl _ _)⟩
    case round =>
      obtain ⟨i, hi, rfl, HB⟩ := hrel
      by_cases hlt : i < n'
      · have hlti : (i : Int) < (n' : Int) := by omega
        have hil : i < l.length := by rw [← HTK.out.1]; exact hlt
        have htw := HTK.out.2.1.below HB.out (Nat.le_refl _)
        obtain ⟨b, o, rfl, hbl, hc⟩ := htw.at hil
        have hbw : b < wr.heap.size := by have := HB.out.size; omega
        have hrg := htw.range rfl hil
        obtain ⟨c0, c1, c2⟩ := hc i hil
        have hint := HIN.out (l.getD i tok0) (by rw [List.getD_eq_getElem?_getD, List.getElem?_eq_getElem hil]; exact List.getElem_mem hil)
        obtain ⟨t, hte⟩ : ∃ t, t = l.getD i tok0 := ⟨_, rfl⟩
        rw [← hte] at c0 c1 c2 hrg hint
        have hchk := fun (V : World) (hV : Below wr.heap.size wr V) => tok8_any V t hint.1
        obtain ⟨hin, hmt, htd, hth⟩ := hint
        have htE : tokE t = 0 := if_pos hmt
        rw [htE] at hchk
        have S1 : ∀ V : World, Below wr.heap.size wr V → Calls Try.prog 19 #[.agg (tokC t).toArray] V fun e V' => e = .returned (.int .i64 0) ∧ Below wr.heap.size wr V' := fun V hV =>
          (hchk V hV).mono fun _ _ ⟨h1, h2⟩ => ⟨h1, hV.trans (h2.mono hV.size)⟩
        have LX : ∀ V : World, (∃ p : After wr.heap.size wr, V = p.w) → V.rangeAt b (o + i * 3) (tokC t) := fun V ⟨p, hp⟩ => by
          subst hp; intro j v hv; exact (p.h.cell (p := ⟨b, o + i * 3 + j, none⟩) hbw).trans (hrg j v hv)
        have hbx := (HB.out.block w.heap.size hw3).trans HR3.out
        have hww : w.heap.size < wr.heap.size := by have := HB.out.size; omega
        have x0 : wr.cell? ⟨w.heap.size, 0, none⟩ = some (.int .i64 (s : Int)) := (cell_of_row wr _ 0 _ _ (0, 0) hbx).trans rfl
        have x1 : wr.cell? ⟨w.heap.size, 1, none⟩ = some (.int .i64 (h : Int)) := (cell_of_row wr _ 1 _ _ (0, 0) hbx).trans rfl
        have k1 : ∀ p : After wr.heap.size wr, p.w.cell? ⟨b, o + i * 3 + 1, none⟩ = some (.int .i64 t.d) := fun p => (p.h.cell (p := ⟨b, o + i * 3 + 1, none⟩) hbw).trans c1
        have k2 : ∀ p : After wr.heap.size wr, p.w.cell? ⟨b, o + i * 3 + 2, none⟩ = some (.int .i64 t.n) := fun p => (p.h.cell (p := ⟨b, o + i * 3 + 2, none⟩) hbw).trans c2
        have k3 : ∀ p : After wr.heap.size wr, p.w.cell? ⟨w.heap.size, 0, none⟩ = some (.int .i64 (s : Int)) := fun p => (p.h.cell (p := ⟨w.heap.size, 0, none⟩) hww).trans x0
        have k4 : ∀ p : After wr.heap.size wr, p.w.cell? ⟨w.heap.size, 1, none⟩ = some (.int .i64 (h : Int)) := fun p => (p.h.cell (p := ⟨w.heap.size, 1, none⟩) hww).trans x1
        have z1 : decide ((s : Int) < t.d) = false := by simp; omega
        obtain ⟨td, htd2⟩ : ∃ td, td = t.d := ⟨_, rfl⟩
        obtain ⟨tn, htn2⟩ : ∃ tn, tn = t.n := ⟨_, rfl⟩
        rw [← htd2] at k1 z1
        rw [← htn2] at k2 hth
        have T1 := Lib.hid S1; have RX := Lib.hid LX; have HTH := Lib.hid hth
        clear hc htw hrg c0 c1 c2 hte hchk hin hmt htd hth htE S1 LX hbx x0 x1 htd2 htn2 hil
        go_wp2
        by_cases hh0 : h = 0
        · have htn0 := HTH.out hh0
          have z2 : ((h : Int) == 0) = true := by simp [hh0]
          have z3 : decide ((0 : Int) < tn) = false := by simp; omega
          clear htn0 hh0
          refine wp_region_after wr.heap.size wr (Below.refl _ _) (by kernel_rfl) (by kernel_rfl) ?_
          repeat (first
            | (go_big_quiet_want; with_reducible refine quiet_load_row _ _ rfl _ _ rfl _ _ RX.out Try.underlying27 rfl (szTokC t) ?_; go_big_quiet_on; simp only [Act.put, List.setIfInBounds_toArray, List.set_cons_zero, List.set_cons_succ])
            | (go_big_quiet_step (with_reducible exact call_after T1.out _)))
          refine wpQuiet_nil ?_
          rintro V ⟨⟨V, hV⟩, rfl⟩
          have HV := Lib.hid (HB.out.trans (hV.mono HB.out.size))
          clear hV
          go_wp2
          go_roundw
          case rel => exact ⟨i + 1, by omega, by go_num, HV⟩
          case measure => simp [intOf]; omega
        · have z2 : ((h : Int) == 0) = false := by simp; omega
          refine wp_region_after wr.heap.size wr (Below.refl _ _) (by kernel_rfl) (by kernel_rfl) ?_
          repeat (first
            | (go_big_quiet_want; with_reducible refine quiet_load_row _ _ rfl _ _ rfl _ _ RX.out Try.underlying27 rfl (szTokC t) ?_; go_big_quiet_on; simp only [Act.put, List.setIfInBounds_toArray, List.set_cons_zero, List.set_cons_succ])
            | (go_big_quiet_step (with_reducible exact call_after T1.out _)))
          refine wpQuiet_nil ?_
          rintro V ⟨⟨V, hV⟩, rfl⟩
          have HV := Lib.hid (HB.out.trans (hV.mono HB.out.size))
          clear hV
          go_wp2
          go_roundw
          case rel => exact ⟨i + 1, by omega, by go_num, HV⟩
          case measure => simp [intOf]; omega
      · obtain rfl : i = n' := by omega
        have hlti : ¬ (i : Int) < (i : Int) := by omega
        go_wp2
        go_ret
        exact ⟨rfl, HB3.out.trans (HB.out.mono HB3.out.size)⟩
  · have hne : (E != 0) = true := by simpa using hE0
    clear hE0
    go_wp2
    go_ret
    exact ⟨rfl, HB3.out⟩
-- LAW
set_option maxRecDepth 100000 in
theorem reach8_law_lifted (os : Os) (started : os.Started) (H : Type) (enc : TypeId × Value → H) :
    ReturnsInHanded {} Try.checked os 7 .any (Rows.tokenReachSpec.pre6 enc Try.prog Try.f7 Rows.tokenReachRow.domain false) (Rows.tokenReachSpec.post enc Try.prog Try.f7 false true false false) := by
  refine returnsInHanded_of_change (C := Try.checked) own started (by kernel_rfl) Try.func7
    (ChangeSpec.witness6 (enc := enc) (C := Try.checked) false ⟨#[], #[.slice none 0 0, .int .i64 0, .agg #[.int .i64 0, .int .i64 0, .int .i64 0, .bool false]], []⟩ 8 (by kernel_rfl) (by kernel_rfl) (by kernel_rfl) (by kernel_rfl)) ?_
  intro W base args ds gs before hval0 hW _ _
  have hval : ∀ (j : Nat) t v, Try.f7.params[j]? = some t → args[j]? = some v → Value.okWide Try.prog W .any base t v := hval0
  have hW' := hW
  obtain ⟨p, q, hA0, hV, rfl, _, _⟩ := hW
  have hA : DataW.TrodAll enc Try.prog W 0 (fun _ => true) true Try.f7.params.toList args.toList ds p := hA0
  rw [Try.params7] at hA hval
  obtain ⟨v0, vs0, d0, ds0, p0, q0, hargs, rfl, rfl, h0, r0⟩ := trodAll_cons hA
  obtain ⟨v1, vs1, d1, ds1, p1, q1, rfl, rfl, rfl, h1, r1⟩ := trodAll_cons r0
  obtain ⟨v2, vs2, d2, ds2, p2, q2, rfl, rfl, rfl, h2, r2⟩ := trodAll_cons r1
  obtain ⟨rfl, rfl, rfl⟩ := trodAll_nil r2
  obtain rfl : args = #[v0, v1, v2] := by cases args; simp_all
  obtain ⟨rfl, rfl⟩ := trodVars_none hV
  have k0 := h0
  have lt0 : ∀ x ∈ p0, x.block < W.heap.size := by obtain ⟨m, hm⟩ := k0; exact DataW.trod_lt m _ _ _ hm
  obtain ⟨A0, len0, cap0, rfl⟩ := okWide_slice Try.underlying22 (hval 0 22 v0 rfl rfl)
  obtain ⟨f0, hr0⟩ := open_byr h0
  have k1 := h1
  have lt1 : ∀ x ∈ p1, x.block < W.heap.size := by obtain ⟨m, hm⟩ := k1; exact DataW.trod_lt m _ _ _ hm
  obtain ⟨a1, rfl, rfl, rfl, w1⟩ := open_int Try.underlying3 (hval 1 3 v1 rfl rfl) h1
  have u1 := wf_i64_range w1
  have k2 := h2
  have lt2 : ∀ x ∈ p2, x.block < W.heap.size := by obtain ⟨m, hm⟩ := k2; exact DataW.trod_lt m _ _ _ hm
  obtain ⟨s2, c2, m2, z2, rfl, us2, uc2, um2⟩ := open_sty (hval 2 32 v2 rfl rfl) h2
  clear hA0 hval0
  refine (reach8_law A0 len0 cap0 f0 a1 s2 c2 m2 z2 W hr0 u1.1 u1.2 us2 uc2 um2).mono fun e W' ⟨he, bel⟩ => ?_
  subst he
  exact ⟨_, rfl, _, _, _, [], _, [], hW', trodAll_mk1 (shut_bool Try.underlying4 _), (trodAll_cons_mk (Below.trod laidOut (by kernel_rfl) (of_decide_eq_true (by kernel_rfl)) k0 bel lt0) (trodAll_cons_mk (Below.trod laidOut (by kernel_rfl) (of_decide_eq_true (by kernel_rfl)) k1 bel lt1) (trodAll_cons_mk (Below.trod laidOut (by kernel_rfl) (of_decide_eq_true (by kernel_rfl)) k2 bel lt2) trodAll_mk0))), rfl, bel.frame _, fun h => by cases h⟩
theorem reach8_law_holds : Rows.TokenReachSaid :=
  OpenClaim.holds_of_wide 7 Try.f7 rfl rfl rfl rfl rfl rfl rfl ⟨rfl, rfl, rfl, rfl, rfl⟩ rfl rfl rfl rfl rfl (by kernel_rfl) Try.func7 (by kernel_rfl)
    (of_decide_eq_true (by kernel_rfl)) (by unfold Func.isWrapper; first | (rw [if_pos (by decide +kernel)]; kernel_rfl) | (rw [if_neg (by decide +kernel)]; exact ⟨rfl, rfl⟩))
    (fun os started H enc _ => reach8_law_lifted os started H enc)
#print axioms reach8_law_holds
end Go.Proofs.Ytihfcjehpmiolaa
