/-
  The law SlideSame, for every window and number, returns true: a copy of distance 1 is the last byte, again and again. No condition.
-/
import Derived.Test.YtmdnlmoadklefaaSlideAlv
import Derived.Test.YtmdnlmoadklefaaSlideOpn
import Derived.Deep.DeepCutAuto
import Derived.BigRegion
import Derived.Lib.SmallJoins
namespace Go.Proofs.Ytmdnlmoadklefaa
open Go.RowKit Go.ChangeShapes Go.WideShapes Go.ChangeAt Go.Joins
theorem below_drwS {g : Nat} {a w : World} (h : Below g a w) (q : Nat) : Below g a (w.drewN q) := ⟨h.os, h.tape, h.output, h.size, h.block⟩
set_option maxRecDepth 100000 in
set_option maxHeartbeats 4000000 in
theorem same_law (S : Int) (A : Option Addr) (n c : Nat) (f : Nat → Nat) (k : Int) (w : World) (hr : ByR w w.heap.size A n c f) (h1 : -9223372036854775808 ≤ S) (h2 : S ≤ 9223372036854775807) (hk1 : -9223372036854775808 ≤ k) (hk2 : k ≤ 9223372036854775807) :
    Calls Try.prog 6 #[.agg #[.int .i64 S, .slice A n c], .int .i64 k] w fun e w' => e = .returned (.bool true) ∧ Below w.heap.size w w' := by
  have hb0 := (Below.refl w.heap.size w).alloc (Nat.le_refl _) (.cells #[.int .i64 S, .slice A n c] 24)
  have hpb : (w.alloc (.cells #[.int .i64 S, .slice A n c] 24)).heap[w.heap.size]? = some (.cells #[.int .i64 S, .slice A n c] 24 (0, 0)) := heap_alloc_new w _
  have HAL := Lib.hid (alive6_any (w.alloc (.cells #[.int .i64 S, .slice A n c] 24)))
  have HB0 := Lib.hid hb0; have HPB := Lib.hid hpb; have HR := Lib.hid hr
  clear hb0 hpb hr
  go_enter Try.func6, Try.ntmps6
  go_wp2_with fail
  refine HAL.out.mono ?_
  rintro e w1 ⟨rfl, hb1⟩
  have hB1 := HB0.out.trans (hb1.mono HB0.out.size)
  have hp1 := (hb1.block w.heap.size (by simp)).trans HPB.out
  have a2 : w1.cell? ⟨w.heap.size, 0, none⟩ = some (.int .i64 S) := (cell_of_row w1 _ 0 _ _ (0, 0) hp1).trans rfl
  have a3 : w1.cell? ⟨w.heap.size, 1, none⟩ = some (.slice A n c) := (cell_of_row w1 _ 1 _ _ (0, 0) hp1).trans rfl
  have HB1 := Lib.hid hB1; have HP1 := Lib.hid hp1
  have hw1 : w.heap.size < w1.heap.size := (Array.getElem?_eq_some_iff.1 hp1).1
  clear hb1 hB1 hp1
  by_cases hn1 : 10000 < n
  · have hd : decide (10000 < (n : Int)) = true := by simp; omega
    go_wp2
    go_ret
    exact ⟨rfl, HB1.out⟩
  have hd : decide (10000 < (n : Int)) = false := by simp; omega
  have hcp := scopy_any w1 S A n c f ((HR.out.below HB1.out (Nat.le_refl _)).more HB1.out.size) h1 h2 1 k (by omega) (by omega) hk1 hk2
  have HCP := Lib.hid hcp
  clear hcp
  go_wp2_with fail
  refine HCP.out.mono ?_
  rintro e w2 ⟨⟨S', A', l', c', F', B', k', b', G', rfl, hx, hy, -, -, ho⟩, hb2⟩
  have hB2 := HB1.out.trans (hb2.mono HB1.out.size)
  have hp2 := (hb2.block w.heap.size hw1).trans HP1.out
  have d3 : w2.cell? ⟨w.heap.size, 1, none⟩ = some (.slice A n c) := (cell_of_row w2 _ 1 _ _ (0, 0) hp2).trans rfl
  have hw2 : w.heap.size < w2.heap.size := (Array.getElem?_eq_some_iff.1 hp2).1
  have HB2 := Lib.hid hB2
  have hr2 := ((HR.out.below hB2 (Nat.le_refl _)).more hB2.size).1
  by_cases hE : copyE S n 1 k = 0
  · rw [if_pos hE] at ho
    obtain ⟨rfl, hl, -, rfl, rfl⟩ := ho
    rw [hE]
    have hin : 0 ≤ k ∧ k ≤ 258 ∧ 1 ≤ n := by
      unfold copyE at hE
      split at hE
      · split at hE
        · cases hE
        · split at hE
          · cases hE
          · omega
      · cases hE
    obtain ⟨q, hq⟩ : ∃ q : Nat, k.toNat = q := ⟨_, rfl⟩
    rw [hq] at hy ⊢
    have hq258 : q ≤ 258 := by omega
    obtain ⟨b1, o1, rfl, hb1l, hc1⟩ := hr2.2 (by omega)
    obtain ⟨p, hp⟩ : ∃ p, p = n - 1 := ⟨_, rfl⟩
    have ep : (n : Int) - 1 = (p : Int) := by omega
    have hpn : p < n := by omega
    have c1 := hc1 p hpn
    obtain ⟨u, hu⟩ : ∃ u, u = f p := ⟨_, rfl⟩
    rw [← hu] at c1
    have hcop : ∀ j, copF n f (Int.toNat 1) j = u := fun j => by
      show copF n f 1 j = u
      rw [cop_one hin.2.2, hu, hp]
    obtain ⟨wx, hwx⟩ : ∃ wx, wx = w2.alloc (.cells #[.int .i64 S', .slice A' l' c'] 24) := ⟨_, rfl⟩
    have hbx : Below w2.heap.size w2 wx := by rw [hwx]; exact (Below.refl _ _).alloc (Nat.le_refl _) _
    have HBX := Lib.hid (HB2.out.trans (hbx.mono (Nat.le_of_lt hw2)))
    have x3 := (hbx.cell (p := ⟨w.heap.size, 1, none⟩) hw2).trans d3
    have x1 := (hbx.cell (p := ⟨b1, o1 + p, none⟩) hb1l).trans c1
    have HY := Lib.hid (hy.1.below hbx (Nat.le_refl _)); have HCOP := Lib.hid hcop; have HWX := Lib.hid hwx
    clear hy hcop hwx hbx hc1 hr2 hx hl hE hq hu hp hB2 hp2 hb2 d3 c1 a2 a3 hin HCP HAL HP1 HPB HR HB0
    go_wp2
    rw [← HWX.out]
    go_loopw [9] (fun vi wr => ∃ j t : Nat, j ≤ q ∧ vi = .int .i64 (j : Int) ∧ wr = wx.drewN t) (fun vi _ => q - (intOf vi).toNat)
    case atStart => exact ⟨0, 0, Nat.zero_le _, rfl, rfl⟩
    case round =>
      obtain ⟨j, t, hj, rfl, rfl⟩ := hrel
      by_cases hlt : j < q
      · have hlti : (j : Int) < (q : Int) := by omega
        obtain ⟨b2, o2, rfl, hb2l, hc2⟩ := HY.out.2 (by omega)
        have c2 := hc2 j hlt
        rw [HCOP.out] at c2
        have hnn : ((u : Int) != (u : Int)) = false := by simp
        have hpp : (0 : Int) ≤ (p : Int) := by omega
        have hpp2 : (p : Int) < (n : Int) := by omega
        clear hc2
        go_wp2
        go_quiet (fail)
        go_wp2
        go_roundw
        case rel => exact ⟨j + 1, _, by omega, by go_num, rfl⟩
        case measure => simp [intOf]; omega
      · obtain rfl : j = q := by omega
        have hlti : ¬ (j : Int) < (j : Int) := by omega
        go_wp2
        go_ret
        exact ⟨rfl, below_drwS HBX.out t⟩
  · rw [if_neg hE] at ho
    obtain ⟨rfl, rfl, rfl⟩ := ho
    obtain ⟨E, hEE⟩ : ∃ E, E = copyE S n 1 k := ⟨_, rfl⟩
    rw [← hEE] at hE ⊢
    have hne : (E != 0) = true := by simpa using hE
    clear hEE hB2 hp2 hr2 hb2 a2 a3 hx hy
    go_wp2
    go_ret
    exact ⟨rfl, HB2.out.alloc (by omega) _⟩
-- LAW
set_option maxRecDepth 100000 in
theorem same_law_lifted (os : Os) (started : os.Started) (H : Type) (enc : TypeId × Value → H) :
    ReturnsInHanded {} Try.checked os 6 .any (Rows.slideSameSpec.pre6 enc Try.prog Try.f6 Rows.slideSameRow.domain false) (Rows.slideSameSpec.post enc Try.prog Try.f6 false true false false) := by
  refine returnsInHanded_of_change (C := Try.checked) own started (by kernel_rfl) Try.func6
    (ChangeSpec.witness6 (enc := enc) (C := Try.checked) false ⟨#[], #[.agg #[.int .i64 0, .slice none 0 0], .int .i64 0], []⟩ 8 (by kernel_rfl) (by kernel_rfl) (by kernel_rfl) (by kernel_rfl)) ?_
  intro W base args ds gs before hval0 hW _ _
  have hval : ∀ (j : Nat) t v, Try.f6.params[j]? = some t → args[j]? = some v → Value.okWide Try.prog W .any base t v := hval0
  have hW' := hW
  obtain ⟨p, q, hA0, hV, rfl, _, _⟩ := hW
  have hA : DataW.TrodAll enc Try.prog W 0 (fun _ => true) true Try.f6.params.toList args.toList ds p := hA0
  rw [Try.params6] at hA hval
  obtain ⟨v0, vs0, d0, ds0, p0, q0, hargs, rfl, rfl, h0, r0⟩ := trodAll_cons hA
  obtain ⟨v1, vs1, d1, ds1, p1, q1, rfl, rfl, rfl, h1, r1⟩ := trodAll_cons r0
  obtain ⟨rfl, rfl, rfl⟩ := trodAll_nil r1
  obtain rfl : args = #[v0, v1] := by cases args; simp_all
  obtain ⟨rfl, rfl⟩ := trodVars_none hV
  have k0 := h0
  have lt0 : ∀ x ∈ p0, x.block < W.heap.size := by obtain ⟨m, hm⟩ := k0; exact DataW.trod_lt m _ _ _ hm
  obtain ⟨a0, A0, len0, cap0, f0, rfl, hr0, u0⟩ := open_win (hval 0 24 v0 rfl rfl) h0
  have k1 := h1
  have lt1 : ∀ x ∈ p1, x.block < W.heap.size := by obtain ⟨m, hm⟩ := k1; exact DataW.trod_lt m _ _ _ hm
  obtain ⟨a1, rfl, rfl, rfl, w1⟩ := open_int Try.underlying3 (hval 1 3 v1 rfl rfl) h1
  have u1 := wf_i64_range w1
  clear hA0 hval0
  refine (same_law a0 A0 len0 cap0 f0 a1 W hr0 u0.1 u0.2 u1.1 u1.2).mono fun e W' ⟨he, bel⟩ => ?_
  subst he
  exact ⟨_, rfl, _, _, _, [], _, [], hW', trodAll_mk1 (shut_bool Try.underlying4 _), (trodAll_cons_mk (Below.trod laidOut (by kernel_rfl) (of_decide_eq_true (by kernel_rfl)) k0 bel lt0) (trodAll_cons_mk (Below.trod laidOut (by kernel_rfl) (of_decide_eq_true (by kernel_rfl)) k1 bel lt1) trodAll_mk0)), rfl, bel.frame _, fun h => by cases h⟩
theorem same_law_holds : Rows.SlideSameSaid :=
  OpenClaim.holds_of_wide 6 Try.f6 rfl rfl rfl rfl rfl rfl rfl ⟨rfl, rfl, rfl, rfl, rfl⟩ rfl rfl rfl rfl rfl (by kernel_rfl) Try.func6 (by kernel_rfl)
    (of_decide_eq_true (by kernel_rfl)) (by unfold Func.isWrapper; first | (rw [if_pos (by decide +kernel)]; kernel_rfl) | (rw [if_neg (by decide +kernel)]; exact ⟨rfl, rfl⟩))
    (fun os started H enc _ => same_law_lifted os started H enc)
#print axioms same_law_holds
end Go.Proofs.Ytmdnlmoadklefaa
