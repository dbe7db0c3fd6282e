/-
  The law BuildOrder, for every frequencies, limit and two symbols, returns true. No condition.
-/
import Derived.Test.YtgppikhfkikknaaBuildAlv
namespace Go.Proofs.Ytgppikhfkikknaa
open Go.RowKit Go.ChangeShapes Go.WideShapes Go.ChangeAt
theorem out_zero {l : List Int} {most : Int} (h : askE l most = 0) {i : Nat} (hi : i < l.length) : (outL l most i = 0 ↔ l.getD i 0 = 0) ∧ 0 ≤ l.getD i 0 ∧ outL l most i ≤ 15 := by
  obtain ⟨h1, h2, h3, h4, h5⟩ := ask_right h
  have hb := h4 i hi
  have hf : freqN l i = (l.getD i 0).toNat := rfl
  have e : outL l most i = lenB (freqN l) l.length most.toNat i := by unfold outL; rw [if_pos h]
  have hle := lenB_le (freqN l) (n := l.length) (L := most.toNat) (by omega) i
  refine ⟨⟨fun g => ?_, fun g => ?_⟩, hb.1, by omega⟩
  · rcases Nat.eq_zero_or_pos (freqN l i) with h0 | h0
    · omega
    · have := lenB_bd (F := freqN l) (n := l.length) (L := most.toNat) (by omega) h5 hi h0
      omega
  · rw [e]; unfold lenB; rw [if_pos (by omega)]
theorem out_order {l : List Int} {most : Int} (h : askE l most = 0) {i k : Nat} (hi : i < l.length) (hk : k < l.length) (h1 : l.getD i 0 ≠ 0) (h2 : l.getD k 0 ≠ 0) (h3 : l.getD i 0 < l.getD k 0 ∨ (l.getD i 0 = l.getD k 0 ∧ i < k)) : outL l most k ≤ outL l most i := by
  obtain ⟨_, _, _, h4, _⟩ := ask_right h
  have hbi := h4 i hi
  have hbk := h4 k hk
  have hfi : freqN l i = (l.getD i 0).toNat := rfl
  have hfk : freqN l k = (l.getD k 0).toNat := rfl
  unfold outL
  rw [if_pos h, if_pos h]
  exact lenB_order hi hk (by omega) (by omega) (by omega)
set_option maxRecDepth 100000 in
set_option maxHeartbeats 8000000 in
theorem order_law (A : Option Addr) (N c : Nat) (l : List Int) (most i0 k0 : Int) (w : World) (hN : N = l.length) (hr : RdI w w.heap.size A l) (hc : A = none → c = 0) (hb : ∀ x ∈ l, -9223372036854775808 ≤ x ∧ x ≤ 9223372036854775807) (hm1 : -9223372036854775808 ≤ most) (hm2 : most ≤ 9223372036854775807)
    (hi1 : -9223372036854775808 ≤ i0) (hi2 : i0 ≤ 9223372036854775807) (hk1 : -9223372036854775808 ≤ k0) (hk2 : k0 ≤ 9223372036854775807) :
    Calls Try.prog 6 #[.slice A N c, .int .i64 most, .int .i64 i0, .int .i64 k0] w fun e w' => e = .returned (.bool true) ∧ Below w.heap.size w w' := by
  have HAL := Lib.hid (alive4_any w)
  by_cases hbig : 400 < N
  · have hd : decide (400 < (N : Int)) = true := by simp; omega
    go_enter Try.func6, Try.ntmps6
    go_wp2_with (go_at_call 10; refine HAL.out.mono ?_; rintro e w1 ⟨rfl, hb1⟩; have HB1 := Lib.hid hb1; clear hb1)
    go_ret
    exact ⟨rfl, HB1.out⟩
  have hd : decide (400 < (N : Int)) = false := by simp; omega
  have hbj : ∀ j, j < l.length → -9223372036854775808 ≤ l.getD j 0 ∧ l.getD j 0 ≤ 9223372036854775807 := fun j hj => hb _ (by rw [List.getD_eq_getElem?_getD, List.getElem?_eq_getElem hj]; exact List.getElem_mem hj)
  obtain ⟨q, hq⟩ : ∃ q, q = askE l most := ⟨_, rfl⟩
  obtain ⟨M, hM⟩ : ∃ M, M = lenO l most := ⟨_, rfl⟩
  have hcl : ∀ w1, Below w.heap.size w w1 → Calls Try.prog 9 #[.slice A N c, .int .i64 most] w1 fun e w' => ∃ A' c', e = .returned (.tuple #[.slice A' M c', .int .i64 q]) ∧ Below w1.heap.size w1 w' ∧ RdB w' w'.heap.size A' M (outL l most) := fun w1 hb1 => by
    have h := lengths_any w1 A c l most ((hr.below hb1 (Nat.le_refl _)).more hb1.size) hc (by omega) hbj hm1 hm2
    rw [← hq, ← hM, ← hN] at h
    exact h
  have HR := Lib.hid hr; have HN := Lib.hid hN; have CL := Lib.hid hcl; have HQ := Lib.hid hq; have HM := Lib.hid hM
  by_cases hq0 : q = 0
  · have hMN : M = N := by rw [hM]; unfold lenO; rw [if_pos (by rw [← hq]; exact hq0), hN]
    subst hMN
    subst hq0
    clear hr hN hcl hq hM hb hbj hc
    by_cases hin : (0 ≤ i0 ∧ i0 < (M : Int)) ∧ (0 ≤ k0 ∧ k0 < (M : Int))
    · obtain ⟨⟨i3, i4⟩, k3, k4⟩ := hin
      obtain ⟨i, rfl⟩ := Int.eq_ofNat_of_zero_le i3
      obtain ⟨k, rfl⟩ := Int.eq_ofNat_of_zero_le k3
      have hiM : i < M := by omega
      have hkM : k < M := by omega
      have hzi := out_zero HQ.out.symm (i := i) (by rw [← HN.out]; exact hiM)
      have hzk := out_zero HQ.out.symm (i := k) (by rw [← HN.out]; exact hkM)
      have hor := out_order HQ.out.symm (i := i) (k := k) (by rw [← HN.out]; exact hiM) (by rw [← HN.out]; exact hkM)
      obtain ⟨fi, hfi⟩ : ∃ x, x = l.getD i 0 := ⟨_, rfl⟩
      obtain ⟨fk, hfk⟩ : ∃ x, x = l.getD k 0 := ⟨_, rfl⟩
      obtain ⟨xi, hxi⟩ : ∃ x, x = outL l most i := ⟨_, rfl⟩
      obtain ⟨xk, hxk⟩ : ∃ x, x = outL l most k := ⟨_, rfl⟩
      rw [← hfi, ← hxi] at hzi
      rw [← hfk, ← hxk] at hzk
      rw [← hfi, ← hxi, ← hfk, ← hxk] at hor
      have HFI := Lib.hid hfi; have HFK := Lib.hid hfk; have HXI := Lib.hid hxi; have HXK := Lib.hid hxk
      clear hfi hfk hxi hxk
      obtain ⟨b2, o2, rfl, hbl2, hcf⟩ := HR.out.at (k := i) (by rw [← HN.out]; exact hiM)
      have hf1 := hcf i (by rw [← HN.out]; exact hiM)
      have hf2 := hcf k (by rw [← HN.out]; exact hkM)
      rw [← HFI.out] at hf1
      rw [← HFK.out] at hf2
      have HF1 := Lib.hid hf1; have HF2 := Lib.hid hf2
      clear hcf hf1 hf2
      have hMM : (M != M) = false := by simp
      have hxi0 : ((xi : Int) == 0) = (fi == 0) := by rw [Bool.eq_iff_iff]; simp; omega
      cases hA : decide (fi < fk) <;> cases hB : (fi == fk) <;> cases hC : decide ((i : Int) < (k : Int)) <;> cases hD : (fi == 0) <;> cases hE : (fk == 0) <;> cases hG : decide ((xk : Int) ≤ (xi : Int))
      all_goals first
        | (exfalso; simp at hA hB hC hD hE hG hor; omega)
        | skip
      all_goals (
        rw [hD] at hxi0
        have hxi1 : (xi == 0) = _ := (by rw [Bool.eq_iff_iff]; simp : (xi == 0) = ((xi : Int) == 0)).trans hxi0
        have hC2 : decide (i < k) = _ := (by rw [decide_eq_decide]; omega : decide (i < k) = decide ((i : Int) < (k : Int))).trans hC
        have hG2 : decide (xk ≤ xi) = _ := (by rw [decide_eq_decide]; omega : decide (xk ≤ xi) = decide ((xk : Int) ≤ (xi : Int))).trans hG
        clear hor hzi hzk
        go_enter Try.func6, Try.ntmps6
        go_wp2_with (first
          | (go_at_call 10; refine HAL.out.mono ?_; rintro e w1 ⟨rfl, hb1⟩; have HB1 := Lib.hid hb1; clear hb1)
          | (go_at_call 9; refine (CL.out _ HB1.out).mono ?_; rintro e w2 ⟨Ax, cx, rfl, hb2, hx⟩; obtain ⟨b, o, rfl, hbl, hcx⟩ := hx.2 (by omega); have hc1 := hcx i hiM; have hc2 := hcx k hkM; rw [← HXI.out] at hc1; rw [← HXK.out] at hc2; have hbw := HB1.out.trans (hb2.mono HB1.out.size); have hc3 : w2.cell? ⟨b2, o2 + i, none⟩ = some (.int .i64 fi) := (hbw.cell (p := ⟨b2, o2 + i, none⟩) hbl2).trans HF1.out; have hc4 : w2.cell? ⟨b2, o2 + k, none⟩ = some (.int .i64 fk) := (hbw.cell (p := ⟨b2, o2 + k, none⟩) hbl2).trans HF2.out; have HB := Lib.hid hbw; clear hb2 hx hcx hbw))
        go_quiet (fail)
        go_wp2
        go_quiet (fail)
        go_wp2
        go_quiet (fail)
        go_wp2
        go_ret
        exact ⟨rfl, below_drew4 (below_drew4 (below_drew4 HB.out _) _) _⟩)
    · have hMM : (M != M) = false := by simp
      have hM2 : (M == M) = true := by simp
      cases hA : decide (i0 < 0) <;> cases hB : decide ((M : Int) ≤ i0) <;> cases hC : decide (k0 < 0) <;> cases hD : decide ((M : Int) ≤ k0)
      all_goals first
        | (exfalso; simp at hA hB hC hD; omega)
        | skip
      all_goals (
        clear hin
        go_enter Try.func6, Try.ntmps6
        go_wp2_with (first
          | (go_at_call 10; refine HAL.out.mono ?_; rintro e w1 ⟨rfl, hb1⟩; have HB1 := Lib.hid hb1; clear hb1)
          | (go_at_call 9; refine (CL.out _ HB1.out).mono ?_; rintro e w2 ⟨Ax, cx, rfl, hb2, hx⟩; have HB2 := Lib.hid hb2; clear hb2 hx))
        go_ret
        exact ⟨rfl, HB1.out.trans (HB2.out.mono HB1.out.size)⟩)
  · have hqn : (q != 0) = true := by simpa using hq0
    clear hr hN hcl hq hM hb hbj hc hq0
    go_enter Try.func6, Try.ntmps6
    go_wp2_with (first
      | (go_at_call 10; refine HAL.out.mono ?_; rintro e w1 ⟨rfl, hb1⟩; have HB1 := Lib.hid hb1; clear hb1)
      | (go_at_call 9; refine (CL.out _ HB1.out).mono ?_; rintro e w2 ⟨Ax, cx, rfl, hb2, hx⟩; have HB2 := Lib.hid hb2; clear hb2 hx))
    go_ret
    exact ⟨rfl, HB1.out.trans (HB2.out.mono HB1.out.size)⟩
-- LAW
set_option maxRecDepth 100000 in
theorem order_law_lifted (os : Os) (started : os.Started) (H : Type) (enc : TypeId × Value → H) :
    ReturnsInHanded {} Try.checked os 6 .any (Rows.buildOrderSpec.pre6 enc Try.prog Try.f6 Rows.buildOrderRow.domain false) (Rows.buildOrderSpec.post enc Try.prog Try.f6 false true false false) := by
  refine returnsInHanded_of_change (C := Try.checked) own started (by kernel_rfl) Try.func6
    (ChangeSpec.witness6 (enc := enc) (C := Try.checked) false ⟨#[], #[.slice none 0 0, .int .i64 0, .int .i64 0, .int .i64 0], []⟩ 8 (by kernel_rfl) (by kernel_rfl) (by kernel_rfl) (by kernel_rfl)) ?_
  intro W base args ds gs before hval0 hW _ _
  have hval : ∀ (j : Nat) t v, Try.f6.params[j]? = some t → args[j]? = some v → Value.okWide Try.prog W .any base t v := hval0
  have hW' := hW
  obtain ⟨p, q, hA0, hV, rfl, _, _⟩ := hW
  have hA : DataW.TrodAll enc Try.prog W 0 (fun _ => true) true Try.f6.params.toList args.toList ds p := hA0
  rw [Try.params6] at hA hval
  obtain ⟨v0, vs0, d0, ds0, p0, q0, hargs, rfl, rfl, h0, r0⟩ := trodAll_cons hA
  obtain ⟨v1, vs1, d1, ds1, p1, q1, rfl, rfl, rfl, h1, r1⟩ := trodAll_cons r0
  obtain ⟨v2, vs2, d2, ds2, p2, q2, rfl, rfl, rfl, h2, r2⟩ := trodAll_cons r1
  obtain ⟨v3, vs3, d3, ds3, p3, q3, rfl, rfl, rfl, h3, r3⟩ := trodAll_cons r2
  obtain ⟨rfl, rfl, rfl⟩ := trodAll_nil r3
  obtain rfl : args = #[v0, v1, v2, v3] := by cases args; simp_all
  obtain ⟨rfl, rfl⟩ := trodVars_none hV
  have k0 := h0
  have lt0 : ∀ x ∈ p0, x.block < W.heap.size := by obtain ⟨m, hm⟩ := k0; exact DataW.trod_lt m _ _ _ hm
  obtain ⟨A0, len0, cap0, rfl⟩ := okWide_slice Try.underlying23 (hval 0 23 v0 rfl rfl)
  obtain ⟨l0, hlen0, hr0, hn0, hm0, hb0⟩ := open_intl h0
  have k1 := h1
  have lt1 : ∀ x ∈ p1, x.block < W.heap.size := by obtain ⟨m, hm⟩ := k1; exact DataW.trod_lt m _ _ _ hm
  obtain ⟨a1, rfl, rfl, rfl, w1⟩ := open_int Try.underlying3 (hval 1 3 v1 rfl rfl) h1
  have u1 := wf_i64_range w1
  have k2 := h2
  have lt2 : ∀ x ∈ p2, x.block < W.heap.size := by obtain ⟨m, hm⟩ := k2; exact DataW.trod_lt m _ _ _ hm
  obtain ⟨a2, rfl, rfl, rfl, w2⟩ := open_int Try.underlying3 (hval 2 3 v2 rfl rfl) h2
  have u2 := wf_i64_range w2
  have k3 := h3
  have lt3 : ∀ x ∈ p3, x.block < W.heap.size := by obtain ⟨m, hm⟩ := k3; exact DataW.trod_lt m _ _ _ hm
  obtain ⟨a3, rfl, rfl, rfl, w3⟩ := open_int Try.underlying3 (hval 3 3 v3 rfl rfl) h3
  have u3 := wf_i64_range w3
  clear hA0 hval0
  refine (order_law A0 len0 cap0 l0 a1 a2 a3 W hlen0 hr0 hn0 hb0 u1.1 u1.2 u2.1 u2.2 u3.1 u3.2).mono fun e W' ⟨he, bel⟩ => ?_
  subst he
  exact ⟨_, rfl, _, _, _, [], _, [], hW', trodAll_mk1 (shut_bool Try.underlying4 _), (trodAll_cons_mk (Below.trod laidOut (by kernel_rfl) (of_decide_eq_true (by kernel_rfl)) k0 bel lt0) (trodAll_cons_mk (Below.trod laidOut (by kernel_rfl) (of_decide_eq_true (by kernel_rfl)) k1 bel lt1) (trodAll_cons_mk (Below.trod laidOut (by kernel_rfl) (of_decide_eq_true (by kernel_rfl)) k2 bel lt2) (trodAll_cons_mk (Below.trod laidOut (by kernel_rfl) (of_decide_eq_true (by kernel_rfl)) k3 bel lt3) trodAll_mk0)))), rfl, bel.frame _, fun h => by cases h⟩
theorem order_law_holds : Rows.BuildOrderSaid :=
  OpenClaim.holds_of_wide 6 Try.f6 rfl rfl rfl rfl rfl rfl rfl ⟨rfl, rfl, rfl, rfl, rfl⟩ rfl rfl rfl rfl rfl (by kernel_rfl) Try.func6 (by kernel_rfl)
    (of_decide_eq_true (by kernel_rfl)) (by unfold Func.isWrapper; first | (rw [if_pos (by decide +kernel)]; kernel_rfl) | (rw [if_neg (by decide +kernel)]; exact ⟨rfl, rfl⟩))
    (fun os started H enc _ => order_law_lifted os started H enc)
#print axioms order_law_holds
end Go.Proofs.Ytgppikhfkikknaa
