/-
  The law BuildLeast, for every frequencies, limit and other lengths, returns true. No condition.
-/
import Derived.Test.YtgppikhfkikknaaBuildLaw
import Derived.Test.YtgppikhfkikknaaCanonKck
namespace Go.Proofs.Ytgppikhfkikknaa
open Go.RowKit Go.ChangeShapes Go.WideShapes Go.ChangeAt
theorem below_drewNb {B : Nat} {a w : World} (h : Below B a w) (n : Nat) : Below B a (w.drewN n) := ⟨h.os, h.tape, h.output, h.size, h.block⟩
set_option maxRecDepth 100000 in
set_option maxHeartbeats 4000000 in
theorem least_law (A : Option Addr) (N c : Nat) (l : List Int) (most : Int) (Ao : Option Addr) (no co : Nat) (g : Nat → Nat) (w : World) (hN : N = l.length) (hr : RdI w w.heap.size A l) (hc : A = none → c = 0) (hb : ∀ x ∈ l, -9223372036854775808 ≤ x ∧ x ≤ 9223372036854775807) (hm1 : -9223372036854775808 ≤ most) (hm2 : most ≤ 9223372036854775807)
    (hg : RdB w w.heap.size Ao no g) (_hno : Ao = none → co = 0) :
    Calls Try.prog 5 #[.slice A N c, .int .i64 most, .slice Ao no co] w fun e w' => e = .returned (.bool true) ∧ Below w.heap.size w w' := by
  have HAL := Lib.hid (alive4_any w)
  by_cases hbig : 400 < N
  · have hd : decide (400 < (N : Int)) = true := by simp; omega
    go_enter Try.func5, Try.ntmps5
    go_wp2_with (go_at_call 10; refine HAL.out.mono ?_; rintro e w1 ⟨rfl, hb1⟩; have HB1 := Lib.hid hb1; clear hb1)
    go_ret
    exact ⟨rfl, HB1.out⟩
  have hd : decide (400 < (N : Int)) = false := by simp; omega
  have hbj : ∀ j, j < l.length → -9223372036854775808 ≤ l.getD j 0 ∧ l.getD j 0 ≤ 9223372036854775807 := fun j hj => hb _ (by rw [List.getD_eq_getElem?_getD, List.getElem?_eq_getElem hj]; exact List.getElem_mem hj)
  obtain ⟨q, hq⟩ : ∃ q, q = askE l most := ⟨_, rfl⟩
  obtain ⟨M, hM⟩ : ∃ M, M = lenO l most := ⟨_, rfl⟩
  have hcl : ∀ w1, Below w.heap.size w w1 → Calls Try.prog 9 #[.slice A N c, .int .i64 most] w1 fun e w' => ∃ A' c', e = .returned (.tuple #[.slice A' M c', .int .i64 q]) ∧ Below w1.heap.size w1 w' ∧ RdB w' w'.heap.size A' M (outL l most) := fun w1 hb1 => by
    have h := lengths_any w1 A c l most ((hr.below hb1 (Nat.le_refl _)).more hb1.size) hc (by omega) hbj hm1 hm2
    rw [← hq, ← hM, ← hN] at h
    exact h
  have HR := Lib.hid hr; have HN := Lib.hid hN; have CL := Lib.hid hcl; have HG := Lib.hid hg
  by_cases hq0 : q = 0
  · subst hq0
    obtain ⟨h1, h2, h3, h4, _⟩ := ask_right hq.symm
    obtain ⟨m1, m2, m3⟩ := out_may hq.symm
    have HLE := Lib.hid (fun h => out_least hq.symm (f := g) h)
    have hMN : M = N := by rw [hM]; unfold lenO; rw [if_pos hq.symm, hN]
    subst hMN
    rw [← hN] at m1 m2 HLE
    have HM1 := Lib.hid m1; have HM2 := Lib.hid m2; have H4 := Lib.hid h4
    clear hr hN hcl hq hM hb hbj hc hg m1 m2 m3 h4
    go_enter Try.func5, Try.ntmps5
    go_wp2_with fail
    refine HAL.out.mono ?_
    rintro e w1 ⟨rfl, hb1⟩
    have HB1 := Lib.hid hb1
    clear hb1
    go_wp2_with fail
    refine (CL.out _ HB1.out).mono ?_
    rintro e w2 ⟨Ax, cx, rfl, hb2, hx⟩
    have hbw := HB1.out.trans (hb2.mono HB1.out.size)
    have HB2 := Lib.hid hbw
    have HX := Lib.hid hx
    have HR2 := Lib.hid ((HR.out.below hbw (Nat.le_refl _)).more hbw.size)
    have HG2 := Lib.hid ((HG.out.below hbw (Nat.le_refl _)).more hbw.size)
    clear hb2 hx hbw
    go_wp2_with fail
    refine (may_any w2 _ A c l M HN.out HR2.out Ax M cx _ HX.out (by omega) H4.out most h1 h2).mono ?_
    rintro e w' ⟨rfl, rfl⟩
    rw [HM1.out]
    go_wp2_with fail
    refine (check_any w2 Ax M cx _ most HX.out (by omega)).mono ?_
    rintro e w3 ⟨rfl, hb3⟩
    rw [HM2.out]
    have HB3 := Lib.hid (HB2.out.trans (hb3.mono HB2.out.size))
    have HX3 := Lib.hid ((HX.out.below hb3 (Nat.le_refl _)).more hb3.size)
    have HR3 := Lib.hid ((HR2.out.below hb3 (Nat.le_refl _)).more hb3.size)
    have HG3 := Lib.hid ((HG2.out.below hb3 (Nat.le_refl _)).more hb3.size)
    clear hb3
    go_wp2_with fail
    refine (may_any w3 _ A c l M HN.out HR3.out Ao no co _ HG3.out (by omega) H4.out most h1 h2).mono ?_
    rintro e w' ⟨rfl, rfl⟩
    cases hmg : mayB l no g most with
    | false =>
      clear hmg
      go_wp2
      go_ret
      exact ⟨rfl, HB3.out⟩
    | true =>
      have hno : no = M := (of_decide_eq_true hmg).1.trans HN.out.symm
      subst hno
      have hle := HLE.out hmg
      clear hmg
      obtain ⟨a, ha⟩ : ∃ a, a = costN (freqN l) (outL l most) no := ⟨_, rfl⟩
      obtain ⟨b, hbb⟩ : ∃ a, a = costN (freqN l) g no := ⟨_, rfl⟩
      rw [← ha, ← hbb] at hle
      have HA := Lib.hid ha; have HBB := Lib.hid hbb
      have hle2 : decide ((a : Int) ≤ (b : Int)) = true := by simp; omega
      have hle3 : decide (a ≤ b) = true := by simpa using hle
      clear ha hbb hle
      go_wp2_with fail
      refine (cost_any w3 _ A c l no HN.out HR3.out Ax cx _ HX3.out (by omega) H4.out).mono ?_
      rintro e w' ⟨rfl, n1, rfl⟩
      rw [← HA.out]
      have HB4 := Lib.hid (below_drewNb HB3.out n1)
      have HR4 := Lib.hid (HR3.out.below (below_drewNb (Below.refl w3.heap.size w3) n1) (Nat.le_refl _))
      have HG4 := Lib.hid (HG3.out.below (below_drewNb (Below.refl w3.heap.size w3) n1) (Nat.le_refl _))
      go_wp2_with fail
      refine (cost_any _ _ A c l no HN.out HR4.out Ao co _ HG4.out (by omega) H4.out).mono ?_
      rintro e w' ⟨rfl, n2, rfl⟩
      rw [← HBB.out]
      go_wp2
      go_ret
      exact ⟨rfl, below_drewNb HB3.out _⟩
  · have hqn : (q != 0) = true := by simpa using hq0
    have hM0 : M = 0 := by rw [hM]; unfold lenO; rw [if_neg (by rw [← hq]; exact hq0)]
    subst hM0
    clear hr hN hcl hq hb hbj hc hq0 hM hg
    go_enter Try.func5, Try.ntmps5
    go_wp2_with (first
      | (go_at_call 10; refine HAL.out.mono ?_; rintro e w1 ⟨rfl, hb1⟩; have HB1 := Lib.hid hb1; clear hb1)
      | (go_at_call 9; refine (CL.out _ HB1.out).mono ?_; rintro e w2 ⟨Ax, cx, rfl, hb2, hx⟩; have HB2 := Lib.hid hb2; clear hb2 hx))
    go_ret
    exact ⟨rfl, HB1.out.trans (HB2.out.mono HB1.out.size)⟩
-- LAW
set_option maxRecDepth 100000 in
theorem least_law_lifted (os : Os) (started : os.Started) (H : Type) (enc : TypeId × Value → H) :
    ReturnsInHanded {} Try.checked os 5 .any (Rows.buildLeastSpec.pre6 enc Try.prog Try.f5 Rows.buildLeastRow.domain false) (Rows.buildLeastSpec.post enc Try.prog Try.f5 false true false false) := by
  refine returnsInHanded_of_change (C := Try.checked) own started (by kernel_rfl) Try.func5
    (ChangeSpec.witness6 (enc := enc) (C := Try.checked) false ⟨#[], #[.slice none 0 0, .int .i64 0, .slice none 0 0], []⟩ 8 (by kernel_rfl) (by kernel_rfl) (by kernel_rfl) (by kernel_rfl)) ?_
  intro W base args ds gs before hval0 hW _ _
  have hval : ∀ (j : Nat) t v, Try.f5.params[j]? = some t → args[j]? = some v → Value.okWide Try.prog W .any base t v := hval0
  have hW' := hW
  obtain ⟨p, q, hA0, hV, rfl, _, _⟩ := hW
  have hA : DataW.TrodAll enc Try.prog W 0 (fun _ => true) true Try.f5.params.toList args.toList ds p := hA0
  rw [Try.params5] at hA hval
  obtain ⟨v0, vs0, d0, ds0, p0, q0, hargs, rfl, rfl, h0, r0⟩ := trodAll_cons hA
  obtain ⟨v1, vs1, d1, ds1, p1, q1, rfl, rfl, rfl, h1, r1⟩ := trodAll_cons r0
  obtain ⟨v2, vs2, d2, ds2, p2, q2, rfl, rfl, rfl, h2, r2⟩ := trodAll_cons r1
  obtain ⟨rfl, rfl, rfl⟩ := trodAll_nil r2
  obtain rfl : args = #[v0, v1, v2] := by cases args; simp_all
  obtain ⟨rfl, rfl⟩ := trodVars_none hV
  have k0 := h0
  have lt0 : ∀ x ∈ p0, x.block < W.heap.size := by obtain ⟨m, hm⟩ := k0; exact DataW.trod_lt m _ _ _ hm
  obtain ⟨A0, len0, cap0, rfl⟩ := okWide_slice Try.underlying23 (hval 0 23 v0 rfl rfl)
  obtain ⟨l0, hlen0, hr0, hn0, hm0, hb0⟩ := open_intl h0
  have k1 := h1
  have lt1 : ∀ x ∈ p1, x.block < W.heap.size := by obtain ⟨m, hm⟩ := k1; exact DataW.trod_lt m _ _ _ hm
  obtain ⟨a1, rfl, rfl, rfl, w1⟩ := open_int Try.underlying3 (hval 1 3 v1 rfl rfl) h1
  have u1 := wf_i64_range w1
  have k2 := h2
  have lt2 : ∀ x ∈ p2, x.block < W.heap.size := by obtain ⟨m, hm⟩ := k2; exact DataW.trod_lt m _ _ _ hm
  obtain ⟨A2, len2, cap2, rfl⟩ := okWide_slice Try.underlying24 (hval 2 24 v2 rfl rfl)
  obtain ⟨f2, hr2, hn2, hl2, hm2⟩ := open_bytes h2
  clear hA0 hval0
  refine (least_law A0 len0 cap0 l0 a1 A2 len2 cap2 f2 W hlen0 hr0 hn0 hb0 u1.1 u1.2 hr2 hn2).mono fun e W' ⟨he, bel⟩ => ?_
  subst he
  exact ⟨_, rfl, _, _, _, [], _, [], hW', trodAll_mk1 (shut_bool Try.underlying4 _), (trodAll_cons_mk (Below.trod laidOut (by kernel_rfl) (of_decide_eq_true (by kernel_rfl)) k0 bel lt0) (trodAll_cons_mk (Below.trod laidOut (by kernel_rfl) (of_decide_eq_true (by kernel_rfl)) k1 bel lt1) (trodAll_cons_mk (Below.trod laidOut (by kernel_rfl) (of_decide_eq_true (by kernel_rfl)) k2 bel lt2) trodAll_mk0))), rfl, bel.frame _, fun h => by cases h⟩
theorem least_law_holds : Rows.BuildLeastSaid :=
  OpenClaim.holds_of_wide 5 Try.f5 rfl rfl rfl rfl rfl rfl rfl ⟨rfl, rfl, rfl, rfl, rfl⟩ rfl rfl rfl rfl rfl (by kernel_rfl) Try.func5 (by kernel_rfl)
    (of_decide_eq_true (by kernel_rfl)) (by unfold Func.isWrapper; first | (rw [if_pos (by decide +kernel)]; kernel_rfl) | (rw [if_neg (by decide +kernel)]; exact ⟨rfl, rfl⟩))
    (fun os started H enc _ => least_law_lifted os started H enc)
#print axioms least_law_holds
end Go.Proofs.Ytgppikhfkikknaa
