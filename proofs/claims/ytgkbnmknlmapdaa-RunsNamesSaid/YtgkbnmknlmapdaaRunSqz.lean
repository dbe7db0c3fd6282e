/-
  The law RunsSqueeze, for every lengths and symbol, returns true: the runs of lengths, and a symbol's extra bits, are the document's; the lengths stay. No condition.
-/
import Derived.Test.YtgkbnmknlmapdaaRunBck
namespace Go.Proofs.Ytgkbnmknlmapdaa
open Go.RowKit Go.ChangeShapes Go.WideShapes Go.ChangeAt Go.Joins
set_option maxRecDepth 100000 in
set_option maxHeartbeats 2000000 in
theorem squeeze10_law (A : Option Addr) (n c : Nat) (f : Nat → Nat) (s : Int) (w : World) (hr : ByR w w.heap.size A n c f) (_ : -9223372036854775808 ≤ s) (_ : s ≤ 9223372036854775807) :
    Calls Try.prog 4 #[.slice A n c, .int .i64 s] w fun e w' => e = .returned (.bool true) ∧ Below w.heap.size w w' := by
  by_cases hn1 : 1000 < n
  · have hd : decide (1000 < (n : Int)) = true := by simp; omega
    clear hr
    go_enter Try.func4, Try.ntmps4
    go_wp2
    go_ret
    exact ⟨rfl, Below.refl _ _⟩
  have hd : decide (1000 < (n : Int)) = false := by simp; omega
  obtain ⟨A1, c1, w1, hrun, hown, hb1, _⟩ := run_twin w w.heap.size A n c f hr.1 (by omega) 23 hr.2.1
  have hby1 := ByR.of_own hown hr.1.1
  have hr1 := (hr.below hb1 (Nat.le_refl _)).more hb1.size
  obtain ⟨E, hE⟩ : ∃ E, E = sqE f n := ⟨_, rfl⟩
  obtain ⟨l, hl⟩ : ∃ l, l = sqV f n := ⟨_, rfl⟩
  obtain ⟨p, hp⟩ : ∃ p, p = bitV s := ⟨_, rfl⟩
  obtain ⟨q, hq⟩ : ∃ q, q = bitE s := ⟨_, rfl⟩
  have hll : l.length ≤ 1000 := by
    by_cases g : sqE f n = 0
    · have := (sq_back g).2; rw [← hl] at this; omega
    · rw [hl]; unfold sqV; rw [if_neg g]; simp
  have HSQ : Hid (∀ u, ByR u u.heap.size A1 n c1 f → Calls Try.prog 11 #[.slice A1 n c1] u fun e w' => ∃ A' n' c', e = .returned (.tuple #[.slice A' n' c', .int .i64 E]) ∧ RuR w' w'.heap.size A' n' c' l ∧ Below u.heap.size u w') := Lib.hid fun u hu => by
    rw [hE, hl]; exact sq10_any u A1 n c1 f hu
  have HSR : Hid (∀ u, RdB u u.heap.size A n f → Calls Try.prog 13 #[.slice A n c] u fun e w' => ∃ A' n' c', e = .returned (.tuple #[.slice A' n' c', .int .i64 E]) ∧ RuR w' w'.heap.size A' n' c' l ∧ Below u.heap.size u w') := Lib.hid fun u hu => by
    rw [hE, hl]; exact rsq10_any u A n c f hu
  have HBT : Hid (∀ u, Calls Try.prog 10 #[.int .i64 s] u fun e w' => e = .returned (.tuple #[.int .i64 p, .int .i64 q]) ∧ Below u.heap.size u w') := Lib.hid fun u => by
    rw [hp, hq]; exact bits10_any u s
  have HBR : Hid (∀ u, Calls Try.prog 14 #[.int .i64 s] u fun e w' => e = .returned (.tuple #[.int .i64 p, .int .i64 q]) ∧ u = w') := Lib.hid fun u => by
    rw [hp, hq]; exact rbits10_any u s
  have e1 : (E == E) = true := by simp
  have e2 : (p == p) = true := by simp
  have e3 : (q == q) = true := by simp
  have HRUN := Lib.hid hrun; have HB1 := Lib.hid hb1; have HY1 := Lib.hid hby1; have HR1 := Lib.hid hr1; have HLL := Lib.hid hll
  clear hE hl hp hq hrun hown hb1 hby1 hr1 hr hll
  go_enter Try.func4, Try.ntmps4
  go_wp2_with (at_builtin; refine wpList_append_run rfl (.const (.slice none 0 0)) (.tmp 17) 23 rfl (.slice none 0 0) (.slice A n c) (.slice A1 n c1) w1 rfl rfl HRUN.out ?_)
  refine (HSQ.out w1 HY1.out).mono ?_
  rintro e w2 ⟨B1, m1, d1, rfl, hru, hb⟩
  have HB2 := Lib.hid (HB1.out.trans (hb.mono HB1.out.size)); have HD2 := Lib.hid hb; have HU1 := Lib.hid hru
  clear hb hru
  go_wp2_with fail
  refine (HSR.out w2 ((HR1.out.below HD2.out (Nat.le_refl _)).more HD2.out.size).1).mono ?_
  rintro e w3 ⟨B2, m2, d2, rfl, hru, hb⟩
  have HB3 := Lib.hid (HB2.out.trans (hb.mono HB2.out.size)); have HD3 := Lib.hid (HD2.out.trans (hb.mono HD2.out.size)); have HU2 := Lib.hid hru
  have HU1b := Lib.hid ((HU1.out.below hb (Nat.le_refl _)).more hb.size)
  clear hb hru HU1
  go_wp2_with fail
  refine (HBT.out w3).mono ?_
  rintro e w4 ⟨rfl, hb⟩
  have HB4 := Lib.hid (HB3.out.trans (hb.mono HB3.out.size)); have HD4 := Lib.hid (HD3.out.trans (hb.mono HD3.out.size))
  have HV1 := Lib.hid (HU1b.out.below hb (Nat.le_refl _)); have HV2 := Lib.hid (HU2.out.below hb (Nat.le_refl _))
  clear hb HU1b HU2
  go_wp2_with fail
  refine (HBR.out w4).mono ?_
  rintro e w5 ⟨rfl, rfl⟩
  have hm1 := HV1.out.1
  have hm2 := HV2.out.1
  have hmm : m2 = m1 := by omega
  subst hmm
  have hsm := rsameU_any w4 w3.heap.size B1 B2 d1 d2 l HV1.out.2.1 HV2.out.2.1 (by have := HLL.out; omega)
  rw [← hm1] at hsm
  have HSM := Lib.hid hsm
  have hx1 := HY1.out.below HD4.out (Nat.le_refl _)
  have hx2 := HR1.out.below HD4.out (Nat.le_refl _)
  have HX1 := Lib.hid hx1; have HX2 := Lib.hid hx2
  clear hsm hx1 hx2 hm1 hm2
  go_wp2_with fail
  refine HSM.out.mono ?_
  rintro e w6 ⟨rfl, t, rfl⟩
  have s1 : (convert 23 9 (.slice A1 n c1)).run Try.prog (w4.drewN t) = .ok (.string (strB n f)) (w4.drewN t) := run_str (show RdB (w4.drewN t) _ A1 n f from HX1.out.1) c1
  have s2 : (convert 23 9 (.slice A n c)).run Try.prog (w4.drewN t) = .ok (.string (strB n f)) (w4.drewN t) := run_str (show RdB (w4.drewN t) _ A n f from HX2.out.1) c
  have HB6 : Hid (Below w.heap.size w (w4.drewN t)) := Lib.hid ⟨HB4.out.os, HB4.out.tape, HB4.out.output, HB4.out.size, HB4.out.block⟩
  obtain ⟨Z, hZ⟩ : ∃ Z, Z = strB n f := ⟨_, rfl⟩
  rw [← hZ] at s1 s2
  have z1 : (Z.toList == Z.toList) = true := by simp
  clear hZ
  go_wp2
  go_ret
  exact ⟨rfl, HB6.out⟩
-- LAW
set_option maxRecDepth 100000 in
theorem squeeze10_law_lifted (os : Os) (started : os.Started) (H : Type) (enc : TypeId × Value → H) :
    ReturnsInHanded {} Try.checked os 4 .any (Rows.runsSqueezeSpec.pre6 enc Try.prog Try.f4 Rows.runsSqueezeRow.domain false) (Rows.runsSqueezeSpec.post enc Try.prog Try.f4 false true false false) := by
  refine returnsInHanded_of_change (C := Try.checked) own started (by kernel_rfl) Try.func4
    (ChangeSpec.witness6 (enc := enc) (C := Try.checked) false ⟨#[], #[.slice none 0 0, .int .i64 0], []⟩ 8 (by kernel_rfl) (by kernel_rfl) (by kernel_rfl) (by kernel_rfl)) ?_
  intro W base args ds gs before hval0 hW _ _
  have hval : ∀ (j : Nat) t v, Try.f4.params[j]? = some t → args[j]? = some v → Value.okWide Try.prog W .any base t v := hval0
  have hW' := hW
  obtain ⟨p, q, hA0, hV, rfl, _, _⟩ := hW
  have hA : DataW.TrodAll enc Try.prog W 0 (fun _ => true) true Try.f4.params.toList args.toList ds p := hA0
  rw [Try.params4] at hA hval
  obtain ⟨v0, vs0, d0, ds0, p0, q0, hargs, rfl, rfl, h0, r0⟩ := trodAll_cons hA
  obtain ⟨v1, vs1, d1, ds1, p1, q1, rfl, rfl, rfl, h1, r1⟩ := trodAll_cons r0
  obtain ⟨rfl, rfl, rfl⟩ := trodAll_nil r1
  obtain rfl : args = #[v0, v1] := by cases args; simp_all
  obtain ⟨rfl, rfl⟩ := trodVars_none hV
  have k0 := h0
  have lt0 : ∀ x ∈ p0, x.block < W.heap.size := by obtain ⟨m, hm⟩ := k0; exact DataW.trod_lt m _ _ _ hm
  obtain ⟨A0, len0, cap0, rfl⟩ := okWide_slice Try.underlying23 (hval 0 23 v0 rfl rfl)
  obtain ⟨f0, hr0⟩ := open_byr h0
  have k1 := h1
  have lt1 : ∀ x ∈ p1, x.block < W.heap.size := by obtain ⟨m, hm⟩ := k1; exact DataW.trod_lt m _ _ _ hm
  obtain ⟨a1, rfl, rfl, rfl, w1⟩ := open_int Try.underlying3 (hval 1 3 v1 rfl rfl) h1
  have u1 := wf_i64_range w1
  clear hA0 hval0
  refine (squeeze10_law A0 len0 cap0 f0 a1 W hr0 u1.1 u1.2).mono fun e W' ⟨he, bel⟩ => ?_
  subst he
  exact ⟨_, rfl, _, _, _, [], _, [], hW', trodAll_mk1 (shut_bool Try.underlying4 _), (trodAll_cons_mk (Below.trod laidOut (by kernel_rfl) (of_decide_eq_true (by kernel_rfl)) k0 bel lt0) (trodAll_cons_mk (Below.trod laidOut (by kernel_rfl) (of_decide_eq_true (by kernel_rfl)) k1 bel lt1) trodAll_mk0)), rfl, bel.frame _, fun h => by cases h⟩
theorem squeeze10_law_holds : Rows.RunsSqueezeSaid :=
  OpenClaim.holds_of_wide 4 Try.f4 rfl rfl rfl rfl rfl rfl rfl ⟨rfl, rfl, rfl, rfl, rfl⟩ rfl rfl rfl rfl rfl (by kernel_rfl) Try.func4 (by kernel_rfl)
    (of_decide_eq_true (by kernel_rfl)) (by unfold Func.isWrapper; first | (rw [if_pos (by decide +kernel)]; kernel_rfl) | (rw [if_neg (by decide +kernel)]; exact ⟨rfl, rfl⟩))
    (fun os started H enc _ => squeeze10_law_lifted os started H enc)
#print axioms squeeze10_law_holds
end Go.Proofs.Ytgkbnmknlmapdaa
