/-
  The law RunsStretch, for every runs and number, returns true: the lengths that runs make are the document's; the runs stay, and what is answered is new memory. No condition.
-/
import Derived.Test.YtgkbnmknlmapdaaRunSqz
import Derived.Test.YtgkbnmknlmapdaaRunOpn
namespace Go.Proofs.Ytgkbnmknlmapdaa
open Go.RowKit Go.ChangeShapes Go.WideShapes Go.ChangeAt Go.Joins
/-- append([]api.Run(nil), l...) -/
theorem run_twinU (w : World) (A : Option Addr) (n c : Nat) (l : List (Int × Int)) (hr : RuR w w.heap.size A n c l) (hn : n ≤ 1000000) :
    ∃ A' c' w', (Builtin.append_ #[26, 26] 26 #[.slice none 0 0, .slice A n c]).run Try.prog w = .ok (.slice A' n c') w' ∧ RuR w' w'.heap.size A' n c' l ∧ Below w.heap.size w w' := by
  obtain ⟨h1, h2, h3, _⟩ := hr
  subst h1
  obtain ⟨A', c', w', q1, q2, q3⟩ := run_app (by_ := 16) Try.underlying26 infoRun rfl (by decide) w w.heap.size w.heap.size (.slice none 0 0) 0 [] (World.ownsRow_nil w _ _ _) A l.length c (runsL l) h2 (runsL_one l) (by unfold maxLen; omega) (by omega) 26 h3 (Nat.le_refl _)
  rw [Nat.zero_add, List.nil_append] at q2
  rw [Nat.zero_add] at q1
  exact ⟨A', c', w', q1, RuR.of_own q2, q3⟩
set_option maxRecDepth 100000 in
set_option maxHeartbeats 4000000 in
theorem stretch10_law (A : Option Addr) (m c : Nat) (l : List (Int × Int)) (n : Int) (w : World) (hr : RuR w w.heap.size A m c l) (_ : ∀ r ∈ l, RunIn r) (hn1 : -9223372036854775808 ≤ n) (hn2 : n ≤ 9223372036854775807) :
    Calls Try.prog 5 #[.slice A m c, .int .i64 n] w fun e w' => e = .returned (.bool true) ∧ Below w.heap.size w w' := by
  by_cases hm1 : 1000 < m
  · have hd : decide (1000 < (m : Int)) = true := by simp; omega
    clear hr
    go_enter Try.func5, Try.ntmps5
    go_wp2
    go_ret
    exact ⟨rfl, Below.refl _ _⟩
  have hd : decide (1000 < (m : Int)) = false := by simp; omega
  obtain ⟨A1, c1, w1, hrun, hru1, hb1⟩ := run_twinU w A m c l hr (by omega)
  have hr1 := (hr.below hb1 (Nat.le_refl _)).more hb1.size
  have hml := hr.1
  obtain ⟨O, hO⟩ : ∃ O, O = strO l n := ⟨_, rfl⟩
  have HST : Hid (∀ u, RuR u u.heap.size A1 m c1 l → Calls Try.prog 9 #[.slice A1 m c1, .int .i64 n] u fun e w' => ∃ A' n' c', e = .returned (.tuple #[.slice A' n' c', .int .i64 O.1]) ∧ n' = O.2.length ∧ ByR w' w'.heap.size A' n' c' (lst O.2) ∧ Below u.heap.size u w' ∧ NewB w' u.heap.size A' n') := Lib.hid fun u hu => by
    rw [hO]; exact str10_any u A1 m c1 l n hu (by omega) hn1 hn2
  have HSR : Hid (∀ u, RuR u u.heap.size A m c l → Calls Try.prog 16 #[.slice A m c, .int .i64 n] u fun e w' => ∃ A' n' c', e = .returned (.tuple #[.slice A' n' c', .int .i64 O.1]) ∧ n' = O.2.length ∧ ByR w' w'.heap.size A' n' c' (lst O.2) ∧ Below u.heap.size u w' ∧ NewB w' u.heap.size A' n') := Lib.hid fun u hu => by
    rw [hO]; exact rstr10_any u A m c l n hu (by omega)
  have e1 : (O.1 != O.1) = false := by simp
  have e2 : (O.1 == O.1) = true := by simp
  have HRUN := Lib.hid hrun; have HB1 := Lib.hid hb1; have HU1 := Lib.hid hru1; have HR1 := Lib.hid hr1; have HML := Lib.hid hml
  clear hO hrun hru1 hb1 hr1 hr hml
  go_enter Try.func5, Try.ntmps5
  go_wp2_with (at_builtin; refine wpList_append_run rfl (.const (.slice none 0 0)) (.tmp 16) 26 rfl (.slice none 0 0) (.slice A m c) (.slice A1 m c1) w1 rfl rfl HRUN.out ?_)
  refine (HST.out w1 HU1.out).mono ?_
  rintro e w3 ⟨B1, n1, k1, rfl, hn', hby, hb, hnew⟩
  have HB3 := Lib.hid (HB1.out.trans (hb.mono HB1.out.size)); have HD3 := Lib.hid hb; have HX3 := Lib.hid hby
  have HW3 := Lib.hid (WrB.of hnew hby.1); have HN1 := Lib.hid hn'
  have HP1 : Hid (0 < n1 → ∃ g o, B1 = some ⟨g, o, none⟩ ∧ g < w3.heap.size) := Lib.hid fun h0 => by obtain ⟨g, o, q1, q2, _⟩ := hby.1.2 h0; exact ⟨g, o, q1, q2⟩
  clear hn' hby hb hnew
  go_wp2_with fail
  refine (HSR.out w3 ((HR1.out.below HD3.out (Nat.le_refl _)).more HD3.out.size)).mono ?_
  rintro e w4 ⟨B2, n2, k2, rfl, hn', hby, hb, hnew2⟩
  have HB4 := Lib.hid (HB3.out.trans (hb.mono HB3.out.size)); have HD4 := Lib.hid (HD3.out.trans (hb.mono HD3.out.size))
  have HW4 := Lib.hid (HW3.out.below hb (Nat.le_refl _))
  have hnn : n2 = n1 := by rw [hn', HN1.out]
  subst hnn
  have hx4 := HX3.out.below hb (Nat.le_refl _)
  have s1 := run_str hx4.1 k1
  have s2 := run_str hby.1 k2
  have HY4 := Lib.hid hby
  have HNEW2 := Lib.hid hnew2
  have HS3 := Lib.hid hb.size
  obtain ⟨Z, hZ⟩ : ∃ Z, Z = strB n2 (lst O.2) := ⟨_, rfl⟩
  rw [← hZ] at s1 s2
  have z1 : (Z.toList != Z.toList) = false := by simp
  have HZ := Lib.hid hZ
  clear hZ hn' hby hb hx4 hnew2 HX3
  have hnb : n2 ≤ 9223372036854775807 := by have h1 := HY4.out.2.2.1; have h2 := HY4.out.2.2.2; unfold maxLen at h2; omega
  go_wp2
  clear s1 s2 z1
  go_loopw [10] (fun jv wr => ∃ j : Nat, j ≤ n2 ∧ jv = .int .i64 (j : Int) ∧ Hid (Below w.heap.size w wr) ∧ Hid (Below w1.heap.size w1 wr) ∧ Hid (WrB wr w1.heap.size B1 n2) ∧ Hid (ByR wr wr.heap.size B2 n2 k2 (lst O.2))) (fun jv _ => n2 - (intOf jv).toNat)
  case atStart => exact ⟨0, Nat.zero_le _, rfl, HB4, HD4, HW4, HY4⟩
  case round =>
    obtain ⟨j, hj, rfl, HB, HD, HW, HY⟩ := hrel
    by_cases hlt : j < n2
    · have hltj : (j : Int) < (n2 : Int) := by omega
      obtain ⟨g, o, cur, F, rfl, hg, hh, hF, hcu⟩ := HW.out (by omega)
      have c1' : wr.cell? ⟨g, o + j, none⟩ = some (.int .u8 (F j : Int)) := by rw [cell_of_row wr g _ _ _ (0, 0) hh]; exact hcu j hlt
      have f1 : wr.frozen? ⟨g, o + j, none⟩ = false := frozen_of_row wr g _ _ _ hh
      have hFj := hF j
      obtain ⟨u, hu⟩ : ∃ u, u = F j := ⟨_, rfl⟩
      rw [← hu] at c1' hFj
      obtain ⟨x, hx⟩ : ∃ x, x = (u + 1) % 256 := ⟨_, rfl⟩
      have hw8 : IntKind.u8.wrap ((u : Int) + 1) = (x : Int) := by rw [IntKind.wrap_u8]; omega
      have hset := HW.out.set hlt x (by omega)
      have hb1 := HB.out.setCell (p := ⟨g, o + j, none⟩) (by show w.heap.size ≤ g; have := HB1.out.size; omega) (.int .u8 (x : Int))
      have hd1 := HD.out.setCell (p := ⟨g, o + j, none⟩) (by show w1.heap.size ≤ g; omega) (.int .u8 (x : Int))
      have hgl : g < w3.heap.size := by
        obtain ⟨g', o', q1, q2⟩ := HP1.out (by omega)
        injection q1 with q1; injection q1 with q1 _ _
        omega
      have hy1 := HY.out.other ⟨g, o + j, none⟩ (.int .u8 (x : Int)) (fun b hb => by
        obtain ⟨g2, o2, _, q1, q2, _⟩ := HNEW2.out (by omega)
        rw [q1] at hb
        injection hb with hb
        show b ≠ g
        have : g2 = b := hb
        omega)
      have hsz : (wr.setCell ⟨g, o + j, none⟩ (.int .u8 (x : Int))).heap.size = wr.heap.size := by simp [World.setCell]
      rw [← hsz] at hy1
      have HS1 := Lib.hid hset; have HBS := Lib.hid hb1; have HDS := Lib.hid hd1; have HYS := Lib.hid hy1
      clear hset hb1 hd1 hy1 hsz hu hx hh hcu hF hgl
      go_wp2
      go_roundw
      case rel => exact ⟨j + 1, by omega, by go_num, HBS, HDS, HS1, HYS⟩
      case measure => simp [intOf]; omega
    · obtain rfl : j = n2 := by omega
      have hltj : ¬ (j : Int) < (j : Int) := by omega
      go_wp2_with fail
      refine (HST.out wr ((HU1.out.below HD.out (Nat.le_refl _)).more HD.out.size)).mono ?_
      rintro e w5 ⟨B3, n3, k3, rfl, hn3, hby3, hb5, _⟩
      have HB5 := Lib.hid (HB.out.trans (hb5.mono HB.out.size))
      have hn33 : n3 = j := by rw [hn3, HN1.out]
      subst hn33
      have hy5 := HY.out.below hb5 (Nat.le_refl _)
      have s1 := run_str hby3.1 k3
      have s2 := run_str hy5.1 k2
      obtain ⟨Z, hZ⟩ : ∃ Z, Z = strB n3 (lst O.2) := ⟨_, rfl⟩
      rw [← hZ] at s1 s2
      have z1 : (Z.toList == Z.toList) = true := by simp
      have ha1 := (HU1.out.below HD.out (Nat.le_refl _)).below hb5 HD.out.size
      have ha2 := (HR1.out.below HD.out (Nat.le_refl _)).below hb5 HD.out.size
      have hsm := rsameU_any w5 w1.heap.size A1 A c1 c l ha1.2.1 ha2.2.1 (by rw [← HML.out]; omega)
      rw [← HML.out] at hsm
      have HSM := Lib.hid hsm
      clear hn3 hby3 hb5 hy5 hZ ha1 ha2 hsm
      go_wp2_with fail
      refine HSM.out.mono ?_
      rintro e w6 ⟨rfl, t, rfl⟩
      have HB6 : Hid (Below w.heap.size w (w5.drewN t)) := Lib.hid ⟨HB5.out.os, HB5.out.tape, HB5.out.output, HB5.out.size, HB5.out.block⟩
      go_wp2
      go_ret
      exact ⟨rfl, HB6.out⟩
-- LAW
set_option maxRecDepth 100000 in
theorem stretch10_law_lifted (os : Os) (started : os.Started) (H : Type) (enc : TypeId × Value → H) :
    ReturnsInHanded {} Try.checked os 5 .any (Rows.runsStretchSpec.pre6 enc Try.prog Try.f5 Rows.runsStretchRow.domain false) (Rows.runsStretchSpec.post enc Try.prog Try.f5 false true false false) := by
  refine returnsInHanded_of_change (C := Try.checked) own started (by kernel_rfl) Try.func5
    (ChangeSpec.witness6 (enc := enc) (C := Try.checked) false ⟨#[], #[.slice none 0 0, .int .i64 0], []⟩ 8 (by kernel_rfl) (by kernel_rfl) (by kernel_rfl) (by kernel_rfl)) ?_
  intro W base args ds gs before hval0 hW _ _
  have hval : ∀ (j : Nat) t v, Try.f5.params[j]? = some t → args[j]? = some v → Value.okWide Try.prog W .any base t v := hval0
  have hW' := hW
  obtain ⟨p, q, hA0, hV, rfl, _, _⟩ := hW
  have hA : DataW.TrodAll enc Try.prog W 0 (fun _ => true) true Try.f5.params.toList args.toList ds p := hA0
  rw [Try.params5] at hA hval
  obtain ⟨v0, vs0, d0, ds0, p0, q0, hargs, rfl, rfl, h0, r0⟩ := trodAll_cons hA
  obtain ⟨v1, vs1, d1, ds1, p1, q1, rfl, rfl, rfl, h1, r1⟩ := trodAll_cons r0
  obtain ⟨rfl, rfl, rfl⟩ := trodAll_nil r1
  obtain rfl : args = #[v0, v1] := by cases args; simp_all
  obtain ⟨rfl, rfl⟩ := trodVars_none hV
  have k0 := h0
  have lt0 : ∀ x ∈ p0, x.block < W.heap.size := by obtain ⟨m, hm⟩ := k0; exact DataW.trod_lt m _ _ _ hm
  obtain ⟨A0, len0, cap0, rfl⟩ := okWide_slice Try.underlying26 (hval 0 26 v0 rfl rfl)
  obtain ⟨l0, hr0, hin0⟩ := open_runs h0
  have k1 := h1
  have lt1 : ∀ x ∈ p1, x.block < W.heap.size := by obtain ⟨m, hm⟩ := k1; exact DataW.trod_lt m _ _ _ hm
  obtain ⟨a1, rfl, rfl, rfl, w1⟩ := open_int Try.underlying3 (hval 1 3 v1 rfl rfl) h1
  have u1 := wf_i64_range w1
  clear hA0 hval0
  refine (stretch10_law A0 len0 cap0 l0 a1 W hr0 hin0 u1.1 u1.2).mono fun e W' ⟨he, bel⟩ => ?_
  subst he
  exact ⟨_, rfl, _, _, _, [], _, [], hW', trodAll_mk1 (shut_bool Try.underlying4 _), (trodAll_cons_mk (Below.trod laidOut (by kernel_rfl) (of_decide_eq_true (by kernel_rfl)) k0 bel lt0) (trodAll_cons_mk (Below.trod laidOut (by kernel_rfl) (of_decide_eq_true (by kernel_rfl)) k1 bel lt1) trodAll_mk0)), rfl, bel.frame _, fun h => by cases h⟩
theorem stretch10_law_holds : Rows.RunsStretchSaid :=
  OpenClaim.holds_of_wide 5 Try.f5 rfl rfl rfl rfl rfl rfl rfl ⟨rfl, rfl, rfl, rfl, rfl⟩ rfl rfl rfl rfl rfl (by kernel_rfl) Try.func5 (by kernel_rfl)
    (of_decide_eq_true (by kernel_rfl)) (by unfold Func.isWrapper; first | (rw [if_pos (by decide +kernel)]; kernel_rfl) | (rw [if_neg (by decide +kernel)]; exact ⟨rfl, rfl⟩))
    (fun os started H enc _ => stretch10_law_lifted os started H enc)
#print axioms stretch10_law_holds
end Go.Proofs.Ytgkbnmknlmapdaa
