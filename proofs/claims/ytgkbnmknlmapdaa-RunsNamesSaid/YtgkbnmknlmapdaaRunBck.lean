/-
  The law RunsBack, for every lengths, returns true: the runs of lengths make just these lengths, and there are no more of them. No condition.
-/
import Derived.Test.YtgkbnmknlmapdaaRunAlv
namespace Go.Proofs.Ytgkbnmknlmapdaa
open Go.RowKit Go.ChangeShapes Go.WideShapes Go.ChangeAt Go.Joins
theorem sqE_cases (f : Nat → Nat) (n : Nat) : sqE f n = 0 ∨ sqE f n = 2 ∨ sqE f n = 4 := by
  unfold sqE
  split
  · exact .inr (.inr rfl)
  · split
    · exact .inl rfl
    · exact .inr (.inl rfl)
theorem lst_map (f : Nat → Nat) {n j : Nat} (h : j < n) : lst ((List.range n).map f) j = f j := by
  unfold lst; simp [h]
set_option maxRecDepth 100000 in
set_option maxHeartbeats 2000000 in
theorem back10_law (A : Option Addr) (n c : Nat) (f : Nat → Nat) (w : World) (hr : ByR w w.heap.size A n c f) :
    Calls Try.prog 6 #[.slice A n c] w fun e w' => e = .returned (.bool true) ∧ Below w.heap.size w w' := by
  have HAL := Lib.hid (aliveU_any w); have HR := Lib.hid hr
  clear hr
  by_cases hn1 : 1000 < n
  · have hd : decide (1000 < (n : Int)) = true := by simp; omega
    go_enter Try.func6, Try.ntmps6
    go_wp2_with fail
    refine HAL.out.mono ?_
    rintro e w2 ⟨rfl, hb⟩
    go_wp2
    go_ret
    exact ⟨rfl, hb⟩
  have hd : decide (1000 < (n : Int)) = false := by simp; omega
  obtain ⟨E, hE⟩ : ∃ E, E = sqE f n := ⟨_, rfl⟩
  obtain ⟨l, hl⟩ : ∃ l, l = sqV f n := ⟨_, rfl⟩
  have hl0 : E ≠ 0 → l = [] := fun q => by rw [hl]; exact if_neg (hE ▸ q)
  have hbk : E = 0 → strO l (n : Int) = (0, (List.range n).map f) ∧ l.length ≤ n := fun q => by rw [hl]; exact sq_back (hE ▸ q)
  have HSQ : Hid (∀ u, ByR u u.heap.size A n c f → Calls Try.prog 11 #[.slice A n c] u fun e w' => ∃ A' n' c', e = .returned (.tuple #[.slice A' n' c', .int .i64 E]) ∧ RuR w' w'.heap.size A' n' c' l ∧ Below u.heap.size u w') := Lib.hid fun u hu => by
    rw [hE, hl]; exact sq10_any u A n c f hu
  have HL0 := Lib.hid hl0; have HBK := Lib.hid hbk
  have hE3 : E = 0 ∨ E = 2 ∨ E = 4 := by rw [hE]; exact sqE_cases f n
  clear hE hl hl0 hbk
  go_enter Try.func6, Try.ntmps6
  go_wp2_with fail
  refine HAL.out.mono ?_
  rintro e w2 ⟨rfl, hb⟩
  have HB2 := Lib.hid hb
  have HY2 := Lib.hid ((HR.out.below hb (Nat.le_refl _)).more hb.size)
  clear hb HAL
  go_wp2_with fail
  refine (HSQ.out w2 HY2.out).mono ?_
  rintro e w3 ⟨A', n', c', rfl, hru, hb⟩
  have HB3 := Lib.hid (HB2.out.trans (hb.mono HB2.out.size))
  have HY3 := Lib.hid ((HY2.out.below hb (Nat.le_refl _)).more hb.size)
  have HRU := Lib.hid hru
  have hnl := hru.1
  clear hb hru HSQ HY2 HB2
  by_cases hE0 : E = 0
  · subst hE0
    obtain ⟨hst, hle⟩ := HBK.out rfl
    have hsx := str10_any w3 A' n' c' l (n : Int) HRU.out (by omega) (by omega) (by omega)
    rw [hst] at hsx
    have HSX := Lib.hid hsx
    have e0 : ((0 : Int) != 0) = false := by decide
    have hln : n' ≤ n := by omega
    clear hsx hst hle hnl hE3
    go_wp2_with fail
    refine HSX.out.mono ?_
    rintro e w4 ⟨B, nb, cb, rfl, hnb, hby, hb, _⟩
    have HB4 := Lib.hid (HB3.out.trans (hb.mono HB3.out.size))
    have hnn : nb = n := by rw [hnb]; simp
    subst hnn
    have hby2 := hby.1.ext HR.out.1.1 (fun j hj => lst_map f hj)
    have s1 := run_str hby2 cb
    have s2 := run_str (HY3.out.1.below hb (Nat.le_refl _)) c
    obtain ⟨Z, hZ⟩ : ∃ Z, Z = strB nb f := ⟨_, rfl⟩
    rw [← hZ] at s1 s2
    have z1 : (Z.toList == Z.toList) = true := by simp
    have hln2 : decide ((n' : Int) ≤ (nb : Int)) = true := by simp; omega
    have hln3 : decide (n' ≤ nb) = true := by simp; omega
    clear hnb hby hb hby2 hZ
    go_wp2
    go_ret
    exact ⟨rfl, HB4.out⟩
  · have e0 : (E != 0) = true := by simp [hE0]
    have hl := HL0.out hE0
    subst hl
    have hn0 : n' = 0 := hnl
    subst hn0
    clear hE0 hE3 hnl
    go_wp2
    go_ret
    exact ⟨rfl, HB3.out⟩
-- LAW
set_option maxRecDepth 100000 in
theorem back10_law_lifted (os : Os) (started : os.Started) (H : Type) (enc : TypeId × Value → H) :
    ReturnsInHanded {} Try.checked os 6 .any (Rows.runsBackSpec.pre6 enc Try.prog Try.f6 Rows.runsBackRow.domain false) (Rows.runsBackSpec.post enc Try.prog Try.f6 false true false false) := by
  refine returnsInHanded_of_change (C := Try.checked) own started (by kernel_rfl) Try.func6
    (ChangeSpec.witness6 (enc := enc) (C := Try.checked) false ⟨#[], #[.slice none 0 0], []⟩ 8 (by kernel_rfl) (by kernel_rfl) (by kernel_rfl) (by kernel_rfl)) ?_
  intro W base args ds gs before hval0 hW _ _
  have hval : ∀ (j : Nat) t v, Try.f6.params[j]? = some t → args[j]? = some v → Value.okWide Try.prog W .any base t v := hval0
  have hW' := hW
  obtain ⟨p, q, hA0, hV, rfl, _, _⟩ := hW
  have hA : DataW.TrodAll enc Try.prog W 0 (fun _ => true) true Try.f6.params.toList args.toList ds p := hA0
  rw [Try.params6] at hA hval
  obtain ⟨v0, vs0, d0, ds0, p0, q0, hargs, rfl, rfl, h0, r0⟩ := trodAll_cons hA
  obtain ⟨rfl, rfl, rfl⟩ := trodAll_nil r0
  obtain rfl : args = #[v0] := by cases args; simp_all
  obtain ⟨rfl, rfl⟩ := trodVars_none hV
  have k0 := h0
  have lt0 : ∀ x ∈ p0, x.block < W.heap.size := by obtain ⟨m, hm⟩ := k0; exact DataW.trod_lt m _ _ _ hm
  obtain ⟨A0, len0, cap0, rfl⟩ := okWide_slice Try.underlying23 (hval 0 23 v0 rfl rfl)
  obtain ⟨f0, hr0⟩ := open_byr h0
  clear hA0 hval0
  refine (back10_law A0 len0 cap0 f0 W hr0).mono fun e W' ⟨he, bel⟩ => ?_
  subst he
  exact ⟨_, rfl, _, _, _, [], _, [], hW', trodAll_mk1 (shut_bool Try.underlying4 _), (trodAll_cons_mk (Below.trod laidOut (by kernel_rfl) (of_decide_eq_true (by kernel_rfl)) k0 bel lt0) trodAll_mk0), rfl, bel.frame _, fun h => by cases h⟩
theorem back10_law_holds : Rows.RunsBackSaid :=
  OpenClaim.holds_of_wide 6 Try.f6 rfl rfl rfl rfl rfl rfl rfl ⟨rfl, rfl, rfl, rfl, rfl⟩ rfl rfl rfl rfl rfl (by kernel_rfl) Try.func6 (by kernel_rfl)
    (of_decide_eq_true (by kernel_rfl)) (by unfold Func.isWrapper; first | (rw [if_pos (by decide +kernel)]; kernel_rfl) | (rw [if_neg (by decide +kernel)]; exact ⟨rfl, rfl⟩))
    (fun os started H enc _ => back10_law_lifted os started H enc)
#print axioms back10_law_holds
end Go.Proofs.Ytgkbnmknlmapdaa
