/-
  For every lengths and limit: the law CanonCodes returns true, and its arguments read as they did. No condition beside the statement's own.
-/
import Derived.Test.YtghaffclincpnaaCanonImpl
namespace Go.Proofs.Ytghaffclincpnaa
open Go.RowKit Go.ChangeShapes Go.WideShapes Go.ChangeAt
def AnyC (w : World) (A : Option Addr) (n : Nat) : Prop := 0 < n → ∃ g x l, A = some ⟨g, 0, none⟩ ∧ RowC w g n x l
theorem OutC.any {base n : Nat} {w : World} {A : Option Addr} {x l : Nat → Nat} (h : OutC base w A n x l) : AnyC w A n := fun hn => by
  rcases h with rfl | ⟨g, rfl, _, hr⟩
  · omega
  · exact ⟨g, x, l, rfl, hr⟩
theorem OutC.in_ {base n g : Nat} {w : World} {A : Option Addr} {x l : Nat → Nat} (h : OutC base w A n x l) (hn : 0 < n) (hA : A = some ⟨g, 0, none⟩) : base ≤ g ∧ g < w.heap.size := by
  rcases h with rfl | ⟨g', h1, h2, hr⟩
  · omega
  · rw [hA] at h1; injection h1 with h1; injection h1 with h1; subst h1; exact ⟨h2, hr.lt⟩
theorem OutC.other {base n : Nat} {w : World} {A : Option Addr} {x l : Nat → Nat} (h : OutC base w A n x l) {p : Addr} (hp : p.block < base) (u : Value) : OutC base (w.setCell p u) A n x l := by
  rcases h with rfl | ⟨g, rfl, hg, hr⟩
  · exact .inl rfl
  · exact .inr ⟨g, rfl, hg, hr.other (by omega) u⟩
set_option maxRecDepth 100000 in
set_option maxHeartbeats 2000000 in
theorem codes_walk (A : Option Addr) (n c : Nat) (f : Nat → Nat) (most : Int) (w : World) (hr : RdB w w.heap.size A n f) (hA : A = none → c = 0) (hn : n ≤ 1000) :
    Calls Try.prog 4 #[.slice A n c, .int .i64 most] w fun e w' => e = .returned (.bool true) ∧ Below w.heap.size w w' := by
  obtain ⟨Ao, co, w1, hrun, _, hb1, ho1⟩ := run_twin w _ A n c f hr (by omega) 23 hA
  have HRUN := Lib.hid hrun; have HR := Lib.hid hr; have HO := Lib.hid ho1; have HB1 := Lib.hid hb1
  have hs1 : w.heap.size ≤ w1.heap.size := hb1.size
  obtain ⟨E, hE⟩ : ∃ E, E = checkE f n most := ⟨_, rfl⟩
  obtain ⟨L, hL⟩ : ∃ L, L = lenC f n most := ⟨_, rfl⟩
  have hLn : L ≤ n := by rw [hL]; unfold lenC; split <;> omega
  have hnn : (E != E) = false := by simp
  have hee : (E == E) = true := by simp
  have HE := Lib.hid hE; have HL := Lib.hid hL
  have hf := hr.1
  have HF := Lib.hid hf
  clear hrun hb1 ho1 hr hA hE hL hf
  have hd : decide ((1000 : Int) < (n : Int)) = false := by simp; omega
  go_enter Try.func4, Try.ntmps4
  go_wp2_with (at_builtin; refine wpList_append_run rfl (.const (.slice none 0 0)) (.tmp 16) 23 rfl (.slice none 0 0) (.slice A n c) (.slice Ao n co) w1 rfl rfl HRUN.out ?_)
  refine (codes_any w1 Ao n co f most HO.out (by omega)).mono ?_
  rintro e w2 ⟨Ax, cx, rfl, hb2, hx2⟩
  rw [← HE.out, ← HL.out]
  rw [← HL.out] at hx2
  have HB2 := Lib.hid (HB1.out.trans (hb2.mono hs1)); have HX2 := Lib.hid hx2
  have HO2 := Lib.hid (HO.out.below hb2 (Nat.le_refl _))
  have hs2 : w1.heap.size ≤ w2.heap.size := hb2.size
  clear hb2 hx2
  go_wp2_with fail
  refine (rcodes_any w2 A n c f most ((HR.out.below HB2.out (Nat.le_refl _)).more (by omega))).mono ?_
  rintro e w3 ⟨Ay, cy, rfl, hb3, hy3⟩
  rw [← HE.out, ← HL.out]
  rw [← HL.out] at hy3
  have HB3 := Lib.hid (HB2.out.trans (hb3.mono (by omega))); have HY3 := Lib.hid hy3
  have HX3 := Lib.hid (HX2.out.below hb3 (Nat.le_refl _))
  have HO3 := Lib.hid (HO2.out.below hb3 hs2)
  have HB13 := Lib.hid (hb3.mono (B' := w2.heap.size) (Nat.le_refl _))
  have hs3 : w2.heap.size ≤ w3.heap.size := hb3.size
  clear hb3 hy3
  go_wp2_with fail
  refine (same_yes w3 w3.heap.size Ax Ay L cx cy (codeX f n most) f (HX3.out.rd (codeX_lt f n most) HF.out) (HY3.out.rd (codeX_lt f n most) HF.out) (Nat.le_refl _) (by omega)).mono ?_
  rintro e w4 ⟨rfl, hb4⟩
  have HB4 := Lib.hid (HB3.out.trans (hb4.mono (by omega)))
  have HX4 := Lib.hid (HX3.out.below hb4 (Nat.le_refl _)); have HY4 := Lib.hid (HY3.out.below hb4 (Nat.le_refl _))
  have HO4 := Lib.hid (HO3.out.below hb4 (by omega))
  have hs4 : w3.heap.size ≤ w4.heap.size := hb4.size
  clear hb4
  go_wp2_with fail
  refine (check_any w4 Ao n co f most (HO4.out.more (by omega)) (by omega)).mono ?_
  rintro e w5 ⟨rfl, hb5⟩
  rw [← HE.out]
  have HB5 := Lib.hid (HB4.out.trans (hb5.mono (by omega)))
  have HX5 := Lib.hid (HX4.out.below hb5 (Nat.le_refl _)); have HY5 := Lib.hid (HY4.out.below hb5 (Nat.le_refl _))
  have HO5 := Lib.hid (HO4.out.below hb5 (by omega))
  have hs5 : w4.heap.size ≤ w5.heap.size := hb5.size
  clear hb5
  have hst1 := run_str HO5.out co
  have hst2 := run_str (HR.out.below HB5.out (Nat.le_refl _)) c
  go_wp2_with fail
  refine (rcheck_any w5 _ A n c f most (HR.out.below HB5.out (Nat.le_refl _))).mono ?_
  rintro e w6 ⟨rfl, rfl⟩
  rw [← HE.out]
  go_wp2
  clear hst1 hst2 hd
  go_loopw [10] (fun i wr => ∃ j : Nat, j ≤ L ∧ i = .int .i64 j ∧ AnyC wr Ax L ∧ OutC w2.heap.size wr Ay L (codeX f n most) f ∧ Below w1.heap.size w5 wr) (fun i _ => L - (intOf i).toNat)
  case atStart => exact ⟨0, Nat.zero_le _, rfl, HX5.out.any, HY5.out, Below.refl _ _⟩
  case round =>
    obtain ⟨j, hj, rfl, hany, hy, hb⟩ := hrel
    by_cases hlt : j < L
    · obtain ⟨g, x, l, rfl, hrow⟩ := hany (by omega)
      obtain ⟨hg1, hg2⟩ := HX2.out.in_ (by omega) rfl
      have hc1 := (hrow.cell hlt).1
      have hc2 := (hrow.cell hlt).2
      have hf1 := hrow.frozen (j * 2)
      have hf2 := hrow.frozen (j * 2 + 1)
      have HROW := Lib.hid hrow; have HY := Lib.hid hy; have HB := Lib.hid hb
      clear hrow hy hb hany
      go_wp2
      go_roundw
      case rel =>
        refine ⟨j + 1, by omega, by go_num, fun _ => ⟨g, _, _, rfl, HROW.out.set j 77 77⟩, (HY.out.other hg2 _).other hg2 _, (HB.out.setCell hg1 _).setCell hg1 _⟩
      case measure => simp [intOf]; omega
    · obtain rfl : j = L := by omega
      obtain ⟨w6, rfl⟩ : ∃ w6 : World, w6 = wr := ⟨_, rfl⟩
      have HB6 := Lib.hid (HB5.out.trans (hb.mono hs1))
      have HO6 := Lib.hid (HO5.out.below hb (Nat.le_refl _))
      have HY6 := Lib.hid hy
      have hs6 : w5.heap.size ≤ w6.heap.size := hb.size
      clear hany hy hb hlt hj
      go_wp2_with fail
      refine (codes_any w6 Ao n co f most (HO6.out.more (by omega)) (by omega)).mono ?_
      rintro e w7 ⟨Az, cz, rfl, hb7, hz7⟩
      rw [← HE.out, ← HL.out]
      rw [← HL.out] at hz7
      have HB7 := Lib.hid (HB6.out.trans (hb7.mono (by omega)))
      have HY7 := Lib.hid (HY6.out.below hb7 (Nat.le_refl _)); have HZ7 := Lib.hid hz7
      have hs7 : w6.heap.size ≤ w7.heap.size := hb7.size
      clear hb7 hz7
      go_wp2_with fail
      refine (same_yes w7 w7.heap.size Az Ay j cz cy (codeX f n most) f (HZ7.out.rd (codeX_lt f n most) HF.out) (HY7.out.rd (codeX_lt f n most) HF.out) (Nat.le_refl _) (by omega)).mono ?_
      rintro e w8 ⟨rfl, hb8⟩
      have HB8 := Lib.hid (HB7.out.trans (hb8.mono (by omega)))
      clear hb8
      go_wp2
      go_ret
      exact ⟨rfl, HB8.out⟩
theorem codes_law (A : Option Addr) (n c : Nat) (f : Nat → Nat) (most : Int) (w : World) (hr : RdB w w.heap.size A n f) (hA : A = none → c = 0) (_h0 : -9223372036854775808 ≤ most) (_h1 : most ≤ 9223372036854775807) :
    Calls Try.prog 4 #[.slice A n c, .int .i64 most] w fun e w' => e = .returned (.bool true) ∧ Below w.heap.size w w' := by
  by_cases h : n ≤ 1000
  · exact codes_walk A n c f most w hr hA h
  · have hlt : 1000 < n := by omega
    clear h
    go_enter Try.func4, Try.ntmps4
    go_wp2
    go_ret
    exact ⟨rfl, Below.refl _ _⟩
-- LAW
set_option maxRecDepth 100000 in
theorem codes_law_lifted (os : Os) (started : os.Started) (H : Type) (enc : TypeId × Value → H) :
    ReturnsInHanded {} Try.checked os 4 .any (Rows.canonCodesSpec.pre6 enc Try.prog Try.f4 Rows.canonCodesRow.domain false) (Rows.canonCodesSpec.post enc Try.prog Try.f4 false true false false) := by
  refine returnsInHanded_of_change (C := Try.checked) own started (by kernel_rfl) Try.func4
    (ChangeSpec.witness6 (enc := enc) (C := Try.checked) false ⟨#[], #[.slice none 0 0, .int .i64 0], []⟩ 8 (by kernel_rfl) (by kernel_rfl) (by kernel_rfl) (by kernel_rfl)) ?_
  intro W base args ds gs before hval0 hW _ _
  have hval : ∀ (j : Nat) t v, Try.f4.params[j]? = some t → args[j]? = some v → Value.okWide Try.prog W .any base t v := hval0
  have hW' := hW
  obtain ⟨p, q, hA0, hV, rfl, _, _⟩ := hW
  have hA : DataW.TrodAll enc Try.prog W 0 (fun _ => true) true Try.f4.params.toList args.toList ds p := hA0
  rw [Try.params4] at hA hval
  obtain ⟨v0, vs0, d0, ds0, p0, q0, hargs, rfl, rfl, h0, r0⟩ := trodAll_cons hA
  obtain ⟨v1, vs1, d1, ds1, p1, q1, rfl, rfl, rfl, h1, r1⟩ := trodAll_cons r0
  obtain ⟨rfl, rfl, rfl⟩ := trodAll_nil r1
  obtain rfl : args = #[v0, v1] := by cases args; simp_all
  obtain ⟨rfl, rfl⟩ := trodVars_none hV
  have k0 := h0
  have lt0 : ∀ x ∈ p0, x.block < W.heap.size := by obtain ⟨m, hm⟩ := k0; exact DataW.trod_lt m _ _ _ hm
  obtain ⟨A0, len0, cap0, rfl⟩ := okWide_slice Try.underlying23 (hval 0 23 v0 rfl rfl)
  obtain ⟨f0, hr0, hn0, hl0, hm0⟩ := open_bytes h0
  have k1 := h1
  have lt1 : ∀ x ∈ p1, x.block < W.heap.size := by obtain ⟨m, hm⟩ := k1; exact DataW.trod_lt m _ _ _ hm
  obtain ⟨a1, rfl, rfl, rfl, w1⟩ := open_int Try.underlying3 (hval 1 3 v1 rfl rfl) h1
  have u1 := wf_i64_range w1
  clear hA0 hval0
  refine (codes_law A0 len0 cap0 f0 a1 W hr0 hn0 u1.1 u1.2).mono fun e W' ⟨he, bel⟩ => ?_
  subst he
  exact ⟨_, rfl, _, _, _, [], _, [], hW', trodAll_mk1 (shut_bool Try.underlying4 _), (trodAll_cons_mk (Below.trod laidOut (by kernel_rfl) (of_decide_eq_true (by kernel_rfl)) k0 bel lt0) (trodAll_cons_mk (Below.trod laidOut (by kernel_rfl) (of_decide_eq_true (by kernel_rfl)) k1 bel lt1) trodAll_mk0)), rfl, bel.frame _, fun h => by cases h⟩
theorem codes_law_holds : Rows.CanonCodesSaid :=
  OpenClaim.holds_of_wide 4 Try.f4 rfl rfl rfl rfl rfl rfl rfl ⟨rfl, rfl, rfl, rfl, rfl⟩ rfl rfl rfl rfl rfl (by kernel_rfl) Try.func4 (by kernel_rfl)
    (of_decide_eq_true (by kernel_rfl)) (by unfold Func.isWrapper; first | (rw [if_pos (by decide +kernel)]; kernel_rfl) | (rw [if_neg (by decide +kernel)]; exact ⟨rfl, rfl⟩))
    (fun os started H enc _ => codes_law_lifted os started H enc)
#print axioms codes_law_holds
end Go.Proofs.Ytghaffclincpnaa
