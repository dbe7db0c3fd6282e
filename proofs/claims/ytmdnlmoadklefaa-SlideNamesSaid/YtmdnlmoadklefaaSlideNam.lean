/-
  The law SlideNames returns true: the chapter's examples of windows and copies are so. No condition.
-/
import Derived.Test.YtmdnlmoadklefaaSlideWin
import Derived.Test.YtmdnlmoadklefaaSlideOpn
import Derived.Deep.DeepCutAuto
import Derived.BigRegion
import Derived.Lib.SmallJoins
namespace Go.Proofs.Ytmdnlmoadklefaa
open Go.RowKit Go.ChangeShapes Go.WideShapes Go.ChangeAt Go.Joins
theorem str_cccc : strB 4 (copF 3 abcN 1) = ⟨#[99, 99, 99, 99]⟩ := by decide +kernel
theorem str_abc (f : Nat → Nat) (h : f = inF 4 3 abcN 0 (copF 3 abcN 3)) : strB 3 f = ⟨#[97, 98, 99]⟩ := by rw [h]; decide +kernel
/-- What the chapter's window answers to a copy, and what stands behind it: a block for the window that comes back. -/
theorem copy_abc (w : World) (A : Option Addr) (c : Nat) (hr : ByR w w.heap.size A 3 c abcN) (X : Nat) (hX : WinAt w X 4 A 3 c) (d k : Int) (hd1 : -9223372036854775808 ≤ d) (hd2 : d ≤ 9223372036854775807) (hk1 : -9223372036854775808 ≤ k) (hk2 : k ≤ 9223372036854775807) (E : Int) (hE : copyE 4 3 d k = E) :
    Calls Try.prog 8 #[.agg #[.int .i64 4, .slice A 3 c], .int .i64 d, .int .i64 k] w fun e w' => ∃ S' A' l' c' F' B' k' b' G', e = .returned (.tuple #[.agg #[.int .i64 S', .slice A' l' c'], .slice B' k' b', .int .i64 E]) ∧ ByR w' w'.heap.size A' l' c' F' ∧ ByR w' w'.heap.size B' k' b' G' ∧
      (if E = 0 then S' = 4 ∧ l' = inN 4 3 k.toNat ∧ F' = inF 4 3 abcN k.toNat (copF 3 abcN d.toNat) ∧ k' = k.toNat ∧ G' = copF 3 abcN d.toNat else S' = 0 ∧ l' = 0 ∧ k' = 0) ∧ ByR w' w'.heap.size A 3 c abcN ∧ WinAt w' X 4 A 3 c ∧ Below w.heap.size w w' := by
  refine (scopy_any w 4 A 3 c abcN hr (by omega) (by omega) d k hd1 hd2 hk1 hk2).mono ?_
  rintro e w' ⟨⟨S', A', l', c', F', B', k', b', G', rfl, hx, hy, -, -, ho⟩, hb⟩
  subst hE
  exact ⟨S', A', l', c', F', B', k', b', G', rfl, hx, hy, ho, (hr.below hb (Nat.le_refl _)).more hb.size, hX.below hb hX.lt, hb⟩
set_option maxRecDepth 100000 in
set_option maxHeartbeats 8000000 in
theorem names6_law (w : World) : Calls Try.prog 3 #[] w fun e w' => e = .returned (.bool true) ∧ Below w.heap.size w w' := by
  have HAB := Lib.hid (abc_any w)
  go_enter Try.func3, Try.ntmps3
  go_wp2_with fail
  refine HAB.out.mono ?_
  rintro e w0 ⟨A, c, rfl, hby, hb0⟩
  obtain ⟨W0, hW0⟩ : ∃ W, W = w0.alloc (.cells #[.int .i64 4, .slice A 3 c] 24) := ⟨_, rfl⟩
  have hz0 : Below w0.heap.size w0 W0 := by rw [hW0]; exact (Below.refl _ _).alloc (Nat.le_refl _) _
  have hx0 : WinAt W0 w0.heap.size 4 A 3 c := by rw [hW0]; exact WinAt.new w0 _ _ _ _
  have HB0 := Lib.hid (hb0.trans (hz0.mono hb0.size)); have HR0 := Lib.hid ((hby.below hz0 (Nat.le_refl _)).more hz0.size); have HX0 := Lib.hid hx0
  have HW0 := Lib.hid hW0
  obtain ⟨X, hX⟩ : ∃ X, X = w0.heap.size := ⟨_, rfl⟩
  rw [← hX] at HX0
  have HXX := Lib.hid hX
  clear hby hb0 hW0 hz0 hx0 hX HAB
  have HC1 := Lib.hid (copy_abc W0 A c HR0.out X HX0.out 1 4 (by omega) (by omega) (by omega) (by omega) 0 (by rfl))
  go_wp2_with fail
  rw [← HW0.out]
  try rw [← HXX.out]
  refine HC1.out.mono ?_
  rintro e w1 ⟨S1, A1, l1, c1, F1, B1, k1, b1, G1, rfl, hx1, hy1, ho1, hr1, hX1, hb1⟩
  rw [if_pos (by decide)] at ho1
  obtain ⟨rfl, hl1, hF1, hk1, hG1⟩ := ho1
  have hl1' : l1 = 4 := by rw [hl1]; rfl
  have hk1' : k1 = 4 := by rw [hk1]; rfl
  clear hl1 hk1; subst l1; subst k1
  obtain ⟨W1, hW1⟩ : ∃ W, W = w1.alloc (.cells #[.int .i64 4, .slice A1 4 c1] 24) := ⟨_, rfl⟩
  have hz1 : Below w1.heap.size w1 W1 := by rw [hW1]; exact (Below.refl _ _).alloc (Nat.le_refl _) _
  have hv1 : Below W0.heap.size W0 W1 := hb1.trans (hz1.mono hb1.size)
  have HB1 := Lib.hid (HB0.out.trans (hv1.mono HB0.out.size)); have HR1 := Lib.hid ((hr1.below hz1 (Nat.le_refl _)).more hz1.size); have HX1 := Lib.hid (hX1.below hz1 hX1.lt); have HW1 := Lib.hid hW1
  have HSA1 := Lib.hid ((hy1.below hz1 (Nat.le_refl _)).more hz1.size); have HGA := Lib.hid hG1
  have m11 := hX1.size; have m12 := hX1.bytes; have m13 := hX1.lt
  clear hx1 hy1 hr1 hX1 hb1 hW1 hz1 hv1 HB0 HR0 HX0 HC1 hF1 hG1
  have HC2 := Lib.hid (copy_abc W1 A c HR1.out X HX1.out 3 0 (by omega) (by omega) (by omega) (by omega) 0 (by rfl))
  go_wp2_with fail
  rw [← HW1.out]
  refine HC2.out.mono ?_
  rintro e w2 ⟨S2, A2, l2, c2, F2, B2, k2, b2, G2, rfl, hx2, hy2, ho2, hr2, hX2, hb2⟩
  rw [if_pos (by decide)] at ho2
  obtain ⟨rfl, hl2, hF2, hk2, hG2⟩ := ho2
  have hl2' : l2 = 3 := by rw [hl2]; rfl
  have hk2' : k2 = 0 := by rw [hk2]; rfl
  clear hl2 hk2; subst l2; subst k2
  obtain ⟨W2, hW2⟩ : ∃ W, W = w2.alloc (.cells #[.int .i64 4, .slice A2 3 c2] 24) := ⟨_, rfl⟩
  have hz2 : Below w2.heap.size w2 W2 := by rw [hW2]; exact (Below.refl _ _).alloc (Nat.le_refl _) _
  have hv2 : Below W1.heap.size W1 W2 := hb2.trans (hz2.mono hb2.size)
  have HB2 := Lib.hid (HB1.out.trans (hv2.mono HB1.out.size)); have HR2 := Lib.hid ((hr2.below hz2 (Nat.le_refl _)).more hz2.size); have HX2 := Lib.hid (hX2.below hz2 hX2.lt); have HW2 := Lib.hid hW2
  have HSA2 := Lib.hid ((HSA1.out.below hv2 (Nat.le_refl _)).more hv2.size)
  have HSX2 := Lib.hid ((hx2.below hz2 (Nat.le_refl _)).more hz2.size); have HFX := Lib.hid hF2
  have HXB2 := Lib.hid (show WinAt W2 w2.heap.size 4 A2 3 c2 by rw [hW2]; exact WinAt.new w2 _ _ _ _)
  have m21 := hX2.size; have m22 := hX2.bytes; have m23 := hX2.lt
  clear hx2 hy2 hr2 hX2 hb2 hW2 hz2 hv2 HB1 HR1 HX1 HC2 HSA1 hF2 hG2 m11 m12 m13
  have HC3 := Lib.hid (copy_abc W2 A c HR2.out X HX2.out 4 3 (by omega) (by omega) (by omega) (by omega) 60 (by rfl))
  go_wp2_with fail
  rw [← HW2.out]
  refine HC3.out.mono ?_
  rintro e w3 ⟨S3, A3, l3, c3, F3, B3, k3, b3, G3, rfl, hx3, hy3, ho3, hr3, hX3, hb3⟩
  rw [if_neg (by decide)] at ho3
  obtain ⟨rfl, rfl, rfl⟩ := ho3
  obtain ⟨W3, hW3⟩ : ∃ W, W = w3.alloc (.cells #[.int .i64 0, .slice A3 0 c3] 24) := ⟨_, rfl⟩
  have hz3 : Below w3.heap.size w3 W3 := by rw [hW3]; exact (Below.refl _ _).alloc (Nat.le_refl _) _
  have hv3 : Below W2.heap.size W2 W3 := hb3.trans (hz3.mono hb3.size)
  have HB3 := Lib.hid (HB2.out.trans (hv3.mono HB2.out.size)); have HR3 := Lib.hid ((hr3.below hz3 (Nat.le_refl _)).more hz3.size); have HX3 := Lib.hid (hX3.below hz3 hX3.lt); have HW3 := Lib.hid hW3
  have HSA3 := Lib.hid ((HSA2.out.below hv3 (Nat.le_refl _)).more hv3.size)
  have HSX3 := Lib.hid ((HSX2.out.below hv3 (Nat.le_refl _)).more hv3.size)
  have HXB3 := Lib.hid (HXB2.out.below hv3 HXB2.out.lt)
  have m31 := hX3.size; have m32 := hX3.bytes; have m33 := hX3.lt
  clear hx3 hy3 hr3 hX3 hb3 hW3 hz3 hv3 HB2 HR2 HX2 HC3 HSA2 HSX2 HXB2 m21 m22 m23
  have HC4 := Lib.hid (copy_abc W3 A c HR3.out X HX3.out 0 3 (by omega) (by omega) (by omega) (by omega) 2 (by rfl))
  go_wp2_with fail
  rw [← HW3.out]
  refine HC4.out.mono ?_
  rintro e w4 ⟨S4, A4, l4, c4, F4, B4, k4, b4, G4, rfl, hx4, hy4, ho4, hr4, hX4, hb4⟩
  rw [if_neg (by decide)] at ho4
  obtain ⟨rfl, rfl, rfl⟩ := ho4
  obtain ⟨W4, hW4⟩ : ∃ W, W = w4.alloc (.cells #[.int .i64 0, .slice A4 0 c4] 24) := ⟨_, rfl⟩
  have hz4 : Below w4.heap.size w4 W4 := by rw [hW4]; exact (Below.refl _ _).alloc (Nat.le_refl _) _
  have hv4 : Below W3.heap.size W3 W4 := hb4.trans (hz4.mono hb4.size)
  have HB4 := Lib.hid (HB3.out.trans (hv4.mono HB3.out.size)); have HR4 := Lib.hid ((hr4.below hz4 (Nat.le_refl _)).more hz4.size); have HX4 := Lib.hid (hX4.below hz4 hX4.lt); have HW4 := Lib.hid hW4
  have HSA4 := Lib.hid ((HSA3.out.below hv4 (Nat.le_refl _)).more hv4.size)
  have HSX4 := Lib.hid ((HSX3.out.below hv4 (Nat.le_refl _)).more hv4.size)
  have HXB4 := Lib.hid (HXB3.out.below hv4 HXB3.out.lt)
  have m41 := hX4.size; have m42 := hX4.bytes; have m43 := hX4.lt
  clear hx4 hy4 hr4 hX4 hb4 hW4 hz4 hv4 HB3 HR3 HX3 HC4 HSA3 HSX3 HXB3 m31 m32 m33
  have HC5 := Lib.hid (copy_abc W4 A c HR4.out X HX4.out 1 259 (by omega) (by omega) (by omega) (by omega) 2 (by rfl))
  go_wp2_with fail
  rw [← HW4.out]
  refine HC5.out.mono ?_
  rintro e w5 ⟨S5, A5, l5, c5, F5, B5, k5, b5, G5, rfl, hx5, hy5, ho5, hr5, hX5, hb5⟩
  rw [if_neg (by decide)] at ho5
  obtain ⟨rfl, rfl, rfl⟩ := ho5
  obtain ⟨W5, hW5⟩ : ∃ W, W = w5.alloc (.cells #[.int .i64 0, .slice A5 0 c5] 24) := ⟨_, rfl⟩
  have hz5 : Below w5.heap.size w5 W5 := by rw [hW5]; exact (Below.refl _ _).alloc (Nat.le_refl _) _
  have hv5 : Below W4.heap.size W4 W5 := hb5.trans (hz5.mono hb5.size)
  have HB5 := Lib.hid (HB4.out.trans (hv5.mono HB4.out.size)); have HR5 := Lib.hid ((hr5.below hz5 (Nat.le_refl _)).more hz5.size); have HX5 := Lib.hid (hX5.below hz5 hX5.lt); have HW5 := Lib.hid hW5
  have HSA5 := Lib.hid ((HSA4.out.below hv5 (Nat.le_refl _)).more hv5.size)
  have HSX5 := Lib.hid ((HSX4.out.below hv5 (Nat.le_refl _)).more hv5.size)
  have HXB5 := Lib.hid (HXB4.out.below hv5 HXB4.out.lt)
  have m51 := hX5.size; have m52 := hX5.bytes; have m53 := hX5.lt
  clear hx5 hy5 hr5 hX5 hb5 hW5 hz5 hv5 HB4 HR4 HX4 HC5 HSA4 HSX4 HXB4 m41 m42 m43
  go_wp2_with fail
  rw [← HW5.out]
  refine (snew_any W5 0 (by omega) (by omega)).mono ?_
  rintro e w6 ⟨rfl, hb6⟩
  rw [show newS 0 = 0 from rfl, show newE 0 = 2 from rfl]
  obtain ⟨W6, hW6⟩ : ∃ W, W = w6.alloc (.cells #[.int .i64 0, .slice none 0 0] 24) := ⟨_, rfl⟩
  have hz6 : Below w6.heap.size w6 W6 := by rw [hW6]; exact (Below.refl _ _).alloc (Nat.le_refl _) _
  have hv6 : Below W5.heap.size W5 W6 := hb6.trans (hz6.mono hb6.size)
  have HB6 := Lib.hid (HB5.out.trans (hv6.mono HB5.out.size)); have HW6 := Lib.hid hW6
  have HSA6 := Lib.hid ((HSA5.out.below hv6 (Nat.le_refl _)).more hv6.size)
  have HSX6 := Lib.hid ((HSX5.out.below hv6 (Nat.le_refl _)).more hv6.size)
  have HXB6 := Lib.hid (HXB5.out.below hv6 HXB5.out.lt)
  clear hb6 hW6 hz6 hv6 HB5 HSA5 HSX5 HXB5
  go_wp2_with fail
  rw [← HW6.out]
  refine (snew_any W6 32769 (by omega) (by omega)).mono ?_
  rintro e w7 ⟨rfl, hb7⟩
  rw [show newS 32769 = 0 from rfl, show newE 32769 = 2 from rfl]
  obtain ⟨W7, hW7⟩ : ∃ W, W = w7.alloc (.cells #[.int .i64 0, .slice none 0 0] 24) := ⟨_, rfl⟩
  have hz7 : Below w7.heap.size w7 W7 := by rw [hW7]; exact (Below.refl _ _).alloc (Nat.le_refl _) _
  have hv7 : Below W6.heap.size W6 W7 := hb7.trans (hz7.mono hb7.size)
  have HB7 := Lib.hid (HB6.out.trans (hv7.mono HB6.out.size)); have HW7 := Lib.hid hW7
  have HSA7 := Lib.hid ((HSA6.out.below hv7 (Nat.le_refl _)).more hv7.size)
  have HSX7 := Lib.hid ((HSX6.out.below hv7 (Nat.le_refl _)).more hv7.size)
  have HXB7 := Lib.hid (HXB6.out.below hv7 HXB6.out.lt)
  clear hb7 hW7 hz7 hv7 HB6 HSA6 HSX6 HXB6
  go_wp2_with fail
  rw [← HW7.out]
  refine (alive6_any W7).mono ?_
  rintro e w8 ⟨rfl, hb8⟩
  have HB8 := Lib.hid (HB7.out.trans (hb8.mono HB7.out.size))
  have s1 := run_str ((HSA7.out.below hb8 (Nat.le_refl _)).more hb8.size).1 b1
  have s2 := run_str ((HSX7.out.below hb8 (Nat.le_refl _)).more hb8.size).1 c2
  have hxb := HXB7.out.below hb8 HXB7.out.lt
  have x1 := hxb.bytes
  rw [HGA.out, show copF 3 abcN (Int.toNat 1) = copF 3 abcN 1 from rfl, str_cccc] at s1
  rw [str_abc F2 HFX.out] at s2
  have HCK := Lib.hid (schk_any w8 0 none 0 0 (by omega) (by omega))
  rw [show winE 0 0 = 8 from rfl] at HCK
  clear hb8 hxb HSA7 HSX7 HXB7
  go_wp2_with fail
  refine HCK.out.mono ?_
  rintro e w9 ⟨rfl, hb9⟩
  have HB9 := Lib.hid (HB8.out.trans (hb9.mono HB8.out.size))
  clear hb9
  go_wp2
  go_ret
  exact ⟨rfl, HB9.out⟩
-- LAW
set_option maxRecDepth 100000 in
theorem names6_law_lifted (os : Os) (started : os.Started) (H : Type) (enc : TypeId × Value → H) :
    ReturnsInHanded {} Try.checked os 3 .any (Rows.slideNamesSpec.pre6 enc Try.prog Try.f3 Rows.slideNamesRow.domain false) (Rows.slideNamesSpec.post enc Try.prog Try.f3 false true false false) := by
  refine returnsInHanded_of_change (C := Try.checked) own started (by kernel_rfl) Try.func3
    (ChangeSpec.witness6 (enc := enc) (C := Try.checked) false ⟨#[], #[], []⟩ 8 (by kernel_rfl) (by kernel_rfl) (by kernel_rfl) (by kernel_rfl)) ?_
  intro W base args ds gs before hval0 hW _ _
  have hval : ∀ (j : Nat) t v, Try.f3.params[j]? = some t → args[j]? = some v → Value.okWide Try.prog W .any base t v := hval0
  have hW' := hW
  obtain ⟨p, q, hA0, hV, rfl, _, _⟩ := hW
  have hA : DataW.TrodAll enc Try.prog W 0 (fun _ => true) true Try.f3.params.toList args.toList ds p := hA0
  rw [Try.params3] at hA
  obtain ⟨hargs, rfl, rfl⟩ := trodAll_nil hA
  obtain rfl : args = #[] := by cases args; simp_all
  obtain ⟨rfl, rfl⟩ := trodVars_none hV
  clear hA0 hval0
  refine (names6_law W ).mono fun e W' ⟨he, bel⟩ => ?_
  subst he
  exact ⟨_, rfl, _, _, _, [], _, [], hW', trodAll_mk1 (shut_bool Try.underlying4 _), trodAll_mk0, rfl, bel.frame _, fun h => by cases h⟩
theorem names6_law_holds : Rows.SlideNamesSaid :=
  OpenClaim.holds_of_wide 3 Try.f3 rfl rfl rfl rfl rfl rfl rfl ⟨rfl, rfl, rfl, rfl, rfl⟩ rfl rfl rfl rfl rfl (by kernel_rfl) Try.func3 (by kernel_rfl)
    (of_decide_eq_true (by kernel_rfl)) (by unfold Func.isWrapper; first | (rw [if_pos (by decide +kernel)]; kernel_rfl) | (rw [if_neg (by decide +kernel)]; exact ⟨rfl, rfl⟩))
    (fun os started H enc _ => names6_law_lifted os started H enc)
#print axioms names6_law_holds
end Go.Proofs.Ytmdnlmoadklefaa
