/-
  The law SlideOn, for every window and two texts, returns true: bytes in two parts go in as at once. No condition beside the statement's own.
-/
import Derived.Test.YtmdnlmoadklefaaSlideWin
import Derived.Test.YtmdnlmoadklefaaSlideOpn
import Derived.Deep.DeepCutAuto
import Derived.BigRegion
import Derived.Lib.SmallJoins
namespace Go.Proofs.Ytmdnlmoadklefaa
open Go.RowKit Go.ChangeShapes Go.WideShapes Go.ChangeAt Go.Joins
set_option maxRecDepth 100000 in
set_option maxHeartbeats 8000000 in
theorem on6_law (S : Int) (A : Option Addr) (n c : Nat) (f : Nat → Nat) (A2 : Option Addr) (l c2 : Nat) (fa : Nat → Nat) (A3 : Option Addr) (m c3 : Nat) (fb : Nat → Nat) (w : World) (hr : ByR w w.heap.size A n c f) (h1 : -9223372036854775808 ≤ S) (h2 : S ≤ 9223372036854775807)
    (hra : ByR w w.heap.size A2 l c2 fa) (hrb : ByR w w.heap.size A3 m c3 fb) :
    Calls Try.prog 4 #[.agg #[.int .i64 S, .slice A n c], .slice A2 l c2, .slice A3 m c3] w fun e w' => e = .returned (.bool true) ∧ Below w.heap.size w w' := by
  have HB0 := Lib.hid ((Below.refl w.heap.size w).alloc (Nat.le_refl _) (.cells #[.int .i64 S, .slice A n c] 24))
  have HW0 := Lib.hid (WinAt.new w S A n c)
  have HAL := Lib.hid (alive6_any (w.alloc (.cells #[.int .i64 S, .slice A n c] 24)))
  have HR := Lib.hid hr; have HRA := Lib.hid hra; have HRB := Lib.hid hrb
  clear hr hra hrb
  go_enter Try.func4, Try.ntmps4
  go_wp2_with fail
  refine HAL.out.mono ?_
  rintro e w1 ⟨rfl, hb1⟩
  have HW1 := Lib.hid (HW0.out.below hb1 HW0.out.lt)
  have HB1 := Lib.hid (HB0.out.trans (hb1.mono HB0.out.size))
  have a1 := HW1.out.size; have a2 := HW1.out.bytes; have a3 := HW1.out.lt
  clear hb1 HAL HW0
  by_cases hn1 : 10000 < n
  · have hd : decide (10000 < (n : Int)) = true := by simp; omega
    go_wp2
    go_ret
    exact ⟨rfl, HB1.out⟩
  have hd : decide (10000 < (n : Int)) = false := by simp; omega
  by_cases hn2 : 10000 < l
  · have hd2 : decide (10000 < (l : Int)) = true := by simp; omega
    go_wp2
    go_ret
    exact ⟨rfl, HB1.out⟩
  have hd2 : decide (10000 < (l : Int)) = false := by simp; omega
  by_cases hn3 : 10000 < m
  · have hd3 : decide (10000 < (m : Int)) = true := by simp; omega
    go_wp2
    go_ret
    exact ⟨rfl, HB1.out⟩
  have hd3 : decide (10000 < (m : Int)) = false := by simp; omega
  obtain ⟨Aa, ca, wa, Ab, cb, wb, hrun1, hrun2, hb2, hby⟩ := both_rows w1 A2 l c2 fa A3 m c3 fb ((HRA.out.below HB1.out (Nat.le_refl _)).more HB1.out.size) ((HRB.out.below HB1.out (Nat.le_refl _)).more HB1.out.size) (by omega) (by omega)
  obtain ⟨L, hL⟩ : ∃ L, L = l + m := ⟨_, rfl⟩
  rw [← hL] at hrun2 hby
  have hL2 : L ≤ 20000 := by omega
  have HRUN1 := Lib.hid hrun1; have HRUN2 := Lib.hid hrun2; have HBY := Lib.hid hby; have HL := Lib.hid hL
  have HB2 := Lib.hid (HB1.out.trans (hb2.mono HB1.out.size)); have HW2 := Lib.hid (HW1.out.below hb2 a3)
  have b1 := HW2.out.size; have b2 := HW2.out.bytes; have b3 := HW2.out.lt
  have HPX := Lib.hid (spush_any wb S A n c f ((HR.out.below HB2.out (Nat.le_refl _)).more HB2.out.size) h1 h2 Ab L cb _ hby)
  clear hrun1 hrun2 hby hL hb2
  have tok1 : True := trivial
  go_wp2_with (first
    | (at_builtin; have _t := tok1; refine wpList_append_run rfl (.const (.slice none 0 0)) (.tmp 36) 22 rfl (.slice none 0 0) (.slice A2 l c2) (.slice Aa l ca) wa rfl rfl HRUN1.out ?_; clear tok1)
    | (at_builtin; refine wpList_append_run rfl (.tmp 37) (.tmp 38) 22 rfl (.slice Aa l ca) (.slice A3 m c3) (.slice Ab L cb) wb rfl rfl HRUN2.out ?_))
  refine HPX.out.mono ?_
  rintro e w3 ⟨⟨S3, A4, l3, c4, F3, rfl, hx3, -, ho3⟩, hb3⟩
  rw [pushE_small (by omega)] at ho3 ⊢
  obtain ⟨W4, hW4⟩ : ∃ W, W = w3.alloc (.cells #[.int .i64 S3, .slice A4 l3 c4] 24) := ⟨_, rfl⟩
  have hz4 : Below w3.heap.size w3 W4 := by rw [hW4]; exact (Below.refl _ _).alloc (Nat.le_refl _) _
  have hX4 : WinAt W4 w3.heap.size S3 A4 l3 c4 := by rw [hW4]; exact WinAt.new w3 _ _ _ _
  have hb24 : Below wb.heap.size wb W4 := hb3.trans (hz4.mono hb3.size)
  have HB4 := Lib.hid (HB2.out.trans (hb24.mono HB2.out.size)); have HW4' := Lib.hid (HW2.out.below hb24 b3); have HX4 := Lib.hid hX4; have HW4 := Lib.hid hW4
  have HF3 := Lib.hid ho3; have HY3 := Lib.hid ((hx3.below hz4 (Nat.le_refl _)).more hz4.size); have HBY4 := Lib.hid ((HBY.out.below hb24 (Nat.le_refl _)).more hb24.size)
  have HPY := Lib.hid (spush_any W4 S A n c f ((HR.out.below HB4.out (Nat.le_refl _)).more HB4.out.size) h1 h2 A2 l c2 fa ((HRA.out.below HB4.out (Nat.le_refl _)).more HB4.out.size))
  have HV3 := Lib.hid (HW2.out.below hb3 b3)
  have d1 := HV3.out.size; have d2 := HV3.out.bytes; have d3 := HV3.out.lt; have d4 := hX4.lt; have d5 := HW4'.out.lt
  clear HV3 hW4 hz4 hX4 hb24 hb3 hx3 ho3 HPX HRUN1 HRUN2 HW1 HW2 HB1 HB2 HBY
  go_wp2_with fail
  rw [← HW4.out]
  refine HPY.out.mono ?_
  rintro e w5 ⟨⟨S5, A6, l5, c6, F5, rfl, hx5, -, ho5⟩, hb5⟩
  rw [pushE_small (by omega)] at ho5 ⊢
  obtain ⟨W6, hW6⟩ : ∃ W, W = w5.alloc (.cells #[.int .i64 S5, .slice A6 l5 c6] 24) := ⟨_, rfl⟩
  have hz6 : Below w5.heap.size w5 W6 := by rw [hW6]; exact (Below.refl _ _).alloc (Nat.le_refl _) _
  have hX6 : WinAt W6 w5.heap.size S5 A6 l5 c6 := by rw [hW6]; exact WinAt.new w5 _ _ _ _
  have hb46 : Below W4.heap.size W4 W6 := hb5.trans (hz6.mono hb5.size)
  have HB6 := Lib.hid (HB4.out.trans (hb46.mono HB4.out.size)); have HV6 := Lib.hid (HW4'.out.below hb46 d5); have HX6 := Lib.hid (HX4.out.below hb46 d4); have HY6 := Lib.hid hX6; have HW6 := Lib.hid hW6
  have HF5 := Lib.hid ho5; have HR6 := Lib.hid ((HY3.out.below hb46 (Nat.le_refl _)).more hb46.size); have HR5 := Lib.hid ((hx5.below hz6 (Nat.le_refl _)).more hz6.size); have HBY6 := Lib.hid ((HBY4.out.below hb46 (Nat.le_refl _)).more hb46.size)
  have HV5 := Lib.hid (HW4'.out.below hb5 d5)
  have e1 := HV5.out.size; have e2 := HV5.out.bytes; have e3 := HV5.out.lt; have e4 := hX6.lt; have e5 := HV6.out.lt
  clear HV5 hW6 hz6 hX6 hb46 hb5 hx5 ho5 HPY HW4' HX4 HB4 HY3 HBY4
  rcases winE_cases S n with ⟨he, hS1, hS2, hnS⟩ | he
  · obtain ⟨s, rfl⟩ := Int.eq_ofNat_of_zero_le (show 0 ≤ S by omega)
    have q3 := HF3.out; have q5 := HF5.out
    rw [if_pos he, Int.toNat_natCast] at q3 q5
    obtain ⟨g3, hl3, hF3⟩ := q3
    obtain ⟨g5, hl5, hF5⟩ := q5
    subst S3; subst S5
    have hin3 : winE (s : Int) l3 = 0 := by rw [hl3]; have := winE_in (l := L) he; rwa [Int.toNat_natCast] at this
    have hin5 : winE (s : Int) l5 = 0 := by rw [hl5]; have := winE_in (l := l) he; rwa [Int.toNat_natCast] at this
    have hpz := spush_any W6 (s : Int) A6 l5 c6 F5 HR5.out h1 h2 A3 m c3 fb ((HRB.out.below HB6.out (Nat.le_refl _)).more HB6.out.size)
    have HPZ := Lib.hid hpz; have HF3' := Lib.hid hF3; have HF5' := Lib.hid hF5; have HL3 := Lib.hid hl3; have HL5 := Lib.hid hl5; have HE3 := Lib.hid hin3; have HE5 := Lib.hid hin5
    rw [he]
    clear hpz hF3 hF5 hl3 hl5 HF3 HF5 HR5 he hin3 hin5
    go_wp2_with fail
    rw [← HW6.out]
    refine HPZ.out.mono ?_
    rintro e w7 ⟨⟨S7, A8, l7, c8, F7, rfl, hx7, -, ho7⟩, hb7⟩
    rw [pushE_small (by omega), HE5.out] at ho7 ⊢
    rw [if_pos rfl, Int.toNat_natCast] at ho7
    obtain ⟨g7, hl7, hF7⟩ := ho7
    subst S7
    have hl37 : l7 = l3 := by rw [hl7, HL5.out, HL3.out, HL.out, in_two]
    have hstr : strB l7 F7 = strB l3 F3 := by
      rw [hl37]
      unfold strB
      congr 1
      refine List.map_congr_left fun j hj => ?_
      have hj3 : j < inN s n (l + m) := by have := List.mem_range.1 hj; rw [HL3.out, HL.out] at this; exact this
      rw [hF7, HF3'.out, HL.out, HL5.out, HF5'.out, in_twoF hj3]
    obtain ⟨W8, hW8⟩ : ∃ W, W = w7.alloc (.cells #[.int .i64 (s : Int), .slice A8 l7 c8] 24) := ⟨_, rfl⟩
    have hz8 : Below w7.heap.size w7 W8 := by rw [hW8]; exact (Below.refl _ _).alloc (Nat.le_refl _) _
    have hb68 : Below W6.heap.size W6 W8 := hb7.trans (hz8.mono hb7.size)
    have s7 := run_str ((hx7.below hz8 (Nat.le_refl _)).more hz8.size).1 c8
    have s3 := run_str ((HR6.out.below hb68 (Nat.le_refl _)).more hb68.size).1 c4
    rw [hstr] at s7
    obtain ⟨Z, hZ⟩ : ∃ Z, Z = strB l3 F3 := ⟨_, rfl⟩
    rw [← hZ] at s7 s3
    have hss : ((s : Int) != (s : Int)) = false := by simp
    have HZ := Lib.hid hZ; have HW8 := Lib.hid hW8
    have HB8 := Lib.hid (HB6.out.trans (hb68.mono HB6.out.size)); have HV8 := Lib.hid (HV6.out.below hb68 e5); have HX8 := Lib.hid (HX6.out.below hb68 HX6.out.lt)
    have HX7 := Lib.hid (HX6.out.below hb7 HX6.out.lt)
    have HR8 := Lib.hid ((HR6.out.below hb68 (Nat.le_refl _)).more hb68.size); have HBY8 := Lib.hid ((HBY6.out.below hb68 (Nat.le_refl _)).more hb68.size)
    have HCK := Lib.hid (schk_any W8 (s : Int) A4 l3 c4 h1 h2)
    rw [HE3.out] at HCK
    rw [hW8] at s7 s3
    have f1 := HX7.out.size; have f2 := HX7.out.bytes; have f3 := HX7.out.lt
    clear hZ hW8 hz8 hb68 hb7 hx7 hstr hl37 hl7 hF7 HPZ HR6 HBY6 HB6 HV6 HX6 HX7 e1 e2 e3 e4 e5 d1 d2 d3 d4 d5 b1 b2 b3 a1 a2 a3
    go_wp2_with fail
    rw [← HW8.out]
    refine HCK.out.mono ?_
    rintro e w9 ⟨rfl, hb9⟩
    have HB9 := Lib.hid (HB8.out.trans (hb9.mono HB8.out.size)); have HV9 := Lib.hid (HV8.out.below hb9 HV8.out.lt); have HX9 := Lib.hid (HX8.out.below hb9 HX8.out.lt)
    have HR9 := Lib.hid ((HR8.out.below hb9 (Nat.le_refl _)).more hb9.size); have HBY9 := Lib.hid ((HBY8.out.below hb9 (Nat.le_refl _)).more hb9.size)
    clear hb9 HCK HB8 HV8 HX8 HR8 HBY8 f1 f2 f3 s7 s3
    obtain ⟨Ac, cc, wc, Ad, cd, wd, hrun1, hrun2, hbd, hbw⟩ := both_rows w9 A n c f Ab L cb _ ((HR.out.below HB9.out (Nat.le_refl _)).more HB9.out.size) HBY9.out (by omega) (by omega)
    obtain ⟨N, hN⟩ : ∃ N, N = n + L := ⟨_, rfl⟩
    rw [← hN] at hrun2 hbw
    have HRUN1 := Lib.hid hrun1; have HRUN2 := Lib.hid hrun2
    have g1 := HV9.out.size; have g2 := HV9.out.bytes; have g3 := HV9.out.lt
    have HBd := Lib.hid (HB9.out.trans (hbd.mono HB9.out.size)); have HVd := Lib.hid (HV9.out.below hbd g3); have HXd := Lib.hid (HX9.out.below hbd HX9.out.lt)
    have i1 := HVd.out.size; have i3 := HVd.out.lt; have i4 := HXd.out.bytes; have i5 := HXd.out.lt
    have s3 := run_str ((HR9.out.below hbd (Nat.le_refl _)).more hbd.size).drew.1 c4
    rw [← HZ.out] at s3
    have hwh := whole_str hN HL3.out HF3'.out
    rw [← HZ.out] at hwh
    have HBW := Lib.hid hbw.drew; have HN := Lib.hid hN
    have hNle : N ≤ 30000 := by omega
    have hncw := hbw.2.2.1
    have hcm := hbw.2.2.2
    unfold maxLen at hcm
    clear hrun1 hrun2 hbw hbd hN HB9 HV9 HX9 HR9 HBY9
    have tok1 : True := trivial
    rcases Ad with _ | ad
    · have hc0 : cd = 0 := HBW.out.2.1 rfl
      obtain rfl : N = 0 := by omega
      subst hc0
      rw [show 0 - s = 0 by omega] at hwh
      have s4 := run_str HBW.out.1 0
      rw [show strB 0 (cat f n (cat fa l fb)) = Z from hwh] at s4
      have hk3 : max (0 : Int) (0 - (s : Int)) = 0 := by omega
      have hk4 : max (0 : Int) (-(s : Int)) = 0 := by omega
      have hk5 : -(s : Int) < 0 := by omega
      clear hwh
      go_wp2_with (first
        | (at_builtin; have _t := tok1; refine wpList_append_run rfl (.const (.slice none 0 0)) (.tmp 100) 22 rfl (.slice none 0 0) (.slice A n c) (.slice Ac n cc) wc rfl rfl HRUN1.out ?_; clear tok1)
        | (at_builtin; refine wpList_append_run rfl (.tmp 101) (.tmp 102) 22 rfl (.slice Ac n cc) (.slice Ab L cb) (.slice none 0 0) wd rfl rfl HRUN2.out ?_))
      go_region
      go_wp2
      go_ret
      exact ⟨rfl, HBd.out.drew⟩
    · by_cases hNs : N ≤ s
      · rw [show N - s = 0 by omega] at hwh
        have s4 := run_str HBW.out.1 cd
        rw [show strB N (cat f n (cat fa l fb)) = Z from hwh] at s4
        have hk1 : ¬ (0 : Int) < (N : Int) - (s : Int) := by omega
        have hk3 : max (0 : Int) ((N : Int) - (s : Int)) = 0 := by omega
        clear hwh
        go_wp2_with (first
          | (at_builtin; have _t := tok1; refine wpList_append_run rfl (.const (.slice none 0 0)) (.tmp 100) 22 rfl (.slice none 0 0) (.slice A n c) (.slice Ac n cc) wc rfl rfl HRUN1.out ?_; clear tok1)
          | (at_builtin; refine wpList_append_run rfl (.tmp 101) (.tmp 102) 22 rfl (.slice Ac n cc) (.slice Ab L cb) (.slice (some ad) N cd) wd rfl rfl HRUN2.out ?_))
        go_region
        go_wp2
        go_ret
        exact ⟨rfl, HBd.out.drew⟩
      · obtain ⟨q, hq⟩ : ∃ q, q = N - s := ⟨_, rfl⟩
        rw [← hq] at hwh
        have hqN : q ≤ N := by omega
        have hA9 : (if cd = q then (some ad : Option Addr) else some (ad.add q)) = some (ad.add q) := if_neg (by omega)
        have s4 := run_str (HBW.out.drop hqN hA9).1 (cd - q)
        rw [hwh] at s4
        have hqc : q ≤ cd := by omega
        have hk2 : (N : Int) - (s : Int) = (q : Int) := by omega
        have hk1 : (0 : Int) < (q : Int) := by omega
        have hk4 : ¬ (q : Int) < 0 := by omega
        have hk3 : max (0 : Int) (q : Int) = (q : Int) := by omega
        clear hwh hq
        go_wp2_with (first
          | (at_builtin; have _t := tok1; refine wpList_append_run rfl (.const (.slice none 0 0)) (.tmp 100) 22 rfl (.slice none 0 0) (.slice A n c) (.slice Ac n cc) wc rfl rfl HRUN1.out ?_; clear tok1)
          | (at_builtin; refine wpList_append_run rfl (.tmp 101) (.tmp 102) 22 rfl (.slice Ac n cc) (.slice Ab L cb) (.slice (some ad) N cd) wd rfl rfl HRUN2.out ?_))
        go_region
        go_wp2
        go_ret
        exact ⟨rfl, HBd.out.drew⟩
  · have HCK := Lib.hid (schk_any W6 S A n c h1 h2)
    rw [he] at HCK ⊢
    clear he
    go_wp2_with fail
    rw [← HW6.out]
    refine HCK.out.mono ?_
    rintro e w7 ⟨rfl, hb7⟩
    have HB7 := Lib.hid (HB6.out.trans (hb7.mono HB6.out.size))
    clear hb7 HCK
    go_wp2
    go_ret
    exact ⟨rfl, HB7.out⟩
-- LAW
set_option maxRecDepth 100000 in
theorem on6_law_lifted (os : Os) (started : os.Started) (H : Type) (enc : TypeId × Value → H) :
    ReturnsInHanded {} Try.checked os 4 .any (Rows.slideOnSpec.pre6 enc Try.prog Try.f4 Rows.slideOnRow.domain false) (Rows.slideOnSpec.post enc Try.prog Try.f4 false true false false) := by
  refine returnsInHanded_of_change (C := Try.checked) own started (by kernel_rfl) Try.func4
    (ChangeSpec.witness6 (enc := enc) (C := Try.checked) false ⟨#[], #[.agg #[.int .i64 0, .slice none 0 0], .slice none 0 0, .slice none 0 0], []⟩ 8 (by kernel_rfl) (by kernel_rfl) (by kernel_rfl) (by kernel_rfl)) ?_
  intro W base args ds gs before hval0 hW _ _
  have hval : ∀ (j : Nat) t v, Try.f4.params[j]? = some t → args[j]? = some v → Value.okWide Try.prog W .any base t v := hval0
  have hW' := hW
  obtain ⟨p, q, hA0, hV, rfl, _, _⟩ := hW
  have hA : DataW.TrodAll enc Try.prog W 0 (fun _ => true) true Try.f4.params.toList args.toList ds p := hA0
  rw [Try.params4] at hA hval
  obtain ⟨v0, vs0, d0, ds0, p0, q0, hargs, rfl, rfl, h0, r0⟩ := trodAll_cons hA
  obtain ⟨v1, vs1, d1, ds1, p1, q1, rfl, rfl, rfl, h1, r1⟩ := trodAll_cons r0
  obtain ⟨v2, vs2, d2, ds2, p2, q2, rfl, rfl, rfl, h2, r2⟩ := trodAll_cons r1
  obtain ⟨rfl, rfl, rfl⟩ := trodAll_nil r2
  obtain rfl : args = #[v0, v1, v2] := by cases args; simp_all
  obtain ⟨rfl, rfl⟩ := trodVars_none hV
  have k0 := h0
  have lt0 : ∀ x ∈ p0, x.block < W.heap.size := by obtain ⟨m, hm⟩ := k0; exact DataW.trod_lt m _ _ _ hm
  obtain ⟨a0, A0, len0, cap0, f0, rfl, hr0, u0⟩ := open_win (hval 0 24 v0 rfl rfl) h0
  have k1 := h1
  have lt1 : ∀ x ∈ p1, x.block < W.heap.size := by obtain ⟨m, hm⟩ := k1; exact DataW.trod_lt m _ _ _ hm
  obtain ⟨A1, len1, cap1, rfl⟩ := okWide_slice Try.underlying22 (hval 1 22 v1 rfl rfl)
  obtain ⟨f1, hr1⟩ := open_byr h1
  have k2 := h2
  have lt2 : ∀ x ∈ p2, x.block < W.heap.size := by obtain ⟨m, hm⟩ := k2; exact DataW.trod_lt m _ _ _ hm
  obtain ⟨A2, len2, cap2, rfl⟩ := okWide_slice Try.underlying22 (hval 2 22 v2 rfl rfl)
  obtain ⟨f2, hr2⟩ := open_byr h2
  clear hA0 hval0
  refine (on6_law a0 A0 len0 cap0 f0 A1 len1 cap1 f1 A2 len2 cap2 f2 W hr0 u0.1 u0.2 hr1 hr2).mono fun e W' ⟨he, bel⟩ => ?_
  subst he
  exact ⟨_, rfl, _, _, _, [], _, [], hW', trodAll_mk1 (shut_bool Try.underlying4 _), (trodAll_cons_mk (Below.trod laidOut (by kernel_rfl) (of_decide_eq_true (by kernel_rfl)) k0 bel lt0) (trodAll_cons_mk (Below.trod laidOut (by kernel_rfl) (of_decide_eq_true (by kernel_rfl)) k1 bel lt1) (trodAll_cons_mk (Below.trod laidOut (by kernel_rfl) (of_decide_eq_true (by kernel_rfl)) k2 bel lt2) trodAll_mk0))), rfl, bel.frame _, fun h => by cases h⟩
theorem on6_law_holds : Rows.SlideOnSaid :=
  OpenClaim.holds_of_wide 4 Try.f4 rfl rfl rfl rfl rfl rfl rfl ⟨rfl, rfl, rfl, rfl, rfl⟩ rfl rfl rfl rfl rfl (by kernel_rfl) Try.func4 (by kernel_rfl)
    (of_decide_eq_true (by kernel_rfl)) (by unfold Func.isWrapper; first | (rw [if_pos (by decide +kernel)]; kernel_rfl) | (rw [if_neg (by decide +kernel)]; exact ⟨rfl, rfl⟩))
    (fun os started H enc _ => on6_law_lifted os started H enc)
#print axioms on6_law_holds
end Go.Proofs.Ytmdnlmoadklefaa
