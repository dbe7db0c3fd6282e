/-
  For every lengths, limit and one more: the law CanonBounds returns true, and its arguments read as they did. No condition beside the statement's own.
-/
import Derived.Test.YtghaffclincpnaaCanonBegins
namespace Go.Proofs.Ytghaffclincpnaa
open Go.RowKit Go.ChangeShapes Go.WideShapes Go.ChangeAt
def oneN (v : Nat) (j : Nat) : Nat := if j = 0 then v else 0
theorem oneN_lt {v : Nat} (hv : v < 256) (j : Nat) : oneN v j < 256 := by unfold oneN; split <;> omega
theorem cat_in {f g : Nat → Nat} {n j : Nat} (h : j < n) : cat f n g j = f j := by unfold cat; rw [if_pos h]
theorem cat_at (f g : Nat → Nat) (n : Nat) : cat f n g n = g 0 := by unfold cat; rw [if_neg (by omega), Nat.sub_self]
/-- What the lengths with one more are told. -/
def boundE (most : Int) (u v : Nat) : Int := if most < (v : Int) then 2 else if u = 0 then (if v = 1 then 0 else 31) else if u = 1 then (if v = 1 then 0 else 31) else 30
theorem more_runs (w : World) (A : Option Addr) (n c : Nat) (f : Nat → Nat) (v : Nat) (hv : v < 256) (hr : RdB w w.heap.size A n f) (hn : n ≤ 1000) (hA : A = none → c = 0) :
    ∃ Aa ca wa Ab cb wb, (Builtin.append_ #[23, 23] 23 #[.slice none 0 0, .slice A n c]).run Try.prog w = .ok (.slice Aa n ca) wa ∧
      (Builtin.append_ #[23, 23] 23 #[.slice Aa n ca, .slice (some ⟨wa.heap.size, 0, none⟩) 1 1]).run Try.prog (wa.alloc (.cells #[.int .u8 (v : Int)] 5)) = .ok (.slice Ab (n + 1) cb) wb ∧
      Below w.heap.size w wb ∧ RdB wb wb.heap.size Ab (n + 1) (cat f n (oneN v)) := by
  obtain ⟨Aa, ca, wa, h1, o1, b1, _⟩ := run_twin w _ A n c f hr (by omega) 23 hA
  have hrow := (row_new wa 1 (oneN v) #[.int .u8 (v : Int)] rfl).rd (oneN_lt hv)
  obtain ⟨Ab, cb, wb, h2, o2, b2⟩ := run_more (wa.alloc (.cells #[.int .u8 (v : Int)] 5)) w.heap.size _ _ n f (o1.alloc _) _ 1 1 (oneN v) hrow (by omega) 23 (fun h => by cases h) (by have := b1.size; simp; omega)
  exact ⟨Aa, ca, wa, Ab, cb, wb, h1, h2, (b1.alloc b1.size _).trans b2, RdB.of_own o2 (cat_lt hr.1 (oneN_lt hv))⟩
set_option maxRecDepth 100000 in
set_option maxHeartbeats 4000000 in
theorem bounds_walk (A : Option Addr) (n c : Nat) (f : Nat → Nat) (most : Int) (v : Nat) (w : World) (hr : RdB w w.heap.size A n f) (hA : A = none → c = 0) (hv : v < 256) (hv0 : 0 < v) (hn : n ≤ 319) (h0 : checkE f n most = 0) :
    Calls Try.prog 8 #[.slice A n c, .int .i64 most, .int .u8 (v : Int)] w fun e w' => e = .returned (.bool true) ∧ Below w.heap.size w w' := by
  obtain ⟨hm1, hm15, _, _, _, _⟩ := check_ok h0
  have hmore := checkE_more (g := cat f n (oneN v)) h0 hn (fun j hj => cat_in hj) (by rw [cat_at]; exact hv0)
  rw [cat_at, show oneN v 0 = v from rfl] at hmore
  have hm2 : checkE (cat f n (oneN v)) (n + 1) most = boundE most (usedN f n) v := hmore
  have HR := Lib.hid hr; have H0 := Lib.hid h0; have HA := Lib.hid hA; have HM := Lib.hid hm2
  clear hr h0 hA hmore hm2
  have hd : decide ((319 : Int) < (n : Int)) = false := by simp; omega
  have hd2 : ((v : Int) == 0) = false := by simp; omega
  go_enter Try.func8, Try.ntmps8
  go_wp2_with fail
  refine (alive_any w).mono ?_
  rintro e w1 ⟨rfl, b1⟩
  have HB1 := Lib.hid b1
  clear b1
  go_wp2_with fail
  refine (check_any w1 A n c f most ((HR.out.below HB1.out (Nat.le_refl _)).more HB1.out.size) (by omega)).mono ?_
  rintro e w2 ⟨rfl, b2⟩
  rw [H0.out]
  have HB2 := Lib.hid (HB1.out.trans (b2.mono HB1.out.size))
  clear b2
  go_wp2
  go_loop [8, 9] (fun u i => ∃ k : Nat, k ≤ n ∧ i = .int .i64 k ∧ u = .int .i64 (usedN f k : Nat)) (fun _ i => n - (intOf i).toNat)
  case atStart => exact ⟨0, Nat.zero_le _, rfl, rfl⟩
  case round =>
    obtain ⟨k, hk, rfl, rfl⟩ := hrel
    have hu1 := used_le f k
    have e2 : usedN f (k + 1) = usedN f k + if 0 < f k then 1 else 0 := rfl
    have E2 := Lib.hid e2
    clear e2
    obtain ⟨u, hue⟩ : ∃ m, m = usedN f k := ⟨_, rfl⟩
    rw [← hue] at hu1 E2
    rw [← hue]
    have HUE := Lib.hid hue
    clear hue
    by_cases hlt : k < n
    · obtain ⟨b, o, rfl, _, hc⟩ := (HR.out.below HB2.out (Nat.le_refl _)).2 (by omega)
      have hcell := hc k hlt
      have hf8 := HR.out.1 k
      clear hc
      by_cases hp : 0 < f k
      · go_wp2
        refine ⟨⟨k + 1, hlt, by go_num, val_int (by rw [E2.out, if_pos hp]; omega)⟩, by simp [intOf]; omega⟩
      · go_wp2
        refine ⟨⟨k + 1, hlt, by go_num, val_int (by rw [E2.out, if_neg hp]; omega)⟩, by simp [intOf]; omega⟩
    · obtain rfl : k = n := by omega
      clear hlt hk
      obtain ⟨Aa, ca, wa, Ab, cb, wb, hrun1, hrun2, hb3, hr3⟩ := more_runs w2 A k c f v hv ((HR.out.below HB2.out (Nat.le_refl _)).more HB2.out.size) (by omega) HA.out
      have HRUN1 := Lib.hid hrun1; have HRUN2 := Lib.hid hrun2; have HR3 := Lib.hid hr3
      have HB3 := Lib.hid (HB2.out.trans (hb3.mono HB2.out.size))
      clear hrun1 hrun2 hr3 hb3
      obtain ⟨L, hL⟩ : ∃ L, L = k + 1 := ⟨_, rfl⟩
      rw [← hL] at HRUN2 HR3 HM
      rw [← HUE.out] at HM
      have hL2 : L ≤ 1000 := by omega
      have tok1 : True := trivial
      clear hL
      go_wp2_with (first
        | (at_builtin; have _t := tok1; refine wpList_append_run rfl (.const (.slice none 0 0)) (.tmp 39) 23 rfl (.slice none 0 0) (.slice A k c) (.slice Aa k ca) wa rfl rfl HRUN1.out ?_; clear tok1)
        | (at_builtin; refine wpList_append_run rfl (.tmp 40) (.tmp 42) 23 rfl (.slice Aa k ca) (.slice (some ⟨wa.heap.size, 0, none⟩) 1 1) (.slice Ab L cb) wb rfl rfl HRUN2.out ?_))
      refine (check_any wb Ab L cb _ most HR3.out (by omega)).mono ?_
      rintro e w5 ⟨rfl, b5⟩
      rw [HM.out]
      have HB5 := Lib.hid (HB3.out.trans (b5.mono HB3.out.size))
      clear b5
      have hv8 : (v : Int) < 256 := by omega
      by_cases g1 : most < (v : Int)
      · have hE : boundE most u v = 2 := by unfold boundE; rw [if_pos g1]
        have d1 : decide (most < (v : Int)) = true := by simpa using g1
        rw [hE]
        clear hE
        go_wp2
        go_ret
        exact ⟨rfl, HB5.out⟩
      · have d1 : decide (most < (v : Int)) = false := by simpa using g1
        by_cases g2 : u = 0
        · have t1 : ((u : Int) == 0) = true := by simp; omega
          by_cases g3 : v = 1
          · have hE : boundE most u v = 0 := by unfold boundE; rw [if_neg g1, if_pos g2, if_pos g3]
            have t2 : ((v : Int) == 1) = true := by simp; omega
            rw [hE]
            clear hE g1 g2 g3
            go_wp2
            go_ret
            exact ⟨rfl, HB5.out⟩
          · have hE : boundE most u v = 31 := by unfold boundE; rw [if_neg g1, if_pos g2, if_neg g3]
            have t2 : ((v : Int) == 1) = false := by simp; omega
            rw [hE]
            clear hE g1 g2 g3
            go_wp2
            go_ret
            exact ⟨rfl, HB5.out⟩
        · have t1 : ((u : Int) == 0) = false := by simp; omega
          by_cases g4 : u = 1
          · have t3 : ((u : Int) == 1) = true := by simp; omega
            by_cases g3 : v = 1
            · have hE : boundE most u v = 0 := by unfold boundE; rw [if_neg g1, if_neg g2, if_pos g4, if_pos g3]
              have t2 : ((v : Int) == 1) = true := by simp; omega
              rw [hE]
              clear hE g1 g2 g3 g4
              go_wp2
              go_ret
              exact ⟨rfl, HB5.out⟩
            · have hE : boundE most u v = 31 := by unfold boundE; rw [if_neg g1, if_neg g2, if_pos g4, if_neg g3]
              have t2 : ((v : Int) == 1) = false := by simp; omega
              rw [hE]
              clear hE g1 g2 g3 g4
              go_wp2
              go_ret
              exact ⟨rfl, HB5.out⟩
          · have hE : boundE most u v = 30 := by unfold boundE; rw [if_neg g1, if_neg g2, if_neg g4]
            have t3 : ((u : Int) == 1) = false := by simp; omega
            rw [hE]
            clear hE g1 g2 g4
            go_wp2
            go_ret
            exact ⟨rfl, HB5.out⟩
set_option maxRecDepth 100000 in
set_option maxHeartbeats 1000000 in
theorem bounds_law (A : Option Addr) (n c : Nat) (f : Nat → Nat) (most : Int) (v : Nat) (w : World) (hr : RdB w w.heap.size A n f) (hA : A = none → c = 0) (_h0 : -9223372036854775808 ≤ most) (_h1 : most ≤ 9223372036854775807) (hv : v < 256) :
    Calls Try.prog 8 #[.slice A n c, .int .i64 most, .int .u8 (v : Int)] w fun e w' => e = .returned (.bool true) ∧ Below w.heap.size w w' := by
  by_cases h : n ≤ 319
  · have hd : decide ((319 : Int) < (n : Int)) = false := by simp; omega
    by_cases h0 : checkE f n most = 0
    · by_cases hv0 : 0 < v
      · exact bounds_walk A n c f most v w hr hA hv hv0 h h0
      · obtain rfl : v = 0 := by omega
        have HR := Lib.hid hr; have H0 := Lib.hid h0
        clear hr h0 hA hv0
        go_enter Try.func8, Try.ntmps8
        go_wp2_with fail
        refine (alive_any w).mono ?_
        rintro e w1 ⟨rfl, b1⟩
        have HB1 := Lib.hid b1
        clear b1
        go_wp2_with fail
        refine (check_any w1 A n c f most ((HR.out.below HB1.out (Nat.le_refl _)).more HB1.out.size) (by omega)).mono ?_
        rintro e w2 ⟨rfl, b2⟩
        rw [H0.out]
        have HB2 := Lib.hid (HB1.out.trans (b2.mono HB1.out.size))
        clear b2
        go_wp2
        go_ret
        exact ⟨rfl, HB2.out⟩
    · have hne : (checkE f n most != 0) = true := by simpa using h0
      obtain ⟨E, hE⟩ : ∃ E, E = checkE f n most := ⟨_, rfl⟩
      rw [← hE] at hne
      have HR := Lib.hid hr; have HE := Lib.hid hE
      clear hr h0 hA hE
      go_enter Try.func8, Try.ntmps8
      go_wp2_with fail
      refine (alive_any w).mono ?_
      rintro e w1 ⟨rfl, b1⟩
      have HB1 := Lib.hid b1
      clear b1
      go_wp2_with fail
      refine (check_any w1 A n c f most ((HR.out.below HB1.out (Nat.le_refl _)).more HB1.out.size) (by omega)).mono ?_
      rintro e w2 ⟨rfl, b2⟩
      rw [← HE.out]
      have HB2 := Lib.hid (HB1.out.trans (b2.mono HB1.out.size))
      clear b2
      go_wp2
      go_ret
      exact ⟨rfl, HB2.out⟩
  · have hd : decide ((319 : Int) < (n : Int)) = true := by simp; omega
    clear h
    go_enter Try.func8, Try.ntmps8
    go_wp2_with fail
    refine (alive_any w).mono ?_
    rintro e w1 ⟨rfl, b1⟩
    have HB1 := Lib.hid b1
    clear b1
    go_wp2
    go_ret
    exact ⟨rfl, HB1.out⟩
-- LAW
set_option maxRecDepth 100000 in
theorem bounds_law_lifted (os : Os) (started : os.Started) (H : Type) (enc : TypeId × Value → H) :
    ReturnsInHanded {} Try.checked os 8 .any (Rows.canonBoundsSpec.pre6 enc Try.prog Try.f8 Rows.canonBoundsRow.domain false) (Rows.canonBoundsSpec.post enc Try.prog Try.f8 false true false false) := by
  refine returnsInHanded_of_change (C := Try.checked) own started (by kernel_rfl) Try.func8
    (ChangeSpec.witness6 (enc := enc) (C := Try.checked) false ⟨#[], #[.slice none 0 0, .int .i64 0, .int .u8 0], []⟩ 8 (by kernel_rfl) (by kernel_rfl) (by kernel_rfl) (by kernel_rfl)) ?_
  intro W base args ds gs before hval0 hW _ _
  have hval : ∀ (j : Nat) t v, Try.f8.params[j]? = some t → args[j]? = some v → Value.okWide Try.prog W .any base t v := hval0
  have hW' := hW
  obtain ⟨p, q, hA0, hV, rfl, _, _⟩ := hW
  have hA : DataW.TrodAll enc Try.prog W 0 (fun _ => true) true Try.f8.params.toList args.toList ds p := hA0
  rw [Try.params8] at hA hval
  obtain ⟨v0, vs0, d0, ds0, p0, q0, hargs, rfl, rfl, h0, r0⟩ := trodAll_cons hA
  obtain ⟨v1, vs1, d1, ds1, p1, q1, rfl, rfl, rfl, h1, r1⟩ := trodAll_cons r0
  obtain ⟨v2, vs2, d2, ds2, p2, q2, rfl, rfl, rfl, h2, r2⟩ := trodAll_cons r1
  obtain ⟨rfl, rfl, rfl⟩ := trodAll_nil r2
  obtain rfl : args = #[v0, v1, v2] := by cases args; simp_all
  obtain ⟨rfl, rfl⟩ := trodVars_none hV
  have k0 := h0
  have lt0 : ∀ x ∈ p0, x.block < W.heap.size := by obtain ⟨m, hm⟩ := k0; exact DataW.trod_lt m _ _ _ hm
  obtain ⟨A0, len0, cap0, rfl⟩ := okWide_slice Try.underlying23 (hval 0 23 v0 rfl rfl)
  obtain ⟨f0, hr0, hn0, hl0, hm0⟩ := open_bytes h0
  have k1 := h1
  have lt1 : ∀ x ∈ p1, x.block < W.heap.size := by obtain ⟨m, hm⟩ := k1; exact DataW.trod_lt m _ _ _ hm
  obtain ⟨a1, rfl, rfl, rfl, w1⟩ := open_int Try.underlying3 (hval 1 3 v1 rfl rfl) h1
  have u1 := wf_i64_range w1
  have k2 := h2
  have lt2 : ∀ x ∈ p2, x.block < W.heap.size := by obtain ⟨m, hm⟩ := k2; exact DataW.trod_lt m _ _ _ hm
  obtain ⟨a2, rfl, rfl, rfl, w2⟩ := open_int Try.underlying5 (hval 2 5 v2 rfl rfl) h2
  have u2 := wf_u8_range w2
  obtain ⟨a2, rfl⟩ := Int.eq_ofNat_of_zero_le u2.1
  clear hA0 hval0
  refine (bounds_law A0 len0 cap0 f0 a1 a2 W hr0 hn0 u1.1 u1.2 (by omega)).mono fun e W' ⟨he, bel⟩ => ?_
  subst he
  exact ⟨_, rfl, _, _, _, [], _, [], hW', trodAll_mk1 (shut_bool Try.underlying4 _), (trodAll_cons_mk (Below.trod laidOut (by kernel_rfl) (of_decide_eq_true (by kernel_rfl)) k0 bel lt0) (trodAll_cons_mk (Below.trod laidOut (by kernel_rfl) (of_decide_eq_true (by kernel_rfl)) k1 bel lt1) (trodAll_cons_mk (Below.trod laidOut (by kernel_rfl) (of_decide_eq_true (by kernel_rfl)) k2 bel lt2) trodAll_mk0))), rfl, bel.frame _, fun h => by cases h⟩
theorem bounds_law_holds : Rows.CanonBoundsSaid :=
  OpenClaim.holds_of_wide 8 Try.f8 rfl rfl rfl rfl rfl rfl rfl ⟨rfl, rfl, rfl, rfl, rfl⟩ rfl rfl rfl rfl rfl (by kernel_rfl) Try.func8 (by kernel_rfl)
    (of_decide_eq_true (by kernel_rfl)) (by unfold Func.isWrapper; first | (rw [if_pos (by decide +kernel)]; kernel_rfl) | (rw [if_neg (by decide +kernel)]; exact ⟨rfl, rfl⟩))
    (fun os started H enc _ => bounds_law_lifted os started H enc)
#print axioms bounds_law_holds
end Go.Proofs.Ytghaffclincpnaa
