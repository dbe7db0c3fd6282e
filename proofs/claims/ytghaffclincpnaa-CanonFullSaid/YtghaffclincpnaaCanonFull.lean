/-
  For every lengths, limit and row: the law CanonFull returns true, and its arguments read as they did. No condition beside the statement's own.
-/
import Derived.Test.YtghaffclincpnaaCanonBegins
namespace Go.Proofs.Ytghaffclincpnaa
open Go.RowKit Go.ChangeShapes Go.WideShapes Go.ChangeAt
theorem and_low15 (r : Nat) (hr : r < 65536) : bits .and .u32 (r : Int) 32767 = ((r % 32768 : Nat) : Int) := by
  have h := u32_and r 32767 (by omega) (by omega)
  have e : r &&& 32767 = r % 32768 := Nat.and_two_pow_sub_one_eq_mod r 15
  rw [e] at h
  exact h
theorem hits_le (f : Nat → Nat) (n r : Nat) : ∀ k, hits f n r k ≤ k
  | 0 => Nat.le_refl _
  | k + 1 => by have := hits_le f n r k; simp only [hits]; split <;> omega
set_option maxRecDepth 100000 in
set_option maxHeartbeats 2000000 in
theorem full_walk (A : Option Addr) (n c : Nat) (f : Nat → Nat) (most : Int) (r : Nat) (w : World) (hr : RdB w w.heap.size A n f) (hrow : r < 65536) (hn : n ≤ 1000) :
    Calls Try.prog 6 #[.slice A n c, .int .i64 most, .int .u16 (r : Int)] w fun e w' => e = .returned (.bool true) ∧ Below w.heap.size w w' := by
  have HR := Lib.hid hr; have HF := Lib.hid hr.1
  clear hr
  have hd : decide ((1000 : Int) < (n : Int)) = false := by simp; omega
  by_cases h0 : checkE f n most = 0
  · have hl : lenC f n most = n := by unfold lenC; rw [if_pos h0]
    have hfull := hits_full h0 (r := r % 32768) (by omega)
    have hX : ∀ j, j < n → codeX f n most j = codeB f n j := fun j hj => codeX_in h0 j hj
    have H0 := Lib.hid h0; have HL := Lib.hid hl; have HU := Lib.hid hfull; have HX := Lib.hid hX
    clear h0 hl hfull hX
    go_enter Try.func6, Try.ntmps6
    go_wp2_with fail
    refine (alive_any w).mono ?_
    rintro e w1 ⟨rfl, b1⟩
    have HB1 := Lib.hid b1
    clear b1
    go_wp2_with fail
    refine (codes_any w1 A n c f most ((HR.out.below HB1.out (Nat.le_refl _)).more HB1.out.size) (by omega)).mono ?_
    rintro e w2 ⟨A', c', rfl, hb, ho⟩
    rw [H0.out, HL.out]
    rw [HL.out] at ho
    have HB2 := Lib.hid (HB1.out.trans (hb.mono HB1.out.size))
    have HC := Lib.hid (ho.rd (codeX_lt f n most) HF.out)
    clear hb ho
    go_wp2
    have han := and_low15 r hrow
    obtain ⟨q, hq⟩ : ∃ q, q = r % 32768 := ⟨_, rfl⟩
    rw [← hq] at han HU
    have hq2 : q < 32768 := by omega
    clear hq
    go_loopw [10, 11, 12] (fun m u i wr => ∃ k : Nat, k ≤ n ∧ i = .int .i64 k ∧ m = .int .i64 (hits f n q k : Nat) ∧ u = .int .i64 (usedN f k : Nat) ∧ Below w2.heap.size w2 wr) (fun _ _ i _ => n - (intOf i).toNat)
    case atStart => exact ⟨0, Nat.zero_le _, rfl, rfl, rfl, Below.refl _ _⟩
    case round =>
      obtain ⟨k, hk, rfl, rfl, rfl, hb⟩ := hrel
      have hm1 := hits_le f n q k
      have hu1 := used_le f k
      have e1 : hits f n q (k + 1) = hits f n q k + if beginsB (codeB f n k) (f k) q 15 = true then 1 else 0 := rfl
      have e2 : usedN f (k + 1) = usedN f k + if 0 < f k then 1 else 0 := rfl
      have E1 := Lib.hid e1; have E2 := Lib.hid e2
      clear e1 e2
      obtain ⟨m, hme⟩ : ∃ m, m = hits f n q k := ⟨_, rfl⟩
      obtain ⟨u, hue⟩ : ∃ m, m = usedN f k := ⟨_, rfl⟩
      rw [← hme] at hm1 E1
      rw [← hue] at hu1 E2
      rw [← hme, ← hue]
      have HM := Lib.hid hme; have HUE := Lib.hid hue
      clear hme hue
      by_cases hlt : k < n
      · obtain ⟨b, o, rfl, _, hc⟩ := (HC.out.below hb (Nat.le_refl _)).at (by omega)
        obtain ⟨k1, k2⟩ := hc k hlt
        rw [HX.out k hlt] at k1
        have hcl : codeB f n k < 4294967296 := by rw [← HX.out k hlt]; exact codeX_lt f n most k
        have hf8 := HF.out k
        have HB := Lib.hid hb
        have hsz : w2.heap.size ≤ wr.heap.size := hb.size
        clear hb hc
        obtain ⟨x, hx⟩ : ∃ x, x = codeB f n k := ⟨_, rfl⟩
        rw [← hx] at k1 hcl E1
        clear hx
        cases hbg : beginsB x (f k) q 15 with
        | false =>
          have HBG := Lib.hid hbg
          rw [hbg] at E1
          clear hbg
          by_cases hp : 0 < f k
          · have E3 := Lib.hid (E2.out.trans (by rw [if_pos hp] : _ = u + 1))
            have E4 := Lib.hid (E1.out.trans (by rw [if_neg (by decide)] : _ = m + 0))
            go_wp2_with (go_at_call 16; refine (begins_any _ x (f k) q 15 hcl hf8 (by omega) (by omega)).mono ?_; rintro e w' ⟨rfl, hb9⟩; rw [HBG.out])
            go_roundw
            case rel => exact ⟨k + 1, by omega, by go_num, by rw [E4.out]; rfl, val_int (by rw [E3.out]; omega), HB.out.trans (hb9.mono hsz)⟩
            case measure => simp [intOf]; omega
          · have E3 := Lib.hid (E2.out.trans (by rw [if_neg hp] : _ = u + 0))
            have E4 := Lib.hid (E1.out.trans (by rw [if_neg (by decide)] : _ = m + 0))
            go_wp2_with (go_at_call 16; refine (begins_any _ x (f k) q 15 hcl hf8 (by omega) (by omega)).mono ?_; rintro e w' ⟨rfl, hb9⟩; rw [HBG.out])
            go_roundw
            case rel => exact ⟨k + 1, by omega, by go_num, by rw [E4.out]; rfl, by rw [E3.out]; rfl, HB.out.trans (hb9.mono hsz)⟩
            case measure => simp [intOf]; omega
        | true =>
          have HBG := Lib.hid hbg
          rw [hbg] at E1
          have hp : 0 < f k := by unfold beginsB at hbg; exact (of_decide_eq_true hbg).1
          clear hbg
          have E3 := Lib.hid (E2.out.trans (by rw [if_pos hp] : _ = u + 1))
          have E4 := Lib.hid (E1.out.trans (by rw [if_pos rfl] : _ = m + 1))
          go_wp2_with (go_at_call 16; refine (begins_any _ x (f k) q 15 hcl hf8 (by omega) (by omega)).mono ?_; rintro e w' ⟨rfl, hb9⟩; rw [HBG.out])
          go_roundw
          case rel => exact ⟨k + 1, by omega, by go_num, val_int (by rw [E4.out]; omega), val_int (by rw [E3.out]; omega), HB.out.trans (hb9.mono hsz)⟩
          case measure => simp [intOf]; omega
      · obtain rfl : k = n := by omega
        have hu := HU.out
        rw [← HM.out, ← HUE.out] at hu
        have HB := Lib.hid (HB2.out.trans (hb.mono HB2.out.size))
        clear hb hlt hk
        have d1 : decide ((m : Int) ≤ 1) = true := by simp; omega
        rcases hu.2 with h | h
        · have d2 : decide ((u : Int) < 2) = true := by simp; omega
          clear hu h
          go_wp2
          go_ret
          exact ⟨rfl, HB.out⟩
        · by_cases h2 : u < 2
          · have d2 : decide ((u : Int) < 2) = true := by simp; omega
            clear hu h h2
            go_wp2
            go_ret
            exact ⟨rfl, HB.out⟩
          · have d2 : decide ((u : Int) < 2) = false := by simp; omega
            have d3 : ((m : Int) == 1) = true := by simp; omega
            clear hu h h2
            go_wp2
            go_ret
            exact ⟨rfl, HB.out⟩
  · have hne : (checkE f n most != 0) = true := by simpa using h0
    obtain ⟨E, hE⟩ : ∃ E, E = checkE f n most := ⟨_, rfl⟩
    rw [← hE] at hne
    have HE := Lib.hid hE
    clear h0 hE
    go_enter Try.func6, Try.ntmps6
    go_wp2_with fail
    refine (alive_any w).mono ?_
    rintro e w1 ⟨rfl, b1⟩
    have HB1 := Lib.hid b1
    clear b1
    go_wp2_with fail
    refine (codes_any w1 A n c f most ((HR.out.below HB1.out (Nat.le_refl _)).more HB1.out.size) (by omega)).mono ?_
    rintro e w2 ⟨A', c', rfl, hb, ho⟩
    rw [← HE.out]
    have HB2 := Lib.hid (HB1.out.trans (hb.mono HB1.out.size))
    clear hb ho
    go_wp2
    go_ret
    exact ⟨rfl, HB2.out⟩
theorem full_law (A : Option Addr) (n c : Nat) (f : Nat → Nat) (most : Int) (r : Nat) (w : World) (hr : RdB w w.heap.size A n f) (_hA : A = none → c = 0) (_h0 : -9223372036854775808 ≤ most) (_h1 : most ≤ 9223372036854775807) (hrow : r < 65536) :
    Calls Try.prog 6 #[.slice A n c, .int .i64 most, .int .u16 (r : Int)] w fun e w' => e = .returned (.bool true) ∧ Below w.heap.size w w' := by
  by_cases h : n ≤ 1000
  · exact full_walk A n c f most r w hr hrow h
  · have hlt : decide ((1000 : Int) < (n : Int)) = true := by simp; omega
    clear h
    go_enter Try.func6, Try.ntmps6
    go_wp2_with fail
    refine (alive_any w).mono ?_
    rintro e w1 ⟨rfl, b1⟩
    have HB1 := Lib.hid b1
    clear b1
    go_wp2
    go_ret
    exact ⟨rfl, HB1.out⟩
-- LAW
set_option maxRecDepth 100000 in
theorem full_law_lifted (os : Os) (started : os.Started) (H : Type) (enc : TypeId × Value → H) :
    ReturnsInHanded {} Try.checked os 6 .any (Rows.canonFullSpec.pre6 enc Try.prog Try.f6 Rows.canonFullRow.domain false) (Rows.canonFullSpec.post enc Try.prog Try.f6 false true false false) := by
  refine returnsInHanded_of_change (C := Try.checked) own started (by kernel_rfl) Try.func6
    (ChangeSpec.witness6 (enc := enc) (C := Try.checked) false ⟨#[], #[.slice none 0 0, .int .i64 0, .int .u16 0], []⟩ 8 (by kernel_rfl) (by kernel_rfl) (by kernel_rfl) (by kernel_rfl)) ?_
  intro W base args ds gs before hval0 hW _ _
  have hval : ∀ (j : Nat) t v, Try.f6.params[j]? = some t → args[j]? = some v → Value.okWide Try.prog W .any base t v := hval0
  have hW' := hW
  obtain ⟨p, q, hA0, hV, rfl, _, _⟩ := hW
  have hA : DataW.TrodAll enc Try.prog W 0 (fun _ => true) true Try.f6.params.toList args.toList ds p := hA0
  rw [Try.params6] at hA hval
  obtain ⟨v0, vs0, d0, ds0, p0, q0, hargs, rfl, rfl, h0, r0⟩ := trodAll_cons hA
  obtain ⟨v1, vs1, d1, ds1, p1, q1, rfl, rfl, rfl, h1, r1⟩ := trodAll_cons r0
  obtain ⟨v2, vs2, d2, ds2, p2, q2, rfl, rfl, rfl, h2, r2⟩ := trodAll_cons r1
  obtain ⟨rfl, rfl, rfl⟩ := trodAll_nil r2
  obtain rfl : args = #[v0, v1, v2] := by cases args; simp_all
  obtain ⟨rfl, rfl⟩ := trodVars_none hV
  have k0 := h0
  have lt0 : ∀ x ∈ p0, x.block < W.heap.size := by obtain ⟨m, hm⟩ := k0; exact DataW.trod_lt m _ _ _ hm
  obtain ⟨A0, len0, cap0, rfl⟩ := okWide_slice Try.underlying23 (hval 0 23 v0 rfl rfl)
  obtain ⟨f0, hr0, hn0, hl0, hm0⟩ := open_bytes h0
  have k1 := h1
  have lt1 : ∀ x ∈ p1, x.block < W.heap.size := by obtain ⟨m, hm⟩ := k1; exact DataW.trod_lt m _ _ _ hm
  obtain ⟨a1, rfl, rfl, rfl, w1⟩ := open_int Try.underlying3 (hval 1 3 v1 rfl rfl) h1
  have u1 := wf_i64_range w1
  have k2 := h2
  have lt2 : ∀ x ∈ p2, x.block < W.heap.size := by obtain ⟨m, hm⟩ := k2; exact DataW.trod_lt m _ _ _ hm
  obtain ⟨a2, rfl, rfl, rfl, w2⟩ := open_int Try.underlying42 (hval 2 42 v2 rfl rfl) h2
  have u2 := wf_u16_range w2
  obtain ⟨a2, rfl⟩ := Int.eq_ofNat_of_zero_le u2.1
  clear hA0 hval0
  refine (full_law A0 len0 cap0 f0 a1 a2 W hr0 hn0 u1.1 u1.2 (by omega)).mono fun e W' ⟨he, bel⟩ => ?_
  subst he
  exact ⟨_, rfl, _, _, _, [], _, [], hW', trodAll_mk1 (shut_bool Try.underlying4 _), (trodAll_cons_mk (Below.trod laidOut (by kernel_rfl) (of_decide_eq_true (by kernel_rfl)) k0 bel lt0) (trodAll_cons_mk (Below.trod laidOut (by kernel_rfl) (of_decide_eq_true (by kernel_rfl)) k1 bel lt1) (trodAll_cons_mk (Below.trod laidOut (by kernel_rfl) (of_decide_eq_true (by kernel_rfl)) k2 bel lt2) trodAll_mk0))), rfl, bel.frame _, fun h => by cases h⟩
theorem full_law_holds : Rows.CanonFullSaid :=
  OpenClaim.holds_of_wide 6 Try.f6 rfl rfl rfl rfl rfl rfl rfl ⟨rfl, rfl, rfl, rfl, rfl⟩ rfl rfl rfl rfl rfl (by kernel_rfl) Try.func6 (by kernel_rfl)
    (of_decide_eq_true (by kernel_rfl)) (by unfold Func.isWrapper; first | (rw [if_pos (by decide +kernel)]; kernel_rfl) | (rw [if_neg (by decide +kernel)]; exact ⟨rfl, rfl⟩))
    (fun os started H enc _ => full_law_lifted os started H enc)
#print axioms full_law_holds
end Go.Proofs.Ytghaffclincpnaa
