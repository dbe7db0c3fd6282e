/-
  For every pen, number, bit count and parting: the law BitsParts returns true, and its arguments read as they did. No condition beside the statement's own.
-/
import Derived.Test.YtniekmnjnnkieaaPrt
namespace Go.Proofs.Ytniekmnjnnkieaa
open Go.RowKit Go.ChangeShapes Go.WideShapes Go.ChangeAt
theorem low_mask (v a : Nat) (hv : v < 4294967296) (ha : a ≤ 32) : bits .and .u64 (v : Int) ((powN a - 1 : Nat) : Int) = ((v % 2 ^ a : Nat) : Int) := by
  have h1 : powN a ≤ 4294967296 := pow_le_32 ha
  rw [u64_and _ _ (by omega) (by omega)]
  unfold powN
  rw [Nat.and_two_pow_sub_one_eq_mod]
theorem wrap_mask (a : Nat) (ha : a ≤ 32) : IntKind.u64.wrap (IntKind.u64.wrap ((2 : Int) ^ a) - 1) = ((powN a - 1 : Nat) : Int) := by
  have h2 : (2 : Int) ^ a = (powN a : Nat) := by unfold powN; rw [Int.natCast_pow]; rfl
  have h3 := powN_le a (by omega)
  have h4 := powN_pos a
  rw [h2, IntWalk.u64_in ((powN a : Nat) : Int) ⟨by omega, by omega⟩, show ((powN a : Nat) : Int) - 1 = ((powN a - 1 : Nat) : Int) by omega, IntWalk.u64_in ((powN a - 1 : Nat) : Int) ⟨by omega, by omega⟩]
set_option maxRecDepth 100000 in
set_option maxHeartbeats 4000000 in
theorem parts_ok (A : Option Addr) (l c : Nat) (f : Nat → Nat) (k m a : Nat) (v : Nat) (w : World) (hr : RdB w w.heap.size A l f) (hlt : l ≤ 10000) (hv : v < 4294967296)
    (hc : checkE f l k = 0) (hf : fitsB v m = true) (hfull : k + m ≤ 8388608) (ha : a ≤ m) :
    Calls Try.prog 7 #[.agg #[.slice A l c, .int .i64 (k : Int)], .int .u32 (v : Int), .int .i64 (m : Int), .int .i64 (a : Int)] w fun e w' => e = .returned (.bool true) ∧ Below w.heap.size w w' := by
  obtain ⟨K, hK, _, hn, hcl⟩ := check_clean hr.1 hc
  obtain rfl : k = K := by omega
  have hfb := fitsB_nat.1 hf
  have hm : m ≤ 32 := hfb.1
  obtain ⟨d, hd⟩ : ∃ d, m = a + d := ⟨m - a, by omega⟩
  have hdi : (m : Int) - (a : Int) = (d : Int) := by omega
  have hd32 : d ≤ 32 := by omega
  obtain ⟨L, hL⟩ : ∃ L, L = (k + m + 7) / 8 := ⟨_, rfl⟩
  obtain ⟨L1, hL1⟩ : ∃ L1, L1 = (k + a + 7) / 8 := ⟨_, rfl⟩
  obtain ⟨K2, hK2⟩ : ∃ K2, K2 = k + m := ⟨_, rfl⟩
  obtain ⟨K1, hK1⟩ : ∃ K1, K1 = k + a := ⟨_, rfl⟩
  have hkL : K2 ≤ 8 * L := by omega
  have hl1 : L ≤ 2000000 := by omega
  obtain ⟨lo, hlo⟩ : ∃ lo, lo = v % 2 ^ a := ⟨_, rfl⟩
  obtain ⟨hi, hhi⟩ : ∃ hi, hi = v / 2 ^ a := ⟨_, rfl⟩
  have hlo32 : lo < 4294967296 := by rw [hlo]; exact Nat.lt_of_le_of_lt (Nat.mod_le _ _) hv
  have hhi32 : hi < 4294967296 := by rw [hhi]; exact Nat.lt_of_le_of_lt (Nat.div_le_self _ _) hv
  have hlof : fitsB lo a = true := fitsB_nat.2 ⟨by omega, by rw [hlo]; exact Nat.mod_lt _ (Nat.two_pow_pos a)⟩
  have hhif : fitsB hi d = true := fitsB_nat.2 ⟨hd32, by rw [hhi, show d = m - a by omega]; exact high_fits ha hfb.2⟩
  obtain ⟨gw, hgw⟩ : ∃ gw, gw = putF (zext l f) k v m := ⟨_, rfl⟩
  obtain ⟨gx, hgx⟩ : ∃ gx, gx = putF (zext l f) k lo a := ⟨_, rfl⟩
  have hclx : Clean gx K1 := by rw [hgx, hK1]; exact hcl.put lo a
  have hclw : Clean gw K2 := by rw [hgw, hK2]; exact hcl.put v m
  have hcx : checkE gx L1 (K1 : Int) = 0 := check_of_clean hclx (by omega) (by omega)
  have hgy : putF (zext L1 gx) K1 hi d = gw := by
    rw [clean_zext hclx (by omega), hgx, hgw, hK1, hlo, hhi, show d = m - a by omega]; exact put_parts _ _ _ _ _ ha
  have htl : numN gw k a = lo := by rw [hgw, hlo]; exact take_low hcl v m a ha
  have hth : numN gw K1 d = hi := by rw [hgw, hhi, hK1, show d = m - a by omega]; exact take_high hcl v m a ha hfb.2
  have hka : (k : Int) + (a : Int) = (K1 : Int) := by omega
  have hmask : bits .and .u64 (v : Int) (IntKind.u64.wrap (IntKind.u64.wrap (2 ^ a) - 1)) % 4294967296 = (lo : Int) := by
    have h1 := low_mask v a hv (by omega)
    rw [wrap_mask a (by omega), h1, ← hlo]
    exact emod_u32 lo hlo32
  have hshr : (v : Int) / 2 ^ a % 4294967296 = (hi : Int) := by rw [cast_shr, ← hhi]; exact emod_u32 hi hhi32
  have HR := Lib.hid hr; have HC := Lib.hid hc; have HCX := Lib.hid hcx; have HGW := Lib.hid hgw; have HGX := Lib.hid hgx; have HGY := Lib.hid hgy
  have HTL := Lib.hid htl; have HTH := Lib.hid hth; have HKA := Lib.hid hka; have HMASK := Lib.hid hmask; have HSHR := Lib.hid hshr; have HDI := Lib.hid hdi
  have HLOF := Lib.hid hlof; have HHIF := Lib.hid hhif; have HF := Lib.hid hf; have HL := Lib.hid hL; have HL1 := Lib.hid hL1; have HK1 := Lib.hid hK1; have HK2 := Lib.hid hK2
  have HCW := Lib.hid hclw.1; have HCXL := Lib.hid hclx.1; have HD := Lib.hid hd; have HN := Lib.hid hn
  have hk1d : K1 + d = K2 := by omega
  have HK1D := Lib.hid hk1d
  have hk1b : K1 ≤ 8388608 := by omega
  have hk2b : K2 ≤ 8388608 := by omega
  have hka8 : k + a ≤ 8 * L := by omega
  clear hr hc hcx hgw hgx hgy htl hth hka hmask hshr hdi hlof hhif hf hL hL1 hK1 hK2 hclw hclx hcl hd hn hfb hK hlo hhi hk1d
  go_enter Try.func7, Try.ntmps7
  go_wp2_with fail
  refine (alive_any _).mono ?_
  rintro e w2 ⟨rfl, hb⟩
  have hB2 : Below w.heap.size w w2 := ((Below.refl w.heap.size w).alloc (Nat.le_refl _) (.cells #[.slice A l c, .int .i64 (k : Int)] 28)).trans (hb.mono (by simp))
  have hbox := (hb.block w.heap.size (by simp)).trans (heap_alloc_new _ _)
  have hs2 : w.heap.size < w2.heap.size := by have := hb.size; simp at this; omega
  obtain ⟨k2, k3, k4, k5⟩ := pair_cells hbox
  have HB2 := Lib.hid hB2; have HBOX := Lib.hid hbox
  clear hb hbox hB2
  go_wp2_with fail
  refine (put_ok _ A l c f k m L v ((HR.out.below HB2.out (Nat.le_refl _)).more (by omega)) HC.out (by omega) hv hm HF.out hfull HL.out).mono ?_
  rintro e w3 ⟨g, rfl, hg, hb, hrow⟩
  rw [← HGW.out] at hrow
  rw [← HK2.out]
  have HB3 := Lib.hid (HB2.out.trans (hb.mono (by omega)))
  have hbox := (hb.block w.heap.size (by omega)).trans HBOX.out
  have hs3 : w.heap.size < w3.heap.size := by have := hb.size; omega
  have HBOX3 := Lib.hid hbox
  have hg3 := hrow.lt
  have HROW3 := Lib.hid hrow
  clear k2 k3 k4 k5
  obtain ⟨k2, k3, k4, k5⟩ := pair_cells hbox
  clear hb hbox hrow
  go_wp2_with fail
  rw [HMASK.out, HSHR.out]
  refine (put_ok _ A l c f k a L1 lo ((HR.out.below (HB3.out.alloc (by omega) _) (Nat.le_refl _)).more (by simp; omega)) HC.out (by omega) hlo32 (by omega) HLOF.out (by omega) HL1.out).mono ?_
  rintro e w4 ⟨g4, rfl, hg4, hb, hrow⟩
  rw [← HGX.out] at hrow
  rw [← HK1.out]
  simp only [World.size_alloc] at hg4
  have HB4 := Lib.hid (HB3.out.trans (((Below.refl w.heap.size w3).alloc (by omega) (.cells #[.slice (some ⟨g, 0, none⟩) L L, .int .i64 (K2 : Int)] 28)).trans (hb.mono (by simp; omega))))
  have hs4 : w3.heap.size < w4.heap.size := by have := hb.size; simp at this; omega
  have hs5 : w.heap.size < w4.heap.size := by omega
  have hbox := (hb.block w.heap.size (by simp; omega)).trans ((Below.heap_alloc _ _ _ (by omega)).trans HBOX3.out)
  have hboxw := (hb.block w3.heap.size (by simp)).trans (heap_alloc_new _ _)
  have hroww : Row w4 g L gw := (HROW3.out.alloc _).below hb (by simp; omega)
  have HROWW4 := Lib.hid hroww; have HROWX4 := Lib.hid hrow; have HBOX4 := Lib.hid hbox; have HBOXW4 := Lib.hid hboxw
  have hg4b := hrow.lt
  clear k2 k3 k4 k5
  obtain ⟨k2, k3, k4, k5⟩ := pair_cells hbox
  obtain ⟨j2, j3, j4, j5⟩ := pair_cells hboxw
  clear hb hbox hboxw hroww hrow
  go_wp2_with fail
  rw [HDI.out]
  refine (put_ok _ (some ⟨g4, 0, none⟩) L1 L1 gx K1 d L hi ((HROWX4.out.alloc _).rd HCXL.out) HCX.out hk1b hhi32 hd32 HHIF.out (by have := HK1D.out; omega) (by have := HK1D.out; have := HL.out; have := HK2.out; omega)).mono ?_
  rintro e w5 ⟨g5, rfl, hg5, hb, hrow⟩
  rw [HGY.out] at hrow
  rw [HK1D.out]
  simp only [World.size_alloc] at hg5
  have HB5 := Lib.hid (HB4.out.trans (((Below.refl w.heap.size w4).alloc (by omega) (.cells #[.slice (some ⟨g4, 0, none⟩) L1 L1, .int .i64 (K1 : Int)] 28)).trans (hb.mono (by simp; omega))))
  have hs6 : w4.heap.size < w5.heap.size := by have := hb.size; simp at this; omega
  have hs7 : w.heap.size < w5.heap.size := by omega
  have hs8 : w3.heap.size < w5.heap.size := by omega
  have hbox := (hb.block w.heap.size (by simp; omega)).trans ((Below.heap_alloc _ _ _ (by omega)).trans HBOX4.out)
  have hboxw := (hb.block w3.heap.size (by simp; omega)).trans ((Below.heap_alloc _ _ _ (by omega)).trans HBOXW4.out)
  have hroww : Row w5 g L gw := (HROWW4.out.alloc _).below hb (by simp; omega)
  have HROWW5 := Lib.hid hroww; have HROWY5 := Lib.hid hrow
  have hg5b := hrow.lt
  clear k2 k3 k4 k5 j2 j3 j4 j5
  obtain ⟨k2, k3, k4, k5⟩ := pair_cells hbox
  obtain ⟨j2, j3, j4, j5⟩ := pair_cells hboxw
  clear hb hbox hboxw hroww hrow
  go_wp2_with fail
  refine (take_ok _ _ (some ⟨g, 0, none⟩) L L gw k a ((HROWW5.out.alloc _).rd HCW.out) (by omega) (by omega) hka8).mono ?_
  rintro e w' ⟨rfl, rfl⟩
  rw [HTL.out]
  go_wp2_with fail
  rw [HKA.out, HDI.out]
  refine (take_ok _ _ (some ⟨g, 0, none⟩) L L gw K1 d ((HROWW5.out.alloc _).rd HCW.out) hd32 (by omega) (by have := HK1D.out; omega)).mono ?_
  rintro e w' ⟨rfl, rfl⟩
  rw [HTH.out]
  have s1 := run_str (HROWW5.out.alloc (.cells #[.slice (some ⟨g5, 0, none⟩) L L, .int .i64 (K2 : Int)] 28) |>.rd HCW.out) L
  have s2 := run_str (HROWY5.out.alloc (.cells #[.slice (some ⟨g5, 0, none⟩) L L, .int .i64 (K2 : Int)] 28) |>.rd HCW.out) L
  go_wp2
  go_ret
  exact ⟨rfl, HB5.out.alloc (by omega) _⟩
theorem parts_walk (A : Option Addr) (l c : Nat) (f : Nat → Nat) (k : Int) (v : Nat) (m a : Int) (w : World) (hr : RdB w w.heap.size A l f) (_ : A = none → c = 0) (_ : -9223372036854775808 ≤ k) (_ : k ≤ 9223372036854775807)
    (hv : v < 4294967296) (_ : -9223372036854775808 ≤ m) (_ : m ≤ 9223372036854775807) (_ : -9223372036854775808 ≤ a) (_ : a ≤ 9223372036854775807) :
    Calls Try.prog 7 #[.agg #[.slice A l c, .int .i64 k], .int .u32 (v : Int), .int .i64 m, .int .i64 a] w fun e w' => e = .returned (.bool true) ∧ Below w.heap.size w w' := by
  by_cases ho : 10000 < l ∨ m < 0 ∨ 32 < m ∨ a < 0 ∨ m < a
  · exact parts_out A l c k m a v w ho
  · obtain ⟨m, rfl⟩ := Int.eq_ofNat_of_zero_le (show 0 ≤ m by omega)
    obtain ⟨a, rfl⟩ := Int.eq_ofNat_of_zero_le (show 0 ≤ a by omega)
    by_cases h : checkE f l k = 0 ∧ fitsB v m = true ∧ k + m ≤ 8388608
    · obtain ⟨h1, h2, h3⟩ := h
      obtain ⟨K, rfl, _⟩ := check_clean hr.1 h1
      exact parts_ok A l c f K m a v w hr (by omega) hv h1 h2 (by omega) (by omega)
    · exact parts_err A l c f k m a v w hr (by omega) hv (by omega) (by omega) h
set_option maxRecDepth 100000 in
theorem parts_walk_lifted (os : Os) (started : os.Started) (H : Type) (enc : TypeId × Value → H) :
    ReturnsInHanded {} Try.checked os 7 .any (Rows.bitsPartsSpec.pre6 enc Try.prog Try.f7 Rows.bitsPartsRow.domain false) (Rows.bitsPartsSpec.post enc Try.prog Try.f7 false true false false) := by
  refine returnsInHanded_of_change (C := Try.checked) own started (by kernel_rfl) Try.func7
    (ChangeSpec.witness6 (enc := enc) (C := Try.checked) false ⟨#[], #[.agg #[.slice none 0 0, .int .i64 0], .int .u32 0, .int .i64 0, .int .i64 0], []⟩ 8 (by kernel_rfl) (by kernel_rfl) (by kernel_rfl) (by kernel_rfl)) ?_
  intro W base args ds gs before hval0 hW _ _
  have hval : ∀ (j : Nat) t v, Try.f7.params[j]? = some t → args[j]? = some v → Value.okWide Try.prog W .any base t v := hval0
  have hW' := hW
  obtain ⟨p, q, hA0, hV, rfl, _, _⟩ := hW
  have hA : DataW.TrodAll enc Try.prog W 0 (fun _ => true) true Try.f7.params.toList args.toList ds p := hA0
  rw [Try.params7] at hA hval
  obtain ⟨v0, vs0, d0, ds0, p0, q0, hargs, rfl, rfl, h0, r0⟩ := trodAll_cons hA
  obtain ⟨v1, vs1, d1, ds1, p1, q1, rfl, rfl, rfl, h1, r1⟩ := trodAll_cons r0
  obtain ⟨v2, vs2, d2, ds2, p2, q2, rfl, rfl, rfl, h2, r2⟩ := trodAll_cons r1
  obtain ⟨v3, vs3, d3, ds3, p3, q3, rfl, rfl, rfl, h3, r3⟩ := trodAll_cons r2
  obtain ⟨rfl, rfl, rfl⟩ := trodAll_nil r3
  obtain rfl : args = #[v0, v1, v2, v3] := by cases args; simp_all
  obtain ⟨rfl, rfl⟩ := trodVars_none hV
  have k0 := h0
  have lt0 : ∀ x ∈ p0, x.block < W.heap.size := by obtain ⟨m, hm⟩ := k0; exact DataW.trod_lt m _ _ _ hm
  obtain ⟨A0, len0, cap0, f0, a0, rfl, hr0, hn0, u0⟩ := open_pen (hval 0 28 v0 rfl rfl) h0
  have k1 := h1
  have lt1 : ∀ x ∈ p1, x.block < W.heap.size := by obtain ⟨m, hm⟩ := k1; exact DataW.trod_lt m _ _ _ hm
  obtain ⟨a1, rfl, rfl, rfl, w1⟩ := open_int Try.underlying23 (hval 1 23 v1 rfl rfl) h1
  have u1 := wf_u32_range w1
  obtain ⟨a1, rfl⟩ := Int.eq_ofNat_of_zero_le u1.1
  have k2 := h2
  have lt2 : ∀ x ∈ p2, x.block < W.heap.size := by obtain ⟨m, hm⟩ := k2; exact DataW.trod_lt m _ _ _ hm
  obtain ⟨a2, rfl, rfl, rfl, w2⟩ := open_int Try.underlying3 (hval 2 3 v2 rfl rfl) h2
  have u2 := wf_i64_range w2
  have k3 := h3
  have lt3 : ∀ x ∈ p3, x.block < W.heap.size := by obtain ⟨m, hm⟩ := k3; exact DataW.trod_lt m _ _ _ hm
  obtain ⟨a3, rfl, rfl, rfl, w3⟩ := open_int Try.underlying3 (hval 3 3 v3 rfl rfl) h3
  have u3 := wf_i64_range w3
  clear hA0 hval0
  refine (parts_walk A0 len0 cap0 f0 a0 a1 a2 a3 W hr0 hn0 u0.1 u0.2 (by omega) u2.1 u2.2 u3.1 u3.2).mono fun e W' ⟨he, bel⟩ => ?_
  subst he
  exact ⟨_, rfl, _, _, _, [], _, [], hW', trodAll_mk1 (shut_bool Try.underlying4 _), (trodAll_cons_mk (Below.trod laidOut (by kernel_rfl) (of_decide_eq_true (by kernel_rfl)) k0 bel lt0) (trodAll_cons_mk (Below.trod laidOut (by kernel_rfl) (of_decide_eq_true (by kernel_rfl)) k1 bel lt1) (trodAll_cons_mk (Below.trod laidOut (by kernel_rfl) (of_decide_eq_true (by kernel_rfl)) k2 bel lt2) (trodAll_cons_mk (Below.trod laidOut (by kernel_rfl) (of_decide_eq_true (by kernel_rfl)) k3 bel lt3) trodAll_mk0)))), rfl, bel.frame _, fun h => by cases h⟩
theorem parts_walk_holds : Rows.BitsPartsSaid :=
  OpenClaim.holds_of_wide 7 Try.f7 rfl rfl rfl rfl rfl rfl rfl ⟨rfl, rfl, rfl, rfl, rfl⟩ rfl rfl rfl rfl rfl (by kernel_rfl) Try.func7 (by kernel_rfl)
    (of_decide_eq_true (by kernel_rfl)) (by unfold Func.isWrapper; first | (rw [if_pos (by decide +kernel)]; kernel_rfl) | (rw [if_neg (by decide +kernel)]; exact ⟨rfl, rfl⟩))
    (fun os started H enc _ => parts_walk_lifted os started H enc)
#print axioms parts_walk_holds
end Go.Proofs.Ytniekmnjnnkieaa
