/-
  For every number, bit count and place: the law BitsTurned returns true, and its arguments read as they did. No condition beside the statement's own.
-/
import Derived.Test.YtniekmnjnnkieaaAli
import Derived.Test.YtniekmnjnnkieaaTakes
namespace Go.Proofs.Ytniekmnjnnkieaa
open Go.RowKit Go.ChangeShapes Go.WideShapes Go.ChangeAt
theorem turnN_bit (v : Nat) : ∀ n j, j < n → (turnN v n).testBit j = v.testBit (n - 1 - j)
  | 0, j, h => by omega
  | n + 1, j, h => by
    have e : turnN v (n + 1) = 2 * turnN v n + v / 2 ^ n % 2 := rfl
    rw [e]
    have hb : v / 2 ^ n % 2 < 2 := Nat.mod_lt _ (by omega)
    cases j with
    | zero =>
      rw [Nat.testBit_zero, Nat.add_sub_cancel, Nat.sub_zero, Nat.testBit_eq_decide_div_mod_eq]
      congr 1
      rw [eq_iff_iff]; omega
    | succ j =>
      rw [Nat.testBit_succ, show (2 * turnN v n + v / 2 ^ n % 2) / 2 = turnN v n by omega, turnN_bit v n j (by omega)]
      congr 1; omega
theorem turnN_twice (v n : Nat) (h : v < 2 ^ n) : turnN (turnN v n) n = v := by
  apply Nat.eq_of_testBit_eq
  intro j
  by_cases hj : j < n
  · rw [turnN_bit _ _ _ hj, turnN_bit _ _ _ (by omega)]
    congr 1; omega
  · rw [Nat.testBit_lt_two_pow (Nat.lt_of_lt_of_le (turnN_lt _ _) (Nat.pow_le_pow_right (by omega) (by omega))), Nat.testBit_lt_two_pow (Nat.lt_of_lt_of_le h (Nat.pow_le_pow_right (by omega) (by omega)))]
theorem turnN_mirror (v n i : Nat) (h : i < n) : turnN v n / 2 ^ (n - 1 - i) % 2 = v / 2 ^ i % 2 := by
  have h1 := turnN_bit v n (n - 1 - i) (by omega)
  rw [show n - 1 - (n - 1 - i) = i by omega, Nat.testBit_eq_decide_div_mod_eq, Nat.testBit_eq_decide_div_mod_eq, decide_eq_decide] at h1
  have a := Nat.mod_lt (turnN v n / 2 ^ (n - 1 - i)) (show 0 < 2 by omega)
  have b := Nat.mod_lt (v / 2 ^ i) (show 0 < 2 by omega)
  omega
set_option maxHeartbeats 1000000 in
theorem turned_bad (v : Nat) (n : Int) (i : Nat) (w : World) (hv : v < 4294967296) (hn0 : -9223372036854775808 ≤ n) (hn1 : n ≤ 9223372036854775807) (hf : fitsB v n = false) :
    Calls Try.prog 8 #[.int .u32 (v : Int), .int .i64 n, .int .u8 (i : Int)] w fun e w' => e = .returned (.bool true) ∧ Below w.heap.size w w' := by
  go_enter Try.func8, Try.ntmps8
  go_wp2_with fail
  refine (alive_any _).mono ?_
  rintro e w2 ⟨rfl, hb⟩
  have HB := Lib.hid hb
  clear hb
  go_wp2_with (go_at_call 13; refine (turn_bad _ _ _ (by omega) (by omega) hn0 hn1 hf).mono ?_; rintro e w' ⟨rfl, rfl⟩)
  go_ret
  exact ⟨rfl, HB.out⟩
set_option maxHeartbeats 1000000 in
theorem turned_ok (v n i : Nat) (w : World) (hv : v < 4294967296) (hn : n ≤ 32) (hi : i < 256) (hf : fitsB v n = true) :
    Calls Try.prog 8 #[.int .u32 (v : Int), .int .i64 (n : Int), .int .u8 (i : Int)] w fun e w' => e = .returned (.bool true) ∧ Below w.heap.size w w' := by
  have h2 := turnN_twice v n (fitsB_nat.1 hf).2
  have ht : turnN v n < 4294967296 := lt_32 (turnN_lt v n) hn
  have hf2 : fitsB (turnN v n : Nat) n = true := fitsB_nat.2 ⟨hn, turnN_lt v n⟩
  by_cases hlt : i < n
  · have h3 : bits .and .u32 ((v : Int) / 2 ^ i) 1 = bits .and .u32 ((turnN v n : Int) / 2 ^ (n - 1 - i)) 1 := by
      rw [bit_cast v i hv, bit_cast _ _ ht, turnN_mirror v n i hlt]
    have H2 := Lib.hid h2
    have H3 := Lib.hid h3
    clear h2 h3
    go_enter Try.func8, Try.ntmps8
    go_wp2_with fail
    refine (alive_any _).mono ?_
    rintro e w2 ⟨rfl, hb⟩
    have HB := Lib.hid hb
    clear hb
    go_wp2_with fail
    refine (turn_ok v n _ hv hn hf).mono ?_
    rintro e w' ⟨rfl, rfl⟩
    go_wp2_with fail
    refine (turn_ok (turnN v n) n _ ht hn hf2).mono ?_
    rintro e w' ⟨rfl, rfl⟩
    rw [H2.out]
    go_wp2
    go_ret
    exact ⟨ret_bool (by rw [H3.out]; simp), HB.out⟩
  · have H2 := Lib.hid h2
    clear h2
    go_enter Try.func8, Try.ntmps8
    go_wp2_with fail
    refine (alive_any _).mono ?_
    rintro e w2 ⟨rfl, hb⟩
    have HB := Lib.hid hb
    clear hb
    go_wp2_with fail
    refine (turn_ok v n _ hv hn hf).mono ?_
    rintro e w' ⟨rfl, rfl⟩
    go_wp2_with fail
    refine (turn_ok (turnN v n) n _ ht hn hf2).mono ?_
    rintro e w' ⟨rfl, rfl⟩
    rw [H2.out]
    go_wp2
    go_ret
    exact ⟨rfl, HB.out⟩
theorem wf_u8_range {n : Int} (h : (Lit.int .u8 n).wf = true) : 0 ≤ n ∧ n < 256 := by
  simp [Lit.wf, IntKind.min, IntKind.max, IntKind.signed, IntKind.bits] at h; omega
theorem turned_walk (v : Nat) (n : Int) (i : Nat) (w : World) (hv : v < 4294967296) (hn0 : -9223372036854775808 ≤ n) (hn1 : n ≤ 9223372036854775807) (hi : i < 256) :
    Calls Try.prog 8 #[.int .u32 (v : Int), .int .i64 n, .int .u8 (i : Int)] w fun e w' => e = .returned (.bool true) ∧ Below w.heap.size w w' := by
  cases hf : fitsB v n with
  | false => exact turned_bad v n i w hv hn0 hn1 hf
  | true =>
    obtain ⟨y, rfl, hy⟩ := fitsB_int hf
    exact turned_ok v y i w hv hy hi hf
set_option maxRecDepth 100000 in
theorem turned_walk_lifted (os : Os) (started : os.Started) (H : Type) (enc : TypeId × Value → H) :
    ReturnsInHanded {} Try.checked os 8 .any (Rows.bitsTurnedSpec.pre6 enc Try.prog Try.f8 Rows.bitsTurnedRow.domain false) (Rows.bitsTurnedSpec.post enc Try.prog Try.f8 false true false false) := by
  refine returnsInHanded_of_change (C := Try.checked) own started (by kernel_rfl) Try.func8
    (ChangeSpec.witness6 (enc := enc) (C := Try.checked) false ⟨#[], #[.int .u32 0, .int .i64 0, .int .u8 0], []⟩ 8 (by kernel_rfl) (by kernel_rfl) (by kernel_rfl) (by kernel_rfl)) ?_
  intro W base args ds gs before hval0 hW _ _
  have hval : ∀ (j : Nat) t v, Try.f8.params[j]? = some t → args[j]? = some v → Value.okWide Try.prog W .any base t v := hval0
  have hW' := hW
  obtain ⟨p, q, hA0, hV, rfl, _, _⟩ := hW
  have hA : DataW.TrodAll enc Try.prog W 0 (fun _ => true) true Try.f8.params.toList args.toList ds p := hA0
  rw [Try.params8] at hA hval
  obtain ⟨v0, vs0, d0, ds0, p0, q0, hargs, rfl, rfl, h0, r0⟩ := trodAll_cons hA
  obtain ⟨v1, vs1, d1, ds1, p1, q1, rfl, rfl, rfl, h1, r1⟩ := trodAll_cons r0
  obtain ⟨v2, vs2, d2, ds2, p2, q2, rfl, rfl, rfl, h2, r2⟩ := trodAll_cons r1
  obtain ⟨rfl, rfl, rfl⟩ := trodAll_nil r2
  obtain rfl : args = #[v0, v1, v2] := by cases args; simp_all
  obtain ⟨rfl, rfl⟩ := trodVars_none hV
  have k0 := h0
  have lt0 : ∀ x ∈ p0, x.block < W.heap.size := by obtain ⟨m, hm⟩ := k0; exact DataW.trod_lt m _ _ _ hm
  obtain ⟨a0, rfl, rfl, rfl, w0⟩ := open_int Try.underlying23 (hval 0 23 v0 rfl rfl) h0
  have u0 := wf_u32_range w0
  obtain ⟨a0, rfl⟩ := Int.eq_ofNat_of_zero_le u0.1
  have k1 := h1
  have lt1 : ∀ x ∈ p1, x.block < W.heap.size := by obtain ⟨m, hm⟩ := k1; exact DataW.trod_lt m _ _ _ hm
  obtain ⟨a1, rfl, rfl, rfl, w1⟩ := open_int Try.underlying3 (hval 1 3 v1 rfl rfl) h1
  have u1 := wf_i64_range w1
  have k2 := h2
  have lt2 : ∀ x ∈ p2, x.block < W.heap.size := by obtain ⟨m, hm⟩ := k2; exact DataW.trod_lt m _ _ _ hm
  obtain ⟨a2, rfl, rfl, rfl, w2⟩ := open_int Try.underlying5 (hval 2 5 v2 rfl rfl) h2
  have u2 := wf_u8_range w2
  obtain ⟨a2, rfl⟩ := Int.eq_ofNat_of_zero_le u2.1
  clear hA0 hval0
  refine (turned_walk a0 a1 a2 W (by omega) u1.1 u1.2 (by omega)).mono fun e W' ⟨he, bel⟩ => ?_
  subst he
  exact ⟨_, rfl, _, _, _, [], _, [], hW', trodAll_mk1 (shut_bool Try.underlying4 _), (trodAll_cons_mk (Below.trod laidOut (by kernel_rfl) (of_decide_eq_true (by kernel_rfl)) k0 bel lt0) (trodAll_cons_mk (Below.trod laidOut (by kernel_rfl) (of_decide_eq_true (by kernel_rfl)) k1 bel lt1) (trodAll_cons_mk (Below.trod laidOut (by kernel_rfl) (of_decide_eq_true (by kernel_rfl)) k2 bel lt2) trodAll_mk0))), rfl, bel.frame _, fun h => by cases h⟩
theorem turned_walk_holds : Rows.BitsTurnedSaid :=
  OpenClaim.holds_of_wide 8 Try.f8 rfl rfl rfl rfl rfl rfl rfl ⟨rfl, rfl, rfl, rfl, rfl⟩ rfl rfl rfl rfl rfl (by kernel_rfl) Try.func8 (by kernel_rfl)
    (of_decide_eq_true (by kernel_rfl)) (by unfold Func.isWrapper; first | (rw [if_pos (by decide +kernel)]; kernel_rfl) | (rw [if_neg (by decide +kernel)]; exact ⟨rfl, rfl⟩))
    (fun os started H enc _ => turned_walk_lifted os started H enc)
#print axioms turned_walk_holds
end Go.Proofs.Ytniekmnjnnkieaa
