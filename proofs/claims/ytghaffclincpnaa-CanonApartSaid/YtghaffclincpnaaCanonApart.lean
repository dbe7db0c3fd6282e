/-
  For every lengths, limit and two places: the law CanonApart returns true, and its arguments read as they did. No condition beside the statement's own.
-/
import Derived.Test.YtghaffclincpnaaCanonBegins
namespace Go.Proofs.Ytghaffclincpnaa
open Go.RowKit Go.ChangeShapes Go.WideShapes Go.ChangeAt
set_option maxRecDepth 100000 in
set_option maxHeartbeats 2000000 in
theorem apart_err (A : Option Addr) (n c : Nat) (f : Nat → Nat) (most i k : Int) (w : World) (hr : RdB w w.heap.size A n f) (hn : n ≤ 1000) (h0 : checkE f n most ≠ 0) :
    Calls Try.prog 5 #[.slice A n c, .int .i64 most, .int .i64 i, .int .i64 k] w fun e w' => e = .returned (.bool true) ∧ Below w.heap.size w w' := by
  have HR := Lib.hid hr
  clear hr
  have hd : decide ((1000 : Int) < (n : Int)) = false := by simp; omega
  have hl : lenC f n most = 0 := by unfold lenC; rw [if_neg h0]
  have hne : (checkE f n most != 0) = true := by simpa using h0
  have HL := Lib.hid hl
  clear hl
  obtain ⟨E, hE⟩ : ∃ E, E = checkE f n most := ⟨_, rfl⟩
  rw [← hE] at hne
  have HE := Lib.hid hE
  clear h0 hE
  go_enter Try.func5, Try.ntmps5
  go_wp2_with fail
  refine (alive_any w).mono ?_
  rintro e w1 ⟨rfl, b1⟩
  have HB1 := Lib.hid b1
  clear b1
  go_wp2_with fail
  refine (codes_any w1 A n c f most ((HR.out.below HB1.out (Nat.le_refl _)).more HB1.out.size) (by omega)).mono ?_
  rintro e w2 ⟨A', c', rfl, hb, ho⟩
  rw [← HE.out, HL.out]
  have HB2 := Lib.hid (HB1.out.trans (hb.mono HB1.out.size))
  clear hb ho
  go_wp2
  go_ret
  exact ⟨rfl, HB2.out⟩
/-- Behind the codes: neither place is out of bounds, or one is. -/
def outB (n : Nat) (i k : Int) : Prop := i < 0 ∨ (n : Int) ≤ i ∨ k < 0 ∨ (n : Int) ≤ k
set_option maxRecDepth 100000 in
set_option maxHeartbeats 2000000 in
theorem apart_out (A : Option Addr) (n c : Nat) (f : Nat → Nat) (most i k : Int) (w : World) (hr : RdB w w.heap.size A n f) (hn : n ≤ 1000) (h0 : checkE f n most = 0) (hi : i < 0 ∨ (n : Int) ≤ i ∨ k < 0 ∨ (n : Int) ≤ k) :
    Calls Try.prog 5 #[.slice A n c, .int .i64 most, .int .i64 i, .int .i64 k] w fun e w' => e = .returned (.bool true) ∧ Below w.heap.size w w' := by
  have HR := Lib.hid hr
  clear hr
  have hd : decide ((1000 : Int) < (n : Int)) = false := by simp; omega
  have hl : lenC f n most = n := by unfold lenC; rw [if_pos h0]
  have HL := Lib.hid hl; have H0 := Lib.hid h0; have HI := Lib.hid hi
  have hnn : ((n : Int) != (n : Int)) = false := by simp
  clear hl h0 hi
  go_enter Try.func5, Try.ntmps5
  go_wp2_with fail
  refine (alive_any w).mono ?_
  rintro e w1 ⟨rfl, b1⟩
  have HB1 := Lib.hid b1
  clear b1
  go_wp2_with fail
  refine (codes_any w1 A n c f most ((HR.out.below HB1.out (Nat.le_refl _)).more HB1.out.size) (by omega)).mono ?_
  rintro e w2 ⟨A', c', rfl, hb, ho⟩
  rw [H0.out, HL.out]
  have HB2 := Lib.hid (HB1.out.trans (hb.mono HB1.out.size))
  clear hb ho
  by_cases g1 : i < 0
  · have d1 : decide (i < 0) = true := by simpa using g1
    go_wp2
    go_ret
    exact ⟨rfl, HB2.out⟩
  · have d1 : decide (i < 0) = false := by simpa using g1
    by_cases g2 : (n : Int) ≤ i
    · have d2 : decide ((n : Int) ≤ i) = true := by simpa using g2
      go_wp2
      go_ret
      exact ⟨rfl, HB2.out⟩
    · have d2 : decide ((n : Int) ≤ i) = false := by simp; omega
      by_cases g3 : k < 0
      · have d3 : decide (k < 0) = true := by simpa using g3
        go_wp2
        go_ret
        exact ⟨rfl, HB2.out⟩
      · have d3 : decide (k < 0) = false := by simpa using g3
        have g4 : (n : Int) ≤ k := by have := HI.out; omega
        have d4 : decide ((n : Int) ≤ k) = true := by simpa using g4
        go_wp2
        go_ret
        exact ⟨rfl, HB2.out⟩
set_option maxRecDepth 100000 in
set_option maxHeartbeats 2000000 in
theorem apart_in (A : Option Addr) (n c : Nat) (f : Nat → Nat) (most : Int) (i k : Nat) (w : World) (hr : RdB w w.heap.size A n f) (hn : n ≤ 1000) (h0 : checkE f n most = 0) (hi : i < n) (hk : k < n) :
    Calls Try.prog 5 #[.slice A n c, .int .i64 most, .int .i64 (i : Int), .int .i64 (k : Int)] w fun e w' => e = .returned (.bool true) ∧ Below w.heap.size w w' := by
  obtain ⟨_, hm15, _, hbd, hall, _⟩ := check_ok h0
  have h15 : ∀ j, j < n → f j ≤ 15 := fun j hj => by have := hbd j hj; omega
  have hfit := fits_code hi h15 hall
  have hap : i ≠ k → beginsB (codeB f n i) (f i) (codeB f n k) (f k) = false := fun h => begins_apart hi hk h15 h
  have HR := Lib.hid hr; have HF := Lib.hid hr.1; have HAP := Lib.hid hap; have HFIT := Lib.hid hfit
  have hi15 := h15 i hi
  have hk15 := h15 k hk
  clear hr hbd hall h15 hap hfit hm15
  have hd : decide ((1000 : Int) < (n : Int)) = false := by simp; omega
  have hl : lenC f n most = n := by unfold lenC; rw [if_pos h0]
  have hxi := codeX_in h0 i hi
  have hxk := codeX_in h0 k hk
  have HL := Lib.hid hl; have H0 := Lib.hid h0; have HXI := Lib.hid hxi; have HXK := Lib.hid hxk
  have hnn : ((n : Int) != (n : Int)) = false := by simp
  have d1 : decide ((i : Int) < 0) = false := by simp
  have d2 : decide ((n : Int) ≤ (i : Int)) = false := by simp; omega
  have d3 : decide ((k : Int) < 0) = false := by simp
  have d4 : decide ((n : Int) ≤ (k : Int)) = false := by simp; omega
  clear hl h0 hxi hxk
  go_enter Try.func5, Try.ntmps5
  go_wp2_with fail
  refine (alive_any w).mono ?_
  rintro e w1 ⟨rfl, b1⟩
  have HB1 := Lib.hid b1
  clear b1
  go_wp2_with fail
  refine (codes_any w1 A n c f most ((HR.out.below HB1.out (Nat.le_refl _)).more HB1.out.size) (by omega)).mono ?_
  rintro e w2 ⟨A', c', rfl, hb, ho⟩
  rw [H0.out, HL.out]
  rw [HL.out] at ho
  have HB2 := Lib.hid (HB1.out.trans (hb.mono HB1.out.size))
  have HC := Lib.hid (ho.rd (codeX_lt f n most) HF.out)
  clear hb ho
  obtain ⟨b, o, rfl, hbl, hc⟩ := HC.out.at (by omega)
  obtain ⟨k1, k2⟩ := hc i hi
  obtain ⟨k3, k4⟩ := hc k hk
  rw [HXI.out] at k1
  rw [HXK.out] at k3
  obtain ⟨bo, oo, rfl, _, hco⟩ := (HR.out.below HB2.out (Nat.le_refl _)).2 (by omega)
  have k5 := hco i hi
  have hcl : codeB f n i < 4294967296 := by rw [← HXI.out]; exact codeX_lt f n most i
  have hcl2 : codeB f n k < 4294967296 := by rw [← HXK.out]; exact codeX_lt f n most k
  obtain ⟨x, hx⟩ : ∃ x, x = codeB f n i := ⟨_, rfl⟩
  obtain ⟨y, hy⟩ : ∃ x, x = codeB f n k := ⟨_, rfl⟩
  rw [← hx] at k1 hcl HAP HFIT
  rw [← hy] at k3 hcl2 HAP
  clear hx hy hc hco
  have hf8i := HF.out i
  have hf8k := HF.out k
  have hp : decide ((x : Int) < IntKind.u64.wrap (2 ^ f i)) = true := by
    have h1 := HFIT.out
    have e : ((2 : Int) ^ f i) = ((2 ^ f i : Nat) : Int) := by rw [Int.natCast_pow]; rfl
    have h2 : (2 : Nat) ^ f i ≤ 2 ^ 15 := Nat.pow_le_pow_right (by omega) hi15
    have h3 : (2 : Nat) ^ 15 = 32768 := rfl
    rw [e, IntKind.wrap_u64]
    exact decide_eq_true (by omega)
  go_wp2
  go_quiet (fail)
  clear hp
  obtain ⟨U, hU⟩ : ∃ U, U = w2.drewN nq := ⟨_, rfl⟩
  have hbU : Below w2.heap.size w2 U := by rw [hU]; exact below_drewN (Below.refl _ _) _
  have hsU : U.heap.size = w2.heap.size := by rw [hU]; rfl
  rw [← hU]
  by_cases he : i = k
  · subst he
    have HV := Lib.hid (HB2.out.trans (hbU.mono HB2.out.size))
    have hee : ((i : Int) == (i : Int)) = true := by simp
    clear hbU hsU hU
    go_wp2
    go_quiet (fail)
    go_wp2
    go_ret
    exact ⟨rfl, below_drewN HV.out _⟩
  · have hee : ((i : Int) == (k : Int)) = false := by simp; omega
    have T1 := Lib.hid (fun (V : World) (hV : Below U.heap.size U V) => show Calls Try.prog 16 #[.agg #[.int .u32 (x : Int), .int .u8 (f i : Int)], .agg #[.int .u32 (y : Int), .int .u8 (f k : Int)]] V fun e V' => e = .returned (.bool false) ∧ Below U.heap.size U V' from
      (begins_any V x (f i) y (f k) hcl hf8i hcl2 (by omega)).mono fun _ _ ⟨a, b⟩ => ⟨HAP.out he ▸ a, hV.trans (b.mono hV.size)⟩)
    have hcell : ∀ (p : After U.heap.size U) (j : Nat) (v : Value), w2.cell? ⟨b, j, none⟩ = some v → p.w.cell? ⟨b, j, none⟩ = some v := fun p j v h => by
      rw [p.h.cell (p := ⟨b, j, none⟩) (by show b < U.heap.size; omega), hbU.cell (p := ⟨b, j, none⟩) hbl]; exact h
    have q1 : ∀ p : After U.heap.size U, p.w.cell? ⟨b, o + i * 2, none⟩ = some (.int .u32 (x : Int)) := fun p => hcell p _ _ k1
    have q2 : ∀ p : After U.heap.size U, p.w.cell? ⟨b, o + i * 2 + 1, none⟩ = some (.int .u8 (f i : Int)) := fun p => hcell p _ _ k2
    have q3 : ∀ p : After U.heap.size U, p.w.cell? ⟨b, o + k * 2, none⟩ = some (.int .u32 (y : Int)) := fun p => hcell p _ _ k3
    have q4 : ∀ p : After U.heap.size U, p.w.cell? ⟨b, o + k * 2 + 1, none⟩ = some (.int .u8 (f k : Int)) := fun p => hcell p _ _ k4
    have HBU := Lib.hid hbU
    clear hcell k1 k2 k3 k4 k5 hbU hU he
    go_wp2
    refine wp_region_after U.heap.size U (Below.refl _ _) (by kernel_rfl) (by kernel_rfl) ?_
    repeat (go_big_quiet_step (with_reducible exact call_after T1.out _))
    refine wpQuiet_nil ?_
    rintro V ⟨⟨_, hV⟩, rfl⟩
    have HV := Lib.hid ((HB2.out.trans (HBU.out.mono HB2.out.size)).trans (hV.mono (by have := HB2.out.size; omega)))
    clear hV q1 q2 q3 q4
    go_wp2
    go_ret
    exact ⟨rfl, HV.out⟩
theorem apart_law (A : Option Addr) (n c : Nat) (f : Nat → Nat) (most i k : Int) (w : World) (hr : RdB w w.heap.size A n f) (_hA : A = none → c = 0) (_h0 : -9223372036854775808 ≤ most) (_h1 : most ≤ 9223372036854775807) (_h2 : -9223372036854775808 ≤ i) (_h3 : i ≤ 9223372036854775807) (_h4 : -9223372036854775808 ≤ k) (_h5 : k ≤ 9223372036854775807) :
    Calls Try.prog 5 #[.slice A n c, .int .i64 most, .int .i64 i, .int .i64 k] w fun e w' => e = .returned (.bool true) ∧ Below w.heap.size w w' := by
  by_cases h : n ≤ 1000
  · by_cases h0 : checkE f n most = 0
    · by_cases hi : i < 0 ∨ (n : Int) ≤ i ∨ k < 0 ∨ (n : Int) ≤ k
      · exact apart_out A n c f most i k w hr h h0 hi
      · obtain ⟨i, rfl⟩ := Int.eq_ofNat_of_zero_le (show 0 ≤ i by omega)
        obtain ⟨k, rfl⟩ := Int.eq_ofNat_of_zero_le (show 0 ≤ k by omega)
        exact apart_in A n c f most i k w hr h h0 (by omega) (by omega)
    · exact apart_err A n c f most i k w hr h h0
  · have hlt : decide ((1000 : Int) < (n : Int)) = true := by simp; omega
    clear h
    go_enter Try.func5, Try.ntmps5
    go_wp2_with fail
    refine (alive_any w).mono ?_
    rintro e w1 ⟨rfl, b1⟩
    have HB1 := Lib.hid b1
    clear b1
    go_wp2
    go_ret
    exact ⟨rfl, HB1.out⟩
-- LAW
set_option maxRecDepth 100000 in
theorem apart_law_lifted (os : Os) (started : os.Started) (H : Type) (enc : TypeId × Value → H) :
    ReturnsInHanded {} Try.checked os 5 .any (Rows.canonApartSpec.pre6 enc Try.prog Try.f5 Rows.canonApartRow.domain false) (Rows.canonApartSpec.post enc Try.prog Try.f5 false true false false) := by
  refine returnsInHanded_of_change (C := Try.checked) own started (by kernel_rfl) Try.func5
    (ChangeSpec.witness6 (enc := enc) (C := Try.checked) false ⟨#[], #[.slice none 0 0, .int .i64 0, .int .i64 0, .int .i64 0], []⟩ 8 (by kernel_rfl) (by kernel_rfl) (by kernel_rfl) (by kernel_rfl)) ?_
  intro W base args ds gs before hval0 hW _ _
  have hval : ∀ (j : Nat) t v, Try.f5.params[j]? = some t → args[j]? = some v → Value.okWide Try.prog W .any base t v := hval0
  have hW' := hW
  obtain ⟨p, q, hA0, hV, rfl, _, _⟩ := hW
  have hA : DataW.TrodAll enc Try.prog W 0 (fun _ => true) true Try.f5.params.toList args.toList ds p := hA0
  rw [Try.params5] at hA hval
  obtain ⟨v0, vs0, d0, ds0, p0, q0, hargs, rfl, rfl, h0, r0⟩ := trodAll_cons hA
  obtain ⟨v1, vs1, d1, ds1, p1, q1, rfl, rfl, rfl, h1, r1⟩ := trodAll_cons r0
  obtain ⟨v2, vs2, d2, ds2, p2, q2, rfl, rfl, rfl, h2, r2⟩ := trodAll_cons r1
  obtain ⟨v3, vs3, d3, ds3, p3, q3, rfl, rfl, rfl, h3, r3⟩ := trodAll_cons r2
  obtain ⟨rfl, rfl, rfl⟩ := trodAll_nil r3
  obtain rfl : args = #[v0, v1, v2, v3] := by cases args; simp_all
  obtain ⟨rfl, rfl⟩ := trodVars_none hV
  have k0 := h0
  have lt0 : ∀ x ∈ p0, x.block < W.heap.size := by obtain ⟨m, hm⟩ := k0; exact DataW.trod_lt m _ _ _ hm
  obtain ⟨A0, len0, cap0, rfl⟩ := okWide_slice Try.underlying23 (hval 0 23 v0 rfl rfl)
  obtain ⟨f0, hr0, hn0, hl0, hm0⟩ := open_bytes h0
  have k1 := h1
  have lt1 : ∀ x ∈ p1, x.block < W.heap.size := by obtain ⟨m, hm⟩ := k1; exact DataW.trod_lt m _ _ _ hm
  obtain ⟨a1, rfl, rfl, rfl, w1⟩ := open_int Try.underlying3 (hval 1 3 v1 rfl rfl) h1
  have u1 := wf_i64_range w1
  have k2 := h2
  have lt2 : ∀ x ∈ p2, x.block < W.heap.size := by obtain ⟨m, hm⟩ := k2; exact DataW.trod_lt m _ _ _ hm
  obtain ⟨a2, rfl, rfl, rfl, w2⟩ := open_int Try.underlying3 (hval 2 3 v2 rfl rfl) h2
  have u2 := wf_i64_range w2
  have k3 := h3
  have lt3 : ∀ x ∈ p3, x.block < W.heap.size := by obtain ⟨m, hm⟩ := k3; exact DataW.trod_lt m _ _ _ hm
  obtain ⟨a3, rfl, rfl, rfl, w3⟩ := open_int Try.underlying3 (hval 3 3 v3 rfl rfl) h3
  have u3 := wf_i64_range w3
  clear hA0 hval0
  refine (apart_law A0 len0 cap0 f0 a1 a2 a3 W hr0 hn0 u1.1 u1.2 u2.1 u2.2 u3.1 u3.2).mono fun e W' ⟨he, bel⟩ => ?_
  subst he
  exact ⟨_, rfl, _, _, _, [], _, [], hW', trodAll_mk1 (shut_bool Try.underlying4 _), (trodAll_cons_mk (Below.trod laidOut (by kernel_rfl) (of_decide_eq_true (by kernel_rfl)) k0 bel lt0) (trodAll_cons_mk (Below.trod laidOut (by kernel_rfl) (of_decide_eq_true (by kernel_rfl)) k1 bel lt1) (trodAll_cons_mk (Below.trod laidOut (by kernel_rfl) (of_decide_eq_true (by kernel_rfl)) k2 bel lt2) (trodAll_cons_mk (Below.trod laidOut (by kernel_rfl) (of_decide_eq_true (by kernel_rfl)) k3 bel lt3) trodAll_mk0)))), rfl, bel.frame _, fun h => by cases h⟩
theorem apart_law_holds : Rows.CanonApartSaid :=
  OpenClaim.holds_of_wide 5 Try.f5 rfl rfl rfl rfl rfl rfl rfl ⟨rfl, rfl, rfl, rfl, rfl⟩ rfl rfl rfl rfl rfl (by kernel_rfl) Try.func5 (by kernel_rfl)
    (of_decide_eq_true (by kernel_rfl)) (by unfold Func.isWrapper; first | (rw [if_pos (by decide +kernel)]; kernel_rfl) | (rw [if_neg (by decide +kernel)]; exact ⟨rfl, rfl⟩))
    (fun os started H enc _ => apart_law_lifted os started H enc)
#print axioms apart_law_holds
end Go.Proofs.Ytghaffclincpnaa
