/-
  For every lengths, limit and two places: the law CanonOrder returns true, and its arguments read as they did. No condition beside the statement's own.
-/
import Derived.Test.YtghaffclincpnaaCanonBegins
namespace Go.Proofs.Ytghaffclincpnaa
open Go.RowKit Go.ChangeShapes Go.WideShapes Go.ChangeAt
set_option maxRecDepth 100000 in
set_option maxHeartbeats 2000000 in
theorem order_err (A : Option Addr) (n c : Nat) (f : Nat → Nat) (most i k : Int) (w : World) (hr : RdB w w.heap.size A n f) (hn : n ≤ 1000) (h0 : checkE f n most ≠ 0) :
    Calls Try.prog 7 #[.slice A n c, .int .i64 most, .int .i64 i, .int .i64 k] w fun e w' => e = .returned (.bool true) ∧ Below w.heap.size w w' := by
  have HR := Lib.hid hr
  clear hr
  have hd : decide ((1000 : Int) < (n : Int)) = false := by simp; omega
  have hl : lenC f n most = 0 := by unfold lenC; rw [if_neg h0]
  have hne : (checkE f n most != 0) = true := by simpa using h0
  have HL := Lib.hid hl
  clear hl
  obtain ⟨E, hE⟩ : ∃ E, E = checkE f n most := ⟨_, rfl⟩
  rw [← hE] at hne
  have HE := Lib.hid hE
  clear h0 hE
  go_enter Try.func7, Try.ntmps7
  go_wp2_with fail
  refine (alive_any w).mono ?_
  rintro e w1 ⟨rfl, b1⟩
  have HB1 := Lib.hid b1
  clear b1
  go_wp2_with fail
  refine (codes_any w1 A n c f most ((HR.out.below HB1.out (Nat.le_refl _)).more HB1.out.size) (by omega)).mono ?_
  rintro e w2 ⟨A', c', rfl, hb, ho⟩
  rw [← HE.out, HL.out]
  have HB2 := Lib.hid (HB1.out.trans (hb.mono HB1.out.size))
  clear hb ho
  go_wp2
  go_ret
  exact ⟨rfl, HB2.out⟩
set_option maxRecDepth 100000 in
set_option maxHeartbeats 2000000 in
theorem order_out (A : Option Addr) (n c : Nat) (f : Nat → Nat) (most i k : Int) (w : World) (hr : RdB w w.heap.size A n f) (hn : n ≤ 1000) (h0 : checkE f n most = 0) (hi : i < 0 ∨ (n : Int) ≤ i ∨ k < 0 ∨ (n : Int) ≤ k) :
    Calls Try.prog 7 #[.slice A n c, .int .i64 most, .int .i64 i, .int .i64 k] w fun e w' => e = .returned (.bool true) ∧ Below w.heap.size w w' := by
  have HR := Lib.hid hr
  clear hr
  have hd : decide ((1000 : Int) < (n : Int)) = false := by simp; omega
  have hl : lenC f n most = n := by unfold lenC; rw [if_pos h0]
  have HL := Lib.hid hl; have H0 := Lib.hid h0; have HI := Lib.hid hi
  have hnn : ((n : Int) != (n : Int)) = false := by simp
  clear hl h0 hi
  go_enter Try.func7, Try.ntmps7
  go_wp2_with fail
  refine (alive_any w).mono ?_
  rintro e w1 ⟨rfl, b1⟩
  have HB1 := Lib.hid b1
  clear b1
  go_wp2_with fail
  refine (codes_any w1 A n c f most ((HR.out.below HB1.out (Nat.le_refl _)).more HB1.out.size) (by omega)).mono ?_
  rintro e w2 ⟨A', c', rfl, hb, ho⟩
  rw [H0.out, HL.out]
  have HB2 := Lib.hid (HB1.out.trans (hb.mono HB1.out.size))
  clear hb ho
  by_cases g1 : i < 0
  · have d1 : decide (i < 0) = true := by simpa using g1
    go_wp2
    go_ret
    exact ⟨rfl, HB2.out⟩
  · have d1 : decide (i < 0) = false := by simpa using g1
    by_cases g2 : (n : Int) ≤ i
    · have d2 : decide ((n : Int) ≤ i) = true := by simpa using g2
      go_wp2
      go_ret
      exact ⟨rfl, HB2.out⟩
    · have d2 : decide ((n : Int) ≤ i) = false := by simp; omega
      by_cases g3 : k < 0
      · have d3 : decide (k < 0) = true := by simpa using g3
        go_wp2
        go_ret
        exact ⟨rfl, HB2.out⟩
      · have d3 : decide (k < 0) = false := by simpa using g3
        have g4 : (n : Int) ≤ k := by have := HI.out; omega
        have d4 : decide ((n : Int) ≤ k) = true := by simpa using g4
        go_wp2
        go_ret
        exact ⟨rfl, HB2.out⟩
theorem order_st {f : Nat → Nat} {n i k : Nat} (hi : i < n) (hk : k < n) (h15 : ∀ j, j < n → f j ≤ 15) (h1 : 0 < f i) (h2 : 0 < f k) : stN f n (f i) i < stN f n (f k) k ↔ (f i < f k ∨ f i = f k ∧ i < k) := by
  have p1 := pt_pos (h15 i hi)
  have p2 := pt_pos (h15 k hk)
  constructor
  · intro h
    by_cases g : f i < f k ∨ f i = f k ∧ i < k
    · exact g
    · exfalso
      by_cases e : i = k
      · subst e; omega
      · have := st_apart (n := n) hk h2 (k := i) (by omega)
        omega
  · intro h
    have := st_apart (n := n) hi h1 h
    omega
theorem shl_st {f : Nat → Nat} {n i : Nat} (hi : i < n) (h15 : ∀ j, j < n → f j ≤ 15) (ha : allN f n ≤ 32768) (h1 : 0 < f i) : codeB f n i * 2 ^ (15 - f i) = stN f n (f i) i ∧ stN f n (f i) i < 32768 := by
  have e1 := codeB_st (n := n) h1 (h15 i hi)
  have e2 := pt_mul (h15 i hi) (Nat.le_refl 15)
  rw [show pt 15 = 1 from rfl, Nat.one_mul] at e2
  have e3 := st_all hi h15 h1
  have e4 := pt_pos (h15 i hi)
  rw [← e2]
  exact ⟨e1, by omega⟩
set_option maxRecDepth 100000 in
set_option maxHeartbeats 2000000 in
theorem order_in (A : Option Addr) (n c : Nat) (f : Nat → Nat) (most : Int) (i k : Nat) (w : World) (hr : RdB w w.heap.size A n f) (hn : n ≤ 1000) (h0 : checkE f n most = 0) (hi : i < n) (hk : k < n) :
    Calls Try.prog 7 #[.slice A n c, .int .i64 most, .int .i64 (i : Int), .int .i64 (k : Int)] w fun e w' => e = .returned (.bool true) ∧ Below w.heap.size w w' := by
  obtain ⟨_, hm15, _, hbd, hall, _⟩ := check_ok h0
  have h15 : ∀ j, j < n → f j ≤ 15 := fun j hj => by have := hbd j hj; omega
  have hsi : 0 < f i → codeB f n i * 2 ^ (15 - f i) = stN f n (f i) i ∧ stN f n (f i) i < 32768 := fun h => shl_st hi h15 hall h
  have hsk : 0 < f k → codeB f n k * 2 ^ (15 - f k) = stN f n (f k) k ∧ stN f n (f k) k < 32768 := fun h => shl_st hk h15 hall h
  have hor : 0 < f i → 0 < f k → (stN f n (f i) i < stN f n (f k) k ↔ (f i < f k ∨ f i = f k ∧ i < k)) := fun h1 h2 => order_st hi hk h15 h1 h2
  have HR := Lib.hid hr; have HF := Lib.hid hr.1; have HSI := Lib.hid hsi; have HSK := Lib.hid hsk; have HOR := Lib.hid hor
  have hi15 := h15 i hi
  have hk15 := h15 k hk
  clear hr hbd hall h15 hsi hsk hor hm15
  have hd : decide ((1000 : Int) < (n : Int)) = false := by simp; omega
  have hl : lenC f n most = n := by unfold lenC; rw [if_pos h0]
  have hxi := codeX_in h0 i hi
  have hxk := codeX_in h0 k hk
  have HL := Lib.hid hl; have H0 := Lib.hid h0; have HXI := Lib.hid hxi; have HXK := Lib.hid hxk
  have d1 : decide ((i : Int) < 0) = false := by simp
  have d2 : decide ((n : Int) ≤ (i : Int)) = false := by simp; omega
  have d3 : decide ((k : Int) < 0) = false := by simp
  have d4 : decide ((n : Int) ≤ (k : Int)) = false := by simp; omega
  clear hl h0 hxi hxk
  go_enter Try.func7, Try.ntmps7
  go_wp2_with fail
  refine (alive_any w).mono ?_
  rintro e w1 ⟨rfl, b1⟩
  have HB1 := Lib.hid b1
  clear b1
  go_wp2_with fail
  refine (codes_any w1 A n c f most ((HR.out.below HB1.out (Nat.le_refl _)).more HB1.out.size) (by omega)).mono ?_
  rintro e w2 ⟨A', c', rfl, hb, ho⟩
  rw [H0.out, HL.out]
  rw [HL.out] at ho
  have HB2 := Lib.hid (HB1.out.trans (hb.mono HB1.out.size))
  have HC := Lib.hid (ho.rd (codeX_lt f n most) HF.out)
  clear hb ho
  obtain ⟨b, o, rfl, hbl, hc⟩ := HC.out.at (by omega)
  obtain ⟨k1, k2⟩ := hc i hi
  obtain ⟨k3, k4⟩ := hc k hk
  rw [HXI.out] at k1
  rw [HXK.out] at k3
  have hcl : codeB f n i < 4294967296 := by rw [← HXI.out]; exact codeX_lt f n most i
  have hcl2 : codeB f n k < 4294967296 := by rw [← HXK.out]; exact codeX_lt f n most k
  obtain ⟨x, hx⟩ : ∃ x, x = codeB f n i := ⟨_, rfl⟩
  obtain ⟨y, hy⟩ : ∃ x, x = codeB f n k := ⟨_, rfl⟩
  rw [← hx] at k1 hcl HSI
  rw [← hy] at k3 hcl2 HSK
  clear hx hy hc
  obtain ⟨li, hli⟩ : ∃ l, l = f i := ⟨_, rfl⟩
  obtain ⟨lk, hlk⟩ : ∃ l, l = f k := ⟨_, rfl⟩
  rw [← hli] at k2 hi15 HSI HOR
  rw [← hlk] at k4 hk15 HSK HOR
  clear hli hlk
  by_cases z1 : li = 0
  · have t1 : ((li : Int) == 0) = true := by simp; omega
    subst z1
    go_wp2
    go_ret
    exact ⟨rfl, HB2.out⟩
  · have t1 : ((li : Int) == 0) = false := by simp; omega
    by_cases z2 : lk = 0
    · have t2 : ((lk : Int) == 0) = true := by simp; omega
      subst z2
      go_wp2
      go_ret
      exact ⟨rfl, HB2.out⟩
    · have t2 : ((lk : Int) == 0) = false := by simp; omega
      have t3 : decide ((15 : Int) < (li : Int)) = false := by simp; omega
      have t4 : decide ((15 : Int) < (lk : Int)) = false := by simp; omega
      have s1 : ((15 : Int) - (li : Int)) = ((15 - li : Nat) : Int) := by omega
      have s2 : ((15 : Int) - (lk : Int)) = ((15 - lk : Nat) : Int) := by omega
      obtain ⟨di, hdi⟩ : ∃ d, d = 15 - li := ⟨_, rfl⟩
      obtain ⟨dk, hdk⟩ : ∃ d, d = 15 - lk := ⟨_, rfl⟩
      rw [← hdi] at s1 HSI
      rw [← hdk] at s2 HSK
      have hdi2 : di ≤ 15 := by omega
      have hdk2 : dk ≤ 15 := by omega
      obtain ⟨e1, e2⟩ := HSI.out (by omega)
      obtain ⟨e3, e4⟩ := HSK.out (by omega)
      have HO := Lib.hid (HOR.out (by omega) (by omega))
      obtain ⟨a, hae⟩ : ∃ a, a = stN f n li i := ⟨_, rfl⟩
      obtain ⟨b2, hbe⟩ : ∃ a, a = stN f n lk k := ⟨_, rfl⟩
      rw [← hae] at e1 e2 HO
      rw [← hbe] at e3 e4 HO
      have m1 : ((x : Int) * 2 ^ di) = (a : Int) := by rw [cast_shl, e1]
      have m2 : ((y : Int) * 2 ^ dk) = (b2 : Int) := by rw [cast_shl, e3]
      have M1 := Lib.hid m1; have M2 := Lib.hid m2
      clear e1 e3 hae hbe hdi hdk m1 m2
      go_wp2
      go_quiet (fail)
      rw [show ((x : Int) * 2 ^ di % 4294967296) = (a : Int) by rw [M1.out]; omega, show ((y : Int) * 2 ^ dk % 4294967296) = (b2 : Int) by rw [M2.out]; omega]
      clear s1 s2 t1 t2 t3 t4 d1 d2 d3 d4 hd
      by_cases h1 : li < lk
      · have hlt : a < b2 := HO.out.2 (.inl h1)
        have d5 : decide (li < lk) = true := decide_eq_true h1
        have d6 : decide ((li : Int) < (lk : Int)) = true := by simp; omega
        have d7 : decide (a < b2) = true := decide_eq_true hlt
        have d8 : decide ((a : Int) < (b2 : Int)) = true := by simp; omega
        go_wp2
        go_quiet (fail)
        go_wp2
        go_ret
        exact ⟨rfl, below_drewN HB2.out _⟩
      · have d5 : decide (li < lk) = false := decide_eq_false h1
        have d6 : decide ((li : Int) < (lk : Int)) = false := by simp; omega
        by_cases h2 : li = lk
        · have e5 : (li == lk) = true := by simp; omega
          have e6 : ((li : Int) == (lk : Int)) = true := by simp; omega
          by_cases h3 : i < k
          · have hlt : a < b2 := HO.out.2 (.inr ⟨h2, h3⟩)
            have d3 : decide (i < k) = true := decide_eq_true h3
            have d4 : decide ((i : Int) < (k : Int)) = true := by simp; omega
            have d7 : decide (a < b2) = true := decide_eq_true hlt
            have d8 : decide ((a : Int) < (b2 : Int)) = true := by simp; omega
            clear h2
            go_wp2
            go_quiet (fail)
            go_wp2
            go_ret
            exact ⟨rfl, below_drewN HB2.out _⟩
          · have hlt : ¬ a < b2 := fun h => by have := HO.out.1 h; omega
            have d3 : decide (i < k) = false := decide_eq_false h3
            have d4 : decide ((i : Int) < (k : Int)) = false := by simp; omega
            have d7 : decide (a < b2) = false := decide_eq_false hlt
            have d8 : decide ((a : Int) < (b2 : Int)) = false := by simp; omega
            clear h2
            go_wp2
            go_quiet (fail)
            go_wp2
            go_ret
            exact ⟨rfl, below_drewN HB2.out _⟩
        · have e5 : (li == lk) = false := by simp; omega
          have e6 : ((li : Int) == (lk : Int)) = false := by simp; omega
          have hlt : ¬ a < b2 := fun h => by have := HO.out.1 h; omega
          have d7 : decide (a < b2) = false := decide_eq_false hlt
          have d8 : decide ((a : Int) < (b2 : Int)) = false := by simp; omega
          go_wp2
          go_quiet (fail)
          go_wp2
          go_ret
          exact ⟨rfl, below_drewN HB2.out _⟩
theorem order_law (A : Option Addr) (n c : Nat) (f : Nat → Nat) (most i k : Int) (w : World) (hr : RdB w w.heap.size A n f) (_hA : A = none → c = 0) (_h0 : -9223372036854775808 ≤ most) (_h1 : most ≤ 9223372036854775807) (_h2 : -9223372036854775808 ≤ i) (_h3 : i ≤ 9223372036854775807) (_h4 : -9223372036854775808 ≤ k) (_h5 : k ≤ 9223372036854775807) :
    Calls Try.prog 7 #[.slice A n c, .int .i64 most, .int .i64 i, .int .i64 k] w fun e w' => e = .returned (.bool true) ∧ Below w.heap.size w w' := by
  by_cases h : n ≤ 1000
  · by_cases h0 : checkE f n most = 0
    · by_cases hi : i < 0 ∨ (n : Int) ≤ i ∨ k < 0 ∨ (n : Int) ≤ k
      · exact order_out A n c f most i k w hr h h0 hi
      · obtain ⟨i, rfl⟩ := Int.eq_ofNat_of_zero_le (show 0 ≤ i by omega)
        obtain ⟨k, rfl⟩ := Int.eq_ofNat_of_zero_le (show 0 ≤ k by omega)
        exact order_in A n c f most i k w hr h h0 (by omega) (by omega)
    · exact order_err A n c f most i k w hr h h0
  · have hlt : decide ((1000 : Int) < (n : Int)) = true := by simp; omega
    clear h
    go_enter Try.func7, Try.ntmps7
    go_wp2_with fail
    refine (alive_any w).mono ?_
    rintro e w1 ⟨rfl, b1⟩
    have HB1 := Lib.hid b1
    clear b1
    go_wp2
    go_ret
    exact ⟨rfl, HB1.out⟩
-- LAW
set_option maxRecDepth 100000 in
theorem order_law_lifted (os : Os) (started : os.Started) (H : Type) (enc : TypeId × Value → H) :
    ReturnsInHanded {} Try.checked os 7 .any (Rows.canonOrderSpec.pre6 enc Try.prog Try.f7 Rows.canonOrderRow.domain false) (Rows.canonOrderSpec.post enc Try.prog Try.f7 false true false false) := by
  refine returnsInHanded_of_change (C := Try.checked) own started (by kernel_rfl) Try.func7
    (ChangeSpec.witness6 (enc := enc) (C := Try.checked) false ⟨#[], #[.slice none 0 0, .int .i64 0, .int .i64 0, .int .i64 0], []⟩ 8 (by kernel_rfl) (by kernel_rfl) (by kernel_rfl) (by kernel_rfl)) ?_
  intro W base args ds gs before hval0 hW _ _
  have hval : ∀ (j : Nat) t v, Try.f7.params[j]? = some t → args[j]? = some v → Value.okWide Try.prog W .any base t v := hval0
  have hW' := hW
  obtain ⟨p, q, hA0, hV, rfl, _, _⟩ := hW
  have hA : DataW.TrodAll enc Try.prog W 0 (fun _ => true) true Try.f7.params.toList args.toList ds p := hA0
  rw [Try.params7] at hA hval
  obtain ⟨v0, vs0, d0, ds0, p0, q0, hargs, rfl, rfl, h0, r0⟩ := trodAll_cons hA
  obtain ⟨v1, vs1, d1, ds1, p1, q1, rfl, rfl, rfl, h1, r1⟩ := trodAll_cons r0
  obtain ⟨v2, vs2, d2, ds2, p2, q2, rfl, rfl, rfl, h2, r2⟩ := trodAll_cons r1
  obtain ⟨v3, vs3, d3, ds3, p3, q3, rfl, rfl, rfl, h3, r3⟩ := trodAll_cons r2
  obtain ⟨rfl, rfl, rfl⟩ := trodAll_nil r3
  obtain rfl : args = #[v0, v1, v2, v3] := by cases args; simp_all
  obtain ⟨rfl, rfl⟩ := trodVars_none hV
  have k0 := h0
  have lt0 : ∀ x ∈ p0, x.block < W.heap.size := by obtain ⟨m, hm⟩ := k0; exact DataW.trod_lt m _ _ _ hm
  obtain ⟨A0, len0, cap0, rfl⟩ := okWide_slice Try.underlying23 (hval 0 23 v0 rfl rfl)
  obtain ⟨f0, hr0, hn0, hl0, hm0⟩ := open_bytes h0
  have k1 := h1
  have lt1 : ∀ x ∈ p1, x.block < W.heap.size := by obtain ⟨m, hm⟩ := k1; exact DataW.trod_lt m _ _ _ hm
  obtain ⟨a1, rfl, rfl, rfl, w1⟩ := open_int Try.underlying3 (hval 1 3 v1 rfl rfl) h1
  have u1 := wf_i64_range w1
  have k2 := h2
  have lt2 : ∀ x ∈ p2, x.block < W.heap.size := by obtain ⟨m, hm⟩ := k2; exact DataW.trod_lt m _ _ _ hm
  obtain ⟨a2, rfl, rfl, rfl, w2⟩ := open_int Try.underlying3 (hval 2 3 v2 rfl rfl) h2
  have u2 := wf_i64_range w2
  have k3 := h3
  have lt3 : ∀ x ∈ p3, x.block < W.heap.size := by obtain ⟨m, hm⟩ := k3; exact DataW.trod_lt m _ _ _ hm
  obtain ⟨a3, rfl, rfl, rfl, w3⟩ := open_int Try.underlying3 (hval 3 3 v3 rfl rfl) h3
  have u3 := wf_i64_range w3
  clear hA0 hval0
  refine (order_law A0 len0 cap0 f0 a1 a2 a3 W hr0 hn0 u1.1 u1.2 u2.1 u2.2 u3.1 u3.2).mono fun e W' ⟨he, bel⟩ => ?_
  subst he
  exact ⟨_, rfl, _, _, _, [], _, [], hW', trodAll_mk1 (shut_bool Try.underlying4 _), (trodAll_cons_mk (Below.trod laidOut (by kernel_rfl) (of_decide_eq_true (by kernel_rfl)) k0 bel lt0) (trodAll_cons_mk (Below.trod laidOut (by kernel_rfl) (of_decide_eq_true (by kernel_rfl)) k1 bel lt1) (trodAll_cons_mk (Below.trod laidOut (by kernel_rfl) (of_decide_eq_true (by kernel_rfl)) k2 bel lt2) (trodAll_cons_mk (Below.trod laidOut (by kernel_rfl) (of_decide_eq_true (by kernel_rfl)) k3 bel lt3) trodAll_mk0)))), rfl, bel.frame _, fun h => by cases h⟩
theorem order_law_holds : Rows.CanonOrderSaid :=
  OpenClaim.holds_of_wide 7 Try.f7 rfl rfl rfl rfl rfl rfl rfl ⟨rfl, rfl, rfl, rfl, rfl⟩ rfl rfl rfl rfl rfl (by kernel_rfl) Try.func7 (by kernel_rfl)
    (of_decide_eq_true (by kernel_rfl)) (by unfold Func.isWrapper; first | (rw [if_pos (by decide +kernel)]; kernel_rfl) | (rw [if_neg (by decide +kernel)]; exact ⟨rfl, rfl⟩))
    (fun os started H enc _ => order_law_lifted os started H enc)
#print axioms order_law_holds
end Go.Proofs.Ytghaffclincpnaa
