/-
  For every pen: the law BitsWhole returns true, and its argument reads as it did. No condition beside the statement's own.
-/
import Derived.Test.YtniekmnjnnkieaaTurned
import Derived.Lib.SmallJoins
namespace Go.Proofs.Ytniekmnjnnkieaa
open Go.RowKit Go.ChangeShapes Go.WideShapes Go.ChangeAt Go.Joins
theorem cells28 : Try.prog.cellsOf 28 = 2 := by kernel_rfl
/-- A pen that came in, as the statement's form reads it. -/
theorem open_pen {H : Type} {enc : TypeId × Value → H} {W : World} {r : Reach} {b0 base : Nat} {sp : Nat → Bool} {hd : Bool} {v : Value} {d : DataW H} {p : List MemPlace}
    (hv : Value.okWide Try.prog W r b0 28 v) (h : DataW.Trod enc Try.prog W base sp hd 28 v d p) :
    ∃ A len cap f k, v = .agg #[.slice A len cap, .int .i64 k] ∧ RdB W W.heap.size A len f ∧ (A = none → cap = 0) ∧ -9223372036854775808 ≤ k ∧ k ≤ 9223372036854775807 := by
  obtain ⟨c0, c1, y0, y1, m, rfl, rfl, rfl, hy0, hy1⟩ := open_agg2 Try.underlying28 (by kernel_rfl) cells28 hv h
  obtain ⟨k, e1, _, wk⟩ := DataW.trod_int Try.underlying3 hy1
  obtain ⟨A, l, c, e0⟩ := slice_form Try.underlying22 hy0
  simp only [List.cons.injEq, and_true] at e0 e1
  subst e0 e1
  obtain ⟨f, hr, hn, _⟩ := open_bytes (d := y0.1) (p := y0.2) ⟨m, by simpa [Value.cells] using hy0⟩
  exact ⟨A, l, c, f, k, rfl, hr, hn, wf_i64_range wk⟩
theorem strB_congr {n : Nat} {f g : Nat → Nat} (h : ∀ j, j < n → f j = g j) : strB n f = strB n g := by
  unfold strB
  congr 1
  apply List.map_congr_left
  intro j hj
  rw [h j (by simpa using hj)]
theorem zext_in {n j : Nat} (f : Nat → Nat) (h : j < n) : zext n f j = f j := by unfold zext; rw [if_pos h]
theorem zext_lt {n : Nat} {f : Nat → Nat} (hf : ∀ j, f j < 256) (j : Nat) : zext n f j < 256 := by unfold zext; split; exact hf j; omega
set_option maxHeartbeats 1000000 in
theorem whole_long (A : Option Addr) (l c : Nat) (k : Int) (w : World) (hlt : 10000 < l) :
    Calls Try.prog 9 #[.agg #[.slice A l c, .int .i64 k]] w fun e w' => e = .returned (.bool true) ∧ Below w.heap.size w w' := by
  go_enter Try.func9, Try.ntmps9
  go_wp2_with fail
  refine (alive_any _).mono ?_
  rintro e w2 ⟨rfl, hb⟩
  have HB := Lib.hid (((Below.refl w.heap.size w).alloc (Nat.le_refl _) (.cells #[.slice A l c, .int .i64 k] 28)).trans (hb.mono (by simp)))
  have hbox := (hb.block w.heap.size (by simp)).trans (heap_alloc_new _ _)
  obtain ⟨k2, k3, k4, k5⟩ := pair_cells hbox
  clear hb hbox
  go_wp2
  go_ret
  exact ⟨rfl, HB.out⟩
set_option maxHeartbeats 1000000 in
theorem whole_bad (A : Option Addr) (l c : Nat) (f : Nat → Nat) (k : Int) (w : World) (hr : RdB w w.heap.size A l f) (hlt : l ≤ 10000) (hc : checkE f l k = 8) :
    Calls Try.prog 9 #[.agg #[.slice A l c, .int .i64 k]] w fun e w' => e = .returned (.bool true) ∧ Below w.heap.size w w' := by
  have HR := Lib.hid hr; have HC := Lib.hid hc
  clear hr hc
  go_enter Try.func9, Try.ntmps9
  go_wp2_with fail
  refine (alive_any _).mono ?_
  rintro e w2 ⟨rfl, hb⟩
  have hB2 : Below w.heap.size w w2 := ((Below.refl w.heap.size w).alloc (Nat.le_refl _) (.cells #[.slice A l c, .int .i64 k] 28)).trans (hb.mono (by simp))
  have hbox := (hb.block w.heap.size (by simp)).trans (heap_alloc_new _ _)
  have hs2 : w.heap.size < w2.heap.size := by have := hb.size; simp at this; omega
  obtain ⟨k2, k3, k4, k5⟩ := pair_cells hbox
  have HB2 := Lib.hid hB2; have HBOX := Lib.hid hbox
  clear hb hbox hB2
  go_wp2_with fail
  refine (align_bad _ A l c f k ((HR.out.below HB2.out (Nat.le_refl _)).more (by omega)) HC.out).mono ?_
  rintro e w3 ⟨rfl, hb⟩
  have HB3 := Lib.hid (HB2.out.trans (hb.mono (by omega)))
  have hbox := (hb.block w.heap.size (by omega)).trans HBOX.out
  have hs3 : w.heap.size < w3.heap.size := by have := hb.size; omega
  have HBOX3 := Lib.hid hbox
  clear k2 k3 k4 k5
  obtain ⟨k2, k3, k4, k5⟩ := pair_cells hbox
  clear hb hbox
  go_wp2_with fail
  refine (check_any _ A l c f k ?_).mono ?_
  · exact (HR.out.below (HB3.out.alloc (by omega) _) (Nat.le_refl _)).more (by simp; omega)
  rintro e w4 ⟨rfl, hb⟩
  have HB4 := Lib.hid (HB3.out.trans (((Below.refl w.heap.size w3).alloc (by omega) (.cells #[.slice none 0 0, .int .i64 0] 28)).trans (hb.mono (by simp; omega))))
  clear hb
  rw [HC.out]
  go_wp2
  go_ret
  exact ⟨rfl, HB4.out⟩
set_option maxHeartbeats 1000000 in
theorem whole_ok (A : Option Addr) (l c : Nat) (f : Nat → Nat) (k : Nat) (w : World) (hr : RdB w w.heap.size A l f) (hlt : l ≤ 10000) (hc : checkE f l k = 0) :
    Calls Try.prog 9 #[.agg #[.slice A l c, .int .i64 (k : Int)]] w fun e w' => e = .returned (.bool true) ∧ Below w.heap.size w w' := by
  obtain ⟨K, hK, _, hl, _⟩ := check_clean hr.1 hc
  obtain rfl : k = K := by omega
  obtain ⟨M, hM⟩ : ∃ M, M = 8 * l := ⟨_, rfl⟩
  have hk8 : (M : Int) - (k : Int) < 8 := by omega
  have hk9 : k ≤ M := by omega
  have hk10 : M ≤ 80000 := by omega
  have hk11 : ((M : Int) == 8 * (l : Int)) = true := by simp; omega
  have hc2 : checkE (zext l f) l (M : Int) = 0 := by
    rw [checkE_nat, if_pos]; exact ⟨by omega, by omega, .inl (by omega)⟩
  have hz := zext_lt (n := l) hr.1
  have e1 : strB l (zext l f) = strB l f := strB_congr fun j hj => zext_in f hj
  have e2 : strB l (zext l (zext l f)) = strB l f := (strB_congr fun j hj => zext_in _ hj).trans e1
  have HM := Lib.hid hM; have HR := Lib.hid hr; have HC := Lib.hid hc; have HC2 := Lib.hid hc2; have HZ := Lib.hid hz; have E1 := Lib.hid e1; have E2 := Lib.hid e2
  clear hr hc hc2 hz e1 e2 hl hK hM
  go_enter Try.func9, Try.ntmps9
  go_wp2_with fail
  refine (alive_any _).mono ?_
  rintro e w2 ⟨rfl, hb⟩
  have hB2 : Below w.heap.size w w2 := ((Below.refl w.heap.size w).alloc (Nat.le_refl _) (.cells #[.slice A l c, .int .i64 (k : Int)] 28)).trans (hb.mono (by simp))
  have hbox := (hb.block w.heap.size (by simp)).trans (heap_alloc_new _ _)
  have hs2 : w.heap.size < w2.heap.size := by have := hb.size; simp at this; omega
  obtain ⟨k2, k3, k4, k5⟩ := pair_cells hbox
  have HB2 := Lib.hid hB2; have HBOX := Lib.hid hbox
  clear hb hbox hB2
  go_wp2_with fail
  refine (align_ok _ A l c f k ((HR.out.below HB2.out (Nat.le_refl _)).more (by omega)) HC.out).mono ?_
  rintro e w3 ⟨g, rfl, hg, hb, hrow⟩
  rw [← HM.out]
  have HB3 := Lib.hid (HB2.out.trans (hb.mono (by omega)))
  have hbox := (hb.block w.heap.size (by omega)).trans HBOX.out
  have hs3 : w.heap.size < w3.heap.size := by have := hb.size; omega
  have HBOX3 := Lib.hid hbox
  have hg3 := hrow.lt
  have HROW3 := Lib.hid hrow
  clear k2 k3 k4 k5
  obtain ⟨k2, k3, k4, k5⟩ := pair_cells hbox
  clear hb hbox hrow
  go_wp2_with fail
  refine (align_ok _ (some ⟨g, 0, none⟩) l l (zext l f) M ?_ HC2.out).mono ?_
  · exact (HROW3.out.alloc _).rd HZ.out
  rintro e w4 ⟨g4, rfl, hg4, hb, hrow⟩
  rw [← HM.out]
  simp only [World.size_alloc] at hg4
  have hs4 : w3.heap.size < w4.heap.size := by have := hb.size; simp at this; omega
  have hs5 : w.heap.size < w4.heap.size := by omega
  have HB4 := Lib.hid (HB3.out.trans (((Below.refl w.heap.size w3).alloc (by omega) (.cells #[.slice (some ⟨g, 0, none⟩) l l, .int .i64 (M : Int)] 28)).trans (hb.mono (by simp; omega))))
  have hbox := (hb.block w.heap.size (by simp; omega)).trans ((Below.heap_alloc _ _ _ (by omega)).trans HBOX3.out)
  have hbox3 := (hb.block w3.heap.size (by simp)).trans (heap_alloc_new _ _)
  have hrow3 : Row w4 g l (zext l f) := (HROW3.out.alloc _).below hb (by simp; omega)
  have hg5 := hrow.lt
  have HROW4 := Lib.hid hrow
  clear k2 k3 k4 k5
  obtain ⟨k2, k3, k4, k5⟩ := pair_cells hbox
  obtain ⟨j2, j3, j4, j5⟩ := pair_cells hbox3
  have s1 := run_str (hrow3.alloc (.cells #[.slice (some ⟨g4, 0, none⟩) l l, .int .i64 (M : Int)] 28) |>.rd HZ.out) l
  have s2 := run_str (((HR.out.below HB4.out (Nat.le_refl _)).below ((Below.refl w4.heap.size w4).alloc (Nat.le_refl _) (.cells #[.slice (some ⟨g4, 0, none⟩) l l, .int .i64 (M : Int)] 28)) (by omega))) c
  have s3 := run_str (HROW4.out.alloc (.cells #[.slice (some ⟨g4, 0, none⟩) l l, .int .i64 (M : Int)] 28) |>.rd (zext_lt HZ.out)) l
  rw [E1.out] at s1
  rw [E2.out] at s3
  clear hb hbox hbox3 hrow3 hrow
  go_wp2
  go_ret
  exact ⟨rfl, HB4.out.alloc (by omega) _⟩
theorem whole_walk (A : Option Addr) (l c : Nat) (f : Nat → Nat) (k : Int) (w : World) (hr : RdB w w.heap.size A l f) (_ : A = none → c = 0) (_ : -9223372036854775808 ≤ k) (_ : k ≤ 9223372036854775807) :
    Calls Try.prog 9 #[.agg #[.slice A l c, .int .i64 k]] w fun e w' => e = .returned (.bool true) ∧ Below w.heap.size w w' := by
  by_cases hlt : l ≤ 10000
  · rcases checkE_eq f l k with h | h
    · obtain ⟨K, rfl, _⟩ := check_clean hr.1 h
      exact whole_ok A l c f K w hr hlt h
    · exact whole_bad A l c f k w hr hlt h
  · exact whole_long A l c k w (by omega)
set_option maxRecDepth 100000 in
theorem whole_walk_lifted (os : Os) (started : os.Started) (H : Type) (enc : TypeId × Value → H) :
    ReturnsInHanded {} Try.checked os 9 .any (Rows.bitsWholeSpec.pre6 enc Try.prog Try.f9 Rows.bitsWholeRow.domain false) (Rows.bitsWholeSpec.post enc Try.prog Try.f9 false true false false) := by
  refine returnsInHanded_of_change (C := Try.checked) own started (by kernel_rfl) Try.func9
    (ChangeSpec.witness6 (enc := enc) (C := Try.checked) false ⟨#[], #[.agg #[.slice none 0 0, .int .i64 0]], []⟩ 8 (by kernel_rfl) (by kernel_rfl) (by kernel_rfl) (by kernel_rfl)) ?_
  intro W base args ds gs before hval0 hW _ _
  have hval : ∀ (j : Nat) t v, Try.f9.params[j]? = some t → args[j]? = some v → Value.okWide Try.prog W .any base t v := hval0
  have hW' := hW
  obtain ⟨p, q, hA0, hV, rfl, _, _⟩ := hW
  have hA : DataW.TrodAll enc Try.prog W 0 (fun _ => true) true Try.f9.params.toList args.toList ds p := hA0
  rw [Try.params9] at hA hval
  obtain ⟨v0, vs0, d0, ds0, p0, q0, hargs, rfl, rfl, h0, r0⟩ := trodAll_cons hA
  obtain ⟨rfl, rfl, rfl⟩ := trodAll_nil r0
  obtain rfl : args = #[v0] := by cases args; simp_all
  obtain ⟨rfl, rfl⟩ := trodVars_none hV
  have k0 := h0
  have lt0 : ∀ x ∈ p0, x.block < W.heap.size := by obtain ⟨m, hm⟩ := k0; exact DataW.trod_lt m _ _ _ hm
  obtain ⟨A0, len0, cap0, f0, a0, rfl, hr0, hn0, u0⟩ := open_pen (hval 0 28 v0 rfl rfl) h0
  clear hA0 hval0
  refine (whole_walk A0 len0 cap0 f0 a0 W hr0 hn0 u0.1 u0.2).mono fun e W' ⟨he, bel⟩ => ?_
  subst he
  exact ⟨_, rfl, _, _, _, [], _, [], hW', trodAll_mk1 (shut_bool Try.underlying4 _), (trodAll_cons_mk (Below.trod laidOut (by kernel_rfl) (of_decide_eq_true (by kernel_rfl)) k0 bel lt0) trodAll_mk0), rfl, bel.frame _, fun h => by cases h⟩
theorem whole_walk_holds : Rows.BitsWholeSaid :=
  OpenClaim.holds_of_wide 9 Try.f9 rfl rfl rfl rfl rfl rfl rfl ⟨rfl, rfl, rfl, rfl, rfl⟩ rfl rfl rfl rfl rfl (by kernel_rfl) Try.func9 (by kernel_rfl)
    (of_decide_eq_true (by kernel_rfl)) (by unfold Func.isWrapper; first | (rw [if_pos (by decide +kernel)]; kernel_rfl) | (rw [if_neg (by decide +kernel)]; exact ⟨rfl, rfl⟩))
    (fun os started H enc _ => whole_walk_lifted os started H enc)
#print axioms whole_walk_holds
end Go.Proofs.Ytniekmnjnnkieaa
