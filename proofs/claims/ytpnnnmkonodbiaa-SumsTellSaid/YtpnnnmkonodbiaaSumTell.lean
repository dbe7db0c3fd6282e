/-
  For every table, sum and bytes: the law SumsTell returns true, and its arguments read as they did. No condition beside the statement's own.
-/
import Derived.Test.YtpnnnmkonodbiaaSumAdl
import Derived.Test.YtpnnnmkonodbiaaNums
import Derived.Test.YtpnnnmkonodbiaaAfter
namespace Go.Proofs.Ytpnnnmkonodbiaa
open Go.RowKit Go.ChangeShapes Go.WideShapes Go.ChangeAt
theorem szTabL (g : Nat → Nat) : (Try.prog.info? 23).map (·.size) = some (tabL g).length := by rw [tabL_length]; exact szTab
set_option maxHeartbeats 1000000 in
theorem tell_long (xs : Array Value) (s : Nat) (A : Option Addr) (l c : Nat) (w : World) (hlt : 20000 < l) :
    Calls Try.prog 4 #[.agg xs, .int .u32 (s : Int), .slice A l c] w fun e w' => e = .returned (.bool true) ∧ Below w.heap.size w w' := by
  go_enter Try.func4, Try.ntmps4
  go_wp2
  go_ret
  exact ⟨rfl, (Below.refl _ _).alloc (Nat.le_refl _) _⟩
set_option maxRecDepth 100000 in
set_option maxHeartbeats 2000000 in
theorem tell_walk (g : Nat → Nat) (s : Nat) (A : Option Addr) (l c : Nat) (f : Nat → Nat) (w : World) (hg : ∀ i, i < 256 → g i < 4294967296) (hs : s < 4294967296) (hr : RdB w w.heap.size A l f) (hA : A = none → c = 0) (hlt : l ≤ 20000) :
    Calls Try.prog 4 #[.agg (tabA g), .int .u32 (s : Int), .slice A l c] w fun e w' => e = .returned (.bool true) ∧ Below w.heap.size w w' := by
  have hb0 : Below w.heap.size w (w.alloc (.cells (tabA g) 23)) := (Below.refl _ _).alloc (Nat.le_refl _) _
  have hr0 := (hr.below hb0 (Nat.le_refl _)).more (B' := w.heap.size + 1) (by omega)
  obtain ⟨A', c', w1, hrun, hown, hbel, hr1⟩ := run_twin (w.alloc (.cells (tabA g) 23)) _ A l c f hr0 (by omega) 28 hA
  have hs1 : w.heap.size + 1 ≤ w1.heap.size := by have := hbel.size; simp at this; omega
  have hr2 := hr0.below hbel (by simp)
  have ht := (tab_new w g).below hbel (by simp)
  have HB := Lib.hid (hb0.trans (hbel.mono (by simp)))
  have HRUN := Lib.hid hrun; have HR1 := Lib.hid hr1; have HR2 := Lib.hid (hr2.more hs1); have HT := Lib.hid ht; have HG := Lib.hid hg
  clear hb0 hr0 hrun hown hbel hr1 hr2 ht hr hg hA
  go_enter Try.func4, Try.ntmps4
  go_wp2_with (at_builtin; refine wpList_append_run rfl _ _ 28 rfl _ _ _ _ rfl rfl HRUN.out ?_)
  obtain ⟨C, hC⟩ : ∃ C, C = crcV g s f l := ⟨_, rfl⟩
  obtain ⟨D, hD⟩ : ∃ D, D = adlV s f l := ⟨_, rfl⟩
  have T1 := Lib.hid (fun (V : World) (hV : Below w1.heap.size w1 V) => show Calls Try.prog 11 #[.agg (tabL g).toArray, .int .u32 (s : Int), .slice A' l c'] V fun e V' => e = .returned (.int .u32 (C : Int)) ∧ Below w1.heap.size w1 V' from
    (crc_any V _ g s A' l c' f HG.out hs (HR1.out.below hV (Nat.le_refl _)) hV.size (by omega)).mono fun _ _ ⟨a, b⟩ => ⟨hC ▸ a, hV.trans (b.mono hV.size)⟩)
  have T2 := Lib.hid (fun (V : World) (hV : Below w1.heap.size w1 V) => show Calls Try.prog 13 #[.agg (tabL g).toArray, .int .u32 (s : Int), .slice A l c] V fun e V' => e = .returned (.int .u32 (C : Int)) ∧ Below w1.heap.size w1 V' from
    (rcrc_any V _ g s A l c f HG.out hs (HR2.out.below hV (Nat.le_refl _)) hV.size (by omega)).mono fun _ _ ⟨a, b⟩ => ⟨hC ▸ a, hV.trans (b.mono hV.size)⟩)
  have T3 := Lib.hid (fun (V : World) (hV : Below w1.heap.size w1 V) => show Calls Try.prog 12 #[.int .u32 (s : Int), .slice A' l c'] V fun e V' => e = .returned (.int .u32 (D : Int)) ∧ Below w1.heap.size w1 V' from
    (adl_any V _ s A' l c' f hs (HR1.out.below hV (Nat.le_refl _)) (by omega)).mono fun _ _ ⟨a, b⟩ => ⟨hD ▸ a, b ▸ hV⟩)
  have T4 := Lib.hid (fun (V : World) (hV : Below w1.heap.size w1 V) => show Calls Try.prog 14 #[.int .u32 (s : Int), .slice A l c] V fun e V' => e = .returned (.int .u32 (D : Int)) ∧ Below w1.heap.size w1 V' from
    (radl_any V _ s A l c f hs (HR2.out.below hV (Nat.le_refl _)) (by omega)).mono fun _ _ ⟨a, b⟩ => ⟨hD ▸ a, b ▸ hV⟩)
  have hS : ∀ V, (∃ p : After w1.heap.size w1, V = p.w) → V.rangeAt w.heap.size 0 (tabL g) := fun V ⟨p, hp⟩ => by subst hp; exact (HT.out.below p.h hs1).range
  have SIX := Lib.hid hS
  clear hS hC hD
  refine wp_region_after w1.heap.size w1 (Below.refl _ _) (by kernel_rfl) (by kernel_rfl) ?_
  repeat (first
    | (go_big_quiet_want; with_reducible refine quiet_load_row _ _ rfl _ _ rfl _ _ SIX.out Try.underlying23 rfl (szTabL g) ?_; go_big_quiet_on; simp only [Act.put, List.setIfInBounds_toArray, List.set_cons_zero, List.set_cons_succ])
    | (go_big_quiet_step (first | exact call_after T1.out _ | exact call_after T2.out _ | exact call_after T3.out _ | exact call_after T4.out _)))
  refine wpQuiet_nil ?_
  rintro V ⟨⟨_, hV⟩, rfl⟩
  have HV := Lib.hid (HB.out.trans (hV.mono (by omega)))
  have hsV : w.heap.size ≤ V.heap.size := by have := hV.size; omega
  have hsW : w1.heap.size ≤ V.heap.size := hV.size
  have HA1 := Lib.hid (HR1.out.below hV (Nat.le_refl _)); have HA2 := Lib.hid (HR2.out.below hV (Nat.le_refl _))
  clear hV
  go_wp2_with fail
  refine (table_any V).mono ?_
  rintro e V1 ⟨rfl, h1⟩
  have HV1 := Lib.hid (HV.out.trans (h1.mono hsV))
  have hsV1 : V.heap.size ≤ V1.heap.size := h1.size
  have HA3 := Lib.hid (HA1.out.below (h1.mono (B' := w1.heap.size) hsW) (Nat.le_refl _)); have HA4 := Lib.hid (HA2.out.below (h1.mono (B' := w1.heap.size) hsW) (Nat.le_refl _))
  clear h1
  go_wp2_with fail
  refine (rtable_any V1).mono ?_
  rintro e V2 ⟨rfl, h2⟩
  have HV2 := Lib.hid (HV1.out.trans (h2.mono (by omega)))
  have hs2 := run_str (HA3.out.below (h2.mono (B' := w1.heap.size) (by omega)) (Nat.le_refl _)) c'
  have hs3 := run_str (HA4.out.below (h2.mono (B' := w1.heap.size) (by omega)) (Nat.le_refl _)) c
  clear h2
  have heq : ∀ V : World, (binOp .eql 23 (.agg (tabA rowN)) (.agg (tabA rowN))).run Try.prog V = .ok (.bool true) V := fun V => by
    have := run_eql_nums (P := Try.prog) V Try.underlying23 Try.underlying22 (by kernel_rfl) (by kernel_rfl) (tabA rowN) (tabA rowN) (fun i => (rowN i : Int)) (fun i => (rowN i : Int)) (fun i hi => by rw [tabA_get, if_pos hi]) (fun i hi => by rw [tabA_get, if_pos hi])
    rw [this]; simp
  go_wp2
  go_ret
  exact ⟨rfl, HV2.out⟩
theorem tell_law (g : Nat → Nat) (s : Nat) (A : Option Addr) (l c : Nat) (f : Nat → Nat) (w : World) (hg : ∀ i, i < 256 → g i < 4294967296) (hs : s < 4294967296) (hr : RdB w w.heap.size A l f) (hA : A = none → c = 0) :
    Calls Try.prog 4 #[.agg (tabA g), .int .u32 (s : Int), .slice A l c] w fun e w' => e = .returned (.bool true) ∧ Below w.heap.size w w' := by
  by_cases h : l ≤ 20000
  · exact tell_walk g s A l c f w hg hs hr hA h
  · exact tell_long _ s A l c w (by omega)
-- LAW
set_option maxRecDepth 100000 in
theorem tell_law_lifted (os : Os) (started : os.Started) (H : Type) (enc : TypeId × Value → H) :
    ReturnsInHanded {} Try.checked os 4 .any (Rows.sumsTellSpec.pre6 enc Try.prog Try.f4 Rows.sumsTellRow.domain false) (Rows.sumsTellSpec.post enc Try.prog Try.f4 false true false false) := by
  refine returnsInHanded_of_change (C := Try.checked) own started (by kernel_rfl) Try.func4
    (ChangeSpec.witness6 (enc := enc) (C := Try.checked) false ⟨#[], #[.agg (tabA zero0), .int .u32 0, .slice none 0 0], []⟩ 8 (by kernel_rfl) (by kernel_rfl) (by kernel_rfl) (by kernel_rfl)) ?_
  intro W base args ds gs before hval0 hW _ _
  have hval : ∀ (j : Nat) t v, Try.f4.params[j]? = some t → args[j]? = some v → Value.okWide Try.prog W .any base t v := hval0
  have hW' := hW
  obtain ⟨p, q, hA0, hV, rfl, _, _⟩ := hW
  have hA : DataW.TrodAll enc Try.prog W 0 (fun _ => true) true Try.f4.params.toList args.toList ds p := hA0
  rw [Try.params4] at hA hval
  obtain ⟨v0, vs0, d0, ds0, p0, q0, hargs, rfl, rfl, h0, r0⟩ := trodAll_cons hA
  obtain ⟨v1, vs1, d1, ds1, p1, q1, rfl, rfl, rfl, h1, r1⟩ := trodAll_cons r0
  obtain ⟨v2, vs2, d2, ds2, p2, q2, rfl, rfl, rfl, h2, r2⟩ := trodAll_cons r1
  obtain ⟨rfl, rfl, rfl⟩ := trodAll_nil r2
  obtain rfl : args = #[v0, v1, v2] := by cases args; simp_all
  obtain ⟨rfl, rfl⟩ := trodVars_none hV
  have k0 := h0
  have lt0 : ∀ x ∈ p0, x.block < W.heap.size := by obtain ⟨m, hm⟩ := k0; exact DataW.trod_lt m _ _ _ hm
  obtain ⟨xs0, f0, rfl, hs0, hx0, hw0⟩ := open_nums Try.underlying23 Try.underlying22 (by kernel_rfl) (by kernel_rfl) (hval 0 23 v0 rfl rfl) h0
  obtain ⟨g0, rfl, hg0⟩ := tab_of hs0 hx0 hw0
  have k1 := h1
  have lt1 : ∀ x ∈ p1, x.block < W.heap.size := by obtain ⟨m, hm⟩ := k1; exact DataW.trod_lt m _ _ _ hm
  obtain ⟨a1, rfl, rfl, rfl, w1⟩ := open_int Try.underlying22 (hval 1 22 v1 rfl rfl) h1
  have u1 := wf_u32_range w1
  obtain ⟨a1, rfl⟩ := Int.eq_ofNat_of_zero_le u1.1
  have k2 := h2
  have lt2 : ∀ x ∈ p2, x.block < W.heap.size := by obtain ⟨m, hm⟩ := k2; exact DataW.trod_lt m _ _ _ hm
  obtain ⟨A2, len2, cap2, rfl⟩ := okWide_slice Try.underlying28 (hval 2 28 v2 rfl rfl)
  obtain ⟨f2, hr2, hn2, hl2, hm2⟩ := open_bytes h2
  clear hA0 hval0
  refine (tell_law g0 a1 A2 len2 cap2 f2 W hg0 (by omega) hr2 hn2).mono fun e W' ⟨he, bel⟩ => ?_
  subst he
  exact ⟨_, rfl, _, _, _, [], _, [], hW', trodAll_mk1 (shut_bool Try.underlying4 _), (trodAll_cons_mk (Below.trod laidOut (by kernel_rfl) (of_decide_eq_true (by kernel_rfl)) k0 bel lt0) (trodAll_cons_mk (Below.trod laidOut (by kernel_rfl) (of_decide_eq_true (by kernel_rfl)) k1 bel lt1) (trodAll_cons_mk (Below.trod laidOut (by kernel_rfl) (of_decide_eq_true (by kernel_rfl)) k2 bel lt2) trodAll_mk0))), rfl, bel.frame _, fun h => by cases h⟩
theorem tell_law_holds : Rows.SumsTellSaid :=
  OpenClaim.holds_of_wide 4 Try.f4 rfl rfl rfl rfl rfl rfl rfl ⟨rfl, rfl, rfl, rfl, rfl⟩ rfl rfl rfl rfl rfl (by kernel_rfl) Try.func4 (by kernel_rfl)
    (of_decide_eq_true (by kernel_rfl)) (by unfold Func.isWrapper; first | (rw [if_pos (by decide +kernel)]; kernel_rfl) | (rw [if_neg (by decide +kernel)]; exact ⟨rfl, rfl⟩))
    (fun os started H enc _ => tell_law_lifted os started H enc)
#print axioms tell_law_holds
end Go.Proofs.Ytpnnnmkonodbiaa
