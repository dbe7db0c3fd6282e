/-
  For every table, sum and two byte slices: the law SumsOn returns true, and its arguments read as they did. No condition beside the statement's own.
-/
import Derived.Test.YtpnnnmkonodbiaaSumAlive
import Derived.Test.YtpnnnmkonodbiaaNums
import Derived.Test.YtpnnnmkonodbiaaAfter
namespace Go.Proofs.Ytpnnnmkonodbiaa
open Go.RowKit Go.ChangeShapes Go.WideShapes Go.ChangeAt
theorem szTabL (g : Nat → Nat) : (Try.prog.info? 23).map (·.size) = some (tabL g).length := by rw [tabL_length]; exact szTab
theorem both_runs (w : World) (B : Nat) (A1 : Option Addr) (l c1 : Nat) (f : Nat → Nat) (A2 : Option Addr) (m c2 : Nat) (h : Nat → Nat) (hr1 : RdB w B A1 l f) (hr2 : RdB w B A2 m h) (hB : B ≤ w.heap.size) (hn1 : A1 = none → c1 = 0) (hn2 : A2 = none → c2 = 0) (hl : l ≤ 10000) (hm : m ≤ 10000) :
    ∃ Aa ca wa Ab cb wb, (Builtin.append_ #[28, 28] 28 #[.slice none 0 0, .slice A1 l c1]).run Try.prog w = .ok (.slice Aa l ca) wa ∧
      (Builtin.append_ #[28, 28] 28 #[.slice Aa l ca, .slice A2 m c2]).run Try.prog wa = .ok (.slice Ab (l + m) cb) wb ∧ Below w.heap.size w wb ∧ RdB wb wb.heap.size Ab (l + m) (cat f l h) := by
  obtain ⟨Aa, ca, wa, h1, o1, b1, _⟩ := run_twin w B A1 l c1 f hr1 (by omega) 28 hn1
  obtain ⟨Ab, cb, wb, h2, o2, b2⟩ := run_more wa w.heap.size B _ l f o1 A2 m c2 h (hr2.below b1 hB) (by omega) 28 hn2 b1.size
  exact ⟨Aa, ca, wa, Ab, cb, wb, h1, h2, b1.trans b2, RdB.of_own o2 (cat_lt hr1.1 hr2.1)⟩
set_option maxRecDepth 100000 in
set_option maxHeartbeats 2000000 in
theorem on_long (g : Nat → Nat) (s : Nat) (A1 : Option Addr) (l c1 : Nat) (A2 : Option Addr) (m c2 : Nat) (w : World) (hlt : 10000 < l ∨ 10000 < m) :
    Calls Try.prog 6 #[.agg (tabA g), .int .u32 (s : Int), .slice A1 l c1, .slice A2 m c2] w fun e w' => e = .returned (.bool true) ∧ Below w.heap.size w w' := by
  have hb0 : Below w.heap.size w (w.alloc (.cells (tabA g) 23)) := (Below.refl _ _).alloc (Nat.le_refl _) _
  have HB0 := Lib.hid hb0
  clear hb0
  by_cases h1 : 10000 < l
  · clear hlt
    have hd : decide ((10000 : Int) < (l : Int)) = true := by simp; omega
    go_enter Try.func6, Try.ntmps6
    go_wp2_with fail
    refine (alive_any _).mono ?_
    rintro e w1 ⟨rfl, b1⟩
    have HB1 := Lib.hid (HB0.out.trans (b1.mono (by simp)))
    clear b1
    go_wp2
    go_ret
    exact ⟨rfl, HB1.out⟩
  · have h2 : 10000 < m := by omega
    clear hlt
    have hd : decide ((10000 : Int) < (l : Int)) = false := by simp; omega
    go_enter Try.func6, Try.ntmps6
    go_wp2_with fail
    refine (alive_any _).mono ?_
    rintro e w1 ⟨rfl, b1⟩
    have HB1 := Lib.hid (HB0.out.trans (b1.mono (by simp)))
    clear b1
    go_wp2
    go_ret
    exact ⟨rfl, HB1.out⟩
set_option maxRecDepth 100000 in
set_option maxHeartbeats 2000000 in
theorem on_walk (g : Nat → Nat) (s : Nat) (A1 : Option Addr) (l c1 : Nat) (f : Nat → Nat) (A2 : Option Addr) (m c2 : Nat) (h : Nat → Nat) (w : World) (hg : ∀ i, i < 256 → g i < 4294967296) (hs : s < 4294967296) (hr1 : RdB w w.heap.size A1 l f) (hn1 : A1 = none → c1 = 0)
    (hr2 : RdB w w.heap.size A2 m h) (hn2 : A2 = none → c2 = 0) (hl : l ≤ 10000) (hm : m ≤ 10000) :
    Calls Try.prog 6 #[.agg (tabA g), .int .u32 (s : Int), .slice A1 l c1, .slice A2 m c2] w fun e w' => e = .returned (.bool true) ∧ Below w.heap.size w w' := by
  have hb0 : Below w.heap.size w (w.alloc (.cells (tabA g) 23)) := (Below.refl _ _).alloc (Nat.le_refl _) _
  have HB0 := Lib.hid hb0; have HG := Lib.hid hg; have HR1 := Lib.hid hr1; have HR2 := Lib.hid hr2; have HN1 := Lib.hid hn1; have HN2 := Lib.hid hn2
  have HT0 := Lib.hid (tab_new w g)
  clear hb0 hg hr1 hr2 hn1 hn2
  go_enter Try.func6, Try.ntmps6
  go_wp2_with fail
  refine (alive_any _).mono ?_
  rintro e w1 ⟨rfl, b1⟩
  have HB1 := Lib.hid (HB0.out.trans (b1.mono (by simp)))
  have HT1 := Lib.hid (HT0.out.below b1 (by simp))
  have hs1 : w.heap.size + 1 ≤ w1.heap.size := by have := b1.size; simp at this; omega
  clear b1
  obtain ⟨Aa, ca, wa, Ab, cb, wb, hrun1, hrun2, hb2, hr3⟩ := both_runs w1 _ A1 l c1 f A2 m c2 h (HR1.out.below HB1.out (Nat.le_refl _)) (HR2.out.below HB1.out (Nat.le_refl _)) (by omega) HN1.out HN2.out hl hm
  have HRUN1 := Lib.hid hrun1; have HRUN2 := Lib.hid hrun2; have HR3 := Lib.hid hr3
  have HB2 := Lib.hid (HB1.out.trans (hb2.mono (by omega)))
  have HT2 := Lib.hid (HT1.out.below hb2 (by omega))
  have hs2 : w.heap.size + 1 ≤ wb.heap.size := by have := hb2.size; omega
  clear hrun1 hrun2 hr3 hb2
  obtain ⟨L, hL⟩ : ∃ L, L = l + m := ⟨_, rfl⟩
  rw [← hL] at HRUN2 HR3
  have hL2 : L ≤ 20000 := by omega
  have HRa := Lib.hid ((HR1.out.below HB2.out (Nat.le_refl _)).more (B' := wb.heap.size) (by omega))
  have HRb := Lib.hid ((HR2.out.below HB2.out (Nat.le_refl _)).more (B' := wb.heap.size) (by omega))
  have hC : crcV g s (cat f l h) L = crcV g (crcV g s f l) h m := by rw [hL]; exact crcV_cat g f h s l m HG.out HR1.out.1
  have hD : adlV s (cat f l h) L = adlV (adlV s f l) h m := by rw [hL]; exact adlV_cat s f h l m
  have hc2 := crcV_lt g s f l
  have hd2 := adlV_lt f l hs
  obtain ⟨C, hCe⟩ : ∃ C, C = crcV g s (cat f l h) L := ⟨_, rfl⟩
  obtain ⟨D, hDe⟩ : ∃ D, D = adlV s (cat f l h) L := ⟨_, rfl⟩
  obtain ⟨C2, hC2⟩ : ∃ C, C = crcV g s f l := ⟨_, rfl⟩
  obtain ⟨D2, hD2⟩ : ∃ D, D = adlV s f l := ⟨_, rfl⟩
  rw [← hCe, ← hC2] at hC
  rw [← hDe, ← hD2] at hD
  rw [← hC2] at hc2
  rw [← hD2] at hd2
  have T1 := Lib.hid (fun (V : World) (hV : Below wb.heap.size wb V) => show Calls Try.prog 11 #[.agg (tabL g).toArray, .int .u32 (s : Int), .slice Ab L cb] V fun e V' => e = .returned (.int .u32 (C : Int)) ∧ Below wb.heap.size wb V' from
    (crc_any V _ g s Ab L cb _ HG.out hs (HR3.out.below hV (Nat.le_refl _)) hV.size (by omega)).mono fun _ _ ⟨a, b⟩ => ⟨hCe ▸ a, hV.trans (b.mono hV.size)⟩)
  have T2 := Lib.hid (fun (V : World) (hV : Below wb.heap.size wb V) => show Calls Try.prog 11 #[.agg (tabL g).toArray, .int .u32 (s : Int), .slice A1 l c1] V fun e V' => e = .returned (.int .u32 (C2 : Int)) ∧ Below wb.heap.size wb V' from
    (crc_any V _ g s A1 l c1 f HG.out hs (HRa.out.below hV (Nat.le_refl _)) hV.size (by omega)).mono fun _ _ ⟨a, b⟩ => ⟨hC2 ▸ a, hV.trans (b.mono hV.size)⟩)
  have T3 := Lib.hid (fun (V : World) (hV : Below wb.heap.size wb V) => show Calls Try.prog 11 #[.agg (tabL g).toArray, .int .u32 (C2 : Int), .slice A2 m c2] V fun e V' => e = .returned (.int .u32 (C : Int)) ∧ Below wb.heap.size wb V' from
    (crc_any V _ g C2 A2 m c2 h HG.out hc2 (HRb.out.below hV (Nat.le_refl _)) hV.size (by omega)).mono fun _ _ ⟨a, b⟩ => ⟨hC ▸ a, hV.trans (b.mono hV.size)⟩)
  have T4 := Lib.hid (fun (V : World) (hV : Below wb.heap.size wb V) => show Calls Try.prog 12 #[.int .u32 (s : Int), .slice Ab L cb] V fun e V' => e = .returned (.int .u32 (D : Int)) ∧ Below wb.heap.size wb V' from
    (adl_any V _ s Ab L cb _ hs (HR3.out.below hV (Nat.le_refl _)) (by omega)).mono fun _ _ ⟨a, b⟩ => ⟨hDe ▸ a, b ▸ hV⟩)
  have T5 := Lib.hid (fun (V : World) (hV : Below wb.heap.size wb V) => show Calls Try.prog 12 #[.int .u32 (s : Int), .slice A1 l c1] V fun e V' => e = .returned (.int .u32 (D2 : Int)) ∧ Below wb.heap.size wb V' from
    (adl_any V _ s A1 l c1 f hs (HRa.out.below hV (Nat.le_refl _)) (by omega)).mono fun _ _ ⟨a, b⟩ => ⟨hD2 ▸ a, b ▸ hV⟩)
  have T6 := Lib.hid (fun (V : World) (hV : Below wb.heap.size wb V) => show Calls Try.prog 12 #[.int .u32 (D2 : Int), .slice A2 m c2] V fun e V' => e = .returned (.int .u32 (D : Int)) ∧ Below wb.heap.size wb V' from
    (adl_any V _ D2 A2 m c2 h hd2 (HRb.out.below hV (Nat.le_refl _)) (by omega)).mono fun _ _ ⟨a, b⟩ => ⟨hD ▸ a, b ▸ hV⟩)
  have hS : ∀ V, (∃ p : After wb.heap.size wb, V = p.w) → V.rangeAt w.heap.size 0 (tabL g) := fun V ⟨p, hp⟩ => by subst hp; exact (HT2.out.below p.h hs2).range
  have SIX := Lib.hid hS
  have hx1 : decide ((10000 : Int) < (l : Int)) = false := by simp; omega
  have hx2 : decide ((10000 : Int) < (m : Int)) = false := by simp; omega
  clear hS hC hD hL hCe hDe hC2 hD2
  have tok1 : True := trivial
  go_wp2_with (first
    | (at_builtin; have _t := tok1; refine wpList_append_run rfl (.const (.slice none 0 0)) (.tmp 21) 28 rfl (.slice none 0 0) (.slice A1 l c1) (.slice Aa l ca) wa rfl rfl HRUN1.out ?_; clear tok1)
    | (at_builtin; refine wpList_append_run rfl (.tmp 22) (.tmp 23) 28 rfl (.slice Aa l ca) (.slice A2 m c2) (.slice Ab L cb) wb rfl rfl HRUN2.out ?_))
  refine wp_region_after wb.heap.size wb (Below.refl _ _) (by kernel_rfl) (by kernel_rfl) ?_
  repeat (first
    | (go_big_quiet_want; with_reducible refine quiet_load_row _ _ rfl _ _ rfl _ _ SIX.out Try.underlying23 rfl (szTabL g) ?_; go_big_quiet_on; simp only [Act.put, List.setIfInBounds_toArray, List.set_cons_zero, List.set_cons_succ])
    | (go_big_quiet_step (first | (with_reducible exact call_after T1.out _) | (with_reducible exact call_after T2.out _) | (with_reducible exact call_after T3.out _) | (with_reducible exact call_after T4.out _) | (with_reducible exact call_after T5.out _) | (with_reducible exact call_after T6.out _))))
  refine wpQuiet_nil ?_
  rintro V ⟨⟨_, hV⟩, rfl⟩
  have HV := Lib.hid (HB2.out.trans (hV.mono (by omega)))
  clear hV
  go_wp2
  go_ret
  exact ⟨rfl, HV.out⟩
theorem on_law (g : Nat → Nat) (s : Nat) (A1 : Option Addr) (l c1 : Nat) (f : Nat → Nat) (A2 : Option Addr) (m c2 : Nat) (h : Nat → Nat) (w : World) (hg : ∀ i, i < 256 → g i < 4294967296) (hs : s < 4294967296) (hr1 : RdB w w.heap.size A1 l f) (hn1 : A1 = none → c1 = 0)
    (hr2 : RdB w w.heap.size A2 m h) (hn2 : A2 = none → c2 = 0) :
    Calls Try.prog 6 #[.agg (tabA g), .int .u32 (s : Int), .slice A1 l c1, .slice A2 m c2] w fun e w' => e = .returned (.bool true) ∧ Below w.heap.size w w' := by
  by_cases h1 : l ≤ 10000 ∧ m ≤ 10000
  · exact on_walk g s A1 l c1 f A2 m c2 h w hg hs hr1 hn1 hr2 hn2 h1.1 h1.2
  · exact on_long g s A1 l c1 A2 m c2 w (by omega)
-- LAW
set_option maxRecDepth 100000 in
theorem on_law_lifted (os : Os) (started : os.Started) (H : Type) (enc : TypeId × Value → H) :
    ReturnsInHanded {} Try.checked os 6 .any (Rows.sumsOnSpec.pre6 enc Try.prog Try.f6 Rows.sumsOnRow.domain false) (Rows.sumsOnSpec.post enc Try.prog Try.f6 false true false false) := by
  refine returnsInHanded_of_change (C := Try.checked) own started (by kernel_rfl) Try.func6
    (ChangeSpec.witness6 (enc := enc) (C := Try.checked) false ⟨#[], #[.agg (tabA zero0), .int .u32 0, .slice none 0 0, .slice none 0 0], []⟩ 8 (by kernel_rfl) (by kernel_rfl) (by kernel_rfl) (by kernel_rfl)) ?_
  intro W base args ds gs before hval0 hW _ _
  have hval : ∀ (j : Nat) t v, Try.f6.params[j]? = some t → args[j]? = some v → Value.okWide Try.prog W .any base t v := hval0
  have hW' := hW
  obtain ⟨p, q, hA0, hV, rfl, _, _⟩ := hW
  have hA : DataW.TrodAll enc Try.prog W 0 (fun _ => true) true Try.f6.params.toList args.toList ds p := hA0
  rw [Try.params6] at hA hval
  obtain ⟨v0, vs0, d0, ds0, p0, q0, hargs, rfl, rfl, h0, r0⟩ := trodAll_cons hA
  obtain ⟨v1, vs1, d1, ds1, p1, q1, rfl, rfl, rfl, h1, r1⟩ := trodAll_cons r0
  obtain ⟨v2, vs2, d2, ds2, p2, q2, rfl, rfl, rfl, h2, r2⟩ := trodAll_cons r1
  obtain ⟨v3, vs3, d3, ds3, p3, q3, rfl, rfl, rfl, h3, r3⟩ := trodAll_cons r2
  obtain ⟨rfl, rfl, rfl⟩ := trodAll_nil r3
  obtain rfl : args = #[v0, v1, v2, v3] := by cases args; simp_all
  obtain ⟨rfl, rfl⟩ := trodVars_none hV
  have k0 := h0
  have lt0 : ∀ x ∈ p0, x.block < W.heap.size := by obtain ⟨m, hm⟩ := k0; exact DataW.trod_lt m _ _ _ hm
  obtain ⟨xs0, f0, rfl, hs0, hx0, hw0⟩ := open_nums Try.underlying23 Try.underlying22 (by kernel_rfl) (by kernel_rfl) (hval 0 23 v0 rfl rfl) h0
  obtain ⟨g0, rfl, hg0⟩ := tab_of hs0 hx0 hw0
  have k1 := h1
  have lt1 : ∀ x ∈ p1, x.block < W.heap.size := by obtain ⟨m, hm⟩ := k1; exact DataW.trod_lt m _ _ _ hm
  obtain ⟨a1, rfl, rfl, rfl, w1⟩ := open_int Try.underlying22 (hval 1 22 v1 rfl rfl) h1
  have u1 := wf_u32_range w1
  obtain ⟨a1, rfl⟩ := Int.eq_ofNat_of_zero_le u1.1
  have k2 := h2
  have lt2 : ∀ x ∈ p2, x.block < W.heap.size := by obtain ⟨m, hm⟩ := k2; exact DataW.trod_lt m _ _ _ hm
  obtain ⟨A2, len2, cap2, rfl⟩ := okWide_slice Try.underlying28 (hval 2 28 v2 rfl rfl)
  obtain ⟨f2, hr2, hn2, hl2, hm2⟩ := open_bytes h2
  have k3 := h3
  have lt3 : ∀ x ∈ p3, x.block < W.heap.size := by obtain ⟨m, hm⟩ := k3; exact DataW.trod_lt m _ _ _ hm
  obtain ⟨A3, len3, cap3, rfl⟩ := okWide_slice Try.underlying28 (hval 3 28 v3 rfl rfl)
  obtain ⟨f3, hr3, hn3, hl3, hm3⟩ := open_bytes h3
  clear hA0 hval0
  refine (on_law g0 a1 A2 len2 cap2 f2 A3 len3 cap3 f3 W hg0 (by omega) hr2 hn2 hr3 hn3).mono fun e W' ⟨he, bel⟩ => ?_
  subst he
  exact ⟨_, rfl, _, _, _, [], _, [], hW', trodAll_mk1 (shut_bool Try.underlying4 _), (trodAll_cons_mk (Below.trod laidOut (by kernel_rfl) (of_decide_eq_true (by kernel_rfl)) k0 bel lt0) (trodAll_cons_mk (Below.trod laidOut (by kernel_rfl) (of_decide_eq_true (by kernel_rfl)) k1 bel lt1) (trodAll_cons_mk (Below.trod laidOut (by kernel_rfl) (of_decide_eq_true (by kernel_rfl)) k2 bel lt2) (trodAll_cons_mk (Below.trod laidOut (by kernel_rfl) (of_decide_eq_true (by kernel_rfl)) k3 bel lt3) trodAll_mk0)))), rfl, bel.frame _, fun h => by cases h⟩
theorem on_law_holds : Rows.SumsOnSaid :=
  OpenClaim.holds_of_wide 6 Try.f6 rfl rfl rfl rfl rfl rfl rfl ⟨rfl, rfl, rfl, rfl, rfl⟩ rfl rfl rfl rfl rfl (by kernel_rfl) Try.func6 (by kernel_rfl)
    (of_decide_eq_true (by kernel_rfl)) (by unfold Func.isWrapper; first | (rw [if_pos (by decide +kernel)]; kernel_rfl) | (rw [if_neg (by decide +kernel)]; exact ⟨rfl, rfl⟩))
    (fun os started H enc _ => on_law_lifted os started H enc)
#print axioms on_law_holds
end Go.Proofs.Ytpnnnmkonodbiaa
