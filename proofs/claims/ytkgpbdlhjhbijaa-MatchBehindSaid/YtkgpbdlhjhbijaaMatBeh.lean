/-
  The law MatchBehind, for every bytes and numbers, returns true: bytes behind what matches, and one more, count for nothing. No condition.
-/
import Derived.Test.YtkgpbdlhjhbijaaMatLon
namespace Go.Proofs.Ytkgpbdlhjhbijaa
open Go.RowKit Go.ChangeShapes Go.WideShapes Go.ChangeAt Go.Joins
theorem rd_first {w : World} {B n : Nat} {A : Option Addr} {f : Nat → Nat} (h : RdB w B A n f) {m : Nat} (hm : m ≤ n) : RdB w B A m f := ⟨h.1, fun hn => by
  obtain ⟨b, o, e, hb, hc⟩ := h.2 (by omega)
  exact ⟨b, o, e, hb, fun j hj => hc j (by omega)⟩⟩
set_option maxRecDepth 100000 in
set_option maxHeartbeats 4000000 in
theorem behind7_law (A : Option Addr) (n c : Nat) (f : Nat → Nat) (a p : Int) (A2 : Option Addr) (m c2 : Nat) (g : Nat → Nat) (w : World) (hr : ByR w w.heap.size A n c f) (ha1 : -9223372036854775808 ≤ a) (ha2 : a ≤ 9223372036854775807) (hp1 : -9223372036854775808 ≤ p) (hp2 : p ≤ 9223372036854775807) (hr2 : ByR w w.heap.size A2 m c2 g) :
    Calls Try.prog 7 #[.slice A n c, .int .i64 a, .int .i64 p, .slice A2 m c2] w fun e w' => e = .returned (.bool true) ∧ Below w.heap.size w w' := by
  have HR := Lib.hid hr; have HR2 := Lib.hid hr2
  clear hr hr2
  by_cases hn1 : 2000 < n
  · have hd : decide (2000 < (n : Int)) = true := decY (by omega)
    go_enter Try.func7, Try.ntmps7
    go_wp2_with fail
    refine (alive7_any w).mono ?_
    rintro e w1 ⟨rfl, hb⟩
    have HB1 := Lib.hid hb
    clear hb
    go_wp2
    go_ret
    exact ⟨rfl, HB1.out⟩
  have hd : decide (2000 < (n : Int)) = false := decN (by omega)
  by_cases hn2 : 2000 < m
  · have hd2 : decide (2000 < (m : Int)) = true := decY (by omega)
    go_enter Try.func7, Try.ntmps7
    go_wp2_with fail
    refine (alive7_any w).mono ?_
    rintro e w1 ⟨rfl, hb⟩
    have HB1 := Lib.hid hb
    clear hb
    go_wp2
    go_ret
    exact ⟨rfl, HB1.out⟩
  have hd2 : decide (2000 < (m : Int)) = false := decN (by omega)
  obtain ⟨v, hv⟩ := lonV_nat f n a p
  obtain ⟨E, hE⟩ : ∃ E, E = lonE n a p := ⟨_, rfl⟩
  have hlong : ∀ u, ByR u u.heap.size A n c f → Calls Try.prog 8 #[.slice A n c, .int .i64 a, .int .i64 p] u fun x w' => x = .returned (.tuple #[.int .i64 (v : Int), .int .i64 E]) ∧ Drw u w' := fun u hu => by
    rw [hE, ← hv]; exact long7_any u _ A n c f a p hu.1 ha1 ha2 hp1 hp2
  have HL := Lib.hid hlong; have HV := Lib.hid hv; have HE := Lib.hid hE
  clear hlong hv hE
  go_enter Try.func7, Try.ntmps7
  go_wp2_with fail
  refine (alive7_any w).mono ?_
  rintro e w1 ⟨rfl, hb⟩
  have HB1 := Lib.hid hb
  clear hb
  go_wp2_with fail
  refine (HL.out w1 ((HR.out.below HB1.out (Nat.le_refl _)).more HB1.out.size)).mono ?_
  rintro e w2 ⟨rfl, hdr⟩
  have HB2 := Lib.hid (hdr.below HB1.out)
  clear hdr HB1 HL
  by_cases hE0 : E = 0
  · subst hE0
    have hok := HE.out
    unfold lonE at hok
    rw [if_neg (by omega)] at hok
    split at hok
    · rename_i hc
      obtain ⟨x1, x2, x3, x4⟩ := hc
      obtain ⟨a, rfl⟩ := Int.eq_ofNat_of_zero_le x1
      obtain ⟨p, rfl⟩ := Int.eq_ofNat_of_zero_le x3
      have hvm : v = matN f n a p := by
        have h1 : lonV f n (a : Int) (p : Int) = (matN f n a p : Nat) := if_pos HE.out.symm
        have h2 := HV.out
        omega
      have hpa : p < a := by omega
      have han : a ≤ n := by omega
      have hend := matN_end (f := f) (p := p) han
      have hv258 := (matN_spec f n a p).1
      rw [← hvm] at hend hv258
      obtain ⟨N, hN⟩ : ∃ N, N = a + v := ⟨_, rfl⟩
      have eN : (a : Int) + (v : Int) = (N : Int) := by omega
      have e0 : ((0 : Int) != 0) = false := by decide
      by_cases hskip : n ≤ N ∧ v < 258
      · have d1 : decide ((n : Int) ≤ (N : Int)) = true := decY (by omega)
        have d1' : decide (n ≤ N) = true := decY (by omega)
        have d2 : decide ((v : Int) < 258) = true := decY (by omega)
        clear hok hend hN hvm hskip ha1 ha2 hp1 hp2 x1 x2 x3 x4
        go_wp2
        go_ret
        exact ⟨rfl, HB2.out⟩
      · obtain ⟨ad, rfl⟩ : ∃ ad, A = some ad := by
          obtain ⟨b, o, h, _⟩ := HR.out.1.2 (by omega)
          exact ⟨_, h⟩
        obtain ⟨K, hK⟩ : ∃ K, K = min (N + 1) n := ⟨_, rfl⟩
        obtain ⟨x, hx⟩ : ∃ x, x = N + 1 := ⟨_, rfl⟩
        have ex : (N : Int) + 1 = (x : Int) := by omega
        have em : (if (n : Int) < (x : Int) then (n : Int) else (x : Int)) = (K : Int) := by split <;> omega
        have em' : (if n < x then (n : Int) else (x : Int)) = (K : Int) := by split <;> omega
        have hKn : K ≤ n := by omega
        have hKc : (K : Int) ≤ (c : Int) := by have := HR.out.2.2.1; omega
        have hcc := HR.out.2.2.1
        have hrw := (HR.out.below HB2.out (Nat.le_refl _)).more HB2.out.size
        obtain ⟨B1, k1, w3, hrun1, hown1, hb3, _⟩ := run_twin w2 w2.heap.size (some ad) K c f (rd_first hrw.1 hKn) (by omega) 25 hrw.2.1
        have hrg := (((HR2.out.below HB2.out (Nat.le_refl _)).more HB2.out.size).below hb3 (Nat.le_refl _)).more hb3.size
        obtain ⟨B2, k2, w4, hrun2, hown2, hb4⟩ := run_more w3 w2.heap.size w3.heap.size (.slice B1 K k1) K f hown1 A2 m c2 g hrg.1 (by omega) 25 hrg.2.1 hb3.size
        have hf4 := RdB.of_own hown2 (cat_lt HR.out.1.1 HR2.out.1.1)
        have hB4 := (HB2.out.trans (hb3.mono HB2.out.size)).trans (hb4.mono HB2.out.size)
        have hal := matN_alone (f := f) (g := cat f K g) (L := n) (M := K + m) (a := a) (p := p) hpa (by rw [← hvm]; omega) han (by rw [← hvm, ← hN]; omega) (fun i hi => by rw [← hvm, ← hN] at hi; unfold cat; rw [if_pos (by omega)])
        have hl2 := long7_any w4 _ B2 (K + m) k2 (cat f K g) (a : Int) (p : Int) hf4 (by omega) (by omega) (by omega) (by omega)
        have hE2 : lonE (K + m) (a : Int) (p : Int) = 0 := by unfold lonE; rw [if_neg (by omega), if_pos (by omega)]
        have hV2 : lonV (cat f K g) (K + m) (a : Int) (p : Int) = (v : Int) := by
          unfold lonV; rw [if_pos hE2, Int.toNat_natCast, Int.toNat_natCast, hal, ← hvm]
        rw [hE2, hV2] at hl2
        have HL2 := Lib.hid hl2; have HRUN1 := Lib.hid hrun1; have HRUN2 := Lib.hid hrun2; have HB4 := Lib.hid hB4
        have hsk : n ≤ N → ¬ v < 258 := fun h1 h2 => hskip ⟨h1, h2⟩
        clear hok hend hvm hskip hrw hown1 hb3 hrg hown2 hb4 hf4 hB4 hal hl2 hE2 hV2 hrun1 hrun2
        have tok1 : True := trivial
        by_cases hnN : n ≤ N
        · have hv2 := hsk hnN
          have d1 : decide ((n : Int) ≤ (N : Int)) = true := decY (by omega)
          have d1' : decide (n ≤ N) = true := decY (by omega)
          have d2 : decide ((v : Int) < 258) = false := decN (by omega)
          have hKe : K = n := by omega
          clear hsk hK hN hx em em'
          subst hKe
          go_wp2_with (first
            | (at_builtin; have _t := tok1; refine wpList_append_run rfl (.const (.slice none 0 0)) (.tmp 59) 25 rfl (.slice none 0 0) (.slice (some ad) K c) (.slice B1 K k1) w3 rfl rfl HRUN1.out ?_; clear tok1)
            | (at_builtin; refine wpList_append_run rfl (.tmp 62) (.tmp 63) 25 rfl (.slice B1 K k1) (.slice A2 m c2) (.slice B2 (K + m) k2) w4 rfl rfl HRUN2.out ?_))
          refine HL2.out.mono ?_
          rintro e w5 ⟨rfl, hdr⟩
          have HB5 := Lib.hid (hdr.below HB4.out)
          clear hdr
          go_wp2
          go_ret
          exact ⟨rfl, HB5.out⟩
        · have d1 : decide ((n : Int) ≤ (N : Int)) = false := decN (by omega)
          have d1' : decide (n ≤ N) = false := decN (by omega)
          have hKe : K = x := by omega
          clear hsk hK hN hx em em'
          subst hKe
          go_wp2_with (first
            | (at_builtin; have _t := tok1; refine wpList_append_run rfl (.const (.slice none 0 0)) (.tmp 59) 25 rfl (.slice none 0 0) (.slice (some ad) K c) (.slice B1 K k1) w3 rfl rfl HRUN1.out ?_; clear tok1)
            | (at_builtin; refine wpList_append_run rfl (.tmp 62) (.tmp 63) 25 rfl (.slice B1 K k1) (.slice A2 m c2) (.slice B2 (K + m) k2) w4 rfl rfl HRUN2.out ?_))
          refine HL2.out.mono ?_
          rintro e w5 ⟨rfl, hdr⟩
          have HB5 := Lib.hid (hdr.below HB4.out)
          clear hdr
          go_wp2
          go_ret
          exact ⟨rfl, HB5.out⟩
    · cases hok
  · have hne : (E != 0) = true := by simpa using hE0
    clear hE0
    go_wp2
    go_ret
    exact ⟨rfl, HB2.out⟩
-- LAW
set_option maxRecDepth 100000 in
theorem behind7_law_lifted (os : Os) (started : os.Started) (H : Type) (enc : TypeId × Value → H) :
    ReturnsInHanded {} Try.checked os 7 .any (Rows.matchBehindSpec.pre6 enc Try.prog Try.f7 Rows.matchBehindRow.domain false) (Rows.matchBehindSpec.post enc Try.prog Try.f7 false true false false) := by
  refine returnsInHanded_of_change (C := Try.checked) own started (by kernel_rfl) Try.func7
    (ChangeSpec.witness6 (enc := enc) (C := Try.checked) false ⟨#[], #[.slice none 0 0, .int .i64 0, .int .i64 0, .slice none 0 0], []⟩ 8 (by kernel_rfl) (by kernel_rfl) (by kernel_rfl) (by kernel_rfl)) ?_
  intro W base args ds gs before hval0 hW _ _
  have hval : ∀ (j : Nat) t v, Try.f7.params[j]? = some t → args[j]? = some v → Value.okWide Try.prog W .any base t v := hval0
  have hW' := hW
  obtain ⟨p, q, hA0, hV, rfl, _, _⟩ := hW
  have hA : DataW.TrodAll enc Try.prog W 0 (fun _ => true) true Try.f7.params.toList args.toList ds p := hA0
  rw [Try.params7] at hA hval
  obtain ⟨v0, vs0, d0, ds0, p0, q0, hargs, rfl, rfl, h0, r0⟩ := trodAll_cons hA
  obtain ⟨v1, vs1, d1, ds1, p1, q1, rfl, rfl, rfl, h1, r1⟩ := trodAll_cons r0
  obtain ⟨v2, vs2, d2, ds2, p2, q2, rfl, rfl, rfl, h2, r2⟩ := trodAll_cons r1
  obtain ⟨v3, vs3, d3, ds3, p3, q3, rfl, rfl, rfl, h3, r3⟩ := trodAll_cons r2
  obtain ⟨rfl, rfl, rfl⟩ := trodAll_nil r3
  obtain rfl : args = #[v0, v1, v2, v3] := by cases args; simp_all
  obtain ⟨rfl, rfl⟩ := trodVars_none hV
  have k0 := h0
  have lt0 : ∀ x ∈ p0, x.block < W.heap.size := by obtain ⟨m, hm⟩ := k0; exact DataW.trod_lt m _ _ _ hm
  obtain ⟨A0, len0, cap0, rfl⟩ := okWide_slice Try.underlying25 (hval 0 25 v0 rfl rfl)
  obtain ⟨f0, hr0⟩ := open_byr h0
  have k1 := h1
  have lt1 : ∀ x ∈ p1, x.block < W.heap.size := by obtain ⟨m, hm⟩ := k1; exact DataW.trod_lt m _ _ _ hm
  obtain ⟨a1, rfl, rfl, rfl, w1⟩ := open_int Try.underlying3 (hval 1 3 v1 rfl rfl) h1
  have u1 := wf_i64_range w1
  have k2 := h2
  have lt2 : ∀ x ∈ p2, x.block < W.heap.size := by obtain ⟨m, hm⟩ := k2; exact DataW.trod_lt m _ _ _ hm
  obtain ⟨a2, rfl, rfl, rfl, w2⟩ := open_int Try.underlying3 (hval 2 3 v2 rfl rfl) h2
  have u2 := wf_i64_range w2
  have k3 := h3
  have lt3 : ∀ x ∈ p3, x.block < W.heap.size := by obtain ⟨m, hm⟩ := k3; exact DataW.trod_lt m _ _ _ hm
  obtain ⟨A3, len3, cap3, rfl⟩ := okWide_slice Try.underlying25 (hval 3 25 v3 rfl rfl)
  obtain ⟨f3, hr3⟩ := open_byr h3
  clear hA0 hval0
  refine (behind7_law A0 len0 cap0 f0 a1 a2 A3 len3 cap3 f3 W hr0 u1.1 u1.2 u2.1 u2.2 hr3).mono fun e W' ⟨he, bel⟩ => ?_
  subst he
  exact ⟨_, rfl, _, _, _, [], _, [], hW', trodAll_mk1 (shut_bool Try.underlying4 _), (trodAll_cons_mk (Below.trod laidOut (by kernel_rfl) (of_decide_eq_true (by kernel_rfl)) k0 bel lt0) (trodAll_cons_mk (Below.trod laidOut (by kernel_rfl) (of_decide_eq_true (by kernel_rfl)) k1 bel lt1) (trodAll_cons_mk (Below.trod laidOut (by kernel_rfl) (of_decide_eq_true (by kernel_rfl)) k2 bel lt2) (trodAll_cons_mk (Below.trod laidOut (by kernel_rfl) (of_decide_eq_true (by kernel_rfl)) k3 bel lt3) trodAll_mk0)))), rfl, bel.frame _, fun h => by cases h⟩
theorem behind7_law_holds : Rows.MatchBehindSaid :=
  OpenClaim.holds_of_wide 7 Try.f7 rfl rfl rfl rfl rfl rfl rfl ⟨rfl, rfl, rfl, rfl, rfl⟩ rfl rfl rfl rfl rfl (by kernel_rfl) Try.func7 (by kernel_rfl)
    (of_decide_eq_true (by kernel_rfl)) (by unfold Func.isWrapper; first | (rw [if_pos (by decide +kernel)]; kernel_rfl) | (rw [if_neg (by decide +kernel)]; exact ⟨rfl, rfl⟩))
    (fun os started H enc _ => behind7_law_lifted os started H enc)
#print axioms behind7_law_holds
end Go.Proofs.Ytkgpbdlhjhbijaa
