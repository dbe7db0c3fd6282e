/-
  The law TokenBack, for every bytes, place and style, returns true: played behind what stands ahead, the tokens of bytes make just these bytes. No condition.
-/
import Derived.Test.YtihfcjehpmiolaaTokAlv
namespace Go.Proofs.Ytihfcjehpmiolaa
open Go.RowKit Go.ChangeShapes Go.WideShapes Go.ChangeAt Go.Joins
theorem cutL_x {f : Nat → Nat} (hf : ∀ j, f j < 256) {L size chain : Nat} {lz : Bool} : ∀ k a, ∀ t ∈ cutL f L size chain lz k a, t.x < 256
  | 0, a, t, ht => by simp [cutL] at ht
  | k + 1, a, t, ht => by
    simp only [cutL] at ht
    split at ht
    · simp at ht
    · split at ht
      · rw [List.mem_cons] at ht
        rcases ht with rfl | ht
        · exact hf a
        · exact cutL_x hf k _ t ht
      · rw [List.mem_cons] at ht
        rcases ht with rfl | ht
        · show 0 < 256; omega
        · exact cutL_x hf k _ t ht
/-- What is told of tokens that were cut. -/
theorem cut_told {f : Nat → Nat} (hf : ∀ j, f j < 256) {n a s h : Nat} {lz : Bool} (hs : s ≤ 32768) (ha : a ≤ n) (hn : n ≤ 131072) :
    (cutA f n s h lz a).length ≤ n - a ∧ (∀ t ∈ cutA f n s h lz a, TokIn t ∧ mayT t = true ∧ t.d ≤ s ∧ (h = 0 → t.n = 0)) ∧ plyO f a (cutA f n s h lz a) = (0, (preL f n).drop a) := by
  obtain ⟨h1, h2⟩ := cut_reach (f := f) (L := n) (size := s) (chain := h) lz hs (n - a) a ha
  refine ⟨h1, fun t ht => ?_, ?_⟩
  · obtain ⟨g1, g2, g3⟩ := h2 t ht
    refine ⟨⟨cutL_x hf _ _ t ht, ?_, ?_⟩, g1, g2, g3⟩
    · rcases mayT_is g1 with ⟨q1, q2⟩ | ⟨_, _, q1, q2, q3, q4⟩ <;> omega
    · rcases mayT_is g1 with ⟨q1, q2⟩ | ⟨_, _, q1, q2, q3, q4⟩ <;> omega
  · unfold plyO
    have hl : (cutA f n s h lz a).length ≤ n - a := h1
    rw [if_neg (by omega)]
    exact cut_back lz hs hn (n - a) a (Nat.le_refl _) ha (by omega)
theorem cutE_ok {n : Nat} {a s h m : Int} (e : cutE n a s h m = 0) : mayS s h m = true ∧ ¬ 131072 < n ∧ 0 ≤ a ∧ a ≤ (n : Int) := by
  unfold cutE at e
  split at e
  · omega
  · rename_i hm
    split at e
    · omega
    · split at e
      · rename_i hn hc; exact ⟨by simpa using hm, hn, hc.1, hc.2⟩
      · omega
set_option maxRecDepth 100000 in
set_option maxHeartbeats 4000000 in
theorem back8_law (A : Option Addr) (n c : Nat) (f : Nat → Nat) (a s h m : Int) (lz : Bool) (w : World) (hr : ByR w w.heap.size A n c f) (ha1 : -9223372036854775808 ≤ a) (ha2 : a ≤ 9223372036854775807)
    (_ : -9223372036854775808 ≤ s ∧ s ≤ 9223372036854775807) (_ : -9223372036854775808 ≤ h ∧ h ≤ 9223372036854775807) (_ : -9223372036854775808 ≤ m ∧ m ≤ 9223372036854775807) :
    Calls Try.prog 6 #[.slice A n c, .int .i64 a, .agg #[.int .i64 s, .int .i64 h, .int .i64 m, .bool lz]] w fun e w' => e = .returned (.bool true) ∧ Below w.heap.size w w' := by
  obtain ⟨W1, hW1⟩ : ∃ W1, W1 = w.alloc (.cells #[.int .i64 s, .int .i64 h, .int .i64 m, .bool lz] 32) := ⟨_, rfl⟩
  have hb1 : Below w.heap.size w W1 := by rw [hW1]; exact (Below.refl _ _).alloc (Nat.le_refl _) _
  have hbx : W1.heap[w.heap.size]? = some (.cells #[.int .i64 s, .int .i64 h, .int .i64 m, .bool lz] 32 (0, 0)) := by rw [hW1]; exact heap_alloc_new w _
  have hs1 : w.heap.size < W1.heap.size := by rw [hW1]; simp
  have HR := Lib.hid ((hr.below hb1 (Nat.le_refl _)).more hb1.size); have HB1 := Lib.hid hb1; have HBX := Lib.hid hbx; have HW1 := Lib.hid hW1; have HS1 := Lib.hid hs1
  clear hr hb1 hbx hW1 hs1
  have HAL := Lib.hid (alive8_any W1)
  by_cases hn1 : 1500 < n
  · have hd : decide (1500 < (n : Int)) = true := by simp; omega
    go_enter Try.func6, Try.ntmps6
    go_wp2_with fail
    rw [← HW1.out]
    refine HAL.out.mono ?_
    rintro e w2 ⟨rfl, hb⟩
    have HB2 := Lib.hid (HB1.out.trans (hb.mono HB1.out.size))
    clear hb
    go_wp2
    go_ret
    exact ⟨rfl, HB2.out⟩
  have hd : decide (1500 < (n : Int)) = false := by simp; omega
  obtain ⟨E, hE⟩ : ∃ E, E = cutE n a s h m := ⟨_, rfl⟩
  have hcu : ∀ u, ByR u u.heap.size A n c f → Calls Try.prog 10 #[.slice A n c, .int .i64 a, .agg #[.int .i64 s, .int .i64 h, .int .i64 m, .bool lz]] u fun e w' => ∃ A' n' c', e = .returned (.tuple #[.slice A' n' c', .int .i64 E]) ∧ TkR w' w'.heap.size A' n' c' (cutV f n a s h m lz) ∧ Below u.heap.size u w' := fun u hu => by
    rw [hE]; exact cut8_any u A n c f a s h m lz hu ha1 ha2
  have HCU := Lib.hid hcu; have HE := Lib.hid hE
  clear hcu hE
  go_enter Try.func6, Try.ntmps6
  go_wp2_with fail
  rw [← HW1.out]
  refine HAL.out.mono ?_
  rintro e w2 ⟨rfl, hb⟩
  have HB2 := Lib.hid (HB1.out.trans (hb.mono HB1.out.size))
  have HR2 := Lib.hid ((hb.block w.heap.size HS1.out).trans HBX.out)
  have HY2 := Lib.hid ((HR.out.below hb (Nat.le_refl _)).more hb.size)
  clear hb HAL
  go_wp2_with (refine wpList_load_row rfl _ _ rfl w.heap.size rfl _ #[.int .i64 s, .int .i64 h, .int .i64 m, .bool lz] (0, 0) _ HR2.out Try.underlying32 rfl szStyle ?_)
  refine (HCU.out w2 HY2.out).mono ?_
  rintro e w3 ⟨A', n', c', rfl, ht, hb⟩
  have HB3 := Lib.hid (HB2.out.trans (hb.mono HB2.out.size))
  have HY3 := Lib.hid ((HY2.out.below hb (Nat.le_refl _)).more hb.size)
  have HT := Lib.hid ht
  clear hb ht HB2 HY2 HR2 HCU HR HB1 HBX
  by_cases hE0 : E = 0
  · subst hE0
    obtain ⟨k1, k2, k3, k4⟩ := cutE_ok HE.out.symm
    obtain ⟨x1, x2, x3, x4, x5, x6⟩ := mayS_is k1
    obtain ⟨a, rfl⟩ := Int.eq_ofNat_of_zero_le k3
    obtain ⟨s, rfl⟩ := Int.eq_ofNat_of_zero_le (show 0 ≤ s by omega)
    obtain ⟨h, rfl⟩ := Int.eq_ofNat_of_zero_le x3
    have han : a ≤ n := by omega
    have hl : cutV f n a s h m lz = cutA f n s h lz a := if_pos HE.out.symm
    obtain ⟨l, hll⟩ : ∃ l, l = cutA f n s h lz a := ⟨_, rfl⟩
    have htold := cut_told (f := f) HY3.out.1.1 (n := n) (a := a) (s := s) (h := h) (lz := lz) (by omega) han (by omega)
    rw [← hll] at hl htold
    obtain ⟨_, hin, hply⟩ := htold
    have htk := HT.out
    rw [hl] at htk
    have e0 : ((0 : Int) != 0) = false := by decide
    have hac : (a : Int) ≤ (c : Int) := by have := HY3.out.2.2.1; omega
    have hac' : a ≤ c := by omega
    have hcut : ByR w3 w3.heap.size A a c f := ⟨⟨HY3.out.1.1, fun hn => by obtain ⟨b, o, q1, q2, q3⟩ := HY3.out.1.2 (by omega); exact ⟨b, o, q1, q2, fun j hj => q3 j (by omega)⟩⟩, HY3.out.2.1, by omega, HY3.out.2.2.2⟩
    have hpl := play8_any w3 A a c f A' n' c' l hcut htk (fun t ht => (hin t ht).1)
    rw [hply] at hpl
    have HPL := Lib.hid hpl
    clear hin hply htk hcut hpl hl hll k1 k2 k3 k4 x1 x2 x3 x4 x5 x6 HT HE ha1 ha2
    rcases A with _ | ad
    · have hc0 := HY3.out.2.1 rfl
      subst hc0
      have hn0 : n = 0 := by have := HY3.out.2.2.1; omega
      subst hn0
      have ha0 : a = 0 := by omega
      subst ha0
      go_wp2_with fail
      refine HPL.out.mono ?_
      rintro e w4 ⟨B', q', d', rfl, hq, hby, hb, _⟩
      have HB4 := Lib.hid (HB3.out.trans (hb.mono HB3.out.size))
      have hq2 : q' = 0 := by rw [hq]; simp [preL_length]
      subst hq2
      have hby1 : ∀ q, RdB (w4.drewN q) w4.heap.size B' 0 (lst ((preL f 0).drop 0)) := fun q => hby.1
      have hdr1 : ∀ q, RdB (w4.drewN q) w3.heap.size none 0 f := fun q => (show RdB w4 w3.heap.size none 0 f from HY3.out.1.below hb (Nat.le_refl _))
      have s1 := fun q => run_str (hby1 q) d'
      have s2 := fun q => run_str (hdr1 q) 0
      rw [show strB 0 (lst ((preL f 0).drop 0)) = strB 0 f from rfl] at s1
      obtain ⟨Z, hZ⟩ : ∃ Z, Z = strB 0 f := ⟨_, rfl⟩
      rw [← hZ] at s1 s2
      have e1 : (Z.toList == Z.toList) = true := by simp
      clear hby hb hby1 hdr1 hq hZ HPL
      go_wp2
      go_quiet (fail)
      go_wp2
      go_ret
      exact ⟨rfl, by obtain ⟨h1, h2, h3, h4, h5⟩ := HB4.out; exact ⟨h1, h2, h3, h4, h5⟩⟩
    · go_wp2_with fail
      refine HPL.out.mono ?_
      rintro e w4 ⟨B', q', d', rfl, hq, hby, hb, _⟩
      have HB4 := Lib.hid (HB3.out.trans (hb.mono HB3.out.size))
      have hq2 : q' = n - a := by rw [hq]; simp [preL_length]
      subst hq2
      obtain ⟨A3, hA3⟩ : ∃ A3, (if c = a then (some ad : Option Addr) else some (ad.add a)) = A3 := ⟨_, rfl⟩
      have hdr := (HY3.out.below hb (Nat.le_refl _)).drop (p := a) han hA3
      have hby1 : ∀ q, RdB (w4.drewN q) w4.heap.size B' (n - a) (lst ((preL f n).drop a)) := fun q => hby.1
      have hdr1 : ∀ q, RdB (w4.drewN q) w3.heap.size A3 (n - a) (fun j => f (j + a)) := fun q => hdr.1
      have s1 := fun q => run_str (hby1 q) d'
      have s2 := fun q => run_str (hdr1 q) (c - a)
      have hsame : strB (n - a) (lst ((preL f n).drop a)) = strB (n - a) (fun j => f (j + a)) := strB_same fun j hj => by
        unfold lst
        rw [List.getD_eq_getElem?_getD, List.getElem?_drop, ← List.getD_eq_getElem?_getD, preL_get f (by omega), Nat.add_comm]
      rw [hsame] at s1
      obtain ⟨Z, hZ⟩ : ∃ Z, Z = strB (n - a) (fun j => f (j + a)) := ⟨_, rfl⟩
      rw [← hZ] at s1 s2
      have e1 : (Z.toList == Z.toList) = true := by simp
      have hai : (a : Int) ≤ (n : Int) := by omega
      clear hby hb hdr hby1 hdr1 hq hsame hZ HPL
      go_wp2
      go_quiet (fail)
      go_wp2
      go_ret
      exact ⟨rfl, by obtain ⟨h1, h2, h3, h4, h5⟩ := HB4.out; exact ⟨h1, h2, h3, h4, h5⟩⟩
  · have hne : (E != 0) = true := by simpa using hE0
    have hv : cutV f n a s h m lz = [] := if_neg (by rw [← HE.out]; exact hE0)
    have htk := HT.out
    rw [hv] at htk
    have hn0 : n' = 0 := htk.1
    subst hn0
    clear htk hv hE0
    go_wp2
    go_ret
    exact ⟨rfl, HB3.out⟩
-- LAW
set_option maxRecDepth 100000 in
theorem back8_law_lifted (os : Os) (started : os.Started) (H : Type) (enc : TypeId × Value → H) :
    ReturnsInHanded {} Try.checked os 6 .any (Rows.tokenBackSpec.pre6 enc Try.prog Try.f6 Rows.tokenBackRow.domain false) (Rows.tokenBackSpec.post enc Try.prog Try.f6 false true false false) := by
  refine returnsInHanded_of_change (C := Try.checked) own started (by kernel_rfl) Try.func6
    (ChangeSpec.witness6 (enc := enc) (C := Try.checked) false ⟨#[], #[.slice none 0 0, .int .i64 0, .agg #[.int .i64 0, .int .i64 0, .int .i64 0, .bool false]], []⟩ 8 (by kernel_rfl) (by kernel_rfl) (by kernel_rfl) (by kernel_rfl)) ?_
  intro W base args ds gs before hval0 hW _ _
  have hval : ∀ (j : Nat) t v, Try.f6.params[j]? = some t → args[j]? = some v → Value.okWide Try.prog W .any base t v := hval0
  have hW' := hW
  obtain ⟨p, q, hA0, hV, rfl, _, _⟩ := hW
  have hA : DataW.TrodAll enc Try.prog W 0 (fun _ => true) true Try.f6.params.toList args.toList ds p := hA0
  rw [Try.params6] at hA hval
  obtain ⟨v0, vs0, d0, ds0, p0, q0, hargs, rfl, rfl, h0, r0⟩ := trodAll_cons hA
  obtain ⟨v1, vs1, d1, ds1, p1, q1, rfl, rfl, rfl, h1, r1⟩ := trodAll_cons r0
  obtain ⟨v2, vs2, d2, ds2, p2, q2, rfl, rfl, rfl, h2, r2⟩ := trodAll_cons r1
  obtain ⟨rfl, rfl, rfl⟩ := trodAll_nil r2
  obtain rfl : args = #[v0, v1, v2] := by cases args; simp_all
  obtain ⟨rfl, rfl⟩ := trodVars_none hV
  have k0 := h0
  have lt0 : ∀ x ∈ p0, x.block < W.heap.size := by obtain ⟨m, hm⟩ := k0; exact DataW.trod_lt m _ _ _ hm
  obtain ⟨A0, len0, cap0, rfl⟩ := okWide_slice Try.underlying22 (hval 0 22 v0 rfl rfl)
  obtain ⟨f0, hr0⟩ := open_byr h0
  have k1 := h1
  have lt1 : ∀ x ∈ p1, x.block < W.heap.size := by obtain ⟨m, hm⟩ := k1; exact DataW.trod_lt m _ _ _ hm
  obtain ⟨a1, rfl, rfl, rfl, w1⟩ := open_int Try.underlying3 (hval 1 3 v1 rfl rfl) h1
  have u1 := wf_i64_range w1
  have k2 := h2
  have lt2 : ∀ x ∈ p2, x.block < W.heap.size := by obtain ⟨m, hm⟩ := k2; exact DataW.trod_lt m _ _ _ hm
  obtain ⟨s2, c2, m2, z2, rfl, us2, uc2, um2⟩ := open_sty (hval 2 32 v2 rfl rfl) h2
  clear hA0 hval0
  refine (back8_law A0 len0 cap0 f0 a1 s2 c2 m2 z2 W hr0 u1.1 u1.2 us2 uc2 um2).mono fun e W' ⟨he, bel⟩ => ?_
  subst he
  exact ⟨_, rfl, _, _, _, [], _, [], hW', trodAll_mk1 (shut_bool Try.underlying4 _), (trodAll_cons_mk (Below.trod laidOut (by kernel_rfl) (of_decide_eq_true (by kernel_rfl)) k0 bel lt0) (trodAll_cons_mk (Below.trod laidOut (by kernel_rfl) (of_decide_eq_true (by kernel_rfl)) k1 bel lt1) (trodAll_cons_mk (Below.trod laidOut (by kernel_rfl) (of_decide_eq_true (by kernel_rfl)) k2 bel lt2) trodAll_mk0))), rfl, bel.frame _, fun h => by cases h⟩
theorem back8_law_holds : Rows.TokenBackSaid :=
  OpenClaim.holds_of_wide 6 Try.f6 rfl rfl rfl rfl rfl rfl rfl ⟨rfl, rfl, rfl, rfl, rfl⟩ rfl rfl rfl rfl rfl (by kernel_rfl) Try.func6 (by kernel_rfl)
    (of_decide_eq_true (by kernel_rfl)) (by unfold Func.isWrapper; first | (rw [if_pos (by decide +kernel)]; kernel_rfl) | (rw [if_neg (by decide +kernel)]; exact ⟨rfl, rfl⟩))
    (fun os started H enc _ => back8_law_lifted os started H enc)
#print axioms back8_law_holds
end Go.Proofs.Ytihfcjehpmiolaa
