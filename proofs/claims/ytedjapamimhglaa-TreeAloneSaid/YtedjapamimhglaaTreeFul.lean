/-
  The law TreeFull, for every tree, bytes and place, returns true: where there are 15 bits there is a symbol. No condition.
-/
import Derived.Test.YtedjapamimhglaaTreeAlv
import Derived.Test.YtedjapamimhglaaTreeRdx
import Derived.Test.YtedjapamimhglaaTreeOpn
namespace Go.Proofs.Ytedjapamimhglaa
open Go.RowKit Go.ChangeShapes Go.WideShapes Go.ChangeAt
def inB (s : List Int) (x : Int) (k : Nat) : Bool := decide (∃ j, j < k ∧ s.getD j 0 = x)
theorem inB_step (s : List Int) (x : Int) (k : Nat) : inB s x (k + 1) = (inB s x k || decide (s.getD k 0 = x)) := by
  unfold inB
  rw [Bool.eq_iff_iff]
  simp only [decide_eq_true_eq, Bool.or_eq_true]
  constructor
  · rintro ⟨j, hj, h⟩
    rcases Nat.eq_or_lt_of_le (Nat.le_of_lt_succ hj) with e | e
    · subst e; exact .inr h
    · exact .inl ⟨j, e, h⟩
  · rintro (⟨j, hj, h⟩ | h)
    · exact ⟨j, by omega, h⟩
    · exact ⟨k, by omega, h⟩
theorem full_next {c : Nat → Int} {s : List Int} {g : Nat → Nat} {l : Nat} {a : Int} {e : Ending} (ht : ∃ f, IsTree c s f) (h2 : 2 ≤ s.length) (ha : 0 ≤ a) (hl : a ≤ 8 * (l : Int) - 15) (ho : NxtOut c s g l a e) :
    ∃ i k : Nat, e = .returned (.tuple #[.int .i64 (i : Int), .int .i64 (a + (k : Int)), .int .i64 0]) ∧ 1 ≤ k ∧ k ≤ 15 ∧ inB s (i : Int) s.length = true := by
  obtain ⟨a, rfl⟩ := Int.eq_ofNat_of_zero_le ha
  rcases ho with ⟨f, hf, rfl⟩ | ⟨hno, _⟩
  · obtain ⟨i, k, h1, h3, h4, h5, h6⟩ := full_read hf h2 (g := g) (l := l) (a := a) (by omega)
    refine ⟨i, k, ?_, h3, h4, ?_⟩
    · unfold nxtP
      rw [if_neg (by omega), Int.toNat_natCast, h1]
      show Ending.returned (.tuple #[.int .i64 (i : Int), .int .i64 ((a + k : Nat) : Int), .int .i64 0]) = _
      rw [Int.natCast_add]
    · exact decide_eq_true (sym_in hf h5 (by omega))
  · obtain ⟨f, hf⟩ := ht
    exact absurd hf (hno f)
set_option maxRecDepth 100000 in
set_option maxHeartbeats 8000000 in
theorem full_law (c : Nat → Int) (u : Value) (s : List Int) (A : Option Addr) (l cb : Nat) (g : Nat → Nat) (a : Int) (w : World) (hu : RdS w w.heap.size u s) (_hc : ∀ m, m < 16 → -9223372036854775808 ≤ c m ∧ c m ≤ 9223372036854775807) (_hs : ∀ x ∈ s, -9223372036854775808 ≤ x ∧ x ≤ 9223372036854775807)
    (hg : RdB w w.heap.size A l g) (_hA : A = none → cb = 0) (h1 : -9223372036854775808 ≤ a) (h2 : a ≤ 9223372036854775807) :
    Calls Try.prog 7 #[.agg (trA c u), .slice A l cb, .int .i64 a] w fun e w' => e = .returned (.bool true) ∧ Below w.heap.size w w' := by
  have hb0 := (Below.refl w.heap.size w).alloc (Nat.le_refl _) (.cells (trA c u) 25)
  have ht0 := box_tree w c u
  obtain ⟨N, hN⟩ : ∃ N, N = s.length := ⟨_, rfl⟩
  have hu0 := hu
  obtain ⟨As, ca, hue, hrs, _⟩ := hu
  subst hue
  have hal := alive5_any (w.alloc (.cells (trA c (.slice As s.length ca)) 25))
  rw [← hN] at hb0 ht0 hu0 hal ⊢
  have HB0 := Lib.hid hb0; have HT0 := Lib.hid ht0; have HU := Lib.hid hu0; have HAL := Lib.hid hal; have HG := Lib.hid hg; have HN := Lib.hid hN; have HRS := Lib.hid hrs
  clear hb0 ht0 hu0 hal hg hN hrs _hc _hs
  go_enter Try.func7, Try.ntmps7
  go_wp2_with fail
  refine HAL.out.mono ?_
  rintro e w1 ⟨rfl, hb1⟩
  have hB1 := HB0.out.trans (hb1.mono HB0.out.size)
  have hT1 := HT0.out.below hb1 HT0.out.lt
  have k1 := hT1.syms
  have HB1 := Lib.hid hB1; have HT1 := Lib.hid hT1
  clear hb1 hB1 hT1
  by_cases hN1 : 1000 < N
  · have hd : decide (1000 < (N : Int)) = true := by simp; omega
    go_wp2
    go_ret
    exact ⟨rfl, HB1.out⟩
  have hd : decide (1000 < (N : Int)) = false := by simp; omega
  by_cases hl1 : 1000 < l
  · have hd2 : decide (1000 < (l : Int)) = true := by simp; omega
    go_wp2
    go_ret
    exact ⟨rfl, HB1.out⟩
  have hd2 : decide (1000 < (l : Int)) = false := by simp; omega
  go_wp2_with (refine wpList_load_row_on (by rfl) _ _ rfl w.heap.size rfl _ (trA c (.slice As N ca)) (0, 0) _ HT1.out Try.underlying25 rfl (by rw [trA_size]; exact szTree) ?_)
  have hu1 := (HU.out.below HB1.out (Nat.le_refl _)).more HB1.out.size
  refine (tchk_any w1 c (.slice As N ca) s hu1 (by rw [← HN.out]; omega)).mono ?_
  rintro e w2 ⟨hck, hb2⟩
  have hB2 := HB1.out.trans (hb2.mono HB1.out.size)
  have hT2 := HT1.out.below hb2 HT1.out.lt
  have hu2 := (hu1.below hb2 (Nat.le_refl _)).more hb2.size
  have k2 := hT2.syms
  have HB2 := Lib.hid hB2; have HT2 := Lib.hid hT2; have HU2 := Lib.hid hu2
  clear hb2 hB2 hT2 hu2 hu1 k1
  rcases hck with ⟨ht, rfl⟩ | ⟨_, rfl⟩
  · have HTR := Lib.hid ht
    clear ht
    by_cases hN2 : N < 2
    · have hd3 : decide ((N : Int) < 2) = true := by simp; omega
      go_wp2
      go_ret
      exact ⟨rfl, HB2.out⟩
    have hd3 : decide ((N : Int) < 2) = false := by simp; omega
    by_cases ha0 : a < 0
    · have hd4 : decide (a < 0) = true := by simpa using ha0
      go_wp2
      go_ret
      exact ⟨rfl, HB2.out⟩
    have hd4 : decide (a < 0) = false := by simpa using ha0
    by_cases hal : 8 * (l : Int) - 15 < a
    · have hd5 : decide (8 * (l : Int) - 15 < a) = true := by simpa using hal
      go_wp2
      go_ret
      exact ⟨rfl, HB2.out⟩
    have hd5 : decide (8 * (l : Int) - 15 < a) = false := by simpa using hal
    have hnx := tnext_any w2 c (.slice As N ca) s HU2.out (by rw [← HN.out]; omega) A l cb g ((HG.out.below HB2.out (Nat.le_refl _)).more HB2.out.size) (by omega) a h1 h2
    have HNX := Lib.hid hnx
    clear hnx
    go_wp2_with (refine wpList_load_row rfl _ _ rfl w.heap.size rfl _ (trA c (.slice As N ca)) (0, 0) _ HT2.out Try.underlying25 rfl (by rw [trA_size]; exact szTree) ?_)
    refine HNX.out.mono ?_
    rintro e w3 ⟨ho, hb3⟩
    obtain ⟨i, k, rfl, hk1, hk15, hin⟩ := full_next HTR.out (by rw [← HN.out]; omega) (by omega) (by omega) ho
    rw [← HN.out] at hin
    have hB3 := HB2.out.trans (hb3.mono HB2.out.size)
    have hT3 := HT2.out.below hb3 HT2.out.lt
    have k3 := hT3.syms
    have HB3 := Lib.hid hB3; have HT3 := Lib.hid hT3; have HIN := Lib.hid hin
    clear hb3 hB3 hT3 ho hin k2
    have e1 : decide (a + (k : Int) ≤ a) = false := by simp; omega
    have e2 : decide (a + 15 < a + (k : Int)) = false := by simp; omega
    go_wp2
    go_loopw [11, 12] (fun m j wr => ∃ q : Nat, q ≤ N ∧ j = .int .i64 q ∧ m = .bool (inB s (i : Int) q) ∧ w3 = wr) (fun _ j _ => N - (intOf j).toNat)
    case atStart => exact ⟨0, Nat.zero_le _, rfl, rfl, rfl⟩
    case round =>
      obtain ⟨q, hq, rfl, rfl, rfl⟩ := hrel
      by_cases hlt : q < N
      · obtain ⟨b, o, rfl, _, hc⟩ := (HRS.out.below HB3.out (Nat.le_refl _)).at (k := q) (by rw [← HN.out]; exact hlt)
        have e3 := hc q (by rw [← HN.out]; exact hlt)
        have hst := inB_step s (i : Int) q
        obtain ⟨x, hx⟩ : ∃ x, x = s.getD q 0 := ⟨_, rfl⟩
        rw [← hx] at e3 hst
        obtain ⟨M, hM⟩ : ∃ M, M = inB s (i : Int) q := ⟨_, rfl⟩
        rw [← hM] at hst ⊢
        have HST := Lib.hid hst
        clear hc hx hM hst
        cases M
        · go_wp2
          go_roundw
          case rel => exact ⟨q + 1, by omega, by go_num, by rw [HST.out, Bool.false_or]; congr 1, trivial⟩
          case measure => simp [intOf]; omega
        · go_wp2
          go_roundw
          case rel => exact ⟨q + 1, by omega, by go_num, by rw [HST.out]; rfl, trivial⟩
          case measure => simp [intOf]; omega
      · obtain rfl : q = N := by omega
        rw [HIN.out]
        clear hlt hq
        go_wp2
        go_ret
        exact ⟨rfl, HB3.out⟩
  · go_wp2
    go_ret
    exact ⟨rfl, HB2.out⟩
-- LAW
set_option maxRecDepth 100000 in
theorem full_law_lifted (os : Os) (started : os.Started) (H : Type) (enc : TypeId × Value → H) :
    ReturnsInHanded {} Try.checked os 7 .any (Rows.treeFullSpec.pre6 enc Try.prog Try.f7 Rows.treeFullRow.domain false) (Rows.treeFullSpec.post enc Try.prog Try.f7 false true false false) := by
  refine returnsInHanded_of_change (C := Try.checked) own started (by kernel_rfl) Try.func7
    (ChangeSpec.witness6 (enc := enc) (C := Try.checked) false ⟨#[], #[.agg (trA (fun _ => 0) (.slice none 0 0)), .slice none 0 0, .int .i64 0], []⟩ 8 (by kernel_rfl) (by kernel_rfl) (by kernel_rfl) (by kernel_rfl)) ?_
  intro W base args ds gs before hval0 hW _ _
  have hval : ∀ (j : Nat) t v, Try.f7.params[j]? = some t → args[j]? = some v → Value.okWide Try.prog W .any base t v := hval0
  have hW' := hW
  obtain ⟨p, q, hA0, hV, rfl, _, _⟩ := hW
  have hA : DataW.TrodAll enc Try.prog W 0 (fun _ => true) true Try.f7.params.toList args.toList ds p := hA0
  rw [Try.params7] at hA hval
  obtain ⟨v0, vs0, d0, ds0, p0, q0, hargs, rfl, rfl, h0, r0⟩ := trodAll_cons hA
  obtain ⟨v1, vs1, d1, ds1, p1, q1, rfl, rfl, rfl, h1, r1⟩ := trodAll_cons r0
  obtain ⟨v2, vs2, d2, ds2, p2, q2, rfl, rfl, rfl, h2, r2⟩ := trodAll_cons r1
  obtain ⟨rfl, rfl, rfl⟩ := trodAll_nil r2
  obtain rfl : args = #[v0, v1, v2] := by cases args; simp_all
  obtain ⟨rfl, rfl⟩ := trodVars_none hV
  have k0 := h0
  have lt0 : ∀ x ∈ p0, x.block < W.heap.size := by obtain ⟨m, hm⟩ := k0; exact DataW.trod_lt m _ _ _ hm
  obtain ⟨c0, u0, s0, rfl, hr0, hc0, hs0⟩ := open_tree (hval 0 25 v0 rfl rfl) h0
  have k1 := h1
  have lt1 : ∀ x ∈ p1, x.block < W.heap.size := by obtain ⟨m, hm⟩ := k1; exact DataW.trod_lt m _ _ _ hm
  obtain ⟨A1, len1, cap1, rfl⟩ := okWide_slice Try.underlying29 (hval 1 29 v1 rfl rfl)
  obtain ⟨f1, hr1, hn1, hl1, hm1⟩ := open_bytes h1
  have k2 := h2
  have lt2 : ∀ x ∈ p2, x.block < W.heap.size := by obtain ⟨m, hm⟩ := k2; exact DataW.trod_lt m _ _ _ hm
  obtain ⟨a2, rfl, rfl, rfl, w2⟩ := open_int Try.underlying3 (hval 2 3 v2 rfl rfl) h2
  have u2 := wf_i64_range w2
  clear hA0 hval0
  refine (full_law c0 u0 s0 A1 len1 cap1 f1 a2 W hr0 hc0 hs0 hr1 hn1 u2.1 u2.2).mono fun e W' ⟨he, bel⟩ => ?_
  subst he
  exact ⟨_, rfl, _, _, _, [], _, [], hW', trodAll_mk1 (shut_bool Try.underlying4 _), (trodAll_cons_mk (Below.trod laidOut (by kernel_rfl) (of_decide_eq_true (by kernel_rfl)) k0 bel lt0) (trodAll_cons_mk (Below.trod laidOut (by kernel_rfl) (of_decide_eq_true (by kernel_rfl)) k1 bel lt1) (trodAll_cons_mk (Below.trod laidOut (by kernel_rfl) (of_decide_eq_true (by kernel_rfl)) k2 bel lt2) trodAll_mk0))), rfl, bel.frame _, fun h => by cases h⟩
theorem full_law_holds : Rows.TreeFullSaid :=
  OpenClaim.holds_of_wide 7 Try.f7 rfl rfl rfl rfl rfl rfl rfl ⟨rfl, rfl, rfl, rfl, rfl⟩ rfl rfl rfl rfl rfl (by kernel_rfl) Try.func7 (by kernel_rfl)
    (of_decide_eq_true (by kernel_rfl)) (by unfold Func.isWrapper; first | (rw [if_pos (by decide +kernel)]; kernel_rfl) | (rw [if_neg (by decide +kernel)]; exact ⟨rfl, rfl⟩))
    (fun os started H enc _ => full_law_lifted os started H enc)
#print axioms full_law_holds
end Go.Proofs.Ytedjapamimhglaa
