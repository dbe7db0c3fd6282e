/-
  The law BuildLengths, for every frequencies and limit, returns true: lengths are made as the document says, and the frequencies stay. No condition.
-/
import Derived.Test.YtgppikhfkikknaaBuildImpl
namespace Go.Proofs.Ytgppikhfkikknaa
open Go.RowKit Go.ChangeShapes Go.WideShapes Go.ChangeAt
theorem ref_at {w : World} {B : Nat} (A : Option Addr) (c : Nat) (l : List Int) (most : Int) {N : Nat} (hN : N = l.length) (q : Int) (hq : q = askE l most) (M : Nat) (hM : M = lenO l most) (hr : RdI w B A l) (hB : B ≤ w.heap.size) :
    Calls Try.prog 12 #[.slice A N c, .int .i64 most] w fun e w' => ∃ A' c', e = .returned (.tuple #[.slice A' M c', .int .i64 q]) ∧ Below w.heap.size w w' ∧ RdB w' w'.heap.size A' M (outL l most) := by
  subst hN hq hM
  exact (rlengths_any w A c l most (hr.more hB)).mono fun e w' ⟨A', c', h1, h2, h3, _⟩ => ⟨A', c', h1, h2, h3⟩
set_option maxRecDepth 100000 in
set_option maxHeartbeats 8000000 in
theorem lengths_law (A : Option Addr) (N c : Nat) (l : List Int) (most : Int) (w : World) (hN : N = l.length) (hr : RdI w w.heap.size A l) (hc : A = none → c = 0) (hb : ∀ x ∈ l, -9223372036854775808 ≤ x ∧ x ≤ 9223372036854775807) (hm1 : -9223372036854775808 ≤ most) (hm2 : most ≤ 9223372036854775807) :
    Calls Try.prog 4 #[.slice A N c, .int .i64 most] w fun e w' => e = .returned (.bool true) ∧ Below w.heap.size w w' := by
  by_cases hbig : 1000 < N
  · go_enter Try.func4, Try.ntmps4
    go_wp2
    go_ret
    exact ⟨rfl, Below.refl _ _⟩
  have hl : N ≤ 1000 := by omega
  clear hbig
  have hbj : ∀ j, j < l.length → -9223372036854775808 ≤ l.getD j 0 ∧ l.getD j 0 ≤ 9223372036854775807 := fun j hj => hb _ (by rw [List.getD_eq_getElem?_getD, List.getElem?_eq_getElem hj]; exact List.getElem_mem hj)
  obtain ⟨A1, c1, w1, r1, ho, hb1⟩ := run_app (z := .int .i64 0) (by_ := 8) Try.underlying23 infoInt rfl (by decide) w w.heap.size _ (.slice none 0 0) 0 [] (World.ownsRow_nil w _ _ 1) A l.length c _ hr (intsL_one l) (by unfold maxLen; omega) (by omega) 23 hc (Nat.le_refl _)
  rw [Nat.zero_add, List.nil_append] at ho
  rw [Nat.zero_add] at r1
  have hr1 := (RdI.of_own ho).2
  have hcl := lengths_any w1 A1 c1 l most hr1 (fun h => (own_cap ho).2.2 h |>.2) (by omega) hbj hm1 hm2
  obtain ⟨q, hq⟩ : ∃ q, q = askE l most := ⟨_, rfl⟩
  obtain ⟨M, hM⟩ : ∃ M, M = lenO l most := ⟨_, rfl⟩
  have hask := ask_any w w.heap.size A c l most hr
  rw [← hq, ← hM, ← hN] at hcl
  rw [← hq, ← hN] at hask
  rw [← hN] at r1
  have HR := Lib.hid hr; have HN := Lib.hid hN; have HB1 := Lib.hid hb1; have R1 := Lib.hid r1; have HR1 := Lib.hid hr1; have CL := Lib.hid hcl; have HQ := Lib.hid hq; have HM := Lib.hid hM; have HASK := Lib.hid hask; have HBJ := Lib.hid hbj
  clear hr hN hb1 r1 hr1 hcl hq hM hask ho hb hbj hc
  go_enter Try.func4, Try.ntmps4
  go_wp2
  go_loopw [5, 6] (fun n i wr => ∃ k : Nat, k ≤ N ∧ i = .int .i64 k ∧ n = .int .i64 (nI (freqN l) k : Nat) ∧ w = wr) (fun _ i _ => N - (intOf i).toNat)
  case atStart => exact ⟨0, Nat.zero_le _, rfl, rfl, rfl⟩
  case round =>
    obtain ⟨k, hk, rfl, rfl, rfl⟩ := hrel
    have hnk := nI_le (freqN l) k
    by_cases hlt : k < N
    · obtain ⟨b, o, hA, _, hc⟩ := HR.out.at (k := k) (by rw [← HN.out]; exact hlt)
      subst hA
      have e1 := hc k (by rw [← HN.out]; exact hlt)
      have hxb := HBJ.out k (by rw [← HN.out]; exact hlt)
      have hs : nI (freqN l) (k + 1) = if 0 < freqN l k then nI (freqN l) k + 1 else nI (freqN l) k := by simp only [nI]; split <;> rfl
      have hf : freqN l k = (l.getD k 0).toNat := rfl
      obtain ⟨x, hx⟩ : ∃ x, x = l.getD k 0 := ⟨_, rfl⟩
      rw [← hx] at e1 hxb hf
      obtain ⟨m, hm⟩ : ∃ m, m = nI (freqN l) k := ⟨_, rfl⟩
      rw [← hm] at hs hnk ⊢
      clear hc hx hm
      by_cases hx0 : 0 < x
      · rw [if_pos (by omega)] at hs
        have HS := Lib.hid hs
        clear hs hf
        go_wp2
        go_roundw
        case rel => exact ⟨k + 1, by omega, by go_num, val_int (by rw [HS.out]; omega), trivial⟩
        case measure => simp [intOf]; omega
      · rw [if_neg (by omega)] at hs
        have HS := Lib.hid hs
        have hd : decide (0 < x) = false := by simpa using hx0
        clear hs hf
        go_wp2
        go_roundw
        case rel => exact ⟨k + 1, by omega, by go_num, val_int (by rw [HS.out]), trivial⟩
        case measure => simp [intOf]; omega
    · obtain rfl : N = k := by omega
      obtain ⟨n, hnn⟩ : ∃ n, n = nI (freqN l) N := ⟨_, rfl⟩
      rw [← hnn] at hnk ⊢
      have HNN := Lib.hid hnn
      clear hnn hlt hk
      by_cases h100 : 100 < n
      · by_cases hq0 : q = 0
        · have hqe : (q == 0) = true := by simpa using hq0
          clear hq0
          go_wp2_with (go_at_call 11; refine HASK.out.mono ?_; rintro e wa ⟨rfl, rfl⟩)
          go_ret
          exact ⟨rfl, Below.refl _ _⟩
        · have hqe : (q == 0) = false := by simpa using hq0
          clear hq0
          go_wp2_with (first
            | (go_at_call 11; refine HASK.out.mono ?_; rintro e wa ⟨rfl, rfl⟩)
            | (at_builtin; refine wpList_append_run rfl (.const (.slice none 0 0)) (.tmp 37) 23 rfl (.slice none 0 0) (.slice A N c) (.slice A1 N c1) w1 rfl rfl R1.out ?_)
            | (go_at_call 9; refine CL.out.mono ?_; rintro e w2 ⟨Ax, cx, rfl, hb2, hx⟩; have HB2 := Lib.hid hb2; have HX := Lib.hid hx; clear hb2 hx)
            | (go_at_call 12; refine (ref_at A c l most HN.out q HQ.out M HM.out (HR.out.below (HB1.out.trans (HB2.out.mono HB1.out.size)) (Nat.le_refl _)) (HB1.out.trans (HB2.out.mono HB1.out.size)).size).mono ?_; rintro e w3 ⟨Ay, cy, rfl, hb3, hy⟩; have HB3 := Lib.hid hb3; have HY := Lib.hid hy; clear hb3 hy))
          have HB12 := Lib.hid (HB1.out.trans (HB2.out.mono HB1.out.size))
          have HB := Lib.hid (HB12.out.trans (HB3.out.mono HB12.out.size))
          have HRO := Lib.hid ((HR1.out.below (HB2.out.trans (HB3.out.mono HB2.out.size)) (Nat.le_refl _)))
          have hs12 := HB1.out.size
          have hs123 := (HB2.out.trans (HB3.out.mono HB2.out.size)).size
          go_loopw [12] (fun i wr => ∃ (k nq : Nat), k ≤ N ∧ i = .int .i64 k ∧ wr = w3.drewN nq) (fun i _ => N - (intOf i).toNat)
          case atStart => exact ⟨0, 0, Nat.zero_le _, rfl, rfl⟩
          case round =>
            obtain ⟨k, p, hk, rfl, rfl⟩ := hrel
            by_cases hlt : k < N
            · obtain ⟨b, o, hA, _, hc⟩ := (HR.out.below HB.out (Nat.le_refl _)).at (k := k) (by rw [← HN.out]; exact hlt)
              obtain ⟨b1, o1, hA1, _, hc1⟩ := HRO.out.at (k := k) (by rw [← HN.out]; exact hlt)
              subst hA
              subst hA1
              have e1 : (w3.drewN p).cell? ⟨b, o + k, none⟩ = some (.int .i64 (l.getD k 0)) := hc k (by rw [← HN.out]; exact hlt)
              have e2 : (w3.drewN p).cell? ⟨b1, o1 + k, none⟩ = some (.int .i64 (l.getD k 0)) := hc1 k (by rw [← HN.out]; exact hlt)
              obtain ⟨x, hx⟩ : ∃ x, x = l.getD k 0 := ⟨_, rfl⟩
              rw [← hx] at e1 e2
              have hxx : (x != x) = false := by simp
              obtain ⟨V, hV⟩ : ∃ V, V = w3.drewN p := ⟨_, rfl⟩
              rw [← hV] at e1 e2 ⊢
              have HV := Lib.hid hV
              clear hV hc hc1 hx
              go_wp2
              go_quiet (fail)
              go_wp2
              go_roundw
              case rel => exact ⟨k + 1, p + nq, by omega, by go_num, by rw [HV.out, World.drewN_drewN]⟩
              case measure => simp [intOf]; omega
            · obtain rfl : N = k := by omega
              have hst1 := run_str ((HX.out.below HB3.out (Nat.le_refl _))) cx
              have hst2 := run_str HY.out cy
              have HBD := Lib.hid HB.out
              clear hlt hk
              obtain ⟨V, hV⟩ : ∃ V, V = w3.drewN p := ⟨_, rfl⟩
              have hst3 : (convert 24 9 (.slice Ax M cx)).run Try.prog V = .ok (.string (strB M (outL l most))) V := by rw [hV]; exact run_str (show RdB (w3.drewN p) w2.heap.size Ax M (outL l most) from HX.out.below (below_drew4 HB3.out p) (Nat.le_refl _)) cx
              have hst4 : (convert 24 9 (.slice Ay M cy)).run Try.prog V = .ok (.string (strB M (outL l most))) V := by rw [hV]; exact run_str (show RdB (w3.drewN p) w3.heap.size Ay M (outL l most) from HY.out) cy
              have hVB : Below w.heap.size w V := by rw [hV]; exact below_drew4 HB.out p
              have HVB := Lib.hid hVB
              have hqq : (q == q) = true := by simp
              obtain ⟨S, hS⟩ : ∃ S, S = strB M (outL l most) := ⟨_, rfl⟩
              rw [← hS] at hst3 hst4
              rw [← hV]
              clear hV hst1 hst2 hVB hS
              go_wp2
              go_ret
              exact ⟨rfl, HVB.out⟩
      · have h100d : decide (100 < n) = false := by simpa using h100
        have h100i : decide ((100 : Int) < (n : Int)) = false := by simp; omega
        clear h100
        go_wp2_with (first
          | (go_at_call 11; refine HASK.out.mono ?_; rintro e wa ⟨rfl, rfl⟩)
          | (at_builtin; refine wpList_append_run rfl (.const (.slice none 0 0)) (.tmp 37) 23 rfl (.slice none 0 0) (.slice A N c) (.slice A1 N c1) w1 rfl rfl R1.out ?_)
          | (go_at_call 9; refine CL.out.mono ?_; rintro e w2 ⟨Ax, cx, rfl, hb2, hx⟩; have HB2 := Lib.hid hb2; have HX := Lib.hid hx; clear hb2 hx)
          | (go_at_call 12; refine (ref_at A c l most HN.out q HQ.out M HM.out (HR.out.below (HB1.out.trans (HB2.out.mono HB1.out.size)) (Nat.le_refl _)) (HB1.out.trans (HB2.out.mono HB1.out.size)).size).mono ?_; rintro e w3 ⟨Ay, cy, rfl, hb3, hy⟩; have HB3 := Lib.hid hb3; have HY := Lib.hid hy; clear hb3 hy))
        have HB12 := Lib.hid (HB1.out.trans (HB2.out.mono HB1.out.size))
        have HB := Lib.hid (HB12.out.trans (HB3.out.mono HB12.out.size))
        have HRO := Lib.hid ((HR1.out.below (HB2.out.trans (HB3.out.mono HB2.out.size)) (Nat.le_refl _)))
        have hs12 := HB1.out.size
        have hs123 := (HB2.out.trans (HB3.out.mono HB2.out.size)).size
        go_loopw [12] (fun i wr => ∃ (k nq : Nat), k ≤ N ∧ i = .int .i64 k ∧ wr = w3.drewN nq) (fun i _ => N - (intOf i).toNat)
        case atStart => exact ⟨0, 0, Nat.zero_le _, rfl, rfl⟩
        case round =>
          obtain ⟨k, p, hk, rfl, rfl⟩ := hrel
          by_cases hlt : k < N
          · obtain ⟨b, o, hA, _, hc⟩ := (HR.out.below HB.out (Nat.le_refl _)).at (k := k) (by rw [← HN.out]; exact hlt)
            obtain ⟨b1, o1, hA1, _, hc1⟩ := HRO.out.at (k := k) (by rw [← HN.out]; exact hlt)
            subst hA
            subst hA1
            have e1 : (w3.drewN p).cell? ⟨b, o + k, none⟩ = some (.int .i64 (l.getD k 0)) := hc k (by rw [← HN.out]; exact hlt)
            have e2 : (w3.drewN p).cell? ⟨b1, o1 + k, none⟩ = some (.int .i64 (l.getD k 0)) := hc1 k (by rw [← HN.out]; exact hlt)
            obtain ⟨x, hx⟩ : ∃ x, x = l.getD k 0 := ⟨_, rfl⟩
            rw [← hx] at e1 e2
            have hxx : (x != x) = false := by simp
            obtain ⟨V, hV⟩ : ∃ V, V = w3.drewN p := ⟨_, rfl⟩
            rw [← hV] at e1 e2 ⊢
            have HV := Lib.hid hV
            clear hV hc hc1 hx
            go_wp2
            go_quiet (fail)
            go_wp2
            go_roundw
            case rel => exact ⟨k + 1, p + nq, by omega, by go_num, by rw [HV.out, World.drewN_drewN]⟩
            case measure => simp [intOf]; omega
          · obtain rfl : N = k := by omega
            have hst1 := run_str ((HX.out.below HB3.out (Nat.le_refl _))) cx
            have hst2 := run_str HY.out cy
            have HBD := Lib.hid HB.out
            clear hlt hk
            obtain ⟨V, hV⟩ : ∃ V, V = w3.drewN p := ⟨_, rfl⟩
            have hst3 : (convert 24 9 (.slice Ax M cx)).run Try.prog V = .ok (.string (strB M (outL l most))) V := by rw [hV]; exact run_str (show RdB (w3.drewN p) w2.heap.size Ax M (outL l most) from HX.out.below (below_drew4 HB3.out p) (Nat.le_refl _)) cx
            have hst4 : (convert 24 9 (.slice Ay M cy)).run Try.prog V = .ok (.string (strB M (outL l most))) V := by rw [hV]; exact run_str (show RdB (w3.drewN p) w3.heap.size Ay M (outL l most) from HY.out) cy
            have hVB : Below w.heap.size w V := by rw [hV]; exact below_drew4 HB.out p
            have HVB := Lib.hid hVB
            have hqq : (q == q) = true := by simp
            obtain ⟨S, hS⟩ : ∃ S, S = strB M (outL l most) := ⟨_, rfl⟩
            rw [← hS] at hst3 hst4
            rw [← hV]
            clear hV hst1 hst2 hVB hS
            go_wp2
            go_ret
            exact ⟨rfl, HVB.out⟩
-- LAW
set_option maxRecDepth 100000 in
theorem lengths_law_lifted (os : Os) (started : os.Started) (H : Type) (enc : TypeId × Value → H) :
    ReturnsInHanded {} Try.checked os 4 .any (Rows.buildLengthsSpec.pre6 enc Try.prog Try.f4 Rows.buildLengthsRow.domain false) (Rows.buildLengthsSpec.post enc Try.prog Try.f4 false true false false) := by
  refine returnsInHanded_of_change (C := Try.checked) own started (by kernel_rfl) Try.func4
    (ChangeSpec.witness6 (enc := enc) (C := Try.checked) false ⟨#[], #[.slice none 0 0, .int .i64 0], []⟩ 8 (by kernel_rfl) (by kernel_rfl) (by kernel_rfl) (by kernel_rfl)) ?_
  intro W base args ds gs before hval0 hW _ _
  have hval : ∀ (j : Nat) t v, Try.f4.params[j]? = some t → args[j]? = some v → Value.okWide Try.prog W .any base t v := hval0
  have hW' := hW
  obtain ⟨p, q, hA0, hV, rfl, _, _⟩ := hW
  have hA : DataW.TrodAll enc Try.prog W 0 (fun _ => true) true Try.f4.params.toList args.toList ds p := hA0
  rw [Try.params4] at hA hval
  obtain ⟨v0, vs0, d0, ds0, p0, q0, hargs, rfl, rfl, h0, r0⟩ := trodAll_cons hA
  obtain ⟨v1, vs1, d1, ds1, p1, q1, rfl, rfl, rfl, h1, r1⟩ := trodAll_cons r0
  obtain ⟨rfl, rfl, rfl⟩ := trodAll_nil r1
  obtain rfl : args = #[v0, v1] := by cases args; simp_all
  obtain ⟨rfl, rfl⟩ := trodVars_none hV
  have k0 := h0
  have lt0 : ∀ x ∈ p0, x.block < W.heap.size := by obtain ⟨m, hm⟩ := k0; exact DataW.trod_lt m _ _ _ hm
  obtain ⟨A0, len0, cap0, rfl⟩ := okWide_slice Try.underlying23 (hval 0 23 v0 rfl rfl)
  obtain ⟨l0, hlen0, hr0, hn0, hm0, hb0⟩ := open_intl h0
  have k1 := h1
  have lt1 : ∀ x ∈ p1, x.block < W.heap.size := by obtain ⟨m, hm⟩ := k1; exact DataW.trod_lt m _ _ _ hm
  obtain ⟨a1, rfl, rfl, rfl, w1⟩ := open_int Try.underlying3 (hval 1 3 v1 rfl rfl) h1
  have u1 := wf_i64_range w1
  clear hA0 hval0
  refine (lengths_law A0 len0 cap0 l0 a1 W hlen0 hr0 hn0 hb0 u1.1 u1.2).mono fun e W' ⟨he, bel⟩ => ?_
  subst he
  exact ⟨_, rfl, _, _, _, [], _, [], hW', trodAll_mk1 (shut_bool Try.underlying4 _), (trodAll_cons_mk (Below.trod laidOut (by kernel_rfl) (of_decide_eq_true (by kernel_rfl)) k0 bel lt0) (trodAll_cons_mk (Below.trod laidOut (by kernel_rfl) (of_decide_eq_true (by kernel_rfl)) k1 bel lt1) trodAll_mk0)), rfl, bel.frame _, fun h => by cases h⟩
theorem lengths_law_holds : Rows.BuildLengthsSaid :=
  OpenClaim.holds_of_wide 4 Try.f4 rfl rfl rfl rfl rfl rfl rfl ⟨rfl, rfl, rfl, rfl, rfl⟩ rfl rfl rfl rfl rfl (by kernel_rfl) Try.func4 (by kernel_rfl)
    (of_decide_eq_true (by kernel_rfl)) (by unfold Func.isWrapper; first | (rw [if_pos (by decide +kernel)]; kernel_rfl) | (rw [if_neg (by decide +kernel)]; exact ⟨rfl, rfl⟩))
    (fun os started H enc _ => lengths_law_lifted os started H enc)
#print axioms lengths_law_holds
end Go.Proofs.Ytgppikhfkikknaa
