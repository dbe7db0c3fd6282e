/-
  The law BuildWider, for every frequencies, limit and number, returns true. No condition.
-/
import Derived.Test.YtgppikhfkikknaaBuildCst
namespace Go.Proofs.Ytgppikhfkikknaa
open Go.RowKit Go.ChangeShapes Go.WideShapes Go.ChangeAt
theorem below_drewNc {B : Nat} {a w : World} (h : Below B a w) (n : Nat) : Below B a (w.drewN n) := ⟨h.os, h.tape, h.output, h.size, h.block⟩
/-- A frequency times a number, as the law has it. -/
def tmI (b : Nat) (x : Int) : Int := (if x < -1 then -1 else x) * (1 + (b : Int))
def timesL (b : Nat) (l : List Int) : List Int := l.map (tmI b)
theorem tm_neg {b : Nat} {x : Int} (h : x < 0) : tmI b x < 0 := by
  have e : (if x < -1 then (-1 : Int) else x) = -1 := by split <;> omega
  unfold tmI; rw [e]; omega
theorem tm_pos {b : Nat} {x : Int} (h : 0 ≤ x) : tmI b x = (((1 + b) * x.toNat : Nat) : Int) := by
  obtain ⟨n, rfl⟩ := Int.eq_ofNat_of_zero_le h
  unfold tmI
  rw [if_neg (by omega), Int.mul_comm, Int.natCast_mul, Int.toNat_natCast]
  rfl
theorem tm_le {b : Nat} {x : Int} (hb : b < 256) (h : 0 ≤ x) (h2 : x ≤ 1048576) : 0 ≤ tmI b x ∧ tmI b x ≤ 268435456 := by
  rw [tm_pos h]
  have h3 : (1 + b) * x.toNat ≤ 256 * 1048576 := Nat.mul_le_mul (by omega) (by omega)
  omega
theorem tm_in {b : Nat} {x : Int} (hb : b < 256) (h2 : x ≤ 1048576) : -256 ≤ tmI b x ∧ tmI b x ≤ 268435456 := by
  rcases Int.lt_or_le x 0 with h | h
  · have e : (if x < -1 then (-1 : Int) else x) = -1 := by split <;> omega
    unfold tmI; rw [e]; omega
  · have := tm_le hb h h2; omega
theorem times_length (b : Nat) (l : List Int) : (timesL b l).length = l.length := by simp [timesL]
theorem times_at (b : Nat) (l : List Int) (j : Nat) : (timesL b l).getD j 0 = tmI b (l.getD j 0) := by
  unfold timesL
  rw [List.getD_eq_getElem?_getD, List.getD_eq_getElem?_getD, List.getElem?_map]
  cases l[j]? with
  | none => show (0 : Int) = tmI b 0; unfold tmI; rw [if_neg (by omega), Int.zero_mul]
  | some x => rfl
theorem times_freq (b : Nat) (l : List Int) : freqN (timesL b l) = fun j => (1 + b) * freqN l j := by
  funext j
  unfold freqN
  rw [times_at]
  rcases Int.lt_or_le (l.getD j 0) 0 with h | h
  · have := tm_neg (b := b) h
    rw [show (tmI b (l.getD j 0)).toNat = 0 by omega, show (l.getD j 0).toNat = 0 by omega, Nat.mul_zero]
  · rw [tm_pos h, Int.toNat_natCast]
theorem times_bad {b : Nat} (hb : b < 256) {l : List Int} (hl : ∀ j, j < l.length → l.getD j 0 ≤ 1048576) : badL (timesL b l) l.length = badL l l.length := by
  unfold badL
  rw [decide_eq_decide]
  have key : ∀ j, j < l.length → (badI ((timesL b l).getD j 0) = badI (l.getD j 0)) := fun j hj => by
    rw [times_at]
    have h1 := hl j hj
    unfold badI
    rw [decide_eq_decide]
    rcases Int.lt_or_le (l.getD j 0) 0 with h | h
    · have := tm_neg (b := b) h; omega
    · have := tm_le hb h h1; omega
  constructor
  · rintro ⟨j, hj, h⟩; exact ⟨j, hj, (key j hj) ▸ h⟩
  · rintro ⟨j, hj, h⟩; exact ⟨j, hj, (key j hj).symm ▸ h⟩
theorem times_ask {b : Nat} (hb : b < 256) {l : List Int} (hl : ∀ j, j < l.length → l.getD j 0 ≤ 1048576) (most : Int) : askE (timesL b l) most = askE l most := by
  unfold askE
  rw [times_length, times_bad hb hl, times_freq, nI_mul (by omega)]
theorem times_out {b : Nat} (hb : b < 256) {l : List Int} (hl : ∀ j, j < l.length → l.getD j 0 ≤ 1048576) (most : Int) : outL (timesL b l) most = outL l most := by
  funext j
  unfold outL
  rw [times_ask hb hl, times_length, times_freq, lenB_mul (by omega)]
theorem times_len {b : Nat} (hb : b < 256) {l : List Int} (hl : ∀ j, j < l.length → l.getD j 0 ≤ 1048576) (most : Int) : lenO (timesL b l) most = lenO l most := by
  unfold lenO
  rw [times_ask hb hl, times_length]
theorem ask_wider {l : List Int} {most : Int} (h : askE l most = 0) : (most = 15 → askE l (most + 1) = 2) ∧ (most ≠ 15 → askE l (most + 1) = 0 ∧ costN (freqN l) (outL l (most + 1)) l.length ≤ costN (freqN l) (outL l most) l.length) := by
  obtain ⟨h1, h2, h3, h4, h5⟩ := ask_right h
  constructor
  · intro h15; unfold askE; rw [if_pos (by omega)]
  · intro h15
    have e : (most + 1).toNat = most.toNat + 1 := by omega
    have hk : askE l (most + 1) = 0 := by
      have h0 := h
      unfold askE at h ⊢
      rw [if_neg (by omega), if_neg (by omega)] at h
      rw [if_neg (by omega), if_neg (by omega)]
      cases hb : badL l l.length with
      | true => rw [hb, if_pos rfl] at h; cases h
      | false =>
        rw [if_neg (by decide), e, Nat.pow_succ, if_neg (by omega)]
    refine ⟨hk, ?_⟩
    have e1 : outL l (most + 1) = lenB (freqN l) l.length (most.toNat + 1) := by funext j; unfold outL; rw [if_pos hk, e]
    have e2 : outL l most = lenB (freqN l) l.length most.toNat := by funext j; unfold outL; rw [if_pos h]
    rw [e1, e2]
    exact build_wider (by omega) h5
theorem take_times (b : Nat) (l : List Int) {k : Nat} (hk : k < l.length) : (timesL b l).take k ++ [tmI b (l.getD k 0)] = (timesL b l).take (k + 1) := by
  rw [List.take_add_one]
  congr 1
  have h2 : k < (timesL b l).length := by rw [times_length]; exact hk
  rw [List.getElem?_eq_getElem h2]
  have e := times_at b l k
  rw [List.getD_eq_getElem?_getD, List.getElem?_eq_getElem h2] at e
  simp only [Option.getD_some] at e
  rw [← e]; rfl
set_option maxRecDepth 100000 in
set_option maxHeartbeats 4000000 in
theorem wider_law (A : Option Addr) (N c : Nat) (l : List Int) (most : Int) (b : Nat) (w : World) (hN : N = l.length) (hr : RdI w w.heap.size A l) (hc : A = none → c = 0) (hb : ∀ x ∈ l, -9223372036854775808 ≤ x ∧ x ≤ 9223372036854775807) (hm1 : -9223372036854775808 ≤ most) (hm2 : most ≤ 9223372036854775807) (hby : b < 256) :
    Calls Try.prog 7 #[.slice A N c, .int .i64 most, .int .u8 (b : Int)] w fun e w' => e = .returned (.bool true) ∧ Below w.heap.size w w' := by
  have HAL := Lib.hid (alive4_any w)
  by_cases hbig : 400 < N
  · have hd : decide (400 < (N : Int)) = true := by simp; omega
    go_enter Try.func7, Try.ntmps7
    go_wp2_with (go_at_call 10; refine HAL.out.mono ?_; rintro e w1 ⟨rfl, hb1⟩; have HB1 := Lib.hid hb1; clear hb1)
    go_ret
    exact ⟨rfl, HB1.out⟩
  have hd : decide (400 < (N : Int)) = false := by simp; omega
  have hbj : ∀ j, j < l.length → -9223372036854775808 ≤ l.getD j 0 ∧ l.getD j 0 ≤ 9223372036854775807 := fun j hj => hb _ (by rw [List.getD_eq_getElem?_getD, List.getElem?_eq_getElem hj]; exact List.getElem_mem hj)
  have HR := Lib.hid hr; have HN := Lib.hid hN; have HC := Lib.hid hc; have HBJ := Lib.hid hbj
  have ht0 : (0 : Nat) = ((timesL b l).take 0).length := rfl
  clear hr hN hc hb hbj ht0
  go_enter Try.func7, Try.ntmps7
  go_wp2_with fail
  refine HAL.out.mono ?_
  rintro e w1 ⟨rfl, hb1⟩
  have HB1 := Lib.hid hb1
  have HR1 := Lib.hid ((HR.out.below hb1 (Nat.le_refl _)).more hb1.size)
  clear hb1
  go_wp2
  go_loopw [8, 9] (fun o i wr => ∃ (k : Nat) (Ao : Option Addr) (co : Nat), k ≤ N ∧ i = .int .i64 k ∧ o = .slice Ao k co ∧
    wr.ownsRow w1.heap.size 3 1 (.slice Ao k co) k (intsL ((timesL b l).take k)) ∧ Below w1.heap.size w1 wr ∧ ∀ j, j < k → l.getD j 0 ≤ 1048576) (fun _ i _ => N - (intOf i).toNat)
  case atStart => exact ⟨0, none, 0, Nat.zero_le _, rfl, rfl, World.ownsRow_nil w1 _ _ 1, Below.refl _ _, fun j hj => absurd hj (by omega)⟩
  case round =>
    obtain ⟨k, Ao, co, hk, rfl, rfl, hown, hbw, hsm⟩ := hrel
    have HSM := Lib.hid hsm
    clear hsm
    by_cases hlt : k < N
    · obtain ⟨ab, o, hA, hbl, hcc⟩ := (HR1.out.below hbw (Nat.le_refl _)).at (k := k) (by rw [← HN.out]; exact hlt)
      have hcell := hcc k (by rw [← HN.out]; exact hlt)
      have htt := take_times b l (k := k) (by rw [← HN.out]; exact hlt)
      have hxb := HBJ.out k (by rw [← HN.out]; exact hlt)
      subst hA
      obtain ⟨x, hx⟩ : ∃ x, x = l.getD k 0 := ⟨_, rfl⟩
      rw [← hx] at hcell htt hxb
      have HX := Lib.hid hx
      have HT := Lib.hid htt
      clear hx hcc htt
      by_cases g : 1048576 < x
      · have HB := Lib.hid (HB1.out.trans (hbw.mono HB1.out.size))
        clear hown hbw
        go_wp2
        go_ret
        exact ⟨rfl, HB.out⟩
      · have hin := tm_in (b := b) (x := x) hby (by omega)
        obtain ⟨A', c', w2, hrun, hown2, hb2⟩ := run_one wr w1.heap.size Ao k co _ hown (tmI b x) (by omega) hbw.size
        have HBW := Lib.hid (hbw.trans hb2)
        have HOWN := Lib.hid hown2
        have HRUN := Lib.hid hrun
        clear hown hb2 hown2 hrun hbw
        have HIN := Lib.hid hin
        clear hin
        have key : ∀ y : Int, y = tmI b x → Hid ((Builtin.append_ #[23, 23] 23 #[.slice Ao k co, .slice (some ⟨wr.heap.size, 0, none⟩) 1 1]).run Try.prog (wr.alloc (.cells #[.int .i64 y] 3)) = .ok (.slice A' (k + 1) c') w2) := fun y hy => by rw [hy]; exact HRUN
        have HS2 := Lib.hid (show ∀ j, j < k + 1 → l.getD j 0 ≤ 1048576 from fun j hj => by
          rcases Nat.eq_or_lt_of_le (Nat.le_of_lt_succ hj) with e | e
          · subst e; rw [← HX.out]; omega
          · exact HSM.out j e)
        clear HRUN
        by_cases gx : x < -1
        · have HR2 := key (-(1 + (b : Int))) (by unfold tmI; rw [if_pos gx]; omega)
          clear key
          go_wp2_with (at_builtin; refine wpList_append_run rfl (.tmp 37) (.tmp 47) 23 rfl (.slice Ao k co) (.slice (some ⟨wr.heap.size, 0, none⟩) 1 1) (.slice A' (k + 1) c') w2 rfl rfl HR2.out ?_)
          go_roundw
          case rel =>
            refine ⟨k + 1, A', c', by omega, by go_num, rfl, ?_, HBW.out, HS2.out⟩
            rw [← HT.out]; exact HOWN.out
          case measure => simp [intOf]; omega
        · have HR2 := key (wrap64 (x * (1 + (b : Int)))) (by have := HIN.out; unfold tmI at this ⊢; rw [if_neg gx] at this ⊢; generalize x * (1 + (b : Int)) = z at this ⊢; unfold wrap64; omega)
          clear key
          go_wp2_with (at_builtin; refine wpList_append_run rfl (.tmp 37) (.tmp 47) 23 rfl (.slice Ao k co) (.slice (some ⟨wr.heap.size, 0, none⟩) 1 1) (.slice A' (k + 1) c') w2 rfl rfl HR2.out ?_)
          go_roundw
          case rel =>
            refine ⟨k + 1, A', c', by omega, by go_num, rfl, ?_, HBW.out, HS2.out⟩
            rw [← HT.out]; exact HOWN.out
          case measure => simp [intOf]; omega
    · obtain rfl : k = N := by omega
      have hsm := HSM.out
      rw [HN.out] at hsm
      have htk : (timesL b l).take k = timesL b l := List.take_of_length_le (by rw [times_length, HN.out]; exact Nat.le_refl _)
      rw [htk] at hown
      have hrt := (RdI.of_own hown).2
      have hcap : Ao = none → co = 0 := fun h => by
        rcases hown.2 with ⟨hv, _⟩ | ⟨g, cap, cur, hv, _⟩
        · injection hv
        · injection hv with h1 _ _; rw [h] at h1; cases h1
      obtain ⟨q, hq⟩ : ∃ q, q = askE l most := ⟨_, rfl⟩
      obtain ⟨M, hM⟩ : ∃ M, M = lenO l most := ⟨_, rfl⟩
      have hbw2 := HB1.out.trans (hbw.mono HB1.out.size)
      have hr2 := (HR1.out.below hbw (Nat.le_refl _)).more hbw.size
      have htl : (timesL b l).length = k := by rw [times_length, HN.out]
      have hcl : ∀ (m : Int) (W : World), Below wr.heap.size wr W → -9223372036854775808 ≤ m → m ≤ 9223372036854775807 → Calls Try.prog 9 #[.slice A k c, .int .i64 m] W fun e w' => ∃ A' c', e = .returned (.tuple #[.slice A' (lenO l m) c', .int .i64 (askE l m)]) ∧ Below W.heap.size W w' ∧ RdB w' w'.heap.size A' (lenO l m) (outL l m) := fun m W hW h1 h2 => by
        have h := lengths_any W A c l m ((hr2.below hW (Nat.le_refl _)).more hW.size) HC.out (by rw [← HN.out]; omega) HBJ.out h1 h2
        rw [← HN.out] at h
        exact h
      have hcl2 : ∀ W : World, Below wr.heap.size wr W → Calls Try.prog 9 #[.slice Ao k co, .int .i64 most] W fun e w' => ∃ A' c', e = .returned (.tuple #[.slice A' (lenO l most) c', .int .i64 (askE l most)]) ∧ Below W.heap.size W w' ∧ RdB w' w'.heap.size A' (lenO l most) (outL l most) := fun W hW => by
        have h := lengths_any W Ao co (timesL b l) most ((hrt.below hW (Nat.le_refl _)).more hW.size) hcap (by omega) (fun j hj => by
          have h1 := tm_in (b := b) hby (hsm j (by rw [times_length] at hj; exact hj))
          rw [times_at]; omega) hm1 hm2
        rw [htl, times_len hby hsm, times_ask hby hsm, times_out hby hsm] at h
        exact h
      have hfb : 0 ≤ q → True := fun _ => trivial
      have HSML := Lib.hid hsm
      have CL := Lib.hid hcl; have CL2 := Lib.hid hcl2; have HB2 := Lib.hid hbw2; have HR2 := Lib.hid hr2
      clear hown hbw hsm htk hrt hcap hbw2 hr2 htl hcl hcl2 hfb hlt hk
      have hc1 := CL.out most wr (Below.refl _ _) hm1 hm2
      rw [← hq, ← hM] at hc1
      have HC1 := Lib.hid hc1
      have hc2 := fun W h => CL2.out W h
      rw [← hq, ← hM] at hc2
      have HC20 := Lib.hid hc2
      have HQ := Lib.hid hq; have HM := Lib.hid hM
      clear hc1 hc2 hq hM
      go_wp2_with fail
      refine HC1.out.mono ?_
      rintro e w3 ⟨Aa, ca, rfl, hb3, hxa⟩
      have hc2 := HC20.out w3 hb3
      have HC2 := Lib.hid hc2
      have HB3 := Lib.hid hb3
      have HXA := Lib.hid hxa
      clear hc2 hb3 hxa
      go_wp2_with fail
      refine HC2.out.mono ?_
      rintro e w4 ⟨Ab, cb, rfl, hb4, hxb⟩
      have HB4 := Lib.hid (HB3.out.trans (hb4.mono HB3.out.size))
      have HXA4 := Lib.hid ((HXA.out.below hb4 (Nat.le_refl _)).more hb4.size)
      have HXB := Lib.hid hxb
      clear hb4 hxb
      by_cases hq0 : q = 0
      · subst hq0
        have hMk : M = k := by rw [HM.out]; unfold lenO; rw [if_pos HQ.out.symm, HN.out]
        subst hMk
        obtain ⟨h1, h15, h320, h4, _⟩ := ask_right HQ.out.symm
        have hw := ask_wider HQ.out.symm
        have H4 := Lib.hid h4
        clear h4
        obtain ⟨S, hS⟩ : ∃ S, S = strB M (outL l most) := ⟨_, rfl⟩
        have hst1 := run_str HXA4.out ca
        have hst2 := run_str HXB.out cb
        rw [← hS] at hst1 hst2
        have HS := Lib.hid hS
        clear hS
        by_cases h15' : most = 15
        · subst h15'
          have hq2 : askE l 16 = 2 := hw.1 rfl
          have hl2 : lenO l 16 = 0 := by unfold lenO; rw [if_neg (by rw [hq2]; decide)]
          have hc3 := CL.out 16 w4 HB4.out (by omega) (by omega)
          rw [hq2, hl2] at hc3
          have HC3 := Lib.hid hc3
          clear hw hq2 hl2 hc3
          go_wp2_with fail
          refine HC3.out.mono ?_
          rintro e w5 ⟨Ac, cc, rfl, hb5, hxc⟩
          have HB5 := Lib.hid (HB4.out.trans (hb5.mono HB4.out.size))
          clear hb5 hxc
          go_wp2
          go_ret
          exact ⟨rfl, HB2.out.trans (HB5.out.mono HB2.out.size)⟩
        · obtain ⟨hq2, hle⟩ := hw.2 h15'
          have hl2 : lenO l (most + 1) = M := by unfold lenO; rw [if_pos hq2, HN.out]
          have hc3 := CL.out (most + 1) w4 HB4.out (by omega) (by omega)
          rw [hq2, hl2] at hc3
          rw [← HN.out] at hle
          have HC3 := Lib.hid hc3
          have hm15 : (most == 15) = false := by simpa using h15'
          obtain ⟨ca', hca⟩ : ∃ a, a = costN (freqN l) (outL l most) M := ⟨_, rfl⟩
          obtain ⟨cc', hcc⟩ : ∃ a, a = costN (freqN l) (outL l (most + 1)) M := ⟨_, rfl⟩
          rw [← hca, ← hcc] at hle
          have HCA := Lib.hid hca; have HCC := Lib.hid hcc
          have hle2 : decide ((cc' : Int) ≤ (ca' : Int)) = true := by simp; omega
          have hle3 : decide (cc' ≤ ca') = true := by simpa using hle
          clear hw hq2 hl2 hc3 hca hcc hle h15'
          go_wp2_with fail
          refine HC3.out.mono ?_
          rintro e w5 ⟨Ac, cc, rfl, hb5, hxc⟩
          have HB5 := Lib.hid (HB4.out.trans (hb5.mono HB4.out.size))
          have HXA5 := Lib.hid ((HXA4.out.below hb5 (Nat.le_refl _)).more hb5.size)
          have HXC := Lib.hid hxc
          have HR5 := Lib.hid ((HR2.out.below HB5.out (Nat.le_refl _)).more HB5.out.size)
          clear hb5 hxc hst1 hst2
          go_wp2_with fail
          refine (cost_any w5 _ A c l M HN.out HR5.out Ac cc _ HXC.out (by omega) H4.out).mono ?_
          rintro e w' ⟨rfl, n1, rfl⟩
          rw [← HCC.out]
          have HR6 := Lib.hid (HR5.out.below (below_drewNc (Below.refl w5.heap.size w5) n1) (Nat.le_refl _))
          have HXA6 := Lib.hid (HXA5.out.below (below_drewNc (Below.refl w5.heap.size w5) n1) (Nat.le_refl _))
          go_wp2_with fail
          refine (cost_any _ _ A c l M HN.out HR6.out Aa ca _ HXA6.out (by omega) H4.out).mono ?_
          rintro e w' ⟨rfl, n2, rfl⟩
          rw [← HCA.out]
          go_wp2
          go_ret
          exact ⟨rfl, below_drewNc (HB2.out.trans (HB5.out.mono HB2.out.size)) _⟩
      · have hqn : (q != 0) = true := by simpa using hq0
        clear hq0
        go_wp2
        go_ret
        exact ⟨rfl, HB2.out.trans (HB4.out.mono HB2.out.size)⟩
-- LAW
set_option maxRecDepth 100000 in
theorem wider_law_lifted (os : Os) (started : os.Started) (H : Type) (enc : TypeId × Value → H) :
    ReturnsInHanded {} Try.checked os 7 .any (Rows.buildWiderSpec.pre6 enc Try.prog Try.f7 Rows.buildWiderRow.domain false) (Rows.buildWiderSpec.post enc Try.prog Try.f7 false true false false) := by
  refine returnsInHanded_of_change (C := Try.checked) own started (by kernel_rfl) Try.func7
    (ChangeSpec.witness6 (enc := enc) (C := Try.checked) false ⟨#[], #[.slice none 0 0, .int .i64 0, .int .u8 0], []⟩ 8 (by kernel_rfl) (by kernel_rfl) (by kernel_rfl) (by kernel_rfl)) ?_
  intro W base args ds gs before hval0 hW _ _
  have hval : ∀ (j : Nat) t v, Try.f7.params[j]? = some t → args[j]? = some v → Value.okWide Try.prog W .any base t v := hval0
  have hW' := hW
  obtain ⟨p, q, hA0, hV, rfl, _, _⟩ := hW
  have hA : DataW.TrodAll enc Try.prog W 0 (fun _ => true) true Try.f7.params.toList args.toList ds p := hA0
  rw [Try.params7] at hA hval
  obtain ⟨v0, vs0, d0, ds0, p0, q0, hargs, rfl, rfl, h0, r0⟩ := trodAll_cons hA
  obtain ⟨v1, vs1, d1, ds1, p1, q1, rfl, rfl, rfl, h1, r1⟩ := trodAll_cons r0
  obtain ⟨v2, vs2, d2, ds2, p2, q2, rfl, rfl, rfl, h2, r2⟩ := trodAll_cons r1
  obtain ⟨rfl, rfl, rfl⟩ := trodAll_nil r2
  obtain rfl : args = #[v0, v1, v2] := by cases args; simp_all
  obtain ⟨rfl, rfl⟩ := trodVars_none hV
  have k0 := h0
  have lt0 : ∀ x ∈ p0, x.block < W.heap.size := by obtain ⟨m, hm⟩ := k0; exact DataW.trod_lt m _ _ _ hm
  obtain ⟨A0, len0, cap0, rfl⟩ := okWide_slice Try.underlying23 (hval 0 23 v0 rfl rfl)
  obtain ⟨l0, hlen0, hr0, hn0, hm0, hb0⟩ := open_intl h0
  have k1 := h1
  have lt1 : ∀ x ∈ p1, x.block < W.heap.size := by obtain ⟨m, hm⟩ := k1; exact DataW.trod_lt m _ _ _ hm
  obtain ⟨a1, rfl, rfl, rfl, w1⟩ := open_int Try.underlying3 (hval 1 3 v1 rfl rfl) h1
  have u1 := wf_i64_range w1
  have k2 := h2
  have lt2 : ∀ x ∈ p2, x.block < W.heap.size := by obtain ⟨m, hm⟩ := k2; exact DataW.trod_lt m _ _ _ hm
  obtain ⟨a2, rfl, rfl, rfl, w2⟩ := open_int Try.underlying5 (hval 2 5 v2 rfl rfl) h2
  have u2 := wf_u8_range w2
  obtain ⟨a2, rfl⟩ := Int.eq_ofNat_of_zero_le u2.1
  clear hA0 hval0
  refine (wider_law A0 len0 cap0 l0 a1 a2 W hlen0 hr0 hn0 hb0 u1.1 u1.2 (by omega)).mono fun e W' ⟨he, bel⟩ => ?_
  subst he
  exact ⟨_, rfl, _, _, _, [], _, [], hW', trodAll_mk1 (shut_bool Try.underlying4 _), (trodAll_cons_mk (Below.trod laidOut (by kernel_rfl) (of_decide_eq_true (by kernel_rfl)) k0 bel lt0) (trodAll_cons_mk (Below.trod laidOut (by kernel_rfl) (of_decide_eq_true (by kernel_rfl)) k1 bel lt1) (trodAll_cons_mk (Below.trod laidOut (by kernel_rfl) (of_decide_eq_true (by kernel_rfl)) k2 bel lt2) trodAll_mk0))), rfl, bel.frame _, fun h => by cases h⟩
theorem wider_law_holds : Rows.BuildWiderSaid :=
  OpenClaim.holds_of_wide 7 Try.f7 rfl rfl rfl rfl rfl rfl rfl ⟨rfl, rfl, rfl, rfl, rfl⟩ rfl rfl rfl rfl rfl (by kernel_rfl) Try.func7 (by kernel_rfl)
    (of_decide_eq_true (by kernel_rfl)) (by unfold Func.isWrapper; first | (rw [if_pos (by decide +kernel)]; kernel_rfl) | (rw [if_neg (by decide +kernel)]; exact ⟨rfl, rfl⟩))
    (fun os started H enc _ => wider_law_lifted os started H enc)
#print axioms wider_law_holds
end Go.Proofs.Ytgppikhfkikknaa
