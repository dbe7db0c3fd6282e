/-
  Layer 8 (token): what the program's Play answers, for every bytes and every tokens.
-/
import Derived.Test.YtihfcjehpmiolaaTokIm1
namespace Go.Proofs.Ytihfcjehpmiolaa
open Go.RowKit Go.ChangeShapes Go.WideShapes Go.ChangeAt Go.Joins
set_option maxRecDepth 100000 in
set_option maxHeartbeats 8000000 in
theorem play8_any (w : World) (A : Option Addr) (n c : Nat) (f : Nat → Nat) (A2 : Option Addr) (m c2 : Nat) (l : List Tok) (hr : ByR w w.heap.size A n c f) (ht : TkR w w.heap.size A2 m c2 l) (hin : ∀ t ∈ l, TokIn t) :
    Calls Try.prog 9 #[.slice A n c, .slice A2 m c2] w fun e w' => ∃ A' n' c', e = .returned (.tuple #[.slice A' n' c', .int .i64 (plyO f n l).1]) ∧ n' = (plyO f n l).2.length ∧ ByR w' w'.heap.size A' n' c' (lst (plyO f n l).2) ∧ Below w.heap.size w w' ∧ NewB w' w.heap.size A' n' := by
  obtain ⟨hm, ht2, _⟩ := ht
  obtain ⟨O, hO⟩ : ∃ O, O = plyO f n l := ⟨_, rfl⟩
  rw [← hO]
  have HR := Lib.hid hr; have HT := Lib.hid ht2; have HX := Lib.hid hin; have HM := Lib.hid hm; have HO := Lib.hid hO
  have hnl : ∀ j, lst [] j < 256 := fun j => by unfold lst; simp
  clear hr ht2 hin hO
  by_cases hbig : 131072 < n ∨ 131072 < m
  · have e : O = (4, []) := HO.out.trans (if_pos (by rw [← hm]; exact hbig))
    subst e
    by_cases q2 : 131072 < n
    · have d1 : decide (131072 < (n : Int)) = true := by simp; omega
      clear hm
      go_enter Try.func9, Try.ntmps9
      go_wp2
      go_ret2
      exact ⟨none, 0, 0, rfl, rfl, ByR.nil _ _ _ hnl, Below.refl _ _, NewB.nil _ _ _⟩
    · have d1 : decide (131072 < (n : Int)) = false := by simp; omega
      have d2 : decide (131072 < (m : Int)) = true := by simp; omega
      clear hm
      go_enter Try.func9, Try.ntmps9
      go_wp2
      go_ret2
      exact ⟨none, 0, 0, rfl, rfl, ByR.nil _ _ _ hnl, Below.refl _ _, NewB.nil _ _ _⟩
  have d1 : decide (131072 < (n : Int)) = false := by simp; omega
  have d2 : decide (131072 < (m : Int)) = false := by simp; omega
  have hO2 : O = plyR n l (preL f n) := HO.out.trans (if_neg (by rw [← hm]; exact hbig))
  have hL0 : ∀ x ∈ preL f n, x < 256 := fun x hx => by
    unfold preL at hx; rw [List.mem_map] at hx; obtain ⟨i, _, rfl⟩ := hx; exact HR.out.1.1 i
  have HCL := Lib.hid (clone8_any w A n c f HR.out (by omega))
  have HL0 := Lib.hid hL0; have HO2 := Lib.hid hO2
  have hn1 : n ≤ 131072 := by omega
  have hm1 : m ≤ 131072 := by omega
  clear hL0 hO2 HO hm hbig
  go_enter Try.func9, Try.ntmps9
  go_wp2_with fail
  refine HCL.out.mono ?_
  rintro e w1 ⟨A1, c1, rfl, hown, hb1⟩
  rw [preL_lst] at hown
  have HOWN := Lib.hid hown; have HB1 := Lib.hid hb1
  clear hown hb1 HCL
  go_wp2_with fail
  go_loopw [6, 22] (fun ov iv wr => ∃ (i q : Nat) (At : Option Addr) (ct : Nat) (L : List Nat), i ≤ m ∧ n ≤ q ∧ q ≤ n + 131072 ∧ ov = .slice At q ct ∧ iv = .int .i64 (i : Int) ∧ Hid (q = L.length) ∧ Hid (plyR n (l.drop i) L = O) ∧ Hid (∀ x ∈ L, x < 256) ∧ Hid (wr.ownsRow w.heap.size 5 1 (.slice At q ct) q (bytesL q (lst L))) ∧ Hid (Below w.heap.size w wr)) (fun _ iv _ => m - (intOf iv).toNat)
  case atStart => exact ⟨0, n, A1, c1, preL f n, Nat.zero_le _, Nat.le_refl _, by omega, rfl, rfl, Lib.hid (preL_length f n).symm, Lib.hid HO2.out.symm, HL0, HOWN, HB1⟩
  case round =>
    obtain ⟨i, q, At, ct, L, hi, hnq, hqb, rfl, rfl, HQ, HP, HL, HW, HB⟩ := hrel
    by_cases hlt : i < m
    · have hlti : (i : Int) < (m : Int) := by omega
      have hil : i < l.length := by rw [← HM.out]; exact hlt
      have htw := HT.out.below HB.out (Nat.le_refl _)
      obtain ⟨b, o, rfl, hbl, hc⟩ := htw.at hil
      have hrg := htw.range rfl hil
      have hstep := plyR_step (A := n) hil L
      obtain ⟨t, hte⟩ : ∃ t, t = l.getD i tok0 := ⟨_, rfl⟩
      rw [← hte] at hrg hstep
      have hti : TokIn t := by
        rw [hte, List.getD_eq_getElem?_getD, List.getElem?_eq_getElem hil]; exact HX.out _ (List.getElem_mem hil)
      rw [HP.out, ← HQ.out] at hstep
      clear hte hil hc htw
      obtain ⟨tx, td, tn⟩ := t
      obtain ⟨mb, hmb⟩ : ∃ mb, mb = mayT ⟨tx, td, tn⟩ := ⟨_, rfl⟩
      obtain ⟨h, hh⟩ : ∃ h, h = wr.heap.size := ⟨_, rfl⟩
      obtain ⟨W2, hW2⟩ : ∃ W2, W2 = mkV wr #[.int .u8 0, .int .i64 0, .int .i64 0] (tokC ⟨tx, td, tn⟩).toArray 27 := ⟨_, rfl⟩
      have hb2 : Below wr.heap.size wr W2 := by rw [hW2]; exact mkV_below _ _ _ _
      have hrow : W2.heap[h]? = some (.cells (tokC ⟨tx, td, tn⟩).toArray 27 (0, 0)) := by rw [hW2, hh]; exact mkV_row wr _ _ _
      have hs2 : h < W2.heap.size := by rw [hW2, hh, mkV_size]; omega
      have htk := tok8_any W2 ⟨tx, td, tn⟩ hti
      obtain ⟨E, hE⟩ : ∃ E, E = tokE ⟨tx, td, tn⟩ := ⟨_, rfl⟩
      rw [← hE] at htk
      have hEb : E = if mb = true then 0 else 8 := by rw [hE, hmb]; rfl
      have x0 : W2.cell? ⟨h, 0, none⟩ = some (.int .u8 (tx : Int)) := (cell_of_row W2 _ 0 _ _ (0, 0) hrow).trans rfl
      have x1 : W2.cell? ⟨h, 1, none⟩ = some (.int .i64 td) := (cell_of_row W2 _ 1 _ _ (0, 0) hrow).trans rfl
      have x2 : W2.cell? ⟨h, 2, none⟩ = some (.int .i64 tn) := (cell_of_row W2 _ 2 _ _ (0, 0) hrow).trans rfl
      have HRG := Lib.hid hrg; have HSTEP := Lib.hid hstep; have HTI := Lib.hid hti; have HMB := Lib.hid hmb; have HH := Lib.hid hh; have HW2 := Lib.hid hW2; have HB2 := Lib.hid (HB.out.trans (hb2.mono HB.out.size)); have HROW := Lib.hid hrow; have HTK := Lib.hid htk; have HWW := Lib.hid (own_keep HW.out hb2); have HEB := Lib.hid hEb
      clear hrg hstep hmb hti hW2 hb2 hrow htk hh HW HB hE hEb
      go_wp2_with (first | refine wpList_load_mid rfl _ _ rfl b (o + i * 3) rfl (tokC ⟨tx, td, tn⟩) _ HRG.out Try.underlying27 rfl szTok ?_ | refine wpList_store_rowTo rfl _ _ _ rfl rfl wr.heap.size (tokC ⟨tx, td, tn⟩).toArray rfl rfl 27 #[.int .u8 0, .int .i64 0, .int .i64 0] (heap_alloc_new wr _) (szTokA _) rfl (tokA_one _) ?_; change wpList _ _ _ _ _ (mkV wr #[.int .u8 0, .int .i64 0, .int .i64 0] (tokC ⟨tx, td, tn⟩).toArray 27); rw [← HW2.out, ← HH.out])
      refine HTK.out.mono ?_
      rintro e w3 ⟨rfl, hb3⟩
      have HB3 := Lib.hid (HB2.out.trans (hb3.mono HB2.out.size))
      have HW3 := Lib.hid (own_keep HWW.out hb3)
      have y0 := (hb3.cell (p := ⟨h, 0, none⟩) hs2).trans x0
      have y1 := (hb3.cell (p := ⟨h, 1, none⟩) hs2).trans x1
      have y2 := (hb3.cell (p := ⟨h, 2, none⟩) hs2).trans x2
      have hst := HSTEP.out
      clear x0 x1 x2 hs2 hb3 HSTEP HTK HWW HB2 HRG HW2 HROW
      cases mb with
      | false =>
        rw [if_pos HMB.out.symm] at hst
        subst hst
        obtain rfl : E = 8 := HEB.out
        clear y0 y1 y2
        go_wp2
        go_ret2
        exact ⟨none, 0, 0, rfl, rfl, ByR.nil _ _ _ hnl, HB3.out, NewB.nil _ _ _⟩
      | true =>
        rw [if_neg (by rw [← HMB.out]; decide)] at hst
        obtain rfl : E = 0 := HEB.out
        by_cases hdq : (q : Int) < td
        · rw [if_pos hdq] at hst
          subst hst
          go_wp2
          go_ret2
          exact ⟨none, 0, 0, rfl, rfl, ByR.nil _ _ _ hnl, HB3.out, NewB.nil _ _ _⟩
        rw [if_neg hdq] at hst
        have HBE := Lib.hid (behind8_any w3 w.heap.size ⟨tx, td, tn⟩ At ct q L HQ.out HL.out HTI.out.1 HW3.out HB3.out.size (by omega) HMB.out.symm (by show td ≤ (q : Int); omega))
        have HST := Lib.hid hst
        clear hst
        go_wp2_with fail
        refine HBE.out.mono ?_
        rintro e w4 ⟨A', q', c', rfl, hq', ho4, hb4⟩
        have hl := len_stp L ⟨tx, td, tn⟩
        have hlt2 := lenT_le HMB.out.symm
        have hst := HST.out
        rw [← hq', ← HQ.out] at hl
        have HB4 := Lib.hid (HB3.out.trans hb4)
        have hLs : ∀ x ∈ stpT L ⟨tx, td, tn⟩, x < 256 := stp_lt HL.out HTI.out.1
        obtain ⟨g, hg⟩ : ∃ g, g = q' - n := ⟨_, rfl⟩
        have eg : (q' : Int) - (n : Int) = (g : Int) := by omega
        rw [show q - n + lenT ⟨tx, td, tn⟩ = g by omega] at hst
        have HQ4 := Lib.hid hq'; have HO4 := Lib.hid ho4; have HLS := Lib.hid hLs
        have hq4 : n ≤ q' ∧ q' ≤ n + 131072 + 258 := by omega
        obtain ⟨hq5, hq6⟩ := hq4
        have hq7 : g = q' - n := hg
        clear hq' ho4 hb4 hLs hl hlt2 y0 y1 y2 HBE HST hg
        by_cases hmany : 131072 < g
        · rw [if_pos hmany] at hst
          subst hst
          have dm : 131072 < (g : Int) := by omega
          clear hq7
          go_wp2
          go_ret2
          exact ⟨none, 0, 0, rfl, rfl, ByR.nil _ _ _ hnl, HB4.out, NewB.nil _ _ _⟩
        · rw [if_neg hmany] at hst
          have dm : ¬ 131072 < (g : Int) := by omega
          have hq8 : q' ≤ n + 131072 := by omega
          have HP1 := Lib.hid hst.symm
          clear hq7 hst hmany
          go_wp2
          go_roundw
          case rel =>
            exact ⟨i + 1, q', A', c', stpT L ⟨tx, td, tn⟩, by omega, hq5, hq8, rfl, by go_num, HQ4, HP1, HLS, HO4, HB4⟩
          case measure => simp [intOf]; omega
    · obtain rfl : i = m := by omega
      have hlti : ¬ (i : Int) < (i : Int) := by omega
      have hfin := HP.out
      have hdr : l.drop i = [] := List.drop_eq_nil_of_le (by rw [← HM.out]; exact Nat.le_refl _)
      rw [hdr] at hfin
      have hO3 : O = (0, L.drop n) := hfin.symm
      subst hO3
      have hby := ByR.of_own HW.out (lst_lt HL.out)
      have hlen : q - n = (L.drop n).length := by rw [List.length_drop, HQ.out]
      have hdl : ∀ j, lst L (j + n) = lst (L.drop n) j := fun j => by
        unfold lst
        rw [List.getD_eq_getElem?_getD, List.getD_eq_getElem?_getD, List.getElem?_drop, Nat.add_comm]
      have hl6 : ∀ j, lst (L.drop n) j < 256 := lst_lt fun x hx => HL.out x (List.mem_of_mem_drop hx)
      have hqc : q ≤ ct := hby.2.2.1
      have hni : (n : Int) ≤ (q : Int) := by omega
      rcases At with _ | ad
      · have hc0 := hby.2.1 rfl
        obtain rfl : ct = 0 := hc0
        have hq0 : q = 0 := by omega
        have hn0 : n = 0 := by omega
        subst hq0; subst hn0
        have hfin : ByR wr wr.heap.size none 0 0 (lst (L.drop 0)) := ByR.nil _ _ _ hl6
        have HFIN := Lib.hid hfin; have HLEN := Lib.hid hlen
        clear hfin hby hlen hdl hl6 hdr
        go_wp2
        go_ret2
        exact ⟨none, 0, 0, rfl, (by have := HLEN.out; simpa using this), HFIN.out, HB.out, NewB.nil _ _ _⟩
      · obtain ⟨A3, hA3⟩ : ∃ A3, (if ct = n then (some ad : Option Addr) else some (ad.add n)) = A3 := ⟨_, rfl⟩
        have hfin := (hby.drop (p := n) hnq hA3).ext hl6 (fun j _ => hdl j)
        have hnew := NewB.of_own HW.out hqc hnq hA3
        have HFIN := Lib.hid hfin; have HLEN := Lib.hid hlen; have HNEW := Lib.hid hnew
        clear hfin hby hlen hdl hl6 hdr hnew
        go_wp2
        go_ret2
        exact ⟨A3, q - n, ct - n, rfl, (by have := HLEN.out; simpa using this), HFIN.out, HB.out, HNEW.out⟩
end Go.Proofs.Ytihfcjehpmiolaa
