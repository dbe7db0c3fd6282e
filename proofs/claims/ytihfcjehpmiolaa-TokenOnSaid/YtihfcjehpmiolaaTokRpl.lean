/-
  Layer 8 (token): tokens played (the document's own).
-/
import Derived.Test.YtihfcjehpmiolaaTokPly
import Derived.Test.YtihfcjehpmiolaaStep
import Derived.Test.YtihfcjehpmiolaaStepC
import Derived.Deep.DeepCutAuto
namespace Go.Proofs.Ytihfcjehpmiolaa
open Go.RowKit Go.ChangeShapes Go.WideShapes Go.ChangeAt Go.Joins
/-- The bytes of a list. -/
def lst (L : List Nat) (j : Nat) : Nat := L.getD j 0
theorem lst_lt {L : List Nat} (h : ∀ x ∈ L, x < 256) (j : Nat) : lst L j < 256 := by
  unfold lst
  rcases Nat.lt_or_ge j L.length with g | g
  · rw [List.getD_eq_getElem?_getD, List.getElem?_eq_getElem g]; exact h _ (List.getElem_mem g)
  · rw [List.getD_eq_getElem?_getD, List.getElem?_eq_none g]; show 0 < 256; omega
theorem lst_one (L : List Nat) (x : Nat) : bytesL L.length (lst L) = bytesL L.length (lst (L ++ [x])) ∧ lst (L ++ [x]) L.length = x := by
  refine ⟨bytesL_ext fun j hj => ?_, ?_⟩
  · unfold lst; rw [List.getD_eq_getElem?_getD, List.getD_eq_getElem?_getD, List.getElem?_append_left hj]
  · unfold lst; simp
theorem lst_copy (L : List Nat) (d n : Nat) : bytesL (L.length + n) (cat (lst L) L.length (copF L.length (lst L) d)) = bytesL (L.length + n) (lst (L ++ copL L d n)) := by
  refine bytesL_ext fun j hj => ?_
  unfold cat lst copL
  split
  · rename_i h; rw [List.getD_eq_getElem?_getD, List.getD_eq_getElem?_getD, List.getElem?_append_left h]
  · rename_i h
    rw [List.getD_eq_getElem?_getD, List.getElem?_append_right (by omega)]
    have hm : j - L.length < n := by omega
    simp [hm]
    unfold copF
    rfl
theorem stp_lt {L : List Nat} {t : Tok} (h : ∀ x ∈ L, x < 256) (hx : t.x < 256) : ∀ x ∈ stpT L t, x < 256 := by
  intro x hm
  unfold stpT at hm
  split at hm
  · rw [List.mem_append] at hm
    rcases hm with hm | hm
    · exact h x hm
    · simp at hm; omega
  · rw [List.mem_append] at hm
    rcases hm with hm | hm
    · exact h x hm
    · unfold copL at hm
      rw [List.mem_map] at hm
      obtain ⟨i, _, rfl⟩ := hm
      exact lst_lt h _
theorem preL_lst (f : Nat → Nat) (n : Nat) : bytesL n f = bytesL n (lst (preL f n)) := bytesL_ext fun _ hj => (preL_get f hj).symm
theorem plyR_step {A : Nat} {l : List Tok} {i : Nat} (h : i < l.length) (L : List Nat) : plyR A (l.drop i) L =
    if mayT (l.getD i tok0) = false then (8, []) else if (L.length : Int) < (l.getD i tok0).d then (60, []) else if 131072 < L.length - A + lenT (l.getD i tok0) then (4, []) else plyR A (l.drop (i + 1)) (stpT L (l.getD i tok0)) := by
  have e : l.drop i = l.getD i tok0 :: l.drop (i + 1) := by
    rw [List.drop_eq_getElem_cons h, List.getD_eq_getElem?_getD, List.getElem?_eq_getElem h]; rfl
  rw [e]; rfl
/-- A row that may be written: its block is not one of those below base. -/
def NewB (w : World) (base : Nat) (A : Option Addr) (n : Nat) : Prop := 0 < n → ∃ (g o : Nat) (cur : Array Value), A = some ⟨g, o, none⟩ ∧ base ≤ g ∧ w.heap[g]? = some (.cells cur 5 (0, 0))
theorem NewB.nil (w : World) (base : Nat) (A : Option Addr) : NewB w base A 0 := fun h => absurd h (by omega)
theorem NewB.of_own {w : World} {base q c n : Nat} {ad : Addr} {A3 : Option Addr} {xs : List Value} (h : w.ownsRow base 5 1 (.slice (some ad) q c) q xs) (hqc : q ≤ c) (hnq : n ≤ q) (hA : (if c = n then (some ad : Option Addr) else some (ad.add n)) = A3) : NewB w base A3 (q - n) := fun h0 => by
  rcases h.2 with ⟨hv, _⟩ | ⟨g, cap, cur, hv, hg, hh, _⟩
  · injection hv with h1; cases h1
  · injection hv with h1 h2 h3
    injection h1 with h1
    subst h1
    rw [if_neg (by omega)] at hA
    have e : (⟨g, 0, none⟩ : Addr).add n = ⟨g, 0 + n, none⟩ := by unfold Addr.add; split <;> simp_all
    rw [e] at hA
    exact ⟨g, 0 + n, cur, hA.symm, hg, hh⟩
theorem NewB.below {w w' : World} {base B n : Nat} {A : Option Addr} (h : NewB w base A n) (hb : Below B w w') (hB : w.heap.size ≤ B) : NewB w' base A n := fun h0 => by
  obtain ⟨g, o, cur, h1, h2, h3⟩ := h h0
  exact ⟨g, o, cur, h1, h2, (hb.block g (by have := (Array.getElem?_eq_some_iff.1 h3).1; omega)).trans h3⟩
/-- What Play answers. -/
def plyO (f : Nat → Nat) (n : Nat) (l : List Tok) : Int × List Nat := if 131072 < n ∨ 131072 < l.length then (4, []) else plyR n l (preL f n)
theorem mayT_is {t : Tok} (h : mayT t = true) : (t.n = 0 ∧ t.d = 0) ∨ (t.n ≠ 0 ∧ t.x = 0 ∧ 3 ≤ t.n ∧ t.n ≤ 258 ∧ 1 ≤ t.d ∧ t.d ≤ 32768) := by unfold mayT at h; exact of_decide_eq_true h
set_option maxRecDepth 100000 in
set_option maxHeartbeats 8000000 in
theorem rplay8_any (w : World) (A : Option Addr) (n c : Nat) (f : Nat → Nat) (A2 : Option Addr) (c2 : Nat) (l : List Tok) (hr : ByR w w.heap.size A n c f) (ht : RdT w w.heap.size A2 l) (hx : ∀ t ∈ l, t.x < 256) :
    Calls Try.prog 18 #[.slice A n c, .slice A2 l.length c2] w fun e w' => ∃ A' n' c', e = .returned (.tuple #[.slice A' n' c', .int .i64 (plyO f n l).1]) ∧ n' = (plyO f n l).2.length ∧ ByR w' w'.heap.size A' n' c' (lst (plyO f n l).2) ∧ Below w.heap.size w w' ∧ NewB w' w.heap.size A' n' := by
  obtain ⟨m, hm⟩ : ∃ m, m = l.length := ⟨_, rfl⟩
  rw [← hm]
  obtain ⟨O, hO⟩ : ∃ O, O = plyO f n l := ⟨_, rfl⟩
  rw [← hO]
  have HR := Lib.hid hr; have HT := Lib.hid ht; have HX := Lib.hid hx; have HM := Lib.hid hm; have HO := Lib.hid hO
  have hnl : ∀ j, lst [] j < 256 := fun j => by unfold lst; simp
  clear hr ht hx hO
  by_cases hbig : 131072 < n ∨ 131072 < m
  · have e : O = (4, []) := HO.out.trans (if_pos (by rw [← hm]; exact hbig))
    subst e
    rcases hbig with q | q
    · have d1 : decide (131072 < (n : Int)) = true := by simp; omega
      clear hm
      go_enter Try.func18, Try.ntmps18
      go_wp2
      go_ret2
      exact ⟨none, 0, 0, rfl, rfl, ByR.nil _ _ _ hnl, Below.refl _ _, NewB.nil _ _ _⟩
    · by_cases q2 : 131072 < n
      · have d1 : decide (131072 < (n : Int)) = true := by simp; omega
        clear hm
        go_enter Try.func18, Try.ntmps18
        go_wp2
        go_ret2
        exact ⟨none, 0, 0, rfl, rfl, ByR.nil _ _ _ hnl, Below.refl _ _, NewB.nil _ _ _⟩
      · have d1 : decide (131072 < (n : Int)) = false := by simp; omega
        have d2 : decide (131072 < (m : Int)) = true := by simp; omega
        clear hm
        go_enter Try.func18, Try.ntmps18
        go_wp2
        go_ret2
        exact ⟨none, 0, 0, rfl, rfl, ByR.nil _ _ _ hnl, Below.refl _ _, NewB.nil _ _ _⟩
  have d1 : decide (131072 < (n : Int)) = false := by simp; omega
  have d2 : decide (131072 < (m : Int)) = false := by simp; omega
  have hO2 : O = plyR n l (preL f n) := HO.out.trans (if_neg (by rw [← hm]; exact hbig))
  obtain ⟨A1, c1, w1, hrun, hown, hb1, _⟩ := run_twin w w.heap.size A n c f HR.out.1 (by omega) 22 HR.out.2.1
  rw [preL_lst] at hown
  have hL0 : ∀ x ∈ preL f n, x < 256 := fun x hx => by
    unfold preL at hx; rw [List.mem_map] at hx; obtain ⟨i, _, rfl⟩ := hx; exact HR.out.1.1 i
  have HRUN := Lib.hid hrun; have HOWN := Lib.hid hown; have HB1 := Lib.hid hb1; have HL0 := Lib.hid hL0; have HO2 := Lib.hid hO2
  clear hrun hown hb1 hL0 hO2 HO hm
  go_enter Try.func18, Try.ntmps18
  go_wp2_with (at_builtin; refine wpList_append_run rfl (.const (.slice none 0 0)) (.tmp 17) 22 rfl (.slice none 0 0) (.slice A n c) (.slice A1 n c1) w1 rfl rfl HRUN.out ?_)
  go_loopw [6, 7] (fun ov iv wr => ∃ (i q : Nat) (At : Option Addr) (ct : Nat) (L : List Nat), i ≤ m ∧ n ≤ q ∧ q ≤ n + 131072 ∧ ov = .slice At q ct ∧ iv = .int .i64 (i : Int) ∧ Hid (q = L.length) ∧ Hid (plyR n (l.drop i) L = O) ∧ Hid (∀ x ∈ L, x < 256) ∧ Hid (wr.ownsRow w.heap.size 5 1 (.slice At q ct) q (bytesL q (lst L))) ∧ Hid (Below w.heap.size w wr)) (fun _ iv _ => m - (intOf iv).toNat)
  case atStart => exact ⟨0, n, A1, c1, preL f n, Nat.zero_le _, Nat.le_refl _, by omega, rfl, rfl, Lib.hid (preL_length f n).symm, Lib.hid HO2.out.symm, HL0, HOWN, HB1⟩
  case round =>
    obtain ⟨i, q, At, ct, L, hi, hnq, hqb, rfl, rfl, HQ, HP, HL, HW, HB⟩ := hrel
    by_cases hlt : i < m
    · have hlti : (i : Int) < (m : Int) := by omega
      have hil : i < l.length := by rw [← HM.out]; exact hlt
      have htw := HT.out.below HB.out (Nat.le_refl _)
      obtain ⟨b, o, rfl, hbl, hc⟩ := htw.at hil
      obtain ⟨c0, c1', c2'⟩ := hc i hil
      have hrg := htw.range rfl hil
      have hstep := plyR_step (A := n) hil L
      obtain ⟨t, hte⟩ : ∃ t, t = l.getD i tok0 := ⟨_, rfl⟩
      rw [← hte] at c0 c1' c2' hrg hstep
      have htx : t.x < 256 := by
        rw [hte, List.getD_eq_getElem?_getD, List.getElem?_eq_getElem hil]; exact HX.out _ (List.getElem_mem hil)
      rw [HP.out, ← HQ.out] at hstep
      have HRG := Lib.hid hrg; have HSTEP := Lib.hid hstep; have HTX := Lib.hid htx
      have hmay := rmay8_any wr t
      obtain ⟨mb, hmb⟩ : ∃ mb, mb = mayT t := ⟨_, rfl⟩
      rw [← hmb] at hmay
      have HMAY := Lib.hid hmay; have HMB := Lib.hid hmb
      clear hc htw hrg hstep htx hte hmay hmb hil
      obtain ⟨tx, td, tn⟩ := t
      go_wp2_with (refine wpList_load_mid rfl _ _ rfl b (o + i * 3) rfl (tokC ⟨tx, td, tn⟩) _ HRG.out Try.underlying27 rfl szTok ?_)
      refine HMAY.out.mono ?_
      rintro e w2 ⟨rfl, hb2⟩
      have HB2 := Lib.hid (HB.out.trans (hb2.mono HB.out.size))
      have HW2 := Lib.hid (own_keep HW.out hb2)
      have hbw : b < wr.heap.size := by have := HB.out.size; omega
      have y0 := (hb2.cell (p := ⟨b, o + i * 3, none⟩) hbw).trans c0
      have y1 := (hb2.cell (p := ⟨b, o + i * 3 + 1, none⟩) hbw).trans c1'
      have y2 := (hb2.cell (p := ⟨b, o + i * 3 + 2, none⟩) hbw).trans c2'
      have hst := HSTEP.out
      clear c0 c1' c2' hb2 HSTEP HMAY HB HW hbw HRG
      cases mb with
      | false =>
        rw [if_pos HMB.out.symm] at hst
        subst hst
        clear y0 y1 y2
        go_wp2
        go_ret2
        exact ⟨none, 0, 0, rfl, rfl, ByR.nil _ _ _ hnl, HB2.out, NewB.nil _ _ _⟩
      | true =>
        rw [if_neg (by rw [← HMB.out]; decide)] at hst
        have hmt := mayT_is HMB.out.symm
        have hdn : -1 ≤ td ∧ td ≤ 32768 ∧ 0 ≤ tn ∧ tn ≤ 258 := by
          rcases hmt with ⟨h1, h2⟩ | ⟨_, _, h3, h4, h5, h6⟩
          · simp at h1 h2; omega
          · simp at h3 h4 h5 h6; omega
        have HMT := Lib.hid hmt
        clear hmt
        by_cases hdq : (q : Int) < td
        · rw [if_pos hdq] at hst
          subst hst
          go_wp2
          go_ret2
          exact ⟨none, 0, 0, rfl, rfl, ByR.nil _ _ _ hnl, HB2.out, NewB.nil _ _ _⟩
        rw [if_neg hdq] at hst
        obtain ⟨N, hN⟩ : ∃ N, N = lenT ⟨tx, td, tn⟩ := ⟨_, rfl⟩
        rw [← hN] at hst
        obtain ⟨g, hg⟩ : ∃ g, g = q - n := ⟨_, rfl⟩
        have eg : (q : Int) - (n : Int) = (g : Int) := by omega
        have hgb : g ≤ 131072 := by omega
        have hNb : N ≤ 258 := by rw [hN]; exact lenT_le HMB.out.symm
        obtain ⟨gs, hgs⟩ : ∃ gs, gs = g + N := ⟨_, rfl⟩
        have egs : (g : Int) + (N : Int) = (gs : Int) := by omega
        rw [← hg, ← hgs] at hst
        have HG := Lib.hid hg; have HGS := Lib.hid hgs; have HN := Lib.hid hN
        by_cases hn0 : tn = 0
        · have hN1 : N = 1 := by rw [hN]; unfold lenT; rw [if_pos hn0]
          subst hn0
          have e0 : ((0 : Int) == 0) = true := by decide
          have egs1 : (g : Int) + 1 = (gs : Int) := by omega
          by_cases hmany : 131072 < gs
          · rw [if_pos hmany] at hst
            subst hst
            have dm : 131072 < (gs : Int) := by omega
            clear hg hgs hN hN1 egs
            go_wp2
            go_ret2
            exact ⟨none, 0, 0, rfl, rfl, ByR.nil _ _ _ hnl, HB2.out, NewB.nil _ _ _⟩
          · rw [if_neg hmany] at hst
            have dm : ¬ 131072 < (gs : Int) := by omega
            have hstp : stpT L ⟨tx, td, 0⟩ = L ++ [tx] := by unfold stpT; rw [if_pos rfl]
            rw [hstp] at hst
            obtain ⟨q1, q2⟩ := lst_one L tx
            have hL2 : ∀ x ∈ L ++ [tx], x < 256 := by rw [← hstp]; exact stp_lt HL.out HTX.out
            rw [← HQ.out] at q1 q2
            obtain ⟨A', c', w', hr2, ho2, hb3⟩ := run_oneB w2 w.heap.size At q ct (lst (L ++ [tx])) (lst_lt hL2) (by rw [← q1]; exact HW2.out) tx q2.symm (by omega) HB2.out.size
            have hq1 : q + 1 = (L ++ [tx]).length := by rw [List.length_append, HQ.out]; rfl
            have HR2 := Lib.hid hr2; have HO2' := Lib.hid ho2; have HB3 := Lib.hid (HB2.out.trans hb3); have HQ1 := Lib.hid hq1; have HP1 := Lib.hid hst.symm; have HL2 := Lib.hid hL2
            have hqq : q + 1 ≤ n + 131072 := by omega
            have htx := HTX.out
            clear hr2 ho2 hb3 hq1 hst hL2 q1 q2 hstp hg hgs hN hN1 egs hmany
            go_wp2_with (at_builtin; refine wpList_append_run rfl (.tmp 60) (.tmp 66) 22 rfl (.slice At q ct) (.slice (some ⟨w2.heap.size, 0, none⟩) 1 1) (.slice A' (q + 1) c') w' rfl rfl HR2.out ?_)
            go_roundw
            case rel => exact ⟨i + 1, q + 1, A', c', L ++ [tx], by omega, by omega, hqq, rfl, by go_num, HQ1, HP1, HL2, HO2', HB3⟩
            case measure => simp [intOf]; omega
        · have e0 : (tn == 0) = false := by simp [hn0]
          have hNt : (N : Int) = tn := by rw [hN]; unfold lenT; rw [if_neg hn0]; exact Int.toNat_of_nonneg hdn.2.2.1
          have htd : 1 ≤ td := by
            rcases HMT.out with ⟨h1, _⟩ | ⟨_, _, _, _, h5, _⟩
            · exact absurd h1 hn0
            · exact h5
          obtain ⟨D, hD⟩ : ∃ D : Nat, (D : Int) = td := ⟨td.toNat, Int.toNat_of_nonneg (by omega)⟩
          have hD1 : 1 ≤ D := by omega
          have hDq : D ≤ q := by omega
          subst hNt; subst hD
          by_cases hmany : 131072 < gs
          · rw [if_pos hmany] at hst
            subst hst
            have dm : 131072 < (gs : Int) := by omega
            clear hg hgs hN
            go_wp2
            go_ret2
            exact ⟨none, 0, 0, rfl, rfl, ByR.nil _ _ _ hnl, HB2.out, NewB.nil _ _ _⟩
          · rw [if_neg hmany] at hst
            have dm : ¬ 131072 < (gs : Int) := by omega
            have hstp : stpT L ⟨tx, (D : Int), (N : Int)⟩ = L ++ copL L D N := by unfold stpT; rw [if_neg hn0]; rfl
            have hL2 : ∀ x ∈ L ++ copL L D N, x < 256 := by rw [← hstp]; exact stp_lt HL.out HTX.out
            rw [hstp] at hst
            have hqq : q + N ≤ n + 131072 := by omega
            have hby := ByR.of_own HW2.out (lst_lt HL.out)
            have hlc := lst_copy L D N
            rw [← HQ.out] at hlc
            have hln : q + N = (L ++ copL L D N).length := by rw [List.length_append, HQ.out]; simp [copL]
            have hcop := rcopied_any w2.drew At q ct (lst L) D N hby.drew hD1 hDq (by omega) (by omega)
            have HCOP := Lib.hid hcop; have HLC := Lib.hid hlc; have HLN := Lib.hid hln; have HP1 := Lib.hid hst.symm; have HL2 := Lib.hid hL2
            have hDi : (D : Int) ≤ (q : Int) := by omega
            clear hcop hlc hln hst hL2 hstp hby hg hgs hN hmany hn0
            have HWD : Hid (w2.drew.ownsRow w.heap.size 5 1 (.slice At q ct) q (bytesL q (lst L))) := Lib.hid HW2.out
            have HBD : Hid (Below w.heap.size w w2.drew) := Lib.hid HB2.out.drew
            go_wp2
            have hqn : n ≤ q + N := by omega
            go_region_law (first
              | (refine step_call rfl 27 _ _ rfl (enters_of Try.func27 (by kernel_rfl) rfl) (#[.slice At q ct, .int .i64 (D : Int), .int .i64 (N : Int)]) (by simp [Act.eval]) HCOP.out ?_; rintro e w5 ⟨B', cb, rfl, hb5, hbl5⟩; have hmore := run_more w5 w.heap.size _ (.slice At q ct) q (lst L) (own_keep HWD.out hbl5) B' N cb (copF q (lst L) D) hb5.1 (by omega) 22 hb5.2.1 (HBD.out.trans (hbl5.mono HBD.out.size)).size; obtain ⟨A', c', w6, hr6, ho6, hb6⟩ := hmore; refine ⟨_, rfl, ?_⟩)
              | (refine step_app rfl (.tmp 68) (.tmp 80) 22 22 rfl (.slice At q ct) (.slice B' N cb) rfl rfl (.slice A' (q + N) c') w6 hr6 ?_))
            all_goals (
              have HO3 := Lib.hid ho6; have HB3 := Lib.hid ((HBD.out.trans (hbl5.mono HBD.out.size)).trans hb6)
              have HO4 := Lib.hid (show w6.ownsRow w.heap.size 5 1 (.slice A' (q + N) c') (q + N) (bytesL (q + N) (lst (L ++ copL L D N))) by rw [← HLC.out]; exact ho6)
              clear ho6 hbl5 hb6 hr6 hb5 HO3
              go_wp2
              refine ⟨⟨i + 1, q + N, A', c', L ++ copL L D N, by omega, hqn, hqq, rfl, by go_num, HLN, HP1, HL2, HO4, HB3⟩, ?_⟩
              simp [intOf]; omega)
    · obtain rfl : i = m := by omega
      have hlti : ¬ (i : Int) < (i : Int) := by omega
      have hfin := HP.out
      have hdr : l.drop i = [] := List.drop_eq_nil_of_le (by rw [← HM.out]; exact Nat.le_refl _)
      rw [hdr] at hfin
      have hO3 : O = (0, L.drop n) := hfin.symm
      subst hO3
      have hby := ByR.of_own HW.out (lst_lt HL.out)
      have hlen : q - n = (L.drop n).length := by rw [List.length_drop, HQ.out]
      have hdl : ∀ j, lst L (j + n) = lst (L.drop n) j := fun j => by
        unfold lst
        rw [List.getD_eq_getElem?_getD, List.getD_eq_getElem?_getD, List.getElem?_drop, Nat.add_comm]
      have hl6 : ∀ j, lst (L.drop n) j < 256 := lst_lt fun x hx => HL.out x (List.mem_of_mem_drop hx)
      have hqc : q ≤ ct := hby.2.2.1
      have hni : (n : Int) ≤ (q : Int) := by omega
      rcases At with _ | ad
      · have hc0 := hby.2.1 rfl
        obtain rfl : ct = 0 := hc0
        have hq0 : q = 0 := by omega
        have hn0 : n = 0 := by omega
        subst hq0; subst hn0
        have hfin : ByR wr wr.heap.size none 0 0 (lst (L.drop 0)) := ByR.nil _ _ _ hl6
        have HFIN := Lib.hid hfin; have HLEN := Lib.hid hlen
        clear hfin hby hlen hdl hl6 hdr
        go_wp2
        go_ret2
        exact ⟨none, 0, 0, rfl, (by have := HLEN.out; simpa using this), HFIN.out, HB.out, NewB.nil _ _ _⟩
      · obtain ⟨A3, hA3⟩ : ∃ A3, (if ct = n then (some ad : Option Addr) else some (ad.add n)) = A3 := ⟨_, rfl⟩
        have hfin := (hby.drop (p := n) hnq hA3).ext hl6 (fun j _ => hdl j)
        have hnew := NewB.of_own HW.out hqc hnq hA3
        have HFIN := Lib.hid hfin; have HLEN := Lib.hid hlen; have HNEW := Lib.hid hnew
        clear hfin hby hlen hdl hl6 hdr hnew
        go_wp2
        go_ret2
        exact ⟨A3, q - n, ct - n, rfl, (by have := HLEN.out; simpa using this), HFIN.out, HB.out, HNEW.out⟩
end Go.Proofs.Ytihfcjehpmiolaa
