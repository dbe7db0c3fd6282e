/-
  Layer 5 (tree): what the program's lay tells of a tree: the lengths behind it, or that there are none.
-/
import Derived.Test.YtedjapamimhglaaImpMrk
namespace Go.Proofs.Ytedjapamimhglaa
open Go.RowKit
/-- The lengths that a tree's symbols get, length by length; what is left of them. -/
def lyG (c : Nat → Int) : Nat → Nat → (Nat → Nat) → List Int → Option ((Nat → Nat) × List Int)
  | 0, _, u, l => some (u, l)
  | d + 1, k, u, l => if c k < 0 ∨ (l.length : Int) < c k then none else match mkG u k (-1) (l.take (c k).toNat) with
    | none => none
    | some G => lyG c d (k + 1) G (l.drop (c k).toNat)
def layR (c : Nat → Int) (s : List Int) : Option (Nat → Nat) := match lyG c 16 0 (fun _ => 0) s with
  | none => none
  | some (G, l) => if c 0 = 0 ∧ l = [] then some G else none
theorem layR_none {c : Nat → Int} {s : List Int} (h : lyG c 16 0 (fun _ => 0) s = none) : layR c s = none := by unfold layR; rw [h]
theorem layR_some {c : Nat → Int} {s : List Int} {G : Nat → Nat} {l : List Int} (h : lyG c 16 0 (fun _ => 0) s = some (G, l)) : layR c s = if c 0 = 0 ∧ l = [] then some G else none := by unfold layR; rw [h]
theorem lyG_bad {c : Nat → Int} {d k : Nat} {u : Nat → Nat} {l : List Int} (h : c k < 0 ∨ (l.length : Int) < c k) : lyG c (d + 1) k u l = none := by simp only [lyG]; rw [if_pos h]
theorem lyG_ok {c : Nat → Int} {d k m : Nat} {u : Nat → Nat} {l : List Int} (h : c k = (m : Int)) (hm : m ≤ l.length) : lyG c (d + 1) k u l = match mkG u k (-1) (l.take m) with
    | none => none
    | some G => lyG c d (k + 1) G (l.drop m) := by
  simp only [lyG]
  rw [h, if_neg (by omega), Int.toNat_natCast]
theorem rdI_take {w : World} {B : Nat} {A : Option Addr} {l : List Int} (h : RdI w B A l) (m : Nat) : RdI w B A (l.take m) := by
  have hl := h.1
  refine ⟨by simp [intsL], fun hn => ?_⟩
  rw [List.length_take] at hn
  obtain ⟨b, o, rfl, hb, hc⟩ := h.2 (by omega)
  refine ⟨b, o, rfl, hb, fun j u hu => hc j u ?_⟩
  rw [intsL_get, List.getElem?_take] at hu
  split at hu
  · rw [intsL_get]; exact hu
  · cases hu
theorem rdI_drop {w : World} {B : Nat} {a : Addr} {A2 : Option Addr} {l : List Int} (h : RdI w B (some a) l) (m c : Nat) (hc : l.length ≤ c) (hA : (if c = m then some a else some (a.add m)) = A2) : RdI w B A2 (l.drop m) := by
  refine ⟨by simp [intsL], fun hn => ?_⟩
  rw [List.length_drop] at hn
  obtain ⟨b, o, e, hb, hcc⟩ := h.2 (by omega)
  cases e
  rw [if_neg (by omega)] at hA
  have e : (⟨b, o, none⟩ : Addr).add m = ⟨b, o + m, none⟩ := by unfold Addr.add; split <;> simp_all
  rw [e] at hA
  refine ⟨b, o + m, hA.symm, hb, fun j u hu => ?_⟩
  rw [intsL_get, List.getElem?_drop] at hu
  rw [Nat.add_assoc]
  exact hcc _ u (by rw [intsL_get]; exact hu)
theorem index_cnt (c : Nat → Int) {k : Nat} (hk : k < 16) (w : World) : (Instr.index 22 (.agg (cntV c).toArray) (.int .i64 (k : Int))).run Try.prog w = .ok (.int .i64 (c k)) w := by
  have hce : Try.prog.cellsOf 3 = 1 := by kernel_rfl
  have hg := cntV_get c k
  rw [if_pos hk] at hg
  simp [Instr.index, run_underlying Try.underlying22, asIntOf, go_sem]
  rw [if_pos hk, hg]; rfl
set_option maxRecDepth 100000 in
set_option maxHeartbeats 2000000 in
theorem lay_any (w : World) (g : Nat) (c : Nat → Int) (v : Value) (s : List Int) (hv : RdS w g v s) (hs : s.length ≤ 1000000) (hrow : RowA w g 320 (fun _ => 0)) :
    Calls Try.prog 28 #[.slice (some ⟨g, 0, none⟩) 320 320, .agg (trA c v)] w (MkOut g w (layR c s)) := by
  have hgl := hrow.lt
  have ht : TreA (w.alloc (.cells (trA c v) 25)) w.heap.size c v := heap_alloc_new w _
  have hb := (Below.refl w.heap.size w).alloc (Nat.le_refl _) (.cells (trA c v) 25)
  have hr1 := hrow.below hb hgl
  obtain ⟨AT, ca, rfl, hra, hna⟩ := hv
  obtain ⟨n, hn⟩ : ∃ n, n = s.length := ⟨_, rfl⟩
  have k1 := ht.syms
  have HT := Lib.hid ht; have HR1 := Lib.hid hr1; have HRA := Lib.hid hra; have HB := Lib.hid (hb.mono (by omega : g ≤ w.heap.size)); have HNA := Lib.hid hna
  rw [← hn] at k1 HT hs HB HR1 ⊢
  have HN := Lib.hid hn
  clear ht hb hr1 hra hna hn hrow
  go_enter Try.func28, Try.ntmps28
  go_wp2_with (refine wpList_load_mid rfl _ _ rfl w.heap.size 0 rfl (cntV c) _ HT.out.range Try.underlying22 rfl (by rw [cntV_length]; exact szCnt) ?_)
  go_loopw [5, 12] (fun l i wr => ∃ (k m : Nat) (A : Option Addr) (l2 : List Int) (c2 : Nat) (u : Nat → Nat), k ≤ 16 ∧ i = .int .i64 k ∧ l = .slice A m c2 ∧ Hid (m = l2.length) ∧ Hid (RdI wr g A l2) ∧ m ≤ 1000000 ∧ m ≤ c2 ∧ c2 ≤ maxLen ∧ Hid (A = none → c2 = 0) ∧ Hid (RowA wr g 320 u) ∧ Hid (∀ j, u j < 256) ∧ Hid (TreA wr w.heap.size c (.slice AT n ca)) ∧ Hid (lyG c 16 0 (fun _ => 0) s = lyG c (16 - k) k u l2) ∧ Hid (Below g w wr)) (fun _ i _ => 16 - (intOf i).toNat)
  case atStart =>
    exact ⟨0, n, AT, s, ca, fun _ => 0, by omega, rfl, rfl, HN, Lib.hid (HRA.out.below HB.out (Nat.le_refl _)), hs, by rw [HN.out]; exact HNA.out.2.1, HNA.out.2.2, Lib.hid HNA.out.1, HR1, Lib.hid (fun _ => by show 0 < 256; omega), HT, Lib.hid rfl, HB⟩
  case round =>
    obtain ⟨k, m, A, l2, c2, u, hk, rfl, rfl, HM, HRL, hm6, hmc, hc2, HNC, HRW, HU, HTW, HE, HBW⟩ := hrel
    unfold maxLen at hc2
    by_cases hlt : k < 16
    · obtain ⟨d, hd⟩ : ∃ d, 16 - k = d + 1 := ⟨15 - k, by omega⟩
      have hE := HE.out
      rw [hd] at hE
      have hix := index_cnt c hlt
      have hbad := Lib.hid (fun (h : c k < 0 ∨ (l2.length : Int) < c k) => layR_none (hE.trans (lyG_bad h)))
      have hgood := Lib.hid (fun (q : Nat) (h : c k = (q : Int)) (hq : q ≤ l2.length) => hE.trans (lyG_ok h hq))
      obtain ⟨x, hx⟩ : ∃ x, x = c k := ⟨_, rfl⟩
      rw [← hx] at hix hbad hgood
      rw [← HM.out] at hbad hgood
      clear hx hE
      by_cases hx1 : x < 0
      · have hno := hbad.out (.inl hx1)
        have hd1 : decide (x < 0) = true := by simpa using hx1
        have HNO := Lib.hid hno
        clear hbad hgood hno
        go_wp2
        go_ret
        exact mkOut_none HNO.out HBW.out
      · obtain ⟨q, rfl⟩ := Int.eq_ofNat_of_zero_le (show 0 ≤ x by omega)
        have hd1 : decide ((q : Int) < 0) = false := by simp
        by_cases hx2 : m < q
        · have hno := hbad.out (.inr (by omega))
          have hg : decide ((m : Int) < (q : Int)) = true := by simp; omega
          have hg2 : decide (m < q) = true := by simpa using hx2
          have HNO := Lib.hid hno
          clear hbad hgood hno
          go_wp2
          go_ret
          exact mkOut_none HNO.out HBW.out
        · have hqm : q ≤ m := by omega
          have hg : decide ((m : Int) < (q : Int)) = false := by simp; omega
          have hg2 : decide (m < q) = false := by simp; omega
          have hgd := hgood.out q rfl hqm
          have hlt2 : (l2.take q).length = q := by rw [List.length_take, ← HM.out]; omega
          have hmk := mark_any wr g u A c2 (l2.take q) k hlt HRW.out HU.out (rdI_take HRL.out q) (by omega)
          rw [hlt2] at hmk
          obtain ⟨o, ho⟩ : ∃ o, o = mkG u k (-1) (l2.take q) := ⟨_, rfl⟩
          rw [← ho] at hgd hmk
          have HGD := Lib.hid hgd; have HMK := Lib.hid hmk; have HD := Lib.hid hd; have HE2 := Lib.hid HE.out
          have hqc : q ≤ c2 := by omega
          have hk256 : (k : Int) % 256 = k := by omega
          clear hbad hgood hgd hmk hlt2 ho hd HE
          go_wp2_with fail
          refine HMK.out.mono ?_
          rintro e w1 ⟨⟨rfl, h1, hb1⟩, hO⟩
          rcases o with _ | G
          · have HNO := Lib.hid (layR_none HGD.out)
            have HB1 := Lib.hid (HBW.out.trans hb1)
            clear h1 hb1 hO
            go_wp2
            go_ret
            exact mkOut_none HNO.out HB1.out
          · obtain ⟨h2, h3⟩ := h1 G rfl
            have hh := HGD.out
            simp only at hh
            have H2 := Lib.hid h2; have H3 := Lib.hid h3; have HB1 := Lib.hid (HBW.out.trans hb1); have HH := Lib.hid hh
            have HRL1 := Lib.hid (HRL.out.below hb1 (Nat.le_refl _))
            have HT1 := Lib.hid (show TreA w1 w.heap.size c (.slice AT n ca) from (hO w.heap.size (by omega)).trans HTW.out)
            clear h1 h2 h3 hb1 hO hh HBW HU HRW HMK
            have hdl : (l2.drop q).length = m - q := by rw [List.length_drop, ← HM.out]
            have HDL := Lib.hid hdl
            have hd15 : 16 - (k + 1) = d := by have := HD.out; omega
            have HD15 := Lib.hid hd15
            clear hdl hd15
            rcases A with _ | a
            · have hc0 : c2 = 0 := HNC.out rfl
              obtain rfl : q = 0 := by omega
              obtain rfl : m = 0 := by omega
              subst hc0
              clear hqm hqc hx2 hx1 hd1 hg hg2 hmc
              go_wp2
              go_roundw
              case rel => exact ⟨k + 1, 0, none, l2.drop 0, 0, G, by omega, by go_num, rfl, HM, Lib.hid (by rw [List.drop_zero]; exact HRL1.out), by omega, by omega, by unfold maxLen; omega, Lib.hid (fun _ => rfl), H2, H3, HT1, Lib.hid (by rw [HD15.out]; exact HH.out), HB1⟩
              case measure => simp [intOf]; omega
            · obtain ⟨A2, hA2⟩ : ∃ A2, (if c2 = q then (some a : Option Addr) else some (a.add q)) = A2 := ⟨_, rfl⟩
              have HRD := Lib.hid (rdI_drop HRL1.out q c2 (by rw [← HM.out]; exact hmc) hA2)
              have HNA2 := Lib.hid (show A2 = none → c2 - q = 0 from fun h => by
                rw [h] at hA2
                split at hA2
                · exact absurd hA2 (by simp)
                · exact absurd hA2 (by simp))
              go_wp2
              go_roundw
              case rel => exact ⟨k + 1, m - q, A2, l2.drop q, c2 - q, G, by omega, by go_num, rfl, Lib.hid HDL.out.symm, HRD, by omega, by omega, by unfold maxLen; omega, HNA2, H2, H3, HT1, Lib.hid (by rw [HD15.out]; exact HH.out), HB1⟩
              case measure => simp [intOf]; omega
    · obtain rfl : k = 16 := by omega
      have hfin := HE.out
      rw [Nat.sub_self] at hfin
      have hly := layR_some hfin
      have k0 := HTW.out.cnt (show 0 < 16 by omega)
      obtain ⟨x, hx⟩ : ∃ x, x = c 0 := ⟨_, rfl⟩
      rw [← hx] at k0 hly
      by_cases h0 : x = 0
      · subst h0
        by_cases hm0 : m = 0
        · subst hm0
          have hl2 : l2 = [] := List.length_eq_zero_iff.1 HM.out.symm
          rw [if_pos ⟨rfl, hl2⟩] at hly
          have HLY := Lib.hid hly
          clear hfin hly hx hl2 HE
          go_wp2
          go_ret
          exact ⟨by rw [HLY.out]; rfl, (fun G h => by rw [HLY.out] at h; cases h; exact ⟨HRW.out, HU.out⟩), HBW.out⟩
        · have hne : ((m : Int) == 0) = false := by simp; omega
          have hne2 : (m == 0) = false := by simpa using hm0
          rw [if_neg (fun h => hm0 (by rw [HM.out, h.2]; rfl))] at hly
          have HLY := Lib.hid hly
          clear hfin hly hx HE
          go_wp2
          go_ret
          exact mkOut_none HLY.out HBW.out
      · have hne : (x == 0) = false := by simpa using h0
        rw [if_neg (fun h => h0 h.1)] at hly
        have HLY := Lib.hid hly
        clear hfin hly hx HE
        go_wp2
        go_ret
        exact mkOut_none HLY.out HBW.out
end Go.Proofs.Ytedjapamimhglaa
