/-
  Layer 4 (build): the document's own Made and Lengths.
-/
import Derived.Test.YtgppikhfkikknaaBuildLs2
namespace Go.Proofs.Ytgppikhfkikknaa
open Go.RowKit
theorem len_none {F : Nat → Nat} {N L i : Nat} (h0 : nI F N = 0) (hi : i < N) : lenB F N L i = 0 := by
  unfold lenB
  by_cases h : 0 < F i
  · have := nI_pos hi h; omega
  · rw [if_pos (by omega)]
theorem len_one {F : Nat → Nat} {N L i : Nat} (h1 : nI F N = 1) (hi : i < N) : lenB F N L i = upd (fun _ => 0) ((itemsL F N).getD 0 0) 1 i := by
  unfold lenB upd
  have hr := rank_of (F := F) (n := N) (r := 0) (by omega)
  by_cases h : 0 < F i
  · rw [if_neg (by omega), if_pos h1]
    have h2 := rank_at hi h
    have h3 : rankN F N i = 0 := by omega
    rw [h3] at h2
    rw [if_pos h2.2.symm]
  · rw [if_pos (by omega), if_neg]
    intro e
    rw [e] at h; omega
/-- What is asked of frequencies that are right. -/
theorem ask_right {l : List Int} {most : Int} (h : askE l most = 0) : 1 ≤ most ∧ most ≤ 15 ∧ l.length ≤ 320 ∧ (∀ j, j < l.length → 0 ≤ l.getD j 0 ∧ l.getD j 0 ≤ 1073741824) ∧ nI (freqN l) l.length ≤ 2 ^ most.toNat := by
  unfold askE at h
  split at h
  · cases h
  · split at h
    · cases h
    · split at h
      · cases h
      · rename_i h1 h2 h3
        split at h
        · cases h
        · refine ⟨by omega, by omega, by omega, fun j hj => ?_, by omega⟩
          have h4 : ¬ badI (l.getD j 0) = true := fun hb => h3 (badL_yes hj hb)
          have h5 := of_decide_eq_false (Bool.not_eq_true _ ▸ h4)
          omega
theorem rowW_one (w : World) (n k : Nat) : RowW (w.alloc (.cells ((madeCells #[.int .u8 0] n).setIfInBounds k (.int .u8 1)) 5)) w.heap.size n (upd (fun _ => 0) k 1) := by
  refine ⟨_, heap_alloc_new w _, fun j hj => ?_⟩
  have e1 : j % 1 = 0 := by omega
  simp only [Array.getElem?_setIfInBounds, upd, size_madeCells]
  by_cases e : j = k
  · subst e; rw [if_pos rfl, if_pos hj, if_pos rfl]; rfl
  · rw [if_neg (fun h => e h.symm), if_neg e]
    unfold madeCells
    simp [hj, e1]
set_option maxRecDepth 100000 in
set_option maxHeartbeats 4000000 in
theorem made4_any (w : World) (A : Option Addr) (c : Nat) (l : List Int) (hr : RdI w w.heap.size A l) (L : Nat) (hL1 : 1 ≤ L) (hL2 : L ≤ 15) (N : Nat) (hN : N = l.length) (hn : nI (freqN l) l.length ≤ 2 ^ L) (hl : N ≤ 400)
    (hb : ∀ j, j < l.length → 0 ≤ l.getD j 0 ∧ l.getD j 0 ≤ 1073741824) :
    Calls Try.prog 21 #[.slice A N c, .int .i64 (L : Int)] w fun e w' => ∃ g, e = .returned (.slice (some ⟨g, 0, none⟩) N N) ∧ w.heap.size ≤ g ∧ Below w.heap.size w w' ∧ RowW w' g N (lenB (freqN l) N L) := by
  have HR := Lib.hid hr; have HBD := Lib.hid hb; have HP := Lib.hid hn; have HN := Lib.hid hN
  have hit := items_any w A c l hr (by omega) (fun j hj => by have := hb j hj; omega)
  have hmk := make_u8 N (by omega)
  have hnle := nI_le (freqN l) l.length
  obtain ⟨n, hnn⟩ : ∃ n, n = nI (freqN l) l.length := ⟨_, rfl⟩
  rw [← hnn, ← hN] at hit
  rw [← hnn, ← hN] at hnle
  have HIT := Lib.hid hit
  have HNN := Lib.hid hnn
  clear hr hb hn hN hit hnn
  go_enter Try.func21, Try.ntmps21
  by_cases h2 : 2 ≤ n
  · have hd : decide ((2 : Int) ≤ (n : Int)) = true := by simp; omega
    go_wp2_with (first
      | (go_at_call 30; refine HIT.out.mono ?_; rintro e w1 ⟨Ai, ci, rfl, hb1, hown⟩; have HB1 := Lib.hid hb1; have HI := Lib.hid (rdI_nats hown); clear hb1 hown)
      | (go_at_call 31; refine (least_any _ A c l ((HR.out.below HB1.out (Nat.le_refl _)).more HB1.out.size) Ai ci (by have h := HI.out; rw [HN.out] at h; exact h) L hL1 hL2 N n HN.out HNN.out h2 (by have := HP.out; rw [HNN.out]; exact this) hl HBD.out).mono ?_; rintro e w2 ⟨g, rfl, hg, hb2, hrow⟩; have HB2 := Lib.hid hb2; have HROW := Lib.hid hrow; have HG := Lib.hid hg; clear hb2 hrow hg))
    go_ret
    have hs := HB1.out.size
    have hg := HG.out
    exact ⟨g, rfl, by omega, HB1.out.trans (HB2.out.mono hs), HROW.out⟩
  · have hd : decide ((2 : Int) ≤ (n : Int)) = false := by simp; omega
    by_cases h1 : n = 1
    · subst h1
      have hlt := rank_of (F := freqN l) (n := l.length) (r := 0) (by have := HNN.out; omega)
      obtain ⟨s, hs⟩ : ∃ s, s = (itemsL (freqN l) l.length).getD 0 0 := ⟨_, rfl⟩
      have hsN : s < N := by have := HN.out; rw [hs, this]; exact hlt.2.1
      have HS := Lib.hid hs
      clear hs hlt h2 hd
      go_wp2_with (go_at_call 30; refine HIT.out.mono ?_; rintro e w1 ⟨Ai, ci, rfl, hb1, hown⟩; have hi := rdI_nats hown; obtain ⟨b, o, rfl, hbl, hc⟩ := hi.at (k := 0) (by rw [natsI_length, items_length, HN.out, ← HNN.out]; omega); have c0 := hc 0 (by rw [natsI_length, items_length, HN.out, ← HNN.out]; omega); rw [natsI_get, HN.out, ← HS.out, Nat.add_zero] at c0; have HB1 := Lib.hid hb1; have hmade := (rowW_made w1 N).cell hsN; have hfz := (rowW_made w1 N).frozen s; have c1 : (w1.alloc (.cells (madeCells #[.int .u8 0] N) 5)).cell? ⟨b, o, none⟩ = some (.int .i64 (s : Int)) := (((Below.refl w1.heap.size w1).alloc (Nat.le_refl _) (.cells (madeCells #[.int .u8 0] N) 5)).cell (p := ⟨b, o, none⟩) hbl).trans c0; clear hb1 hown hi hc)
      go_ret
      have hs := HB1.out.size
      exact ⟨w1.heap.size, rfl, hs, HB1.out.trans ((Below.refl _ _).alloc hs _), (rowW_one w1 N s).ext fun i hi => by rw [HS.out, HN.out]; exact (len_one HNN.out.symm (by rw [← HN.out]; exact hi)).symm⟩
    · obtain rfl : n = 0 := by omega
      clear h2
      go_wp2_with (go_at_call 30; refine HIT.out.mono ?_; rintro e w1 ⟨Ai, ci, rfl, hb1, hown⟩; have HB1 := Lib.hid hb1; clear hb1 hown)
      go_ret
      have hs := HB1.out.size
      exact ⟨w1.heap.size, rfl, hs, HB1.out.trans ((Below.refl _ _).alloc hs _), (rowW_made w1 N).ext fun i hi => by rw [HN.out]; exact (len_none HNN.out.symm (by rw [← HN.out]; exact hi)).symm⟩
/-- What comes back of frequencies: so many lengths, these. -/
def lenO (l : List Int) (most : Int) : Nat := if askE l most = 0 then l.length else 0
def outL (l : List Int) (most : Int) (j : Nat) : Nat := if askE l most = 0 then lenB (freqN l) l.length most.toNat j else 0
theorem outL_lt (l : List Int) (most : Int) (j : Nat) : outL l most j < 256 := by
  unfold outL
  split
  · rename_i h
    obtain ⟨h1, h2, _⟩ := ask_right h
    have := lenB_le (freqN l) (n := l.length) (L := most.toNat) (by omega) j
    omega
  · omega
set_option maxRecDepth 100000 in
theorem rlengths_any (w : World) (A : Option Addr) (c : Nat) (l : List Int) (most : Int) (hr : RdI w w.heap.size A l) :
    Calls Try.prog 12 #[.slice A l.length c, .int .i64 most] w fun e w' => ∃ A' c', e = .returned (.tuple #[.slice A' (lenO l most) c', .int .i64 (askE l most)]) ∧ Below w.heap.size w w' ∧ RdB w' w'.heap.size A' (lenO l most) (outL l most) ∧ (A' = none → c' = 0) := by
  have HR := Lib.hid hr
  clear hr
  obtain ⟨N, hN⟩ : ∃ N, N = l.length := ⟨_, rfl⟩
  have HN := Lib.hid hN
  obtain ⟨q, hq⟩ : ∃ q, q = askE l most := ⟨_, rfl⟩
  have HASK := Lib.hid (ask_any w w.heap.size A c l most HR.out)
  rw [← hq, ← hN] at HASK
  rw [← hq, ← hN]
  by_cases h : q = 0
  · subst h
    obtain ⟨h1, h2, h3, h4, h5⟩ := ask_right hq.symm
    have hlo : lenO l most = N := by unfold lenO; rw [if_pos hq.symm, hN]
    have hol : outL l most = lenB (freqN l) N most.toNat := by funext j; unfold outL; rw [if_pos hq.symm, hN]
    obtain ⟨L, rfl⟩ : ∃ L : Nat, most = (L : Int) := ⟨most.toNat, by omega⟩
    rw [Int.toNat_natCast] at h5 hol
    have HM := Lib.hid (made4_any w A c l HR.out L (by omega) (by omega) N hN h5 (by omega) h4)
    have HL := Lib.hid hlo; have HO := Lib.hid hol; have HLT := Lib.hid (fun j => outL_lt l (L : Int) j)
    rw [hlo]
    clear h1 h2 h3 h4 h5 hlo hol hq hN
    go_enter Try.func12, Try.ntmps12
    go_wp2_with (first
      | (go_at_call 11; refine HASK.out.mono ?_; rintro e w1 ⟨rfl, rfl⟩)
      | (go_at_call 21; refine HM.out.mono ?_; rintro e w2 ⟨g, rfl, hg, hb2, hrow⟩; have HB2 := Lib.hid hb2; have HROW := Lib.hid hrow; have HG := Lib.hid hg; clear hb2 hrow hg))
    go_ret2
    exact ⟨_, _, rfl, HB2.out, by rw [HO.out] at HLT ⊢; exact HROW.out.rd HLT.out, fun h => by cases h⟩
  · have hlo : lenO l most = 0 := by unfold lenO; rw [if_neg (by rw [← hq]; exact h)]
    have hd : (q != 0) = true := by simpa using h
    have HL := Lib.hid hlo; have HLT := Lib.hid (fun j => outL_lt l most j)
    rw [hlo]
    clear hlo hq hN h
    go_enter Try.func12, Try.ntmps12
    go_wp2_with (go_at_call 11; refine HASK.out.mono ?_; rintro e w1 ⟨rfl, rfl⟩)
    go_ret2
    exact ⟨none, 0, rfl, Below.refl _ _, ⟨HLT.out, fun h => absurd h (by omega)⟩, fun _ => rfl⟩
end Go.Proofs.Ytgppikhfkikknaa
