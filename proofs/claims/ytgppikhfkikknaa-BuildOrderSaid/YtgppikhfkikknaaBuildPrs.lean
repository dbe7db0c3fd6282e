/-
  Layer 4 (build): the document's own pairs of a row.
-/
import Derived.Test.YtgppikhfkikknaaBuildMrg
import Derived.Test.YtgppikhfkikknaaStep
import Derived.BigRegion
import Derived.Deep.RegionLaw
import Derived.Lib.AppendZeros
namespace Go.Proofs.Ytgppikhfkikknaa
open Go.RowKit
def sumN (f g : Nat → Nat) (j i : Nat) : Nat := if i < j then f i + g i else 0
theorem sum_step (f g : Nat → Nat) (j : Nat) : upd (sumN f g j) j (f j + g j) = sumN f g (j + 1) := by
  funext i
  unfold upd sumN
  by_cases e : i = j
  · subst e; rw [if_pos rfl, if_pos (by omega)]
  · rw [if_neg e]
    by_cases h : i < j
    · rw [if_pos h, if_pos (by omega)]
    · rw [if_neg h, if_neg (by omega)]
set_option maxRecDepth 100000 in
set_option maxHeartbeats 4000000 in
theorem pairs_any (w : World) (A : Option Addr) (c n m : Nat) (W : Nat → Nat) (C : Nat → Nat → Nat) (hr : RdP w w.heap.size A n m W C) (hn : n ≤ 400) (hm : m ≤ 900)
    (hw : ∀ t, t < m → W t ≤ 1125899906842624) (hc : ∀ t i, t < m → C t i ≤ 1000) :
    Calls Try.prog 38 #[.slice A m c] w fun e w' => ∃ A' c', e = .returned (.slice A' (m / 2) c') ∧ Below w.heap.size w w' ∧
      OwnP w' w.heap.size A' c' n (m / 2) (prs W) (fun t i => prs (fun s => C s i) t) := by
  have HR := Lib.hid hr
  have HW := Lib.hid hw
  have HC := Lib.hid hc
  have hmk := make_ints n (by omega)
  clear hr hw hc
  obtain ⟨PW, hPW⟩ : ∃ PW : Nat → Nat, PW = prs W := ⟨_, rfl⟩
  obtain ⟨PC, hPC⟩ : ∃ PC : Nat → Nat → Nat, PC = fun t i => prs (fun s => C s i) t := ⟨_, rfl⟩
  rw [← hPW, ← hPC]
  have HPW := Lib.hid hPW; have HPC := Lib.hid hPC
  clear hPW hPC
  go_enter Try.func38, Try.ntmps38
  go_wp2
  go_loopw [3, 4, 5, 6] (fun o i _ _ wr => ∃ (t i0 : Nat) (Ao : Option Addr) (co : Nat), i0 = 2 * t ∧ i0 ≤ m ∧ i = .int .i64 i0 ∧ o = .slice Ao t co ∧ OwnP wr w.heap.size Ao co n t PW PC ∧ Below w.heap.size w wr) (fun _ i _ _ _ => m - (intOf i).toNat)
  case atStart => exact ⟨0, 0, none, 0, rfl, Nat.zero_le _, rfl, rfl, OwnP.none_ _ _ _ _ _, Below.refl _ _⟩
  case round =>
    obtain ⟨t, i0, Ao, co, hti, him, rfl, rfl, hown, hbw⟩ := hrel
    obtain ⟨wo, rfl⟩ : ∃ wo : World, wo = wr := ⟨_, rfl⟩
    have hsz := hbw.size
    by_cases hlt : i0 + 1 < m
    · obtain ⟨a, o, rfl, ha, hcc⟩ := (HR.out.below hbw (Nat.le_refl _)).at (by omega)
      obtain ⟨b1, h1, h2, hb1, h3⟩ := hcc i0 (by omega)
      obtain ⟨b2, h4, h5, hb2, h6⟩ := hcc (i0 + 1) hlt
      have HT := Lib.hid hti
      have HO := Lib.hid hown; have HB := Lib.hid hbw; have H1 := Lib.hid h1; have H2 := Lib.hid h2; have H3 := Lib.hid h3; have H4 := Lib.hid h4; have H5 := Lib.hid h5; have H6 := Lib.hid h6
      have hlti : ((i0 : Int) + 1 < (m : Int)) := by omega
      clear hown hbw hcc h1 h3 h4 h5 h6 hti
      go_wp2
      clear h2
      have HMADE := Lib.hid (rowI_made wo n)
      have HBA := Lib.hid ((Below.refl wo.heap.size wo).alloc (Nat.le_refl _) (.cells (madeCells #[.int .i64 0] n) 3))
      go_loopw [6] (fun k wi => ∃ j : Nat, j ≤ n ∧ k = .int .i64 j ∧ RowI wi wo.heap.size n (sumN (C i0) (C (i0 + 1)) j) ∧ Below wo.heap.size wo wi ∧ wo.heap.size < wi.heap.size) (fun k _ => n - (intOf k).toNat)
      case atStart => exact ⟨0, Nat.zero_le _, rfl, HMADE.out.ext (fun j _ => by unfold sumN; rw [if_neg (by omega)]), HBA.out, by simp⟩
      case round =>
        obtain ⟨j, hj, rfl, hrow, hbi, hszi⟩ := hrel
        obtain ⟨wi, rfl⟩ : ∃ wi : World, wi = wr := ⟨_, rfl⟩
        by_cases hjn : j < n
        · have c1 : wi.cell? ⟨a, o + i0 * 2 + 1, none⟩ = some (.slice (some ⟨b1, 0, none⟩) n n) := by rw [hbi.cell (p := ⟨a, o + i0 * 2 + 1, none⟩) (by show a < wo.heap.size; omega)]; exact H2.out
          have c2 : wi.cell? ⟨a, o + (i0 + 1) * 2 + 1, none⟩ = some (.slice (some ⟨b2, 0, none⟩) n n) := by rw [hbi.cell (p := ⟨a, o + (i0 + 1) * 2 + 1, none⟩) (by show a < wo.heap.size; omega)]; exact H5.out
          have c3 : wi.cell? ⟨b1, j, none⟩ = some (.int .i64 (C i0 j : Int)) := by rw [hbi.cell (p := ⟨b1, j, none⟩) (by show b1 < wo.heap.size; omega)]; exact H3.out j hjn
          have c4 : wi.cell? ⟨b2, j, none⟩ = some (.int .i64 (C (i0 + 1) j : Int)) := by rw [hbi.cell (p := ⟨b2, j, none⟩) (by show b2 < wo.heap.size; omega)]; exact H6.out j hjn
          have hcell := hrow.cell hjn
          have hfz := hrow.frozen j
          have hx1 := HC.out i0 j (by omega)
          have hx2 := HC.out (i0 + 1) j hlt
          obtain ⟨x1, hx1e⟩ : ∃ x, x = C i0 j := ⟨_, rfl⟩
          obtain ⟨x2, hx2e⟩ : ∃ x, x = C (i0 + 1) j := ⟨_, rfl⟩
          rw [← hx1e] at c3 hx1
          rw [← hx2e] at c4 hx2
          have X1 := Lib.hid hx1e; have X2 := Lib.hid hx2e
          have HROW := Lib.hid hrow; have HBI := Lib.hid hbi
          clear hrow hbi hx1e hx2e
          go_wp2
          go_region
          go_wp2
          go_roundw
          case rel =>
            have hset := HROW.out.set j (x1 + x2)
            rw [X1.out, X2.out, sum_step, ← X1.out, ← X2.out, Int.natCast_add] at hset
            refine ⟨j + 1, by omega, by go_num, hset, (HBI.out.setCell (Nat.le_refl _) _).drew, ?_⟩
            show wo.heap.size < (wi.setCell _ _).heap.size
            simpa [World.setCell] using hszi
          case measure => simp [intOf]; omega
        · obtain rfl : j = n := by omega
          have c1 : wi.cell? ⟨a, o + i0 * 2, none⟩ = some (.int .i64 (W i0 : Int)) := by rw [hbi.cell (p := ⟨a, o + i0 * 2, none⟩) (by show a < wo.heap.size; omega)]; exact H1.out
          have c2 : wi.cell? ⟨a, o + (i0 + 1) * 2, none⟩ = some (.int .i64 (W (i0 + 1) : Int)) := by rw [hbi.cell (p := ⟨a, o + (i0 + 1) * 2, none⟩) (by show a < wo.heap.size; omega)]; exact H4.out
          have hx1 := HW.out i0 (by omega)
          have hx2 := HW.out (i0 + 1) hlt
          have hpw : PW t = W i0 + W (i0 + 1) := by rw [HPW.out, HT.out]; rfl
          have hpc : ∀ i, i < j → PC t i = sumN (C i0) (C (i0 + 1)) j i := fun i hi => by rw [HPC.out, HT.out]; unfold sumN; rw [if_pos hi]; rfl
          have hvo := HO.out.after hbi
          have hvb := HB.out.trans (hbi.mono hsz)
          have hht := HT.out
          obtain ⟨Ac, cc, wc, r1, ho, hbc⟩ := run_par wi.drew w.heap.size Ao co j t PW PC hvo wo.heap.size hszi (HO.out.fresh (Nat.le_refl _)) (fun i hi => by rw [hpc i hi]; exact hrow.cell hi) (by omega) hvb.size
          rw [hpw, Int.natCast_add] at r1
          obtain ⟨x1, hx1e⟩ : ∃ x, x = W i0 := ⟨_, rfl⟩
          obtain ⟨x2, hx2e⟩ : ∃ x, x = W (i0 + 1) := ⟨_, rfl⟩
          rw [← hx1e] at c1 hx1 r1
          rw [← hx2e] at c2 hx2 r1
          have R1 := Lib.hid r1; have OWN := Lib.hid ho; have HBC := Lib.hid (hvb.drew.trans hbc)
          have hi0m : i0 < m := by omega
          have hp0 : (0 : Int) ≤ (i0 : Int) + 1 := by omega
          have hq1 : IntKind.i64.wrap ((i0 : Int) + 1) = (i0 : Int) + 1 := by rw [IntKind.wrap_i64]; omega
          have hq2 : IntKind.i64.wrap ((x1 : Int) + (x2 : Int)) = (x1 : Int) + (x2 : Int) := by rw [IntKind.wrap_i64]; omega
          clear r1 ho hbc hvo hvb hpw hpc hx1e hx2e hrow hbi hht hjn hj
          go_wp2
          go_region_law ((refine step_app rfl (.tmp 48) (.tmp 63) 66 66 rfl (.slice Ao t co) (.slice (some ⟨wi.heap.size, 0, none⟩) 1 1) rfl rfl (.slice Ac (t + 1) cc) wc R1.out ?_))
          all_goals (
            go_wp2
            refine ⟨⟨t + 1, i0 + 2, Ac, cc, by have := HT.out; omega, by omega, by go_num, rfl, OWN.out, HBC.out⟩, ?_⟩
            simp [intOf]; omega)
    · have hti2 : t = m / 2 := by omega
      have hf : decide ((i0 : Int) + 1 < (m : Int)) = false := by simp; omega
      have HO := Lib.hid hown; have HB := Lib.hid hbw; have HT := Lib.hid hti2
      clear hown hbw hti2 hti
      go_wp2
      rw [HT.out]
      go_ret
      exact ⟨Ao, co, rfl, HB.out, by rw [← HT.out]; exact HO.out⟩
end Go.Proofs.Ytgppikhfkikknaa
