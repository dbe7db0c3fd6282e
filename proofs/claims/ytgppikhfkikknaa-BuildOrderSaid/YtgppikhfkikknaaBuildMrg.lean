/-
  Layer 4 (build): the document's own merge of items and pairs.
-/
import Derived.Test.YtgppikhfkikknaaBuildFst
import Derived.BigQuiet
namespace Go.Proofs.Ytgppikhfkikknaa
open Go.RowKit
theorem OwnP.away {w : World} {base c n m : Nat} {A : Option Addr} {W : Nat → Nat} {C : Nat → Nat → Nat} (h : OwnP w base A c n m W C) {b : Nat} (hb : b < base) : some b ≠ (Value.slice A m c).ownBlock := by
  obtain ⟨cs, h1, _⟩ := h
  intro e
  have := (h1.lt b e.symm).1
  omega
theorem OwnP.drawn {w : World} {base c n m : Nat} {A : Option Addr} {W : Nat → Nat} {C : Nat → Nat → Nat} (h : OwnP w base A c n m W C) (q : Nat) : OwnP (w.drewN q) base A c n m W C := h
theorem below_drew4 {B : Nat} {a w : World} (h : Below B a w) (n : Nat) : Below B a (w.drewN n) := ⟨h.os, h.tape, h.output, h.size, h.block⟩
set_option maxRecDepth 100000 in
set_option maxHeartbeats 4000000 in
theorem merged_any (w : World) (A : Option Addr) (c n : Nat) (W1 : Nat → Nat) (C1 : Nat → Nat → Nat) (hr : RdP w w.heap.size A n n W1 C1) (A2 : Option Addr) (c2 m : Nat) (W2 : Nat → Nat) (C2 : Nat → Nat → Nat) (hr2 : RdP w w.heap.size A2 n m W2 C2) (hnm : n + m ≤ 900) :
    Calls Try.prog 37 #[.slice A n c, .slice A2 m c2] w fun e w' => ∃ A' c', e = .returned (.slice A' (n + m) c') ∧ Below w.heap.size w w' ∧
      OwnP w' w.heap.size A' c' n (n + m) (mrg n m W1 W2) (fun t i => mrgOf n m W1 W2 (fun s => C1 s i) (fun s => C2 s i) t) := by
  have HR := Lib.hid hr
  have HR2 := Lib.hid hr2
  clear hr hr2
  obtain ⟨W, hW⟩ : ∃ W : Nat → Nat, W = mrg n m W1 W2 := ⟨_, rfl⟩
  obtain ⟨C, hC⟩ : ∃ C : Nat → Nat → Nat, C = fun t i => mrgOf n m W1 W2 (fun s => C1 s i) (fun s => C2 s i) t := ⟨_, rfl⟩
  rw [← hW, ← hC]
  have HW := Lib.hid hW; have HC := Lib.hid hC
  clear hW hC
  go_enter Try.func37, Try.ntmps37
  go_wp2
  go_loopw [5, 6, 7] (fun o i k wr => ∃ (x y : Nat) (Ao : Option Addr) (co : Nat), x ≤ n ∧ y ≤ m ∧ i = .int .i64 x ∧ k = .int .i64 y ∧ o = .slice Ao (x + y) co ∧ stepI n m W1 W2 (x + y) = x ∧ OwnP wr w.heap.size Ao co n (x + y) W C ∧ Below w.heap.size w wr) (fun _ i k _ => n + m - (intOf i).toNat - (intOf k).toNat)
  case atStart => exact ⟨0, 0, none, 0, Nat.zero_le _, Nat.zero_le _, rfl, rfl, rfl, rfl, OwnP.none_ _ _ _ _ _, Below.refl _ _⟩
  case round =>
    obtain ⟨x, y, Ao, co, hx, hy, rfl, rfl, rfl, hst, hown, hbw⟩ := hrel
    have hsz := hbw.size
    have hs : stepI n m W1 W2 (x + y + 1) = if pickB n m W1 W2 x y = true then x + 1 else x := by
      show (if pickB n m W1 W2 (stepI n m W1 W2 (x + y)) (x + y - stepI n m W1 W2 (x + y)) = true then stepI n m W1 W2 (x + y) + 1 else stepI n m W1 W2 (x + y)) = _
      rw [hst, show x + y - x = y by omega]
    have hw : W (x + y) = if pickB n m W1 W2 x y = true then W1 x else W2 y := by
      rw [HW.out]; unfold mrg; rw [hst, show x + y - x = y by omega]
    have hc : ∀ i, C (x + y) i = if pickB n m W1 W2 x y = true then C1 x i else C2 y i := fun i => by
      rw [HC.out]; show mrgOf _ _ _ _ _ _ _ = _; unfold mrgOf; rw [hst, show x + y - x = y by omega]
    by_cases hdone : x < n ∨ y < m
    · by_cases hp : pickB n m W1 W2 x y = true
      · rw [if_pos hp] at hs hw
        have hxn : x < n := by have := of_decide_eq_true hp; omega
        have hpp := of_decide_eq_true hp
        obtain ⟨a, o, rfl, ha, hcc⟩ := (HR.out.below hbw (Nat.le_refl _)).at (by omega)
        obtain ⟨b, h1, h2, hb, h3⟩ := hcc x hxn
        have hnx : ((x : Int) < (n : Int)) := by omega
        have HO := Lib.hid hown; have HB := Lib.hid hbw; have HS := Lib.hid hs; have HC1 := Lib.hid hc; have HH := Lib.hid h3; have HP := Lib.hid hp
        rw [← hw] at h1
        obtain ⟨g, hg⟩ : ∃ g, g = W (x + y) := ⟨_, rfl⟩
        rw [← hg] at h1 hw
        have HG := Lib.hid hg
        by_cases hym : y = m
        · have heq : ((y : Int) == (m : Int)) = true := by simp; omega
          clear hown hbw hs hc h3 hst hp hg hcc hdone hw hpp hym
          go_wp2
          go_quiet (fail)
          obtain ⟨V, hV⟩ : ∃ V, V = wr.drewN nq := ⟨_, rfl⟩
          have e1 : V.cell? ⟨a, o + x * 2, none⟩ = some (.int .i64 (g : Int)) := by rw [hV]; exact h1
          have e2 : V.cell? ⟨a, o + x * 2 + 1, none⟩ = some (.slice (some ⟨b, 0, none⟩) n n) := by rw [hV]; exact h2
          have hVs : V.heap.size = wr.heap.size := by rw [hV]; rfl
          have hVo : OwnP V w.heap.size Ao co n (x + y) W C := by rw [hV]; exact HO.out.drawn nq
          have hVb : Below w.heap.size w V := by rw [hV]; exact below_drew4 HB.out nq
          have hcv : ∀ i, i < n → V.cell? ⟨b, i, none⟩ = some (.int .i64 (C (x + y) i : Int)) := fun i hi => by rw [hV, HC1.out i, if_pos HP.out]; exact HH.out i hi
          rw [← hV]
          have hvz := hVb.size
          have hvb : b < V.heap.size := by omega
          clear hV h1 h2
          obtain ⟨Ac, cc, wc, r1, ho, hbc⟩ := run_par V w.heap.size Ao co n (x + y) W C hVo b (by omega) (hVo.away hb) hcv (by omega) hVb.size
          rw [← HG.out] at r1
          have R1 := Lib.hid r1; have OWN := Lib.hid ho; have HBC := Lib.hid (hVb.trans hbc)
          clear r1 ho hbc hVo hVb hcv hVs hvb
          go_wp2_with (at_builtin; refine wpList_append_run rfl (.tmp 41) (.tmp 46) 66 rfl (.slice Ao (x + y) co) (.slice (some ⟨V.heap.size, 0, none⟩) 1 1) (.slice Ac (x + y + 1) cc) wc rfl rfl R1.out ?_)
          go_roundw
          case rel =>
            refine ⟨x + 1, y, Ac, cc, by omega, hy, by go_num, rfl, by rw [show x + 1 + y = x + y + 1 by omega], by rw [show x + 1 + y = x + y + 1 by omega]; exact HS.out, ?_, HBC.out⟩
            rw [show x + 1 + y = x + y + 1 by omega]; exact OWN.out
          case measure => simp [intOf]; omega
        · have heq : ((y : Int) == (m : Int)) = false := by simp; omega
          obtain ⟨a2, o2, rfl, ha2, hcc2⟩ := (HR2.out.below hbw (Nat.le_refl _)).at (by omega)
          obtain ⟨_, h4, _, _, _⟩ := hcc2 y (by omega)
          obtain ⟨g2, hg2⟩ : ∃ g2, g2 = W2 y := ⟨_, rfl⟩
          have hle : decide ((g : Int) ≤ (g2 : Int)) = true := by simp; omega
          have hle2 : decide (g ≤ g2) = true := by simpa using hle
          rw [← hg2] at h4
          have HG2 := Lib.hid hg2
          clear hown hbw hs hc h3 hst hp hg hcc hcc2 hg2 hdone hw hpp
          go_wp2
          go_quiet (fail)
          obtain ⟨V, hV⟩ : ∃ V, V = wr.drewN nq := ⟨_, rfl⟩
          have e1 : V.cell? ⟨a, o + x * 2, none⟩ = some (.int .i64 (g : Int)) := by rw [hV]; exact h1
          have e2 : V.cell? ⟨a, o + x * 2 + 1, none⟩ = some (.slice (some ⟨b, 0, none⟩) n n) := by rw [hV]; exact h2
          have hVs : V.heap.size = wr.heap.size := by rw [hV]; rfl
          have hVo : OwnP V w.heap.size Ao co n (x + y) W C := by rw [hV]; exact HO.out.drawn nq
          have hVb : Below w.heap.size w V := by rw [hV]; exact below_drew4 HB.out nq
          have hcv : ∀ i, i < n → V.cell? ⟨b, i, none⟩ = some (.int .i64 (C (x + y) i : Int)) := fun i hi => by rw [hV, HC1.out i, if_pos HP.out]; exact HH.out i hi
          rw [← hV]
          have hvz := hVb.size
          have hvb : b < V.heap.size := by omega
          clear hV h1 h2
          obtain ⟨Ac, cc, wc, r1, ho, hbc⟩ := run_par V w.heap.size Ao co n (x + y) W C hVo b (by omega) (hVo.away hb) hcv (by omega) hVb.size
          rw [← HG.out] at r1
          have R1 := Lib.hid r1; have OWN := Lib.hid ho; have HBC := Lib.hid (hVb.trans hbc)
          clear r1 ho hbc hVo hVb hcv hVs hvb
          go_wp2_with (at_builtin; refine wpList_append_run rfl (.tmp 41) (.tmp 46) 66 rfl (.slice Ao (x + y) co) (.slice (some ⟨V.heap.size, 0, none⟩) 1 1) (.slice Ac (x + y + 1) cc) wc rfl rfl R1.out ?_)
          go_roundw
          case rel =>
            refine ⟨x + 1, y, Ac, cc, by omega, hy, by go_num, rfl, by rw [show x + 1 + y = x + y + 1 by omega], by rw [show x + 1 + y = x + y + 1 by omega]; exact HS.out, ?_, HBC.out⟩
            rw [show x + 1 + y = x + y + 1 by omega]; exact OWN.out
          case measure => simp [intOf]; omega
      · have hpf : pickB n m W1 W2 x y = false := by simpa using hp
        have hpp := of_decide_eq_false hpf
        rw [if_neg hp] at hs hw
        have hym : y < m := by omega
        obtain ⟨a, o, rfl, ha, hcc⟩ := (HR2.out.below hbw (Nat.le_refl _)).at (by omega)
        obtain ⟨b, h1, h2, hb, h3⟩ := hcc y hym
        have HO := Lib.hid hown; have HB := Lib.hid hbw; have HS := Lib.hid hs; have HC1 := Lib.hid hc; have HH := Lib.hid h3; have HP := Lib.hid hp
        rw [← hw] at h1
        obtain ⟨g, hg⟩ : ∃ g, g = W (x + y) := ⟨_, rfl⟩
        rw [← hg] at h1 hw
        have HG := Lib.hid hg
        have hmy : ((y : Int) < (m : Int)) := by omega
        have heq : ((y : Int) == (m : Int)) = false := by simp; omega
        by_cases hxn : x < n
        · obtain ⟨a2, o2, rfl, ha2, hcc2⟩ := (HR.out.below hbw (Nat.le_refl _)).at (by omega)
          obtain ⟨_, h4, _, _, _⟩ := hcc2 x hxn
          obtain ⟨g2, hg2⟩ : ∃ g2, g2 = W1 x := ⟨_, rfl⟩
          have hle : decide ((g2 : Int) ≤ (g : Int)) = false := by simp; omega
          have hnx : ((x : Int) < (n : Int)) := by omega
          have hle2 : decide (g2 ≤ g) = false := by simp at hle ⊢; omega
          rw [← hg2] at h4
          have HG2 := Lib.hid hg2
          clear hown hbw hs hc h3 hst hp hg hcc hcc2 hg2 hdone hw hpp hpf
          go_wp2
          go_quiet (fail)
          obtain ⟨V, hV⟩ : ∃ V, V = wr.drewN nq := ⟨_, rfl⟩
          have e1 : V.cell? ⟨a, o + y * 2, none⟩ = some (.int .i64 (g : Int)) := by rw [hV]; exact h1
          have e2 : V.cell? ⟨a, o + y * 2 + 1, none⟩ = some (.slice (some ⟨b, 0, none⟩) n n) := by rw [hV]; exact h2
          have hVs : V.heap.size = wr.heap.size := by rw [hV]; rfl
          have hVo : OwnP V w.heap.size Ao co n (x + y) W C := by rw [hV]; exact HO.out.drawn nq
          have hVb : Below w.heap.size w V := by rw [hV]; exact below_drew4 HB.out nq
          have hcv : ∀ i, i < n → V.cell? ⟨b, i, none⟩ = some (.int .i64 (C (x + y) i : Int)) := fun i hi => by rw [hV, HC1.out i, if_neg HP.out]; exact HH.out i hi
          rw [← hV]
          have hvz := hVb.size
          have hvb : b < V.heap.size := by omega
          clear hV h1 h2
          obtain ⟨Ac, cc, wc, r1, ho, hbc⟩ := run_par V w.heap.size Ao co n (x + y) W C hVo b (by omega) (hVo.away hb) hcv (by omega) hVb.size
          rw [← HG.out] at r1
          have R1 := Lib.hid r1; have OWN := Lib.hid ho; have HBC := Lib.hid (hVb.trans hbc)
          clear r1 ho hbc hVo hVb hcv hVs hvb
          go_wp2_with (at_builtin; refine wpList_append_run rfl (.tmp 50) (.tmp 55) 66 rfl (.slice Ao (x + y) co) (.slice (some ⟨V.heap.size, 0, none⟩) 1 1) (.slice Ac (x + y + 1) cc) wc rfl rfl R1.out ?_)
          go_roundw
          case rel =>
            exact ⟨x, y + 1, Ac, cc, hx, by omega, rfl, by go_num, rfl, HS.out, OWN.out, HBC.out⟩
          case measure => simp [intOf]; omega
        · obtain rfl : x = n := by omega
          have d1 : decide ((x : Int) < (x : Int)) = false := by simp
          clear hown hbw hs hc h3 hst hp hg hcc hdone hw hpp hpf hxn
          go_wp2
          go_quiet (fail)
          obtain ⟨V, hV⟩ : ∃ V, V = wr.drewN nq := ⟨_, rfl⟩
          have e1 : V.cell? ⟨a, o + y * 2, none⟩ = some (.int .i64 (g : Int)) := by rw [hV]; exact h1
          have e2 : V.cell? ⟨a, o + y * 2 + 1, none⟩ = some (.slice (some ⟨b, 0, none⟩) x x) := by rw [hV]; exact h2
          have hVs : V.heap.size = wr.heap.size := by rw [hV]; rfl
          have hVo : OwnP V w.heap.size Ao co x (x + y) W C := by rw [hV]; exact HO.out.drawn nq
          have hVb : Below w.heap.size w V := by rw [hV]; exact below_drew4 HB.out nq
          have hcv : ∀ i, i < x → V.cell? ⟨b, i, none⟩ = some (.int .i64 (C (x + y) i : Int)) := fun i hi => by rw [hV, HC1.out i, if_neg HP.out]; exact HH.out i hi
          rw [← hV]
          have hvz := hVb.size
          have hvb : b < V.heap.size := by omega
          clear hV h1 h2
          obtain ⟨Ac, cc, wc, r1, ho, hbc⟩ := run_par V w.heap.size Ao co x (x + y) W C hVo b (by omega) (hVo.away hb) hcv (by omega) hVb.size
          rw [← HG.out] at r1
          have R1 := Lib.hid r1; have OWN := Lib.hid ho; have HBC := Lib.hid (hVb.trans hbc)
          clear r1 ho hbc hVo hVb hcv hVs hvb
          go_wp2_with (at_builtin; refine wpList_append_run rfl (.tmp 50) (.tmp 55) 66 rfl (.slice Ao (x + y) co) (.slice (some ⟨V.heap.size, 0, none⟩) 1 1) (.slice Ac (x + y + 1) cc) wc rfl rfl R1.out ?_)
          go_roundw
          case rel =>
            exact ⟨x, y + 1, Ac, cc, Nat.le_refl _, by omega, rfl, by go_num, rfl, HS.out, OWN.out, HBC.out⟩
          case measure => simp [intOf]; omega
    · obtain rfl : x = n := by omega
      obtain rfl : y = m := by omega
      have HO := Lib.hid hown; have HB := Lib.hid hbw
      clear hown hbw hdone hs hw hc hst
      have d1 : decide ((x : Int) < (x : Int)) = false := by simp
      have d2 : decide ((y : Int) < (y : Int)) = false := by simp
      go_wp2
      go_ret
      exact ⟨Ao, co, rfl, HB.out, HO.out⟩
end Go.Proofs.Ytgppikhfkikknaa
