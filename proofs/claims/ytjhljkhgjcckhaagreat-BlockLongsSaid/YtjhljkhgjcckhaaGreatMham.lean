/-
  A stable sort: two parts of a row, each in order, put into one.
-/
import Derived.Test.YtjhljkhgjcckhaaGreatMhaa
import Derived.Test.YtjhljkhgjcckhaaGreatMhal
namespace Go.Proofs.YtjhljkhgjcckhaaGreat
open Go.RowKit
/-- What the sort is told of the frequencies. -/
structure FrqOk (l : List Int) : Prop where
  len : l.length ≤ 400
  pos : ∀ j, j < l.length → 0 ≤ l.getD j 0
theorem FrqOk.cmp {l : List Int} (h : FrqOk l) {x y : Nat} (hx : x < l.length) (hy : y < l.length) : cmpI (l.getD x 0) (l.getD y 0) < 0 ↔ freqN l x < freqN l y := by
  rw [cmpI_neg]
  have h1 := h.pos x hx
  have h2 := h.pos y hy
  unfold freqN
  omega
theorem CmpF.drewN {w : World} {B b : Nat} {l : List Int} (h : CmpF w B b l) (q : Nat) : CmpF (w.drewN q) B b l := h
theorem below_drewS (g : Nat) (w : World) (q : Nat) : Below g w (w.drewN q) := by
  induction q with
  | zero => exact Below.refl g w
  | succ q ih => exact ih.drew
theorem clos_q (w : World) (B b : Nat) (l : List Int) (h : CmpF w B b l) (hl : l.length ≤ 400) (x y : Nat) (hx : x < l.length) (hy : y < l.length) (q : Nat) :
    Calls Tryz.prog 104 #[.int .i64 (x : Int), .int .i64 (y : Int), .pointer (some ⟨B, 0, none⟩)] (w.drewN q) fun e w' => e = .returned (.int .i64 (cmpI (l.getD x 0) (l.getD y 0))) ∧ ∃ m, w' = (w.drewN q).drewN m :=
  clos_any _ B b l (h.drewN q) hl x y hx hy
set_option maxRecDepth 100000 in
set_option maxHeartbeats 4000000 in
theorem inss_any (w : World) (g N c : Nat) (f : Nat → Nat) (hr : RowZ w g N f) (B : Nat) (l : List Int) (hC : CmpF w B g l) (hF : FrqOk l) (hM : ∀ t, t < N → f t < l.length) (hS : St (freqN l) f N) (a b : Nat) (hab : a ≤ b) (hb : b ≤ N) (hN : N ≤ 400) :
    Calls Tryz.prog 117 #[.slice (some ⟨g, 0, none⟩) N c, .int .i64 (a : Int), .int .i64 (b : Int), .func (.func 104) #[] #[.pointer (some ⟨B, 0, none⟩)]] w fun e w' => e = .returned (.tuple #[]) ∧ Below g w w' ∧ ∃ f', RowZ w' g N f' ∧ Same f f' a b ∧ Rs (freqN l) f' a b := by
  have HR := Lib.hid hr; have HC := Lib.hid hC; have HM := Lib.hid hM; have HS := Lib.hid hS; have HF := Lib.hid hF
  clear hr hC hM hS hF
  go_enter Tryz.func117, Tryz.ntmps117
  go_wp2
  go_loopw [8] (fun vi wr => ∃ (i : Nat) (h : Nat → Nat), a + 1 ≤ i ∧ (i ≤ b ∨ i = a + 1) ∧ vi = .int .i64 (i : Int) ∧ Below g w wr ∧ RowZ wr g N h ∧ Hid (Same f h a b ∧ St (freqN l) h N ∧ Rs (freqN l) h a (min i b))) (fun vi _ => N + 1 - (intOf vi).toNat)
  case atStart => exact ⟨a + 1, f, by omega, by omega, val_int (by omega), Below.refl _ _, HR.out, Lib.hid ⟨Same.refl _ _ _, HS.out, Rs.one (by omega)⟩⟩
  case round =>
    obtain ⟨i, h, hai, hib, rfl, hbl, hrow, HI⟩ := hrel
    by_cases hlt : i < b
    · have hlti : (i : Int) < (b : Int) := by omega
      have HB := Lib.hid hbl; have HROW := Lib.hid hrow
      clear hbl hrow
      go_wp2
      go_loopw [9] (fun vj wq => ∃ (j : Nat) (k : Nat → Nat), a ≤ j ∧ j ≤ i ∧ vj = .int .i64 (j : Int) ∧ Below g w wq ∧ RowZ wq g N k ∧ Hid (Same f k a b ∧ St (freqN l) k N ∧ InsI (freqN l) k a i j)) (fun vj _ => (intOf vj).toNat)
      case atStart => exact ⟨i, h, by omega, Nat.le_refl _, rfl, HB.out, HROW.out, Lib.hid ⟨HI.out.1, HI.out.2.1, InsI.start (by have := HI.out.2.2; rwa [show min i b = i by omega] at this)⟩⟩
      case round =>
        obtain ⟨j, k, haj, hji, rfl, hbl, hrow, HK⟩ := hrel
        by_cases hja : a < j
        · have hjai : decide ((a : Int) < (j : Int)) = true := by simp; omega
          have hjai2 : (a : Int) < (j : Int) := by omega
          obtain ⟨p, hp⟩ : ∃ p, p = j - 1 := ⟨_, rfl⟩
          have e1 : (j : Int) - 1 = (p : Int) := by omega
          have hpN : p < N := by omega
          have hjN : j < N := by omega
          have hkM := HK.out.1.lt hb HM.out
          have HCL := Lib.hid (clos_q wr B g l (HC.out.below hbl) HF.out.len (k j) (k p) (hkM j hjN) (hkM p hpN))
          have hcmp := HF.out.cmp (hkM j hjN) (hkM p hpN)
          have c1 := hrow.cell hjN
          have c2 := hrow.cell hpN
          have HB := Lib.hid hbl; have HROW := Lib.hid hrow
          obtain ⟨r, hr⟩ : ∃ r, r = cmpI (l.getD (k j) 0) (l.getD (k p) 0) := ⟨_, rfl⟩
          rw [← hr] at HCL hcmp
          have hsw := hrow.drew.swap j p
          by_cases hneg : r < 0
          · have hd : decide (r < 0) = true := by simp; omega
            have HLT := Lib.hid (hcmp.1 hneg)
            have HP := Lib.hid hp
            clear hbl hrow hr hcmp hkM hp hsw
            obtain ⟨x, hx⟩ : ∃ x, x = k j := ⟨_, rfl⟩
            obtain ⟨y, hy⟩ : ∃ y, y = k p := ⟨_, rfl⟩
            rw [← hx] at c1 HCL
            rw [← hy] at c2 HCL
            have HX := Lib.hid hx; have HY := Lib.hid hy
            clear hx hy
            go_wp2_with fail
            go_quiet ((go_at_call 104; exact Calls.quiet_of (HCL.out _)))
            go_wp2_with fail
            obtain ⟨wq, hwq⟩ : ∃ wq, wq = wr.drewN nq := ⟨_, rfl⟩
            have hrow := HROW.out.drewN nq
            have hbl : Below g w (wr.drewN nq) := (HB.out.trans (Below.refl g wr)).trans (below_drewS g wr nq)
            rw [← hwq] at hrow hbl ⊢
            have c1 := hrow.cell hjN
            have c2 := hrow.cell hpN
            have f1 := hrow.frozen j
            have f2 := hrow.frozen p
            have hsw := hrow.swap j p
            have c3 := hrow.two j p hpN (k p)
            rw [← HX.out] at c1 hsw
            rw [← HY.out] at c2 c3 hsw
            obtain ⟨z, hz⟩ : ∃ z, z = upd k j y p := ⟨_, rfl⟩
            rw [← hz] at c3
            have HB2 := Lib.hid hbl; have HSW := Lib.hid hsw
            clear hrow hbl hsw hz hwq HCL HROW HB
            go_region
            go_wp2
            go_roundw
            case rel =>
              have hst := HK.out.2.1
              have hin := HK.out.2.2
              have hpj : p + 1 = j := by have := HP.out; omega
              have hlt := HLT.out
              rw [← hpj] at hin hlt
              refine ⟨p, sw k j p, by omega, by omega, rfl, ((HB2.out.setCell (p := ⟨g, j, none⟩) (Nat.le_refl _) _).setCell (p := ⟨g, p, none⟩) (Nat.le_refl _) _).drew, HSW.out.drew, Lib.hid ⟨HK.out.1.trans (same_sw ⟨haj, by omega⟩ ⟨by omega, by omega⟩), ?_, ?_⟩⟩
              · rw [← hpj]; exact hst.sw (by omega) hlt
              · rw [← hpj]; exact hin.step (by omega) (by omega) hlt
            case measure => simp [intOf]; omega
          · have hd : decide (r < 0) = false := by simp; omega
            have HNL := Lib.hid (fun q => hneg (hcmp.2 q))
            have HP := Lib.hid hp
            clear hbl hrow hr hcmp hkM hp hsw
            obtain ⟨x, hx⟩ : ∃ x, x = k j := ⟨_, rfl⟩
            obtain ⟨y, hy⟩ : ∃ y, y = k p := ⟨_, rfl⟩
            rw [← hx] at c1 HCL
            rw [← hy] at c2 HCL
            clear hx hy
            go_wp2_with fail
            go_quiet ((go_at_call 104; exact Calls.quiet_of (HCL.out _)))
            go_wp2_with fail
            go_roundw
            case rel =>
              refine ⟨i + 1, k, by omega, by omega, by go_num, HB.out.trans (below_drewS g wr nq), HROW.out.drewN nq, Lib.hid ⟨HK.out.1, HK.out.2.1, ?_⟩⟩
              rw [show min (i + 1) b = i + 1 by omega]
              exact HK.out.2.2.stop HK.out.2.1 haj hji (by omega) (.inr (by have h := HNL.out; rw [HP.out] at h; exact h))
            case measure => simp [intOf]; omega
        · have hjai : decide ((a : Int) < (j : Int)) = false := by simp; omega
          have hjai2 : ¬ (a : Int) < (j : Int) := by omega
          have HB := Lib.hid hbl; have HROW := Lib.hid hrow
          clear hbl hrow
          go_wp2_with fail
          go_quiet (fail)
          go_wp2_with fail
          go_roundw
          case rel =>
            refine ⟨i + 1, k, by omega, by omega, by go_num, HB.out.trans (below_drewS g wr _), HROW.out.drewN _, Lib.hid ⟨HK.out.1, HK.out.2.1, ?_⟩⟩
            rw [show min (i + 1) b = i + 1 by omega]
            exact HK.out.2.2.stop HK.out.2.1 haj hji (by omega) (.inl (by omega))
          case measure => simp [intOf]; omega
    · have hlti : ¬ (i : Int) < (b : Int) := by omega
      have HB := Lib.hid hbl; have HROW := Lib.hid hrow
      clear hbl hrow
      go_wp2
      go_end0
      refine ⟨rfl, HB.out, h, HROW.out, HI.out.1, ?_⟩
      have := HI.out.2.2
      by_cases e : i = b
      · rwa [show min i b = b by omega] at this
      · exact Rs.one (by omega)
end Go.Proofs.YtjhljkhgjcckhaaGreat

namespace Go.Proofs.YtjhljkhgjcckhaaGreat
open Go.RowKit
/-- What putting two parts together does, where the parts have d symbols together at most. -/
def MrgOk (l : List Int) (B g N c d : Nat) : Prop := ∀ (w : World) (f : Nat → Nat) (a m b : Nat), b - a ≤ d → a < m → m < b → b ≤ N → RowZ w g N f → CmpF w B g l → (∀ t, t < N → f t < l.length) → St (freqN l) f N → Rs (freqN l) f a m → Rs (freqN l) f m b →
  Calls Tryz.prog 118 #[.slice (some ⟨g, 0, none⟩) N c, .int .i64 (a : Int), .int .i64 (m : Int), .int .i64 (b : Int), .func (.func 104) #[] #[.pointer (some ⟨B, 0, none⟩)]] w fun e w' => e = .returned (.tuple #[]) ∧ Below g w w' ∧ ∃ f', RowZ w' g N f' ∧ Same f f' a b ∧ Rs (freqN l) f' a b
theorem rot_up (f : Nat → Nat) {a k : Nat} (h : a ≤ k) : sw (rotF f a (a + 1) (k + 1)) k (k + 1) = rotF f a (a + 1) (k + 1 + 1) := by
  funext t
  unfold sw rotF src
  repeat' split
  all_goals first | rfl | (exfalso; omega) | (congr 1; omega)
theorem rot_down (f : Nat → Nat) {k m : Nat} (h : k + 1 ≤ m) : sw (rotF f (k + 1) m (m + 1)) (k + 1) k = rotF f k m (m + 1) := by
  funext t
  unfold sw rotF src
  repeat' split
  all_goals first | rfl | (exfalso; omega) | (congr 1; omega)
set_option maxRecDepth 100000 in
set_option maxHeartbeats 4000000 in
/-- One at the front. -/
theorem mrg_first (l : List Int) (B g N c : Nat) (hF : FrqOk l) (hN : N ≤ 400) (w : World) (f : Nat → Nat) (a b : Nat) (hab : a + 1 < b) (hb : b ≤ N) (hr : RowZ w g N f) (hC : CmpF w B g l) (hM : ∀ t, t < N → f t < l.length) (hS : St (freqN l) f N) (h2 : Rs (freqN l) f (a + 1) b) :
    Calls Tryz.prog 118 #[.slice (some ⟨g, 0, none⟩) N c, .int .i64 (a : Int), .int .i64 ((a + 1 : Nat) : Int), .int .i64 (b : Int), .func (.func 104) #[] #[.pointer (some ⟨B, 0, none⟩)]] w fun e w' => e = .returned (.tuple #[]) ∧ Below g w w' ∧ ∃ f', RowZ w' g N f' ∧ Same f f' a b ∧ Rs (freqN l) f' a b := by
  obtain ⟨m, hm⟩ : ∃ m, m = a + 1 := ⟨_, rfl⟩
  rw [← hm]
  have hone : ((m : Int) - (a : Int) == 1) = true := by simp; omega
  have HR := Lib.hid hr; have HC := Lib.hid hC; have HM := Lib.hid hM; have HS := Lib.hid hS; have HF := Lib.hid hF; have H2 := Lib.hid h2; have HMA := Lib.hid hm
  have hmN : m < b := by omega
  have haN : a < N := by omega
  clear hr hC hM hS hF h2
  clear hm
  go_enter Tryz.func118, Tryz.ntmps118
  go_wp2
  go_loopw [10, 11] (fun vi vj wr => ∃ (i j : Nat), m ≤ i ∧ i ≤ j ∧ j ≤ b ∧ vi = .int .i64 (i : Int) ∧ vj = .int .i64 (j : Int) ∧ Below g w wr ∧ RowZ wr g N f ∧ Hid ((i = m ∨ freqN l (f (i - 1)) < freqN l (f a)) ∧ (j = b ∨ ¬ freqN l (f j) < freqN l (f a)))) (fun vi vj _ => (intOf vj).toNat - (intOf vi).toNat)
  case atStart => exact ⟨m, b, Nat.le_refl _, by omega, Nat.le_refl _, rfl, rfl, Below.refl _ _, HR.out, Lib.hid ⟨.inl rfl, .inl rfl⟩⟩
  case round =>
    obtain ⟨i, j, hmi, hij, hjb, rfl, rfl, hbl, hrow, HI⟩ := hrel
    by_cases hlt : i < j
    · have hlti : (i : Int) < (j : Int) := by omega
      obtain ⟨h, hh⟩ : ∃ h, h = (i + j) / 2 := ⟨_, rfl⟩
      have eh : ((i : Int) + (j : Int)) / 2 = (h : Int) := by omega
      have hih : i ≤ h := by omega
      have hhj : h < j := by omega
      have hhN : h < N := by omega
      have HCL := Lib.hid (clos_q wr B g l (HC.out.below hbl) HF.out.len (f h) (f a) (HM.out h hhN) (HM.out a haN))
      have hcmp := HF.out.cmp (HM.out h hhN) (HM.out a haN)
      have c1 := hrow.cell hhN
      have c2 := hrow.cell haN
      have HB := Lib.hid hbl; have HROW := Lib.hid hrow
      obtain ⟨r, hr⟩ : ∃ r, r = cmpI (l.getD (f h) 0) (l.getD (f a) 0) := ⟨_, rfl⟩
      rw [← hr] at HCL hcmp
      obtain ⟨x, hx⟩ : ∃ x, x = f h := ⟨_, rfl⟩
      obtain ⟨y, hy⟩ : ∃ y, y = f a := ⟨_, rfl⟩
      rw [← hx] at c1 HCL
      rw [← hy] at c2 HCL
      by_cases hneg : r < 0
      · have hd : decide (r < 0) = true := by simp; omega
        have HLT := Lib.hid (hcmp.1 hneg)
        clear hbl hrow hr hcmp hh hx hy
        go_wp2_with fail
        go_quiet ((go_at_call 104; exact Calls.quiet_of (HCL.out _)))
        go_wp2_with fail
        go_roundw
        case rel => exact ⟨h + 1, j, by omega, by omega, hjb, by go_num, rfl, HB.out.trans (below_drewS g wr nq), HROW.out.drewN nq, Lib.hid ⟨.inr (by rw [Nat.add_sub_cancel]; exact HLT.out), HI.out.2⟩⟩
        case measure => simp [intOf]; omega
      · have hd : decide (r < 0) = false := by simp; omega
        have HNL := Lib.hid (fun q => hneg (hcmp.2 q))
        clear hbl hrow hr hcmp hh hx hy
        go_wp2_with fail
        go_quiet ((go_at_call 104; exact Calls.quiet_of (HCL.out _)))
        go_wp2_with fail
        go_roundw
        case rel => exact ⟨i, h, hmi, hih, by omega, rfl, rfl, HB.out.trans (below_drewS g wr nq), HROW.out.drewN nq, Lib.hid ⟨HI.out.1, .inr HNL.out⟩⟩
        case measure => simp [intOf]; omega
    · obtain rfl : i = j := by omega
      have hlti : ¬ (i : Int) < (i : Int) := by omega
      have HB := Lib.hid hbl; have HROW := Lib.hid hrow
      clear hbl hrow
      go_wp2
      go_loopw [13] (fun vk wq => ∃ k : Nat, a ≤ k ∧ k + 1 ≤ i ∧ vk = .int .i64 (k : Int) ∧ Below g w wq ∧ RowZ wq g N (rotF f a (a + 1) (k + 1))) (fun vk _ => i - (intOf vk).toNat)
      case atStart => exact ⟨a, Nat.le_refl _, by have := HMA.out; omega, rfl, HB.out, by rw [rot_none f (by omega) (Nat.le_refl _) (.inr rfl)]; exact HROW.out⟩
      case round =>
        obtain ⟨k, hak, hki, rfl, hbl, hrow⟩ := hrel
        by_cases hlt2 : k + 1 < i
        · have hlti2 : (k : Int) < (i : Int) - 1 := by omega
          obtain ⟨p, hp⟩ : ∃ p, p = k + 1 := ⟨_, rfl⟩
          have e1 : (k : Int) + 1 = (p : Int) := by omega
          have hkN : k < N := by omega
          have hpN : p < N := by omega
          have c1 := hrow.cell hkN
          have c2 := hrow.cell hpN
          have f1 := hrow.frozen k
          have f2 := hrow.frozen p
          have hsw := hrow.swap k p
          obtain ⟨x, hx⟩ : ∃ x, x = rotF f a (a + 1) (k + 1) k := ⟨_, rfl⟩
          obtain ⟨y, hy⟩ : ∃ y, y = rotF f a (a + 1) (k + 1) p := ⟨_, rfl⟩
          have c3 := hrow.two k p hpN y
          obtain ⟨z, hz⟩ : ∃ z, z = upd (rotF f a (a + 1) (k + 1)) k y p := ⟨_, rfl⟩
          rw [← hz] at c3
          rw [← hx] at c1 hsw
          rw [← hy] at c2 hsw
          have HB2 := Lib.hid hbl; have HSW := Lib.hid hsw; have HP := Lib.hid hp
          clear hbl hrow hsw hz hx hy hp
          go_wp2_with fail
          go_region
          go_wp2
          go_roundw
          case rel =>
            have h := HSW.out.drew
            rw [HP.out, rot_up f hak] at h
            exact ⟨k + 1, by omega, by omega, by have := HP.out; go_num, by
              rw [HP.out]; exact ((HB2.out.setCell (p := ⟨g, k, none⟩) (Nat.le_refl _) _).setCell (p := ⟨g, k + 1, none⟩) (Nat.le_refl _) _).drew, by rw [HP.out]; exact h⟩
          case measure => have := HP.out; simp [intOf]; omega
        · have hlti2 : ¬ (k : Int) < (i : Int) - 1 := by omega
          have HB2 := Lib.hid hbl; have HROW2 := Lib.hid hrow
          clear hbl hrow
          go_wp2
          refine bodyPost_ret (results_none rfl _ _ _) rfl ?_
          have hk : k + 1 = i := by omega
          have hm := HMA.out
          have hfin := merge_first HS.out hb H2.out (i := i) (by omega) hjb (by have h := HI.out.1; rw [hm] at h; exact h) HI.out.2
          exact ⟨rfl, HB2.out, _, by have h := HROW2.out; rw [hk] at h; exact h, hfin.2, hfin.1⟩
end Go.Proofs.YtjhljkhgjcckhaaGreat

