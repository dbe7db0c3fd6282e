/-
  Layer 10 (runs), over the landed code: a symbol's bits, whether a run may be, what it does, how many are the same.
-/
import Derived.Test.YtgkbnmknlmapdaaRunRst
import Derived.Test.YtgkbnmknlmapdaaRunSam
import Derived.Test.YtgkbnmknlmapdaaLst
namespace Go.Proofs.Ytgkbnmknlmapdaa
open Go.RowKit Go.ChangeShapes Go.WideShapes Go.ChangeAt Go.Joins
set_option maxRecDepth 100000 in
set_option maxHeartbeats 1000000 in
theorem lbits10_any (w : World) (s : Int) : Calls Try.prog 10 #[.int .i64 s] w fun e w' => e = .returned (.tuple #[.int .i64 (bitV s), .int .i64 (bitE s)]) ∧ w = w' := by
  by_cases y0 : s < 0
  · skip
    have e1 : bitV s = 0 := by unfold bitV; rw [if_neg (by omega)]
    have e2 : bitE s = 2 := by unfold bitE; rw [if_neg (by omega)]
    rw [e1, e2]
    have d0 : decide (s < 0) = true := decY0 y0
    clear e1 e2 y0
    go_enter Try.func10, Try.ntmps10
    go_wp2
    go_ret2
    exact ⟨rfl, rfl⟩
  have d0 : decide (s < 0) = false := decN0 y0
  by_cases y1 : 19 ≤ s
  · skip
    have e1 : bitV s = 0 := by unfold bitV; rw [if_neg (by omega)]
    have e2 : bitE s = 2 := by unfold bitE; rw [if_neg (by omega)]
    rw [e1, e2]
    have d1 : decide (19 ≤ s) = true := decY0 y1
    clear e1 e2 y0 y1
    go_enter Try.func10, Try.ntmps10
    go_wp2
    go_ret2
    exact ⟨rfl, rfl⟩
  have d1 : decide (19 ≤ s) = false := decN0 y1
  by_cases y16 : s = 16
  · skip
    have e1 : bitV s = 2 := by unfold bitV bitsR; rw [if_pos (by omega), if_pos y16]; rfl
    have e2 : bitE s = 0 := by unfold bitE; rw [if_pos (by omega)]
    rw [e1, e2]
    have d16 : (s == 16) = true := by simp [y16]
    clear e1 e2 y0 y1 y16
    go_enter Try.func10, Try.ntmps10
    go_wp2
    go_ret2
    exact ⟨rfl, rfl⟩
  have d16 : (s == 16) = false := by simp [y16]
  by_cases y17 : s = 17
  · skip
    have e1 : bitV s = 3 := by unfold bitV bitsR; rw [if_pos (by omega), if_neg y16, if_pos y17]; rfl
    have e2 : bitE s = 0 := by unfold bitE; rw [if_pos (by omega)]
    rw [e1, e2]
    have d17 : (s == 17) = true := by simp [y17]
    clear e1 e2 y0 y1 y16 y17
    go_enter Try.func10, Try.ntmps10
    go_wp2
    go_ret2
    exact ⟨rfl, rfl⟩
  have d17 : (s == 17) = false := by simp [y17]
  by_cases y18 : s = 18
  · skip
    have e1 : bitV s = 7 := by unfold bitV bitsR; rw [if_pos (by omega), if_neg y16, if_neg y17, if_pos y18]; rfl
    have e2 : bitE s = 0 := by unfold bitE; rw [if_pos (by omega)]
    rw [e1, e2]
    have d18 : (s == 18) = true := by simp [y18]
    clear e1 e2 y0 y1 y16 y17 y18
    go_enter Try.func10, Try.ntmps10
    go_wp2
    go_ret2
    exact ⟨rfl, rfl⟩
  have d18 : (s == 18) = false := by simp [y18]
  have e1 : bitV s = 0 := by unfold bitV bitsR; rw [if_pos (by omega), if_neg y16, if_neg y17, if_neg y18]; rfl
  have e2 : bitE s = 0 := by unfold bitE; rw [if_pos (by omega)]
  rw [e1, e2]
  skip
  clear e1 e2 y0 y1 y16 y17 y18
  go_enter Try.func10, Try.ntmps10
  go_wp2
  go_ret2
  exact ⟨rfl, rfl⟩
/-- A run that may be. -/
def mayU (s x : Int) : Prop := ¬ (s < 0 ∨ 18 < s ∨ x < 0 ∨ (2 ^ bitsR s : Nat) ≤ x)
instance (s x : Int) : Decidable (mayU s x) := by unfold mayU; infer_instance
theorem mayU_dec {s x : Int} {k p : Nat} (hs : ¬ (s < 0 ∨ 18 < s)) (eb : bitsR s = k) (hp : 2 ^ k = p) : decide (mayU s x) = decide (0 ≤ x ∧ x < (p : Int)) := by
  apply decide_eq_decide.2
  unfold mayU
  rw [eb, hp]
  constructor <;> (intro q; omega)
theorem below_drewN {B : Nat} {a w : World} (h : Below B a w) (n : Nat) : Below B a (w.drewN n) := ⟨h.os, h.tape, h.output, h.size, h.block⟩
set_option maxRecDepth 100000 in
set_option maxHeartbeats 2000000 in
theorem may10_any (w : World) (s x : Int) : Calls Try.prog 17 #[.agg #[.int .i64 s, .int .i64 x]] w fun e w' => e = .returned (.bool (decide (mayU s x))) ∧ Below w.heap.size w w' := by
  obtain ⟨M, hM⟩ : ∃ M, M = decide (mayU s x) := ⟨_, rfl⟩
  rw [← hM]
  have HM := Lib.hid hM
  clear hM
  have HBI := Lib.hid (fun w => lbits10_any w s)
  have HB := Lib.hid ((Below.refl w.heap.size w).alloc (Nat.le_refl _) (.cells #[.int .i64 s, .int .i64 x] 25))
  by_cases s0 : s < 0 ∨ 18 < s
  · have e1 : bitE s = 2 := by unfold bitE; rw [if_neg (by omega)]
    obtain rfl : M = false := by rw [HM.out]; exact decN0 (fun q => by unfold mayU at q; omega)
    rw [e1] at HBI
    obtain ⟨bv, hbv⟩ : ∃ bv, bv = bitV s := ⟨_, rfl⟩
    rw [← hbv] at HBI
    clear HM e1 hbv s0
    go_enter Try.func17, Try.ntmps17
    go_wp2_with fail
    refine (HBI.out _).mono ?_
    rintro e w2 ⟨rfl, rfl⟩
    go_wp2
    go_quiet (fail)
    go_wp2
    go_ret
    exact ⟨rfl, below_drewN HB.out _⟩
  have e1 : bitE s = 0 := by unfold bitE; rw [if_pos (by omega)]
  have e2 : bitV s = (bitsR s : Nat) := by unfold bitV; rw [if_pos (by omega)]
  rw [e1, e2] at HBI
  clear e1 e2
  by_cases y16 : s = 16
  · skip
    have eb : bitsR s = 2 := by unfold bitsR; rw [if_pos y16]
    rw [eb] at HBI
    have hm : M = decide (0 ≤ x ∧ x < (4 : Int)) := by rw [HM.out]; exact mayU_dec s0 eb rfl
    have HM2 := Lib.hid hm
    clear hm eb s0 HM y16 
    by_cases x0 : x < 0
    · have dx : decide (0 ≤ x) = false := decN0 (by omega)
      obtain rfl : M = false := by rw [HM2.out]; exact decN0 (fun q => absurd q.1 (by omega))
      clear HM2 x0
      go_enter Try.func17, Try.ntmps17
      go_wp2_with fail
      refine (HBI.out _).mono ?_
      rintro e w2 ⟨rfl, rfl⟩
      go_wp2
      go_quiet (fail)
      go_wp2
      go_ret
      exact ⟨rfl, below_drewN HB.out _⟩
    have dx : decide (0 ≤ x) = true := decY0 (by omega)
    obtain ⟨B, hBe⟩ : ∃ B, B = decide (x < 4) := ⟨_, rfl⟩
    have hmb : M = B := by rw [HM2.out, hBe]; exact decide_eq_decide.2 ⟨fun q => q.2, fun q => ⟨by omega, q⟩⟩
    subst hmb
    have dx1 : decide (x < 4) = M := hBe.symm
    clear HM2 x0 hBe
    go_enter Try.func17, Try.ntmps17
    go_wp2_with fail
    refine (HBI.out _).mono ?_
    rintro e w2 ⟨rfl, rfl⟩
    go_wp2
    go_quiet (fail)
    go_wp2
    go_ret
    exact ⟨rfl, below_drewN HB.out _⟩
  by_cases y17 : s = 17
  · skip
    have eb : bitsR s = 3 := by unfold bitsR; rw [if_neg y16, if_pos y17]
    rw [eb] at HBI
    have hm : M = decide (0 ≤ x ∧ x < (8 : Int)) := by rw [HM.out]; exact mayU_dec s0 eb rfl
    have HM2 := Lib.hid hm
    clear hm eb s0 HM y16 y17 
    by_cases x0 : x < 0
    · have dx : decide (0 ≤ x) = false := decN0 (by omega)
      obtain rfl : M = false := by rw [HM2.out]; exact decN0 (fun q => absurd q.1 (by omega))
      clear HM2 x0
      go_enter Try.func17, Try.ntmps17
      go_wp2_with fail
      refine (HBI.out _).mono ?_
      rintro e w2 ⟨rfl, rfl⟩
      go_wp2
      go_quiet (fail)
      go_wp2
      go_ret
      exact ⟨rfl, below_drewN HB.out _⟩
    have dx : decide (0 ≤ x) = true := decY0 (by omega)
    obtain ⟨B, hBe⟩ : ∃ B, B = decide (x < 8) := ⟨_, rfl⟩
    have hmb : M = B := by rw [HM2.out, hBe]; exact decide_eq_decide.2 ⟨fun q => q.2, fun q => ⟨by omega, q⟩⟩
    subst hmb
    have dx1 : decide (x < 8) = M := hBe.symm
    clear HM2 x0 hBe
    go_enter Try.func17, Try.ntmps17
    go_wp2_with fail
    refine (HBI.out _).mono ?_
    rintro e w2 ⟨rfl, rfl⟩
    go_wp2
    go_quiet (fail)
    go_wp2
    go_ret
    exact ⟨rfl, below_drewN HB.out _⟩
  by_cases y18 : s = 18
  · skip
    have eb : bitsR s = 7 := by unfold bitsR; rw [if_neg y16, if_neg y17, if_pos y18]
    rw [eb] at HBI
    have hm : M = decide (0 ≤ x ∧ x < (128 : Int)) := by rw [HM.out]; exact mayU_dec s0 eb rfl
    have HM2 := Lib.hid hm
    clear hm eb s0 HM y16 y17 y18 
    by_cases x0 : x < 0
    · have dx : decide (0 ≤ x) = false := decN0 (by omega)
      obtain rfl : M = false := by rw [HM2.out]; exact decN0 (fun q => absurd q.1 (by omega))
      clear HM2 x0
      go_enter Try.func17, Try.ntmps17
      go_wp2_with fail
      refine (HBI.out _).mono ?_
      rintro e w2 ⟨rfl, rfl⟩
      go_wp2
      go_quiet (fail)
      go_wp2
      go_ret
      exact ⟨rfl, below_drewN HB.out _⟩
    have dx : decide (0 ≤ x) = true := decY0 (by omega)
    obtain ⟨B, hBe⟩ : ∃ B, B = decide (x < 128) := ⟨_, rfl⟩
    have hmb : M = B := by rw [HM2.out, hBe]; exact decide_eq_decide.2 ⟨fun q => q.2, fun q => ⟨by omega, q⟩⟩
    subst hmb
    have dx1 : decide (x < 128) = M := hBe.symm
    clear HM2 x0 hBe
    go_enter Try.func17, Try.ntmps17
    go_wp2_with fail
    refine (HBI.out _).mono ?_
    rintro e w2 ⟨rfl, rfl⟩
    go_wp2
    go_quiet (fail)
    go_wp2
    go_ret
    exact ⟨rfl, below_drewN HB.out _⟩
  have eb : bitsR s = 0 := by unfold bitsR; rw [if_neg y16, if_neg y17, if_neg y18]
  rw [eb] at HBI
  have hm : M = decide (0 ≤ x ∧ x < (1 : Int)) := by rw [HM.out]; exact mayU_dec s0 eb rfl
  have HM2 := Lib.hid hm
  clear hm eb s0 HM y16 y17 y18 
  by_cases x0 : x < 0
  · have dx : decide (0 ≤ x) = false := decN0 (by omega)
    obtain rfl : M = false := by rw [HM2.out]; exact decN0 (fun q => absurd q.1 (by omega))
    clear HM2 x0
    go_enter Try.func17, Try.ntmps17
    go_wp2_with fail
    refine (HBI.out _).mono ?_
    rintro e w2 ⟨rfl, rfl⟩
    go_wp2
    go_quiet (fail)
    go_wp2
    go_ret
    exact ⟨rfl, below_drewN HB.out _⟩
  have dx : decide (0 ≤ x) = true := decY0 (by omega)
  obtain ⟨B, hBe⟩ : ∃ B, B = decide (x < 1) := ⟨_, rfl⟩
  have hmb : M = B := by rw [HM2.out, hBe]; exact decide_eq_decide.2 ⟨fun q => q.2, fun q => ⟨by omega, q⟩⟩
  subst hmb
  have dx1 : decide (x < 1) = M := hBe.symm
  clear HM2 x0 hBe
  go_enter Try.func17, Try.ntmps17
  go_wp2_with fail
  refine (HBI.out _).mono ?_
  rintro e w2 ⟨rfl, rfl⟩
  go_wp2
  go_quiet (fail)
  go_wp2
  go_ret
  exact ⟨rfl, below_drewN HB.out _⟩
end Go.Proofs.Ytgkbnmknlmapdaa
