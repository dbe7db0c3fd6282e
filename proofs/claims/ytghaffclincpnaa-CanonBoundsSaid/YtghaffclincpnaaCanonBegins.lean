/-
  Layer 3 (canon): the statements' own begins.
-/
import Derived.Test.YtghaffclincpnaaCanonAre
namespace Go.Proofs.Ytghaffclincpnaa
open Go.RowKit
set_option maxRecDepth 100000 in
set_option maxHeartbeats 1000000 in
theorem begins_any (w : World) (x lx y ly : Nat) (_hx : x < 4294967296) (hlx : lx < 256) (_hy : y < 4294967296) (hly : ly ≤ 32) :
    Calls Try.prog 16 #[.agg #[.int .u32 (x : Int), .int .u8 (lx : Int)], .agg #[.int .u32 (y : Int), .int .u8 (ly : Int)]] w fun e w' => e = .returned (.bool (beginsB x lx y ly)) ∧ Below w.heap.size w w' := by
  by_cases h0 : 0 < lx
  · by_cases h1 : lx ≤ ly
    · have hb : beginsB x lx y ly = (((y / 2 ^ (ly - lx) : Nat) : Int) == (x : Int)) := by
        unfold beginsB
        rw [Bool.eq_iff_iff, decide_eq_true_iff, beq_iff_eq]
        omega
      have hs : ((ly : Int) - (lx : Int)) = ((ly - lx : Nat) : Int) := by omega
      rw [hb]
      obtain ⟨d, hd⟩ : ∃ d, d = ly - lx := ⟨_, rfl⟩
      rw [← hd] at hs ⊢
      have hd2 : d ≤ 32 := by omega
      clear hd hb
      have d1 : decide ((0 : Int) < (lx : Int)) = true := by simp; omega
      have d2 : decide ((lx : Int) ≤ (ly : Int)) = true := by simp; omega
      go_enter Try.func16, Try.ntmps16
      go_wp2
      go_ret
      refine ⟨ret_bool (by rw [cast_shr]), ((Below.refl _ _).alloc (Nat.le_refl _) _).alloc (by simp) _⟩
    · have hb : beginsB x lx y ly = false := decide_eq_false (by omega)
      rw [hb]
      have d1 : decide ((0 : Int) < (lx : Int)) = true := by simp; omega
      have d2 : decide ((lx : Int) ≤ (ly : Int)) = false := by simp; omega
      clear hb
      go_enter Try.func16, Try.ntmps16
      go_wp2
      go_ret
      exact ⟨rfl, ((Below.refl _ _).alloc (Nat.le_refl _) _).alloc (by simp) _⟩
  · have hb : beginsB x lx y ly = false := decide_eq_false (by omega)
    rw [hb]
    have d1 : decide ((0 : Int) < (lx : Int)) = false := by simp; omega
    clear hb
    go_enter Try.func16, Try.ntmps16
    go_wp2
    go_ret
    exact ⟨rfl, ((Below.refl _ _).alloc (Nat.le_refl _) _).alloc (by simp) _⟩
end Go.Proofs.Ytghaffclincpnaa
