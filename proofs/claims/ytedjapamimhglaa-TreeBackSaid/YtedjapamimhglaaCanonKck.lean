/-
  Layer 3 (canon): what canon.Check answers, for every lengths and limit.
-/
import Derived.Test.YtedjapamimhglaaCanonChk
namespace Go.Proofs.Ytedjapamimhglaa
open Go.RowKit
theorem check_any (w : World) (A : Option Addr) (n c : Nat) (f : Nat → Nat) (most : Int) (hr : RdB w w.heap.size A n f) (hn : n ≤ 1000000) :
    Calls Try.prog 26 #[.slice A n c, .int .i64 most] w fun e w' => e = .returned (.int .i64 (checkE f n most)) ∧ Below w.heap.size w w' := by
  unfold checkE
  by_cases h1 : most < 1 ∨ 15 < most
  · rw [if_pos h1]; exact (kcheck_arg w A n c most h1).mono fun _ _ ⟨he, hw⟩ => ⟨he, hw ▸ Below.refl _ _⟩
  · rw [if_neg h1]
    by_cases h2 : 320 < n
    · rw [if_pos h2]; exact (kcheck_many w A n c most (by omega) (by omega) h2).mono fun _ _ ⟨he, hw⟩ => ⟨he, hw ▸ Below.refl _ _⟩
    · rw [if_neg h2]; exact kcheck_rest w A n c f most hr (by omega) (by omega) (by omega)
end Go.Proofs.Ytedjapamimhglaa
