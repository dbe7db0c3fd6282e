/-
  Layer 5 (tree), numbers alone: what is written by a code is read.
-/
import Derived.Test.YtedjapamimhglaaTreeRdx
import Derived.Test.YtedjapamimhglaaBitBack
import Derived.Test.YtedjapamimhglaaBitTurned
namespace Go.Proofs.Ytedjapamimhglaa
/-- The bits that were put, read the first the highest. -/
theorem bv_put {G : Nat → Nat} {K code m : Nat} (hb : ∀ j, j < m → bitAt G (K + j) = turnN code m / 2 ^ j % 2) (hc : code < 2 ^ m) : ∀ k, k ≤ m → bvN G K k = code / 2 ^ (m - k)
  | 0, _ => by
    show 0 = _
    rw [Nat.sub_zero, Nat.div_eq_of_lt hc]
  | k + 1, h => by
    have ih := bv_put hb hc k (by omega)
    have h1 := turnN_mirror code m (m - 1 - k) (by omega)
    rw [show m - 1 - (m - 1 - k) = k by omega] at h1
    simp only [bvN]
    rw [ih, hb k (by omega), h1, show m - k = (m - (k + 1)) + 1 by omega, show m - 1 - k = m - (k + 1) by omega, Nat.pow_succ, ← Nat.div_div_eq_div_mul]
    omega
/-- A code that stands there is read as its symbol. -/
theorem back_read {f : Nat → Nat} {n : Nat} {most : Int} (h : checkE f n most = 0) {i : Nat} (hi : i < n) (h0 : 0 < f i) {G : Nat → Nat} {L K : Nat} (hb : ∀ j, j < f i → bitAt G (K + j) = turnN (codeB f n i) (f i) / 2 ^ j % 2) (hL : K + f i ≤ 8 * L) :
    readR f n G L K 17 0 = (i, K + f i, 0) := by
  obtain ⟨_, hm15, hn, hbd, ha, _⟩ := check_ok h
  have h15 : ∀ j, j < n → f j ≤ 15 := fun j hj => by have := hbd j hj; omega
  have hc := fits_code hi h15 ha
  have hbv := bv_put hb hc
  have hci : codeB f n i = bvN G K (f i) := by rw [hbv (f i) (Nat.le_refl _), Nat.sub_self]; simp
  have hok : (readR f n G L K 17 0).2.2 = 0 := read_ok (l := L) hi (h15 i hi) h0 hci hL (f i) 0 (by omega)
  obtain ⟨k, e1, e2, e3⟩ := read_found 17 0 hok
  obtain ⟨c0, c1, c2⟩ := of_decide_eq_true e3
  have hj : (readR f n G L K 17 0).1 = i := by
    rcases Nat.decEq (readR f n G L K 17 0).1 i with hne | he
    · exfalso
      generalize (readR f n G L K 17 0).1 = j at hne e2 c1 c2
      have hj15 := h15 j e2
      rcases Nat.le_total k (f i) with hle | hle
      · have hp := bv_prefix G K k (f i - k)
        rw [show k + (f i - k) = f i by omega, ← hci] at hp
        have hbt : beginsB (codeB f n j) (f j) (codeB f n i) (f i) = true := decide_eq_true ⟨by omega, by omega, by rw [c1, hp, c2]⟩
        rw [begins_apart e2 hi h15 hne] at hbt
        cases hbt
      · have hp := bv_prefix G K (f i) (k - f i)
        rw [show f i + (k - f i) = k by omega, ← c2, ← hci] at hp
        have hbt : beginsB (codeB f n i) (f i) (codeB f n j) (f j) = true := decide_eq_true ⟨h0, by omega, by rw [c1]; exact hp⟩
        rw [begins_apart hi e2 h15 (fun e => hne e.symm)] at hbt
        cases hbt
    · exact he
  have hk : k = f i := by rw [← c1, hj]
  rcases hP : readR f n G L K 17 0 with ⟨p1, p2, p3⟩
  rw [hP] at hok e1 hj
  simp only at hok e1 hj
  rw [hok, e1, hj, hk]
end Go.Proofs.Ytedjapamimhglaa
