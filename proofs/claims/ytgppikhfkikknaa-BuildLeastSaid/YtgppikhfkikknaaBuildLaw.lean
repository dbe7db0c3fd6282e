/-
  Layer 4 (build): the laws' own may; what is told may be, and canon.Check says so.
-/
import Derived.Test.YtgppikhfkikknaaBuildCst
import Derived.Test.YtgppikhfkikknaaCanonNum
namespace Go.Proofs.Ytgppikhfkikknaa
open Go.RowKit
def badM (l : List Int) (f : Nat → Nat) (most : Int) (k : Nat) : Bool := decide (∃ j, j < k ∧ (most < (f j : Int) ∨ (f j = 0 ∧ 0 < l.getD j 0)))
def mayB (l : List Int) (n : Nat) (f : Nat → Nat) (most : Int) : Bool := decide (n = l.length ∧ badM l f most n = false ∧ countN 15 f n ≤ 32768)
theorem badM_yes {l : List Int} {f : Nat → Nat} {most : Int} {j k : Nat} (hj : j < k) (h : most < (f j : Int) ∨ (f j = 0 ∧ 0 < l.getD j 0)) : badM l f most k = true := decide_eq_true ⟨j, hj, h⟩
theorem badM_no {l : List Int} {f : Nat → Nat} {most : Int} {k : Nat} (h : ∀ j, j < k → ¬ (most < (f j : Int) ∨ (f j = 0 ∧ 0 < l.getD j 0))) : badM l f most k = false := decide_eq_false fun ⟨j, hj, h2⟩ => h j hj h2
theorem badM_of {l : List Int} {f : Nat → Nat} {most : Int} {k : Nat} (h : badM l f most k = false) : ∀ j, j < k → (f j : Int) ≤ most ∧ (f j = 0 → l.getD j 0 ≤ 0) := fun j hj => by
  have h2 := of_decide_eq_false h
  constructor
  · rcases Int.lt_or_le most (f j : Int) with g | g
    · exact absurd ⟨j, hj, .inl g⟩ h2
    · exact g
  · intro h0
    rcases Int.lt_or_le 0 (l.getD j 0) with g | g
    · exact absurd ⟨j, hj, .inr ⟨h0, g⟩⟩ h2
    · exact g
set_option maxRecDepth 100000 in
theorem countN_le (f : Nat → Nat) : ∀ n, countN 15 f n ≤ n * 32768
  | 0 => Nat.le_refl _
  | n + 1 => by
    have h1 := countN_le f n
    have e : countN 15 f (n + 1) = countN 15 f n + if 0 < f n then 2 ^ (15 - f n) else 0 := rfl
    have h2 : 2 ^ (15 - f n) ≤ 2 ^ 15 := Nat.pow_le_pow_right (by omega) (by omega)
    have h3 : (2 : Nat) ^ 15 = 32768 := rfl
    rw [e]; split <;> omega
theorem countN_scale {f : Nat → Nat} {L : Nat} (hL : L ≤ 15) : ∀ n, (∀ i, i < n → f i ≤ L) → countN 15 f n = countN L f n * 2 ^ (15 - L)
  | 0, _ => by simp [countN, sums]
  | n + 1, h => by
    have ih := countN_scale hL n (fun i hi => h i (by omega))
    have e1 : countN 15 f (n + 1) = countN 15 f n + if 0 < f n then 2 ^ (15 - f n) else 0 := rfl
    have e2 : countN L f (n + 1) = countN L f n + if 0 < f n then 2 ^ (L - f n) else 0 := rfl
    have hn := h n (by omega)
    rw [e1, e2, ih, Nat.add_mul]
    split
    · rw [← Nat.pow_add, show L - f n + (15 - L) = 15 - f n by omega]
    · rw [Nat.zero_mul]
theorem allN_count {f : Nat → Nat} : ∀ n, (∀ i, i < n → f i ≤ 15) → allN f n = countN 15 f n
  | 0, _ => rfl
  | n + 1, h => by
    have ih := allN_count n (fun i hi => h i (by omega))
    have e1 : countN 15 f (n + 1) = countN 15 f n + if 0 < f n then 2 ^ (15 - f n) else 0 := rfl
    have hn := h n (by omega)
    have hp : pt (f n) = 2 ^ (15 - f n) := by rw [pt_mul hn (Nat.le_refl 15), show pt 15 = 1 from rfl, Nat.one_mul]
    simp only [allN]
    rw [ih, e1, hp]
theorem usedN_items {F f : Nat → Nat} : ∀ n, (∀ i, i < n → (0 < f i ↔ 0 < F i)) → usedN f n = nI F n
  | 0, _ => rfl
  | n + 1, h => by
    have ih := usedN_items n (fun i hi => h i (by omega))
    have hn := h n (by omega)
    have e : nI F (n + 1) = nI F n + if 0 < F n then 1 else 0 := rfl
    simp only [usedN]
    rw [ih, e]
    by_cases g : 0 < F n
    · rw [if_pos g, if_pos (hn.2 g)]
    · rw [if_neg g, if_neg (fun x => g (hn.1 x))]
/-- What is told may be. -/
theorem out_may {l : List Int} {most : Int} (h : askE l most = 0) : mayB l l.length (outL l most) most = true ∧ checkE (outL l most) l.length most = 0 ∧ (∀ j, j < l.length → outL l most j = lenB (freqN l) l.length most.toNat j) := by
  obtain ⟨h1, h2, h3, h4, h5⟩ := ask_right h
  obtain ⟨L, rfl⟩ := Int.eq_ofNat_of_zero_le (show 0 ≤ most by omega)
  rw [Int.toNat_natCast] at h5
  have e : outL l (L : Int) = lenB (freqN l) l.length L := by funext j; unfold outL; rw [if_pos h, Int.toNat_natCast]
  rw [e]
  have hle : ∀ i, lenB (freqN l) l.length L i ≤ L := fun i => lenB_le (freqN l) (n := l.length) (L := L) (by omega) i
  have hz : ∀ i, freqN l i = 0 → lenB (freqN l) l.length L i = 0 := fun i hi => by unfold lenB; rw [if_pos hi]
  have hps : ∀ i, i < l.length → (0 < lenB (freqN l) l.length L i ↔ 0 < freqN l i) := fun i hi => by
    constructor
    · intro g
      rcases Nat.eq_zero_or_pos (freqN l i) with h0 | h0
      · rw [hz i h0] at g; omega
      · exact h0
    · intro g; exact (lenB_bd (F := freqN l) (by omega) h5 hi g).1
  have hc := build_count (F := freqN l) (n := l.length) (L := L) (by omega) h5
  have hsc := countN_scale (f := lenB (freqN l) l.length L) (L := L) (by omega) l.length (fun i _ => hle i)
  have hp : (2 : Nat) ^ L * 2 ^ (15 - L) = 32768 := by rw [← Nat.pow_add, show L + (15 - L) = 15 by omega]
  have hp1 : (2 : Nat) ^ (L - 1) * 2 ^ (15 - L) = 16384 := by rw [← Nat.pow_add, show L - 1 + (15 - L) = 14 by omega]
  have hall := allN_count (f := lenB (freqN l) l.length L) l.length (fun i _ => Nat.le_trans (hle i) (by omega))
  have hus := usedN_items (F := freqN l) (f := lenB (freqN l) l.length L) l.length hps
  have hcc : countN 15 (lenB (freqN l) l.length L) l.length = if 2 ≤ nI (freqN l) l.length then 32768 else if nI (freqN l) l.length = 1 then 16384 else 0 := by
    rw [hsc, hc]
    split
    · exact hp
    · split
      · exact hp1
      · exact Nat.zero_mul _
  refine ⟨?_, ?_, fun j _ => by rw [Int.toNat_natCast]⟩
  · refine decide_eq_true ⟨rfl, badM_no fun j hj g => ?_, by rw [hcc]; split <;> (try split) <;> omega⟩
    have h6 := hle j
    have h7 := hps j hj
    have hf : freqN l j = (l.getD j 0).toNat := rfl
    rcases g with g | ⟨g1, g2⟩
    · omega
    · omega
  · unfold checkE
    rw [if_neg (by omega), if_neg (by omega)]
    have hb : bigB (lenB (freqN l) l.length L) l.length (L : Int) = false := decide_eq_false fun ⟨j, _, hl⟩ => by have := hle j; omega
    rw [hb, if_neg (by decide), hall, hus, hcc]
    unfold endE
    by_cases g2 : 2 ≤ nI (freqN l) l.length
    · rw [if_pos g2, if_neg (by omega), if_pos (.inl rfl)]
    · rw [if_neg g2]
      by_cases g1 : nI (freqN l) l.length = 1
      · rw [if_pos g1, if_neg (by omega), if_pos (.inr (.inr ⟨g1, rfl⟩))]
      · rw [if_neg g1, if_neg (by omega), if_pos (.inr (.inl (by omega)))]
/-- No others that may be cost less. -/
theorem out_least {l : List Int} {most : Int} (h : askE l most = 0) {f : Nat → Nat} (hm : mayB l l.length f most = true) : costN (freqN l) (outL l most) l.length ≤ costN (freqN l) f l.length := by
  obtain ⟨h1, h2, h3, h4, h5⟩ := ask_right h
  obtain ⟨L, rfl⟩ := Int.eq_ofNat_of_zero_le (show 0 ≤ most by omega)
  obtain ⟨_, hb, hk⟩ := of_decide_eq_true hm
  have hb := badM_of hb
  have e : outL l (L : Int) = lenB (freqN l) l.length L := by funext j; unfold outL; rw [if_pos h, Int.toNat_natCast]
  rw [e]
  refine build_least (by omega) (fun i hi => ?_) ?_
  · have := hb i hi
    have h4 := h4 i hi
    have hf : freqN l i = (l.getD i 0).toNat := rfl
    omega
  · rw [countN_scale (L := L) (by omega) l.length (fun i hi => by have := (hb i hi).1; omega)] at hk
    have hp : (2 : Nat) ^ L * 2 ^ (15 - L) = 32768 := by rw [← Nat.pow_add, show L + (15 - L) = 15 by omega]
    rw [← hp] at hk
    exact Nat.le_of_mul_le_mul_right hk (Nat.two_pow_pos _)
def shlN (a : Nat) : Nat := 2 ^ (15 - a)
set_option maxRecDepth 100000 in
set_option maxHeartbeats 4000000 in
theorem may_any (w : World) (B : Nat) (A : Option Addr) (c : Nat) (l : List Int) (N : Nat) (hN : N = l.length) (hr : RdI w B A l) (Ax : Option Addr) (n cx : Nat) (f : Nat → Nat) (hx : RdB w B Ax n f) (hl : N ≤ 400) (hb : ∀ j, j < l.length → 0 ≤ l.getD j 0 ∧ l.getD j 0 ≤ 1073741824) (most : Int) (h0 : 1 ≤ most) (h1 : most ≤ 15) :
    Calls Try.prog 13 #[.slice A N c, .slice Ax n cx, .int .i64 most] w fun e w' => e = .returned (.bool (mayB l n f most)) ∧ w = w' := by
  have HR := Lib.hid hr; have HX := Lib.hid hx; have HBD := Lib.hid hb; have HN := Lib.hid hN
  clear hr hx hb hN
  by_cases hne : n = N
  · subst hne
    have hMM : (n != n) = false := by simp
    obtain ⟨R, hR⟩ : ∃ R, R = mayB l n f most := ⟨_, rfl⟩
    rw [← hR]
    have HRR := Lib.hid hR
    clear hR
    go_enter Try.func13, Try.ntmps13
    go_wp2
    go_loop [7, 8] (fun m i => ∃ k : Nat, k ≤ n ∧ i = .int .i64 k ∧ m = .int .i64 (countN 15 f k : Nat) ∧ badM l f most k = false) (fun _ i => n - (intOf i).toNat)
    case atStart => exact ⟨0, Nat.zero_le _, rfl, rfl, badM_no fun j hj => absurd hj (by omega)⟩
    case round =>
      obtain ⟨k, hk, rfl, rfl, hbad⟩ := hrel
      have hcl := countN_le f k
      have HBAD := Lib.hid hbad
      clear hbad
      have hs : countN 15 f (k + 1) = countN 15 f k + if 0 < f k then shlN (f k) else 0 := rfl
      have HS := Lib.hid hs
      clear hs
      by_cases hlt : k < n
      · obtain ⟨b, o, rfl, _, hc⟩ := HR.out.at (k := k) (by rw [← HN.out]; exact hlt)
        obtain ⟨b2, o2, rfl, _, hc2⟩ := HX.out.2 (by omega)
        have c1 := hc k (by rw [← HN.out]; exact hlt)
        have c2 := hc2 k hlt
        have h8 := HX.out.1 k
        have hbk := HBD.out k (by rw [← HN.out]; exact hlt)
        have BY := Lib.hid (fun h => badM_yes (l := l) (f := f) (most := most) (show k < n by omega) h)
        obtain ⟨m, hm⟩ : ∃ m, m = countN 15 f k := ⟨_, rfl⟩
        rw [← hm] at hcl HS ⊢
        have HGM := Lib.hid (fun (g1 : ¬ most < (f k : Int)) (g2 : f k = 0 → ¬ 0 < l.getD k 0) => (badM_no fun j hj => by
          have := badM_of HBAD.out j
          rcases Nat.eq_or_lt_of_le (Nat.le_of_lt_succ hj) with e | e
          · subst e; exact fun h => h.elim g1 fun h => g2 h.1 h.2
          · have := this e; omega : badM l f most (k + 1) = false))
        obtain ⟨x, hx⟩ : ∃ x, x = l.getD k 0 := ⟨_, rfl⟩
        rw [← hx] at c1 hbk BY HGM
        clear hc hc2 hm hx
        by_cases g1 : most < (f k : Int)
        · have hd : decide (most < (f k : Int)) = true := by simpa using g1
          obtain rfl : R = false := HRR.out.trans (decide_eq_false fun h => by have := BY.out (.inl g1); rw [h.2.1] at this; cases this)
          clear BY HRR
          go_wp2
          go_ret
          exact ⟨rfl, rfl⟩
        · have hd : decide (most < (f k : Int)) = false := by simpa using g1
          by_cases g2 : f k = 0
          · have hz : ((f k : Int) == 0) = true := by simpa using g2
            have hz2 : (f k == 0) = true := by simpa using g2
            have hz3 : decide (0 < (f k : Int)) = false := by simp; omega
            have hz4 : decide (0 < f k) = false := by simp; omega
            by_cases g3 : 0 < x
            · have hp : decide (0 < x) = true := by simpa using g3
              obtain rfl : R = false := HRR.out.trans (decide_eq_false fun h => by have := BY.out (.inr ⟨g2, g3⟩); rw [h.2.1] at this; cases this)
              clear BY g2 HRR
              go_wp2
              go_ret
              exact ⟨rfl, rfl⟩
            · have hp : decide (0 < x) = false := by simpa using g3
              have HG := Lib.hid (HGM.out g1 (fun _ => g3))
              have HZ := Lib.hid (HS.out.trans (by rw [if_neg (by omega)]; rfl : _ = m))
              clear BY g2 HS HGM
              go_wp2
              refine ⟨⟨k + 1, hlt, by go_num, by rw [HZ.out], HG.out⟩, by simp [intOf]; omega⟩
          · have hz : ((f k : Int) == 0) = false := by simp; omega
            have hz2 : (f k == 0) = false := by simpa using g2
            have hz3 : decide (0 < (f k : Int)) = true := by simp; omega
            have HG := Lib.hid (HGM.out g1 (fun h => absurd h g2))
            have HZ := Lib.hid (HS.out.trans (by rw [if_pos (by omega)] : _ = m + shlN (f k)))
            have hsh : wrap64 ((2 : Int) ^ (15 - f k)) = (shlN (f k) : Nat) ∧ shlN (f k) ≤ 32768 := by
              have h2 : 2 ^ (15 - f k) ≤ 2 ^ 15 := Nat.pow_le_pow_right (by omega) (by omega)
              have h3 : (2 : Nat) ^ 15 = 32768 := rfl
              have e : (2 : Int) ^ (15 - f k) = ((2 ^ (15 - f k) : Nat) : Int) := by rw [Int.natCast_pow]; rfl
              rw [e]
              unfold shlN
              generalize 2 ^ (15 - f k) = z at h2
              unfold wrap64
              omega
            have HSH := Lib.hid hsh
            clear BY HS HGM hsh
            go_wp2
            refine ⟨⟨k + 1, hlt, by go_num, val_int ?_, HG.out⟩, by simp [intOf]; omega⟩
            rw [HSH.out.1, HZ.out]
            have := HSH.out.2
            unfold wrap64; omega
      · obtain rfl : k = n := by omega
        obtain rfl : R = decide ((countN 15 f k : Int) ≤ 32768) := HRR.out.trans (by unfold mayB; rw [decide_eq_decide]; exact ⟨fun h => by have := h.2.2; omega, fun h => ⟨HN.out, HBAD.out, by omega⟩⟩)
        clear hlt hk HRR
        go_wp2
        go_ret
        exact ⟨rfl, rfl⟩
  · have hMM : (n != N) = true := by simpa using hne
    have hm2 : ((n : Int) != (N : Int)) = true := by simp; omega
    have HE := (show mayB l n f most = false from decide_eq_false fun h => hne (h.1.trans HN.out.symm))
    rw [HE]
    clear hne HE
    go_enter Try.func13, Try.ntmps13
    go_wp2
    go_ret
    exact ⟨rfl, rfl⟩
end Go.Proofs.Ytgppikhfkikknaa
