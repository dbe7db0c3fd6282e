/-
  Layer 9 (reach): what its functions answer, as numbers; there and back; greater numbers.
-/
import Derived.Test.YtdecacajignkoaaReaNum
namespace Go.Proofs.Ytdecacajignkoaa
def lgI (n : Int) : Nat := atN longT n.toNat 29
def lgE (n : Int) : Int := if 3 ≤ n ∧ n ≤ 258 then 0 else 2
def lgS (n : Int) : Int := if 3 ≤ n ∧ n ≤ 258 then ((257 + lgI n : Nat) : Int) else 0
def lgB (n : Int) : Int := if 3 ≤ n ∧ n ≤ 258 then ((longX (lgI n) : Nat) : Int) else 0
def lgX (n : Int) : Int := if 3 ≤ n ∧ n ≤ 258 then ((n.toNat - longT (lgI n) : Nat) : Int) else 0
def lbE (s : Int) : Int := if 257 ≤ s ∧ s ≤ 285 then 0 else 90
def lbV (s : Int) : Int := if 257 ≤ s ∧ s ≤ 285 then ((longX (s - 257).toNat : Nat) : Int) else 0
def loE (s x : Int) : Int := if 257 ≤ s ∧ s ≤ 285 then (if x < 0 ∨ ((2 ^ longX (s - 257).toNat : Nat) : Int) ≤ x then 2 else if s = 284 ∧ x = 31 then 90 else 0) else 90
def loV (s x : Int) : Int := if loE s x = 0 then ((longT (s - 257).toNat : Nat) : Int) + x else 0
def frI (n : Int) : Nat := atN farT n.toNat 30
def frE (n : Int) : Int := if 1 ≤ n ∧ n ≤ 32768 then 0 else 2
def frS (n : Int) : Int := if 1 ≤ n ∧ n ≤ 32768 then ((frI n : Nat) : Int) else 0
def frB (n : Int) : Int := if 1 ≤ n ∧ n ≤ 32768 then ((farX (frI n) : Nat) : Int) else 0
def frX (n : Int) : Int := if 1 ≤ n ∧ n ≤ 32768 then ((n.toNat - farT (frI n) : Nat) : Int) else 0
def fbE (s : Int) : Int := if 0 ≤ s ∧ s ≤ 29 then 0 else 90
def fbV (s : Int) : Int := if 0 ≤ s ∧ s ≤ 29 then ((farX s.toNat : Nat) : Int) else 0
def foE (s x : Int) : Int := if 0 ≤ s ∧ s ≤ 29 then (if x < 0 ∨ ((2 ^ farX s.toNat : Nat) : Int) ≤ x then 2 else 0) else 90
def foV (s x : Int) : Int := if foE s x = 0 then ((farT s.toNat : Nat) : Int) + x else 0
theorem longX_le (i : Nat) : longX i ≤ 5 := by
  rcases Nat.lt_or_ge i 29 with h | h
  · exact all_lt (P := fun i => longX i ≤ 5) (n := 29) (by decide +kernel) i h
  · unfold longX; rw [List.getD_eq_getElem?_getD, List.getElem?_eq_none (by simpa using h)]; exact Nat.zero_le _
theorem farX_le (i : Nat) : farX i ≤ 13 := by
  rcases Nat.lt_or_ge i 30 with h | h
  · exact all_lt (P := fun i => farX i ≤ 13) (n := 30) (by decide +kernel) i h
  · unfold farX; rw [List.getD_eq_getElem?_getD, List.getElem?_eq_none (by simpa using h)]; exact Nat.zero_le _
theorem lg_ok {n : Int} (h : lgE n = 0) : 3 ≤ n ∧ n ≤ 258 := by
  unfold lgE at h; split at h <;> omega
theorem fr_ok {n : Int} (h : frE n = 0) : 1 ≤ n ∧ n ≤ 32768 := by
  unfold frE at h; split at h <;> omega
theorem lo_ok {s x : Int} (h : loE s x = 0) : 257 ≤ s ∧ s ≤ 285 ∧ 0 ≤ x ∧ x < ((2 ^ longX (s - 257).toNat : Nat) : Int) ∧ ¬ (s = 284 ∧ x = 31) := by
  unfold loE at h
  split at h
  · split at h
    · omega
    · split at h <;> omega
  · omega
theorem fo_ok {s x : Int} (h : foE s x = 0) : 0 ≤ s ∧ s ≤ 29 ∧ 0 ≤ x ∧ x < ((2 ^ farX s.toNat : Nat) : Int) := by
  unfold foE at h
  split at h
  · split at h <;> omega
  · omega
/-- A length's symbol and extra tell it. -/
theorem long_there {n : Int} (h : lgE n = 0) : loE (lgS n) (lgX n) = 0 ∧ loV (lgS n) (lgX n) = n ∧ lbE (lgS n) = 0 ∧ lbV (lgS n) = lgB n ∧ 0 ≤ lgX n ∧ lgX n < ((2 ^ (lgB n).toNat : Nat) : Int) ∧ 0 ≤ lgB n ∧ lgB n ≤ 5 := by
  have hn := lg_ok h
  obtain ⟨m, rfl⟩ := Int.eq_ofNat_of_zero_le (show 0 ≤ n by omega)
  obtain ⟨h1, h2, h3⟩ := longs_rise.at (n := m) (show 3 ≤ m by omega) (by omega)
  have eI : lgI (m : Int) = atN longT m 29 := rfl
  obtain ⟨i, hi⟩ : ∃ i, i = atN longT m 29 := ⟨_, rfl⟩
  rw [← hi] at h1 h2 h3 eI
  have eS : lgS (m : Int) = ((257 + i : Nat) : Int) := by unfold lgS; rw [if_pos hn, eI]
  have eB : lgB (m : Int) = ((longX i : Nat) : Int) := by unfold lgB; rw [if_pos hn, eI]
  have eX : lgX (m : Int) = ((m - longT i : Nat) : Int) := by unfold lgX; rw [if_pos hn, eI]; rfl
  have et : (lgS (m : Int) - 257).toNat = i := by rw [eS]; omega
  have hx31 : ¬ (lgS (m : Int) = 284 ∧ lgX (m : Int) = 31) := by
    rw [eS, eX]
    rintro ⟨a, b⟩
    have h27 : i = 27 := by omega
    subst h27
    have e1 : longT 27 = 227 := rfl
    have hm : m = 258 := by omega
    subst hm
    exact absurd hi (by decide)
  have hE : loE (lgS (m : Int)) (lgX (m : Int)) = 0 := by
    unfold loE
    rw [et, if_pos ⟨by rw [eS]; omega, by rw [eS]; omega⟩, if_neg (by rw [eX]; omega), if_neg hx31]
  have hxl := longX_le i
  refine ⟨hE, ?_, ?_, ?_, by rw [eX]; omega, by rw [eX, eB, Int.toNat_natCast]; omega, by rw [eB]; omega, by rw [eB]; omega⟩
  · unfold loV; rw [if_pos hE, et, eX]; omega
  · unfold lbE; rw [if_pos ⟨by rw [eS]; omega, by rw [eS]; omega⟩]
  · unfold lbV; rw [if_pos ⟨by rw [eS]; omega, by rw [eS]; omega⟩, et, eB]
theorem far_there {n : Int} (h : frE n = 0) : foE (frS n) (frX n) = 0 ∧ foV (frS n) (frX n) = n ∧ fbE (frS n) = 0 ∧ fbV (frS n) = frB n ∧ 0 ≤ frX n ∧ frX n < ((2 ^ (frB n).toNat : Nat) : Int) ∧ 0 ≤ frB n ∧ frB n ≤ 13 := by
  have hn := fr_ok h
  obtain ⟨m, rfl⟩ := Int.eq_ofNat_of_zero_le (show 0 ≤ n by omega)
  obtain ⟨h1, h2, h3⟩ := fars_rise.at (n := m) (show 1 ≤ m by omega) (by omega)
  have eI : frI (m : Int) = atN farT m 30 := rfl
  obtain ⟨i, hi⟩ : ∃ i, i = atN farT m 30 := ⟨_, rfl⟩
  rw [← hi] at h1 h2 h3 eI
  have eS : frS (m : Int) = ((i : Nat) : Int) := by unfold frS; rw [if_pos hn, eI]
  have eB : frB (m : Int) = ((farX i : Nat) : Int) := by unfold frB; rw [if_pos hn, eI]
  have eX : frX (m : Int) = ((m - farT i : Nat) : Int) := by unfold frX; rw [if_pos hn, eI]; rfl
  have et : (frS (m : Int)).toNat = i := by rw [eS]; omega
  have hE : foE (frS (m : Int)) (frX (m : Int)) = 0 := by
    unfold foE
    rw [et, if_pos ⟨by rw [eS]; omega, by rw [eS]; omega⟩, if_neg (by rw [eX]; omega)]
  have hxl := farX_le i
  refine ⟨hE, ?_, ?_, ?_, by rw [eX]; omega, by rw [eX, eB, Int.toNat_natCast]; omega, by rw [eB]; omega, by rw [eB]; omega⟩
  · unfold foV; rw [if_pos hE, et, eX]; omega
  · unfold fbE; rw [if_pos ⟨by rw [eS]; omega, by rw [eS]; omega⟩]
  · unfold fbV; rw [if_pos ⟨by rw [eS]; omega, by rw [eS]; omega⟩, et, eB]
/-- What a symbol and an extra tell is theirs. -/
theorem long_here {s x : Int} (h : loE s x = 0) : lgE (loV s x) = 0 ∧ lgS (loV s x) = s ∧ lgX (loV s x) = x := by
  obtain ⟨h1, h2, h3, h4, h5⟩ := lo_ok h
  obtain ⟨y, rfl⟩ := Int.eq_ofNat_of_zero_le h3
  obtain ⟨i, hi⟩ : ∃ i, i = (s - 257).toNat := ⟨_, rfl⟩
  have es : s = ((257 + i : Nat) : Int) := by omega
  have eV : loV s (y : Int) = ((longT i + y : Nat) : Int) := by unfold loV; rw [if_pos h, ← hi]; omega
  rw [← hi] at h4
  obtain ⟨g1, g2, g3⟩ := long_back (i := i) (x := y) (by omega) (by omega) (by omega)
  rw [eV]
  have hk : 3 ≤ ((longT i + y : Nat) : Int) ∧ ((longT i + y : Nat) : Int) ≤ 258 := by omega
  have eI : lgI ((longT i + y : Nat) : Int) = i := g1
  refine ⟨by unfold lgE; rw [if_pos hk], by unfold lgS; rw [if_pos hk, eI]; exact es.symm, ?_⟩
  unfold lgX
  rw [if_pos hk, eI, Int.toNat_natCast]; omega
theorem far_here {s x : Int} (h : foE s x = 0) : frE (foV s x) = 0 ∧ frS (foV s x) = s ∧ frX (foV s x) = x := by
  obtain ⟨h1, h2, h3, h4⟩ := fo_ok h
  obtain ⟨y, rfl⟩ := Int.eq_ofNat_of_zero_le h3
  obtain ⟨i, rfl⟩ := Int.eq_ofNat_of_zero_le h1
  rw [Int.toNat_natCast] at h4
  have eV : foV (i : Int) (y : Int) = ((farT i + y : Nat) : Int) := by unfold foV; rw [if_pos h, Int.toNat_natCast]; omega
  obtain ⟨g1, g2, g3⟩ := far_back (i := i) (x := y) (by omega) (by omega)
  rw [eV]
  have hk : 1 ≤ ((farT i + y : Nat) : Int) ∧ ((farT i + y : Nat) : Int) ≤ 32768 := by omega
  have eI : frI ((farT i + y : Nat) : Int) = i := g1
  refine ⟨by unfold frE; rw [if_pos hk], by unfold frS; rw [if_pos hk, eI], ?_⟩
  unfold frX
  rw [if_pos hk, eI, Int.toNat_natCast]; omega
/-- Greater lengths. -/
theorem long_more {n m : Int} (hn : lgE n = 0) (hm : lgE m = 0) (h : n < m) : lgS n ≤ lgS m ∧ (m < 258 → lgB n ≤ lgB m) ∧ (lgS n = lgS m → lgX n < lgX m) := by
  have h1 := lg_ok hn
  have h2 := lg_ok hm
  obtain ⟨a, rfl⟩ := Int.eq_ofNat_of_zero_le (show 0 ≤ n by omega)
  obtain ⟨b, rfl⟩ := Int.eq_ofNat_of_zero_le (show 0 ≤ m by omega)
  have hr := longs_rise.rise (n := a) (m := b) (show 3 ≤ a by omega) (by omega)
  have ha := (longs_rise.at (n := a) (show 3 ≤ a by omega) (by omega)).2.1
  have e1 : lgI (a : Int) = atN longT a 29 := rfl
  have e2 : lgI (b : Int) = atN longT b 29 := rfl
  unfold lgS lgB lgX
  simp only [if_pos h1, if_pos h2, e1, e2]
  refine ⟨by omega, fun hl => ?_, fun he => ?_⟩
  · have := long_bits hr (long_last (n := b) (by omega) (by omega))
    omega
  · have he2 : atN longT a 29 = atN longT b 29 := by omega
    rw [← he2]
    have e3 : ((a : Int)).toNat = a := rfl
    have e4 : ((b : Int)).toNat = b := rfl
    rw [e3, e4]
    omega
theorem far_more {n m : Int} (hn : frE n = 0) (hm : frE m = 0) (h : n < m) : frS n ≤ frS m ∧ frB n ≤ frB m ∧ (frS n = frS m → frX n < frX m) := by
  have h1 := fr_ok hn
  have h2 := fr_ok hm
  obtain ⟨a, rfl⟩ := Int.eq_ofNat_of_zero_le (show 0 ≤ n by omega)
  obtain ⟨b, rfl⟩ := Int.eq_ofNat_of_zero_le (show 0 ≤ m by omega)
  have hr := fars_rise.rise (n := a) (m := b) (show 1 ≤ a by omega) (by omega)
  have ha := (fars_rise.at (n := a) (show 1 ≤ a by omega) (by omega)).2.1
  have hb := (fars_rise.at (n := b) (show 1 ≤ b by omega) (by omega)).1
  have e1 : frI (a : Int) = atN farT a 30 := rfl
  have e2 : frI (b : Int) = atN farT b 30 := rfl
  unfold frS frB frX
  simp only [if_pos h1, if_pos h2, e1, e2]
  refine ⟨by omega, ?_, fun he => ?_⟩
  · have := far_bits hr hb
    omega
  · have he2 : atN farT a 30 = atN farT b 30 := by omega
    rw [← he2]
    have e3 : ((a : Int)).toNat = a := rfl
    have e4 : ((b : Int)).toNat = b := rfl
    rw [e3, e4]
    omega
end Go.Proofs.Ytdecacajignkoaa
