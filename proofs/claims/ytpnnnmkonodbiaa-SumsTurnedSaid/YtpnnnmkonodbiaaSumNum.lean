/-
  Layer 2 (sums), numbers alone: the CRC's step, the table's numbers, the CRC and the Adler sum of bytes, as plain functions on numbers, and what follows of them.
-/
import Derived.Test.YtpnnnmkonodbiaaBase
namespace Go.Proofs.Ytpnnnmkonodbiaa
/-! ### the table's steps -/
def stepN (x : Nat) : Nat := if x % 2 = 1 then (x / 2) ^^^ 3988292384 else x / 2
def stepsN (x : Nat) : Nat → Nat
  | 0 => x
  | k + 1 => stepN (stepsN x k)
def rowN (i : Nat) : Nat := stepsN i 8
theorem xor_lt {a b n : Nat} (ha : a < 2 ^ n) (hb : b < 2 ^ n) : a ^^^ b < 2 ^ n := Nat.xor_lt_two_pow ha hb
theorem xor_lt32 {a b : Nat} (ha : a < 4294967296) (hb : b < 4294967296) : a ^^^ b < 4294967296 := xor_lt (n := 32) ha hb
theorem xor_lt8 {a b : Nat} (ha : a < 256) (hb : b < 256) : a ^^^ b < 256 := xor_lt (n := 8) ha hb
theorem stepN_lt {x : Nat} (h : x < 4294967296) : stepN x < 4294967296 := by
  unfold stepN; split
  · exact xor_lt32 (by omega) (by omega)
  · omega
theorem stepsN_lt {x : Nat} (h : x < 4294967296) : ∀ k, stepsN x k < 4294967296
  | 0 => h
  | k + 1 => stepN_lt (stepsN_lt h k)
theorem xor_half (x y : Nat) : (x ^^^ y) / 2 = x / 2 ^^^ y / 2 := by
  apply Nat.eq_of_testBit_eq; intro i
  simp [Nat.testBit_xor, Nat.testBit_div_two]
theorem xor_odd (x y : Nat) : (x ^^^ y) % 2 = (x + y) % 2 := by
  have := Nat.xor_mod_two_pow (a := x) (b := y) (n := 1)
  simp only [Nat.pow_one] at this
  rw [this]
  rcases Nat.mod_two_eq_zero_or_one x with h | h <;> rcases Nat.mod_two_eq_zero_or_one y with g | g <;> rw [h, g] <;> simp <;> omega
theorem stepN_xor (x y : Nat) : stepN (x ^^^ y) = stepN x ^^^ stepN y := by
  unfold stepN
  rw [xor_half, xor_odd]
  rcases Nat.mod_two_eq_zero_or_one x with h | h <;> rcases Nat.mod_two_eq_zero_or_one y with g | g
  · rw [if_neg (by omega), if_neg (by omega), if_neg (by omega)]
  · rw [if_pos (by omega), if_neg (by omega), if_pos (by omega), Nat.xor_assoc]
  · rw [if_pos (by omega), if_pos (by omega), if_neg (by omega), Nat.xor_assoc, Nat.xor_assoc, Nat.xor_comm (y / 2)]
  · rw [if_neg (by omega), if_pos (by omega), if_pos (by omega)]
    rw [Nat.xor_assoc, Nat.xor_comm (y / 2), ← Nat.xor_assoc 3988292384, Nat.xor_self, Nat.zero_xor]
theorem stepsN_xor (x y : Nat) : ∀ k, stepsN (x ^^^ y) k = stepsN x k ^^^ stepsN y k
  | 0 => rfl
  | k + 1 => by simp only [stepsN]; rw [stepsN_xor x y k, stepN_xor]
theorem rowN_xor (x y : Nat) : rowN (x ^^^ y) = rowN x ^^^ rowN y := stepsN_xor x y 8
theorem rowN_lt {x : Nat} (h : x < 4294967296) : rowN x < 4294967296 := stepsN_lt h 8
theorem stepN_even (y : Nat) : stepN (2 * y) = y := by unfold stepN; rw [if_neg (by omega)]; omega
theorem stepN_zero : stepN 0 = 0 := rfl
theorem stepsN_zero : ∀ k, stepsN 0 k = 0
  | 0 => rfl
  | k + 1 => by simp only [stepsN]; rw [stepsN_zero k]; rfl
theorem steps_byte (y : Nat) : stepsN (256 * y) 8 = y := by
  simp only [stepsN]
  rw [show 256 * y = 2 * (2 * (2 * (2 * (2 * (2 * (2 * (2 * y))))))) by omega]
  simp only [stepN_even]
theorem stepN_none {z : Nat} (h : z < 4294967296) (hz : stepN z = 0) : z = 0 := by
  unfold stepN at hz
  split at hz
  · have : z / 2 = 3988292384 := by
      have h2 : z / 2 ^^^ 3988292384 ^^^ 3988292384 = 0 ^^^ 3988292384 := by rw [hz]
      rw [Nat.xor_assoc, Nat.xor_self, Nat.xor_zero, Nat.zero_xor] at h2
      exact h2
    omega
  · omega
theorem stepsN_none {z : Nat} (h : z < 4294967296) : ∀ k, stepsN z k = 0 → z = 0
  | 0, hz => hz
  | k + 1, hz => stepsN_none h k (stepN_none (stepsN_lt h k) hz)
theorem xor_none {x y : Nat} (h : x ^^^ y = 0) : x = y := by
  have h2 : x ^^^ y ^^^ y = 0 ^^^ y := by rw [h]
  rw [Nat.xor_assoc, Nat.xor_self, Nat.xor_zero, Nat.zero_xor] at h2
  exact h2
theorem stepsN_inj {x y : Nat} (hx : x < 4294967296) (hy : y < 4294967296) (k : Nat) (h : stepsN x k = stepsN y k) : x = y := by
  apply xor_none
  apply stepsN_none (xor_lt32 hx hy) k
  rw [stepsN_xor, h, Nat.xor_self]
/-! ### the CRC -/
def crcStep (g : Nat → Nat) (x b : Nat) : Nat := (x / 256) ^^^ g ((x % 256) ^^^ b)
def crcN (g f : Nat → Nat) (x : Nat) : Nat → Nat
  | 0 => x
  | k + 1 => crcStep g (crcN g f x k) (f k)
def crcV (g : Nat → Nat) (s : Nat) (f : Nat → Nat) (l : Nat) : Nat := 4294967295 - crcN g f (4294967295 - s) l
theorem crcStep_lt {g : Nat → Nat} {x b : Nat} (hg : ∀ i, i < 256 → g i < 4294967296) (hx : x < 4294967296) (hb : b < 256) : crcStep g x b < 4294967296 := xor_lt32 (by omega) (hg _ (xor_lt8 (Nat.mod_lt _ (by omega)) hb))
theorem crcN_lt {g f : Nat → Nat} {x : Nat} (hg : ∀ i, i < 256 → g i < 4294967296) (hf : ∀ j, f j < 256) (hx : x < 4294967296) : ∀ k, crcN g f x k < 4294967296
  | 0 => hx
  | k + 1 => crcStep_lt hg (crcN_lt hg hf hx k) (hf k)
theorem crcV_lt (g : Nat → Nat) (s : Nat) (f : Nat → Nat) (l : Nat) : crcV g s f l < 4294967296 := by unfold crcV; omega
theorem crcN_same {G f f' : Nat → Nat} {x : Nat} : ∀ {n}, (∀ j, j < n → f j = f' j) → crcN G f x n = crcN G f' x n
  | 0, _ => rfl
  | n + 1, h => by simp only [crcN]; rw [crcN_same (n := n) (fun j hj => h j (by omega)), h n (by omega)]
theorem crcN_cat (G f g : Nat → Nat) (x n : Nat) : ∀ m, crcN G (cat f n g) x (n + m) = crcN G g (crcN G f x n) m
  | 0 => crcN_same fun j hj => by unfold cat; rw [if_pos (by omega)]
  | m + 1 => by
    rw [Nat.add_succ]
    simp only [crcN]
    rw [crcN_cat G f g x n m]
    unfold cat
    rw [if_neg (by omega), Nat.add_sub_cancel_left]
theorem crcV_cat (G f g : Nat → Nat) (s n m : Nat) (hG : ∀ i, i < 256 → G i < 4294967296) (hf : ∀ j, f j < 256) : crcV G s (cat f n g) (n + m) = crcV G (crcV G s f n) g m := by
  have h := crcN_lt (g := G) (f := f) (x := 4294967295 - s) hG hf (by omega) n
  unfold crcV
  rw [crcN_cat, show 4294967295 - (4294967295 - crcN G f (4294967295 - s) n) = crcN G f (4294967295 - s) n by omega]
/-! ### bit by bit -/
theorem split_byte (x : Nat) : x = 256 * (x / 256) ^^^ x % 256 := by
  apply Nat.eq_of_testBit_eq; intro i
  have h1 := Nat.testBit_two_pow_mul (a := x / 256) (i := 8) (j := i)
  have h2 := Nat.testBit_mod_two_pow x 8 i
  have h3 := Nat.testBit_div_two_pow (i := i - 8) (n := 8) x
  simp only [show (2 : Nat) ^ 8 = 256 from rfl] at h1 h2 h3
  rw [Nat.testBit_xor, h1, h2]
  by_cases h : i < 8
  · have h8 : ¬ 8 ≤ i := by omega
    simp [h, h8]
  · have h8 : 8 ≤ i := by omega
    have e : i - 8 + 8 = i := by omega
    rw [h3, e]
    simp [h, h8]
theorem byte_step (x b : Nat) : crcStep rowN x b = stepsN (x ^^^ b) 8 := by
  unfold crcStep
  conv => rhs; rw [split_byte x]
  rw [Nat.xor_assoc, stepsN_xor, steps_byte]
  rfl
def ofN (f : Nat → Nat) : Nat → Nat
  | 0 => 4294967295
  | k + 1 => stepsN (ofN f k ^^^ f k) 8
theorem ofN_eq (f : Nat → Nat) : ∀ k, ofN f k = crcN rowN f 4294967295 k
  | 0 => rfl
  | k + 1 => by simp only [ofN, crcN]; rw [byte_step, ofN_eq f k]
theorem ofN_lt (f : Nat → Nat) (hf : ∀ j, f j < 256) (k : Nat) : ofN f k < 4294967296 := by
  induction k with
  | zero => simp [ofN]
  | succ k ih => exact stepsN_lt (xor_lt32 ih (by have := hf k; omega)) 8
theorem crcV_of (f : Nat → Nat) (l : Nat) : crcV rowN 0 f l = 4294967295 - ofN f l := by unfold crcV; rw [ofN_eq]
/-! ### bytes that differ -/
theorem row_lt : ∀ i, i < 256 → rowN i < 4294967296 := fun _ h => rowN_lt (by omega)
theorem crcR_lt {f : Nat → Nat} (hf : ∀ j, f j < 256) {x : Nat} (hx : x < 4294967296) (k : Nat) : crcN rowN f x k < 4294967296 := crcN_lt row_lt hf hx k
theorem xor_same {a b c : Nat} (h : a ^^^ c = b ^^^ c) : a = b := by
  have h3 : a ^^^ c ^^^ c = b ^^^ c ^^^ c := by rw [h]
  rw [Nat.xor_assoc, Nat.xor_self, Nat.xor_zero, Nat.xor_assoc, Nat.xor_self, Nat.xor_zero] at h3
  exact h3
/-- Unlike states stay unlike behind the same bytes. -/
theorem crcR_inj {f f' : Nat → Nat} (hf : ∀ j, f j < 256) (hf' : ∀ j, f' j < 256) {x y : Nat} (hx : x < 4294967296) (hy : y < 4294967296) (n : Nat) : ∀ k, (∀ j, n ≤ j → f j = f' j) →
    crcN rowN f x (n + k) = crcN rowN f' y (n + k) → crcN rowN f x n = crcN rowN f' y n
  | 0, _, h => h
  | k + 1, he, h => by
    rw [Nat.add_succ] at h
    simp only [crcN, byte_step] at h
    have h1 := stepsN_inj (xor_lt32 (crcR_lt hf hx (n + k)) (by have := hf (n + k); omega)) (xor_lt32 (crcR_lt hf' hy (n + k)) (by have := hf' (n + k); omega)) 8 h
    rw [he (n + k) (by omega)] at h1
    exact crcR_inj hf hf' hx hy n k he (xor_same h1)
theorem steps_add (x a : Nat) : ∀ b, stepsN x (a + b) = stepsN (stepsN x a) b
  | 0 => rfl
  | b + 1 => by rw [Nat.add_succ]; simp only [stepsN]; rw [steps_add x a b]
theorem steps_up (z b : Nat) : stepsN z 8 ^^^ b = stepsN (z ^^^ 256 * b) 8 := by rw [stepsN_xor, steps_byte]
/-- Four bytes at once. -/
def wordN (a b c d : Nat) : Nat := a ^^^ 256 * (b ^^^ 256 * (c ^^^ 256 * d))
theorem xor_mul (x y : Nat) : 256 * (x ^^^ y) = 256 * x ^^^ 256 * y := by
  apply Nat.eq_of_testBit_eq; intro i
  have h (v : Nat) := Nat.testBit_two_pow_mul (a := v) (i := 8) (j := i)
  simp only [show (2 : Nat) ^ 8 = 256 from rfl] at h
  rw [Nat.testBit_xor, h, h, h, Nat.testBit_xor]
  by_cases g : i ≥ 8 <;> simp [g]
theorem four_bytes (x a b c d : Nat) : stepsN (stepsN (stepsN (stepsN (x ^^^ a) 8 ^^^ b) 8 ^^^ c) 8 ^^^ d) 8 = stepsN (x ^^^ wordN a b c d) 32 := by
  have e2 : ∀ z c, stepsN (stepsN z 8) 8 ^^^ c = stepsN (stepsN (z ^^^ 256 * (256 * c)) 8) 8 := fun z c => by rw [steps_up, steps_up]
  have e3 : ∀ z d, stepsN (stepsN (stepsN z 8) 8) 8 ^^^ d = stepsN (stepsN (stepsN (z ^^^ 256 * (256 * (256 * d))) 8) 8) 8 := fun z d => by rw [steps_up, e2]
  rw [steps_up _ b, e2, e3, ← steps_add, ← steps_add, ← steps_add]
  unfold wordN
  simp only [xor_mul, Nat.xor_assoc]
theorem low_add {a : Nat} (ha : a < 256) (m : Nat) : a ^^^ 256 * m = 256 * m + a := by
  apply Nat.eq_of_testBit_eq; intro i
  have h1 := Nat.testBit_two_pow_mul (a := m) (i := 8) (j := i)
  have h2 := Nat.testBit_two_pow_mul_add m (b := a) (i := 8) ha i
  simp only [show (2 : Nat) ^ 8 = 256 from rfl] at h1 h2
  rw [Nat.testBit_xor, h1, h2]
  by_cases h : i < 8
  · have : ¬ 8 ≤ i := by omega
    simp [h, this]
  · have h8 : 8 ≤ i := by omega
    have h0 : a.testBit i = false := Nat.testBit_lt_two_pow (Nat.lt_of_lt_of_le (show a < 2 ^ 8 from ha) (Nat.pow_le_pow_right (by omega) h8))
    simp [h, h8, h0]
theorem wordN_add {a b c d : Nat} (ha : a < 256) (hb : b < 256) (hc : c < 256) (_hd : d < 256) : wordN a b c d = 256 * (256 * (256 * d + c) + b) + a := by
  unfold wordN
  rw [low_add hc, low_add hb, low_add ha]
/-- A text whose bytes are turned by four bytes, from a place on. -/
def turned (f p : Nat → Nat) (n m j : Nat) : Nat := if n ≤ j ∧ j < n + m then f j ^^^ p (j - n) else f j
theorem turned_lt {f p : Nat → Nat} (hf : ∀ j, f j < 256) (hp : ∀ j, p j < 256) (n m j : Nat) : turned f p n m j < 256 := by
  unfold turned; split
  · exact xor_lt8 (hf _) (hp _)
  · exact hf _
theorem crc_four (f : Nat → Nat) (x n : Nat) : crcN rowN f x (n + 4) = stepsN (crcN rowN f x n ^^^ wordN (f n) (f (n + 1)) (f (n + 2)) (f (n + 3))) 32 := by
  rw [← four_bytes]
  simp only [crcN, byte_step]
theorem word_lt {a b c d : Nat} (ha : a < 256) (hb : b < 256) (hc : c < 256) (hd : d < 256) : wordN a b c d < 4294967296 := by
  rw [wordN_add ha hb hc hd]; omega
theorem xor_back {a p : Nat} (h : a ^^^ p = a) : p = 0 := by
  have h2 : p ^^^ a = 0 ^^^ a := by rw [Nat.xor_comm p a, h, Nat.zero_xor]
  exact xor_same h2
theorem turned_crc {f p : Nat → Nat} (hf : ∀ j, f j < 256) (hp : ∀ j, p j < 256) (s n l : Nat) (h : n + 4 ≤ l) :
    crcV rowN s (turned f p n 4) l = crcV rowN s f l ↔ p 0 = 0 ∧ p 1 = 0 ∧ p 2 = 0 ∧ p 3 = 0 := by
  have hx : 4294967295 - s < 4294967296 := by omega
  have ht := turned_lt hf hp n 4
  have h0 : ∀ j, j < n → turned f p n 4 j = f j := fun j hj => by unfold turned; rw [if_neg (by omega)]
  have h4 : ∀ j, n + 4 ≤ j → turned f p n 4 j = f j := fun j hj => by unfold turned; rw [if_neg (by omega)]
  have hi : ∀ i, i < 4 → turned f p n 4 (n + i) = f (n + i) ^^^ p i := fun i hi => by
    unfold turned; rw [if_pos (by omega), Nat.add_sub_cancel_left]
  constructor
  · intro he
    have hl1 := crcR_lt ht hx l
    have hl2 := crcR_lt hf hx l
    have he2 : crcN rowN (turned f p n 4) (4294967295 - s) l = crcN rowN f (4294967295 - s) l := by unfold crcV at he; omega
    obtain ⟨k, rfl⟩ : ∃ k, l = n + 4 + k := ⟨l - (n + 4), by omega⟩
    have h5 := crcR_inj ht hf hx hx (n + 4) k h4 he2
    rw [crc_four, crc_four, crcN_same h0] at h5
    have i0 := hi 0 (by omega); have i1 := hi 1 (by omega); have i2 := hi 2 (by omega); have i3 := hi 3 (by omega)
    rw [Nat.add_zero] at i0
    have b0 := ht n; have b1 := ht (n + 1); have b2 := ht (n + 2); have b3 := ht (n + 3)
    have hn := crcR_lt hf hx n
    have h6 := stepsN_inj (xor_lt32 hn (word_lt b0 b1 b2 b3)) (xor_lt32 hn (word_lt (hf _) (hf _) (hf _) (hf _))) 32 h5
    rw [Nat.xor_comm, Nat.xor_comm (crcN rowN f (4294967295 - s) n)] at h6
    have h7 := xor_same h6
    rw [wordN_add b0 b1 b2 b3, wordN_add (hf _) (hf _) (hf _) (hf _)] at h7
    have c0 := hf n; have c1 := hf (n + 1); have c2 := hf (n + 2); have c3 := hf (n + 3)
    refine ⟨xor_back (i0.symm.trans ?_), xor_back (i1.symm.trans ?_), xor_back (i2.symm.trans ?_), xor_back (i3.symm.trans ?_)⟩ <;> omega
  · rintro ⟨q0, q1, q2, q3⟩
    unfold crcV
    congr 1
    apply crcN_same
    intro j _
    by_cases hj : n ≤ j ∧ j < n + 4
    · obtain ⟨i, rfl⟩ : ∃ i, j = n + i := ⟨j - n, by omega⟩
      rw [hi i (by omega)]
      have : p i = 0 := by
        have : i = 0 ∨ i = 1 ∨ i = 2 ∨ i = 3 := by omega
        rcases this with rfl | rfl | rfl | rfl <;> assumption
      rw [this, Nat.xor_zero]
    · unfold turned; rw [if_neg hj]
/-! ### the Adler sum -/
def loN (a : Nat) (f : Nat → Nat) : Nat → Nat
  | 0 => a
  | k + 1 => (loN a f k + f k) % 65521
def hiN (a h : Nat) (f : Nat → Nat) : Nat → Nat
  | 0 => h
  | k + 1 => (hiN a h f k + loN a f (k + 1)) % 65521
def adlV (s : Nat) (f : Nat → Nat) (l : Nat) : Nat := hiN (s % 65536) (s / 65536) f l * 65536 + loN (s % 65536) f l
theorem loN_lt {a : Nat} (f : Nat → Nat) (ha : a < 65536) : ∀ k, loN a f k < 65536
  | 0 => ha
  | k + 1 => by simp only [loN]; omega
theorem hiN_lt {a h : Nat} (f : Nat → Nat) (hh : h < 65536) : ∀ k, hiN a h f k < 65536
  | 0 => hh
  | k + 1 => by simp only [hiN]; omega
theorem adlV_lt {s : Nat} (f : Nat → Nat) (l : Nat) (hs : s < 4294967296) : adlV s f l < 4294967296 := by
  have h1 := loN_lt f (a := s % 65536) (by omega) l
  have h2 := hiN_lt f (a := s % 65536) (h := s / 65536) (by omega) l
  unfold adlV; omega
theorem loN_same {a : Nat} {f f' : Nat → Nat} : ∀ {n}, (∀ j, j < n → f j = f' j) → loN a f n = loN a f' n
  | 0, _ => rfl
  | n + 1, h => by simp only [loN]; rw [loN_same (n := n) (fun j hj => h j (by omega)), h n (by omega)]
theorem hiN_same {a b : Nat} {f f' : Nat → Nat} : ∀ {n}, (∀ j, j < n → f j = f' j) → hiN a b f n = hiN a b f' n
  | 0, _ => rfl
  | n + 1, h => by simp only [hiN]; rw [hiN_same (n := n) (fun j hj => h j (by omega)), loN_same (n := n + 1) h]
theorem loN_cat (a : Nat) (f g : Nat → Nat) (n : Nat) : ∀ m, loN a (cat f n g) (n + m) = loN (loN a f n) g m
  | 0 => loN_same fun j hj => by unfold cat; rw [if_pos (by omega)]
  | m + 1 => by
    rw [Nat.add_succ]
    simp only [loN]
    rw [loN_cat a f g n m]
    unfold cat
    rw [if_neg (by omega), Nat.add_sub_cancel_left]
theorem hiN_cat (a h : Nat) (f g : Nat → Nat) (n : Nat) : ∀ m, hiN a h (cat f n g) (n + m) = hiN (loN a f n) (hiN a h f n) g m
  | 0 => hiN_same fun j hj => by unfold cat; rw [if_pos (by omega)]
  | m + 1 => by
    have := loN_cat a f g n (m + 1)
    rw [Nat.add_succ] at this ⊢
    simp only [hiN]
    rw [hiN_cat a h f g n m, this]
theorem adlV_cat (s : Nat) (f g : Nat → Nat) (n m : Nat) : adlV s (cat f n g) (n + m) = adlV (adlV s f n) g m := by
  have h1 := loN_lt f (a := s % 65536) (by omega) n
  have e1 : adlV s f n % 65536 = loN (s % 65536) f n := by unfold adlV; omega
  have e2 : adlV s f n / 65536 = hiN (s % 65536) (s / 65536) f n := by unfold adlV; omega
  have e3 (t : Nat) (g : Nat → Nat) (m : Nat) : adlV t g m = hiN (t % 65536) (t / 65536) g m * 65536 + loN (t % 65536) g m := rfl
  rw [e3 (adlV s f n), e1, e2, e3 s, loN_cat, hiN_cat]
theorem lo_apart {a : Nat} {f f' : Nat → Nat} (n : Nat) : ∀ k, (∀ j, n ≤ j → f j = f' j) → loN a f (n + k) % 65521 = loN a f' (n + k) % 65521 → loN a f n % 65521 = loN a f' n % 65521
  | 0, _, h => h
  | k + 1, he, h => by
    rw [Nat.add_succ] at h
    simp only [loN] at h
    rw [he (n + k) (by omega)] at h
    exact lo_apart n k he (by omega)
theorem turned_adl {f p : Nat → Nat} (hf : ∀ j, f j < 256) (hp : ∀ j, p j < 256) (s n l : Nat) (h : n + 1 ≤ l) :
    adlV s (turned f p n 1) l = adlV s f l ↔ p 0 = 0 := by
  have ht := turned_lt hf hp n 1
  have h0 : ∀ j, j < n → turned f p n 1 j = f j := fun j hj => by unfold turned; rw [if_neg (by omega)]
  have h4 : ∀ j, n + 1 ≤ j → turned f p n 1 j = f j := fun j hj => by unfold turned; rw [if_neg (by omega)]
  have hi : turned f p n 1 n = f n ^^^ p 0 := by unfold turned; rw [if_pos (by omega), Nat.sub_self]
  constructor
  · intro he
    have hl1 := loN_lt (turned f p n 1) (a := s % 65536) (by omega) l
    have hl2 := loN_lt f (a := s % 65536) (by omega) l
    have he2 : loN (s % 65536) (turned f p n 1) l = loN (s % 65536) f l := by unfold adlV at he; omega
    obtain ⟨k, rfl⟩ : ∃ k, l = n + 1 + k := ⟨l - (n + 1), by omega⟩
    have h5 := lo_apart (n + 1) k h4 (by rw [he2])
    simp only [loN] at h5
    rw [loN_same h0] at h5
    have b0 := ht n; have c0 := hf n
    refine xor_back (hi.symm.trans ?_)
    omega
  · intro q0
    have hs : ∀ j, j < l → turned f p n 1 j = f j := by
      intro j _
      by_cases hj : n ≤ j ∧ j < n + 1
      · obtain rfl : j = n := by omega
        rw [hi, q0, Nat.xor_zero]
      · unfold turned; rw [if_neg hj]
    unfold adlV
    rw [loN_same hs, hiN_same hs]
end Go.Proofs.Ytpnnnmkonodbiaa
