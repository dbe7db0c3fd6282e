/-
  Words for every layer: an append, and where the row lies then; a byte more behind a row of the call's own.
-/
import Derived.Deep.DeepCutAuto
import Derived.Great.BuildSlice
import Derived.Lib.SliceRun
import Derived.Laws.Tables
import Derived.RangeFuncOwn
import Derived.Test.YtjhljkhgjcckhaaMgaa
import Derived.Test.YtjhljkhgjcckhaaMgab
import Derived.Test.YtjhljkhgjcckhaaMgac
import Derived.Test.YtjhljkhgjcckhaaMgad
namespace Go.Proofs.Ytjhljkhgjcckhaa
theorem numN_add (F : Nat → Nat) (a m : Nat) : ∀ n, numN F a (m + n) = numN F a m + 2 ^ m * numN F (a + m) n
  | 0 => by simp [numN]
  | n + 1 => by
    show numN F a (m + n) + bitAt F (a + (m + n)) * 2 ^ (m + n) = numN F a m + 2 ^ m * (numN F (a + m) n + bitAt F (a + m + n) * 2 ^ n)
    rw [numN_add F a m n, Nat.mul_add, Nat.add_assoc, Nat.add_assoc, Nat.pow_add]
    congr 2
    rw [Nat.mul_comm (bitAt F (a + (m + n))), Nat.mul_assoc, Nat.mul_comm (2 ^ n)]
theorem numN_byte (F : Nat → Nat) (w : Nat) (h : F w < 256) : numN F (8 * w) 8 = F w := by
  have hb : ∀ i, i < 8 → bitAt F (8 * w + i) = F w / 2 ^ i % 2 := fun i hi => by
    unfold bitAt
    rw [show (8 * w + i) / 8 = w by omega, show (8 * w + i) % 8 = i by omega]
  simp only [numN]
  rw [hb 0 (by omega), hb 1 (by omega), hb 2 (by omega), hb 3 (by omega), hb 4 (by omega), hb 5 (by omega), hb 6 (by omega), hb 7 (by omega)]
  simp only [Nat.reducePow]
  omega
theorem numN_two (F : Nat → Nat) (w : Nat) (h : F w < 256) (h2 : F (w + 1) < 256) : numN F (8 * w) 16 = F w + 256 * F (w + 1) := by
  have e := numN_add F (8 * w) 8 8
  rw [numN_byte F w h, show 8 * w + 8 = 8 * (w + 1) by omega, numN_byte F (w + 1) h2] at e
  exact e
theorem nums_at {f : Nat → Nat} {k : Nat} (h : Clean f k) (P1 : List (Nat × Nat)) (v q : Nat) (P2 : List (Nat × Nat)) (hv : v < 2 ^ q) : numN (putsF f k (P1 ++ (v, q) :: P2)) (k + bitsT P1) q = v := by
  rw [putsF_app]
  simp only [putsF]
  have hc := h.puts P1
  rw [numN_congr q (fun j hj => putsF_ahead (hc.put v q) (k + bitsT P1 + j) (by omega) P2), put_taken hc v q hv]
theorem bits_rep (j : Nat) : bitsT (List.replicate j ((0, 1) : Nat × Nat)) = j := by
  induction j with
  | zero => rfl
  | succ j ih => rw [List.replicate_succ]; simp only [bitsT]; rw [ih]; omega
theorem bits_map8 (f : Nat → Nat) : ∀ n, bitsT ((List.range n).map fun i => (f i, 8)) = 8 * n
  | 0 => rfl
  | n + 1 => by
    rw [List.range_succ, List.map_append, bitsT_app, bits_map8 f n]
    simp only [List.map_cons, List.map_nil, bitsT]
    omega
/-- A stored block is 3 bits, what is missing to a whole byte, 32 bits, and the bytes. -/
theorem sto_bits (a n : Nat) (r : Nat → Nat) (l : List Tok) (last : Bool) : bitsT (blkP a 0 n r l last) = 3 + padN a + 32 + 8 * n := by
  unfold blkP
  rw [if_neg (show ¬ (0 : Nat) = 1 by omega), if_neg (show ¬ (0 : Nat) = 2 by omega)]
  unfold stoP
  rw [bitsT_app, bitsT_app, bitsT_app, bits_rep, bits_map8]
  have e3 : ∀ b : Nat, bitsT [(b, 1), (0, 2)] = 3 := fun _ => rfl
  have e4 : ∀ x y : Nat, bitsT [(x, 16), (y, 16)] = 32 := fun _ _ => rfl
  rw [e3, e4]; omega
/-- What stands where in a stored block. -/
theorem sto_bytes {f : Nat → Nat} {K : Nat} (h : Clean f K) (n : Nat) (r : Nat → Nat) (l : List Tok) (last : Bool) (hn : n ≤ 65535) (hr : ∀ j, r j < 256) (W : Nat) (hW : W = (K + 3 + 7) / 8) (F : Nat → Nat) (hF : F = putsF f K (blkP (K % 8) 0 n r l last)) :
    F W + 256 * F (W + 1) = n ∧ F (W + 2) + 256 * F (W + 3) = 65535 - n ∧ (∀ i, i < n → F (W + 4 + i) = r i) ∧ K + 3 + padN (K % 8) = 8 * W := by
  have hcF : ∀ j, F j < 256 := by rw [hF]; exact (h.puts _).1
  have hpad : K + 3 + padN (K % 8) = 8 * W := by unfold padN; omega
  obtain ⟨P0, hP0⟩ : ∃ P, P = [((if last then 1 else 0 : Nat), 1), (0, 2)] ++ List.replicate (padN (K % 8)) ((0, 1) : Nat × Nat) := ⟨_, rfl⟩
  have hb0 : bitsT P0 = 3 + padN (K % 8) := by
    have e3 : ∀ b : Nat, bitsT [(b, 1), (0, 2)] = 3 := fun _ => rfl
    rw [hP0, bitsT_app, bits_rep, e3]
  have hblk : blkP (K % 8) 0 n r l last = P0 ++ ((n, 16) :: (65535 - n, 16) :: ((List.range n).map fun i => (r i, 8))) := by
    unfold blkP
    rw [if_neg (show ¬ (0 : Nat) = 1 by omega), if_neg (show ¬ (0 : Nat) = 2 by omega)]
    unfold stoP
    rw [hP0, List.append_assoc, List.append_assoc]
    rfl
  have h216 : (2 : Nat) ^ 16 = 65536 := rfl
  have h28 : (2 : Nat) ^ 8 = 256 := rfl
  refine ⟨?_, ?_, fun i hi => ?_, hpad⟩
  · rw [← numN_two F W (hcF _) (hcF _), ← hpad, Nat.add_assoc, ← hb0, hF, hblk]
    exact nums_at h P0 n 16 _ (by omega)
  · have e : P0 ++ ((n, 16) :: (65535 - n, 16) :: ((List.range n).map fun i => (r i, 8))) = (P0 ++ [(n, 16)]) ++ ((65535 - n, 16) :: ((List.range n).map fun i => (r i, 8))) := by simp
    have hb1 : bitsT (P0 ++ [(n, 16)]) = 3 + padN (K % 8) + 16 := by rw [bitsT_app, hb0]; rfl
    have := nums_at h (P0 ++ [(n, 16)]) (65535 - n) 16 ((List.range n).map fun i => (r i, 8)) (by omega)
    rw [← e, ← hblk, ← hF, hb1, show K + (3 + padN (K % 8) + 16) = 8 * (W + 2) by omega, numN_two F (W + 2) (hcF _) (hcF _)] at this
    exact this
  · have hsp : ((List.range n).map fun i => (r i, 8)) = ((List.range i).map fun i => (r i, 8)) ++ (r i, 8) :: (((List.range n).map fun i => (r i, 8)).drop (i + 1)) := by
      have h1 := (List.take_append_drop i ((List.range n).map fun i => (r i, 8))).symm
      rw [List.drop_eq_getElem_cons (by simpa using hi)] at h1
      have h2 : ((List.range n).map fun i => (r i, 8)).take i = (List.range i).map fun i => (r i, 8) := by
        rw [← List.map_take, List.take_range, Nat.min_eq_left (by omega)]
      rw [h2] at h1
      simpa using h1
    have e : P0 ++ ((n, 16) :: (65535 - n, 16) :: ((List.range n).map fun i => (r i, 8))) = (P0 ++ [(n, 16), (65535 - n, 16)] ++ ((List.range i).map fun i => (r i, 8))) ++ ((r i, 8) :: (((List.range n).map fun i => (r i, 8)).drop (i + 1))) := by
      rw [List.append_assoc, List.append_assoc, ← hsp]; rfl
    have hb1 : bitsT (P0 ++ [(n, 16), (65535 - n, 16)] ++ ((List.range i).map fun i => (r i, 8))) = 3 + padN (K % 8) + 32 + 8 * i := by
      rw [bitsT_app, bitsT_app, hb0, bits_map8]; rfl
    have hri := hr i
    have := nums_at h (P0 ++ [(n, 16), (65535 - n, 16)] ++ ((List.range i).map fun i => (r i, 8))) (r i) 8 (((List.range n).map fun i => (r i, 8)).drop (i + 1)) (by omega)
    rw [← e, ← hblk, ← hF, hb1, show K + (3 + padN (K % 8) + 32 + 8 * i) = 8 * (W + 4 + i) by omega, numN_byte F (W + 4 + i) (hcF _)] at this
    exact this
end Go.Proofs.Ytjhljkhgjcckhaa

namespace Go.Proofs.Ytjhljkhgjcckhaa
/-- A number that has no more bits than are told. -/
def FitN (x : Nat × Nat) : Prop := x.1 < 2 ^ x.2 ∧ x.2 ≤ 16
def val3 (F : Nat → Nat) (L : Nat) : Nat := F L + 256 * F (L + 1) + 65536 * F (L + 2)
theorem putF_low (f : Nat → Nat) (k v : Nat) : ∀ n j, j < k / 8 → putF f k v n j = f j
  | 0, _, _ => rfl
  | n + 1, j, h => by
    simp only [putF]; unfold stepF upd
    rw [if_neg (by omega)]
    exact putF_low f k v n j h
theorem val3_step (G : Nat → Nat) (k n b : Nat) (hn : n ≤ 15) : val3 (stepF G (k + n) b) (k / 8) = val3 G (k / 8) + b * 2 ^ (k % 8 + n) := by
  obtain ⟨p, hp⟩ : ∃ p, p = 2 ^ ((k + n) % 8) := ⟨_, rfl⟩
  have hd : (k + n) / 8 = k / 8 ∨ (k + n) / 8 = k / 8 + 1 ∨ (k + n) / 8 = k / 8 + 2 := by omega
  rcases hd with hd | hd | hd
  · have e : 2 ^ (k % 8 + n) = p := by rw [hp, show (k + n) % 8 = k % 8 + n by omega]
    rw [e]
    unfold val3 stepF upd
    rw [hd, ← hp, if_pos rfl, if_neg (by omega), if_neg (by omega)]
    omega
  · have e : 2 ^ (k % 8 + n) = 256 * p := by rw [hp, show k % 8 + n = 8 + (k + n) % 8 by omega, Nat.pow_add]
    rw [e, Nat.mul_left_comm]
    unfold val3 stepF upd
    rw [hd, ← hp, if_neg (by omega), if_pos rfl, if_neg (by omega)]
    omega
  · have e : 2 ^ (k % 8 + n) = 65536 * p := by rw [hp, show k % 8 + n = 16 + (k + n) % 8 by omega, Nat.pow_add]
    rw [e, Nat.mul_left_comm]
    unfold val3 stepF upd
    rw [hd, ← hp, if_neg (by omega), if_neg (by omega), if_pos rfl]
    omega
theorem putF_val {f : Nat → Nat} {k : Nat} (hc : Clean f k) (v : Nat) : ∀ n, n ≤ 16 → val3 (putF f k v n) (k / 8) = f (k / 8) + (v % 2 ^ n) * 2 ^ (k % 8)
  | 0, _ => by
    unfold val3
    simp only [putF]
    rw [hc.2.1 (k / 8 + 1) (by omega), hc.2.1 (k / 8 + 2) (by omega), Nat.pow_zero, Nat.mod_one]; omega
  | n + 1, h => by
    have ih := putF_val hc v n (by omega)
    simp only [putF]
    rw [val3_step _ _ _ _ (by omega), ih, Nat.mod_pow_succ, Nat.add_mul, Nat.add_assoc, Nat.mul_comm (2 ^ n), Nat.mul_assoc, ← Nat.pow_add, Nat.add_comm n]
theorem val3_next {F : Nat → Nat} (hF : ∀ j, F j < 256) (L : Nat) (h : F (L + 3) = 0) : val3 F L % 256 = F L ∧ val3 F L / 256 = val3 F (L + 1) := by
  have h0 := hF L
  have h1 := hF (L + 1)
  have h2 := hF (L + 2)
  unfold val3
  rw [show L + 1 + 1 = L + 2 by omega, show L + 1 + 2 = L + 3 by omega, h]
  omega
theorem clean_off {F : Nat → Nat} {K : Nat} (h : Clean F K) (j : Nat) (hj : K < 8 * j) : F j = 0 := h.2.1 j (by omega)
theorem val3_end {F : Nat → Nat} {K : Nat} (h : Clean F K) : val3 F (K / 8) = F (K / 8) := by
  unfold val3
  rw [h.2.1 (K / 8 + 1) (by omega), h.2.1 (K / 8 + 2) (by omega)]; omega
theorem val3_lt {F : Nat → Nat} (hF : ∀ j, F j < 256) (L : Nat) : val3 F L < 16777216 := by
  have h0 := hF L
  have h1 := hF (L + 1)
  have h2 := hF (L + 2)
  unfold val3; omega
theorem stepF_zero (f : Nat → Nat) (k : Nat) : stepF f k 0 = f := by
  funext j; unfold stepF upd
  by_cases h : j = k / 8
  · rw [if_pos h, h]; omega
  · rw [if_neg h]
theorem putF_zero (f : Nat → Nat) (k : Nat) : ∀ n, putF f k 0 n = f
  | 0 => rfl
  | n + 1 => by
    simp only [putF]
    rw [putF_zero f k n, Nat.zero_div, Nat.zero_mod, stepF_zero]
theorem putsF_noughts (f : Nat → Nat) : ∀ n k, putsF f k (List.replicate n (0, 1)) = f
  | 0, _ => rfl
  | n + 1, k => by
    rw [List.replicate_succ]
    simp only [putsF]
    rw [putF_zero, putsF_noughts f n]
/-- Noughts in one number, or one by one. -/
theorem puts_pad (f : Nat → Nat) (k p : Nat) (P : List (Nat × Nat)) : putsF f k ((0, p) :: P) = putsF f k (List.replicate p (0, 1) ++ P) ∧ bitsT ((0, p) :: P) = bitsT (List.replicate p (0, 1) ++ P) := by
  constructor
  · rw [putsF_app, putsF_noughts, bits_rep]
    simp only [putsF]
    rw [putF_zero]
  · rw [bitsT_app, bits_rep]; rfl
/-- A byte put behind whole bytes. -/
theorem putF_byte {f : Nat → Nat} {k : Nat} (hc : Clean f k) (h8 : k % 8 = 0) (v : Nat) (hv : v < 256) : putF f k v 8 = upd f (k / 8) v := by
  have hcl := hc.put v 8
  have h1 := putF_val hc v 8 (by omega)
  have hz : f (k / 8) = 0 := by have := hc.2.2; rw [h8] at this; have e : (2 : Nat) ^ 0 = 1 := rfl; omega
  have e1 : (2 : Nat) ^ 0 = 1 := rfl
  have e2 : (2 : Nat) ^ 8 = 256 := rfl
  rw [h8, hz, e1, e2, Nat.mod_eq_of_lt hv] at h1
  have z1 := clean_off hcl (k / 8 + 2) (by omega)
  have z2 := hcl.2.2
  rw [show (k + 8) / 8 = k / 8 + 1 by omega, show (k + 8) % 8 = 0 by omega, e1] at z2
  unfold val3 at h1
  funext j
  unfold upd
  by_cases h : j = k / 8
  · rw [if_pos h, h]; omega
  · rw [if_neg h]
    rcases Nat.lt_or_ge j (k / 8) with g | g
    · exact putF_low f k v 8 j g
    · rw [hc.2.1 j (by omega)]
      rcases Nat.lt_or_ge (k / 8 + 1) j with g2 | g2
      · exact clean_off hcl j (by omega)
      · obtain rfl : j = k / 8 + 1 := by omega
        omega
/-- Bytes put behind whole bytes. -/
def rawF (f : Nat → Nat) (L n : Nat) (r : Nat → Nat) (j : Nat) : Nat := if j < L then f j else if j < L + n then r (j - L) else 0
theorem puts_raw {f : Nat → Nat} {k : Nat} (hc : Clean f k) (h8 : k % 8 = 0) (r : Nat → Nat) (hr : ∀ j, r j < 256) : ∀ n, putsF f k ((List.range n).map fun i => (r i, 8)) = rawF f (k / 8) n r
  | 0 => by
    funext j
    simp only [List.range_zero, List.map_nil, putsF]
    unfold rawF
    by_cases h : j < k / 8
    · rw [if_pos h]
    · rw [if_neg h, if_neg (by omega)]
      rcases Nat.lt_or_ge (k / 8) j with g | g
      · exact hc.2.1 j g
      · have := hc.2.2
        rw [h8] at this
        have e : (2 : Nat) ^ 0 = 1 := rfl
        rw [show j = k / 8 by omega]; omega
  | n + 1 => by
    have ih := puts_raw hc h8 r hr n
    have hcl := hc.puts ((List.range n).map fun i => (r i, 8))
    rw [bits_map8, ih] at hcl
    rw [List.range_succ, List.map_append, putsF_app, bits_map8, ih]
    simp only [List.map_cons, List.map_nil, putsF]
    rw [putF_byte hcl (by omega) _ (hr n), show (k + 8 * n) / 8 = k / 8 + n by omega]
    funext j
    unfold upd rawF
    by_cases h : j = k / 8 + n
    · rw [if_pos h, if_neg (by omega), if_pos (by omega), show j - k / 8 = n by omega]
    · rw [if_neg h]
      by_cases h1 : j < k / 8
      · rw [if_pos h1, if_pos h1]
      · rw [if_neg h1, if_neg h1]
        by_cases h2 : j < k / 8 + n
        · rw [if_pos h2, if_pos (by omega)]
        · rw [if_neg h2, if_neg (by omega)]
/-! ### a block's numbers fit -/
theorem fit_mk {v b : Nat} (hv : v < 2 ^ b) (hb : b ≤ 16) : FitN (v, b) := ⟨hv, hb⟩
theorem ext_fit {t : Tok} (hm : mayT t = true) (hx : t.x < 256) (h0 : t.n ≠ 0) : FitN ((lgX t.n).toNat, (lgB t.n).toNat) ∧ FitN ((frX t.d).toNat, (frB t.d).toNat) := by
  obtain ⟨hE1, hE2, _⟩ := (sym_lt hm hx).2.2 h0
  obtain ⟨_, _, _, _, p1, p2, p3, p4⟩ := long_there hE1
  obtain ⟨_, _, _, _, q1, q2, q3, q4⟩ := far_there hE2
  exact ⟨fit_mk (by omega) (by omega), fit_mk (by omega) (by omega)⟩
theorem runX_fit {l : List Tok} (hl : l.length ≤ 1000000) {r : Int × Int} (hr : r ∈ runD l) : FitN (r.2.toNat, (bitV r.1).toNat) := by
  obtain ⟨s0, s18, x0, x128, hx⟩ := (run_ok l hl).1 r hr
  have hb := bitsR_le' r.1
  have e2 : bitV r.1 = (bitsR r.1 : Nat) := by unfold bitV; rw [if_pos (by omega)]
  rw [e2, Int.toNat_natCast]
  exact fit_mk (by omega) (by omega)
end Go.Proofs.Ytjhljkhgjcckhaa

namespace Go.Proofs.Ytjhljkhgjcckhaa
open Go.RowKit Go.ChangeShapes Go.WideShapes Go.ChangeAt Go.Joins
def tokE (t : Tok) : Int := if mayT t = true then 0 else 8
end Go.Proofs.Ytjhljkhgjcckhaa

namespace Go.Proofs.Ytjhljkhgjcckhaa
open Go.RowKit Go.ChangeShapes Go.WideShapes Go.ChangeAt Go.Joins
/-- Is a token a copy? -/
def cpyT (t : Tok) : Bool := t.n != 0 || t.d != 0
set_option maxRecDepth 100000 in
set_option maxHeartbeats 1000000 in
theorem copies8_any (w : World) (t : Tok) : Calls Try.prog 47 #[.agg #[.int .u8 (t.x : Int), .int .i64 t.d, .int .i64 t.n]] w fun e w' => e = .returned (.bool (cpyT t)) ∧ Below w.heap.size w w' := by
  obtain ⟨x, d, n⟩ := t
  have HB := Lib.hid ((Below.refl w.heap.size w).alloc (Nat.le_refl _) (.cells #[.int .u8 (x : Int), .int .i64 d, .int .i64 n] 95))
  by_cases h0 : n = 0
  · subst h0
    have e : cpyT ⟨x, d, 0⟩ = (d != 0) := by simp [cpyT]
    rw [e]
    clear e
    go_enter Try.func47, Try.ntmps47
    go_wp2
    go_ret
    exact ⟨rfl, HB.out⟩
  · have e0 : (n != 0) = true := by simp [h0]
    have e : cpyT ⟨x, d, n⟩ = true := by simp [cpyT, h0]
    rw [e]
    clear e
    go_enter Try.func47, Try.ntmps47
    go_wp2
    go_ret
    exact ⟨rfl, HB.out⟩
set_option maxRecDepth 100000 in
set_option maxHeartbeats 2000000 in
theorem tok8_any (w : World) (t : Tok) (_ : TokIn t) : Calls Try.prog 33 #[.agg #[.int .u8 (t.x : Int), .int .i64 t.d, .int .i64 t.n]] w fun e w' => e = .returned (.int .i64 (tokE t)) ∧ Below w.heap.size w w' := by
  obtain ⟨x, d, n⟩ := t
  obtain ⟨W1, hW1⟩ : ∃ W1, W1 = w.alloc (.cells #[.int .u8 (x : Int), .int .i64 d, .int .i64 n] 29) := ⟨_, rfl⟩
  have HW1 := Lib.hid hW1
  have hb1 : Below w.heap.size w W1 := by rw [hW1]; exact (Below.refl _ _).alloc (Nat.le_refl _) _
  have hs1 : W1.heap.size = w.heap.size + 1 := by rw [hW1]; simp
  have hrow : W1.heap[w.heap.size]? = some (.cells #[.int .u8 (x : Int), .int .i64 d, .int .i64 n] 29 (0, 0)) := by rw [hW1]; exact heap_alloc_new w _
  have HB1 := Lib.hid hb1; have HS1 := Lib.hid hs1; have HROW := Lib.hid hrow
  have HM := Lib.hid (copies8_any W1 ⟨x, d, n⟩)
  clear hW1 hb1 hs1 hrow
  obtain ⟨E, hE⟩ : ∃ E, E = tokE ⟨x, d, n⟩ := ⟨_, rfl⟩
  rw [← hE]
  obtain ⟨b, hb⟩ : ∃ b, b = cpyT ⟨x, d, n⟩ := ⟨_, rfl⟩
  rw [← hb] at HM
  have HE := Lib.hid hE; have HBB := Lib.hid hb
  clear hE hb
  go_enter Try.func33, Try.ntmps33
  go_wp2_with fail
  rw [← HW1.out]
  refine HM.out.mono ?_
  rintro e w2 ⟨rfl, hb2⟩
  have HB2 := Lib.hid (HB1.out.trans (hb2.mono HB1.out.size))
  have hr2 : w2.heap[w.heap.size]? = some (.cells #[.int .u8 (x : Int), .int .i64 d, .int .i64 n] 29 (0, 0)) := (hb2.block _ (by have := HS1.out; omega)).trans HROW.out
  have x0 : w2.cell? ⟨w.heap.size, 0, none⟩ = some (.int .u8 (x : Int)) := (cell_of_row w2 _ 0 _ _ (0, 0) hr2).trans rfl
  have x1 : w2.cell? ⟨w.heap.size, 1, none⟩ = some (.int .i64 d) := (cell_of_row w2 _ 1 _ _ (0, 0) hr2).trans rfl
  have x2 : w2.cell? ⟨w.heap.size, 2, none⟩ = some (.int .i64 n) := (cell_of_row w2 _ 2 _ _ (0, 0) hr2).trans rfl
  clear hb2 hr2
  cases b with
  | false =>
    have hz : n = 0 ∧ d = 0 := by have h := HBB.out.symm; simp [cpyT] at h; exact h
    obtain rfl : E = 0 := by rw [HE.out]; unfold tokE; rw [if_pos]; simp [mayT, hz.1, hz.2]
    go_wp2
    go_ret
    exact ⟨rfl, HB2.out⟩
  | true =>
    have hz : ¬ (n = 0 ∧ d = 0) := by have h := HBB.out.symm; simp [cpyT] at h; omega
    have key : ∀ P : Prop, (mayT ⟨x, d, n⟩ = true ↔ P) → (¬ P → E = 8) ∧ (P → E = 0) := fun P hP => ⟨fun h => by rw [HE.out]; unfold tokE; rw [if_neg (fun g => h (hP.1 g))], fun h => by rw [HE.out]; unfold tokE; rw [if_pos (hP.2 h)]⟩
    have hk := key (¬ n < 3 ∧ ¬ 258 < n ∧ ¬ d < 1 ∧ ¬ 32768 < d ∧ x = 0) (by unfold mayT; simp only [decide_eq_true_eq]; omega)
    clear key
    by_cases y0 : n < 3
    · have d0 : decide (n < 3) = true := by simp; omega
      obtain rfl : E = 8 := hk.1 (by omega)
      clear hk
      go_wp2
      go_ret
      exact ⟨rfl, HB2.out⟩
    have d0 : decide (n < 3) = false := by simp; omega
    by_cases y1 : 258 < n
    · have d1 : decide (258 < n) = true := by simp; omega
      obtain rfl : E = 8 := hk.1 (by omega)
      clear hk
      go_wp2
      go_ret
      exact ⟨rfl, HB2.out⟩
    have d1 : decide (258 < n) = false := by simp; omega
    by_cases y2 : d < 1
    · have d2 : decide (d < 1) = true := by simp; omega
      obtain rfl : E = 8 := hk.1 (by omega)
      clear hk
      go_wp2
      go_ret
      exact ⟨rfl, HB2.out⟩
    have d2 : decide (d < 1) = false := by simp; omega
    by_cases y3 : 32768 < d
    · have d3 : decide (32768 < d) = true := by simp; omega
      obtain rfl : E = 8 := hk.1 (by omega)
      clear hk
      go_wp2
      go_ret
      exact ⟨rfl, HB2.out⟩
    have d3 : decide (32768 < d) = false := by simp; omega
    by_cases y4 : x = 0
    · subst y4
      have d4 : (((0 : Nat) : Int) != 0) = false := by decide
      obtain rfl : E = 0 := hk.2 (by omega)
      clear hk
      go_wp2
      go_ret
      exact ⟨rfl, HB2.out⟩
    · have d4 : ((x : Int) != 0) = true := by simp; omega
      obtain rfl : E = 8 := hk.1 (by omega)
      clear hk
      go_wp2
      go_ret
      exact ⟨rfl, HB2.out⟩
set_option maxRecDepth 100000 in
set_option maxHeartbeats 1000000 in
theorem clone8_any (w : World) (A : Option Addr) (n c : Nat) (f : Nat → Nat) (hr : ByR w w.heap.size A n c f) (hn : n ≤ 2000000) :
    Calls Try.prog 37 #[.slice A n c] w fun e w' => ∃ A' c', e = .returned (.slice A' n c') ∧ w'.ownsRow w.heap.size 5 1 (.slice A' n c') n (bytesL n f) ∧ Below w.heap.size w w' := by
  rcases A with _ | ad
  · obtain rfl := hr.2.1 rfl
    have h0 : n = 0 := by have := hr.2.2.1; omega
    subst h0
    clear hr
    have q22 : ∀ (w : World) (a : Option Addr) (n c n' c' : Nat), (binOp .eql 27 (.slice a n c) (.slice none n' c')).run Try.prog w = .ok (.bool a.isNone) w := fun w a n c n' c' => Lib.run_eql_slice_nil w _ _ a n c n' c' Try.underlying27
    go_enter Try.func37, Try.ntmps37
    go_wp2
    go_ret
    exact ⟨none, 0, rfl, World.ownsRow_nil _ _ _ _, Below.refl _ _⟩
  · have q22 : ∀ (w : World) (a : Option Addr) (n c n' c' : Nat), (binOp .eql 27 (.slice a n c) (.slice none n' c')).run Try.prog w = .ok (.bool a.isNone) w := fun w a n c n' c' => Lib.run_eql_slice_nil w _ _ a n c n' c' Try.underlying27
    have hb1 : Below w.heap.size w (w.alloc (.cells #[] 5)) := (Below.refl _ _).alloc (Nat.le_refl _) _
    have hown : (w.alloc (.cells #[] 5)).ownsRow w.heap.size 5 1 (.slice (some ⟨w.heap.size, 0, none⟩) 0 0) 0 (bytesL 0 f) := World.ownsRow_made w #[] 0 (Nat.le_refl _) (Nat.zero_le _) rfl
    obtain ⟨A', c', w', h1, h2, h3⟩ := run_more _ w.heap.size (w.alloc (.cells #[] 5)).heap.size _ 0 f hown (some ad) n c f ((hr.1.below hb1 (Nat.le_refl _)).more hb1.size) (by omega) 27 (fun h => by cases h) hb1.size
    rw [Nat.zero_add] at h1 h2
    have e : cat f 0 f = f := by funext j; unfold cat; rw [if_neg (by omega)]; rfl
    rw [e] at h2
    have HRUN := Lib.hid h1; have HOWN := Lib.hid h2; have HB := Lib.hid (hb1.trans h3)
    clear h1 h2 h3 hown hb1 hr e
    go_enter Try.func37, Try.ntmps37
    go_wp2_with (at_builtin; refine wpList_append_run rfl (.tmp 5) (.tmp 6) 27 rfl (.slice (some ⟨w.heap.size, 0, none⟩) 0 0) (.slice (some ad) n c) (.slice A' n c') w' rfl rfl HRUN.out ?_)
    go_ret
    exact ⟨A', c', rfl, HOWN.out, HB.out⟩
theorem own_type {w : World} {base sz n h : Nat} {e t : TypeId} {v : Value} {xs : List Value} {cs : Array Value} (ho : w.ownsRow base e sz v n xs) (hh : w.heap[h]? = some (.cells cs t (0, 0))) (hne : (e == t) = false) : v.ownBlock ≠ some h := fun hk => by
  rcases ho.2 with ⟨rfl, _⟩ | ⟨g, cap, cur, rfl, _, hg, _⟩
  · simp [Value.ownBlock] at hk
  · simp [Value.ownBlock] at hk
    subst hk
    rw [hg] at hh
    injection hh with hh
    injection hh with _ h2 _
    rw [h2] at hne; simp at hne
theorem below_row8 {B : Nat} {a w : World} (h : Below B a w) {g : Nat} (hp : B ≤ g) (cs : Array Value) : Below B a (w.setRow g cs) :=
  ⟨h.os, h.tape, h.output, by rw [size_setRow]; exact h.size, fun k hk => (setRow_other w g k cs (by omega)).trans (h.block k hk)⟩
theorem tokA_one (t : Tok) : (tokC t).toArray.all (·.oneCell') = true := by simp [tokC, Value.oneCell']
theorem szTokA (t : Tok) : (Try.prog.info? 29).map (·.size) = some (tokC t).toArray.size := szTok
end Go.Proofs.Ytjhljkhgjcckhaa

namespace Go.Proofs.Ytjhljkhgjcckhaa
open Go.RowKit
set_option maxRecDepth 100000 in
/-- The same, and where the row lies then. -/
theorem run_app_s {T E : TypeId} {z : Value} {sz by_ : Nat} (hT : Try.prog.underlying T = some (.slice E)) (hI : (Try.prog.info? E).map (fun i => (i.zero, i.size, i.bytes)) = some (some z, sz, by_)) (hz : z.cells.size = sz) (hsz : 0 < sz)
    (w : World) (base B : Nat) (v0 : Value) (n : Nat) (xs : List Value) (hown : w.ownsRow base E sz v0 n xs) (A : Option Addr) (m c : Nat) (ys : List Value) (hr : SrcL w B sz A m ys) (h1 : ∀ u ∈ ys, u.oneCell' = true)
    (hnm : n + m ≤ maxLen) (hby : (n + m) * by_ ≤ 140737488355328) (ty : TypeId) (hA : A = none → c = 0) (hbase : base ≤ w.heap.size) :
    ∃ A' c' w', (Builtin.append_ #[T, T] ty #[v0, .slice A m c]).run Try.prog w = .ok (.slice A' (n + m) c') w' ∧ w'.ownsRow base E sz (.slice A' (n + m) c') (n + m) (xs ++ ys) ∧ w.grownBy w' v0.ownBlock ∧ ((Value.slice A' (n + m) c').ownBlock = v0.ownBlock ∨ (Value.slice A' (n + m) c').ownBlock = some w.heap.size) := by
  obtain ⟨i0, hi, hz0, hz1, hz2⟩ := info_parts hI
  have key : ∃ v' w', (Builtin.append_ #[T, T] ty #[v0, .slice A m c]).run Try.prog w = .ok v' w' ∧ w'.ownsRow base E sz v' (n + m) (xs ++ ys) ∧ w.grownBy w' v0.ownBlock ∧ (v'.ownBlock = v0.ownBlock ∨ v'.ownBlock = some w.heap.size) := by
    rcases A with _ | ad
    · have h0 : m = 0 := by
        rcases Nat.eq_zero_or_pos m with h | h
        · exact h
        · obtain ⟨b, o, h, _⟩ := hr.2 h; cases h
      subst h0
      obtain rfl := hA rfl
      have hy : ys = [] := List.length_eq_zero_iff.1 (by have := hr.1; omega)
      subst hy
      refine ⟨v0, w, run_append_owned_none (P := Try.prog) (w := w) base T ty E i0 sz hT hi v0 n _ hown, ?_, World.grownBy.refl _ _, .inl rfl⟩
      simpa using hown
    · have hcells : ∀ j u, ys[j]? = some u → w.cell? (ad.add j) = some u := by
        intro j u hu
        have hm : 0 < m := by
          rcases Nat.eq_zero_or_pos m with h | h
          · have hy : ys = [] := List.length_eq_zero_iff.1 (by have := hr.1; rw [h] at this; omega)
            rw [hy] at hu; cases hu
          · exact h
        obtain ⟨b, o, h, _, hc⟩ := hr.2 hm
        injection h with h
        subst h
        have e : (⟨b, o, none⟩ : Addr).add j = ⟨b, o + j, none⟩ := by unfold Addr.add; split <;> simp_all
        rw [e]; exact hc j u hu
      obtain ⟨v', w', h1, h2, h3, _, h5⟩ := run_append_own_at (P := Try.prog) w base T ty E i0 z sz by_ hT hi hz0 hz1 hz2 hz hsz v0 n xs hown ad m c ys hr.1 hcells h1 hnm hby hbase
      exact ⟨v', w', h1, h2, h3, h5⟩
  obtain ⟨v', w', h1, h2, h3, h5⟩ := key
  have hv : ∃ A' c', v' = .slice A' (n + m) c' := by
    rcases h2.2 with ⟨rfl, h⟩ | ⟨g, cap, cur, rfl, _⟩
    · exact ⟨none, 0, by rw [h]⟩
    · exact ⟨_, _, rfl⟩
  obtain ⟨A', c', rfl⟩ := hv
  exact ⟨A', c', w', h1, h2, h3, h5⟩
theorem run_oneB_s (w : World) (base : Nat) (A : Option Addr) (n c : Nat) (F : Nat → Nat) (hown : w.ownsRow base 5 1 (.slice A n c) n (bytesL n F)) (x : Nat) (hx : x = F n) (hn : n ≤ 1000000000) (hbase : base ≤ w.heap.size) :
    ∃ A' c' w', (Builtin.append_ #[27, 27] 27 #[.slice A n c, .slice (some ⟨w.heap.size, 0, none⟩) 1 1]).run Try.prog (w.alloc (.cells #[.int .u8 (x : Int)] 5)) = .ok (.slice A' (n + 1) c') w' ∧
      w'.ownsRow base 5 1 (.slice A' (n + 1) c') (n + 1) (bytesL (n + 1) F) ∧ Below base w w' ∧ (∀ k, k < w.heap.size → (Value.slice A n c).ownBlock ≠ some k → w'.heap[k]? = w.heap[k]?) ∧ (∀ j, (Value.slice A' (n + 1) c').ownBlock = some j → (Value.slice A n c).ownBlock = some j ∨ w.heap.size ≤ j) := by
  subst hx
  have hb1 : Below base w (w.alloc (.cells #[.int .u8 (F n : Int)] 5)) := (Below.refl base w).alloc hbase _
  have ho1 := hown.alloc (.cells #[.int .u8 (F n : Int)] 5)
  obtain ⟨A', c', w', h2, o2, b2, h5⟩ := run_app_s (z := .int .u8 0) (by_ := 1) Try.underlying27 infoU8 rfl (by decide) (w.alloc (.cells #[.int .u8 (F n : Int)] 5)) base _ (.slice A n c) n _ ho1 _ 1 1 _
    (SrcL.new w 1 1 #[.int .u8 (F n : Int)] 5 rfl) (fun u hu => by simp at hu; subst hu; rfl) (by unfold maxLen; omega) (by omega) 27 (fun h => by cases h) (Nat.le_trans hbase hb1.size)
  refine ⟨A', c', w', h2, ?_, hb1.trans ((Below.refl base _).grown b2 (Nat.le_trans hbase hb1.size) (own_geS ho1)), fun k hk hne => ?_, fun j hj => ?_⟩
  · have e : bytesL n F ++ (#[Value.int .u8 (F n : Int)] : Array Value).toList = bytesL (n + 1) F := by
      unfold bytesL; rw [List.range_succ, List.map_append]; rfl
    rw [e] at o2
    exact o2
  · refine (b2.block k (by simp; omega) (fun e => hne e.symm)).trans ?_
    exact (Below.refl w.heap.size w).alloc (Nat.le_refl _) (.cells #[.int .u8 (F n : Int)] 5) |>.block k hk
  · rcases h5 with h5 | h5
    · exact .inl (h5 ▸ hj)
    · rw [h5] at hj
      injection hj with hj
      simp at hj
      exact .inr (by omega)
set_option maxRecDepth 100000 in
/-- The bytes of another row behind a row of the call's own. -/
theorem run_catB_s (w : World) (base : Nat) (A : Option Addr) (n c : Nat) (F : Nat → Nat) (hown : w.ownsRow base 5 1 (.slice A n c) n (bytesL n F)) (A2 : Option Addr) (m c2 : Nat) (r G : Nat → Nat) (hr : ByR w w.heap.size A2 m c2 r) (hG : ∀ j, j < n → G j = F j) (hG2 : ∀ j, j < m → G (n + j) = r j) (hn : n + m ≤ 1000000000) (hbase : base ≤ w.heap.size) :
    ∃ A' c' w', (Builtin.append_ #[27, 27] 27 #[.slice A n c, .slice A2 m c2]).run Try.prog w = .ok (.slice A' (n + m) c') w' ∧
      w'.ownsRow base 5 1 (.slice A' (n + m) c') (n + m) (bytesL (n + m) G) ∧ Below base w w' ∧ (∀ k, k < w.heap.size → (Value.slice A n c).ownBlock ≠ some k → w'.heap[k]? = w.heap[k]?) ∧ (∀ j, (Value.slice A' (n + m) c').ownBlock = some j → (Value.slice A n c).ownBlock = some j ∨ w.heap.size ≤ j) := by
  have hsrc : SrcL w w.heap.size 1 A2 m (bytesL m r) := by
    refine ⟨by simp [bytesL], fun h0 => ?_⟩
    obtain ⟨b, o, h1, h2, h3⟩ := hr.1.2 h0
    refine ⟨b, o, h1, h2, fun j u hu => ?_⟩
    have hj : j < m := by
      rcases Nat.lt_or_ge j m with g | g
      · exact g
      · rw [List.getElem?_eq_none (by simpa [bytesL] using g)] at hu; cases hu
    rw [h3 j hj, ← hu]
    simp [bytesL, hj]
  obtain ⟨A', c', w', h2, o2, b2, h5⟩ := run_app_s (z := .int .u8 0) (by_ := 1) Try.underlying27 infoU8 rfl (by decide) w base _ (.slice A n c) n _ hown A2 m c2 _
    hsrc (fun u hu => by simp [bytesL] at hu; obtain ⟨_, _, rfl⟩ := hu; rfl) (by unfold maxLen; omega) (by omega) 27 hr.2.1 hbase
  refine ⟨A', c', w', h2, ?_, (Below.refl base _).grown b2 hbase (own_geS hown), fun k hk hne => b2.block k hk (fun e => hne e.symm), fun j hj => ?_⟩
  · have e : bytesL n F ++ bytesL m r = bytesL (n + m) G := by
      unfold bytesL
      rw [List.range_add, List.map_append, List.map_map]
      congr 1
      · refine List.map_congr_left fun j hj => ?_
        rw [hG j (List.mem_range.1 hj)]
      · refine List.map_congr_left fun j hj => ?_
        simp only [Function.comp]
        rw [hG2 j (List.mem_range.1 hj)]
    rw [e] at o2
    exact o2
  · rcases h5 with h5 | h5
    · exact .inl (h5 ▸ hj)
    · rw [h5] at hj
      injection hj with hj
      exact .inr (by omega)
end Go.Proofs.Ytjhljkhgjcckhaa

