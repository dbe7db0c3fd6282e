/-
  Layer 9 (reach), the landed code: a kind in memory; has and begin.
-/
import Derived.Test.YtdecacajignkoaaReaAll
namespace Go.Proofs.Ytdecacajignkoaa
open Go.RowKit
/-- How many symbols have fewer than b extra bits, and how many numbers they tell. -/
def smC (M : Nat → Nat) : Nat → Nat
  | 0 => 0
  | b + 1 => smC M b + M b
def smS (M : Nat → Nat) : Nat → Nat
  | 0 => 0
  | b + 1 => smS M b + M b * p2N b
/-- The nineteen cells of a kind. -/
def kdC (l m f s o : Int) (M : Nat → Nat) : Nat → Int := fun i => if i = 0 then l else if i = 1 then m else if i = 2 then f else if i = 3 then s else if i < 18 then ((M (i - 4) : Nat) : Int) else o
def kdA (l m f s o : Int) (M : Nat → Nat) : Array Value := tblA (kdC l m f s o M) 19
theorem infoKd : (Try.prog.info? 41).map (fun i => (i.zero, i.size)) = some (some (.agg (kdA 0 0 0 0 0 (fun _ => 0))), 19) := by kernel_rfl
theorem szKd (T : Nat → Int) : (Try.prog.info? 41).map (·.size) = some (tblA T 19).size := by rw [tblA_size]; kernel_rfl
theorem szKL (T : Nat → Int) : (Try.prog.info? 41).map (·.size) = some (tblL T 19).length := by rw [tblL_length]; kernel_rfl
/-- A kind at a block. -/
def Knd (w : World) (g : Nat) (l m f s o : Int) (M : Nat → Nat) : Prop := w.heap[g]? = some (.cells (kdA l m f s o M) 41 (0, 0))
section
variable {w w' : World} {g : Nat} {l m f s o : Int} {M : Nat → Nat}
theorem Knd.lt (h : Knd w g l m f s o M) : g < w.heap.size := (Array.getElem?_eq_some_iff.1 h).1
theorem Knd.at (h : Knd w g l m f s o M) {i : Nat} (hi : i < 19) : w.cell? ⟨g, i, none⟩ = some (.int .i64 (kdC l m f s o M i)) := tbl_cell h hi
theorem Knd.least (h : Knd w g l m f s o M) : w.cell? ⟨g, 0, none⟩ = some (.int .i64 l) := h.at (i := 0) (by omega)
theorem Knd.most (h : Knd w g l m f s o M) : w.cell? ⟨g, 1, none⟩ = some (.int .i64 m) := h.at (i := 1) (by omega)
theorem Knd.first (h : Knd w g l m f s o M) : w.cell? ⟨g, 2, none⟩ = some (.int .i64 f) := h.at (i := 2) (by omega)
theorem Knd.last (h : Knd w g l m f s o M) : w.cell? ⟨g, 3, none⟩ = some (.int .i64 s) := h.at (i := 3) (by omega)
theorem Knd.own (h : Knd w g l m f s o M) : w.cell? ⟨g, 18, none⟩ = some (.int .i64 o) := h.at (i := 18) (by omega)
theorem Knd.many (h : Knd w g l m f s o M) {b : Nat} (hb : b < 14) : w.cell? ⟨g, 4 + b, none⟩ = some (.int .i64 ((M b : Nat) : Int)) := by
  have := h.at (i := 4 + b) (by omega)
  have e : kdC l m f s o M (4 + b) = ((M b : Nat) : Int) := by
    unfold kdC
    rw [if_neg (by omega), if_neg (by omega), if_neg (by omega), if_neg (by omega), if_pos (by omega), show 4 + b - 4 = b by omega]
  rw [e] at this; exact this
theorem Knd.frozen (h : Knd w g l m f s o M) (j : Nat) : w.frozen? ⟨g, j, none⟩ = false := frozen_of_row w g j _ _ h
theorem Knd.below {B : Nat} (h : Knd w g l m f s o M) (hb : Below B w w') (hg : g < B) : Knd w' g l m f s o M := (hb.block g hg).trans h
theorem Knd.drew (h : Knd w g l m f s o M) : Knd w.drew g l m f s o M := h
theorem Knd.drewN (h : Knd w g l m f s o M) (k : Nat) : Knd (w.drewN k) g l m f s o M := h
end
theorem knd_new (w : World) (l m f s o : Int) (M : Nat → Nat) : Knd (w.alloc (.cells (kdA l m f s o M) 41)) w.heap.size l m f s o M := heap_alloc_new w _
set_option maxRecDepth 100000 in
set_option maxHeartbeats 1000000 in
theorem has9_any (w : World) (l m f s o : Int) (M : Nat → Nat) (y : Int) (h : Bool) (hh : h = decide (f ≤ y ∧ y ≤ s)) :
    Calls Try.prog 32 #[.agg (kdA l m f s o M), .int .i64 y] w fun e w' => e = .returned (.bool h) ∧ Below w.heap.size w w' := by
  have hk := knd_new w l m f s o M
  have hb : Below w.heap.size w (w.alloc (.cells (kdA l m f s o M) 41)) := (Below.refl _ _).alloc (Nat.le_refl _) _
  have k2 := hk.first
  have k3 := hk.last
  obtain ⟨a, ha⟩ : ∃ a, a = decide (f ≤ y) := ⟨_, rfl⟩
  obtain ⟨c, hc⟩ : ∃ c, c = decide (y ≤ s) := ⟨_, rfl⟩
  have hh2 : h = (a && c) := by rw [hh, ha, hc]; simp
  have HB := Lib.hid hb; have HH := Lib.hid hh2
  clear hk hb hh hh2
  have ha1 : decide (f ≤ y) = a := ha.symm
  have hc1 : decide (y ≤ s) = c := hc.symm
  clear ha hc
  rcases a with _ | _
  · go_enter Try.func32, Try.ntmps32
    go_wp2
    go_ret
    exact ⟨by rw [HH.out]; rfl, HB.out⟩
  · go_enter Try.func32, Try.ntmps32
    go_wp2
    go_ret
    exact ⟨by rw [HH.out]; rfl, HB.out⟩
theorem belowN9 {B : Nat} {a w : World} (h : Below B a w) (n : Nat) : Below B a (w.drewN n) := ⟨h.os, h.tape, h.output, h.size, h.block⟩
theorem sh9 (z b : Nat) (hz : z ≤ 40000) (hb : b < 14) : wrap64 ((z : Int) * 2 ^ b) = ((z * p2N b : Nat) : Int) ∧ z * p2N b ≤ 327680000 := by
  have e : (z : Int) * 2 ^ b = ((z * 2 ^ b : Nat) : Int) := by rw [Int.natCast_mul, Int.natCast_pow]; rfl
  have h1 : 2 ^ b ≤ 2 ^ 13 := Nat.pow_le_pow_right (by omega) (by omega)
  have h2 : z * 2 ^ b ≤ 40000 * 2 ^ 13 := Nat.mul_le_mul hz h1
  have h3 : 40000 * 2 ^ 13 = 327680000 := rfl
  rw [e]
  unfold p2N
  generalize z * 2 ^ b = x at h2
  unfold wrap64
  omega
/-- What begin tells: the least number of a symbol and how many extra bits it has. -/
def BgOut (l f : Int) (M : Nat → Nat) (y : Int) (e : Ending) : Prop :=
  ∃ b z : Nat, b < 14 ∧ z < M b ∧ y = f + ((smC M b + z : Nat) : Int) ∧ e = .returned (.tuple #[.int .i64 (l + ((smS M b + z * p2N b : Nat) : Int)), .int .i64 (b : Int)])
theorem smC_mono (M : Nat → Nat) {i : Nat} : ∀ d, smC M i ≤ smC M (i + d)
  | 0 => Nat.le_refl _
  | d + 1 => Nat.le_trans (smC_mono M d) (Nat.le_add_right _ _)
theorem smS_mono (M : Nat → Nat) {i : Nat} : ∀ d, smS M i ≤ smS M (i + d)
  | 0 => Nat.le_refl _
  | d + 1 => Nat.le_trans (smS_mono M d) (Nat.le_add_right _ _)
theorem smC_le (M : Nat → Nat) {i j : Nat} (h : i ≤ j) : smC M i ≤ smC M j := by
  have := smC_mono M (i := i) (j - i); rwa [show i + (j - i) = j by omega] at this
theorem smS_le (M : Nat → Nat) {i j : Nat} (h : i ≤ j) : smS M i ≤ smS M j := by
  have := smS_mono M (i := i) (j - i); rwa [show i + (j - i) = j by omega] at this
set_option maxRecDepth 100000 in
set_option maxHeartbeats 2000000 in
/-- The symbol that has the number of its own. -/
theorem begin9_own (w : World) (l m f s o : Int) (M : Nat → Nat) (ho : o ≠ 0) :
    Calls Try.prog 33 #[.agg (kdA l m f s o M), .int .i64 s] w fun e w' => e = .returned (.tuple #[.int .i64 o, .int .i64 0]) ∧ Below w.heap.size w w' := by
  have hk := knd_new w l m f s o M
  have hb : Below w.heap.size w (w.alloc (.cells (kdA l m f s o M) 41)) := (Below.refl _ _).alloc (Nat.le_refl _) _
  have k2 := hk.own
  have k3 := hk.last
  have h1 : (o != 0) = true := by simpa using ho
  have h2 : (s == s) = true := by simp
  have HB := Lib.hid hb
  clear hk hb ho
  go_enter Try.func33, Try.ntmps33
  go_wp2
  go_ret2
  exact ⟨rfl, HB.out⟩
set_option maxRecDepth 100000 in
set_option maxHeartbeats 4000000 in
theorem begin9_any (w : World) (l m f s o : Int) (M : Nat → Nat) (y : Int) (hown : o = 0 ∨ y ≠ s) (hl : 0 ≤ l ∧ l ≤ 1000) (hf : 0 ≤ f ∧ f ≤ 1000) (h1 : f ≤ y) (h2 : y < f + ((smC M 14 : Nat) : Int)) (hC : smC M 14 ≤ 40) (hS : smS M 14 ≤ 40000) :
    Calls Try.prog 33 #[.agg (kdA l m f s o M), .int .i64 y] w fun e w' => BgOut l f M y e ∧ Below w.heap.size w w' := by
  have hk := knd_new w l m f s o M
  have hb : Below w.heap.size w (w.alloc (.cells (kdA l m f s o M) 41)) := (Below.refl _ _).alloc (Nat.le_refl _) _
  have k2 := hk.own
  have k3 := hk.last
  have k4 := hk.least
  have k5 := hk.first
  obtain ⟨B1, hB1⟩ : ∃ B1, B1 = (o != 0) := ⟨_, rfl⟩
  obtain ⟨B2, hB2⟩ : ∃ B2, B2 = (y == s) := ⟨_, rfl⟩
  have hyb : y ≤ 1040 := by omega
  have hB : B1 = false ∨ B2 = false := by
    rcases hown with e | e
    · left; rw [hB1, e]; rfl
    · right; rw [hB2]; simpa using e
  have e1 := hB1.symm
  have e2 := hB2.symm
  have HB := Lib.hid hb; have HC := Lib.hid hC; have HS := Lib.hid hS; have HK := Lib.hid hk; have H2 := Lib.hid h2; have HBB := Lib.hid hB
  clear hb hC hS hk h2 hB1 hB2 hown hB
  rcases B1 with _ | _ <;> rcases B2 with _ | _
  case true.true => rcases HBB.out with h | h <;> cases h
  all_goals (
    clear HBB
    go_enter Try.func33, Try.ntmps33
    go_wp2
    go_quiet (fail)
    go_wp2
    go_loopw [4, 5, 6] (fun lv bv fv wr => ∃ b z S : Nat, b < 14 ∧ z ≤ 40 ∧ S ≤ 40000 ∧ lv = .int .i64 (l + (S : Int)) ∧ bv = .int .i64 (b : Int) ∧ fv = .int .i64 (z : Int) ∧ Hid (S = smS M b) ∧ Hid (y = f + ((smC M b + z : Nat) : Int)) ∧ Hid (Knd wr w.heap.size l m f s o M) ∧ Hid (Below w.heap.size w wr)) (fun _ bv _ _ => 14 - (intOf bv).toNat)
    case atStart =>
      refine ⟨0, (y - f).toNat, 0, by omega, ?_, by omega, by simp, rfl, ?_, Lib.hid rfl, Lib.hid ?_, Lib.hid (HK.out.drewN _), Lib.hid (belowN9 HB.out _)⟩
      · have := H2.out; have := HC.out; omega
      · exact val_int (by omega)
      · show y = f + ((0 + (y - f).toNat : Nat) : Int); omega
    case round =>
      obtain ⟨b, z, S, hb, hz, hS, rfl, rfl, rfl, HSS, HY, HKR, HBR⟩ := hrel
      have c1 := HKR.out.many hb
      obtain ⟨q, hq⟩ : ∃ q, q = M b := ⟨_, rfl⟩
      rw [← hq] at c1
      have HQ := Lib.hid hq
      clear hq
      have hq40 : q ≤ 40 := by
        rw [HQ.out]
        have : smC M (b + 1) ≤ smC M 14 := smC_le M (by omega)
        have h3 : smC M (b + 1) = smC M b + M b := rfl
        have := HC.out; omega
      by_cases hlt : q ≤ z
      · have hlt2 : (q : Int) ≤ (z : Int) := by omega
        have hd : decide ((q : Int) ≤ (z : Int)) = true := decY hlt2
        have hd2 : decide (q ≤ z) = true := decY hlt
        go_wp2
        go_roundw
        case rel =>
          obtain ⟨g1, g2⟩ := sh9 q b (by omega) hb
          have hb13 : b + 1 < 14 := by
            rcases Nat.lt_or_ge (b + 1) 14 with h | h
            · exact h
            · exfalso
              have e13 : b = 13 := by omega
              have h1 := H2.out; have h2 := HY.out
              have h3 : smC M 14 = smC M 13 + M 13 := rfl
              rw [e13] at h2 HQ
              have := HQ.out
              omega
          have hS1 : smS M (b + 1) = S + q * p2N b := by rw [HSS.out, HQ.out]; rfl
          have hS2 : smS M (b + 1) ≤ 40000 := Nat.le_trans (smS_le M (by omega)) HS.out
          have hC1 : smC M (b + 1) = smC M b + q := by rw [HQ.out]; rfl
          refine ⟨b + 1, z - q, S + q * p2N b, hb13, by omega, by omega, val_int ?_, by go_num, val_int (by omega), Lib.hid hS1.symm, Lib.hid ?_, HKR, HBR⟩
          · rw [g1]; unfold wrap64; omega
          · rw [HY.out, hC1]; omega
        case measure => simp [intOf]; omega
      · have hd : decide ((q : Int) ≤ (z : Int)) = false := decN (by omega)
        have hd2 : decide (q ≤ z) = false := decN hlt
        go_wp2
        go_ret2
        obtain ⟨g1, g2⟩ := sh9 z b (by omega) hb
        refine ⟨⟨b, z, hb, by rw [← HQ.out]; omega, HY.out, ?_⟩, HBR.out⟩
        rw [g1, ← HSS.out]
        have e : wrap64 (l + (S : Int) + ((z * p2N b : Nat) : Int)) = l + ((S + z * p2N b : Nat) : Int) := by unfold wrap64; omega
        rw [e]
        rfl)
/-- What begin tells, whole. -/
def BgN (l f s o : Int) (M : Nat → Nat) (y L : Int) (b : Nat) : Prop :=
  (o ≠ 0 ∧ y = s ∧ L = o ∧ b = 0) ∨ ((o = 0 ∨ y ≠ s) ∧ ∃ z : Nat, b < 14 ∧ z < M b ∧ y = f + ((smC M b + z : Nat) : Int) ∧ L = l + ((smS M b + z * p2N b : Nat) : Int))
/-- A kind that is as it should be. -/
structure KndOk (l m f s o : Int) (M : Nat → Nat) : Prop where
  l0 : 0 ≤ l ∧ l ≤ 1000
  f0 : 0 ≤ f ∧ f ≤ 1000
  o0 : 0 ≤ o ∧ o ≤ 1000
  s0 : s ≤ 1100
  m0 : m < l + ((smS M 14 : Nat) : Int)
  sC : (o = 0 ∧ s < f + ((smC M 14 : Nat) : Int)) ∨ (o ≠ 0 ∧ s ≤ f + ((smC M 14 : Nat) : Int))
  C14 : smC M 14 ≤ 40
  S14 : smS M 14 ≤ 40000
theorem many_le {M : Nat → Nat} {b : Nat} (hb : b < 14) : smC M b + M b ≤ smC M 14 ∧ smS M b + M b * p2N b ≤ smS M 14 :=
  ⟨smC_le M (i := b + 1) (by omega), smS_le M (i := b + 1) (by omega)⟩
theorem bg_le {l m f s o : Int} {M : Nat → Nat} (hk : KndOk l m f s o M) {y L : Int} {b : Nat} (h : BgN l f s o M y L b) : 0 ≤ L ∧ L ≤ 42000 ∧ b < 14 := by
  have h1 := hk.l0; have h2 := hk.o0; have h3 := hk.S14
  rcases h with ⟨_, _, rfl, rfl⟩ | ⟨_, z, hb, hz, _, rfl⟩
  · omega
  · have h4 := (many_le (M := M) hb).2
    have h5 : z * p2N b ≤ M b * p2N b := Nat.mul_le_mul_right _ (by omega)
    omega
theorem begin9_all (w : World) (l m f s o : Int) (M : Nat → Nat) (hk : KndOk l m f s o M) (y : Int) (hy : f ≤ y ∧ y ≤ s) :
    Calls Try.prog 33 #[.agg (kdA l m f s o M), .int .i64 y] w fun e w' => (∃ (L : Int) (b : Nat), BgN l f s o M y L b ∧ e = .returned (.tuple #[.int .i64 L, .int .i64 (b : Int)])) ∧ Below w.heap.size w w' := by
  by_cases h : o ≠ 0 ∧ y = s
  · obtain ⟨h1, rfl⟩ := h
    refine (begin9_own w l m f y o M h1).mono ?_
    rintro e w' ⟨rfl, hb⟩
    exact ⟨⟨o, 0, .inl ⟨h1, rfl, rfl, rfl⟩, rfl⟩, hb⟩
  · have h2 : o = 0 ∨ y ≠ s := by
      by_cases h0 : o = 0
      · exact .inl h0
      · exact .inr fun e => h ⟨h0, e⟩
    have hC := hk.sC
    refine (begin9_any w l m f s o M y h2 hk.l0 hk.f0 hy.1 (by rcases h2 with e | e <;> omega) hk.C14 hk.S14).mono ?_
    rintro e w' ⟨⟨b, z, h3, h4, h5, rfl⟩, hb⟩
    exact ⟨⟨_, b, .inr ⟨h2, z, h3, h4, h5, rfl⟩, rfl⟩, hb⟩
end Go.Proofs.Ytdecacajignkoaa
