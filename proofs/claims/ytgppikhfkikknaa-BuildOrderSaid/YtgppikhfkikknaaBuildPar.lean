/-
  Layer 4 (build): what is in each parcel of a row, as numbers; rows of parcels in memory, and one more put behind.
-/
import Derived.Test.YtgppikhfkikknaaBuildItm
namespace Go.Proofs.Ytgppikhfkikknaa
open Go.RowKit Go.ChangeShapes Go.WideShapes Go.ChangeAt
/-! ### what is in a parcel -/
def mrgOf (n m : Nat) (w p a q : Nat → Nat) (t : Nat) : Nat :=
  if pickB n m w p (stepI n m w p t) (t - stepI n m w p t) = true then a (stepI n m w p t) else q (t - stepI n m w p t)
theorem sm_mrgOf {n m : Nat} {w p a q : Nat → Nat} : ∀ t, t ≤ n + m → sm (mrgOf n m w p a q) t = sm a (stepI n m w p t) + sm q (t - stepI n m w p t)
  | 0, _ => rfl
  | t + 1, h => by
    have hbd := stepI_bd (n := n) (m := m) (w := w) (p := p) t (by omega)
    have e : sm (mrgOf n m w p a q) (t + 1) = sm (mrgOf n m w p a q) t + mrgOf n m w p a q t := rfl
    rw [e, sm_mrgOf t (by omega)]
    simp only [stepI, mrgOf]
    by_cases hc : pickB n m w p (stepI n m w p t) (t - stepI n m w p t) = true
    · rw [if_pos hc, if_pos hc, show t + 1 - (stepI n m w p t + 1) = t - stepI n m w p t by omega]
      simp only [sm]; omega
    · rw [if_neg hc, if_neg hc, show t + 1 - stepI n m w p t = t - stepI n m w p t + 1 by omega]
      simp only [sm]; omega
/-- How often item i is in parcel t of row k + 1. -/
def conN (n : Nat) (w : Nat → Nat) : Nat → Nat → Nat → Nat
  | 0, t, i => if i = t then 1 else 0
  | k + 1, t, i => mrgOf n (rowLen n k / 2) w (prs (rowW n w k)) (fun s => if i = s then 1 else 0) (prs fun s => conN n w k s i) t
theorem sm_one (i : Nat) : ∀ t, sm (fun s => if i = s then 1 else 0) t = if i < t then 1 else 0
  | 0 => rfl
  | t + 1 => by
    simp only [sm]
    rw [sm_one i t]
    split <;> split <;> split <;> omega
theorem sm_con {n : Nat} {w : Nat → Nat} (i : Nat) : ∀ k t, t ≤ rowLen n k → sm (fun s => conN n w k s i) t = cntN n w k t i
  | 0, t, _ => sm_one i t
  | k + 1, t, h => by
    have hbd := stepI_bd (n := n) (m := rowLen n k / 2) (w := w) (p := prs (rowW n w k)) t h
    have e1 : sm (fun s => conN n w (k + 1) s i) t = sm (fun s => if i = s then 1 else 0) (takeI n w (k + 1) t) + sm (prs fun s => conN n w k s i) (t - takeI n w (k + 1) t) := sm_mrgOf t h
    have e2 : cntN n w (k + 1) t i = (if i < takeI n w (k + 1) t then 1 else 0) + cntN n w k (2 * (t - takeI n w (k + 1) t)) i := rfl
    have hbd3 : t - takeI n w (k + 1) t ≤ rowLen n k / 2 := hbd.2.1
    rw [e1, e2, sm_one, sm_prs, sm_con i k _ (by omega)]
theorem con_le {n : Nat} {w : Nat → Nat} {k t : Nat} (h : t < rowLen n k) (i : Nat) : conN n w k t i ≤ k + 1 := by
  have h1 := sm_con (n := n) (w := w) i k (t + 1) h
  have h2 := cnt_le n w k (t + 1) i
  have e : sm (fun s => conN n w k s i) (t + 1) = sm (fun s => conN n w k s i) t + conN n w k t i := rfl
  omega
theorem row_le {n M : Nat} {w : Nat → Nat} (hM : ∀ i, i < n → w i ≤ M) : ∀ k t, t < rowLen n k → rowW n w k t ≤ 2 ^ k * M
  | 0, t, h => by have := hM t h; simpa [rowW] using this
  | k + 1, t, h => by
    have hbd := stepI_bd (n := n) (m := rowLen n k / 2) (w := w) (p := prs (rowW n w k)) t (by have : rowLen n (k + 1) = n + rowLen n k / 2 := rfl; omega)
    have hlen : rowLen n (k + 1) = n + rowLen n k / 2 := rfl
    have hbd2 := stepI_bd (n := n) (m := rowLen n k / 2) (w := w) (p := prs (rowW n w k)) (t + 1) (by omega)
    have hM1 : M ≤ 2 ^ (k + 1) * M := Nat.le_mul_of_pos_left _ (Nat.two_pow_pos _)
    have hs : stepI n (rowLen n k / 2) w (prs (rowW n w k)) (t + 1) = if pickB n (rowLen n k / 2) w (prs (rowW n w k)) (stepI n (rowLen n k / 2) w (prs (rowW n w k)) t) (t - stepI n (rowLen n k / 2) w (prs (rowW n w k)) t) = true then stepI n (rowLen n k / 2) w (prs (rowW n w k)) t + 1 else stepI n (rowLen n k / 2) w (prs (rowW n w k)) t := rfl
    have er : rowW n w (k + 1) t = mrg n (rowLen n k / 2) w (prs (rowW n w k)) t := rfl
    rw [er]
    unfold mrg
    by_cases hc : pickB n (rowLen n k / 2) w (prs (rowW n w k)) (stepI n (rowLen n k / 2) w (prs (rowW n w k)) t) (t - stepI n (rowLen n k / 2) w (prs (rowW n w k)) t) = true
    · rw [if_pos hc] at hs ⊢
      exact Nat.le_trans (hM _ (by omega)) hM1
    · rw [if_neg hc] at hs ⊢
      have h1 := row_le hM k (2 * (t - stepI n (rowLen n k / 2) w (prs (rowW n w k)) t)) (by omega)
      have h2 := row_le hM k (2 * (t - stepI n (rowLen n k / 2) w (prs (rowW n w k)) t) + 1) (by omega)
      have h3 : prs (rowW n w k) (t - stepI n (rowLen n k / 2) w (prs (rowW n w k)) t) = rowW n w k (2 * (t - stepI n (rowLen n k / 2) w (prs (rowW n w k)) t)) + rowW n w k (2 * (t - stepI n (rowLen n k / 2) w (prs (rowW n w k)) t) + 1) := rfl
      rw [h3, Nat.pow_succ, Nat.mul_comm (2 ^ k) 2, Nat.mul_assoc]
      omega
/-! ### rows of parcels in memory -/
theorem infoPar : (Try.prog.info? 71).map (fun i => (i.zero, i.size, i.bytes)) = some (some (.agg #[.int .i64 0, .slice none 0 0]), 2, 32) := by kernel_rfl
def ParL (w : World) (B : Nat) (ex : Option Nat) (n m : Nat) (W : Nat → Nat) (C : Nat → Nat → Nat) (cs : List Value) : Prop :=
  cs.length = m * 2 ∧ ∀ t, t < m → ∃ b, cs[t * 2]? = some (.int .i64 (W t : Int)) ∧ cs[t * 2 + 1]? = some (.slice (some ⟨b, 0, none⟩) n n) ∧ b < B ∧ some b ≠ ex ∧ ∀ i, i < n → w.cell? ⟨b, i, none⟩ = some (.int .i64 (C t i : Int))
def OwnP (w : World) (base : Nat) (A : Option Addr) (c n m : Nat) (W : Nat → Nat) (C : Nat → Nat → Nat) : Prop :=
  ∃ cs, w.ownsRow base 71 2 (.slice A m c) m cs ∧ ParL w w.heap.size (Value.slice A m c).ownBlock n m W C cs
def RdP (w : World) (B : Nat) (A : Option Addr) (n m : Nat) (W : Nat → Nat) (C : Nat → Nat → Nat) : Prop := ∃ cs, SrcL w B 2 A m cs ∧ ParL w B none n m W C cs
theorem OwnP.none_ (w : World) (base n : Nat) (W : Nat → Nat) (C : Nat → Nat → Nat) : OwnP w base none 0 n 0 W C := ⟨[], World.ownsRow_nil w _ _ 2, by simp, fun t h => absurd h (by omega)⟩
theorem OwnP.rd {w : World} {base c n m : Nat} {A : Option Addr} {W : Nat → Nat} {C : Nat → Nat → Nat} (h : OwnP w base A c n m W C) : RdP w w.heap.size A n m W C := by
  obtain ⟨cs, h1, h2, h3⟩ := h
  refine ⟨cs, SrcL.of_own h1, h2, fun t ht => ?_⟩
  obtain ⟨b, q1, q2, q3, _, q5⟩ := h3 t ht
  exact ⟨b, q1, q2, q3, (by simp), q5⟩
theorem RdP.below {w w' : World} {B B' n m : Nat} {A : Option Addr} {W : Nat → Nat} {C : Nat → Nat → Nat} (h : RdP w B A n m W C) (hb : Below B' w w') (hB : B ≤ B') : RdP w' B A n m W C := by
  obtain ⟨cs, h1, h2, h3⟩ := h
  refine ⟨cs, h1.below hb hB, h2, fun t ht => ?_⟩
  obtain ⟨b, q1, q2, q3, q4, q5⟩ := h3 t ht
  exact ⟨b, q1, q2, q3, q4, fun i hi => by rw [hb.cell (p := ⟨b, i, none⟩) (by show b < B'; omega)]; exact q5 i hi⟩
theorem RdP.more {w : World} {B B' n m : Nat} {A : Option Addr} {W : Nat → Nat} {C : Nat → Nat → Nat} (h : RdP w B A n m W C) (hB : B ≤ B') : RdP w B' A n m W C := by
  obtain ⟨cs, h1, h2, h3⟩ := h
  refine ⟨cs, h1.more hB, h2, fun t ht => ?_⟩
  obtain ⟨b, q1, q2, q3, q4, q5⟩ := h3 t ht
  exact ⟨b, q1, q2, by omega, q4, q5⟩
theorem RdP.at {w : World} {B n m : Nat} {A : Option Addr} {W : Nat → Nat} {C : Nat → Nat → Nat} (h : RdP w B A n m W C) (hm : 0 < m) : ∃ a o, A = some ⟨a, o, none⟩ ∧ a < B ∧
    ∀ t, t < m → ∃ b, w.cell? ⟨a, o + t * 2, none⟩ = some (.int .i64 (W t : Int)) ∧ w.cell? ⟨a, o + t * 2 + 1, none⟩ = some (.slice (some ⟨b, 0, none⟩) n n) ∧ b < B ∧ ∀ i, i < n → w.cell? ⟨b, i, none⟩ = some (.int .i64 (C t i : Int)) := by
  obtain ⟨cs, h1, h2, h3⟩ := h
  obtain ⟨a, o, rfl, ha, hc⟩ := h1.2 hm
  refine ⟨a, o, rfl, ha, fun t ht => ?_⟩
  obtain ⟨b, q1, q2, q3, q4, q5⟩ := h3 t ht
  exact ⟨b, hc _ _ q1, hc _ _ q2, q3, q5⟩
theorem OwnP.after {w w' : World} {base c n m : Nat} {A : Option Addr} {W : Nat → Nat} {C : Nat → Nat → Nat} (h : OwnP w base A c n m W C) (hb : Below w.heap.size w w') : OwnP w' base A c n m W C := by
  obtain ⟨cs, h1, h2, h3⟩ := h
  have hg : w.grownBy w' none := ⟨hb.os, hb.tape, hb.output, hb.size, fun k hk _ => hb.block k hk⟩
  refine ⟨cs, h1.kept hg (by cases (Value.slice A m c).ownBlock <;> simp), h2, fun t ht => ?_⟩
  obtain ⟨b, q1, q2, q3, q4, q5⟩ := h3 t ht
  have hs := hb.size
  exact ⟨b, q1, q2, by omega, q4, fun i hi => by rw [hb.cell (p := ⟨b, i, none⟩) q3]; exact q5 i hi⟩
set_option maxRecDepth 100000 in
/-- One more parcel put behind a row of the call's own. -/
theorem run_par (w : World) (base : Nat) (A : Option Addr) (c n m : Nat) (W : Nat → Nat) (C : Nat → Nat → Nat) (h : OwnP w base A c n m W C) (b : Nat) (hb : b < w.heap.size) (hne : some b ≠ (Value.slice A m c).ownBlock)
    (hc : ∀ i, i < n → w.cell? ⟨b, i, none⟩ = some (.int .i64 (C m i : Int))) (hm : m + 1 ≤ 1000) (hbase : base ≤ w.heap.size) :
    ∃ A' c' w', (Builtin.append_ #[66, 66] 66 #[.slice A m c, .slice (some ⟨w.heap.size, 0, none⟩) 1 1]).run Try.prog (w.alloc (.cells #[.int .i64 (W m : Int), .slice (some ⟨b, 0, none⟩) n n] 71)) = .ok (.slice A' (m + 1) c') w' ∧
      OwnP w' base A' c' n (m + 1) W C ∧ Below base w w' := by
  obtain ⟨cs, h1, h2, h3⟩ := h
  obtain ⟨U, hU⟩ : ∃ U, U = w.alloc (.cells #[.int .i64 (W m : Int), .slice (some ⟨b, 0, none⟩) n n] 71) := ⟨_, rfl⟩
  have hUs : U.heap.size = w.heap.size + 1 := by rw [hU]; simp
  have hUb : Below w.heap.size w U := by rw [hU]; exact (Below.refl _ _).alloc (Nat.le_refl _) _
  have hown : U.ownsRow base 71 2 (.slice A m c) m cs := by rw [hU]; exact h1.alloc _
  have hsrc := SrcL.new w 2 1 #[.int .i64 (W m : Int), .slice (some ⟨b, 0, none⟩) n n] 71 rfl
  rw [← hU] at hsrc
  obtain ⟨i0, hi, hz0, hz1, hz2⟩ := info_parts infoPar
  have hcells : ∀ j u, ([Value.int .i64 (W m : Int), .slice (some ⟨b, 0, none⟩) n n] : List Value)[j]? = some u → U.cell? ((⟨w.heap.size, 0, none⟩ : Addr).add j) = some u := by
    intro j u hu
    obtain ⟨b2, o2, e, _, hc2⟩ := hsrc.2 (by omega)
    injection e with e
    injection e with e1 e2 e3
    subst e1; subst e2
    have e : (⟨w.heap.size, 0, none⟩ : Addr).add j = ⟨w.heap.size, 0 + j, none⟩ := by unfold Addr.add; split <;> simp_all
    rw [e]; exact hc2 j u hu
  obtain ⟨v', w', r1, r2, r3, _, r5⟩ := run_append_own_at (P := Try.prog) U base 66 66 71 i0 _ 2 32 Try.underlying66 hi hz0 hz1 hz2 rfl (by decide) (.slice A m c) m cs hown ⟨w.heap.size, 0, none⟩ 1 1 _ rfl hcells
    (fun u hu => by simp at hu; rcases hu with rfl | rfl <;> rfl) (by unfold maxLen; omega) (by omega) (by omega)
  have hv : ∃ A' c', v' = .slice A' (m + 1) c' := by
    rcases r2.2 with ⟨_, h⟩ | ⟨g, cap, cur, rfl, _⟩
    · omega
    · exact ⟨_, _, rfl⟩
  obtain ⟨A', c', rfl⟩ := hv
  have hlt : ∀ k, k < w.heap.size → some k ≠ (Value.slice A m c).ownBlock → w'.heap[k]? = w.heap[k]? ∧ some k ≠ (Value.slice A' (m + 1) c').ownBlock := by
    intro k hk hkn
    refine ⟨(r3.block k (by omega) hkn).trans (hUb.block k hk), fun e => ?_⟩
    rcases r5 with r5 | r5
    · exact hkn (e.trans r5)
    · rw [← e, hUs] at r5; injection r5 with r5; omega
  have hsz : w.heap.size ≤ w'.heap.size := by have := r3.size; omega
  refine ⟨A', c', w', (by rw [← hU]; exact r1), ⟨cs ++ [.int .i64 (W m : Int), .slice (some ⟨b, 0, none⟩) n n], r2, by simp [h2]; omega, fun t ht => ?_⟩, ((hUb.mono hbase).grown r3 (by omega) (own_geS hown))⟩
  by_cases e : t = m
  · subst e
    obtain ⟨q1, q2⟩ := hlt b hb hne
    refine ⟨b, by rw [List.getElem?_append_right (by omega), h2]; simp, by rw [List.getElem?_append_right (by omega), h2, show t * 2 + 1 - t * 2 = 1 by omega]; rfl, by omega, q2, fun i hi => ?_⟩
    rw [World.cell?_of_block (a := ⟨b, i, none⟩) q1]; exact hc i hi
  · obtain ⟨d, q1, q2, q3, q4, q5⟩ := h3 t (by omega)
    obtain ⟨p1, p2⟩ := hlt d q3 q4
    refine ⟨d, by rw [List.getElem?_append_left (by omega)]; exact q1, by rw [List.getElem?_append_left (by omega)]; exact q2, by omega, p2, fun i hi => ?_⟩
    rw [World.cell?_of_block (a := ⟨d, i, none⟩) p1]; exact q5 i hi
end Go.Proofs.Ytgppikhfkikknaa
