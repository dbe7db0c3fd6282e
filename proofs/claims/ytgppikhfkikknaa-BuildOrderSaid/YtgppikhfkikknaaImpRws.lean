/-
  Layer 4 (build): the program's rows of parcels, all of them.
-/
import Derived.Test.YtgppikhfkikknaaImpMrg
namespace Go.Proofs.Ytgppikhfkikknaa
open Go.RowKit
/-- The symbols of row K + 1. -/
def zK (n : Nat) (W : Nat → Nat) (Z : Nat → Int) : Nat → Nat → Int
  | 0 => Z
  | K + 1 => mrgZ n (rowLen n K / 2) W (prs (rowW n W K)) Z (fun _ => -1)
/-- m parcels at A, not in block ex. -/
def RdX (w : World) (lo B : Nat) (ex : Option Nat) (A : Option Addr) (m : Nat) (W : Nat → Nat) (Z : Nat → Int) : Prop :=
  ∃ b o, A = some ⟨b, o, none⟩ ∧ lo ≤ b ∧ b < B ∧ some b ≠ ex ∧ ∀ j, j < m * 2 → w.cell? ⟨b, o + j, none⟩ = some (.int .i64 (parN W Z j))
theorem RdX.rd {w : World} {lo B m : Nat} {ex : Option Nat} {A : Option Addr} {W : Nat → Nat} {Z : Nat → Int} (h : RdX w lo B ex A m W Z) : RdQ w lo B A m W Z := fun _ => by
  obtain ⟨b, o, h1, h2, h3, _, h5⟩ := h
  exact ⟨b, o, h1, h2, h3, h5⟩
/-- k rows in a row of slices of the call's own. -/
def OwnR (w : World) (base lo : Nat) (A : Option Addr) (c k n : Nat) (W : Nat → Nat) (Z : Nat → Int) : Prop :=
  ∃ xs, w.ownsRow base 44 1 (.slice A k c) k xs ∧ ∀ K, K < k → ∃ AK cK, xs[K]? = some (.slice AK (rowLen n K) cK) ∧ rowLen n K ≤ cK ∧ RdX w lo w.heap.size (Value.slice A k c).ownBlock AK (rowLen n K) (rowW n W K) (zK n W Z K)
/-- k rows, read. -/
def RdR (w : World) (lo B : Nat) (A : Option Addr) (k n : Nat) (W : Nat → Nat) (Z : Nat → Int) : Prop :=
  ∃ b o, A = some ⟨b, o, none⟩ ∧ lo ≤ b ∧ b < B ∧ ∀ K, K < k → ∃ AK cK, w.cell? ⟨b, o + K, none⟩ = some (.slice AK (rowLen n K) cK) ∧ rowLen n K ≤ cK ∧ RdQ w lo B AK (rowLen n K) (rowW n W K) (zK n W Z K)
theorem OwnR.rd {w : World} {base lo c k n : Nat} {A : Option Addr} {W : Nat → Nat} {Z : Nat → Int} (h : OwnR w base lo A c k n W Z) (hk : 0 < k) (hb : lo ≤ base) : RdR w lo w.heap.size A k n W Z := by
  obtain ⟨xs, h1, h2⟩ := h
  have hs := SrcL.of_own h1
  obtain ⟨b, o, e, hlt, hc⟩ := hs.2 hk
  refine ⟨b, o, e, Nat.le_trans hb (own_geS h1 b (by rw [e]; rfl)), hlt, fun K hK => ?_⟩
  obtain ⟨AK, cK, q1, q2, q3⟩ := h2 K hK
  exact ⟨AK, cK, hc K _ q1, q2, q3.rd⟩
theorem OwnR.after {w w' : World} {base lo c k n : Nat} {A : Option Addr} {W : Nat → Nat} {Z : Nat → Int} (h : OwnR w base lo A c k n W Z) (hb : Below w.heap.size w w') : OwnR w' base lo A c k n W Z := by
  obtain ⟨xs, h1, h2⟩ := h
  have hg : w.grownBy w' none := ⟨hb.os, hb.tape, hb.output, hb.size, fun k hk _ => hb.block k hk⟩
  refine ⟨xs, h1.kept hg (by cases (Value.slice A k c).ownBlock <;> simp), fun K hK => ?_⟩
  obtain ⟨AK, cK, q1, q2, b, o, q3, q4, q5, q6, q7⟩ := h2 K hK
  have hs := hb.size
  exact ⟨AK, cK, q1, q2, b, o, q3, q4, by omega, q6, fun j hj => by rw [hb.cell (p := ⟨b, o + j, none⟩) q5]; exact q7 j hj⟩
theorem infoRowP : (Try.prog.info? 44).map (fun i => (i.zero, i.size, i.bytes)) = some (some (.slice none 0 0), 1, 24) := by kernel_rfl
set_option maxRecDepth 100000 in
/-- One more row. -/
theorem run_row (w : World) (base lo : Nat) (A : Option Addr) (c k n : Nat) (W : Nat → Nat) (Z : Nat → Int) (h : OwnR w base lo A c k n W Z) (AK : Option Addr) (cK : Nat) (hcK : rowLen n k ≤ cK) (hr : RdX w lo w.heap.size (Value.slice A k c).ownBlock AK (rowLen n k) (rowW n W k) (zK n W Z k)) (m : Nat) (hm : m = rowLen n k) (hk : k ≤ 1000) (hbase : base ≤ w.heap.size) :
    ∃ A' c' w', (Builtin.append_ #[42, 42] 42 #[.slice A k c, .slice (some ⟨w.heap.size, 0, none⟩) 1 1]).run Try.prog (w.alloc (.cells #[.slice AK m cK] 44)) = .ok (.slice A' (k + 1) c') w' ∧
      OwnR w' base lo A' c' (k + 1) n W Z ∧ Below base w w' := by
  subst hm
  obtain ⟨xs, h1, h2⟩ := h
  obtain ⟨U, hU⟩ : ∃ U, U = w.alloc (.cells #[.slice AK (rowLen n k) cK] 44) := ⟨_, rfl⟩
  have hUs : U.heap.size = w.heap.size + 1 := by rw [hU]; simp
  have hUb : Below w.heap.size w U := by rw [hU]; exact (Below.refl _ _).alloc (Nat.le_refl _) _
  have hown : U.ownsRow base 44 1 (.slice A k c) k xs := by rw [hU]; exact h1.alloc _
  have hsrc := SrcL.new w 1 1 #[.slice AK (rowLen n k) cK] 44 rfl
  rw [← hU] at hsrc
  obtain ⟨i0, hi, hz0, hz1, hz2⟩ := info_parts infoRowP
  have hcells : ∀ j u, ([Value.slice AK (rowLen n k) cK] : List Value)[j]? = some u → U.cell? ((⟨w.heap.size, 0, none⟩ : Addr).add j) = some u := by
    intro j u hu
    obtain ⟨b2, o2, e, _, hc2⟩ := hsrc.2 (by omega)
    injection e with e
    injection e with e1 e2 e3
    subst e1; subst e2
    have e : (⟨w.heap.size, 0, none⟩ : Addr).add j = ⟨w.heap.size, 0 + j, none⟩ := by unfold Addr.add; split <;> simp_all
    rw [e]; exact hc2 j u hu
  obtain ⟨v', w', r1, r2, r3, _, r5⟩ := run_append_own_at (P := Try.prog) U base 42 42 44 i0 _ 1 24 Try.underlying42 hi hz0 hz1 hz2 rfl (by decide) (.slice A k c) k xs hown ⟨w.heap.size, 0, none⟩ 1 1 _ rfl hcells
    (fun u hu => by simp at hu; subst hu; rfl) (by unfold maxLen; omega) (by omega) (by omega)
  have hv : ∃ A' c', v' = .slice A' (k + 1) c' := by
    rcases r2.2 with ⟨_, h⟩ | ⟨g, cap, cur, rfl, _⟩
    · omega
    · exact ⟨_, _, rfl⟩
  obtain ⟨A', c', rfl⟩ := hv
  have hlt : ∀ d, d < w.heap.size → some d ≠ (Value.slice A k c).ownBlock → w'.heap[d]? = w.heap[d]? ∧ some d ≠ (Value.slice A' (k + 1) c').ownBlock := by
    intro d hd hdn
    refine ⟨(r3.block d (by omega) hdn).trans (hUb.block d hd), fun e => ?_⟩
    rcases r5 with r5 | r5
    · exact hdn (e.trans r5)
    · rw [← e, hUs] at r5; injection r5 with r5; omega
  have hsz : w.heap.size ≤ w'.heap.size := by have := r3.size; omega
  have hl : xs.length = k := by have := h1.1; omega
  have hmove : ∀ (B : Option Addr) (V : Nat → Nat) (Y : Nat → Int) (q : Nat), RdX w lo w.heap.size (Value.slice A k c).ownBlock B q V Y → RdX w' lo w'.heap.size (Value.slice A' (k + 1) c').ownBlock B q V Y := fun B V Y q ⟨b, o, q3, q4, q5, q6, q7⟩ => by
    obtain ⟨p1, p2⟩ := hlt b q5 q6
    exact ⟨b, o, q3, q4, by omega, p2, fun j hj => by rw [World.cell?_of_block (a := ⟨b, o + j, none⟩) p1]; exact q7 j hj⟩
  refine ⟨A', c', w', (by rw [← hU]; exact r1), ⟨xs ++ [.slice AK (rowLen n k) cK], r2, fun K hK => ?_⟩, ((hUb.mono hbase).grown r3 (by omega) (own_geS hown))⟩
  by_cases e : K = k
  · subst e
    exact ⟨AK, cK, by rw [List.getElem?_append_right (by omega), hl]; simp, hcK, hmove _ _ _ _ hr⟩
  · obtain ⟨B, d, q1, q2, q3⟩ := h2 K (by omega)
    exact ⟨B, d, by rw [List.getElem?_append_left (by omega)]; exact q1, q2, hmove _ _ _ _ q3⟩
theorem row_new4 {w : World} {lo lo1 g : Nat} {ex : Option Nat} {A : Option Addr} {n m k p : Nat} {W V : Nat → Nat} {Z : Nat → Int} (h : RdQ w lo1 w.heap.size A (n + m / 2) (mrg n (m / 2) W (prs V)) (mrgZ n (m / 2) W (prs V) Z (fun _ => -1))) (hm : m = rowLen n p) (hV : V = rowW n W p) (hk : k = p + 1)
    (hn : 0 < n) (hlo : lo ≤ lo1) (hg : g < lo1) (hex : ex = some g) : RdX w lo w.heap.size ex A (rowLen n k) (rowW n W k) (zK n W Z k) := by
  subst hk; subst hV; subst hm; subst hex
  obtain ⟨b, o, h1, h2, h3, h4⟩ := h (by omega)
  exact ⟨b, o, h1, by omega, h3, by simp; omega, h4⟩
set_option maxRecDepth 100000 in
set_option maxHeartbeats 4000000 in
theorem rows_any (w : World) (lo : Nat) (A : Option Addr) (c n : Nat) (W : Nat → Nat) (Z : Nat → Int) (hr : RdQ w lo w.heap.size A n W Z) (hlo : lo ≤ w.heap.size) (hc : n ≤ c) (hA : A = none → c = 0) (L : Nat) (hL1 : 1 ≤ L) (hL2 : L ≤ 15) (hn2 : 2 ≤ n) (hn4 : n ≤ 400) (hW : ∀ i, i < n → W i ≤ 1073741824) :
    Calls Try.prog 19 #[.slice A n c, .int .i64 (L : Int)] w fun e w' => ∃ A' c', e = .returned (.slice A' L c') ∧ Below w.heap.size w w' ∧ RdR w' lo w'.heap.size A' L n W Z := by
  have HR := Lib.hid hr; have HA := Lib.hid hA; have HW := Lib.hid hW
  have hown0 : OwnR (w.alloc (.cells #[.slice A n c] 44)) w.heap.size lo (some ⟨w.heap.size, 0, none⟩) 1 1 n W Z := by
    refine ⟨[.slice A n c], ⟨rfl, .inr ⟨w.heap.size, 1, _, rfl, Nat.le_refl _, heap_alloc_new w _, Nat.le_refl _, by unfold maxLen; omega, rfl, rfl⟩⟩, fun K hK => ?_⟩
    obtain rfl : K = 0 := by omega
    obtain ⟨b, o, h1, h2, h3, h4⟩ := hr (by omega)
    exact ⟨A, c, rfl, hc, b, o, h1, h2, by simp; omega, by simp [Value.ownBlock]; omega, fun j hj => by rw [((Below.refl w.heap.size w).alloc (Nat.le_refl _) _).cell (p := ⟨b, o + j, none⟩) h3]; exact h4 j hj⟩
  have hbl : Below w.heap.size w (w.alloc (.cells #[.slice A n c] 44)) := (Below.refl _ w).alloc (Nat.le_refl _) _
  obtain ⟨u, hu⟩ : ∃ u, u = w.alloc (.cells #[.slice A n c] 44) := ⟨_, rfl⟩
  rw [← hu] at hown0 hbl
  have HU := Lib.hid hu; have HB0 := Lib.hid hbl; have HO0 := Lib.hid hown0
  clear hr hA hW hu hown0 hbl
  go_enter Try.func19, Try.ntmps19
  go_wp2
  rw [← HU.out]
  go_loopw [5] (fun vl wr => ∃ (k : Nat) (Al : Option Addr) (cl : Nat), 1 ≤ k ∧ k ≤ L ∧ vl = .slice Al k cl ∧ Hid (OwnR wr w.heap.size lo Al cl k n W Z) ∧ Hid (Below w.heap.size w wr)) (fun vl _ => L - slLen vl)
  case atStart => exact ⟨1, _, 1, Nat.le_refl _, hL1, rfl, HO0, HB0⟩
  case round =>
    obtain ⟨k, Al, cl, hk1, hkL, rfl, HO, HB⟩ := hrel
    have hsz := HB.out.size
    by_cases hlt : k < L
    · have hlti : (k : Int) < (L : Int) := by omega
      obtain ⟨p, hp⟩ : ∃ p, p = k - 1 := ⟨_, rfl⟩
      have ep : (k : Int) - 1 = (p : Int) := by omega
      have hpk : p < k := by omega
      have hrd := OwnR.rd HO.out (by omega) hlo
      obtain ⟨b, o, rfl, hb1, hb2, hcc⟩ := hrd
      obtain ⟨AK, cK, c1, hcK, hrK⟩ := hcc p hpk
      have hfew := rowLen_few hn2 hn4 p
      have hbd : ∀ j, j < rowLen n p → rowW n W p j ≤ 70368744177664 := fun j hj => by
        have h1 := row_le HW.out p j hj
        have h2 : 2 ^ p * 1073741824 ≤ 2 ^ 15 * 1073741824 := Nat.mul_le_mul_right _ (Nat.pow_le_pow_right (by decide) (by omega))
        omega
      obtain ⟨m, hm⟩ : ∃ m, m = rowLen n p := ⟨_, rfl⟩
      rw [← hm] at c1 hcK hrK hfew hbd
      have HRK := Lib.hid hrK; have HBD := Lib.hid hbd; have HM := Lib.hid hm; have HP := Lib.hid hp
      obtain ⟨V, hV⟩ : ∃ V, V = rowW n W p := ⟨_, rfl⟩
      obtain ⟨Y, hY⟩ : ∃ Y, Y = zK n W Z p := ⟨_, rfl⟩
      rw [← hV, ← hY] at HRK
      rw [← hV] at HBD
      have HV := Lib.hid hV
      have hm0 : m ≤ 1000 := by omega
      have hkp : k = p + 1 := by omega
      have hrl : rowLen n k = n + m / 2 := by rw [hkp, hm]; rfl
      have HRL := Lib.hid hrl; have HK := Lib.hid hkp
      clear hcc hrK hbd hm hp hV hY hkp hrl
      go_wp2_with (first
        | (go_at_call 29; refine (pairUp_any _ lo AK cK m V Y HRK.out hm0 HBD.out).mono ?_; rintro e w1 ⟨Ap, cp, rfl, hb3, hcp, hAp, hpr⟩; have HB3 := Lib.hid hb3; have HPR := Lib.hid hpr; have HAP := Lib.hid hAp; have hsz1 := hb3.size; clear hb3 hpr hAp)
        | (go_at_call 28; refine (merge4_any _ lo A c n W Z ((HR.out.below (HB.out.trans (HB3.out.mono hsz)) (Nat.le_refl _)).more (Nat.le_refl _) (Nat.le_trans hsz hsz1)) hc HA.out Ap cp (m / 2) _ _ (HPR.out.more (by omega) (Nat.le_refl _)) hcp HAP.out (by omega)).mono ?_; rintro e w2 ⟨Am, cm, rfl, hb4, hcm, hAm, hmr⟩; have HB4 := Lib.hid hb4; have HMR := Lib.hid hmr; have hsz2 := hb4.size; clear hb4 hmr hAm; obtain ⟨A', c', w', q1, q2, q3⟩ := run_row w2 w.heap.size lo _ cl k n W Z (HO.out.after (HB3.out.trans (HB4.out.mono hsz1))) Am cm (by rw [HRL.out]; exact hcm) (row_new4 (g := b) HMR.out HM.out HV.out HK.out (by omega) (by omega) (by omega) rfl) (n + m / 2) HRL.out.symm (by omega) (by omega); have Q1 := Lib.hid q1; have Q2 := Lib.hid q2; have Q3 := Lib.hid q3; clear q1 q2 q3)
        | (at_builtin; refine wpList_append_run rfl (.tmp 12) (.tmp 22) 42 rfl (.slice (some ⟨b, o, none⟩) k cl) (.slice (some ⟨w2.heap.size, 0, none⟩) 1 1) (.slice A' (k + 1) c') w' rfl rfl Q1.out ?_))
      go_roundw
      case rel => exact ⟨k + 1, A', c', by omega, by omega, rfl, Q2, Lib.hid ((HB.out.trans (HB3.out.mono hsz)).trans ((HB4.out.mono (Nat.le_trans hsz hsz1)).trans Q3.out))⟩
      case measure => simp [slLen]; omega
    · obtain rfl : k = L := by omega
      have hlti : ¬ (k : Int) < (k : Int) := by omega
      go_wp2
      go_ret
      exact ⟨Al, ⟨cl, rfl⟩, HB.out, OwnR.rd HO.out (by omega) hlo⟩
end Go.Proofs.Ytgppikhfkikknaa
