/-
  Layer 4 (build): the program's merge of items and pairs.
-/
import Derived.Test.YtgppikhfkikknaaImpPar
import Derived.BigQuiet
import Derived.WalkMore
import Derived.Test.YtgppikhfkikknaaStep
namespace Go.Proofs.Ytgppikhfkikknaa
open Go.RowKit
/-- The symbols of a merged row: items' own, -1 of a pair. -/
def mrgZ (n m : Nat) (w p : Nat → Nat) (z y : Nat → Int) (t : Nat) : Int :=
  if pickB n m w p (stepI n m w p t) (t - stepI n m w p t) = true then z (stepI n m w p t) else y (t - stepI n m w p t)
def slLen : Value → Nat
  | .slice _ n _ => n
  | _ => 0
/-- m parcels of a row from the i-th on. -/
theorem RdQ.next {w : World} {lo B m c : Nat} {A : Option Addr} {W : Nat → Nat} {Z : Nat → Int} (h : RdQ w lo B A (m + 1) W Z) (hc : m + 1 ≤ c) :
    ∃ b o, A = some ⟨b, o, none⟩ ∧ lo ≤ b ∧ b < B ∧ w.cell? ⟨b, o, none⟩ = some (.int .i64 (W 0 : Int)) ∧ w.cell? ⟨b, o + 1, none⟩ = some (.int .i64 (Z 0)) ∧
      RdQ w lo B (if c = 1 then some ⟨b, o, none⟩ else some ⟨b, o + 2, none⟩) m (fun t => W (t + 1)) (fun t => Z (t + 1)) := by
  obtain ⟨b, o, h1, h2, h3, h4⟩ := h (by omega)
  have e0 := h4 0 (by omega)
  have e1 := h4 1 (by omega)
  have p0 := parN_a W Z 0
  have p1 := parN_b W Z 0
  rw [Nat.zero_mul] at p0 p1
  rw [p0] at e0
  rw [show (1 : Nat) = 0 + 1 by rfl, p1] at e1
  refine ⟨b, o, h1, h2, h3, e0, e1, fun hm => ?_⟩
  rw [if_neg (by omega)]
  refine ⟨b, o + 2, rfl, h2, h3, fun j hj => ?_⟩
  rw [show o + 2 + j = o + (j + 2) by omega, h4 (j + 2) (by omega)]
  congr 2
  unfold parN
  rw [show (j + 2) % 2 = j % 2 by omega, show (j + 2) / 2 = j / 2 + 1 by omega]
theorem parL_snoc (m : Nat) (W : Nat → Nat) (Z : Nat → Int) : parL m W Z ++ [.int .i64 (W m : Int), .int .i64 (Z m)] = parL (m + 1) W Z := by
  unfold parL
  rw [show (m + 1) * 2 = m * 2 + 1 + 1 by omega, List.range_succ, List.range_succ]
  simp only [List.map_append, List.map_cons, List.map_nil, List.append_assoc, List.cons_append, List.nil_append]
  rw [parN_a, parN_b]
theorem parL_append (m k : Nat) (W W2 : Nat → Nat) (Z Z2 : Nat → Int) (V : Nat → Nat) (Y : Nat → Int) (h1 : ∀ t, t < m → V t = W t ∧ Y t = Z t) (h2 : ∀ t, t < k → V (m + t) = W2 t ∧ Y (m + t) = Z2 t) : parL m W Z ++ parL k W2 Z2 = parL (m + k) V Y := by
  apply List.ext_getElem?
  intro j
  rw [List.getElem?_append, parL_length, parL_get, parL_get, parL_get]
  by_cases hj : j < m * 2
  · rw [if_pos hj, if_pos hj, if_pos (by omega), parN_ext h1 j hj]
  · rw [if_neg hj]
    by_cases hk : j - m * 2 < k * 2
    · rw [if_pos hk, if_pos (by omega)]
      have h := h2 ((j - m * 2) / 2) (by omega)
      congr 2
      unfold parN
      rw [show j % 2 = (j - m * 2) % 2 by omega, show j / 2 = m + (j - m * 2) / 2 by omega, h.1, h.2]
    · rw [if_neg hk, if_neg (by omega)]
theorem parL_same {m : Nat} {W W' : Nat → Nat} {Z Z' : Nat → Int} (h : ∀ t, t < m → W t = W' t ∧ Z t = Z' t) : parL m W Z = parL m W' Z' := by
  apply List.ext_getElem?
  intro j
  rw [parL_get, parL_get]
  by_cases hj : j < m * 2
  · rw [if_pos hj, if_pos hj, parN_ext h j hj]
  · rw [if_neg hj, if_neg hj]
/-- A row of parcels of the call's own. -/
def OwnQ (w : World) (base : Nat) (A : Option Addr) (c m : Nat) (W : Nat → Nat) (Z : Nat → Int) : Prop := w.ownsRow base 58 2 (.slice A m c) m (parL m W Z)
theorem OwnQ.rd {w : World} {base c m : Nat} {A : Option Addr} {W : Nat → Nat} {Z : Nat → Int} (h : OwnQ w base A c m W Z) : RdQ w base w.heap.size A m W Z := fun hm => by
  have hs := SrcL.of_own h
  obtain ⟨b, o, e, hb, hc⟩ := hs.2 hm
  refine ⟨b, o, e, own_geS h b (by rw [e]; rfl), hb, fun j hj => hc j _ ?_⟩
  rw [parL_get, if_pos hj]
theorem OwnQ.cap {w : World} {base c m : Nat} {A : Option Addr} {W : Nat → Nat} {Z : Nat → Int} (h : OwnQ w base A c m W Z) : m ≤ c ∧ (A = none → c = 0) := by
  rcases h.2 with ⟨hv, h0⟩ | ⟨g, cap, cur, hv, _, _, h1, h2, _⟩
  · injection hv with h3 h4 h5
    exact ⟨by omega, fun _ => h5⟩
  · injection hv with h3 h4 h5
    exact ⟨by omega, fun h => by rw [h] at h3; cases h3⟩
theorem OwnQ.drawn {w : World} {base c m : Nat} {A : Option Addr} {W : Nat → Nat} {Z : Nat → Int} (h : OwnQ w base A c m W Z) (q : Nat) : OwnQ (w.drewN q) base A c m W Z := h
/-- One more parcel. -/
theorem run_prc (w : World) (base : Nat) (A : Option Addr) (c m : Nat) (W : Nat → Nat) (Z : Nat → Int) (h : OwnQ w base A c m W Z) (x z : Int) (hx : x = (W m : Int)) (hz : z = Z m) (hm : m ≤ 2000) (hbase : base ≤ w.heap.size) :
    ∃ A' c' w', (Builtin.append_ #[44, 44] 44 #[.slice A m c, .slice (some ⟨w.heap.size, 0, none⟩) 1 1]).run Try.prog (w.alloc (.cells #[.int .i64 x, .int .i64 z] 58)) = .ok (.slice A' (m + 1) c') w' ∧
      OwnQ w' base A' c' (m + 1) W Z ∧ Below base w w' := by
  subst hx; subst hz
  have hb1 : Below base w (w.alloc (.cells #[.int .i64 (W m : Int), .int .i64 (Z m)] 58)) := (Below.refl base w).alloc hbase _
  obtain ⟨A', c', w', h2, o2, b2⟩ := run_app (z := .agg #[.int .i64 0, .int .i64 0]) (by_ := 16) Try.underlying44 infoPrc rfl (by decide) (w.alloc (.cells #[.int .i64 (W m : Int), .int .i64 (Z m)] 58)) base _ (.slice A m c) m _ (World.ownsRow.alloc h _) _ 1 1 _
    (SrcL.new w 2 1 #[.int .i64 (W m : Int), .int .i64 (Z m)] 58 rfl) (fun u hu => by simp at hu; rcases hu with rfl | rfl <;> rfl) (by unfold maxLen; omega) (by omega) 44 (fun h => by cases h) (Nat.le_trans hbase hb1.size)
  refine ⟨A', c', w', h2, ?_, hb1.trans b2⟩
  have e : parL m W Z ++ (#[Value.int .i64 (W m : Int), .int .i64 (Z m)] : Array Value).toList = parL (m + 1) W Z := parL_snoc m W Z
  rw [e] at o2
  exact o2
theorem make_prc0 (n : Nat) (h : n ≤ 2000) : ∀ u : World, (Instr.makeSlice 44 (.int .i64 0) (.int .i64 (n : Int))).run Try.prog u =
      .ok (.slice (some ⟨u.heap.size, 0, none⟩) 0 n) (u.alloc (.cells (madeCells #[.int .i64 0, .int .i64 0] (n * 2)) 58)) := fun u => by
  obtain ⟨i0, hi, hz0, hz1, hz2⟩ := info_parts infoPrc
  have h := run_make (P := Try.prog) u 44 58 i0 _ Try.underlying44 hi hz0 .i64 .i64 0 (n : Int) (by omega) (by omega) (by rw [hz2]; omega) (by omega)
  rw [Int.toNat_natCast] at h
  rw [hz1] at h
  exact h
theorem ownQ_made (w : World) (n : Nat) (hn : n ≤ 2000) (W : Nat → Nat) (Z : Nat → Int) : OwnQ (w.alloc (.cells (madeCells #[.int .i64 0, .int .i64 0] (n * 2)) 58)) w.heap.size (some ⟨w.heap.size, 0, none⟩) n 0 W Z :=
  ⟨by simp [parL], .inr ⟨w.heap.size, n, _, rfl, Nat.le_refl _, heap_alloc_new w _, Nat.zero_le _, by unfold maxLen; omega, by rw [size_madeCells], by simp [parL]⟩⟩
section
variable {n m : Nat} {w p : Nat → Nat}
theorem step_tailP {y : Nat} : ∀ t, stepI n m w p (n + y) = n → y + t ≤ m → stepI n m w p (n + y + t) = n
  | 0, h, _ => h
  | t + 1, h, ht => by
    have ih := step_tailP t h (by omega)
    show (if pickB n m w p (stepI n m w p (n + y + t)) (n + y + t - stepI n m w p (n + y + t)) = true then stepI n m w p (n + y + t) + 1 else stepI n m w p (n + y + t)) = n
    rw [ih, if_neg]
    unfold pickB
    simp only [decide_eq_true_eq]
    omega
theorem step_tailI {x : Nat} : ∀ t, stepI n m w p (x + m) = x → x + t ≤ n → stepI n m w p (x + m + t) = x + t
  | 0, h, _ => h
  | t + 1, h, ht => by
    have ih := step_tailI t h (by omega)
    show (if pickB n m w p (stepI n m w p (x + m + t)) (x + m + t - stepI n m w p (x + m + t)) = true then stepI n m w p (x + m + t) + 1 else stepI n m w p (x + m + t)) = x + (t + 1)
    rw [ih, if_pos]
    · omega
    · unfold pickB
      simp only [decide_eq_true_eq]
      omega
theorem mrg_tailP {z y : Nat → Int} {k t : Nat} (h : stepI n m w p (n + k) = n) (ht : k + t < m) : mrg n m w p (n + k + t) = p (k + t) ∧ mrgZ n m w p z y (n + k + t) = y (k + t) := by
  have h1 := step_tailP (y := k) t h (by omega)
  unfold mrg mrgZ
  rw [h1, if_neg, if_neg, show n + k + t - n = k + t by omega]
  · exact ⟨rfl, rfl⟩
  · unfold pickB; simp only [decide_eq_true_eq]; omega
  · unfold pickB; simp only [decide_eq_true_eq]; omega
theorem mrg_tailI {z y : Nat → Int} {x t : Nat} (h : stepI n m w p (x + m) = x) (ht : x + t < n) : mrg n m w p (x + m + t) = w (x + t) ∧ mrgZ n m w p z y (x + m + t) = z (x + t) := by
  have h1 := step_tailI (x := x) t h (by omega)
  unfold mrg mrgZ
  rw [h1, if_pos, if_pos]
  · exact ⟨rfl, rfl⟩
  · unfold pickB; simp only [decide_eq_true_eq]; omega
  · unfold pickB; simp only [decide_eq_true_eq]; omega
end
set_option maxRecDepth 100000 in
set_option maxHeartbeats 4000000 in
theorem merge4_any (w : World) (lo : Nat) (A : Option Addr) (c n : Nat) (W : Nat → Nat) (Z : Nat → Int) (hr : RdQ w lo w.heap.size A n W Z) (hc : n ≤ c) (hA : A = none → c = 0) (A2 : Option Addr) (c2 m : Nat) (P : Nat → Nat) (Y : Nat → Int) (hr2 : RdQ w lo w.heap.size A2 m P Y) (hc2 : m ≤ c2) (hA2 : A2 = none → c2 = 0) (hnm : n + m ≤ 2000) :
    Calls Try.prog 28 #[.slice A n c, .slice A2 m c2] w fun e w' => ∃ A' c', e = .returned (.slice A' (n + m) c') ∧ Below w.heap.size w w' ∧ (n + m) ≤ c' ∧ (A' = none → c' = 0) ∧ RdQ w' w.heap.size w'.heap.size A' (n + m) (mrg n m W P) (mrgZ n m W P Z Y) := by
  obtain ⟨V, hV⟩ : ∃ V : Nat → Nat, V = mrg n m W P := ⟨_, rfl⟩
  obtain ⟨U, hU⟩ : ∃ U : Nat → Int, U = mrgZ n m W P Z Y := ⟨_, rfl⟩
  rw [← hV, ← hU]
  have HR := Lib.hid hr; have HR2 := Lib.hid hr2; have HV := Lib.hid hV; have HUU := Lib.hid hU
  have HAA := Lib.hid hA; have HAB := Lib.hid hA2
  have hmk := make_prc0 (n + m) hnm
  have hmk2 : ∀ u : World, (Instr.makeSlice 44 (.int .i64 0) (.int .i64 ((n : Int) + (m : Int)))).run Try.prog u = .ok (.slice (some ⟨u.heap.size, 0, none⟩) 0 (n + m)) (u.alloc (.cells (madeCells #[.int .i64 0, .int .i64 0] ((n + m) * 2)) 58)) := fun u => by
    have h := hmk u
    rw [Int.natCast_add] at h
    exact h
  have hbase := ownQ_made w (n + m) hnm V U
  have hbl : Below w.heap.size w (w.alloc (.cells (madeCells #[.int .i64 0, .int .i64 0] ((n + m) * 2)) 58)) := (Below.refl _ w).alloc (Nat.le_refl _) _
  obtain ⟨u, hu⟩ : ∃ u, u = w.alloc (.cells (madeCells #[.int .i64 0, .int .i64 0] ((n + m) * 2)) 58) := ⟨_, rfl⟩
  rw [← hu] at hbase hbl
  have HU := Lib.hid hu; have HB0 := Lib.hid hbl; have HBASE := Lib.hid hbase
  clear hr hr2 hV hU hu hbase hbl hmk hA hA2
  go_enter Try.func28, Try.ntmps28
  go_wp2
  go_step3
  go_wp2
  rw [← HU.out]
  clear hmk2
  go_step3
  go_wp2
  go_loopw [0, 1, 5] (fun vi vp vr wr => ∃ (x y r s : Nat) (Ai Ap Ao : Option Addr) (ci cp co : Nat), n = x + r ∧ m = y + s ∧ vi = .slice Ai r ci ∧ vp = .slice Ap s cp ∧ vr = .slice Ao (x + y) co ∧ r ≤ ci ∧ s ≤ cp ∧ Hid (Ai = none → ci = 0) ∧ Hid (Ap = none → cp = 0) ∧
      Hid (RdQ wr lo w.heap.size Ai r (fun t => W (x + t)) (fun t => Z (x + t))) ∧ Hid (RdQ wr lo w.heap.size Ap s (fun t => P (y + t)) (fun t => Y (y + t))) ∧ Hid (OwnQ wr w.heap.size Ao co (x + y) V U) ∧ Hid (stepI n m W P (x + y) = x) ∧ Hid (Below w.heap.size w wr)) (fun vi vp _ _ => slLen vi + slLen vp)
  case atStart => exact ⟨0, 0, n, m, A, A2, _, c, c2, _, by omega, by omega, rfl, rfl, rfl, hc, hc2, HAA, HAB, Lib.hid ((HR.out.below HB0.out (Nat.le_refl _)).ext (fun t _ => by rw [Nat.zero_add]; exact ⟨rfl, rfl⟩)), Lib.hid ((HR2.out.below HB0.out (Nat.le_refl _)).ext (fun t _ => by rw [Nat.zero_add]; exact ⟨rfl, rfl⟩)), HBASE, Lib.hid rfl, HB0⟩
  case round =>
    obtain ⟨x, y, r, s, Ai, Ap, Ao, ci, cp, co, hn, hm, rfl, rfl, rfl, hrc, hsc, HAi, HAp, HI, HP, HO, HST, HB⟩ := hrel
    have hsz := HB.out.size
    by_cases hr0 : r = 0
    · subst hr0
      have hxn : n = x := by omega
      obtain ⟨A', c', w', r1, o1, b1⟩ := run_app (z := .agg #[.int .i64 0, .int .i64 0]) (by_ := 16) Try.underlying44 infoPrc rfl (by decide) wr w.heap.size w.heap.size (.slice Ao (x + y) co) (x + y) _ HO.out Ap s cp _ HP.out.src (parL_one _ _ _) (by unfold maxLen; omega) (by omega) 44 HAp.out hsz
      have e1 : parL (x + y) V U ++ parL s (fun t => P (y + t)) (fun t => Y (y + t)) = parL (x + y + s) V U := by
        refine parL_append _ _ _ _ _ _ _ _ (fun _ _ => ⟨rfl, rfl⟩) (fun t ht => ?_)
        rw [HV.out, HUU.out]
        subst hxn
        exact mrg_tailP HST.out (by omega)
      rw [e1] at o1
      have hnm2 : x + y + s = n + m := by omega
      rw [hnm2] at r1 o1
      have R1 := Lib.hid r1; have O1 := Lib.hid o1; have B1 := Lib.hid (HB.out.trans (b1.mono (Nat.le_refl _)))
      clear r1 o1 b1 e1
      obtain ⟨xy, hxy⟩ : ∃ xy, xy = x + y := ⟨_, rfl⟩
      rw [← hxy] at R1 ⊢
      have hcap := OwnQ.cap O1.out
      have HC1 := Lib.hid hcap
      clear hxy hn hm hxn hnm2 hcap
      go_wp2_with (at_builtin; refine wpList_append_run rfl (.tmp 24) (.tmp 25) 44 rfl (.slice Ao xy co) (.slice Ap s cp) (.slice A' (n + m) c') w' rfl rfl R1.out ?_)
      rw [Exit.noGoto_ret]
      go_ret
      exact ⟨A', c', rfl, B1.out, HC1.out.1, HC1.out.2, OwnQ.rd O1.out⟩
    · obtain ⟨r1, hr1⟩ : ∃ r1, r = r1 + 1 := ⟨r - 1, by omega⟩
      by_cases hs0 : s = 0
      · subst hs0
        have hym : m = y := by omega
        have hr0i : ((r : Int) == 0) = false := by simp; omega
        obtain ⟨A', c', w', r1', o1, b1⟩ := run_app (z := .agg #[.int .i64 0, .int .i64 0]) (by_ := 16) Try.underlying44 infoPrc rfl (by decide) wr w.heap.size w.heap.size (.slice Ao (x + y) co) (x + y) _ HO.out Ai r ci _ HI.out.src (parL_one _ _ _) (by unfold maxLen; omega) (by omega) 44 HAi.out hsz
        have e1 : parL (x + y) V U ++ parL r (fun t => W (x + t)) (fun t => Z (x + t)) = parL (x + y + r) V U := by
          refine parL_append _ _ _ _ _ _ _ _ (fun _ _ => ⟨rfl, rfl⟩) (fun t ht => ?_)
          rw [HV.out, HUU.out]
          subst hym
          exact mrg_tailI HST.out (by omega)
        rw [e1] at o1
        have hnm2 : x + y + r = n + m := by omega
        rw [hnm2] at r1' o1
        have R1 := Lib.hid r1'; have O1 := Lib.hid o1; have B1 := Lib.hid (HB.out.trans (b1.mono (Nat.le_refl _)))
        have hcap := OwnQ.cap O1.out
        have HC1 := Lib.hid hcap
        clear r1' o1 b1 e1
        obtain ⟨xy, hxy⟩ : ∃ xy, xy = x + y := ⟨_, rfl⟩
        rw [← hxy] at R1 ⊢
        have hr2 : 1 ≤ r := by omega
        clear hxy hn hm hym hnm2 hcap hr1 hr0
        go_wp2_with (at_builtin; refine wpList_append_run rfl (.tmp 31) (.tmp 32) 44 rfl (.slice Ao xy co) (.slice Ai r ci) (.slice A' (n + m) c') w' rfl rfl R1.out ?_)
        rw [Exit.noGoto_ret]
        go_ret
        exact ⟨A', c', rfl, B1.out, HC1.out.1, HC1.out.2, OwnQ.rd O1.out⟩
      · obtain ⟨s1, hs1⟩ : ∃ s1, s = s1 + 1 := ⟨s - 1, by omega⟩
        have hI := HI.out
        have hP := HP.out
        rw [hr1] at hI
        rw [hs1] at hP
        obtain ⟨bi, oi, rfl, hli, hbi, ci0, ci1, nI'⟩ := hI.next (by omega : r1 + 1 ≤ ci)
        obtain ⟨bp, op, rfl, hlp, hbp, cp0, cp1, nP'⟩ := hP.next (by omega : s1 + 1 ≤ cp)
        have hr0i : ((r : Int) == 0) = false := by simp; omega
        have hs0i : ((s : Int) == 0) = false := by simp; omega
        have hr2 : 1 ≤ r := by omega
        have hs2 : 1 ≤ s := by omega
        have hr4 : (1 : Int) ≤ (r : Int) := by omega
        have hs4 : (1 : Int) ≤ (s : Int) := by omega
        have hr3 : 0 < r := by omega
        have hs3 : 0 < s := by omega
        have er : r - 1 = r1 := by omega
        have es : s - 1 = s1 := by omega
        have hst : stepI n m W P (x + y + 1) = if pickB n m W P x y = true then x + 1 else x := by
          show (if pickB n m W P (stepI n m W P (x + y)) (x + y - stepI n m W P (x + y)) = true then stepI n m W P (x + y) + 1 else stepI n m W P (x + y)) = _
          rw [HST.out, show x + y - x = y by omega]
        have hv : V (x + y) = if pickB n m W P x y = true then W x else P y := by
          rw [HV.out]; unfold mrg; rw [HST.out, show x + y - x = y by omega]
        have hz : U (x + y) = if pickB n m W P x y = true then Z x else Y y := by
          rw [HUU.out]; unfold mrgZ; rw [HST.out, show x + y - x = y by omega]
        have hpk : pickB n m W P x y = true ↔ W x ≤ P y := by unfold pickB; simp only [decide_eq_true_eq]; omega
        have e0 : W (x + 0) = W x := rfl
        have e1 : P (y + 0) = P y := rfl
        have e2 : Z (x + 0) = Z x := rfl
        have e3 : Y (y + 0) = Y y := rfl
        rw [e0] at ci0
        rw [e1] at cp0
        rw [e2] at ci1
        rw [e3] at cp1
        obtain ⟨a, ha⟩ : ∃ a, a = W x := ⟨_, rfl⟩
        obtain ⟨b, hb⟩ : ∃ b, b = P y := ⟨_, rfl⟩
        obtain ⟨za, hza⟩ : ∃ za, za = Z x := ⟨_, rfl⟩
        obtain ⟨zb, hzb⟩ : ∃ zb, zb = Y y := ⟨_, rfl⟩
        rw [← ha] at ci0 hv hpk
        rw [← hb] at cp0 hv hpk
        rw [← hza] at ci1 hz
        rw [← hzb] at cp1 hz
        have HNI := Lib.hid nI'; have HNP := Lib.hid nP'
        have HNX := Lib.hid hn; have HMY := Lib.hid hm
        obtain ⟨xy, hxy⟩ : ∃ xy, xy = x + y := ⟨_, rfl⟩
        have hxy2 : xy ≤ 2000 := by omega
        rw [← hxy] at hst hv hz HO ⊢
        have HXY := Lib.hid hxy
        clear hI hP nI' nP' ha hb hza hzb hxy hn hm hr1 hs1 hr0 hs0 e0 e1 e2 e3
        have HR1 := Lib.hid er; have HS1 := Lib.hid es
        by_cases hab : a ≤ b
        · have habi : (a : Int) ≤ (b : Int) := by omega
          rw [if_pos (hpk.2 hab)] at hst hv hz
          have HST2 := Lib.hid hst
          clear hpk hst
          go_wp2_with fail
          go_quiet (fail)
          obtain ⟨wq, hwq⟩ : ∃ wq, wq = wr.drewN nq := ⟨_, rfl⟩
          have HO2 : Hid (OwnQ wq w.heap.size Ao co xy V U) := by rw [hwq]; exact HO
          have HB2 : Hid (Below w.heap.size wr wq) := by rw [hwq]; exact Lib.hid (below_drewN _ _ _)
          have hszq : w.heap.size ≤ wq.heap.size := by rw [hwq]; exact hsz
          have d0 : wq.cell? ⟨bi, oi, none⟩ = some (.int .i64 (a : Int)) := by rw [hwq]; exact ci0
          have d1 : wq.cell? ⟨bi, oi + 1, none⟩ = some (.int .i64 za) := by rw [hwq]; exact ci1
          obtain ⟨A', c', w', q1, q2, q3⟩ := run_prc wq.drew w.heap.size Ao co xy V U HO2.out (a : Int) za (by rw [hv]) hz.symm (by omega) hszq
          rw [← hwq]
          have R1 := Lib.hid q1; have O1 := Lib.hid q2; have B1 := Lib.hid (HB2.out.drew.trans q3)
          clear q1 q2 q3 hv hz hwq ci0 ci1 cp0 cp1
          go_wp2_with fail
          go_region_law ((refine step_app rfl (.tmp 44) (.tmp 48) 44 44 rfl (.slice Ao xy co) (.slice (some ⟨wq.heap.size, 0, none⟩) 1 1) rfl rfl (.slice A' (xy + 1) c') w' R1.out ?_))
          all_goals go_wp2
          all_goals (
            go_roundw
            case measure => simp [slLen]; omega
            refine ⟨_, _, _, ?_, rfl, rfl, rfl⟩
            refine ⟨x + 1, y, r1, by have := HNX.out; have := HR1.out; omega, s, HMY.out, _, _, A', _, rfl, _, rfl, c', by rw [HXY.out, show x + y + 1 = x + 1 + y by omega], by omega, hsc, Lib.hid (fun h => by first | (cases h; done) | (split at h <;> cases h)), HAp, ?_, ?_, ?_, ?_, Lib.hid (HB.out.trans B1.out)⟩
            · have hq := HNI.out
              first | rw [if_pos (by assumption)] at hq | rw [if_neg (by assumption)] at hq | skip
              exact Lib.hid ((hq.below B1.out (Nat.le_refl _)).ext (fun t _ => by
                show W (x + (t + 1)) = W (x + 1 + t) ∧ Z (x + (t + 1)) = Z (x + 1 + t)
                rw [show x + (t + 1) = x + 1 + t by omega]; exact ⟨rfl, rfl⟩))
            · exact Lib.hid (HP.out.below B1.out (Nat.le_refl _))
            · have h := O1.out; rw [HXY.out, show x + y + 1 = x + 1 + y by omega] at h; exact Lib.hid h
            · have h := HST2.out; rw [HXY.out, show x + y + 1 = x + 1 + y by omega] at h; exact Lib.hid h)
        · have habi : ¬ (a : Int) ≤ (b : Int) := by omega
          rw [if_neg (fun h => hab (hpk.1 h))] at hst hv hz
          have HST2 := Lib.hid hst
          clear hpk hst
          go_wp2_with fail
          go_quiet (fail)
          obtain ⟨wq, hwq⟩ : ∃ wq, wq = wr.drewN nq := ⟨_, rfl⟩
          have HO2 : Hid (OwnQ wq w.heap.size Ao co xy V U) := by rw [hwq]; exact HO
          have HB2 : Hid (Below w.heap.size wr wq) := by rw [hwq]; exact Lib.hid (below_drewN _ _ _)
          have hszq : w.heap.size ≤ wq.heap.size := by rw [hwq]; exact hsz
          have d0 : wq.cell? ⟨bp, op, none⟩ = some (.int .i64 (b : Int)) := by rw [hwq]; exact cp0
          have d1 : wq.cell? ⟨bp, op + 1, none⟩ = some (.int .i64 zb) := by rw [hwq]; exact cp1
          obtain ⟨A', c', w', q1, q2, q3⟩ := run_prc wq.drew w.heap.size Ao co xy V U HO2.out (b : Int) zb (by rw [hv]) hz.symm (by omega) hszq
          rw [← hwq]
          have R1 := Lib.hid q1; have O1 := Lib.hid q2; have B1 := Lib.hid (HB2.out.drew.trans q3)
          clear q1 q2 q3 hv hz hwq ci0 ci1 cp0 cp1
          go_wp2_with fail
          go_region_law ((refine step_app rfl (.tmp 12) (.tmp 16) 44 44 rfl (.slice Ao xy co) (.slice (some ⟨wq.heap.size, 0, none⟩) 1 1) rfl rfl (.slice A' (xy + 1) c') w' R1.out ?_))
          all_goals go_wp2
          all_goals (
            go_roundw
            case measure => simp [slLen]; omega
            refine ⟨_, _, _, ?_, rfl, rfl, rfl⟩
            refine ⟨x, y + 1, r, HNX.out, s1, by have := HMY.out; have := HS1.out; omega, _, _, A', _, rfl, _, rfl, c', by rw [HXY.out, show x + y + 1 = x + (y + 1) by omega], hrc, by omega, HAi, Lib.hid (fun h => by first | (cases h; done) | (split at h <;> cases h)), ?_, ?_, ?_, ?_, Lib.hid (HB.out.trans B1.out)⟩
            · exact Lib.hid (HI.out.below B1.out (Nat.le_refl _))
            · have hq := HNP.out
              first | rw [if_pos (by assumption)] at hq | rw [if_neg (by assumption)] at hq | skip
              exact Lib.hid ((hq.below B1.out (Nat.le_refl _)).ext (fun t _ => by
                show P (y + (t + 1)) = P (y + 1 + t) ∧ Y (y + (t + 1)) = Y (y + 1 + t)
                rw [show y + (t + 1) = y + 1 + t by omega]; exact ⟨rfl, rfl⟩))
            · have h := O1.out; rw [HXY.out, show x + y + 1 = x + (y + 1) by omega] at h; exact Lib.hid h
            · have h := HST2.out; rw [HXY.out, show x + y + 1 = x + (y + 1) by omega] at h; exact Lib.hid h)
end Go.Proofs.Ytgppikhfkikknaa
