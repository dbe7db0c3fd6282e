/-
  The law TokenOn, for every bytes, tokens and place, returns true: tokens in two parts are played as at once. No condition.
-/
import Derived.Test.YtihfcjehpmiolaaTokPls
namespace Go.Proofs.Ytihfcjehpmiolaa
open Go.RowKit Go.ChangeShapes Go.WideShapes Go.ChangeAt Go.Joins
theorem toksL_take : ∀ (l : List Tok) (p : Nat), toksL (l.take p) = (toksL l).take (p * 3)
  | [], p => by simp [toksL]
  | t :: l, 0 => by simp [toksL]
  | t :: l, p + 1 => by
    simp only [List.take_succ_cons, toksL, toksL_take l p]
    rw [List.take_append]
    have e : (tokC t).length = 3 := rfl
    rw [show (tokC t).take ((p + 1) * 3) = tokC t from List.take_of_length_le (by rw [e]; omega), e, show (p + 1) * 3 - 3 = p * 3 by omega]
theorem toksL_drop : ∀ (l : List Tok) (p : Nat), toksL (l.drop p) = (toksL l).drop (p * 3)
  | [], p => by simp [toksL]
  | t :: l, 0 => by simp [toksL]
  | t :: l, p + 1 => by
    simp only [List.drop_succ_cons, toksL, toksL_drop l p]
    rw [List.drop_append]
    have e : (tokC t).length = 3 := rfl
    rw [show (tokC t).drop ((p + 1) * 3) = [] from List.drop_eq_nil_of_le (by rw [e]; omega), e, show (p + 1) * 3 - 3 = p * 3 by omega, List.nil_append]
theorem TkR.take {w : World} {B n c p : Nat} {A : Option Addr} {l : List Tok} (h : TkR w B A n c l) (hp : p ≤ n) : TkR w B A p c (l.take p) := by
  obtain ⟨h1, h2, h3, h4, h5⟩ := h
  have hlen : (l.take p).length = p := by rw [List.length_take]; omega
  refine ⟨hlen.symm, ⟨by rw [toksL_length], fun h0 => ?_⟩, h3, by omega, h5⟩
  rw [hlen] at h0
  obtain ⟨b, o, q1, q2, q3⟩ := h2.2 (by omega)
  refine ⟨b, o, q1, q2, fun j u hu => q3 j u ?_⟩
  rw [toksL_take, List.getElem?_take] at hu
  split at hu
  · exact hu
  · cases hu
theorem TkR.drop {w : World} {B n c p : Nat} {ad : Addr} {A3 : Option Addr} {l : List Tok} (h : TkR w B (some ad) n c l) (hp : p ≤ n) (hA : (if c = p then (some ad : Option Addr) else some (ad.add (p * 3))) = A3) : TkR w B A3 (n - p) (c - p) (l.drop p) := by
  obtain ⟨h1, h2, h3, h4, h5⟩ := h
  have hlen : (l.drop p).length = n - p := by rw [List.length_drop]; omega
  refine ⟨hlen.symm, ⟨by rw [toksL_length], fun h0 => ?_⟩, fun e => ?_, by omega, by omega⟩
  · rw [hlen] at h0
    obtain ⟨b, o, q1, q2, q3⟩ := h2.2 (by omega)
    injection q1 with q1
    subst q1
    rw [if_neg (by omega)] at hA
    have e : (⟨b, o, none⟩ : Addr).add (p * 3) = ⟨b, o + p * 3, none⟩ := by unfold Addr.add; split <;> simp_all
    rw [e] at hA
    refine ⟨b, o + p * 3, hA.symm, q2, fun j u hu => ?_⟩
    rw [toksL_drop, List.getElem?_drop] at hu
    rw [show o + p * 3 + j = o + (p * 3 + j) by omega]
    exact q3 _ u hu
  · rw [e] at hA; split at hA <;> cases hA
/-- What is told of tokens played in two parts. -/
theorem ply_on {f : Nat → Nat} {n : Nat} {l : List Tok} {p : Nat} (hn : n ≤ 5000) (hl : l.length ≤ 300) :
    ((plyO f n (l.take p)).1 ≠ 0 → plyO f n l = ((plyO f n (l.take p)).1, [])) ∧
    ((plyO f n (l.take p)).1 = 0 → (plyO f n (l.take p)).2.length ≤ 77400 ∧
      (plyO f n l).1 = (plyO (cat f n (lst (plyO f n (l.take p)).2)) (n + (plyO f n (l.take p)).2.length) (l.drop p)).1 ∧
      ((plyO f n l).1 = 0 → (plyO f n l).2 = (plyO f n (l.take p)).2 ++ (plyO (cat f n (lst (plyO f n (l.take p)).2)) (n + (plyO f n (l.take p)).2.length) (l.drop p)).2)) := by
  have hlt : (l.take p).length ≤ 300 := by rw [List.length_take]; omega
  have hld : (l.drop p).length ≤ 300 := by rw [List.length_drop]; omega
  have hsum : (l.take p).length + (l.drop p).length = l.length := by rw [List.length_take, List.length_drop]; omega
  have e1 : plyO f n l = plyR n l (preL f n) := if_neg (by omega)
  have e2 : plyO f n (l.take p) = plyR n (l.take p) (preL f n) := if_neg (by omega)
  have hA : n ≤ (preL f n).length := by rw [preL_length]; exact Nat.le_refl _
  obtain ⟨h1, h2⟩ := ply_two (A := n) (l.take p) (l.drop p) (preL f n) hA (by rw [preL_length, hsum]; omega)
  rw [List.take_append_drop] at h1 h2
  rw [e1, e2]
  refine ⟨h1, fun h0 => ?_⟩
  obtain ⟨y, q1, q2, q3, q4⟩ := h2 h0
  have hd : (preL f n).drop n = [] := List.drop_eq_nil_of_le (by rw [preL_length]; exact Nat.le_refl _)
  rw [hd, List.nil_append] at q1 q4
  rw [preL_length] at q3 q4
  rw [q1]
  have hy : y.length ≤ 77400 := by omega
  have hpre : preL (cat f n (lst y)) (n + y.length) = preL f n ++ y := by
    apply List.ext_getElem?
    intro j
    unfold preL
    rcases Nat.lt_or_ge j (n + y.length) with g | g
    · rw [List.getElem?_map, List.getElem?_range g]
      rcases Nat.lt_or_ge j n with g2 | g2
      · rw [List.getElem?_append_left (by simpa using g2)]
        simp [cat, g2]
      · rw [List.getElem?_append_right (by simpa using g2)]
        have g3 : j - n < y.length := by omega
        simp [cat, lst, g3, show ¬ j < n by omega]
    · rw [List.getElem?_eq_none (by simpa using g), List.getElem?_eq_none (by simp; omega)]
  have e3 : plyO (cat f n (lst y)) (n + y.length) (l.drop p) = plyR (n + y.length) (l.drop p) (preL f n ++ y) := by
    unfold plyO; rw [if_neg (by omega), hpre]
  rw [e3]
  exact ⟨hy, q3, q4⟩
set_option maxRecDepth 100000 in
set_option maxHeartbeats 8000000 in
theorem on8_law (A : Option Addr) (n c : Nat) (f : Nat → Nat) (A2 : Option Addr) (m c2 : Nat) (l : List Tok) (p : Int) (w : World) (hr : ByR w w.heap.size A n c f) (ht : TkR w w.heap.size A2 m c2 l) (hin : ∀ t ∈ l, TokIn t) (_ : -9223372036854775808 ≤ p) (_ : p ≤ 9223372036854775807) :
    Calls Try.prog 8 #[.slice A n c, .slice A2 m c2, .int .i64 p] w fun e w' => e = .returned (.bool true) ∧ Below w.heap.size w w' := by
  have HAL := Lib.hid (alive8_any w)
  by_cases hbad : 5000 < n ∨ (¬ 5000 < n ∧ 300 < m) ∨ (¬ 5000 < n ∧ ¬ 300 < m ∧ p < 0) ∨ (¬ 5000 < n ∧ ¬ 300 < m ∧ ¬ p < 0 ∧ (m : Int) < p)
  · clear hr ht hin
    rcases hbad with q | ⟨q1, q⟩ | ⟨q1, q2, q⟩ | ⟨q1, q2, q3, q⟩
    · have d1 : decide (5000 < (n : Int)) = true := by simp; omega
      go_enter Try.func8, Try.ntmps8
      go_wp2_with (go_at_call 13; refine HAL.out.mono ?_; rintro e w1 ⟨rfl, hb1⟩; have HB1 := Lib.hid hb1; clear hb1)
      go_ret
      exact ⟨rfl, HB1.out⟩
    · have d1 : decide (5000 < (n : Int)) = false := by simp; omega
      have d2 : decide (300 < (m : Int)) = true := by simp; omega
      go_enter Try.func8, Try.ntmps8
      go_wp2_with (go_at_call 13; refine HAL.out.mono ?_; rintro e w1 ⟨rfl, hb1⟩; have HB1 := Lib.hid hb1; clear hb1)
      go_ret
      exact ⟨rfl, HB1.out⟩
    · have d1 : decide (5000 < (n : Int)) = false := by simp; omega
      have d2 : decide (300 < (m : Int)) = false := by simp; omega
      have d3 : decide (p < 0) = true := by simp; omega
      go_enter Try.func8, Try.ntmps8
      go_wp2_with (go_at_call 13; refine HAL.out.mono ?_; rintro e w1 ⟨rfl, hb1⟩; have HB1 := Lib.hid hb1; clear hb1)
      go_ret
      exact ⟨rfl, HB1.out⟩
    · have d1 : decide (5000 < (n : Int)) = false := by simp; omega
      have d2 : decide (300 < (m : Int)) = false := by simp; omega
      have d3 : decide (p < 0) = false := by simp; omega
      have d4 : decide ((m : Int) < p) = true := by simp; omega
      go_enter Try.func8, Try.ntmps8
      go_wp2_with (go_at_call 13; refine HAL.out.mono ?_; rintro e w1 ⟨rfl, hb1⟩; have HB1 := Lib.hid hb1; clear hb1)
      go_ret
      exact ⟨rfl, HB1.out⟩
  obtain ⟨p, rfl⟩ := Int.eq_ofNat_of_zero_le (show 0 ≤ p by omega)
  have hpm : p ≤ m := by omega
  have hn5 : n ≤ 5000 := by omega
  have hm3 : m ≤ 300 := by omega
  have d1 : decide (5000 < (n : Int)) = false := by simp; omega
  have d2 : decide (300 < (m : Int)) = false := by simp; omega
  have d3 : decide ((p : Int) < 0) = false := by simp
  have d4 : decide ((m : Int) < (p : Int)) = false := by simp; omega
  have d5 : decide (m < p) = false := by simp; omega
  obtain ⟨hon1, hon2⟩ := ply_on (f := f) (n := n) (l := l) (p := p) (by omega) (by rw [← ht.1]; omega)
  obtain ⟨X, hX⟩ : ∃ X, X = plyO f n l := ⟨_, rfl⟩
  obtain ⟨Y, hY⟩ : ∃ Y, Y = plyO f n (l.take p) := ⟨_, rfl⟩
  rw [← hX, ← hY] at hon1 hon2
  have hp1 : ∀ u, ByR u u.heap.size A n c f → TkR u u.heap.size A2 m c2 l → Calls Try.prog 9 #[.slice A n c, .slice A2 m c2] u fun e w' => ∃ A' n' c', e = .returned (.tuple #[.slice A' n' c', .int .i64 X.1]) ∧ n' = X.2.length ∧ ByR w' w'.heap.size A' n' c' (lst X.2) ∧ Below u.heap.size u w' := fun u h1 h2 => by
    rw [hX]; exact (play8_any u A n c f A2 m c2 l h1 h2 hin).mono fun _ _ ⟨a, b, c, h1, h2, h3, h4, _⟩ => ⟨a, b, c, h1, h2, h3, h4⟩
  have hp2 : ∀ u, ByR u u.heap.size A n c f → TkR u u.heap.size A2 m c2 l → Calls Try.prog 9 #[.slice A n c, .slice A2 p c2] u fun e w' => ∃ A' n' c', e = .returned (.tuple #[.slice A' n' c', .int .i64 Y.1]) ∧ n' = Y.2.length ∧ ByR w' w'.heap.size A' n' c' (lst Y.2) ∧ Below u.heap.size u w' := fun u h1 h2 => by
    rw [hY]; exact (play8_any u A n c f A2 p c2 (l.take p) h1 (h2.take hpm) (fun t h => hin t (List.mem_of_mem_take h))).mono fun _ _ ⟨a, b, c, h1, h2, h3, h4, _⟩ => ⟨a, b, c, h1, h2, h3, h4⟩
  have HR := Lib.hid hr; have HT := Lib.hid ht; have HIN := Lib.hid hin; have HP1 := Lib.hid hp1; have HP2 := Lib.hid hp2; have HON1 := Lib.hid hon1; have HON2 := Lib.hid hon2
  have hpc : (p : Int) ≤ (c2 : Int) := by have := ht.2.2.2.1; omega
  have hpc' : p ≤ c2 := by omega
  clear hr ht hin hp1 hp2 hon1 hon2 hbad hX hY
  obtain ⟨X1, X2⟩ := X
  obtain ⟨Y1, Y2⟩ := Y
  go_enter Try.func8, Try.ntmps8
  go_wp2_with fail
  refine HAL.out.mono ?_
  rintro e w1 ⟨rfl, hb⟩
  have HB1 := Lib.hid hb
  clear hb HAL
  go_wp2_with fail
  refine (HP1.out w1 ((HR.out.below HB1.out (Nat.le_refl _)).more HB1.out.size) ((HT.out.below HB1.out (Nat.le_refl _)).more HB1.out.size)).mono ?_
  rintro e w2 ⟨B1, n1, k1, rfl, hn', hby, hb⟩
  have HB2 := Lib.hid (HB1.out.trans (hb.mono HB1.out.size)); have HX := Lib.hid hby; have HN1 := Lib.hid hn'
  clear hb hby hn' HB1 HP1
  rcases A2 with _ | ad
  · have hc0 := HT.out.2.2.1 rfl
    subst hc0
    have hm0 : m = 0 := by have := HT.out.2.2.2.1; omega
    subst hm0
    have hp0 : p = 0 := by omega
    subst hp0
    have hl0 : l = [] := List.eq_nil_of_length_eq_zero HT.out.1.symm
    go_wp2_with fail
    refine (HP2.out w2 ((HR.out.below HB2.out (Nat.le_refl _)).more HB2.out.size) ((HT.out.below HB2.out (Nat.le_refl _)).more HB2.out.size)).mono ?_
    rintro e w3 ⟨B2, n2, k2, rfl, hn', hby, hb⟩
    have HB3 := Lib.hid (HB2.out.trans (hb.mono HB2.out.size)); have HX3 := Lib.hid ((HX.out.below hb (Nat.le_refl _)).more hb.size); have HY := Lib.hid hby; have HN2 := Lib.hid hn'
    clear hb hby hn' HB2 HP2 HX
    by_cases hY0 : Y1 = 0
    · subst hY0
      obtain ⟨q1, q2, q3⟩ := HON2.out rfl
      have hn2b : n2 ≤ 77400 := by rw [HN2.out]; exact q1
      have hlY : ∀ j, lst Y2 j < 256 := HY.out.1.1
      have hrw := (HR.out.below HB3.out (Nat.le_refl _)).more HB3.out.size
      obtain ⟨A4, c4, w4, hrun1, hown4, hb4, _⟩ := run_twin w3.drew w3.drew.heap.size A n c f hrw.1 (by omega) 22 hrw.2.1
      have hb34 : Below w3.heap.size w3 w4 := ((Below.refl w3.heap.size w3).drew).trans hb4
      obtain ⟨A5, c5, w5, hrun2, hown5, hb5⟩ := run_more w4 w3.drew.heap.size w4.heap.size (.slice A4 n c4) n f hown4 B2 n2 k2 (lst Y2) ((HY.out.1.below hb34 (Nat.le_refl _)).more hb34.size) (by omega) 22 HY.out.2.1 hb4.size
      have hb35 : Below w3.heap.size w3 w5 := hb34.trans hb5
      have hby5 := ByR.of_own hown5 (cat_lt HR.out.1.1 hlY)
      have hB5 := HB3.out.trans (hb35.mono HB3.out.size)
      have htk := (HT.out.below hB5 (Nat.le_refl _)).more hB5.size
      have htd : TkR w5 w5.heap.size none 0 0 (l.drop 0) := by rw [hl0]; exact TkR.nil _ _
      have hpl3 := play8_any w5 A5 (n + n2) c5 (cat f n (lst Y2)) none 0 0 (l.drop 0) hby5 htd (fun t h => HIN.out t (List.mem_of_mem_drop h))
      rw [← HN2.out] at q2 q3
      obtain ⟨Z, hZ⟩ : ∃ Z, Z = plyO (cat f n (lst Y2)) (n + n2) (l.drop 0) := ⟨_, rfl⟩
      rw [← hZ] at q2 q3 hpl3
      obtain ⟨Z1, Z2⟩ := Z
      have hX1 : X1 = Z1 := q2
      subst hX1
      have HPL3 := Lib.hid hpl3; have HRUN1 := Lib.hid hrun1; have HRUN2 := Lib.hid hrun2; have HB35 := Lib.hid hb35; have HQ3 := Lib.hid q3
      clear hrw hrun1 hown4 hb4 hb34 hrun2 hown5 hb5 hb35 hby5 hB5 htk htd hpl3 q1 q2 q3 hZ hlY
      go_wp2
      go_region_law (first
        | (refine step_app rfl (.const (.slice none 0 0)) (.tmp 66) 22 22 rfl (.slice none 0 0) (.slice A n c) rfl rfl (.slice A4 n c4) w4 HRUN1.out ?_)
        | (refine step_app rfl (.tmp 67) (.tmp 68) 22 22 rfl (.slice A4 n c4) (.slice B2 n2 k2) rfl rfl (.slice A5 (n + n2) c5) w5 HRUN2.out ?_)
        | (refine step_call rfl 9 _ _ rfl (enters_of Try.func9 (by kernel_rfl) rfl) (#[.slice A5 (n + n2) c5, .slice none 0 0]) (by simp [Act.put, Act.eval, List.setIfInBounds_toArray, List.set_cons_zero, List.set_cons_succ]) HPL3.out ?_; rintro e w6 ⟨B3, n3, k3, rfl, hn3, hby3, hb6, _⟩; refine ⟨_, rfl, ?_⟩))
      all_goals (
        replace hn3 : n3 = Z2.length := hn3
        subst hn3
        have hB6 := (HB3.out.trans (HB35.out.mono HB3.out.size)).trans (hb6.mono (HB3.out.trans (HB35.out.mono HB3.out.size)).size)
        have h36 := HB35.out.trans (hb6.mono HB35.out.size)
        have hee : (X1 == X1) = true := by simp
        have HB6 := Lib.hid hB6
        by_cases hX0 : X1 = 0
        · have hXY := HQ3.out hX0
          have t1 := run_str (HX3.out.1.below h36 (Nat.le_refl _)) k1
          have t2 := run_str (HY.out.1.below h36 (Nat.le_refl _)) k2
          have t3 := run_str hby3.1 k3
          have hk1 : n1 ≤ 9223372036854775807 := by have h1 := HX3.out.2.2.1; have h2 := HX3.out.2.2.2; unfold maxLen at h2; omega
          have hsum : n1 = n2 + Z2.length := by
            have h1 := HN1.out; have h2 := HN2.out
            replace h1 : n1 = X2.length := h1
            replace hXY : X2 = Y2 ++ Z2 := hXY
            rw [hXY, List.length_append] at h1
            replace h2 : n2 = Y2.length := h2
            omega
          have u1 : strB n1 (lst X2) = strL X2 := by rw [HN1.out]; rfl
          have u2 : strB n2 (lst Y2) = strL Y2 := by rw [HN2.out]; rfl
          have u3 : strB Z2.length (lst Z2) = strL Z2 := rfl
          replace t1 : (convert 22 9 (.slice B1 n1 k1)).run Try.prog w6 = .ok (.string (strB n1 (lst X2))) w6 := t1
          replace t2 : (convert 22 9 (.slice B2 n2 k2)).run Try.prog w6 = .ok (.string (strB n2 (lst Y2))) w6 := t2
          replace t3 : (convert 22 9 (.slice B3 Z2.length k3)).run Try.prog w6 = .ok (.string (strB Z2.length (lst Z2))) w6 := t3
          rw [u1] at t1
          rw [u2] at t2
          rw [u3] at t3
          replace hXY : X2 = Y2 ++ Z2 := hXY
          rw [hXY, ← strL_app] at t1
          have z1 : (strL Y2).size = n2 := by rw [strL_size]; exact HN2.out.symm
          have z2 : (strL Z2).size = Z2.length := strL_size _
          obtain ⟨S1, hS1⟩ : ∃ S, S = strL Y2 := ⟨_, rfl⟩
          obtain ⟨S2, hS2⟩ : ∃ S, S = strL Z2 := ⟨_, rfl⟩
          rw [← hS1] at t1 t2 z1
          rw [← hS2] at t1 t3 z2
          have z3 : ¬ (9223372036854775807 : Int) < (S1.size : Int) + (S2.size : Int) := by omega
          have z4 : ¬ 9223372036854775807 < S1.size + S2.size := by omega
          subst hX0
          clear hB6 h36 hb6 hby3 hsum u1 u2 u3 hXY hS1 hS2 z1 z2 hk1
          go_wp2
          go_ret
          exact ⟨rfl, HB6.out⟩
        · have hne : (X1 != 0) = true := by simpa using hX0
          clear hB6 h36 hb6 hby3
          go_wp2
          go_ret
          exact ⟨rfl, HB6.out⟩)
    · have hne : (Y1 != 0) = true := by simpa using hY0
      have h := HON1.out hY0
      injection h with h1 h2
      have h1' : X1 = Y1 := h1
      have h2' : X2 = [] := h2
      subst h1'; subst h2'
      have hn0 : n1 = 0 := HN1.out
      subst hn0
      have hee : (X1 == X1) = true := by simp
      clear h1 h2 hY0
      go_wp2
      go_ret
      exact ⟨rfl, HB3.out⟩
  · go_wp2_with fail
    refine (HP2.out w2 ((HR.out.below HB2.out (Nat.le_refl _)).more HB2.out.size) ((HT.out.below HB2.out (Nat.le_refl _)).more HB2.out.size)).mono ?_
    rintro e w3 ⟨B2, n2, k2, rfl, hn', hby, hb⟩
    have HB3 := Lib.hid (HB2.out.trans (hb.mono HB2.out.size)); have HX3 := Lib.hid ((HX.out.below hb (Nat.le_refl _)).more hb.size); have HY := Lib.hid hby; have HN2 := Lib.hid hn'
    clear hb hby hn' HB2 HP2 HX
    by_cases hY0 : Y1 = 0
    · subst hY0
      obtain ⟨q1, q2, q3⟩ := HON2.out rfl
      have hn2b : n2 ≤ 77400 := by rw [HN2.out]; exact q1
      have hlY : ∀ j, lst Y2 j < 256 := HY.out.1.1
      have hrw := (HR.out.below HB3.out (Nat.le_refl _)).more HB3.out.size
      obtain ⟨A4, c4, w4, hrun1, hown4, hb4, _⟩ := run_twin w3.drew w3.drew.heap.size A n c f hrw.1 (by omega) 22 hrw.2.1
      have hb34 : Below w3.heap.size w3 w4 := ((Below.refl w3.heap.size w3).drew).trans hb4
      obtain ⟨A5, c5, w5, hrun2, hown5, hb5⟩ := run_more w4 w3.drew.heap.size w4.heap.size (.slice A4 n c4) n f hown4 B2 n2 k2 (lst Y2) ((HY.out.1.below hb34 (Nat.le_refl _)).more hb34.size) (by omega) 22 HY.out.2.1 hb4.size
      have hb35 : Below w3.heap.size w3 w5 := hb34.trans hb5
      have hby5 := ByR.of_own hown5 (cat_lt HR.out.1.1 hlY)
      have hB5 := HB3.out.trans (hb35.mono HB3.out.size)
      have htk := (HT.out.below hB5 (Nat.le_refl _)).more hB5.size
      obtain ⟨A3, hA3⟩ : ∃ A3, (if c2 = p then (some ad : Option Addr) else some (ad.add (p * 3))) = A3 := ⟨_, rfl⟩
      have htd := htk.drop hpm hA3
      have hpl3 := play8_any w5 A5 (n + n2) c5 (cat f n (lst Y2)) A3 (m - p) (c2 - p) (l.drop p) hby5 htd (fun t h => HIN.out t (List.mem_of_mem_drop h))
      rw [← HN2.out] at q2 q3
      obtain ⟨Z, hZ⟩ : ∃ Z, Z = plyO (cat f n (lst Y2)) (n + n2) (l.drop p) := ⟨_, rfl⟩
      rw [← hZ] at q2 q3 hpl3
      obtain ⟨Z1, Z2⟩ := Z
      have hX1 : X1 = Z1 := q2
      subst hX1
      have HPL3 := Lib.hid hpl3; have HRUN1 := Lib.hid hrun1; have HRUN2 := Lib.hid hrun2; have HB35 := Lib.hid hb35; have HQ3 := Lib.hid q3
      have hmi : (p : Int) ≤ (m : Int) := by omega
      clear hrw hrun1 hown4 hb4 hb34 hrun2 hown5 hb5 hb35 hby5 hB5 htk htd hpl3 q1 q2 q3 hZ hlY
      go_wp2
      go_region_law (first
        | (refine step_app rfl (.const (.slice none 0 0)) (.tmp 66) 22 22 rfl (.slice none 0 0) (.slice A n c) rfl rfl (.slice A4 n c4) w4 HRUN1.out ?_)
        | (refine step_app rfl (.tmp 67) (.tmp 68) 22 22 rfl (.slice A4 n c4) (.slice B2 n2 k2) rfl rfl (.slice A5 (n + n2) c5) w5 HRUN2.out ?_)
        | (refine step_call rfl 9 _ _ rfl (enters_of Try.func9 (by kernel_rfl) rfl) (#[.slice A5 (n + n2) c5, .slice A3 (m - p) (c2 - p)]) (by simp [Act.put, Act.eval, List.setIfInBounds_toArray, List.set_cons_zero, List.set_cons_succ]) HPL3.out ?_; rintro e w6 ⟨B3, n3, k3, rfl, hn3, hby3, hb6, _⟩; refine ⟨_, rfl, ?_⟩))
      all_goals (
        replace hn3 : n3 = Z2.length := hn3
        subst hn3
        have hB6 := (HB3.out.trans (HB35.out.mono HB3.out.size)).trans (hb6.mono (HB3.out.trans (HB35.out.mono HB3.out.size)).size)
        have h36 := HB35.out.trans (hb6.mono HB35.out.size)
        have hee : (X1 == X1) = true := by simp
        have HB6 := Lib.hid hB6
        by_cases hX0 : X1 = 0
        · have hXY := HQ3.out hX0
          have t1 := run_str (HX3.out.1.below h36 (Nat.le_refl _)) k1
          have t2 := run_str (HY.out.1.below h36 (Nat.le_refl _)) k2
          have t3 := run_str hby3.1 k3
          have hk1 : n1 ≤ 9223372036854775807 := by have h1 := HX3.out.2.2.1; have h2 := HX3.out.2.2.2; unfold maxLen at h2; omega
          have hsum : n1 = n2 + Z2.length := by
            have h1 := HN1.out; have h2 := HN2.out
            replace h1 : n1 = X2.length := h1
            replace hXY : X2 = Y2 ++ Z2 := hXY
            rw [hXY, List.length_append] at h1
            replace h2 : n2 = Y2.length := h2
            omega
          have u1 : strB n1 (lst X2) = strL X2 := by rw [HN1.out]; rfl
          have u2 : strB n2 (lst Y2) = strL Y2 := by rw [HN2.out]; rfl
          have u3 : strB Z2.length (lst Z2) = strL Z2 := rfl
          replace t1 : (convert 22 9 (.slice B1 n1 k1)).run Try.prog w6 = .ok (.string (strB n1 (lst X2))) w6 := t1
          replace t2 : (convert 22 9 (.slice B2 n2 k2)).run Try.prog w6 = .ok (.string (strB n2 (lst Y2))) w6 := t2
          replace t3 : (convert 22 9 (.slice B3 Z2.length k3)).run Try.prog w6 = .ok (.string (strB Z2.length (lst Z2))) w6 := t3
          rw [u1] at t1
          rw [u2] at t2
          rw [u3] at t3
          replace hXY : X2 = Y2 ++ Z2 := hXY
          rw [hXY, ← strL_app] at t1
          have z1 : (strL Y2).size = n2 := by rw [strL_size]; exact HN2.out.symm
          have z2 : (strL Z2).size = Z2.length := strL_size _
          obtain ⟨S1, hS1⟩ : ∃ S, S = strL Y2 := ⟨_, rfl⟩
          obtain ⟨S2, hS2⟩ : ∃ S, S = strL Z2 := ⟨_, rfl⟩
          rw [← hS1] at t1 t2 z1
          rw [← hS2] at t1 t3 z2
          have z3 : ¬ (9223372036854775807 : Int) < (S1.size : Int) + (S2.size : Int) := by omega
          have z4 : ¬ 9223372036854775807 < S1.size + S2.size := by omega
          subst hX0
          clear hB6 h36 hb6 hby3 hsum u1 u2 u3 hXY hS1 hS2 z1 z2 hk1
          go_wp2
          go_ret
          exact ⟨rfl, HB6.out⟩
        · have hne : (X1 != 0) = true := by simpa using hX0
          clear hB6 h36 hb6 hby3
          go_wp2
          go_ret
          exact ⟨rfl, HB6.out⟩)
    · have hne : (Y1 != 0) = true := by simpa using hY0
      have h := HON1.out hY0
      injection h with h1 h2
      have h1' : X1 = Y1 := h1
      have h2' : X2 = [] := h2
      subst h1'; subst h2'
      have hn0 : n1 = 0 := HN1.out
      subst hn0
      have hee : (X1 == X1) = true := by simp
      clear h1 h2 hY0
      go_wp2
      go_ret
      exact ⟨rfl, HB3.out⟩
-- LAW
set_option maxRecDepth 100000 in
theorem on8_law_lifted (os : Os) (started : os.Started) (H : Type) (enc : TypeId × Value → H) :
    ReturnsInHanded {} Try.checked os 8 .any (Rows.tokenOnSpec.pre6 enc Try.prog Try.f8 Rows.tokenOnRow.domain false) (Rows.tokenOnSpec.post enc Try.prog Try.f8 false true false false) := by
  refine returnsInHanded_of_change (C := Try.checked) own started (by kernel_rfl) Try.func8
    (ChangeSpec.witness6 (enc := enc) (C := Try.checked) false ⟨#[], #[.slice none 0 0, .slice none 0 0, .int .i64 0], []⟩ 8 (by kernel_rfl) (by kernel_rfl) (by kernel_rfl) (by kernel_rfl)) ?_
  intro W base args ds gs before hval0 hW _ _
  have hval : ∀ (j : Nat) t v, Try.f8.params[j]? = some t → args[j]? = some v → Value.okWide Try.prog W .any base t v := hval0
  have hW' := hW
  obtain ⟨p, q, hA0, hV, rfl, _, _⟩ := hW
  have hA : DataW.TrodAll enc Try.prog W 0 (fun _ => true) true Try.f8.params.toList args.toList ds p := hA0
  rw [Try.params8] at hA hval
  obtain ⟨v0, vs0, d0, ds0, p0, q0, hargs, rfl, rfl, h0, r0⟩ := trodAll_cons hA
  obtain ⟨v1, vs1, d1, ds1, p1, q1, rfl, rfl, rfl, h1, r1⟩ := trodAll_cons r0
  obtain ⟨v2, vs2, d2, ds2, p2, q2, rfl, rfl, rfl, h2, r2⟩ := trodAll_cons r1
  obtain ⟨rfl, rfl, rfl⟩ := trodAll_nil r2
  obtain rfl : args = #[v0, v1, v2] := by cases args; simp_all
  obtain ⟨rfl, rfl⟩ := trodVars_none hV
  have k0 := h0
  have lt0 : ∀ x ∈ p0, x.block < W.heap.size := by obtain ⟨m, hm⟩ := k0; exact DataW.trod_lt m _ _ _ hm
  obtain ⟨A0, len0, cap0, rfl⟩ := okWide_slice Try.underlying22 (hval 0 22 v0 rfl rfl)
  obtain ⟨f0, hr0⟩ := open_byr h0
  have k1 := h1
  have lt1 : ∀ x ∈ p1, x.block < W.heap.size := by obtain ⟨m, hm⟩ := k1; exact DataW.trod_lt m _ _ _ hm
  obtain ⟨A1, len1, cap1, rfl⟩ := okWide_slice Try.underlying28 (hval 1 28 v1 rfl rfl)
  obtain ⟨l1, hr1, hin1⟩ := open_toks h1
  have k2 := h2
  have lt2 : ∀ x ∈ p2, x.block < W.heap.size := by obtain ⟨m, hm⟩ := k2; exact DataW.trod_lt m _ _ _ hm
  obtain ⟨a2, rfl, rfl, rfl, w2⟩ := open_int Try.underlying3 (hval 2 3 v2 rfl rfl) h2
  have u2 := wf_i64_range w2
  clear hA0 hval0
  refine (on8_law A0 len0 cap0 f0 A1 len1 cap1 l1 a2 W hr0 hr1 hin1 u2.1 u2.2).mono fun e W' ⟨he, bel⟩ => ?_
  subst he
  exact ⟨_, rfl, _, _, _, [], _, [], hW', trodAll_mk1 (shut_bool Try.underlying4 _), (trodAll_cons_mk (Below.trod laidOut (by kernel_rfl) (of_decide_eq_true (by kernel_rfl)) k0 bel lt0) (trodAll_cons_mk (Below.trod laidOut (by kernel_rfl) (of_decide_eq_true (by kernel_rfl)) k1 bel lt1) (trodAll_cons_mk (Below.trod laidOut (by kernel_rfl) (of_decide_eq_true (by kernel_rfl)) k2 bel lt2) trodAll_mk0))), rfl, bel.frame _, fun h => by cases h⟩
theorem on8_law_holds : Rows.TokenOnSaid :=
  OpenClaim.holds_of_wide 8 Try.f8 rfl rfl rfl rfl rfl rfl rfl ⟨rfl, rfl, rfl, rfl, rfl⟩ rfl rfl rfl rfl rfl (by kernel_rfl) Try.func8 (by kernel_rfl)
    (of_decide_eq_true (by kernel_rfl)) (by unfold Func.isWrapper; first | (rw [if_pos (by decide +kernel)]; kernel_rfl) | (rw [if_neg (by decide +kernel)]; exact ⟨rfl, rfl⟩))
    (fun os started H enc _ => on8_law_lifted os started H enc)
#print axioms on8_law_holds
end Go.Proofs.Ytihfcjehpmiolaa
