/-
  Layer 4 (build): what is asked of frequencies: the document's own Asked.
-/
import Derived.Test.YtgppikhfkikknaaBuildItems
import Derived.Test.YtgppikhfkikknaaApp
namespace Go.Proofs.Ytgppikhfkikknaa
open Go.RowKit
/-- A frequency by its symbol. -/
def freqN (l : List Int) (j : Nat) : Nat := (l.getD j 0).toNat
def badI (x : Int) : Bool := decide (x < 0 ∨ 1073741824 < x)
def badL (l : List Int) (k : Nat) : Bool := decide (∃ j, j < k ∧ badI (l.getD j 0) = true)
def askE (l : List Int) (most : Int) : Int :=
  if most < 1 ∨ 15 < most then 2 else if 320 < l.length then 4 else if badL l l.length = true then 2 else if 2 ^ most.toNat < nI (freqN l) l.length then 4 else 0
theorem ask_arg (w : World) (A : Option Addr) (n c : Nat) (most : Int) (h : most < 1 ∨ 15 < most) :
    Calls Try.prog 11 #[.slice A n c, .int .i64 most] w fun e w' => e = .returned (.int .i64 2) ∧ w = w' := by
  by_cases h1 : most < 1
  · have hd : decide (most < 1) = true := by simpa using h1
    clear h
    go_enter Try.func11, Try.ntmps11
    go_wp2
    go_ret
    exact ⟨rfl, rfl⟩
  · have h2 : 15 < most := by omega
    have hd : decide (most < 1) = false := by simpa using h1
    clear h
    go_enter Try.func11, Try.ntmps11
    go_wp2
    go_ret
    exact ⟨rfl, rfl⟩
theorem ask_many (w : World) (A : Option Addr) (n c : Nat) (most : Int) (h1 : 1 ≤ most) (h2 : most ≤ 15) (h : 320 < n) :
    Calls Try.prog 11 #[.slice A n c, .int .i64 most] w fun e w' => e = .returned (.int .i64 4) ∧ w = w' := by
  have hd : decide (most < 1) = false := by simp; omega
  have hd2 : decide (15 < most) = false := by simp; omega
  go_enter Try.func11, Try.ntmps11
  go_wp2
  go_ret
  exact ⟨rfl, rfl⟩
theorem badL_yes {l : List Int} {k n : Nat} (hk : k < n) (h : badI (l.getD k 0) = true) : badL l n = true := decide_eq_true ⟨k, hk, h⟩
theorem badL_no {l : List Int} {n : Nat} (h : ∀ j, j < n → badI (l.getD j 0) = false) : badL l n = false := by
  apply decide_eq_false
  rintro ⟨j, hj, h2⟩
  rw [h j hj] at h2; cases h2
theorem badI_no {x : Int} (h1 : 0 ≤ x) (h2 : x ≤ 1073741824) : badI x = false := decide_eq_false (by omega)
set_option maxRecDepth 100000 in
set_option maxHeartbeats 2000000 in
theorem ask_rest (w : World) (B : Nat) (A : Option Addr) (c : Nat) (l : List Int) (most : Int) (hr : RdI w B A l) (h1 : 1 ≤ most) (h2 : most ≤ 15) (h : l.length ≤ 320) :
    Calls Try.prog 11 #[.slice A l.length c, .int .i64 most] w fun e w' => e = .returned (.int .i64 (if badL l l.length = true then 2 else if 2 ^ most.toNat < nI (freqN l) l.length then 4 else 0)) ∧ w = w' := by
  have HR := Lib.hid hr
  clear hr
  have hd : decide (most < 1) = false := by simp; omega
  have hd2 : decide (15 < most) = false := by simp; omega
  obtain ⟨n, hn⟩ : ∃ n, n = l.length := ⟨_, rfl⟩
  rw [← hn] at h ⊢
  have HN := Lib.hid hn
  clear hn
  have hd3 : decide ((320 : Int) < (n : Int)) = false := by simp; omega
  obtain ⟨E, hE⟩ : ∃ E, E = (if badL l n = true then 2 else if 2 ^ most.toNat < nI (freqN l) n then (4 : Int) else 0) := ⟨_, rfl⟩
  rw [← hE]
  have HE := Lib.hid hE
  clear hE
  go_enter Try.func11, Try.ntmps11
  go_wp2
  go_loop [5, 6] (fun c i => ∃ k : Nat, k ≤ n ∧ i = .int .i64 k ∧ c = .int .i64 (nI (freqN l) k : Nat) ∧ ∀ j, j < k → badI (l.getD j 0) = false) (fun _ i => n - (intOf i).toNat)
  case atStart => exact ⟨0, Nat.zero_le _, rfl, rfl, fun j hj => absurd hj (by omega)⟩
  case round =>
    obtain ⟨k, hk, rfl, rfl, hall⟩ := hrel
    have hu := nI_le (freqN l) k
    have e1 : nI (freqN l) (k + 1) = nI (freqN l) k + if 0 < freqN l k then 1 else 0 := rfl
    have HALL := Lib.hid hall; have E1 := Lib.hid e1
    clear hall e1
    obtain ⟨u, hue⟩ : ∃ u, u = nI (freqN l) k := ⟨_, rfl⟩
    rw [← hue] at hu E1
    rw [← hue]
    have HU := Lib.hid hue
    clear hue
    by_cases hlt : k < n
    · obtain ⟨b, o, rfl, _, hc⟩ := HR.out.at (k := k) (by rw [← HN.out]; exact hlt)
      have hcell := hc k (by rw [← HN.out]; exact hlt)
      clear hc
      obtain ⟨x, hx⟩ : ∃ x, x = l.getD k 0 := ⟨_, rfl⟩
      rw [← hx] at hcell
      have HX := Lib.hid hx
      clear hx
      by_cases g1 : x < 0
      · have d1 : decide (x < 0) = true := by simpa using g1
        have HB := Lib.hid (badL_yes (n := n) hlt (by rw [← HX.out]; exact decide_eq_true (.inl g1)))
        go_wp2
        go_ret
        exact ⟨ret_int (by rw [HE.out, if_pos HB.out]), rfl⟩
      · have d1 : decide (x < 0) = false := by simpa using g1
        by_cases g2 : 1073741824 < x
        · have d2 : decide (1073741824 < x) = true := by simpa using g2
          have HB := Lib.hid (badL_yes (n := n) hlt (by rw [← HX.out]; exact decide_eq_true (.inr g2)))
          go_wp2
          go_ret
          exact ⟨ret_int (by rw [HE.out, if_pos HB.out]), rfl⟩
        · have d2 : decide (1073741824 < x) = false := by simpa using g2
          have HNO : Hid (∀ j, j < k + 1 → badI (l.getD j 0) = false) := Lib.hid (fun j hj => by
            rcases Nat.eq_or_lt_of_le (Nat.le_of_lt_succ hj) with e | e
            · subst e; rw [← HX.out]; exact badI_no (by omega) (by omega)
            · exact HALL.out j e)
          have hfk : freqN l k = x.toNat := by unfold freqN; rw [← HX.out]
          by_cases g3 : 0 < x
          · have E2 := Lib.hid (E1.out.trans (by rw [if_pos (by rw [hfk]; omega)] : _ = u + 1))
            clear hfk
            go_wp2
            refine ⟨⟨k + 1, hlt, by go_num, val_int (by rw [E2.out]; omega), HNO.out⟩, by simp [intOf]; omega⟩
          · have E2 := Lib.hid (E1.out.trans (by rw [if_neg (by rw [hfk]; omega)] : _ = u + 0))
            clear hfk
            go_wp2
            refine ⟨⟨k + 1, hlt, by go_num, val_int (by rw [E2.out]; omega), HNO.out⟩, by simp [intOf]; omega⟩
    · obtain rfl : k = n := by omega
      clear hlt hk
      obtain ⟨mt, hmt⟩ : ∃ m : Nat, most = m := ⟨most.toNat, by omega⟩
      subst hmt
      have HE2 := Lib.hid (HE.out.trans (by rw [if_neg (by rw [badL_no HALL.out]; decide), ← HU.out, Int.toNat_natCast] : _ = if 2 ^ mt < u then (4 : Int) else 0))
      go_wp2
      go_loop [7, 8] (fun r i => ∃ j : Nat, j ≤ mt ∧ i = .int .i64 j ∧ r = .int .i64 ((2 ^ j : Nat) : Int)) (fun _ i => mt - (intOf i).toNat)
      case atStart => exact ⟨0, Nat.zero_le _, rfl, rfl⟩
      case round =>
        obtain ⟨j, hj, rfl, rfl⟩ := hrel
        have hp : 2 ^ j ≤ 2 ^ 15 := Nat.pow_le_pow_right (by omega) (by omega)
        have hp2 : (2 : Nat) ^ 15 = 32768 := rfl
        have hp3 : (2 : Nat) ^ (j + 1) = 2 ^ j * 2 := Nat.pow_succ _ _
        obtain ⟨q, hq⟩ : ∃ q : Nat, q = 2 ^ j := ⟨_, rfl⟩
        rw [← hq] at hp hp3 ⊢
        have hq2 : q ≤ 32768 := by omega
        have HP3 := Lib.hid hp3; have HQ := Lib.hid hq
        clear hp hp2 hp3 hq
        by_cases hlt : j < mt
        · go_wp2
          refine ⟨⟨j + 1, hlt, by go_num, val_int (by rw [HP3.out]; omega)⟩, by simp [intOf]; omega⟩
        · obtain rfl : j = mt := by omega
          rw [← HQ.out] at HE2
          by_cases g : q < u
          · go_wp2
            go_ret
            exact ⟨ret_int (by rw [HE2.out, if_pos g]), rfl⟩
          · go_wp2
            go_ret
            exact ⟨ret_int (by rw [HE2.out, if_neg g]), rfl⟩
theorem ask_any (w : World) (B : Nat) (A : Option Addr) (c : Nat) (l : List Int) (most : Int) (hr : RdI w B A l) :
    Calls Try.prog 11 #[.slice A l.length c, .int .i64 most] w fun e w' => e = .returned (.int .i64 (askE l most)) ∧ w = w' := by
  unfold askE
  by_cases h1 : most < 1 ∨ 15 < most
  · rw [if_pos h1]; exact ask_arg w A _ c most h1
  · rw [if_neg h1]
    by_cases h2 : 320 < l.length
    · rw [if_pos h2]; exact ask_many w A _ c most (by omega) (by omega) h2
    · rw [if_neg h2]; exact ask_rest w B A c l most hr (by omega) (by omega) (by omega)
end Go.Proofs.Ytgppikhfkikknaa
