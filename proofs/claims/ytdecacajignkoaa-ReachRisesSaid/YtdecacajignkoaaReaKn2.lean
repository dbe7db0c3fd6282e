/-
  Layer 9 (reach), the landed code: bits and number of a kind.
-/
import Derived.Test.YtdecacajignkoaaReaKnd
namespace Go.Proofs.Ytdecacajignkoaa
open Go.RowKit
/-- What bits tells. -/
def BtOut (l f s o : Int) (M : Nat → Nat) (y : Int) (e : Ending) : Prop :=
  if f ≤ y ∧ y ≤ s then ∃ (L : Int) (b : Nat), BgN l f s o M y L b ∧ e = .returned (.tuple #[.int .i64 (b : Int), .int .i64 0]) else e = .returned (.tuple #[.int .i64 0, .int .i64 90])
set_option maxRecDepth 100000 in
set_option maxHeartbeats 2000000 in
theorem bits9_any (w : World) (l m f s o : Int) (M : Nat → Nat) (hk : KndOk l m f s o M) (y : Int) :
    Calls Try.prog 26 #[.agg (kdA l m f s o M), .int .i64 y] w fun e w' => BtOut l f s o M y e ∧ Below w.heap.size w w' := by
  obtain ⟨h, hh⟩ : ∃ h, h = decide (f ≤ y ∧ y ≤ s) := ⟨_, rfl⟩
  have hkn := knd_new w l m f s o M
  have hb : Below w.heap.size w (w.alloc (.cells (kdA l m f s o M) 41)) := (Below.refl _ _).alloc (Nat.le_refl _) _
  have hhas := has9_any (w.alloc (.cells (kdA l m f s o M) 41)) l m f s o M y h hh
  have hlt := hkn.lt
  have HKN := Lib.hid hkn; have HB := Lib.hid hb; have HH := Lib.hid hh; have HHAS := Lib.hid hhas; have HK := Lib.hid hk; have HLT := Lib.hid hlt
  clear hkn hb hh hhas hk hlt
  go_enter Try.func26, Try.ntmps26
  go_wp2_with (first
    | (refine wpList_load_row rfl _ _ rfl w.heap.size rfl _ (kdA l m f s o M) (0, 0) _ HKN.out Try.underlying41 rfl (szKd _) ?_)
    | fail)
  refine HHAS.out.mono ?_
  rintro e w1 ⟨rfl, hb1⟩
  have hk1 : Knd w1 w.heap.size l m f s o M := HKN.out.below hb1 HLT.out
  have hb2 := HB.out.trans (hb1.mono (Nat.le_of_lt HLT.out))
  have HK1 := Lib.hid hk1; have HB1 := Lib.hid hb2
  clear hk1 hb1 hb2
  rcases h with _ | _
  · have hn : ¬ (f ≤ y ∧ y ≤ s) := by have := HH.out; simpa using this
    go_wp2
    go_ret2
    exact ⟨by unfold BtOut; rw [if_neg hn]; rfl, HB1.out⟩
  · have hy : f ≤ y ∧ y ≤ s := by have := HH.out; simpa using this
    have hbg := begin9_all w1 l m f s o M HK.out y hy
    have HBG := Lib.hid hbg; have HY := Lib.hid hy
    have HSZ := Lib.hid (show w.heap.size ≤ w1.heap.size from HB1.out.size)
    clear hbg hy
    go_wp2_with (first
      | (refine wpList_load_row rfl _ _ rfl w.heap.size rfl _ (kdA l m f s o M) (0, 0) _ HK1.out Try.underlying41 rfl (szKd _) ?_)
      | fail)
    refine HBG.out.mono ?_
    rintro e w2 ⟨⟨L, b, hbn, rfl⟩, hb3⟩
    have HBN := Lib.hid hbn; have HB3 := Lib.hid (HB1.out.trans (hb3.mono HSZ.out))
    clear hbn hb3
    go_wp2
    go_ret2
    exact ⟨by unfold BtOut; rw [if_pos HY.out]; exact ⟨L, b, HBN.out, rfl⟩, HB3.out⟩
/-- What number tells. -/
def NmOut (l f s o : Int) (M : Nat → Nat) (y x : Int) (e : Ending) : Prop :=
  if f ≤ y ∧ y ≤ s then ∃ (L : Int) (b : Nat), BgN l f s o M y L b ∧ ((x < 0 ∨ (p2N b : Int) ≤ x) ∧ e = .returned (.tuple #[.int .i64 0, .int .i64 2]) ∨
    (0 ≤ x ∧ x < (p2N b : Int)) ∧ ((L + x = o ∧ y ≠ s) ∧ e = .returned (.tuple #[.int .i64 0, .int .i64 90]) ∨ ¬ (L + x = o ∧ y ≠ s) ∧ e = .returned (.tuple #[.int .i64 (L + x), .int .i64 0])))
  else e = .returned (.tuple #[.int .i64 0, .int .i64 90])
set_option maxRecDepth 100000 in
set_option maxHeartbeats 4000000 in
theorem number9_any (w : World) (l m f s o : Int) (M : Nat → Nat) (hk : KndOk l m f s o M) (y x : Int) :
    Calls Try.prog 24 #[.agg (kdA l m f s o M), .int .i64 y, .int .i64 x] w fun e w' => NmOut l f s o M y x e ∧ Below w.heap.size w w' := by
  obtain ⟨h, hh⟩ : ∃ h, h = decide (f ≤ y ∧ y ≤ s) := ⟨_, rfl⟩
  have hkn := knd_new w l m f s o M
  have hb : Below w.heap.size w (w.alloc (.cells (kdA l m f s o M) 41)) := (Below.refl _ _).alloc (Nat.le_refl _) _
  have hhas := has9_any (w.alloc (.cells (kdA l m f s o M) 41)) l m f s o M y h hh
  have hlt := hkn.lt
  have HKN := Lib.hid hkn; have HB := Lib.hid hb; have HH := Lib.hid hh; have HHAS := Lib.hid hhas; have HK := Lib.hid hk; have HLT := Lib.hid hlt
  clear hkn hb hh hhas hk hlt
  go_enter Try.func24, Try.ntmps24
  go_wp2_with (first
    | (refine wpList_load_row rfl _ _ rfl w.heap.size rfl _ (kdA l m f s o M) (0, 0) _ HKN.out Try.underlying41 rfl (szKd _) ?_)
    | fail)
  refine HHAS.out.mono ?_
  rintro e w1 ⟨rfl, hb1⟩
  have hk1 : Knd w1 w.heap.size l m f s o M := HKN.out.below hb1 HLT.out
  have hb2 := HB.out.trans (hb1.mono (Nat.le_of_lt HLT.out))
  have HK1 := Lib.hid hk1; have HB1 := Lib.hid hb2
  clear hk1 hb1 hb2
  rcases h with _ | _
  · have hn : ¬ (f ≤ y ∧ y ≤ s) := by have := HH.out; simpa using this
    go_wp2
    go_ret2
    exact ⟨by unfold NmOut; rw [if_neg hn]; rfl, HB1.out⟩
  · have hy : f ≤ y ∧ y ≤ s := by have := HH.out; simpa using this
    have hbg := begin9_all w1 l m f s o M HK.out y hy
    have HBG := Lib.hid hbg; have HY := Lib.hid hy
    have HSZ := Lib.hid (show w.heap.size ≤ w1.heap.size from HB1.out.size)
    clear hbg hy
    go_wp2_with (first
      | (refine wpList_load_row rfl _ _ rfl w.heap.size rfl _ (kdA l m f s o M) (0, 0) _ HK1.out Try.underlying41 rfl (szKd _) ?_)
      | fail)
    refine HBG.out.mono ?_
    rintro e w2 ⟨⟨L, b, hbn, rfl⟩, hb3⟩
    have hk2 : Knd w2 w.heap.size l m f s o M := HK1.out.below hb3 HK1.out.lt
    have k2 := hk2.own
    have k3 := hk2.last
    obtain ⟨hL0, hL1, hb14⟩ := bg_le HK.out hbn
    have HBN := Lib.hid hbn; have HB3 := Lib.hid (HB1.out.trans (hb3.mono HSZ.out))
    clear hbn hb3 hk2
    have hp : wrap64 ((2 : Int) ^ b) = ((p2N b : Nat) : Int) ∧ p2N b ≤ 8192 := by
      have h1 : 2 ^ b ≤ 2 ^ 13 := Nat.pow_le_pow_right (by omega) (by omega)
      have e : (2 : Int) ^ b = ((2 ^ b : Nat) : Int) := by rw [Int.natCast_pow]; rfl
      rw [e]
      unfold p2N
      generalize 2 ^ b = z at h1
      unfold wrap64
      omega
    obtain ⟨P, hP⟩ : ∃ P, P = p2N b := ⟨_, rfl⟩
    rw [← hP] at hp
    obtain ⟨hp1, hp2⟩ := hp
    have HP := Lib.hid hP; have HP1 := Lib.hid hp1
    clear hP hp1
    have key : ∀ e, ((x < 0 ∨ (P : Int) ≤ x) ∧ e = Ending.returned (.tuple #[.int .i64 0, .int .i64 2]) ∨ (0 ≤ x ∧ x < (P : Int)) ∧ ((L + x = o ∧ y ≠ s) ∧ e = .returned (.tuple #[.int .i64 0, .int .i64 90]) ∨ ¬ (L + x = o ∧ y ≠ s) ∧ e = .returned (.tuple #[.int .i64 (L + x), .int .i64 0]))) → NmOut l f s o M y x e := fun e he => by
      unfold NmOut; rw [if_pos HY.out]; rw [HP.out] at he; exact ⟨L, b, HBN.out, he⟩
    have KEY := Lib.hid key
    clear key
    by_cases hx0 : x < 0
    · have hd : decide (x < 0) = true := decY hx0
      go_wp2
      go_ret2
      exact ⟨KEY.out _ (.inl ⟨.inl hx0, rfl⟩), HB3.out⟩
    · have hd : decide (x < 0) = false := decN hx0
      by_cases hx1 : (P : Int) ≤ x
      · have hd1 : decide ((P : Int) ≤ x) = true := decY hx1
        have hd2 : decide (wrap64 ((2 : Int) ^ b) ≤ x) = true := by rw [HP1.out]; exact hd1
        go_wp2
        go_ret2
        exact ⟨KEY.out _ (.inl ⟨.inr hx1, rfl⟩), HB3.out⟩
      · have hd1 : decide ((P : Int) ≤ x) = false := decN hx1
        have hd2 : decide (wrap64 ((2 : Int) ^ b) ≤ x) = false := by rw [HP1.out]; exact hd1
        obtain ⟨B1, hB1⟩ : ∃ B1, B1 = (L + x == o) := ⟨_, rfl⟩
        obtain ⟨B2, hB2⟩ : ∃ B2, B2 = (y != s) := ⟨_, rfl⟩
        have e1 := hB1.symm
        have e2 := hB2.symm
        have hBB : (L + x = o ∧ y ≠ s) ↔ (B1 && B2) = true := by rw [hB1, hB2]; simp
        have HBB := Lib.hid hBB
        clear hB1 hB2 hBB
        rcases B1 with _ | _ <;> rcases B2 with _ | _
        all_goals (
          go_wp2
          go_ret2
          refine ⟨KEY.out _ (.inr ⟨⟨by omega, by omega⟩, ?_⟩), HB3.out⟩
          first
            | exact .inl ⟨HBB.out.2 rfl, rfl⟩
            | exact .inr ⟨fun h => absurd (HBB.out.1 h) (by decide), rfl⟩)
end Go.Proofs.Ytdecacajignkoaa
