/-
  Layer 8 (token): the tokens of bytes: the document's own.
-/
import Derived.Test.YtihfcjehpmiolaaTokSty
import Derived.Test.YtihfcjehpmiolaaMatFnd
import Derived.Great.BuildSlice
namespace Go.Proofs.Ytihfcjehpmiolaa
open Go.RowKit Go.ChangeShapes Go.WideShapes Go.ChangeAt Go.Joins
/-- A slice of tokens, its room too. -/
def TkR (w : World) (B : Nat) (A : Option Addr) (n c : Nat) (l : List Tok) : Prop := n = l.length ∧ RdT w B A l ∧ (A = none → c = 0) ∧ n ≤ c ∧ c ≤ maxLen
theorem TkR.below {w w' : World} {B B' n c : Nat} {A : Option Addr} {l : List Tok} (h : TkR w B A n c l) (hb : Below B' w w') (hB : B ≤ B') : TkR w' B A n c l := ⟨h.1, h.2.1.below hb hB, h.2.2⟩
theorem TkR.more {w : World} {B B' n c : Nat} {A : Option Addr} {l : List Tok} (h : TkR w B A n c l) (hB : B ≤ B') : TkR w B' A n c l := ⟨h.1, h.2.1.more hB, h.2.2⟩
theorem TkR.nil (w : World) (B : Nat) : TkR w B none 0 0 [] := ⟨rfl, RdT.nil w B none, fun _ => rfl, Nat.le_refl _, by unfold maxLen; omega⟩
theorem TkR.of_own {w : World} {base n c : Nat} {A : Option Addr} {l : List Tok} (h : w.ownsRow base 27 3 (.slice A n c) n (toksL l)) : TkR w w.heap.size A n c l := by
  obtain ⟨h1, h2⟩ := RdT.of_own h
  refine ⟨h1, h2, ?_⟩
  rcases h.2 with ⟨hv, h0⟩ | ⟨g, cap, cur, hv, _, _, k1, k2, _⟩
  · injection hv with h3 h4 h5
    exact ⟨fun _ => h5, by omega, by unfold maxLen; omega⟩
  · injection hv with h3 h4 h5
    exact ⟨(fun h => by rw [h] at h3; cases h3), by omega, by omega⟩
theorem own_drw {w u : World} {base n : Nat} {e : TypeId} {sz : Nat} {v : Value} {xs : List Value} (h : w.ownsRow base e sz v n xs) (hd : Drw w u) : u.ownsRow base e sz v n xs := by
  obtain ⟨t, rfl⟩ := hd; exact h
set_option maxRecDepth 100000 in
set_option maxHeartbeats 8000000 in
theorem rcuts8_any (w : World) (A : Option Addr) (n c a z ch : Nat) (m : Int) (lz : Bool) (f : Nat → Nat) (hr : RdB w w.heap.size A n f) (ha : a ≤ n) (hn : n ≤ 131072) (hz : z ≤ 32768) (hch : ch ≤ 256) :
    Calls Try.prog 25 #[.slice A n c, .int .i64 (a : Int), .agg #[.int .i64 (z : Int), .int .i64 (ch : Int), .int .i64 m, .bool lz]] w fun e w' => ∃ A' n' c', e = .returned (.slice A' n' c') ∧ TkR w' w'.heap.size A' n' c' (cutA f n z ch lz a) ∧ Below w.heap.size w w' := by
  obtain ⟨W1, hW1⟩ : ∃ W1, W1 = w.alloc (.cells #[.int .i64 (z : Int), .int .i64 (ch : Int), .int .i64 m, .bool lz] 32) := ⟨_, rfl⟩
  have hb1 : Below w.heap.size w W1 := by rw [hW1]; exact (Below.refl _ _).alloc (Nat.le_refl _) _
  have hs1 : W1.heap.size = w.heap.size + 1 := by rw [hW1]; simp
  have hbx : W1.heap[w.heap.size]? = some (.cells #[.int .i64 (z : Int), .int .i64 (ch : Int), .int .i64 m, .bool lz] 32 (0, 0)) := by rw [hW1]; exact heap_alloc_new w _
  have HR := Lib.hid ((hr.below hb1 (Nat.le_refl _)).more hb1.size); have HB1 := Lib.hid hb1; have HW1 := Lib.hid hW1; have HS1 := Lib.hid hs1; have HBX := Lib.hid hbx
  obtain ⟨h, hh⟩ : ∃ h, h = w.heap.size := ⟨_, rfl⟩
  have HH := Lib.hid hh
  clear hr hW1 hb1 hs1 hbx hh
  go_enter Try.func25, Try.ntmps25
  go_wp2
  rw [← HW1.out, ← HH.out]
  go_loopw [7, 8] (fun ov av wr => ∃ (p a' : Nat) (At : Option Addr) (ct : Nat) (pre : List Tok), a' ≤ n ∧ p ≤ a' ∧ ov = .slice At p ct ∧ av = .int .i64 (a' : Int) ∧ Hid (pre ++ cutA f n z ch lz a' = cutA f n z ch lz a) ∧ Hid (wr.ownsRow (h + 1) 27 3 (.slice At p ct) p (toksL pre)) ∧ Hid (Below (h + 1) W1 wr)) (fun _ av _ => n - (intOf av).toNat)
  case atStart => exact ⟨0, a, none, 0, [], ha, Nat.zero_le _, rfl, rfl, Lib.hid rfl, Lib.hid (World.ownsRow_nil _ _ _ _), Lib.hid (Below.refl _ _)⟩
  case round =>
    obtain ⟨p, a', At, ct, pre, ha', hpa, rfl, rfl, HK, HO, HB⟩ := hrel
    have hbl : Below w.heap.size w wr := HB1.out.trans (HB.out.mono (by have := HH.out; omega))
    have HBL := Lib.hid hbl
    by_cases hlt : a' < n
    · have hlti : (a' : Int) < (n : Int) := by omega
      have hrow : wr.heap[h]? = some (.cells #[.int .i64 (z : Int), .int .i64 (ch : Int), .int .i64 m, .bool lz] 32 (0, 0)) := (HB.out.block h (by omega)).trans (by rw [HH.out]; exact HBX.out)
      have x0 : wr.cell? ⟨h, 0, none⟩ = some (.int .i64 (z : Int)) := (cell_of_row wr _ 0 _ _ (0, 0) hrow).trans rfl
      have x1 : wr.cell? ⟨h, 1, none⟩ = some (.int .i64 (ch : Int)) := (cell_of_row wr _ 1 _ _ (0, 0) hrow).trans rfl
      have x3 : wr.cell? ⟨h, 3, none⟩ = some (.bool lz) := (cell_of_row wr _ 3 _ _ (0, 0) hrow).trans rfl
      obtain ⟨T, hT⟩ : ∃ T, T = bstN f n a' z a' ch 0 0 := ⟨_, rfl⟩
      have hbe := rbest7_any wr W1.heap.size A n c a' z ch f (HR.out.below HB.out (by have := HS1.out; have := HH.out; omega)) ha' (by omega) hz hch
      rw [← hT] at hbe
      have HBE := Lib.hid hbe; have HT := Lib.hid hT
      clear hbl hrow hT hbe
      obtain ⟨d, k⟩ := T
      go_wp2_with fail
      refine HBE.out.mono ?_
      rintro e w2 ⟨rfl, hd2⟩
      have HD2 := Lib.hid hd2
      have y0 : w2.cell? ⟨h, 0, none⟩ = some (.int .i64 (z : Int)) := by obtain ⟨t, ht⟩ := hd2; rw [ht]; exact x0
      have y1 : w2.cell? ⟨h, 1, none⟩ = some (.int .i64 (ch : Int)) := by obtain ⟨t, ht⟩ := hd2; rw [ht]; exact x1
      have y3 : w2.cell? ⟨h, 3, none⟩ = some (.bool lz) := by obtain ⟨t, ht⟩ := hd2; rw [ht]; exact x3
      clear hd2 x0 x1 x3 HBE
      have hk0 : k = 0 → ((k : Int) == 0) = true := fun e => by simp [e]
      have hk1 : k ≠ 0 → ((k : Int) == 0) = false := fun e => by simp; omega
      have HK0 := Lib.hid hk0; have HK1 := Lib.hid hk1
      clear hk0 hk1
      obtain ⟨a1, ha1⟩ : ∃ a1, a1 = a' + 1 := ⟨_, rfl⟩
      have ea1 : (a' : Int) + 1 = (a1 : Int) := by omega
      have HA1 := Lib.hid ha1
      have a1b : a1 ≤ 200000 := by omega
      by_cases hlz : lz = true ∧ a1 < n
      · obtain ⟨rfl, hl1⟩ := hlz
        have l1 : decide ((a1 : Int) < (n : Int)) = true := by simp; omega
        have l2 : decide (a1 < n) = true := by simp; omega
        obtain ⟨T2, hT2⟩ : ∃ T2, T2 = bstN f n a1 z a1 ch 0 0 := ⟨_, rfl⟩
        have hbe := rbest7_any w2 W1.heap.size A n c a1 z ch f (HR.out.below (HD2.out.below HB.out) (by have := HS1.out; have := HH.out; omega)) (by omega) (by omega) hz hch
        rw [← hT2] at hbe
        obtain ⟨d2, q⟩ := T2
        have hla : latN f n z ch true a' = q := by unfold latN; rw [if_pos ⟨rfl, by omega⟩, ← ha1, ← hT2]
        have HBE := Lib.hid hbe; have HLA := Lib.hid hla
        clear hT2 hbe hla ha1
        go_wp2_with fail
        refine HBE.out.mono ?_
        rintro e w3 ⟨rfl, hd3⟩
        have HD3 := Lib.hid (show Drw wr w3 by obtain ⟨t, ht⟩ := hd3; rw [ht]; exact HD2.out.more t)
        clear hd3 y0 y1 y3 HBE l1 l2
        by_cases hb : k = 0 ∨ k < q
        · by_cases hk0 : k = 0
          · have g1 := HK0.out hk0
            clear hk0
            obtain ⟨b, o, rfl, _, hc⟩ := (HR.out.below (Drw.below HD3.out HB.out) (by have := HS1.out; have := HH.out; omega)).2 (by omega)
            have x9 := hc a' hlt
            obtain ⟨u, hu⟩ : ∃ u, u = f a' := ⟨_, rfl⟩
            rw [← hu] at x9
            obtain ⟨A', c', w', hrun, hown, hb'⟩ := run_oneT w3 (h + 1) At p ct pre (own_drw HO.out HD3.out) ⟨u, 0, 0⟩ (by omega) (by have := HB.out.size; have := HS1.out; have := HH.out; obtain ⟨t, ht⟩ := HD3.out; rw [ht]; show h + 1 ≤ wr.heap.size; omega)
            have hst := HK.out
            rw [cutA_byte hlt (by rw [← HT.out, HLA.out]; exact hb)] at hst
            rw [← hu, ← HA1.out] at hst
            have HST := Lib.hid (show (pre ++ [⟨u, 0, 0⟩]) ++ cutA f n z ch true a1 = cutA f n z ch true a by rw [List.append_assoc]; exact hst)
            have HRUN := Lib.hid hrun; have HOWN := Lib.hid hown; have HB' := Lib.hid ((Drw.below HD3.out HB.out).trans hb')
            have hp2 : p + 1 ≤ a1 ∧ a1 ≤ n ∧ a' < a1 := by have := HA1.out; omega
            clear hrun hown hb' hst hc hu
            go_wp2_with (at_builtin; refine wpList_append_run rfl (.tmp 54) (.tmp 60) 28 rfl (.slice At p ct) (.slice (some ⟨w3.heap.size, 0, none⟩) 1 1) (.slice A' (p + 1) c') w' rfl rfl HRUN.out ?_)
            go_roundw
            case rel => exact ⟨p + 1, a1, A', c', pre ++ [⟨u, 0, 0⟩], hp2.2.1, hp2.1, rfl, by go_num, HST, HOWN, HB'⟩
            case measure => simp [intOf]; omega
          · have g1 := HK1.out hk0
            have g2 : decide ((k : Int) < (q : Int)) = true := by simp; omega
            have g3 : decide (k < q) = true := by simp; omega
            clear hk0
            obtain ⟨b, o, rfl, _, hc⟩ := (HR.out.below (Drw.below HD3.out HB.out) (by have := HS1.out; have := HH.out; omega)).2 (by omega)
            have x9 := hc a' hlt
            obtain ⟨u, hu⟩ : ∃ u, u = f a' := ⟨_, rfl⟩
            rw [← hu] at x9
            obtain ⟨A', c', w', hrun, hown, hb'⟩ := run_oneT w3 (h + 1) At p ct pre (own_drw HO.out HD3.out) ⟨u, 0, 0⟩ (by omega) (by have := HB.out.size; have := HS1.out; have := HH.out; obtain ⟨t, ht⟩ := HD3.out; rw [ht]; show h + 1 ≤ wr.heap.size; omega)
            have hst := HK.out
            rw [cutA_byte hlt (by rw [← HT.out, HLA.out]; exact hb)] at hst
            rw [← hu, ← HA1.out] at hst
            have HST := Lib.hid (show (pre ++ [⟨u, 0, 0⟩]) ++ cutA f n z ch true a1 = cutA f n z ch true a by rw [List.append_assoc]; exact hst)
            have HRUN := Lib.hid hrun; have HOWN := Lib.hid hown; have HB' := Lib.hid ((Drw.below HD3.out HB.out).trans hb')
            have hp2 : p + 1 ≤ a1 ∧ a1 ≤ n ∧ a' < a1 := by have := HA1.out; omega
            clear hrun hown hb' hst hc hu
            go_wp2_with (at_builtin; refine wpList_append_run rfl (.tmp 54) (.tmp 60) 28 rfl (.slice At p ct) (.slice (some ⟨w3.heap.size, 0, none⟩) 1 1) (.slice A' (p + 1) c') w' rfl rfl HRUN.out ?_)
            go_roundw
            case rel => exact ⟨p + 1, a1, A', c', pre ++ [⟨u, 0, 0⟩], hp2.2.1, hp2.1, rfl, by go_num, HST, HOWN, HB'⟩
            case measure => simp [intOf]; omega
        · have g1 := HK1.out (by omega)
          have g2 : decide ((k : Int) < (q : Int)) = false := by simp; omega
          have g3 : decide (k < q) = false := by simp; omega
          have hnx : a' + k ≤ n := by
            have h1 := (bst_is (f := f) (L := n) (a := a') (size := z) (chain := ch) (by rw [← HT.out]; omega)).2.2.2.2.2
            rw [← HT.out] at h1
            have := (h1 (k - 1) (by show k - 1 < k; omega)).1
            omega
          obtain ⟨a2, ha2⟩ : ∃ a2, a2 = a' + k := ⟨_, rfl⟩
          have ea2 : (a' : Int) + (k : Int) = (a2 : Int) := by omega
          obtain ⟨A', c', w', hrun, hown, hb'⟩ := run_oneT w3 (h + 1) At p ct pre (own_drw HO.out HD3.out) ⟨0, (d : Int), (k : Int)⟩ (by omega) (by have := HB.out.size; have := HS1.out; have := HH.out; obtain ⟨t, ht⟩ := HD3.out; rw [ht]; show h + 1 ≤ wr.heap.size; omega)
          have hst := HK.out
          rw [cutA_copy hlt (by rw [← HT.out, HLA.out]; exact hb)] at hst
          rw [← HT.out] at hst
          replace hst : pre ++ ⟨0, (d : Int), (k : Int)⟩ :: cutA f n z ch true (a' + k) = cutA f n z ch true a := hst
          rw [← ha2] at hst
          have HST := Lib.hid (show (pre ++ [⟨0, (d : Int), (k : Int)⟩]) ++ cutA f n z ch true a2 = cutA f n z ch true a by rw [List.append_assoc]; exact hst)
          have HRUN := Lib.hid hrun; have HOWN := Lib.hid hown; have HB' := Lib.hid ((Drw.below HD3.out HB.out).trans hb')
          have hp2 : p + 1 ≤ a2 ∧ a2 ≤ n ∧ a' < a2 := by have := HA1.out; omega
          clear hrun hown hb' hst ha2 hnx
          go_wp2_with (at_builtin; refine wpList_append_run rfl (.tmp 64) (.tmp 68) 28 rfl (.slice At p ct) (.slice (some ⟨w3.heap.size, 0, none⟩) 1 1) (.slice A' (p + 1) c') w' rfl rfl HRUN.out ?_)
          go_roundw
          case rel => exact ⟨p + 1, a2, A', c', pre ++ [⟨0, (d : Int), (k : Int)⟩], hp2.2.1, hp2.1, rfl, by go_num, HST, HOWN, HB'⟩
          case measure => simp [intOf]; omega
      · have hla : latN f n z ch lz a' = 0 := by unfold latN; rw [if_neg (by rw [← ha1]; exact hlz)]
        obtain ⟨q, hq⟩ : ∃ q, q = 0 := ⟨_, rfl⟩
        rw [← hq] at hla
        have HLA := Lib.hid hla
        have hqi : (0 : Int) = (q : Int) := by omega
        have HQ := Lib.hid hq
        clear hla ha1
        subst hq
        cases lz with
        | true =>
          have l1 : decide ((a1 : Int) < (n : Int)) = false := by simp at hlz; simp; omega
          have l2 : decide (a1 < n) = false := by simp at hlz; simp; omega
          clear hlz hqi
          by_cases hb : k = 0 ∨ k < 0
          · by_cases hk0 : k = 0
            · have g1 := HK0.out hk0
              clear hk0
              obtain ⟨b, o, rfl, _, hc⟩ := (HR.out.below (Drw.below HD2.out HB.out) (by have := HS1.out; have := HH.out; omega)).2 (by omega)
              have x9 := hc a' hlt
              obtain ⟨u, hu⟩ : ∃ u, u = f a' := ⟨_, rfl⟩
              rw [← hu] at x9
              obtain ⟨A', c', w', hrun, hown, hb'⟩ := run_oneT w2 (h + 1) At p ct pre (own_drw HO.out HD2.out) ⟨u, 0, 0⟩ (by omega) (by have := HB.out.size; have := HS1.out; have := HH.out; obtain ⟨t, ht⟩ := HD2.out; rw [ht]; show h + 1 ≤ wr.heap.size; omega)
              have hst := HK.out
              rw [cutA_byte hlt (by rw [← HT.out, HLA.out]; exact hb)] at hst
              rw [← hu, ← HA1.out] at hst
              have HST := Lib.hid (show (pre ++ [⟨u, 0, 0⟩]) ++ cutA f n z ch true a1 = cutA f n z ch true a by rw [List.append_assoc]; exact hst)
              have HRUN := Lib.hid hrun; have HOWN := Lib.hid hown; have HB' := Lib.hid ((Drw.below HD2.out HB.out).trans hb')
              have hp2 : p + 1 ≤ a1 ∧ a1 ≤ n ∧ a' < a1 := by have := HA1.out; omega
              clear hrun hown hb' hst hc hu
              go_wp2_with (at_builtin; refine wpList_append_run rfl (.tmp 54) (.tmp 60) 28 rfl (.slice At p ct) (.slice (some ⟨w2.heap.size, 0, none⟩) 1 1) (.slice A' (p + 1) c') w' rfl rfl HRUN.out ?_)
              go_roundw
              case rel => exact ⟨p + 1, a1, A', c', pre ++ [⟨u, 0, 0⟩], hp2.2.1, hp2.1, rfl, by go_num, HST, HOWN, HB'⟩
              case measure => simp [intOf]; omega
            · have g1 := HK1.out hk0
              have g2 : decide ((k : Int) < 0) = true := by simp; omega
              have g3 : decide (k < 0) = true := by simp; omega
              clear hk0
              obtain ⟨b, o, rfl, _, hc⟩ := (HR.out.below (Drw.below HD2.out HB.out) (by have := HS1.out; have := HH.out; omega)).2 (by omega)
              have x9 := hc a' hlt
              obtain ⟨u, hu⟩ : ∃ u, u = f a' := ⟨_, rfl⟩
              rw [← hu] at x9
              obtain ⟨A', c', w', hrun, hown, hb'⟩ := run_oneT w2 (h + 1) At p ct pre (own_drw HO.out HD2.out) ⟨u, 0, 0⟩ (by omega) (by have := HB.out.size; have := HS1.out; have := HH.out; obtain ⟨t, ht⟩ := HD2.out; rw [ht]; show h + 1 ≤ wr.heap.size; omega)
              have hst := HK.out
              rw [cutA_byte hlt (by rw [← HT.out, HLA.out]; exact hb)] at hst
              rw [← hu, ← HA1.out] at hst
              have HST := Lib.hid (show (pre ++ [⟨u, 0, 0⟩]) ++ cutA f n z ch true a1 = cutA f n z ch true a by rw [List.append_assoc]; exact hst)
              have HRUN := Lib.hid hrun; have HOWN := Lib.hid hown; have HB' := Lib.hid ((Drw.below HD2.out HB.out).trans hb')
              have hp2 : p + 1 ≤ a1 ∧ a1 ≤ n ∧ a' < a1 := by have := HA1.out; omega
              clear hrun hown hb' hst hc hu
              go_wp2_with (at_builtin; refine wpList_append_run rfl (.tmp 54) (.tmp 60) 28 rfl (.slice At p ct) (.slice (some ⟨w2.heap.size, 0, none⟩) 1 1) (.slice A' (p + 1) c') w' rfl rfl HRUN.out ?_)
              go_roundw
              case rel => exact ⟨p + 1, a1, A', c', pre ++ [⟨u, 0, 0⟩], hp2.2.1, hp2.1, rfl, by go_num, HST, HOWN, HB'⟩
              case measure => simp [intOf]; omega
          · have g1 := HK1.out (by omega)
            have g2 : decide ((k : Int) < 0) = false := by simp <;> omega
            have g3 : decide (k < 0) = false := by simp <;> omega
            have hnx : a' + k ≤ n := by
              have h1 := (bst_is (f := f) (L := n) (a := a') (size := z) (chain := ch) (by rw [← HT.out]; omega)).2.2.2.2.2
              rw [← HT.out] at h1
              have := (h1 (k - 1) (by show k - 1 < k; omega)).1
              omega
            obtain ⟨a2, ha2⟩ : ∃ a2, a2 = a' + k := ⟨_, rfl⟩
            have ea2 : (a' : Int) + (k : Int) = (a2 : Int) := by omega
            obtain ⟨A', c', w', hrun, hown, hb'⟩ := run_oneT w2 (h + 1) At p ct pre (own_drw HO.out HD2.out) ⟨0, (d : Int), (k : Int)⟩ (by omega) (by have := HB.out.size; have := HS1.out; have := HH.out; obtain ⟨t, ht⟩ := HD2.out; rw [ht]; show h + 1 ≤ wr.heap.size; omega)
            have hst := HK.out
            rw [cutA_copy hlt (by rw [← HT.out, HLA.out]; exact hb)] at hst
            rw [← HT.out] at hst
            replace hst : pre ++ ⟨0, (d : Int), (k : Int)⟩ :: cutA f n z ch true (a' + k) = cutA f n z ch true a := hst
            rw [← ha2] at hst
            have HST := Lib.hid (show (pre ++ [⟨0, (d : Int), (k : Int)⟩]) ++ cutA f n z ch true a2 = cutA f n z ch true a by rw [List.append_assoc]; exact hst)
            have HRUN := Lib.hid hrun; have HOWN := Lib.hid hown; have HB' := Lib.hid ((Drw.below HD2.out HB.out).trans hb')
            have hp2 : p + 1 ≤ a2 ∧ a2 ≤ n ∧ a' < a2 := by have := HA1.out; omega
            clear hrun hown hb' hst ha2 hnx
            go_wp2_with (at_builtin; refine wpList_append_run rfl (.tmp 64) (.tmp 68) 28 rfl (.slice At p ct) (.slice (some ⟨w2.heap.size, 0, none⟩) 1 1) (.slice A' (p + 1) c') w' rfl rfl HRUN.out ?_)
            go_roundw
            case rel => exact ⟨p + 1, a2, A', c', pre ++ [⟨0, (d : Int), (k : Int)⟩], hp2.2.1, hp2.1, rfl, by go_num, HST, HOWN, HB'⟩
            case measure => simp [intOf]; omega
        | false =>
          clear hlz hqi
          by_cases hb : k = 0 ∨ k < 0
          · by_cases hk0 : k = 0
            · have g1 := HK0.out hk0
              clear hk0
              obtain ⟨b, o, rfl, _, hc⟩ := (HR.out.below (Drw.below HD2.out HB.out) (by have := HS1.out; have := HH.out; omega)).2 (by omega)
              have x9 := hc a' hlt
              obtain ⟨u, hu⟩ : ∃ u, u = f a' := ⟨_, rfl⟩
              rw [← hu] at x9
              obtain ⟨A', c', w', hrun, hown, hb'⟩ := run_oneT w2 (h + 1) At p ct pre (own_drw HO.out HD2.out) ⟨u, 0, 0⟩ (by omega) (by have := HB.out.size; have := HS1.out; have := HH.out; obtain ⟨t, ht⟩ := HD2.out; rw [ht]; show h + 1 ≤ wr.heap.size; omega)
              have hst := HK.out
              rw [cutA_byte hlt (by rw [← HT.out, HLA.out]; exact hb)] at hst
              rw [← hu, ← HA1.out] at hst
              have HST := Lib.hid (show (pre ++ [⟨u, 0, 0⟩]) ++ cutA f n z ch false a1 = cutA f n z ch false a by rw [List.append_assoc]; exact hst)
              have HRUN := Lib.hid hrun; have HOWN := Lib.hid hown; have HB' := Lib.hid ((Drw.below HD2.out HB.out).trans hb')
              have hp2 : p + 1 ≤ a1 ∧ a1 ≤ n ∧ a' < a1 := by have := HA1.out; omega
              clear hrun hown hb' hst hc hu
              go_wp2_with (at_builtin; refine wpList_append_run rfl (.tmp 54) (.tmp 60) 28 rfl (.slice At p ct) (.slice (some ⟨w2.heap.size, 0, none⟩) 1 1) (.slice A' (p + 1) c') w' rfl rfl HRUN.out ?_)
              go_roundw
              case rel => exact ⟨p + 1, a1, A', c', pre ++ [⟨u, 0, 0⟩], hp2.2.1, hp2.1, rfl, by go_num, HST, HOWN, HB'⟩
              case measure => simp [intOf]; omega
            · have g1 := HK1.out hk0
              have g2 : decide ((k : Int) < 0) = true := by simp; omega
              have g3 : decide (k < 0) = true := by simp; omega
              clear hk0
              obtain ⟨b, o, rfl, _, hc⟩ := (HR.out.below (Drw.below HD2.out HB.out) (by have := HS1.out; have := HH.out; omega)).2 (by omega)
              have x9 := hc a' hlt
              obtain ⟨u, hu⟩ : ∃ u, u = f a' := ⟨_, rfl⟩
              rw [← hu] at x9
              obtain ⟨A', c', w', hrun, hown, hb'⟩ := run_oneT w2 (h + 1) At p ct pre (own_drw HO.out HD2.out) ⟨u, 0, 0⟩ (by omega) (by have := HB.out.size; have := HS1.out; have := HH.out; obtain ⟨t, ht⟩ := HD2.out; rw [ht]; show h + 1 ≤ wr.heap.size; omega)
              have hst := HK.out
              rw [cutA_byte hlt (by rw [← HT.out, HLA.out]; exact hb)] at hst
              rw [← hu, ← HA1.out] at hst
              have HST := Lib.hid (show (pre ++ [⟨u, 0, 0⟩]) ++ cutA f n z ch false a1 = cutA f n z ch false a by rw [List.append_assoc]; exact hst)
              have HRUN := Lib.hid hrun; have HOWN := Lib.hid hown; have HB' := Lib.hid ((Drw.below HD2.out HB.out).trans hb')
              have hp2 : p + 1 ≤ a1 ∧ a1 ≤ n ∧ a' < a1 := by have := HA1.out; omega
              clear hrun hown hb' hst hc hu
              go_wp2_with (at_builtin; refine wpList_append_run rfl (.tmp 54) (.tmp 60) 28 rfl (.slice At p ct) (.slice (some ⟨w2.heap.size, 0, none⟩) 1 1) (.slice A' (p + 1) c') w' rfl rfl HRUN.out ?_)
              go_roundw
              case rel => exact ⟨p + 1, a1, A', c', pre ++ [⟨u, 0, 0⟩], hp2.2.1, hp2.1, rfl, by go_num, HST, HOWN, HB'⟩
              case measure => simp [intOf]; omega
          · have g1 := HK1.out (by omega)
            have g2 : decide ((k : Int) < 0) = false := by simp <;> omega
            have g3 : decide (k < 0) = false := by simp <;> omega
            have hnx : a' + k ≤ n := by
              have h1 := (bst_is (f := f) (L := n) (a := a') (size := z) (chain := ch) (by rw [← HT.out]; omega)).2.2.2.2.2
              rw [← HT.out] at h1
              have := (h1 (k - 1) (by show k - 1 < k; omega)).1
              omega
            obtain ⟨a2, ha2⟩ : ∃ a2, a2 = a' + k := ⟨_, rfl⟩
            have ea2 : (a' : Int) + (k : Int) = (a2 : Int) := by omega
            obtain ⟨A', c', w', hrun, hown, hb'⟩ := run_oneT w2 (h + 1) At p ct pre (own_drw HO.out HD2.out) ⟨0, (d : Int), (k : Int)⟩ (by omega) (by have := HB.out.size; have := HS1.out; have := HH.out; obtain ⟨t, ht⟩ := HD2.out; rw [ht]; show h + 1 ≤ wr.heap.size; omega)
            have hst := HK.out
            rw [cutA_copy hlt (by rw [← HT.out, HLA.out]; exact hb)] at hst
            rw [← HT.out] at hst
            replace hst : pre ++ ⟨0, (d : Int), (k : Int)⟩ :: cutA f n z ch false (a' + k) = cutA f n z ch false a := hst
            rw [← ha2] at hst
            have HST := Lib.hid (show (pre ++ [⟨0, (d : Int), (k : Int)⟩]) ++ cutA f n z ch false a2 = cutA f n z ch false a by rw [List.append_assoc]; exact hst)
            have HRUN := Lib.hid hrun; have HOWN := Lib.hid hown; have HB' := Lib.hid ((Drw.below HD2.out HB.out).trans hb')
            have hp2 : p + 1 ≤ a2 ∧ a2 ≤ n ∧ a' < a2 := by have := HA1.out; omega
            clear hrun hown hb' hst ha2 hnx
            go_wp2_with (at_builtin; refine wpList_append_run rfl (.tmp 64) (.tmp 68) 28 rfl (.slice At p ct) (.slice (some ⟨w2.heap.size, 0, none⟩) 1 1) (.slice A' (p + 1) c') w' rfl rfl HRUN.out ?_)
            go_roundw
            case rel => exact ⟨p + 1, a2, A', c', pre ++ [⟨0, (d : Int), (k : Int)⟩], hp2.2.1, hp2.1, rfl, by go_num, HST, HOWN, HB'⟩
            case measure => simp [intOf]; omega
    · obtain rfl : a' = n := by omega
      have hlti : ¬ (a' : Int) < (a' : Int) := by omega
      have hfin := HK.out
      rw [cutA_end (Nat.le_refl _), List.append_nil] at hfin
      have hout := TkR.of_own HO.out
      rw [hfin] at hout
      have HOUT := Lib.hid hout
      clear hfin hout hbl
      go_wp2
      go_ret
      exact ⟨At, p, ct, rfl, HOUT.out, HBL.out⟩
/-- What Cut answers: an error, or the tokens. -/
def cutE (n : Nat) (a s h m : Int) : Int := if mayS s h m = false then 8 else if 131072 < n then 4 else if 0 ≤ a ∧ a ≤ (n : Int) then 0 else 2
def cutV (f : Nat → Nat) (n : Nat) (a s h m : Int) (lz : Bool) : List Tok := if cutE n a s h m = 0 then cutA f n s.toNat h.toNat lz a.toNat else []
theorem mayS_is {s h m : Int} (e : mayS s h m = true) : 1 ≤ s ∧ s ≤ 32768 ∧ 0 ≤ h ∧ h ≤ 256 ∧ 1 ≤ m ∧ m ≤ 65535 := by unfold mayS at e; exact of_decide_eq_true e
set_option maxRecDepth 100000 in
set_option maxHeartbeats 4000000 in
theorem rcut8_any (w : World) (A : Option Addr) (n c : Nat) (f : Nat → Nat) (a s h m : Int) (lz : Bool) (hr : RdB w w.heap.size A n f) :
    Calls Try.prog 14 #[.slice A n c, .int .i64 a, .agg #[.int .i64 s, .int .i64 h, .int .i64 m, .bool lz]] w fun e w' => ∃ A' n' c', e = .returned (.tuple #[.slice A' n' c', .int .i64 (cutE n a s h m)]) ∧ TkR w' w'.heap.size A' n' c' (cutV f n a s h m lz) ∧ Below w.heap.size w w' := by
  obtain ⟨E, hE⟩ : ∃ E, E = cutE n a s h m := ⟨_, rfl⟩
  obtain ⟨V, hV⟩ : ∃ V, V = cutV f n a s h m lz := ⟨_, rfl⟩
  rw [← hE, ← hV]
  have HE := Lib.hid hE; have HV := Lib.hid hV
  clear hE hV
  obtain ⟨W1, hW1⟩ : ∃ W1, W1 = w.alloc (.cells #[.int .i64 s, .int .i64 h, .int .i64 m, .bool lz] 32) := ⟨_, rfl⟩
  have hb1 : Below w.heap.size w W1 := by rw [hW1]; exact (Below.refl _ _).alloc (Nat.le_refl _) _
  have hs1 : W1.heap.size = w.heap.size + 1 := by rw [hW1]; simp
  have hbx : W1.heap[w.heap.size]? = some (.cells #[.int .i64 s, .int .i64 h, .int .i64 m, .bool lz] 32 (0, 0)) := by rw [hW1]; exact heap_alloc_new w _
  obtain ⟨g, hg⟩ : ∃ g, g = w.heap.size := ⟨_, rfl⟩
  rw [← hg] at hbx hs1
  have szS : (Try.prog.info? 32).map (·.size) = some 4 := by kernel_rfl
  have hsty := rsty8_any W1 s h m lz
  obtain ⟨b, hbb⟩ : ∃ b, b = mayS s h m := ⟨_, rfl⟩
  rw [← hbb] at hsty
  have hR1 : W1.rangeAt g 0 [.int .i64 s, .int .i64 h, .int .i64 m, .bool lz] := fun i v hv => by
    rw [cell_of_row W1 g _ _ _ (0, 0) hbx, Nat.zero_add]; simpa using hv
  have HR := Lib.hid ((hr.below hb1 (Nat.le_refl _)).more hb1.size); have HB1 := Lib.hid hb1; have HW1 := Lib.hid hW1; have HS1 := Lib.hid hs1; have HBX := Lib.hid hbx
  have HR1 := Lib.hid hR1; have HSTY := Lib.hid hsty; have HBB := Lib.hid hbb; have HG := Lib.hid hg
  clear hr hW1 hb1 hs1 hbx hg hsty hbb hR1
  go_enter Try.func14, Try.ntmps14
  go_wp2_with fail
  rw [← HW1.out, ← HG.out]
  refine HSTY.out.mono ?_
  rintro e w2 ⟨rfl, hb2⟩
  have hr2 := (hb2.block g (by have := HS1.out; omega)).trans HBX.out
  have HB2 := Lib.hid (HB1.out.trans (hb2.mono HB1.out.size)); have HR2 := Lib.hid hr2
  have HRW := Lib.hid ((HR.out.below hb2 (Nat.le_refl _)).more hb2.size)
  clear hb2 hr2
  cases b with
  | false =>
    have e1 : cutE n a s h m = 8 := if_pos HBB.out.symm
    have e2 : cutV f n a s h m lz = [] := if_neg (by rw [e1]; decide)
    have e3 := HE.out.trans e1; have e4 := HV.out.trans e2
    clear HE HV e1 e2
    subst e3; subst e4
    go_wp2
    go_ret2
    exact ⟨none, 0, 0, rfl, TkR.nil _ _, HB2.out⟩
  | true =>
    have hm0 : ¬ mayS s h m = false := by rw [← HBB.out]; decide
    by_cases hn : 131072 < n
    · have e1 : cutE n a s h m = 4 := by unfold cutE; rw [if_neg hm0, if_pos hn]
      have e2 : cutV f n a s h m lz = [] := if_neg (by rw [e1]; decide)
      have e3 := HE.out.trans e1; have e4 := HV.out.trans e2
      clear HE HV e1 e2
      subst e3; subst e4
      have hni : 131072 < (n : Int) := by omega
      clear hm0
      go_wp2
      go_ret2
      exact ⟨none, 0, 0, rfl, TkR.nil _ _, HB2.out⟩
    have hni : ¬ 131072 < (n : Int) := by omega
    by_cases hok : 0 ≤ a ∧ a ≤ (n : Int)
    · have e1 : cutE n a s h m = 0 := by unfold cutE; rw [if_neg hm0, if_neg hn, if_pos hok]
      have e2 : cutV f n a s h m lz = cutA f n s.toNat h.toNat lz a.toNat := if_pos e1
      have e3 := HE.out.trans e1; have e4 := HV.out.trans e2
      clear HE HV e1 e2
      subst e3; subst e4
      obtain ⟨x1, x2, x3, x4, x5, x6⟩ := mayS_is HBB.out.symm
      obtain ⟨a, rfl⟩ := Int.eq_ofNat_of_zero_le hok.1
      obtain ⟨s, rfl⟩ := Int.eq_ofNat_of_zero_le (show 0 ≤ s by omega)
      obtain ⟨h, rfl⟩ := Int.eq_ofNat_of_zero_le x3
      have han : a ≤ n := by omega
      have hcu := rcuts8_any w2 A n c a s h m lz f HRW.out han (by omega) (by omega) (by omega)
      have HCU := Lib.hid hcu
      have d1 : decide ((a : Int) < 0) = false := by simp
      have d2 : decide ((n : Int) < (a : Int)) = false := by simp; omega
      have d3 : decide (n < a) = false := by simp; omega
      clear hm0 hcu hok x1 x2 x3 x4 x5 x6
      go_wp2_with (refine wpList_load_row rfl _ _ rfl g rfl _ #[.int .i64 (s : Int), .int .i64 (h : Int), .int .i64 m, .bool lz] (0, 0) _ HR2.out Try.underlying32 rfl szS ?_)
      refine HCU.out.mono ?_
      rintro e w3 ⟨A', n', c', rfl, ht, hb3⟩
      have HT := Lib.hid ht; have HB3 := Lib.hid (HB2.out.trans (hb3.mono HB2.out.size))
      clear ht hb3
      go_wp2
      go_ret2
      exact ⟨A', n', c', rfl, HT.out, HB3.out⟩
    · have e1 : cutE n a s h m = 2 := by unfold cutE; rw [if_neg hm0, if_neg hn, if_neg hok]
      have e2 : cutV f n a s h m lz = [] := if_neg (by rw [e1]; decide)
      have e3 := HE.out.trans e1; have e4 := HV.out.trans e2
      clear HE HV e1 e2
      subst e3; subst e4
      clear hm0
      by_cases ha0 : a < 0
      · have d1 : decide (a < 0) = true := by simp; omega
        clear hok
        go_wp2
        go_ret2
        exact ⟨none, 0, 0, rfl, TkR.nil _ _, HB2.out⟩
      · have d1 : decide (a < 0) = false := by simp; omega
        have d2 : decide ((n : Int) < a) = true := by simp; omega
        have d3 : (n : Int) < a := by omega
        clear hok
        go_wp2
        go_ret2
        exact ⟨none, 0, 0, rfl, TkR.nil _ _, HB2.out⟩
end Go.Proofs.Ytihfcjehpmiolaa
