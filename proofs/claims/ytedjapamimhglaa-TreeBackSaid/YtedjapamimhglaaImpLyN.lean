/-
  Layer 5 (tree), numbers alone: what is laid out of a tree is the lengths behind it.
-/
import Derived.Test.YtedjapamimhglaaImpLay
namespace Go.Proofs.Ytedjapamimhglaa
theorem row_upd_other (u : Nat → Nat) {x k m : Nat} (hx : u x = 0) (hk : m ≠ k) (hm : 0 < m) : ∀ n, rowM (upd u x k) m n = rowM u m n
  | 0 => rfl
  | n + 1 => by
    simp only [rowM]
    rw [row_upd_other u hx hk hm n]
    congr 1
    unfold upd
    by_cases e : n = x
    · subst e; rw [if_pos rfl, if_neg (fun h => hk h.symm), if_neg (by omega)]
    · rw [if_neg e]
theorem row_upd_same (u : Nat → Nat) {x k : Nat} (hl : ∀ j, u j = k → j < x) : ∀ n, rowM (upd u x k) k n = rowM u k n ++ if x < n then [x] else []
  | 0 => by simp [rowM]
  | n + 1 => by
    simp only [rowM]
    rw [row_upd_same u hl n]
    have e2 : upd u x k n = if n = x then k else u n := rfl
    rw [e2]
    by_cases e : n = x
    · subst e
      have hun : u n ≠ k := fun h => by have := hl n h; omega
      simp [hun]
    · rw [if_neg e]
      by_cases h : u n = k
      · have := hl n h
        rw [if_pos h, if_neg (by omega), if_neg (by omega)]; simp
      · rw [if_neg h]
        by_cases h2 : x < n
        · rw [if_pos h2, if_pos (by omega)]; simp
        · rw [if_neg h2, if_neg (by omega)]
theorem mkG_cons {u : Nat → Nat} {k x : Nat} {last : Int} {xs : List Int} (h1 : last < (x : Int)) (h2 : x < 320) (h3 : u x = 0) : mkG u k last ((x : Int) :: xs) = mkG (upd u x k) k (x : Int) xs := by
  simp only [mkG]
  rw [if_neg (by rw [Int.toNat_natCast]; omega), Int.toNat_natCast]
theorem mkG_sound {k : Nat} (hk : 0 < k) : ∀ (l : List Int) (u G : Nat → Nat) (last : Int), (∀ j, u j = k → (j : Int) ≤ last) → (∀ j, u j ≤ k) → -1 ≤ last → mkG u k last l = some G →
    (∀ m, m ≠ k → 0 < m → rowM G m 320 = rowM u m 320) ∧ natsI (rowM G k 320) = natsI (rowM u k 320) ++ l ∧ ∀ j, G j ≤ k
  | [], u, G, last, _, hu, _, h => by
    simp only [mkG, Option.some.injEq] at h
    subst h; exact ⟨fun _ _ _ => rfl, by simp, hu⟩
  | x :: xs, u, G, last, hl, hu, h0, h => by
    simp only [mkG] at h
    by_cases hc : x ≤ last ∨ 320 ≤ x ∨ u x.toNat ≠ 0
    · rw [if_pos hc] at h; cases h
    · rw [if_neg hc] at h
      obtain ⟨X, rfl⟩ := Int.eq_ofNat_of_zero_le (show 0 ≤ x by omega)
      rw [Int.toNat_natCast] at h hc
      have hx0 : u X = 0 := by omega
      have hlX : ∀ j, u j = k → j < X := fun j hj => by have := hl j hj; omega
      obtain ⟨h1, h2, h3⟩ := mkG_sound hk xs (upd u X k) G (X : Int) (fun j hj => by
        unfold upd at hj
        by_cases e : j = X
        · omega
        · rw [if_neg e] at hj; have := hlX j hj; omega) (fun j => by
        unfold upd; split
        · omega
        · exact hu j) (by omega) h
      refine ⟨fun m hm hm0 => by rw [h1 m hm hm0, row_upd_other u hx0 hm hm0], ?_, h3⟩
      rw [h2, row_upd_same u hlX, if_pos (by omega), ← natsI_app]
      simp [natsI]
theorem row_empty {u : Nat → Nat} {k : Nat} (h : ∀ j, u j < k) (n : Nat) : rowM u k n = [] := by
  induction n with
  | zero => rfl
  | succ n ih => simp only [rowM]; rw [ih, if_neg (by have := h n; omega)]; rfl
theorem symL_rows {u G : Nat → Nat} {n : Nat} : ∀ M, (∀ m, 0 < m → m ≤ M → rowM G m n = rowM u m n) → symL G n M = symL u n M
  | 0, _ => rfl
  | M + 1, h => by simp only [symL]; rw [symL_rows M (fun m h0 h1 => h m h0 (by omega)), h (M + 1) (by omega) (by omega)]
theorem lyG_sound {c : Nat → Int} {s : List Int} : ∀ (d k : Nat) (u G : Nat → Nat) (l l' : List Int), k + d = 16 → 1 ≤ k → (∀ j, u j < k) → s = natsI (symL u 320 (k - 1)) ++ l → (∀ m, 0 < m → m < k → c m = (tcN u m 320 : Int)) →
    lyG c d k u l = some (G, l') → s = natsI (symL G 320 15) ++ l' ∧ ∀ m, 0 < m → m < 16 → c m = (tcN G m 320 : Int)
  | 0, k, u, G, l, l', hd, _, _, hs, hc, h => by
    simp only [lyG, Option.some.injEq, Prod.mk.injEq] at h
    obtain ⟨rfl, rfl⟩ := h
    obtain rfl : k = 16 := by omega
    exact ⟨hs, hc⟩
  | d + 1, k, u, G, l, l', hd, hk, hu, hs, hc, h => by
    simp only [lyG] at h
    by_cases hb : c k < 0 ∨ (l.length : Int) < c k
    · rw [if_pos hb] at h; cases h
    · rw [if_neg hb] at h
      obtain ⟨q, hq⟩ := Int.eq_ofNat_of_zero_le (show 0 ≤ c k by omega)
      rw [hq, Int.toNat_natCast] at h
      cases hm : mkG u k (-1) (l.take q) with
      | none => rw [hm] at h; cases h
      | some F =>
        rw [hm] at h
        simp only at h
        obtain ⟨h1, h2, h3⟩ := mkG_sound (by omega) _ u F (-1) (fun j hj => by have := hu j; omega) (fun j => by have := hu j; omega) (by omega) hm
        rw [row_empty hu] at h2
        simp only [natsI, List.map_nil, List.nil_append] at h2
        have h2' : natsI (rowM F k 320) = l.take q := h2
        have hlen : tcN F k 320 = q := by
          rw [← rowM_length F (by omega), ← natsI_length, h2', List.length_take]; omega
        refine lyG_sound d (k + 1) F G (l.drop q) l' (by omega) (by omega) (fun j => by have := h3 j; omega) ?_ (fun m hm0 hmk => ?_) h
        · obtain ⟨K, rfl⟩ : ∃ K, k = K + 1 := ⟨k - 1, by omega⟩
          rw [Nat.add_sub_cancel]
          show s = natsI (symL F 320 K ++ rowM F (K + 1) 320) ++ _
          rw [← natsI_app, h2', List.append_assoc, List.take_append_drop, symL_rows K (fun m h0 hm => h1 m (by omega) h0)]
          rw [Nat.add_sub_cancel] at hs
          exact hs
        · by_cases e : m = k
          · subst e; rw [hlen]; exact hq
          · rw [hc m hm0 (by omega), ← rowM_length F hm0, h1 m e hm0, rowM_length u hm0]
theorem layR_sound {c : Nat → Int} {s : List Int} {G : Nat → Nat} (h : layR c s = some G) (hc : checkE G 320 15 = 0) : IsTree c s (cutF G) := by
  unfold layR at h
  cases hl : lyG c 16 0 (fun _ => 0) s with
  | none => rw [hl] at h; cases h
  | some p =>
    obtain ⟨F, l⟩ := p
    rw [hl] at h
    simp only at h
    by_cases h0 : c 0 = 0 ∧ l = []
    · rw [if_pos h0] at h
      cases h
      simp only [lyG] at hl
      rw [h0.1] at hl
      simp only [Int.lt_irrefl, false_or, show ¬ ((s.length : Int) < 0) by omega, if_false, Int.toNat_zero, List.take_zero, mkG, List.drop_zero] at hl
      obtain ⟨h1, h2⟩ := lyG_sound (c := c) (s := s) 15 1 (fun _ => 0) G s l (by omega) (Nat.le_refl _) (fun _ => by omega) (by simp [symL, natsI]) (fun m h0 h1 => by omega) hl
      rw [h0.2, List.append_nil] at h1
      refine tests_tree hc ?_
      unfold sameT
      rw [Bool.and_eq_true, sameC_iff]
      refine ⟨fun m hm => ?_, decide_eq_true h1.symm⟩
      by_cases e : m = 0
      · subst e; rw [cntN_zero, h0.1]; rfl
      · exact (h2 m (by omega) hm).symm
    · rw [if_neg h0] at h; cases h
/-! ### the way back -/
theorem rowM_rises (f : Nat → Nat) (m : Nat) : ∀ n, (rowM f m n).Pairwise (· < ·)
  | 0 => List.Pairwise.nil
  | n + 1 => by
    simp only [rowM]
    rw [List.pairwise_append]
    refine ⟨rowM_rises f m n, by split <;> simp, fun a ha b hb => ?_⟩
    have := ((rowM_mem f m a n).1 ha).1
    split at hb
    · simp at hb; omega
    · simp at hb
set_option maxRecDepth 100000 in
theorem mkG_tree {f : Nat → Nat} {k T : Nat} (hT : T = tcN f k 320) (h0 : 0 < k) : ∀ (d i : Nat) (last : Int), i + d = T → (∀ x ∈ (rowM f k 320).drop i, last < ((x : Nat) : Int)) → mkG (partL f k i) k last (natsI ((rowM f k 320).drop i)) = some (partL f k T) := by
  have hlen : (rowM f k 320).length = T := by rw [hT]; exact rowM_length f h0 320
  have hpart : ∀ i, i < T → partL f k i ((rowM f k 320).getD i 0) = 0 ∧ upd (partL f k i) ((rowM f k 320).getD i 0) k = partL f k (i + 1) := fun i hi => by
    rw [hT] at hi; exact ⟨part_free h0 hi, part_more h0 hi⟩
  have hin : ∀ x ∈ rowM f k 320, x < 320 := fun x hx => ((rowM_mem f k x 320).1 hx).1
  have hrs := rowM_rises f k 320
  obtain ⟨R, hR⟩ : ∃ R, R = rowM f k 320 := ⟨_, rfl⟩
  rw [← hR] at hlen hpart hin hrs ⊢
  clear hT hR
  intro d
  induction d with
  | zero =>
    intro i last h _
    rw [List.drop_eq_nil_of_le (by omega)]
    show some (partL f k i) = _
    rw [show i = T by omega]
  | succ d ih =>
    intro i last h hl
    have hx : i < R.length := by omega
    have e : R.getD i 0 = R[i] := by rw [List.getD_eq_getElem?_getD, List.getElem?_eq_getElem hx]; rfl
    have h320 := hin (R.getD i 0) (by rw [e]; exact List.getElem_mem _)
    obtain ⟨hfree, hmore⟩ := hpart i (by omega)
    have hd : R.drop i = R.getD i 0 :: R.drop (i + 1) := by rw [List.drop_eq_getElem_cons hx, e]
    have hlast := hl (R.getD i 0) (by rw [hd]; exact List.mem_cons_self)
    have hpw : (R.drop i).Pairwise (· < ·) := hrs.sublist (List.drop_sublist _ _)
    rw [hd] at hpw ⊢
    have hrise := (List.pairwise_cons.1 hpw).1
    have ih2 := ih (i + 1) ((R.getD i 0 : Nat) : Int) (by omega) (fun x hx => by have := hrise x hx; omega)
    show mkG _ k last (((R.getD i 0 : Nat) : Int) :: natsI (R.drop (i + 1))) = _
    rw [mkG_cons hlast h320 hfree, hmore]
    exact ih2
/-- The rows of the lengths from k on. -/
def tlR (f : Nat → Nat) : Nat → Nat → List Nat
  | _, 0 => []
  | k, d + 1 => rowM f k 320 ++ tlR f (k + 1) d
theorem tlR_sym (f : Nat → Nat) : ∀ d k, 1 ≤ k → symL f 320 (k - 1) ++ tlR f k d = symL f 320 (k - 1 + d)
  | 0, k, _ => by simp [tlR]
  | d + 1, k, h => by
    have ih := tlR_sym f d (k + 1) (by omega)
    obtain ⟨K, rfl⟩ : ∃ K, k = K + 1 := ⟨k - 1, by omega⟩
    simp only [tlR]
    rw [Nat.add_sub_cancel] at ih ⊢
    rw [← List.append_assoc, show K + (d + 1) = K + 1 + d by omega, ← ih]
    rfl
theorem lyG_tree {c : Nat → Int} {s : List Int} {f : Nat → Nat} (hf : IsTree c s f) : ∀ (d k : Nat), k + d = 16 → 1 ≤ k → lyG c d k (partL f k 0) (natsI (tlR f k d)) = some (partL f 16 0, []) := by
  intro d
  induction d with
  | zero =>
    intro k h _
    obtain rfl : k = 16 := by omega
    rfl
  | succ d ih =>
    intro k h hk
    have hc := hf.2.2.1 k (by omega)
    have hlen : (rowM f k 320).length = tcN f k 320 := rowM_length f (by omega) 320
    have hm := mkG_tree (f := f) (k := k) rfl (by omega) (tcN f k 320) 0 (-1) (by omega) (fun x _ => by omega)
    have hn := part_next (f := f) (k := k) (by omega) hf.2.1
    have ih2 := ih (k + 1) (by omega) (by omega)
    obtain ⟨T, hT⟩ : ∃ T, T = tcN f k 320 := ⟨_, rfl⟩
    have e0 : tlR f k (d + 1) = rowM f k 320 ++ tlR f (k + 1) d := rfl
    rw [← hT] at hc hlen hm hn
    obtain ⟨R, hR⟩ : ∃ R, R = rowM f k 320 := ⟨_, rfl⟩
    rw [← hR] at hlen hm e0
    rw [List.drop_zero] at hm
    have hl : (natsI (R ++ tlR f (k + 1) d)).length = T + (tlR f (k + 1) d).length := by
      rw [natsI_length, List.length_append, hlen]
    have e1 : (natsI (R ++ tlR f (k + 1) d)).take T = natsI R := by
      unfold natsI
      rw [List.map_append, List.take_append_of_le_length (by simp [hlen]), List.take_of_length_le (by simp [hlen])]
    have e2 : (natsI (R ++ tlR f (k + 1) d)).drop T = natsI (tlR f (k + 1) d) := by
      unfold natsI
      rw [List.map_append, List.drop_append_of_le_length (by simp [hlen]), List.drop_of_length_le (by simp [hlen]), List.nil_append]
    rw [e0, lyG_ok hc (by omega), e1, e2, hm]
    simp only
    rw [hn]
    exact ih2
set_option maxRecDepth 100000 in
theorem layR_tree {c : Nat → Int} {s : List Int} {f : Nat → Nat} (hf : IsTree c s f) : layR c s = some f := by
  have h0 : c 0 = 0 := by have := hf.2.2.1 0 (by omega); rw [cntN_zero] at this; exact this
  have hs : natsI (tlR f 1 15) = s := by
    have h1 := tlR_sym f 15 1 (Nat.le_refl _)
    rw [show (1 : Nat) - 1 + 15 = 15 from rfl, show (1 : Nat) - 1 = 0 from rfl, show symL f 320 0 = [] from rfl, List.nil_append] at h1
    rw [h1]; exact hf.2.2.2.symm
  have h1 := lyG_tree hf 15 1 (by omega) (Nat.le_refl _)
  rw [hs, part_none] at h1
  have h15 : ∀ j, f j ≤ 15 := fun j => by
    rcases Nat.lt_or_ge j 320 with g | g
    · exact isTree_lens hf j g
    · rw [hf.2.1 j g]; omega
  rw [part_all h15] at h1
  have h2 : lyG c 16 0 (fun _ => 0) s = some (f, []) := by
    rw [lyG_ok (d := 15) (m := 0) h0 (Nat.zero_le _), List.take_zero, List.drop_zero]
    exact h1
  rw [layR_some h2, if_pos ⟨h0, rfl⟩]
end Go.Proofs.Ytedjapamimhglaa
