/-
  Layer 5 (tree), numbers alone: the tree of lengths; that lengths are told by it.
-/
import Derived.Test.YtedjapamimhglaaCanonTal
import Derived.Test.YtedjapamimhglaaApp
namespace Go.Proofs.Ytedjapamimhglaa
/-- The symbols of length m, by their number, and those of the lengths 1 to M. -/
def rowM (f : Nat → Nat) (m : Nat) : Nat → List Nat
  | 0 => []
  | n + 1 => rowM f m n ++ if f n = m then [n] else []
def symL (f : Nat → Nat) (n : Nat) : Nat → List Nat
  | 0 => []
  | M + 1 => symL f n M ++ rowM f (M + 1) n
theorem rowM_length (f : Nat → Nat) {m : Nat} (hm : 0 < m) : ∀ n, (rowM f m n).length = tcN f m n
  | 0 => rfl
  | n + 1 => by
    simp only [rowM, tcN, List.length_append]
    rw [rowM_length f hm n]
    by_cases h : f n = m
    · rw [if_pos h, if_pos ⟨by omega, h⟩]; rfl
    · rw [if_neg h, if_neg (fun g => h g.2)]; rfl
theorem symL_length (f : Nat → Nat) (n : Nat) : ∀ M, (symL f n M).length = sumC f n M
  | 0 => rfl
  | M + 1 => by
    simp only [symL, sumC, List.length_append]
    rw [symL_length f n M, rowM_length f (by omega)]
theorem rowM_mem (f : Nat → Nat) (m j : Nat) : ∀ n, j ∈ rowM f m n ↔ j < n ∧ f j = m
  | 0 => by simp [rowM]
  | n + 1 => by
    simp only [rowM, List.mem_append]
    rw [rowM_mem f m j n]
    constructor
    · rintro (⟨h1, h2⟩ | h)
      · exact ⟨by omega, h2⟩
      · split at h
        · simp at h; subst h; exact ⟨by omega, by assumption⟩
        · simp at h
    · rintro ⟨h1, h2⟩
      rcases Nat.eq_or_lt_of_le (Nat.le_of_lt_succ h1) with e | e
      · subst e; right; rw [if_pos h2]; simp
      · exact .inl ⟨e, h2⟩
theorem rowM_nodup (f : Nat → Nat) (m : Nat) : ∀ n, (rowM f m n).Nodup
  | 0 => List.nodup_nil
  | n + 1 => by
    simp only [rowM]
    rw [List.nodup_append]
    refine ⟨rowM_nodup f m n, by split <;> simp, fun a ha b hb => ?_⟩
    have := ((rowM_mem f m a n).1 ha).1
    split at hb
    · simp at hb; omega
    · simp at hb
theorem sumC_mono (f : Nat → Nat) (n : Nat) {a b : Nat} (h : a ≤ b) : sumC f n a ≤ sumC f n b := by
  induction b with
  | zero => rw [show a = 0 by omega]; exact Nat.le_refl _
  | succ b ih =>
    rcases Nat.eq_or_lt_of_le h with h | h
    · subst h; exact Nat.le_refl _
    · exact Nat.le_trans (ih (by omega)) (Nat.le_add_right _ _)
/-- The lengths behind a tree: so many symbols of each length, these. -/
def IsTree (c : Nat → Int) (s : List Int) (f : Nat → Nat) : Prop :=
  checkE f 320 15 = 0 ∧ (∀ j, 320 ≤ j → f j = 0) ∧ (∀ m, m < 16 → c m = (tcN f m 320 : Int)) ∧ s = natsI (symL f 320 15)
theorem natsI_inj {a b : List Nat} (h : natsI a = natsI b) : a = b := by
  unfold natsI at h
  exact List.map_inj_right (fun x y h => by omega) |>.1 h
theorem isTree_lens {c : Nat → Int} {s : List Int} {f : Nat → Nat} (h : IsTree c s f) : ∀ j, j < 320 → f j ≤ 15 := by
  obtain ⟨_, _, _, hb, _⟩ := check_ok h.1
  intro j hj; have := hb j hj; omega
theorem isTree_length {c : Nat → Int} {s : List Int} {f : Nat → Nat} (h : IsTree c s f) : s.length = sumC f 320 15 ∧ s.length ≤ 320 := by
  have e : s.length = sumC f 320 15 := by rw [h.2.2.2, natsI_length, symL_length]
  refine ⟨e, ?_⟩
  rw [e, ← usedN_sum f 320 (isTree_lens h)]
  exact used_le f 320
/-- Lengths are told by their tree. -/
theorem isTree_one {c : Nat → Int} {s : List Int} {f g : Nat → Nat} (hf : IsTree c s f) (hg : IsTree c s g) : f = g := by
  have hc : ∀ m, m < 16 → tcN f m 320 = tcN g m 320 := fun m hm => by
    have h1 := hf.2.2.1 m hm
    have h2 := hg.2.2.1 m hm
    omega
  have hs : symL f 320 15 = symL g 320 15 := natsI_inj (hf.2.2.2.symm.trans hg.2.2.2)
  have key : ∀ k M, M + k = 15 → symL f 320 M = symL g 320 M := by
    intro k
    induction k with
    | zero => intro M h; rw [show M = 15 by omega]; exact hs
    | succ k ih =>
      intro M h
      have := ih (M + 1) (by omega)
      simp only [symL] at this
      exact (List.append_inj' this (by rw [rowM_length f (by omega), rowM_length g (by omega), hc (M + 1) (by omega)])).1
  have hrow : ∀ m, 0 < m → m ≤ 15 → rowM f m 320 = rowM g m 320 := fun m h0 h15 => by
    obtain ⟨M, rfl⟩ : ∃ M, m = M + 1 := ⟨m - 1, by omega⟩
    have := key (15 - (M + 1)) (M + 1) (by omega)
    simp only [symL] at this
    exact (List.append_inj' this (by rw [rowM_length f (by omega), rowM_length g (by omega), hc (M + 1) (by omega)])).2
  funext j
  by_cases hj : j < 320
  · have hf15 := isTree_lens hf j hj
    have hg15 := isTree_lens hg j hj
    by_cases h0 : 0 < f j
    · have : j ∈ rowM f (f j) 320 := (rowM_mem f _ j 320).2 ⟨hj, rfl⟩
      rw [hrow (f j) h0 hf15] at this
      exact ((rowM_mem g _ j 320).1 this).2.symm
    · by_cases h1 : 0 < g j
      · have : j ∈ rowM g (g j) 320 := (rowM_mem g _ j 320).2 ⟨hj, rfl⟩
        rw [← hrow (g j) h1 hg15] at this
        exact ((rowM_mem f _ j 320).1 this).2
      · omega
  · rw [hf.2.1 j (by omega), hg.2.1 j (by omega)]
/-- The symbol at a place of the row. -/
theorem sym_at {c : Nat → Int} {s : List Int} {f : Nat → Nat} (h : IsTree c s f) {k i : Nat} (h0 : 0 < k) (hk : k ≤ 15) (hi : i < tcN f k 320) :
    s.getD (sumC f 320 (k - 1) + i) 0 = ((rowM f k 320).getD i 0 : Nat) ∧ (rowM f k 320).getD i 0 < 320 ∧ f ((rowM f k 320).getD i 0) = k := by
  have hlen : (rowM f k 320).length = tcN f k 320 := rowM_length f h0 320
  have hmem : (rowM f k 320).getD i 0 ∈ rowM f k 320 := by
    rw [List.getD_eq_getElem?_getD, List.getElem?_eq_getElem (by omega)]; exact List.getElem_mem _
  refine ⟨?_, ((rowM_mem f k _ 320).1 hmem).1, ((rowM_mem f k _ 320).1 hmem).2⟩
  rw [h.2.2.2, natsI_get]
  have key : ∀ M, k ≤ M → (symL f 320 M).getD (sumC f 320 (k - 1) + i) 0 = (rowM f k 320).getD i 0 := by
    intro M
    induction M with
    | zero => intro g; omega
    | succ M ih =>
      intro g
      simp only [symL]
      rcases Nat.eq_or_lt_of_le g with e | e
      · rw [← e]
        have e2 : k - 1 = M := by omega
        rw [e2, List.getD_eq_getElem?_getD, List.getElem?_append_right (by rw [symL_length]; omega), symL_length, show sumC f 320 M + i - sumC f 320 M = i by omega, List.getD_eq_getElem?_getD]
      · have h1 := ih (by omega)
        have h2 : sumC f 320 (k - 1) + i < (symL f 320 M).length := by
          rw [symL_length]
          have h3 := sumC_mono f 320 (show k ≤ M by omega)
          obtain ⟨K, rfl⟩ : ∃ K, k = K + 1 := ⟨k - 1, by omega⟩
          have h4 : sumC f 320 (K + 1) = sumC f 320 K + tcN f (K + 1) 320 := rfl
          rw [Nat.add_sub_cancel]; omega
        rw [List.getD_eq_getElem?_getD, List.getElem?_append_left h2, ← List.getD_eq_getElem?_getD]
        exact h1
  exact congrArg (fun (x : Nat) => (x : Int)) (key 15 hk)
/-- The lengths that are told when those below k are, and i of those of k. -/
def partL (f : Nat → Nat) (k i j : Nat) : Nat := if 0 < f j ∧ f j < k then f j else if f j = k ∧ j ∈ (rowM f k 320).take i then k else 0
theorem part_free {f : Nat → Nat} {k i : Nat} (h0 : 0 < k) (hi : i < tcN f k 320) : partL f k i ((rowM f k 320).getD i 0) = 0 := by
  have hlen : (rowM f k 320).length = tcN f k 320 := rowM_length f h0 320
  have hx : i < (rowM f k 320).length := by omega
  have e : (rowM f k 320).getD i 0 = (rowM f k 320)[i] := by rw [List.getD_eq_getElem?_getD, List.getElem?_eq_getElem hx]; rfl
  have hmem : (rowM f k 320).getD i 0 ∈ rowM f k 320 := by rw [e]; exact List.getElem_mem _
  have hf := ((rowM_mem f k _ 320).1 hmem).2
  unfold partL
  rw [if_neg (by omega), if_neg]
  rintro ⟨_, hm⟩
  obtain ⟨j, hj, hj2⟩ := List.mem_iff_getElem.1 hm
  rw [List.length_take] at hj
  rw [List.getElem_take, e] at hj2
  have := (List.getElem_inj (rowM_nodup f k 320)).1 hj2
  omega
theorem part_more {f : Nat → Nat} {k i : Nat} (h0 : 0 < k) (hi : i < tcN f k 320) : upd (partL f k i) ((rowM f k 320).getD i 0) k = partL f k (i + 1) := by
  have hlen : (rowM f k 320).length = tcN f k 320 := rowM_length f h0 320
  have hx : i < (rowM f k 320).length := by omega
  have e : (rowM f k 320).getD i 0 = (rowM f k 320)[i] := by rw [List.getD_eq_getElem?_getD, List.getElem?_eq_getElem hx]; rfl
  have hmem : (rowM f k 320).getD i 0 ∈ rowM f k 320 := by rw [e]; exact List.getElem_mem _
  have hf := ((rowM_mem f k _ 320).1 hmem).2
  have ht : (rowM f k 320).take (i + 1) = (rowM f k 320).take i ++ [(rowM f k 320).getD i 0] := by rw [e, List.take_succ_eq_append_getElem hx]
  funext j
  unfold upd partL
  rw [ht]
  by_cases hj : j = (rowM f k 320).getD i 0
  · rw [if_pos hj, hj, if_neg (by omega), if_pos ⟨hf, by simp⟩]
  · rw [if_neg hj]
    have : j ∈ (rowM f k 320).take i ++ [(rowM f k 320).getD i 0] ↔ j ∈ (rowM f k 320).take i := by
      rw [List.mem_append, List.mem_singleton]
      exact ⟨fun h => h.resolve_right hj, .inl⟩
    simp only [this]
theorem part_next {f : Nat → Nat} {k : Nat} (h0 : 0 < k) (h : ∀ j, 320 ≤ j → f j = 0) : partL f k (tcN f k 320) = partL f (k + 1) 0 := by
  funext j
  unfold partL
  have hlen : (rowM f k 320).length = tcN f k 320 := rowM_length f h0 320
  rw [← hlen, List.take_length, List.take_zero]
  simp only [rowM_mem]
  by_cases h1 : 0 < f j ∧ f j < k
  · rw [if_pos h1, if_pos ⟨h1.1, by omega⟩]
  · rw [if_neg h1]
    by_cases h2 : f j = k
    · have : j < 320 := by
        rcases Nat.lt_or_ge j 320 with g | g
        · exact g
        · have := h j g; omega
      rw [if_pos ⟨h2, this, h2⟩, if_pos ⟨by omega, by omega⟩, h2]
    · rw [if_neg (fun g => h2 g.1), if_neg (by omega), if_neg (by simp)]
theorem part_none (f : Nat → Nat) : partL f 1 0 = fun _ => 0 := by
  funext j; unfold partL; rw [if_neg (by omega), if_neg (by simp)]
theorem part_all {f : Nat → Nat} (h : ∀ j, f j ≤ 15) : partL f 16 0 = f := by
  funext j
  unfold partL
  have := h j
  by_cases h0 : 0 < f j
  · rw [if_pos ⟨h0, by omega⟩]
  · rw [if_neg (by omega), if_neg (by simp)]; omega
end Go.Proofs.Ytedjapamimhglaa
