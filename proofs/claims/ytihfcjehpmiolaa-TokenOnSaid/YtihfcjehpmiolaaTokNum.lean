/-
  Layer 8 (token), numbers alone: the tokens of bytes; tokens played; there and back.
-/
import Derived.Test.YtihfcjehpmiolaaMatNum
namespace Go.Proofs.Ytihfcjehpmiolaa
/-- A token: its byte, its distance, its length. -/
structure Tok where
  x : Nat
  d : Int
  n : Int
def mayT (t : Tok) : Bool := decide ((t.n = 0 ∧ t.d = 0) ∨ (t.n ≠ 0 ∧ t.x = 0 ∧ 3 ≤ t.n ∧ t.n ≤ 258 ∧ 1 ≤ t.d ∧ t.d ≤ 32768))
/-- The copy of n bytes that stand d ahead of a list's end. -/
def copL (all : List Nat) (d n : Nat) : List Nat := (List.range n).map fun i => all.getD (all.length - d + i % d) 0
def stpT (all : List Nat) (t : Tok) : List Nat := if t.n = 0 then all ++ [t.x] else all ++ copL all t.d.toNat t.n.toNat
def lenT (t : Tok) : Nat := if t.n = 0 then 1 else t.n.toNat
/-- Tokens played behind A bytes: an error, or what comes of them. -/
def plyR (A : Nat) : List Tok → List Nat → Int × List Nat
  | [], all => (0, all.drop A)
  | t :: l, all => if mayT t = false then (8, []) else if (all.length : Int) < t.d then (60, []) else if 131072 < all.length - A + lenT t then (4, []) else plyR A l (stpT all t)
/-- How long the best match at the next place is, if it is looked for. -/
def latN (f : Nat → Nat) (L size chain : Nat) (lazy : Bool) (a : Nat) : Nat := if lazy = true ∧ a + 1 < L then (bstN f L (a + 1) size (a + 1) chain 0 0).2 else 0
/-- The tokens of bytes from a place on. -/
def cutL (f : Nat → Nat) (L size chain : Nat) (lazy : Bool) : Nat → Nat → List Tok
  | 0, _ => []
  | k + 1, a => if L ≤ a then [] else
      if (bstN f L a size a chain 0 0).2 = 0 ∨ (bstN f L a size a chain 0 0).2 < latN f L size chain lazy a then ⟨f a, 0, 0⟩ :: cutL f L size chain lazy k (a + 1)
      else ⟨0, ((bstN f L a size a chain 0 0).1 : Nat), ((bstN f L a size a chain 0 0).2 : Nat)⟩ :: cutL f L size chain lazy k (a + (bstN f L a size a chain 0 0).2)
theorem len_stp (all : List Nat) (t : Tok) : (stpT all t).length = all.length + lenT t := by
  unfold stpT lenT copL
  split <;> simp
/-! ### there and back -/
theorem cop_match {f : Nat → Nat} {a d n : Nat} (hd : 1 ≤ d) (hda : d ≤ a) (h : ∀ i, i < n → f (a - d + i) = f (a + i)) : ∀ i, i < n → f (a - d + i % d) = f (a + i) := by
  intro i
  induction i using Nat.strongRecOn with
  | _ i ih =>
    intro hi
    rcases Nat.lt_or_ge i d with g | g
    · rw [Nat.mod_eq_of_lt g]; exact h i hi
    · have e : i % d = (i - d) % d := Nat.mod_eq_sub_mod g
      rw [e, ih (i - d) (by omega) (by omega), ← h i hi]
      congr 1; omega
def preL (f : Nat → Nat) (a : Nat) : List Nat := (List.range a).map f
theorem preL_length (f : Nat → Nat) (a : Nat) : (preL f a).length = a := by simp [preL]
theorem preL_get (f : Nat → Nat) {a i : Nat} (h : i < a) : (preL f a).getD i 0 = f i := by simp [preL, h]
theorem preL_add (f : Nat → Nat) (a n : Nat) : preL f a ++ (List.range n).map (fun i => f (a + i)) = preL f (a + n) := by
  unfold preL
  rw [List.range_add, List.map_append, List.map_map]; rfl
theorem stp_copy {f : Nat → Nat} {a d n : Nat} (hd : 1 ≤ d) (hda : d ≤ a) (hn : 1 ≤ n) (h : ∀ i, i < n → f (a - d + i) = f (a + i)) : stpT (preL f a) ⟨0, (d : Nat), (n : Nat)⟩ = preL f (a + n) := by
  unfold stpT
  rw [if_neg (by show ¬ ((n : Int) = 0); omega), ← preL_add]
  congr 1
  unfold copL
  simp only [Int.toNat_natCast, preL_length]
  apply List.map_congr_left
  intro i hi
  have hi := List.mem_range.1 hi
  have hmod : i % d < d := Nat.mod_lt _ hd
  rw [preL_get f (by omega)]
  exact cop_match hd hda h i hi
theorem stp_byte (f : Nat → Nat) (a : Nat) : stpT (preL f a) ⟨f a, 0, 0⟩ = preL f (a + 1) := by
  unfold stpT
  rw [if_pos rfl, ← preL_add]; simp
theorem bst_is {f : Nat → Nat} {L a size chain : Nat} (h : (bstN f L a size a chain 0 0).2 ≠ 0) : 1 ≤ (bstN f L a size a chain 0 0).1 ∧ (bstN f L a size a chain 0 0).1 ≤ size ∧ (bstN f L a size a chain 0 0).1 ≤ a ∧ 3 ≤ (bstN f L a size a chain 0 0).2 ∧ (bstN f L a size a chain 0 0).2 ≤ 258 ∧
    (∀ i, i < (bstN f L a size a chain 0 0).2 → a + i < L ∧ f (a - (bstN f L a size a chain 0 0).1 + i) = f (a + i)) := by
  rcases bstN_found (f := f) (L := L) (size := size) a chain 0 0 (Nat.le_refl _) (.inl ⟨rfl, rfl⟩) with ⟨_, h2⟩ | ⟨h1, h2, h3, h4, h5⟩
  · exact absurd h2 h
  · obtain ⟨g1, g2, _⟩ := matN_spec f L a (a - (bstN f L a size a chain 0 0).1)
    rw [← h5] at g1 g2
    exact ⟨h1, h2, h3, h4, g1, g2⟩
/-- The tokens of bytes make just these bytes. -/
theorem cut_back {f : Nat → Nat} {L size chain : Nat} (lazy : Bool) (hs : size ≤ 32768) (hL : L ≤ 131072) {A : Nat} : ∀ k a, A ≤ a → a ≤ L → L ≤ a + k → plyR A (cutL f L size chain lazy k a) (preL f a) = (0, (preL f L).drop A)
  | 0, a, _, _, h2 => by
    simp only [cutL, plyR]
    rw [show a = L by omega]
  | k + 1, a, hA, h1, h2 => by
    simp only [cutL]
    by_cases h : L ≤ a
    · rw [if_pos h]
      simp only [plyR]
      rw [show a = L by omega]
    · rw [if_neg h]
      split
      · simp only [plyR]
        have hm : mayT ⟨f a, 0, 0⟩ = true := by simp [mayT]
        rw [if_neg (by rw [hm]; decide), if_neg (by show ¬ (((preL f a).length : Int) < 0); omega), if_neg (by rw [preL_length]; show ¬ (131072 < a - A + 1); omega), stp_byte]
        exact cut_back lazy hs hL k (a + 1) (by omega) (by omega) (by omega)
      · rename_i hc
        obtain ⟨b1, b2, b3, b4, b5, b6⟩ := bst_is (f := f) (L := L) (a := a) (size := size) (chain := chain) (by omega)
        obtain ⟨d, hd⟩ : ∃ d, d = (bstN f L a size a chain 0 0).1 := ⟨_, rfl⟩
        obtain ⟨n, hn⟩ : ∃ n, n = (bstN f L a size a chain 0 0).2 := ⟨_, rfl⟩
        rw [← hd] at b1 b2 b3 b6 ⊢
        rw [← hn] at b4 b5 b6 ⊢
        have hend := (b6 (n - 1) (by omega)).1
        simp only [plyR]
        have hm : mayT ⟨0, (d : Nat), (n : Nat)⟩ = true := by simp [mayT]; omega
        have hlt : lenT ⟨0, (d : Nat), (n : Nat)⟩ = n := by unfold lenT; rw [if_neg (by show ¬ ((n : Int) = 0); omega)]; exact Int.toNat_natCast n
        rw [if_neg (by rw [hm]; decide), if_neg (by rw [preL_length]; show ¬ ((a : Int) < (d : Int)); omega), if_neg (by rw [preL_length, hlt]; omega), stp_copy b1 b3 (by omega) (fun i hi => (b6 i hi).2)]
        exact cut_back lazy hs hL k (a + n) (by omega) (by omega) (by omega)
/-- Copies reach no farther; all may be; there are no more than bytes; without a chain all are bytes. -/
theorem cut_reach {f : Nat → Nat} {L size chain : Nat} (lazy : Bool) (hs : size ≤ 32768) : ∀ k a, a ≤ L → (cutL f L size chain lazy k a).length ≤ L - a ∧ ∀ t ∈ cutL f L size chain lazy k a, mayT t = true ∧ t.d ≤ size ∧ (chain = 0 → t.n = 0)
  | 0, a, _ => by simp [cutL]
  | k + 1, a, h1 => by
    simp only [cutL]
    by_cases h : L ≤ a
    · rw [if_pos h]; simp
    · rw [if_neg h]
      split
      · obtain ⟨i1, i2⟩ := cut_reach (f := f) (L := L) (size := size) (chain := chain) lazy hs k (a + 1) (by omega)
        refine ⟨by rw [List.length_cons]; omega, fun t ht => ?_⟩
        rcases List.mem_cons.1 ht with rfl | ht
        · exact ⟨by simp [mayT], by show (0 : Int) ≤ size; omega, fun _ => rfl⟩
        · exact i2 t ht
      · rename_i hc
        obtain ⟨b1, b2, b3, b4, b5, b6⟩ := bst_is (f := f) (L := L) (a := a) (size := size) (chain := chain) (by omega)
        have h0 : chain = 0 → (bstN f L a size a chain 0 0).2 = 0 := fun e => by
          subst e
          cases a with
          | zero => rfl
          | succ a => simp only [bstN]; rw [if_neg (by omega)]
        obtain ⟨d, hd⟩ : ∃ d, d = (bstN f L a size a chain 0 0).1 := ⟨_, rfl⟩
        obtain ⟨n, hn⟩ : ∃ n, n = (bstN f L a size a chain 0 0).2 := ⟨_, rfl⟩
        rw [← hd] at b1 b2 b3 b6 ⊢
        rw [← hn] at b4 b5 b6 h0 hc ⊢
        have hend := (b6 (n - 1) (by omega)).1
        obtain ⟨i1, i2⟩ := cut_reach (f := f) (L := L) (size := size) (chain := chain) lazy hs k (a + n) (by omega)
        refine ⟨by rw [List.length_cons]; omega, fun t ht => ?_⟩
        rcases List.mem_cons.1 ht with rfl | ht
        · exact ⟨by simp [mayT]; omega, by show (d : Int) ≤ size; omega, fun e => by have := h0 e; show (n : Int) = 0; omega⟩
        · exact i2 t ht
/-! ### in two parts -/
theorem ply_err {A : Nat} : ∀ l all, (plyR A l all).1 ≠ 0 → (plyR A l all).2 = []
  | [], all, h => by simp [plyR] at h
  | t :: l, all, h => by
    simp only [plyR] at h ⊢
    split
    · rfl
    · rename_i h1
      rw [if_neg h1] at h
      split
      · rfl
      · rename_i h2
        rw [if_neg h2] at h
        split
        · rfl
        · rename_i h3
          rw [if_neg h3] at h
          exact ply_err l _ h
theorem lenT_le {t : Tok} (h : mayT t = true) : lenT t ≤ 258 := by
  have := of_decide_eq_true h
  unfold lenT
  split <;> omega
/-- Behind a first part that may be played, the second one is played as at once. -/
theorem ply_two {A : Nat} : ∀ (l m : List Tok) (all : List Nat), A ≤ all.length → all.length - A + 258 * (l.length + m.length) ≤ 131072 →
    ((plyR A l all).1 ≠ 0 → plyR A (l ++ m) all = ((plyR A l all).1, [])) ∧
    ((plyR A l all).1 = 0 → ∃ y, (plyR A l all).2 = all.drop A ++ y ∧ y.length ≤ 258 * l.length ∧ (plyR A (l ++ m) all).1 = (plyR (all.length + y.length) m (all ++ y)).1 ∧
      ((plyR A (l ++ m) all).1 = 0 → (plyR A (l ++ m) all).2 = all.drop A ++ y ++ (plyR (all.length + y.length) m (all ++ y)).2))
  | [], m, all, hA, hb => by
    refine ⟨fun h => by simp [plyR] at h, fun _ => ⟨[], by simp [plyR], by simp, ?_⟩⟩
    simp only [List.nil_append, List.append_nil, List.length_nil, Nat.add_zero]
    have key : ∀ (m : List Tok) (z : List Nat) (B : Nat), A ≤ B → B ≤ z.length → z.length - A + 258 * m.length ≤ 131072 → (plyR A m z).1 = (plyR B m z).1 ∧ ((plyR A m z).1 = 0 → (plyR A m z).2 = (z.take B).drop A ++ (plyR B m z).2) := by
      intro m
      induction m with
      | nil =>
        intro z B hAB hBz _
        refine ⟨rfl, fun _ => ?_⟩
        simp only [plyR]
        have h := congrArg (List.drop A) (List.take_append_drop B z).symm
        rw [List.drop_append_of_le_length (by rw [List.length_take]; omega)] at h
        exact h
      | cons t m ih =>
        intro z B hAB hBz hb
        simp only [plyR, List.length_cons] at hb ⊢
        by_cases h1 : mayT t = false
        · rw [if_pos h1, if_pos h1]; exact ⟨rfl, fun h => by simp at h⟩
        · rw [if_neg h1, if_neg h1]
          by_cases h2 : (z.length : Int) < t.d
          · rw [if_pos h2, if_pos h2]; exact ⟨rfl, fun h => by simp at h⟩
          · have hlt := lenT_le (t := t) (by simpa using h1)
            rw [if_neg h2, if_neg h2, if_neg (by omega), if_neg (by omega)]
            have hl := len_stp z t
            obtain ⟨i1, i2⟩ := ih (stpT z t) B hAB (by omega) (by omega)
            refine ⟨i1, fun h => ?_⟩
            rw [i2 h]
            congr 2
            unfold stpT
            split
            · rw [List.take_append_of_le_length hBz]
            · rw [List.take_append_of_le_length hBz]
    obtain ⟨k1, k2⟩ := key m all all.length hA (Nat.le_refl _) (by simpa using hb)
    refine ⟨k1, fun h => ?_⟩
    rw [k2 h, List.take_length]
  | t :: l, m, all, hA, hb => by
    simp only [List.cons_append, plyR]
    by_cases h1 : mayT t = false
    · rw [if_pos h1, if_pos h1]; exact ⟨fun _ => rfl, fun h => by simp at h⟩
    · rw [if_neg h1, if_neg h1]
      by_cases h2 : (all.length : Int) < t.d
      · rw [if_pos h2, if_pos h2]; exact ⟨fun _ => rfl, fun h => by simp at h⟩
      · have hlt := lenT_le (t := t) (by simpa using h1)
        simp only [List.length_cons] at hb
        rw [if_neg h2, if_neg h2, if_neg (by omega), if_neg (by omega)]
        have hl := len_stp all t
        obtain ⟨i1, i2⟩ := ply_two (A := A) l m (stpT all t) (by omega) (by omega)
        refine ⟨i1, fun h => ?_⟩
        obtain ⟨y, y1, y2, y3, y4⟩ := i2 h
        obtain ⟨z, hz⟩ : ∃ z, stpT all t = all ++ z := by unfold stpT; split <;> exact ⟨_, rfl⟩
        have hzl : z.length = lenT t := by have := congrArg List.length hz; rw [hl, List.length_append] at this; omega
        rw [hz] at y1 y3 y4 ⊢
        refine ⟨z ++ y, ?_, ?_, ?_, ?_⟩
        · rw [y1, List.drop_append_of_le_length hA, List.append_assoc]
        · rw [List.length_append, hzl, List.length_cons]; omega
        · rw [y3, List.length_append, List.length_append, ← List.append_assoc, Nat.add_assoc]
        · intro h3
          rw [y4 h3, List.drop_append_of_le_length hA, List.length_append, List.length_append, ← List.append_assoc, ← List.append_assoc, Nat.add_assoc]
end Go.Proofs.Ytihfcjehpmiolaa
