/-
  A stable sort, numbers alone: rows of symbols by a frequency; exchanges, turned parts, merges in place.
-/
import Derived.Test.YtgppikhfkikknaaBuildItems
namespace Go.Proofs.Ytgppikhfkikknaa
/-- x stands ahead of y. -/
def Ah (F : Nat → Nat) (x y : Nat) : Prop := F x < F y ∨ (F x = F y ∧ x < y)
theorem Ah.tr {F : Nat → Nat} {x y z : Nat} (h : Ah F x y) (g : Ah F y z) : Ah F x z := by unfold Ah at *; omega
/-- In order from a to b. -/
def Rs (F f : Nat → Nat) (a b : Nat) : Prop := ∀ i j, a ≤ i → i < j → j < b → Ah F (f i) (f j)
/-- Those of one frequency stand by their number. -/
def St (F f : Nat → Nat) (N : Nat) : Prop := ∀ i j, i < j → j < N → F (f i) = F (f j) → f i < f j
/-- The same from a to b but for their order, and the same elsewhere. -/
def Same (f g : Nat → Nat) (a b : Nat) : Prop :=
  (∀ t, ¬ (a ≤ t ∧ t < b) → g t = f t) ∧ (∀ t, a ≤ t → t < b → ∃ s, a ≤ s ∧ s < b ∧ g t = f s) ∧ (∀ s, a ≤ s → s < b → ∃ t, a ≤ t ∧ t < b ∧ g t = f s)
theorem Same.refl (f : Nat → Nat) (a b : Nat) : Same f f a b := ⟨fun _ _ => rfl, fun t h1 h2 => ⟨t, h1, h2, rfl⟩, fun t h1 h2 => ⟨t, h1, h2, rfl⟩⟩
theorem Same.trans {f g h : Nat → Nat} {a b : Nat} (p : Same f g a b) (q : Same g h a b) : Same f h a b := by
  refine ⟨fun t ht => (q.1 t ht).trans (p.1 t ht), fun t h1 h2 => ?_, fun s h1 h2 => ?_⟩
  · obtain ⟨u, u1, u2, e⟩ := q.2.1 t h1 h2
    obtain ⟨v, v1, v2, e2⟩ := p.2.1 u u1 u2
    exact ⟨v, v1, v2, e.trans e2⟩
  · obtain ⟨u, u1, u2, e⟩ := p.2.2 s h1 h2
    obtain ⟨v, v1, v2, e2⟩ := q.2.2 u u1 u2
    exact ⟨v, v1, v2, e2.trans e⟩
theorem Same.wide {f g : Nat → Nat} {a b a' b' : Nat} (p : Same f g a b) (ha : a' ≤ a) (hb : b ≤ b') : Same f g a' b' := by
  refine ⟨fun t ht => p.1 t (by omega), fun t h1 h2 => ?_, fun s h1 h2 => ?_⟩
  · by_cases h : a ≤ t ∧ t < b
    · obtain ⟨u, u1, u2, e⟩ := p.2.1 t h.1 h.2
      exact ⟨u, by omega, by omega, e⟩
    · exact ⟨t, h1, h2, p.1 t h⟩
  · by_cases h : a ≤ s ∧ s < b
    · obtain ⟨u, u1, u2, e⟩ := p.2.2 s h.1 h.2
      exact ⟨u, by omega, by omega, e⟩
    · exact ⟨s, h1, h2, p.1 s h⟩
theorem Same.lt {f g : Nat → Nat} {a b N M : Nat} (p : Same f g a b) (hb : b ≤ N) (h : ∀ t, t < N → f t < M) : ∀ t, t < N → g t < M := fun t ht => by
  by_cases g : a ≤ t ∧ t < b
  · obtain ⟨u, u1, u2, e⟩ := p.2.1 t g.1 g.2
    rw [e]; exact h u (by omega)
  · rw [p.1 t g]; exact h t ht
/-- A part put in order keeps the rule for those of one frequency. -/
theorem St.keep {F f g : Nat → Nat} {a b N : Nat} (h : St F f N) (p : Same f g a b) (hr : Rs F g a b) (hb : b ≤ N) : St F g N := fun i j hij hj e => by
  by_cases hi : a ≤ i ∧ i < b
  · by_cases hj2 : a ≤ j ∧ j < b
    · have := hr i j hi.1 hij hj2.2
      unfold Ah at this; omega
    · obtain ⟨s, s1, s2, e2⟩ := p.2.1 i hi.1 hi.2
      have e3 := p.1 j hj2
      rw [e2, e3] at e ⊢
      exact h s j (by omega) hj e
  · have e2 := p.1 i hi
    by_cases hj2 : a ≤ j ∧ j < b
    · obtain ⟨s, s1, s2, e3⟩ := p.2.1 j hj2.1 hj2.2
      rw [e2, e3] at e ⊢
      exact h i s (by omega) (by omega) e
    · have e3 := p.1 j hj2
      rw [e2, e3] at e ⊢
      exact h i j hij hj e
theorem Rs.part {F f : Nat → Nat} {a b a' b' : Nat} (h : Rs F f a b) (ha : a ≤ a') (hb : b' ≤ b) : Rs F f a' b' := fun i j h1 h2 h3 => h i j (by omega) h2 (by omega)
theorem Rs.keep {F f g : Nat → Nat} {a b c d : Nat} (h : Rs F f c d) (p : Same f g a b) (hd : d ≤ a ∨ b ≤ c) : Rs F g c d := fun i j h1 h2 h3 => by
  rw [p.1 i (by omega), p.1 j (by omega)]
  exact h i j h1 h2 h3
theorem Rs.one {F f : Nat → Nat} {a b : Nat} (h : b ≤ a + 1) : Rs F f a b := fun i j h1 h2 h3 => by omega
theorem ah_of {F f : Nat → Nat} {N i j : Nat} (h : St F f N) (hij : i < j) (hj : j < N) (e : F (f i) ≤ F (f j)) : Ah F (f i) (f j) := by
  rcases Nat.lt_or_ge (F (f i)) (F (f j)) with g | g
  · exact .inl g
  · have e2 : F (f i) = F (f j) := by omega
    exact .inr ⟨e2, h i j hij hj e2⟩
/-- Two rows in order, the second one not below the first one's end. -/
theorem rs_join {F f : Nat → Nat} {a m b N : Nat} (hs : St F f N) (hb : b ≤ N) (h1 : Rs F f a m) (h2 : Rs F f m b) (hc : a < m → m < b → F (f (m - 1)) ≤ F (f m)) : Rs F f a b := fun i j hi hij hj => by
  by_cases g1 : j < m
  · exact h1 i j hi hij g1
  · by_cases g2 : m ≤ i
    · exact h2 i j g2 hij hj
    · apply ah_of hs hij (by omega)
      have h3 := hc (by omega) (by omega)
      have h4 : F (f i) ≤ F (f (m - 1)) := by
        by_cases e : i = m - 1
        · rw [e]; exact Nat.le_refl _
        · have := h1 i (m - 1) hi (by omega) (by omega)
          unfold Ah at this; omega
      have h5 : F (f m) ≤ F (f j) := by
        by_cases e : j = m
        · rw [e]; exact Nat.le_refl _
        · have := h2 m j (Nat.le_refl _) (by omega) hj
          unfold Ah at this; omega
      omega
/-! ### exchanges -/
def sw (f : Nat → Nat) (i j t : Nat) : Nat := if t = j then f i else if t = i then f j else f t
theorem same_sw {f : Nat → Nat} {a b i j : Nat} (hi : a ≤ i ∧ i < b) (hj : a ≤ j ∧ j < b) : Same f (sw f i j) a b := by
  refine ⟨fun t ht => ?_, fun t h1 h2 => ?_, fun t h1 h2 => ?_⟩
  · unfold sw; rw [if_neg (by omega), if_neg (by omega)]
  · by_cases e : t = j
    · exact ⟨i, hi.1, hi.2, by unfold sw; rw [if_pos e]⟩
    · by_cases e2 : t = i
      · exact ⟨j, hj.1, hj.2, by unfold sw; rw [if_neg e, if_pos e2]⟩
      · exact ⟨t, h1, h2, by unfold sw; rw [if_neg e, if_neg e2]⟩
  · by_cases e : t = j
    · by_cases e2 : i = j
      · exact ⟨t, h1, h2, by unfold sw; rw [if_pos e, e2, e]⟩
      · exact ⟨i, hi.1, hi.2, by unfold sw; rw [if_neg e2, if_pos rfl, e]⟩
    · by_cases e2 : t = i
      · exact ⟨j, hj.1, hj.2, by unfold sw; rw [if_pos rfl, e2]⟩
      · exact ⟨t, h1, h2, by unfold sw; rw [if_neg e, if_neg e2]⟩
theorem sw_a (f : Nat → Nat) (j : Nat) : sw f (j + 1) j j = f (j + 1) := by unfold sw; rw [if_pos rfl]
theorem sw_b (f : Nat → Nat) (j : Nat) : sw f (j + 1) j (j + 1) = f j := by unfold sw; rw [if_neg (by omega), if_pos rfl]
theorem sw_c (f : Nat → Nat) {i j t : Nat} (h1 : t ≠ j) (h2 : t ≠ i) : sw f i j t = f t := by unfold sw; rw [if_neg h1, if_neg h2]
/-- Two neighbours of which the second one is rarer change places. -/
theorem St.sw {F f : Nat → Nat} {N j : Nat} (h : St F f N) (hj : j + 1 < N) (hlt : F (f (j + 1)) < F (f j)) : St F (sw f (j + 1) j) N := fun i k hik hk e => by
  by_cases i1 : i = j
  · subst i1
    by_cases k1 : k = i + 1
    · subst k1; rw [sw_a, sw_b] at e; omega
    · rw [sw_a, sw_c f (by omega) (by omega)] at e ⊢
      exact h (i + 1) k (by omega) hk e
  · by_cases i2 : i = j + 1
    · subst i2
      rw [sw_b, sw_c f (by omega) (by omega)] at e ⊢
      exact h j k (by omega) hk e
    · rw [sw_c f i1 i2] at e ⊢
      by_cases k1 : k = j
      · subst k1; rw [sw_a] at e ⊢
        exact h i (k + 1) (by omega) hj e
      · by_cases k2 : k = j + 1
        · subst k2; rw [sw_b] at e ⊢
          exact h i j (by omega) (by omega) e
        · rw [sw_c f k1 k2] at e ⊢
          exact h i k hik hk e
/-! ### one more put in -/
structure InsI (F f : Nat → Nat) (a i j : Nat) : Prop where
  ord : ∀ s t, a ≤ s → s < t → t ≤ i → s ≠ j → t ≠ j → Ah F (f s) (f t)
  up : ∀ t, j < t → t ≤ i → Ah F (f j) (f t)
theorem InsI.start {F f : Nat → Nat} {a i : Nat} (h : Rs F f a i) : InsI F f a i i :=
  ⟨fun s t h1 h2 h3 _ h5 => h s t h1 h2 (by omega), fun t h1 h2 => by omega⟩
theorem InsI.step {F f : Nat → Nat} {a i j : Nat} (h : InsI F f a i (j + 1)) (hj : a ≤ j) (hji : j + 1 ≤ i) (hlt : F (f (j + 1)) < F (f j)) : InsI F (Go.Proofs.Ytgppikhfkikknaa.sw f (j + 1) j) a i j := by
  refine ⟨fun s t h1 h2 h3 h4 h5 => ?_, fun t h1 h2 => ?_⟩
  · by_cases s1 : s = j + 1
    · subst s1
      rw [sw_b, sw_c f (by omega) (by omega)]
      exact h.ord j t hj (by omega) h3 (by omega) (by omega)
    · rw [sw_c f h4 s1]
      by_cases t1 : t = j + 1
      · subst t1
        rw [sw_b]
        exact h.ord s j h1 (by omega) (by omega) (by omega) (by omega)
      · rw [sw_c f h5 t1]
        exact h.ord s t h1 h2 h3 s1 t1
  · rw [sw_a]
    by_cases t1 : t = j + 1
    · subst t1; rw [sw_b]; exact .inl hlt
    · rw [sw_c f (by omega) t1]
      exact h.up t (by omega) h2
theorem InsI.stop {F f : Nat → Nat} {a i j N : Nat} (h : InsI F f a i j) (hs : St F f N) (hj : a ≤ j) (hji : j ≤ i) (hi : i < N) (hc : j ≤ a ∨ ¬ F (f j) < F (f (j - 1))) : Rs F f a (i + 1) := fun s t h1 h2 h3 => by
  by_cases s1 : s = j
  · subst s1; exact h.up t h2 (by omega)
  · by_cases t1 : t = j
    · subst t1
      have hn : ¬ F (f t) < F (f (t - 1)) := by
        rcases hc with g | g
        · omega
        · exact g
      have hl : Ah F (f (t - 1)) (f t) := ah_of hs (by omega) (by omega) (by omega)
      by_cases s2 : s = t - 1
      · rw [s2]; exact hl
      · exact (h.ord s (t - 1) h1 (by omega) (by omega) s1 (by omega)).tr hl
    · exact h.ord s t h1 h2 (by omega) s1 t1
/-! ### two parts change places -/
def src (s m e t : Nat) : Nat := if s ≤ t ∧ t < e then (if t < s + (e - m) then t + (m - s) else t - (e - m)) else t
def rotF (f : Nat → Nat) (s m e t : Nat) : Nat := f (src s m e t)
def swF (f : Nat → Nat) (a b n t : Nat) : Nat := if a ≤ t ∧ t < a + n then f (t - a + b) else if b ≤ t ∧ t < b + n then f (t - b + a) else f t
theorem sw_start (f : Nat → Nat) (a b : Nat) : swF f a b 0 = f := by
  funext t; unfold swF; rw [if_neg (by omega), if_neg (by omega)]
theorem sw_step (f : Nat → Nat) {a b n i : Nat} (h : a + n ≤ b) (hi : i < n) : sw (swF f a b i) (a + i) (b + i) = swF f a b (i + 1) := by
  funext t
  unfold sw swF
  repeat' split
  all_goals first | rfl | (exfalso; omega) | (congr 1; omega)
theorem rot_gt (f : Nat → Nat) {m i j : Nat} (h : j < i) (hi : i ≤ m) (hj : 0 < j) : rotF (swF f (m - i) m j) (m - (i - j)) m (m + j) = rotF f (m - i) m (m + j) := by
  funext t
  unfold rotF swF src
  repeat' split
  all_goals first | rfl | (exfalso; omega) | (congr 1; omega)
theorem rot_lt (f : Nat → Nat) {m i j : Nat} (h : i < j) (hi : i ≤ m) (h0 : 0 < i) : rotF (swF f (m - i) (m + j - i) i) (m - i) m (m + (j - i)) = rotF f (m - i) m (m + j) := by
  funext t
  unfold rotF swF src
  repeat' split
  all_goals first | rfl | (exfalso; omega) | (congr 1; omega)
theorem rot_eq (f : Nat → Nat) {m i : Nat} (hi : i ≤ m) : swF f (m - i) m i = rotF f (m - i) m (m + i) := by
  funext t
  unfold rotF swF src
  repeat' split
  all_goals first | rfl | (exfalso; omega) | (congr 1; omega)
theorem rot_none (f : Nat → Nat) {s m e : Nat} (h1 : s ≤ m) (h2 : m ≤ e) (h : s = m ∨ m = e) : rotF f s m e = f := by
  funext t
  unfold rotF src
  repeat' split
  all_goals first | rfl | (exfalso; omega) | (congr 1; omega)
theorem same_rot (f : Nat → Nat) {s m e : Nat} (h1 : s ≤ m) (h2 : m ≤ e) : Same f (rotF f s m e) s e := by
  refine ⟨fun t ht => ?_, fun t g1 g2 => ?_, fun t g1 g2 => ?_⟩
  · unfold rotF src; rw [if_neg ht]
  · refine ⟨src s m e t, ?_, ?_, rfl⟩
    · unfold src; rw [if_pos ⟨g1, g2⟩]; split <;> omega
    · unfold src; rw [if_pos ⟨g1, g2⟩]; split <;> omega
  · by_cases g : t < m
    · refine ⟨t + (e - m), by omega, by omega, ?_⟩
      unfold rotF src; rw [if_pos (by omega), if_neg (by omega)]; congr 1; omega
    · refine ⟨t - (m - s), by omega, by omega, ?_⟩
      unfold rotF src; rw [if_pos (by omega), if_pos (by omega)]; congr 1; omega
theorem Rs.le {F f : Nat → Nat} {a b i j : Nat} (h : Rs F f a b) (h1 : a ≤ i) (h2 : i ≤ j) (h3 : j < b) : F (f i) ≤ F (f j) := by
  by_cases e : i = j
  · rw [e]; exact Nat.le_refl _
  · have := h i j h1 (by omega) h3
    unfold Ah at this; omega
theorem src_a {s m e t : Nat} (h1 : s ≤ t) (h2 : t < s + (e - m)) (h3 : s ≤ m) (h4 : m ≤ e) : src s m e t = t + (m - s) := by
  unfold src; rw [if_pos (by omega), if_pos h2]
theorem src_b {s m e t : Nat} (h1 : s + (e - m) ≤ t) (h2 : t < e) (h3 : s ≤ m) (h4 : m ≤ e) : src s m e t = t - (e - m) := by
  unfold src; rw [if_pos (by omega), if_neg (by omega)]
theorem src_c {s m e t : Nat} (h1 : t < s ∨ e ≤ t) : src s m e t = t := by
  unfold src; rw [if_neg (by omega)]
/-- All of the first are ahead of all of the second. -/
def Lo (F g : Nat → Nat) (a m b : Nat) : Prop := ∀ i j, a ≤ i → i < m → m ≤ j → j < b → Ah F (g i) (g j)
section
variable {F f : Nat → Nat} {a s m e b N : Nat}
theorem rot_strict (r1 : Rs F f a m) (r2 : Rs F f m b) (has : a ≤ s) (heb : e ≤ b) (hx : s < m → m < e → F (f (e - 1)) < F (f s)) {i j : Nat} (h1 : m ≤ i) (h2 : i < e) (h3 : s ≤ j) (h4 : j < m) : F (f i) < F (f j) := by
  have g1 := r2.le (i := i) (j := e - 1) h1 (by omega) (by omega)
  have g2 := r1.le (i := s) (j := j) has h3 h4
  have := hx (by omega) (by omega)
  omega
theorem rot_st (hs : St F f N) (hb : b ≤ N) (r1 : Rs F f a m) (r2 : Rs F f m b) (has : a ≤ s) (hsm : s ≤ m) (hme : m ≤ e) (heb : e ≤ b) (hx : s < m → m < e → F (f (e - 1)) < F (f s)) : St F (rotF f s m e) N := fun i k hik hk eq => by
  have key : src s m e i < src s m e k ∧ src s m e k < N ∨ (m ≤ src s m e i ∧ src s m e i < e ∧ s ≤ src s m e k ∧ src s m e k < m) := by
    unfold src
    split
    · split
      · split
        · split <;> omega
        · omega
      · split
        · split <;> omega
        · omega
    · split
      · split <;> omega
      · omega
  rcases key with ⟨h1, h2⟩ | ⟨h1, h2, h3, h4⟩
  · exact hs _ _ h1 h2 eq
  · have := rot_strict r1 r2 has heb hx h1 h2 h3 h4
    unfold rotF at eq; omega
theorem rot_rs1 (r1 : Rs F f a m) (hsm : s ≤ m) : Rs F (rotF f s m e) a s := fun i j h1 h2 h3 => by
  unfold rotF; rw [src_c (by omega), src_c (by omega)]; exact r1 i j h1 h2 (by omega)
theorem rot_rs2 (r2 : Rs F f m b) (hsm : s ≤ m) (hme : m ≤ e) (heb : e ≤ b) : Rs F (rotF f s m e) s (s + (e - m)) := fun i j h1 h2 h3 => by
  unfold rotF; rw [src_a h1 (by omega) hsm hme, src_a (by omega) h3 hsm hme]; exact r2 _ _ (by omega) (by omega) (by omega)
theorem rot_rs3 (r1 : Rs F f a m) (has : a ≤ s) (hsm : s ≤ m) (hme : m ≤ e) : Rs F (rotF f s m e) (s + (e - m)) e := fun i j h1 h2 h3 => by
  unfold rotF; rw [src_b h1 (by omega) hsm hme, src_b (by omega) h3 hsm hme]; exact r1 _ _ (by omega) (by omega) (by omega)
theorem rot_rs4 (r2 : Rs F f m b) (hme : m ≤ e) : Rs F (rotF f s m e) e b := fun i j h1 h2 h3 => by
  unfold rotF; rw [src_c (by omega), src_c (by omega)]; exact r2 i j (by omega) h2 h3
theorem rot_lo (hs : St F f N) (hb : b ≤ N) (r1 : Rs F f a m) (r2 : Rs F f m b) (has : a ≤ s) (hsm : s ≤ m) (hme : m ≤ e) (heb : e ≤ b) (hx : s < m → m < e → F (f (e - 1)) < F (f s)) (hy : a < s → e < b → F (f (s - 1)) ≤ F (f e)) :
    Lo F (rotF f s m e) a (s + (e - m)) b := fun i j h1 h2 h3 h4 => by
  unfold rotF
  by_cases g1 : i < s
  · rw [src_c (.inl g1)]
    by_cases g2 : j < e
    · rw [src_b h3 g2 hsm hme]
      exact r1 _ _ h1 (by omega) (by omega)
    · rw [src_c (.inr (by omega))]
      have q1 := r1.le (i := i) (j := s - 1) h1 (by omega) (by omega)
      have q2 := r2.le (i := e) (j := j) hme (by omega) h4
      have := hy (by omega) (by omega)
      exact ah_of hs (by omega) (by omega) (by omega)
  · rw [src_a (by omega) h2 hsm hme]
    by_cases g2 : j < e
    · rw [src_b h3 g2 hsm hme]
      exact .inl (rot_strict r1 r2 has heb hx (by omega) (by omega) (by omega) (by omega))
    · rw [src_c (.inr (by omega))]
      exact r2 _ _ (by omega) (by omega) h4
end
theorem lo_join {F g g1 g2 : Nat → Nat} {a m b : Nat} (p : Same g g1 a m) (r1 : Rs F g1 a m) (q : Same g1 g2 m b) (r2 : Rs F g2 m b) (hl : Lo F g a m b) : Rs F g2 a b := fun i j h1 h2 h3 => by
  by_cases g1' : j < m
  · rw [q.1 i (by omega), q.1 j (by omega)]; exact r1 i j h1 h2 g1'
  · by_cases g2' : m ≤ i
    · exact r2 i j g2' h2 h3
    · obtain ⟨s, s1, s2, e1⟩ := p.2.1 i h1 (by omega)
      obtain ⟨u, u1, u2, e2⟩ := q.2.1 j (by omega) h3
      rw [q.1 i (by omega), e1, e2, p.1 u (by omega)]
      exact hl s u s1 s2 u1 u2
/-- One at the front, put in its place. -/
theorem merge_first {F f : Nat → Nat} {a i b N : Nat} (hs : St F f N) (hb : b ≤ N) (r2 : Rs F f (a + 1) b) (hi1 : a + 1 ≤ i) (hi2 : i ≤ b) (hl : i = a + 1 ∨ F (f (i - 1)) < F (f a)) (hr : i = b ∨ ¬ F (f i) < F (f a)) :
    Rs F (rotF f a (a + 1) i) a b ∧ Same f (rotF f a (a + 1) i) a b := by
  have r1 : Rs F f a (a + 1) := Rs.one (Nat.le_refl _)
  have hx : a < a + 1 → a + 1 < i → F (f (i - 1)) < F (f a) := fun _ h => by rcases hl with g | g <;> omega
  have hst := rot_st (s := a) (e := i) hs hb r1 r2 (Nat.le_refl _) (by omega) hi1 hi2 hx
  have q2 := rot_rs2 (s := a) (e := i) r2 (by omega) hi1 hi2
  have q3 := rot_rs3 (s := a) (e := i) r1 (Nat.le_refl _) (by omega) hi1
  have q4 := rot_rs4 (s := a) (e := i) r2 hi1
  have hmid : a + (i - (a + 1)) + 1 = i := by omega
  have q5 : Rs F (rotF f a (a + 1) i) (a + (i - (a + 1))) b := rs_join (m := i) hst hb q3 q4 (fun _ hib => by
    unfold rotF
    rw [src_b (by omega) (by omega) (by omega) hi1, src_c (.inr (Nat.le_refl _)), show i - 1 - (i - (a + 1)) = a by omega]
    rcases hr with g | g <;> omega)
  refine ⟨lo_join (Same.refl _ _ _) q2 (Same.refl _ _ _) q5 ?_, (same_rot f (by omega) hi1).wide (Nat.le_refl _) hi2⟩
  exact rot_lo hs hb r1 r2 (Nat.le_refl _) (by omega) hi1 hi2 hx (fun h => by omega)
/-- One at the end, put in its place. -/
theorem merge_last {F f : Nat → Nat} {a i m N : Nat} (hs : St F f N) (hb : m + 1 ≤ N) (r1 : Rs F f a m) (hi1 : a ≤ i) (hi2 : i ≤ m) (hl : i = a ∨ ¬ F (f m) < F (f (i - 1))) (hr : i = m ∨ F (f m) < F (f i)) :
    Rs F (rotF f i m (m + 1)) a (m + 1) ∧ Same f (rotF f i m (m + 1)) a (m + 1) := by
  have r2 : Rs F f m (m + 1) := Rs.one (Nat.le_refl _)
  have hx : i < m → m < m + 1 → F (f (m + 1 - 1)) < F (f i) := fun h _ => by rw [Nat.add_sub_cancel]; rcases hr with g | g <;> omega
  have hst := rot_st (s := i) (e := m + 1) hs hb r1 r2 hi1 hi2 (by omega) (Nat.le_refl _) hx
  have q1 := rot_rs1 (s := i) (e := m + 1) r1 hi2
  have q2 := rot_rs2 (s := i) (e := m + 1) r2 hi2 (by omega) (Nat.le_refl _)
  have q3 := rot_rs3 (s := i) (e := m + 1) r1 hi1 hi2 (by omega)
  have q5 : Rs F (rotF f i m (m + 1)) a (i + (m + 1 - m)) := rs_join (m := i) hst (by omega) q1 q2 (fun hai _ => by
    unfold rotF
    rw [src_c (.inl (by omega)), src_a (Nat.le_refl _) (by omega) hi2 (by omega), show i + (m - i) = m by omega]
    rcases hl with g | g <;> omega)
  refine ⟨lo_join (Same.refl _ _ _) q5 (Same.refl _ _ _) q3 ?_, (same_rot f hi2 (by omega)).wide hi1 (Nat.le_refl _)⟩
  exact rot_lo hs hb r1 r2 hi1 hi2 (by omega) (Nat.le_refl _) hx (fun _ h => by omega)
/-! ### parts of one size -/
def Ch (F f : Nat → Nat) (S N : Nat) : Prop := ∀ k, Rs F f (k * S) (min (k * S + S) N)
theorem mul_step {k l S : Nat} (h : k < l) : k * S + S ≤ l * S := by
  rw [← Nat.succ_mul]; exact Nat.mul_le_mul_right _ h
theorem Ch.whole {F f : Nat → Nat} {S N : Nat} (h : Ch F f S N) (hS : N ≤ S) : Rs F f 0 N := by
  have := h 0
  rw [Nat.zero_mul, show min (0 + S) N = N by omega] at this
  exact this
theorem ch_pass {F f : Nat → Nat} {S A N k : Nat} (hA : A = k * S) (h1 : ∀ l, l < k → Rs F f (l * S) (l * S + S)) (h2 : Rs F f A N) (hN : N < A + S) : Ch F f S N := fun l => by
  rcases Nat.lt_trichotomy l k with h | h | h
  · exact (h1 l h).part (Nat.le_refl _) (Nat.min_le_left _ _)
  · subst h; rw [← hA]; exact h2.part (Nat.le_refl _) (Nat.min_le_right _ _)
  · have := mul_step (S := S) h
    exact Rs.one (by omega)
/-! ### what is in order is the items' row -/
theorem order_tail {F : Nat → Nat} {x : Nat} {l : List Nat} (h : InOrder F (x :: l)) : x ∉ l := fun hx => by
  have := ahead_iff.1 (h.1 x hx); omega
theorem order_same {F : Nat → Nat} : ∀ (l l' : List Nat), InOrder F l → InOrder F l' → (∀ x, x ∈ l ↔ x ∈ l') → l = l'
  | [], [], _, _, _ => rfl
  | [], y :: l', _, _, h => absurd ((h y).2 (by simp)) (by simp)
  | x :: l, [], _, _, h => absurd ((h x).1 (by simp)) (by simp)
  | x :: l, y :: l', h1, h2, h => by
    have e : x = y := by
      rcases List.mem_cons.1 ((h x).1 (by simp)) with g | g
      · exact g
      · rcases List.mem_cons.1 ((h y).2 (by simp)) with k | k
        · exact k.symm
        · have a1 := ahead_iff.1 (h2.1 x g)
          have a2 := ahead_iff.1 (h1.1 y k)
          omega
    subst e
    rw [order_same l l' h1.2 h2.2 (fun z => ?_)]
    constructor
    · intro hz
      rcases List.mem_cons.1 ((h z).1 (by simp [hz])) with g | g
      · subst g; exact absurd hz (order_tail h1)
      · exact g
    · intro hz
      rcases List.mem_cons.1 ((h z).2 (by simp [hz])) with g | g
      · subst g; exact absurd hz (order_tail h2)
      · exact g
theorem range_order {F f : Nat → Nat} : ∀ (n a : Nat), Rs F f a (a + n) → InOrder F ((List.range' a n).map f)
  | 0, _, _ => trivial
  | n + 1, a, h => by
    refine ⟨fun x hx => ?_, range_order n (a + 1) (h.part (by omega) (by omega))⟩
    simp only [List.mem_map, List.mem_range'_1] at hx
    obtain ⟨t, ht, rfl⟩ := hx
    have := h a t (Nat.le_refl _) (by omega) (by omega)
    exact ahead_iff.2 this
/-- The symbols in order, those of the items. -/
theorem order_items {F f : Nat → Nat} {n M : Nat} (h : Rs F f 0 n) (hm : ∀ x, (x < M ∧ 0 < F x) ↔ ∃ t, t < n ∧ f t = x) : (List.range n).map f = itemsL F M := by
  rw [List.range_eq_range']
  refine order_same _ _ (range_order n 0 (by simpa using h)) (items_order F M) fun x => ?_
  rw [items_mem, hm x]
  simp only [List.mem_map, List.mem_range'_1]
  constructor
  · rintro ⟨t, ht, rfl⟩; exact ⟨t, by omega, rfl⟩
  · rintro ⟨t, ht, rfl⟩; exact ⟨t, ⟨by omega, by omega⟩, rfl⟩
end Go.Proofs.Ytgppikhfkikknaa
