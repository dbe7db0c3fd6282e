/-
  Layer 4 (build): the program's items, put in order by a stable sort.
-/
import Derived.Test.YtgppikhfkikknaaSortStb
namespace Go.Proofs.Ytgppikhfkikknaa
open Go.RowKit
/-- The symbols whose frequency is above 0, by number. -/
def posL (F : Nat → Nat) : Nat → List Nat
  | 0 => []
  | k + 1 => if 0 < F k then posL F k ++ [k] else posL F k
theorem pos_mem (F : Nat → Nat) (x : Nat) : ∀ k, x ∈ posL F k ↔ x < k ∧ 0 < F x
  | 0 => by simp [posL]
  | k + 1 => by
    simp only [posL]
    split
    · rename_i h
      rw [List.mem_append, pos_mem F x k, List.mem_singleton]
      constructor
      · rintro (h1 | rfl)
        · exact ⟨by omega, h1.2⟩
        · exact ⟨by omega, h⟩
      · rintro ⟨h1, h2⟩
        by_cases e : x = k
        · exact .inr e
        · exact .inl ⟨by omega, h2⟩
    · rename_i h
      rw [pos_mem F x k]
      constructor
      · rintro ⟨h1, h2⟩; exact ⟨by omega, h2⟩
      · rintro ⟨h1, h2⟩
        refine ⟨?_, h2⟩
        by_cases e : x = k
        · subst e; exact absurd h2 h
        · omega
theorem pos_length (F : Nat → Nat) : ∀ k, (posL F k).length = nI F k
  | 0 => rfl
  | k + 1 => by
    simp only [posL, nI]
    split
    · rw [List.length_append, pos_length F k]; rfl
    · rw [pos_length F k]; rfl
theorem getD_append {l : List Nat} {x i : Nat} : (l ++ [x]).getD i 0 = if i < l.length then l.getD i 0 else if i = l.length then x else 0 := by
  rw [List.getD_eq_getElem?_getD, List.getElem?_append]
  split
  · rw [List.getD_eq_getElem?_getD]
  · split
    · rename_i h; subst h; simp
    · rename_i h1 h2
      have : 1 ≤ i - l.length := by omega
      rw [List.getElem?_eq_none (by simp; omega)]; rfl
theorem pos_up (F : Nat → Nat) : ∀ k, ∀ i j, i < j → j < (posL F k).length → (posL F k).getD i 0 < (posL F k).getD j 0
  | 0, i, j, _, h => absurd h (by simp [posL])
  | k + 1, i, j, hij, hj => by
    simp only [posL] at hj ⊢
    split at hj
    · rename_i h
      rw [if_pos h, getD_append, getD_append]
      rw [List.length_append, List.length_singleton] at hj
      rw [if_pos (by omega)]
      by_cases g : j < (posL F k).length
      · rw [if_pos g]; exact pos_up F k i j hij g
      · rw [if_neg g, if_pos (by omega)]
        have hm : (posL F k).getD i 0 ∈ posL F k := by
          rw [List.getD_eq_getElem?_getD, List.getElem?_eq_getElem (show i < (posL F k).length by omega)]; exact List.getElem_mem _
        exact ((pos_mem F _ k).1 hm).1
    · rename_i h
      rw [if_neg h]; exact pos_up F k i j hij hj
/-- The symbols put in order are the items. -/
theorem sorted_items {F f : Nat → Nat} {M n : Nat} (hn : n = nI F M) (hs : Same (fun t => (posL F M).getD t 0) f 0 n) (hr : Rs F f 0 n) : (List.range n).map f = itemsL F M := by
  refine order_items hr fun x => ?_
  rw [← pos_mem F x M]
  have hl := pos_length F M
  constructor
  · intro hx
    obtain ⟨i, hi, rfl⟩ := List.getElem_of_mem hx
    obtain ⟨t, _, h2, h3⟩ := hs.2.2 i (Nat.zero_le _) (by omega)
    refine ⟨t, h2, h3.trans ?_⟩
    show (posL F M).getD i 0 = _
    rw [List.getD_eq_getElem?_getD, List.getElem?_eq_getElem hi]; rfl
  · rintro ⟨t, ht, rfl⟩
    obtain ⟨i, _, h2, h3⟩ := hs.2.1 t (Nat.zero_le _) ht
    rw [h3]
    show (posL F M).getD i 0 ∈ _
    rw [List.getD_eq_getElem?_getD, List.getElem?_eq_getElem (show i < (posL F M).length by omega)]; exact List.getElem_mem _
theorem RowZ.rdI {w : World} {g n : Nat} {f : Nat → Nat} (h : RowZ w g n f) {L : List Nat} (hL : (List.range n).map f = L) : RdI w w.heap.size (some ⟨g, 0, none⟩) (natsI L) := by
  subst hL
  refine ⟨by simp [intsL, natsI], fun _ => ⟨g, 0, rfl, h.lt, fun j u hu => ?_⟩⟩
  rw [intsL_get] at hu
  by_cases hj : j < n
  · simp [natsI, hj] at hu
    rw [Nat.zero_add, ← hu]
    exact h.cell hj
  · simp [natsI, hj] at hu
theorem RowZ.of_own {w : World} {base n c : Nat} {A : Option Addr} {L : List Nat} (h : w.ownsRow base 3 1 (.slice A n c) n (intsL (natsI L))) (hn : 0 < n) : ∃ g, A = some ⟨g, 0, none⟩ ∧ base ≤ g ∧ RowZ w g n (fun t => L.getD t 0) := by
  rcases h.2 with ⟨_, h0⟩ | ⟨g, cap, cur, hv, hg, hh, _, _, _, ht⟩
  · omega
  · injection hv with hA _ _
    have hl : (intsL (natsI L)).length = n * 1 := h.1
    refine ⟨g, hA, hg, cur, hh, fun j hj => ?_⟩
    have hjL : j < L.length := by simp [intsL, natsI] at hl; omega
    have h1 := intsL_get (natsI L) j
    rw [← ht, List.getElem?_take] at h1
    rw [if_pos (by omega)] at h1
    have h2 : (natsI L)[j]? = some ((L.getD j 0 : Nat) : Int) := by
      unfold natsI
      rw [List.getElem?_map, List.getElem?_eq_getElem hjL, List.getD_eq_getElem?_getD, List.getElem?_eq_getElem hjL]; rfl
    rw [h2] at h1
    simpa using h1
theorem ins_none (w : World) (A : Option Addr) (c : Nat) (fv : Value) :
    Calls Try.prog 39 #[.slice A 0 c, .int .i64 0, .int .i64 0, fv] w fun e w' => e = .returned (.tuple #[]) ∧ w' = w := by
  go_enter Try.func39, Try.ntmps39
  go_wp2
  go_loopw [8] (fun vi wr => vi = .int .i64 1 ∧ wr = w) (fun _ _ => 0)
  case atStart => exact ⟨rfl, rfl⟩
  case round =>
    obtain ⟨rfl, rfl⟩ := hrel
    go_wp2
    go_end0
    exact ⟨rfl, rfl⟩
theorem stab_none (w : World) (A : Option Addr) (c : Nat) (fv : Value) :
    Calls Try.prog 33 #[.slice A 0 c, .int .i64 0, fv] w fun e w' => e = .returned (.tuple #[]) ∧ w' = w := by
  have hi := ins_none
  go_enter Try.func33, Try.ntmps33
  go_wp2
  go_loopw [7, 8] (fun va vb wr => va = .int .i64 0 ∧ vb = .int .i64 20 ∧ wr = w) (fun _ _ _ => 0)
  case atStart => exact ⟨rfl, rfl, rfl⟩
  case round =>
    obtain ⟨rfl, rfl, rfl⟩ := hrel
    go_wp2_with (go_at_call 39; refine (ins_none _ A c fv).mono ?_; rintro e w1 ⟨rfl, rfl⟩)
    go_loopw [6] (fun va wq => va = .int .i64 20 ∧ wq = w1) (fun _ _ => 0)
    case atStart => exact ⟨rfl, rfl⟩
    case round =>
      obtain ⟨rfl, rfl⟩ := hrel
      go_wp2
      go_end0
      exact ⟨rfl, rfl⟩
theorem sort_none (w : World) (A : Option Addr) (c : Nat) (fv : Value) :
    Calls Try.prog 24 #[.slice A 0 c, fv] w fun e w' => e = .returned (.tuple #[]) ∧ w' = w := by
  have h := stab_none w A c fv
  have H := Lib.hid h
  clear h
  go_enter Try.func24, Try.ntmps24
  go_wp2_with (go_at_call 33; refine H.out.mono ?_; rintro e w1 ⟨rfl, rfl⟩)
  go_end0
  exact ⟨rfl, rfl⟩
set_option maxRecDepth 100000 in
set_option maxHeartbeats 4000000 in
theorem order_any (w : World) (A : Option Addr) (c : Nat) (l : List Int) (hr : RdI w w.heap.size A l) (hF : FrqOk l) (hb : ∀ j, j < l.length → -9223372036854775808 ≤ l.getD j 0 ∧ l.getD j 0 ≤ 9223372036854775807) :
    Calls Try.prog 17 #[.slice A l.length c] w fun e w' => ∃ A' c', e = .returned (.slice A' (nI (freqN l) l.length) c') ∧ Below w.heap.size w w' ∧ RdI w' w'.heap.size A' (natsI (itemsL (freqN l) l.length)) := by
  have HR := Lib.hid hr
  have HBD := Lib.hid hb
  have HF := Lib.hid hF
  have hn := hF.len
  clear hr hb hF
  obtain ⟨n, hn0⟩ : ∃ n, n = l.length := ⟨_, rfl⟩
  rw [← hn0] at hn ⊢
  have HN := Lib.hid hn0
  obtain ⟨F, hFF⟩ : ∃ F, F = freqN l := ⟨_, rfl⟩
  rw [← hFF]
  have HFF := Lib.hid hFF
  obtain ⟨m, hm⟩ : ∃ m, m = nI F n := ⟨_, rfl⟩
  obtain ⟨I, hI⟩ : ∃ I, I = itemsL F n := ⟨_, rfl⟩
  rw [← hm, ← hI]
  have HM := Lib.hid hm
  have HI := Lib.hid hI
  clear hm hI
  obtain ⟨u, hu⟩ : ∃ u, u = w.alloc (.cells #[.slice A n c] 23) := ⟨_, rfl⟩
  have hsz : u.heap.size = w.heap.size + 1 := by rw [hu]; simp
  have hbox : u.cell? ⟨w.heap.size, 0, none⟩ = some (.slice A n c) := by rw [hu]; simp
  have hbu : Below w.heap.size w u := by rw [hu]; exact (Below.refl _ w).alloc (Nat.le_refl _) _
  have HBU := Lib.hid hbu; have HBX := Lib.hid hbox; have HSZ := Lib.hid hsz; have HU := Lib.hid hu
  clear hbu hn0 hFF
  clear hbox hsz hu
  go_enter Try.func17, Try.ntmps17
  go_wp2
  rw [← HU.out]
  go_loopw [3, 8] (fun o i wr => ∃ (k : Nat) (Ao : Option Addr) (co : Nat), k ≤ n ∧ i = .int .i64 (k : Int) ∧ o = .slice Ao (posL F k).length co ∧
    wr.ownsRow (w.heap.size + 1) 3 1 (.slice Ao (posL F k).length co) (posL F k).length (intsL (natsI (posL F k))) ∧ Below (w.heap.size + 1) u wr) (fun _ i _ => n - (intOf i).toNat)
  case atStart => exact ⟨0, none, 0, Nat.zero_le _, rfl, rfl, World.ownsRow_nil u _ _ 1, Below.refl _ _⟩
  case round =>
    obtain ⟨k, Ao, co, hk, rfl, rfl, hown, hbw⟩ := hrel
    have hbw0 : Below w.heap.size w wr := HBU.out.trans (hbw.mono (Nat.le_succ _))
    by_cases hlt : k < n
    · have hlti : (k : Int) < (n : Int) := by omega
      obtain ⟨b, o, rfl, hbl, hc⟩ := (HR.out.below hbw0 (Nat.le_refl _)).at (k := k) (by rw [← HN.out]; exact hlt)
      have hcell := hc k (by rw [← HN.out]; exact hlt)
      obtain ⟨x, hx⟩ : ∃ x, x = l.getD k 0 := ⟨_, rfl⟩
      rw [← hx] at hcell
      have hxb := HBD.out k (by rw [← HN.out]; exact hlt)
      rw [← hx] at hxb
      have hfk : F k = x.toNat := by rw [HFF.out]; unfold freqN; rw [← hx]
      have hple : (posL F k).length ≤ n := by rw [pos_length]; exact Nat.le_trans (nI_le F k) hk
      clear hc hx hbw0
      by_cases g : 0 < x
      · have HE := Lib.hid (show posL F (k + 1) = posL F k ++ [k] by simp only [posL]; rw [if_pos (by omega)])
        obtain ⟨Aa, ca, wa, r1, o1, b1⟩ := run_one wr (w.heap.size + 1) Ao _ co _ hown (k : Int) (by omega) (by have h := hbw.size; rw [HSZ.out] at h; exact h)
        have R1 := Lib.hid r1; have HB1 := Lib.hid (hbw.trans (b1.mono (Nat.le_refl _)))
        have O1 := Lib.hid o1
        clear hown hbw hfk r1 o1 b1
        obtain ⟨L, hL⟩ : ∃ L, L = posL F k := ⟨_, rfl⟩
        rw [← hL] at HE R1 O1 hple ⊢
        clear hL
        go_wp2_with (at_builtin; refine wpList_append_run rfl (.tmp 15) (.tmp 17) 23 rfl (.slice Ao L.length co) (.slice (some ⟨wr.heap.size, 0, none⟩) 1 1) (.slice Aa (L.length + 1) ca) wa rfl rfl R1.out ?_)
        go_roundw
        case rel =>
          have e : (L ++ [k]).length = L.length + 1 := by simp
          have e2 : natsI (L ++ [k]) = natsI L ++ [(k : Int)] := by simp [natsI]
          refine ⟨k + 1, Aa, ca, by omega, by go_num, by rw [HE.out, e], ?_, HB1.out⟩
          rw [HE.out, e, e2]
          exact O1.out
        case measure => simp [intOf]; omega
      · have HE := Lib.hid (show posL F (k + 1) = posL F k by simp only [posL]; rw [if_neg (by omega)])
        have HO := Lib.hid hown; have HB1 := Lib.hid hbw
        clear hown hbw hfk
        go_wp2
        go_roundw
        case rel =>
          refine ⟨k + 1, Ao, co, by omega, by go_num, by rw [HE.out], ?_, HB1.out⟩
          rw [HE.out]; exact HO.out
        case measure => simp [intOf]; omega
    · obtain rfl : k = n := by omega
      have hlti : ¬ (k : Int) < (k : Int) := by omega
      have HB1 := Lib.hid hbw; have HB0 := Lib.hid hbw0
      have hpl : (posL F k).length = m := (pos_length F k).trans HM.out.symm
      by_cases h0 : m = 0
      · subst h0
        have hL0 : posL F k = [] := List.length_eq_zero_iff.1 hpl
        have hI0 : I = [] := List.length_eq_zero_iff.1 (by rw [HI.out, items_length]; exact HM.out.symm)
        subst hI0
        rw [hL0]
        have hs := sort_none wr Ao co (.func (.func 25) #[] #[.pointer (some ⟨w.heap.size, 0, none⟩)])
        have HS := Lib.hid hs
        clear hown hbw hbw0 hpl hL0 hs
        simp only [List.length_nil]
        go_wp2_with (go_at_call 24; refine HS.out.mono ?_; rintro e w1 ⟨rfl, rfl⟩)
        go_ret
        exact ⟨Ao, co, rfl, HB0.out, SrcL.none_ _ _ _ _⟩
      · rw [hpl] at hown ⊢
        obtain ⟨g, rfl, hg, hrow⟩ := RowZ.of_own hown (by omega)
        have hmn : m ≤ k := by rw [HM.out]; exact nI_le F k
        have hC : CmpF wr w.heap.size g l := ⟨by omega, A, c, by rw [hbw.cell (p := ⟨w.heap.size, 0, none⟩) (Nat.lt_succ_self _), HBX.out, HN.out], ((HR.out.below hbw0 (Nat.le_refl _)).more (by omega))⟩
        have hs := sort_any wr g m co _ hrow w.heap.size l hC HF.out
          (fun t ht => by
            have hmem : (posL F k).getD t 0 ∈ posL F k := by rw [List.getD_eq_getElem?_getD, List.getElem?_eq_getElem (show t < (posL F k).length by omega)]; exact List.getElem_mem _
            have := ((pos_mem F _ k).1 hmem).1
            rw [← HN.out]; exact this)
          (fun i j hij hj _ => pos_up F k i j hij (by omega)) (by omega)
        have HS := Lib.hid hs; have hg2 := Lib.hid hg
        rw [← HFF.out] at HS
        clear hown hbw hbw0 hpl hs hC hrow hg
        go_wp2_with (go_at_call 24; refine HS.out.mono ?_; rintro e w1 ⟨rfl, hb1, f', hr1, hs1, ho1⟩; have HB2 := Lib.hid hb1; have HR1 := Lib.hid hr1; have HS1 := Lib.hid hs1; have HO1 := Lib.hid ho1; clear hb1 hr1 hs1 ho1)
        go_ret
        exact ⟨_, co, rfl, HB0.out.trans (HB2.out.mono (Nat.le_trans (Nat.le_succ _) hg2.out)), HR1.out.rdI ((sorted_items HM.out HS1.out HO1.out).trans HI.out.symm)⟩
end Go.Proofs.Ytgppikhfkikknaa
