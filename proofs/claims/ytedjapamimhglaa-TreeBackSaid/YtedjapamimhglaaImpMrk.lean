/-
  Layer 5 (tree): what the program's mark tells of a row of symbols.
-/
import Derived.Test.YtedjapamimhglaaTreeLen
namespace Go.Proofs.Ytedjapamimhglaa
open Go.RowKit
/-- The lengths when some symbols, rising and free, get one length. -/
def mkG (u : Nat → Nat) (k : Nat) (last : Int) : List Int → Option (Nat → Nat)
  | [] => some u
  | x :: xs => if x ≤ last ∨ 320 ≤ x ∨ u x.toNat ≠ 0 then none else mkG (upd u x.toNat k) k x xs
/-- An array of bytes of the call's own. -/
def RowA (w : World) (g n : Nat) (f : Nat → Nat) : Prop := ∃ (cur : Array Value) (t : TypeId), w.heap[g]? = some (.cells cur t (0, 0)) ∧ ∀ j, j < n → cur[j]? = some (.int .u8 (f j : Int))
theorem RowA.lt {w : World} {g n : Nat} {f : Nat → Nat} (h : RowA w g n f) : g < w.heap.size := by
  obtain ⟨cur, t, h, _⟩ := h; exact (Array.getElem?_eq_some_iff.1 h).1
theorem RowA.cell {w : World} {g n : Nat} {f : Nat → Nat} (h : RowA w g n f) {j : Nat} (hj : j < n) : w.cell? ⟨g, j, none⟩ = some (.int .u8 (f j : Int)) := by
  obtain ⟨cur, t, h, hc⟩ := h
  rw [cell_of_row w g j _ _ (0, 0) h]; exact hc j hj
theorem RowA.frozen {w : World} {g n : Nat} {f : Nat → Nat} (h : RowA w g n f) (j : Nat) : w.frozen? ⟨g, j, none⟩ = false := by
  obtain ⟨cur, t, h, _⟩ := h; exact frozen_of_row w g j _ _ h
theorem RowA.set {w : World} {g n : Nat} {f : Nat → Nat} (h : RowA w g n f) (i x : Nat) : RowA (w.setCell ⟨g, i, none⟩ (.int .u8 (x : Int))) g n (upd f i x) := by
  obtain ⟨cur, t, h, hc⟩ := h
  refine ⟨cur.setIfInBounds i (.int .u8 (x : Int)), t, heap_setCell_same w g i _ _ _ h, fun j hj => ?_⟩
  have h1 := hc j hj
  have hs : j < cur.size := (Array.getElem?_eq_some_iff.1 h1).1
  rw [Array.getElem?_setIfInBounds]
  unfold upd
  by_cases e : j = i
  · subst e; rw [if_pos rfl, if_pos hs, if_pos rfl]
  · rw [if_neg (fun g => e g.symm), if_neg e]; exact h1
theorem RowA.below {w w' : World} {g n B : Nat} {f : Nat → Nat} (h : RowA w g n f) (hb : Below B w w') (hg : g < B) : RowA w' g n f := by
  obtain ⟨cur, t, h, hc⟩ := h; exact ⟨cur, t, (hb.block g hg).trans h, hc⟩
theorem RowA.rd {w : World} {g n : Nat} {f : Nat → Nat} (h : RowA w g n f) (hf : ∀ j, f j < 256) : RdB w w.heap.size (some ⟨g, 0, none⟩) n f :=
  ⟨hf, fun _ => ⟨g, 0, rfl, h.lt, fun j hj => by rw [Nat.zero_add]; exact h.cell hj⟩⟩
def MkOut (g : Nat) (w : World) (o : Option (Nat → Nat)) (e : Ending) (w' : World) : Prop :=
  e = .returned (.bool o.isSome) ∧ (∀ G, o = some G → RowA w' g 320 G ∧ ∀ j, G j < 256) ∧ Below g w w'
theorem mkOut_none {g : Nat} {w w' : World} {o : Option (Nat → Nat)} (h : o = none) (hb : Below g w w') : MkOut g w o (.returned (.bool false)) w' := by
  subst h; exact ⟨rfl, (fun _ h => by cases h), hb⟩
/-- Only the block g turned. -/
def Only (g : Nat) (w w' : World) : Prop := ∀ b, b ≠ g → w'.heap[b]? = w.heap[b]?
theorem drop_at (s : List Int) {j : Nat} (h : j < s.length) : s.drop j = s.getD j 0 :: s.drop (j + 1) := by
  rw [List.drop_eq_getElem_cons h, List.getD_eq_getElem?_getD, List.getElem?_eq_getElem h]; rfl
set_option maxRecDepth 100000 in
set_option maxHeartbeats 2000000 in
theorem mark_any (w : World) (g : Nat) (u : Nat → Nat) (A : Option Addr) (cap : Nat) (s : List Int) (k : Nat) (hk : k < 16) (hrow : RowA w g 320 u) (hu : ∀ j, u j < 256) (hs : RdI w g A s) (hlen : s.length ≤ 1000000) :
    Calls Try.prog 46 #[.slice (some ⟨g, 0, none⟩) 320 320, .slice A s.length cap, .int .u8 (k : Int)] w fun e w' => MkOut g w (mkG u k (-1) s) e w' ∧ Only g w w' := by
  obtain ⟨n, hn⟩ : ∃ n, n = s.length := ⟨_, rfl⟩
  rw [← hn] at hlen ⊢
  have HN := Lib.hid hn; have HROW := Lib.hid hrow; have HU := Lib.hid hu; have HS := Lib.hid hs
  clear hn hrow hu hs
  go_enter Try.func46, Try.ntmps46
  go_wp2
  go_loopw [7, 12] (fun l i wr => ∃ (j : Nat) (la : Int) (v : Nat → Nat), j ≤ n ∧ i = .int .i64 j ∧ l = .int .i64 la ∧ -1 ≤ la ∧ la < 320 ∧ RowA wr g 320 v ∧ (∀ j, v j < 256) ∧ Hid (mkG u k (-1) s = mkG v k la (s.drop j)) ∧ Below g w wr ∧ Only g w wr) (fun _ i _ => n - (intOf i).toNat)
  case atStart => exact ⟨0, -1, u, Nat.zero_le _, rfl, rfl, by omega, by omega, HROW.out, HU.out, Lib.hid rfl, Below.refl _ _, fun _ _ => rfl⟩
  case round =>
    obtain ⟨j, la, v, hj, rfl, rfl, hl1, hl2, hrow, hv, hm, hb, ho⟩ := hrel
    by_cases hlt : j < n
    · have hda := drop_at s (j := j) (by rw [← HN.out]; exact hlt)
      obtain ⟨b, o, rfl, _, hc⟩ := (HS.out.below hb (Nat.le_refl _)).at (k := j) (by rw [← HN.out]; exact hlt)
      have e1 := hc j (by rw [← HN.out]; exact hlt)
      obtain ⟨x, hx⟩ : ∃ x, x = s.getD j 0 := ⟨_, rfl⟩
      rw [← hx] at e1 hda
      have HM := Lib.hid (by rw [hm.out, hda] : mkG u k (-1) s = mkG v k la (x :: s.drop (j + 1)))
      have HR := Lib.hid hrow; have HV := Lib.hid hv; have HB := Lib.hid hb; have HO := Lib.hid ho
      clear hrow hv hm hb ho hda hc hx
      by_cases h1 : x ≤ la
      · have hno : mkG u k (-1) s = none := by rw [HM.out]; simp only [mkG]; rw [if_pos (.inl h1)]
        have hd : decide (x ≤ la) = true := by simpa using h1
        have HNO := Lib.hid hno
        clear HM hno
        go_wp2
        go_ret
        exact ⟨mkOut_none HNO.out HB.out, HO.out⟩
      · have hd : decide (x ≤ la) = false := by simpa using h1
        obtain ⟨X, rfl⟩ := Int.eq_ofNat_of_zero_le (show 0 ≤ x by omega)
        by_cases h2 : 320 ≤ X
        · have hno : mkG u k (-1) s = none := by rw [HM.out]; simp only [mkG]; rw [if_pos (.inr (.inl (by omega)))]
          have hd2 : decide ((320 : Int) ≤ (X : Int)) = true := by simp; omega
          have hd3 : decide (320 ≤ X) = true := by simpa using h2
          have HNO := Lib.hid hno
          clear HM hno
          go_wp2
          go_ret
          exact ⟨mkOut_none HNO.out HB.out, HO.out⟩
        · have hX : X < 320 := by omega
          have hd2 : decide ((320 : Int) ≤ (X : Int)) = false := by simp; omega
          have hd3 : decide (320 ≤ X) = false := by simpa using hX
          have r1 := HR.out.cell hX
          have r2 := HR.out.frozen X
          have hz16 := HV.out X
          obtain ⟨z, hz⟩ : ∃ z, z = v X := ⟨_, rfl⟩
          rw [← hz] at r1 hz16
          have HZ := Lib.hid hz
          clear hz
          by_cases hz0 : z = 0
          · have hon : mkG u k (-1) s = mkG (upd v X k) k (X : Int) (s.drop (j + 1)) := by
              rw [HM.out]; simp only [mkG]
              rw [if_neg (by rw [Int.toNat_natCast, ← HZ.out]; omega), Int.toNat_natCast]
            have HON := Lib.hid hon
            subst hz0
            clear HM hon
            go_wp2
            go_roundw
            case rel =>
              refine ⟨j + 1, X, upd v X k, by omega, by go_num, rfl, by omega, by omega, HR.out.set X k, fun i => ?_, HON, HB.out.setCell (by simp) _, fun b hb => (Below.heap_setCell wr _ _ b hb).trans (HO.out b hb)⟩
              unfold upd; split
              · omega
              · exact HV.out i
            case measure => simp [intOf]; omega
          · have hno : mkG u k (-1) s = none := by rw [HM.out]; simp only [mkG]; rw [if_pos (.inr (.inr (by rw [Int.toNat_natCast, ← HZ.out]; exact hz0)))]
            have hzn : ((z : Int) != 0) = true := by simp; omega
            have hzn2 : (z != 0) = true := by simpa using hz0
            have HNO := Lib.hid hno
            clear HM hno
            go_wp2
            go_ret
            exact ⟨mkOut_none HNO.out HB.out, HO.out⟩
    · obtain rfl : j = n := by omega
      have hon : mkG u k (-1) s = some v := by rw [hm.out, HN.out, List.drop_length]; rfl
      have HR := Lib.hid hrow; have HV := Lib.hid hv; have HB := Lib.hid hb; have HO := Lib.hid ho
      have HON := Lib.hid hon
      clear hrow hv hb hm ho hon
      go_wp2
      go_ret
      refine ⟨⟨?_, fun G h => ?_, HB.out⟩, HO.out⟩
      · rw [HON.out]; rfl
      · rw [HON.out] at h; cases h; exact ⟨HR.out, HV.out⟩
end Go.Proofs.Ytedjapamimhglaa
