/-
  Layer 4 (build): the laws' own cost.
-/
import Derived.Test.YtgppikhfkikknaaBuildAlv
namespace Go.Proofs.Ytgppikhfkikknaa
open Go.RowKit
theorem cost_bd {F f : Nat → Nat} {n : Nat} (h : ∀ i, i < n → F i ≤ 1073741824 ∧ f i ≤ 255) : costN F f n ≤ n * 273804165120 := by
  induction n with
  | zero => exact Nat.zero_le _
  | succ n ih =>
    have h1 := ih (fun i hi => h i (by omega))
    have h2 := h n (by omega)
    have h3 : F n * f n ≤ 1073741824 * 255 := Nat.mul_le_mul h2.1 h2.2
    have e : costN F f (n + 1) = costN F f n + F n * f n := rfl
    rw [e, Nat.add_mul]; omega
set_option maxRecDepth 100000 in
set_option maxHeartbeats 4000000 in
theorem cost_any (w : World) (B : Nat) (A : Option Addr) (c : Nat) (l : List Int) (N : Nat) (hN : N = l.length) (hr : RdI w B A l) (Ax : Option Addr) (cx : Nat) (f : Nat → Nat) (hx : RdB w B Ax N f) (hl : N ≤ 400) (hb : ∀ j, j < l.length → 0 ≤ l.getD j 0 ∧ l.getD j 0 ≤ 1073741824) :
    Calls Try.prog 15 #[.slice A N c, .slice Ax N cx] w fun e w' => e = .returned (.int .i64 (costN (freqN l) f N : Nat)) ∧ ∃ q, w' = w.drewN q := by
  have HR := Lib.hid hr; have HX := Lib.hid hx; have HBD := Lib.hid hb; have HN := Lib.hid hN
  clear hr hx hb hN
  go_enter Try.func15, Try.ntmps15
  go_wp2
  go_loopw [5, 6] (fun n i wr => ∃ k : Nat, k ≤ N ∧ i = .int .i64 k ∧ n = .int .i64 (costN (freqN l) f k : Nat) ∧ ∃ q, wr = w.drewN q) (fun _ i _ => N - (intOf i).toNat)
  case atStart => exact ⟨0, Nat.zero_le _, rfl, rfl, 0, rfl⟩
  case round =>
    obtain ⟨k, hk, rfl, rfl, d, rfl⟩ := hrel
    by_cases hlt : k < N
    · obtain ⟨b, o, rfl, _, hc⟩ := HR.out.at (k := k) (by rw [← HN.out]; exact hlt)
      obtain ⟨b2, o2, rfl, _, hc2⟩ := HX.out.2 (by omega)
      have c1 : (w.drewN d).cell? _ = _ := hc k (by rw [← HN.out]; exact hlt)
      have c2 : (w.drewN d).cell? _ = _ := hc2 k hlt
      obtain ⟨V, hV⟩ : ∃ V, V = w.drewN d := ⟨_, rfl⟩
      rw [← hV] at c1 c2 ⊢
      have HV := Lib.hid hV
      clear hV
      have hbk := HBD.out k (by rw [← HN.out]; exact hlt)
      have h8 := HX.out.1 k
      have hcb := cost_bd (F := freqN l) (f := f) (n := k) (fun i hi => by
        have h1 := HBD.out i (by rw [← HN.out]; omega)
        have h2 := HX.out.1 i
        have e : freqN l i = (l.getD i 0).toNat := rfl
        omega)
      have hs : costN (freqN l) f (k + 1) = costN (freqN l) f k + freqN l k * f k := rfl
      have hf : freqN l k = (l.getD k 0).toNat := rfl
      obtain ⟨x, hxx⟩ : ∃ x : Nat, l.getD k 0 = (x : Int) := ⟨(l.getD k 0).toNat, by omega⟩
      rw [hxx] at c1 hbk hf
      rw [Int.toNat_natCast] at hf
      rw [hf] at hs
      obtain ⟨y, hy⟩ : ∃ y, y = f k := ⟨_, rfl⟩
      rw [← hy] at c2 h8 hs
      obtain ⟨m, hm⟩ : ∃ m, m = costN (freqN l) f k := ⟨_, rfl⟩
      rw [← hm] at hcb hs ⊢
      obtain ⟨p, hp⟩ : ∃ p, p = x * y := ⟨_, rfl⟩
      have hp2 : p ≤ 273804165120 := by rw [hp]; exact Nat.le_trans (Nat.mul_le_mul (show x ≤ 1073741824 by omega) (show y ≤ 255 by omega)) (by omega)
      have hpi : (x : Int) * (y : Int) = (p : Int) := by rw [hp, Int.natCast_mul]
      rw [← hp] at hs
      have hcb2 : m ≤ 400 * 273804165120 := Nat.le_trans hcb (Nat.mul_le_mul_right _ (by omega))
      have HS := Lib.hid hs
      clear hs hf hxx hy hm hp hc hc2 hcb
      go_wp2
      go_quiet (fail)
      go_wp2
      go_roundw
      case rel => exact ⟨k + 1, by omega, by go_num, val_int (by rw [HS.out]; omega), d + nq, by rw [HV.out, World.drewN_drewN]⟩
      case measure => simp [intOf]; omega
    · obtain rfl : N = k := by omega
      clear hlt hk
      go_wp2
      go_ret
      exact ⟨rfl, d, rfl⟩
end Go.Proofs.Ytgppikhfkikknaa
