/-
  Layer 7 (match): how many bytes match: the program's and the document's own.
-/
import Derived.Test.YtihfcjehpmiolaaConcat
import Derived.Test.YtihfcjehpmiolaaMatNum
import Derived.Deep.DeepCutAuto
import Derived.BigRegion
import Derived.BigQuiet
import Derived.Lib.SmallJoins
namespace Go.Proofs.Ytihfcjehpmiolaa
open Go.RowKit Go.ChangeShapes Go.WideShapes Go.ChangeAt Go.Joins
theorem samN_go {f : Nat → Nat} {L a p k : Nat} (hk : k < 258) (h : a + k < L) (he : f (p + k) = f (a + k)) : samN f L a p (258 - k) k = samN f L a p (258 - (k + 1)) (k + 1) := by
  rw [show 258 - k = (258 - (k + 1)) + 1 by omega, samN, if_pos ⟨h, he⟩]
theorem samN_stop {f : Nat → Nat} {L a p k : Nat} (h : 258 ≤ k ∨ L ≤ a + k ∨ f (p + k) ≠ f (a + k)) : samN f L a p (258 - k) k = k := by
  rcases Nat.lt_or_ge k 258 with hk | hk
  · rw [show 258 - k = (258 - (k + 1)) + 1 by omega, samN, if_neg (by omega)]
  · rw [show 258 - k = 0 by omega, samN]
/-- A world that differs by draws alone. -/
def Drw (w u : World) : Prop := ∃ t, u = w.drewN t
theorem Drw.refl (w : World) : Drw w w := ⟨0, rfl⟩
theorem Drw.more {w u : World} (h : Drw w u) (n : Nat) : Drw w (u.drewN n) := by
  obtain ⟨t, rfl⟩ := h
  exact ⟨t + n, by rw [World.drewN_drewN]⟩
theorem Drw.rd {w u : World} (h : Drw w u) {B n : Nat} {A : Option Addr} {f : Nat → Nat} (hr : RdB w B A n f) : RdB u B A n f := by
  obtain ⟨t, rfl⟩ := h
  exact hr
theorem Drw.below {w u : World} (h : Drw w u) {g : Nat} {a : World} (hb : Below g a w) : Below g a u := by
  obtain ⟨t, rfl⟩ := h
  exact ⟨hb.os, hb.tape, hb.output, hb.size, hb.block⟩
set_option maxRecDepth 100000 in
set_option maxHeartbeats 1000000 in
theorem most_any (w : World) (A : Option Addr) (n c a : Nat) (ha : a ≤ n) (hn : n ≤ 1000000) :
    Calls Try.prog 39 #[.slice A n c, .int .i64 (a : Int)] w fun e w' => e = .returned (.int .i64 ((min (n - a) 258 : Nat) : Int)) ∧ w = w' := by
  obtain ⟨d, rfl⟩ : ∃ d, n = a + d := ⟨n - a, by omega⟩
  have e1 : (((a + d : Nat) : Int)) - (a : Int) = (d : Int) := by omega
  have e2 : a + d - a = d := by omega
  rw [e2]
  go_enter Try.func39, Try.ntmps39
  go_wp2
  all_goals (go_ret; exact ⟨ret_int (by omega), rfl⟩)
set_option maxRecDepth 100000 in
set_option maxHeartbeats 4000000 in
theorem same7_any (w : World) (B : Nat) (A : Option Addr) (n c : Nat) (f : Nat → Nat) (a p : Nat) (hr : RdB w B A n f) (hp : p < a) (ha : a ≤ n) (hn : n ≤ 1000000) :
    Calls Try.prog 38 #[.slice A n c, .int .i64 (a : Int), .int .i64 (p : Int)] w fun e w' => e = .returned (.int .i64 ((matN f n a p : Nat) : Int)) ∧ Drw w w' := by
  have HR := Lib.hid hr
  obtain ⟨M, hM⟩ : ∃ M, M = min (n - a) 258 := ⟨_, rfl⟩
  have hmost : ∀ u, Calls Try.prog 39 #[.slice A n c, .int .i64 (a : Int)] u fun e w' => e = .returned (.int .i64 (M : Int)) ∧ u = w' := fun u => by rw [hM]; exact most_any u A n c a ha hn
  have HM := Lib.hid hM; have HMO := Lib.hid hmost
  clear hr hM hmost
  go_enter Try.func38, Try.ntmps38
  go_wp2
  go_loopw [7] (fun kv wr => ∃ k : Nat, k ≤ M ∧ kv = .int .i64 (k : Int) ∧ Hid (samN f n a p (258 - k) k = matN f n a p) ∧ Hid (Drw w wr)) (fun kv _ => M - (intOf kv).toNat)
  case atStart => exact ⟨0, Nat.zero_le _, rfl, Lib.hid rfl, Lib.hid (Drw.refl w)⟩
  case round =>
    obtain ⟨k, hk, rfl, HK, HD⟩ := hrel
    by_cases hlt : k < M
    · have hlti : (k : Int) < (M : Int) := by omega
      obtain ⟨b, o, rfl, _, hc⟩ := (HD.out.rd HR.out).2 (by omega)
      have hMM := HM.out
      have c1 := hc (p + k) (by omega)
      have c2 := hc (a + k) (by omega)
      have e1 : (p : Int) + (k : Int) = ((p + k : Nat) : Int) := by omega
      have e2 : (a : Int) + (k : Int) = ((a + k : Nat) : Int) := by omega
      obtain ⟨P, hP⟩ : ∃ P, P = p + k := ⟨_, rfl⟩
      obtain ⟨Q, hQ⟩ : ∃ Q, Q = a + k := ⟨_, rfl⟩
      have hPn : (P : Int) < (n : Int) := by omega
      have hQn : (Q : Int) < (n : Int) := by omega
      have hPn' : P < n := by omega
      have hQn' : Q < n := by omega
      have hP0 : (0 : Int) ≤ (P : Int) := by omega
      have hQ0 : (0 : Int) ≤ (Q : Int) := by omega
      rw [← hP] at c1 e1
      rw [← hQ] at c2 e2
      clear hc
      by_cases he : f P = f Q
      · have hee : ((f P : Int) == (f Q : Int)) = true := by simp [he]
        have hst := samN_go (f := f) (L := n) (a := a) (p := p) (k := k) (by omega) (by omega) (by rw [← hP, ← hQ]; exact he)
        have HST := Lib.hid (hst.symm.trans HK.out)
        clear hst hMM hP hQ he
        go_wp2
        go_quiet ((go_at_call 39; exact Calls.quiet_of_same ((HMO.out _).mono fun _ _ ⟨a, b⟩ => ⟨a, b.symm⟩)))
        go_wp2
        go_roundw
        case rel => exact ⟨k + 1, by omega, by go_num, HST, Lib.hid (HD.out.more _)⟩
        case measure => simp [intOf]; omega
      · have hee : ((f P : Int) == (f Q : Int)) = false := by simp; omega
        have hst := samN_stop (f := f) (L := n) (a := a) (p := p) (k := k) (.inr (.inr (by rw [← hP, ← hQ]; exact he)))
        have HST := Lib.hid (hst.symm.trans HK.out)
        clear hst hMM hP hQ he
        go_wp2
        go_quiet ((go_at_call 39; exact Calls.quiet_of_same ((HMO.out _).mono fun _ _ ⟨a, b⟩ => ⟨a, b.symm⟩)))
        go_wp2
        go_ret
        exact ⟨(by rw [← HST.out]; rfl), HD.out.more _⟩
    · obtain rfl : k = M := by omega
      have hlti : decide ((k : Int) < (k : Int)) = false := by simp
      have hlti2 : ¬ (k : Int) < (k : Int) := by simp
      have hMM := HM.out
      have hst := samN_stop (f := f) (L := n) (a := a) (p := p) (k := k) (by omega)
      have HST := Lib.hid (hst.symm.trans HK.out)
      clear hst hMM
      go_wp2
      go_quiet ((go_at_call 39; exact Calls.quiet_of_same ((HMO.out _).mono fun _ _ ⟨a, b⟩ => ⟨a, b.symm⟩)))
      go_wp2
      go_ret
      exact ⟨(by rw [← HST.out]; rfl), HD.out.more _⟩
set_option maxRecDepth 100000 in
set_option maxHeartbeats 4000000 in
theorem rsame7_any (w : World) (B : Nat) (A : Option Addr) (n c : Nat) (f : Nat → Nat) (a p : Nat) (hr : RdB w B A n f) (hp : p < a) (ha : a ≤ n) (hn : n ≤ 1000000) :
    Calls Try.prog 34 #[.slice A n c, .int .i64 (a : Int), .int .i64 (p : Int)] w fun e w' => e = .returned (.int .i64 ((matN f n a p : Nat) : Int)) ∧ Drw w w' := by
  have HR := Lib.hid hr
  clear hr
  go_enter Try.func34, Try.ntmps34
  go_wp2
  go_loopw [7] (fun kv wr => ∃ k : Nat, k ≤ 258 ∧ a + k ≤ n ∧ kv = .int .i64 (k : Int) ∧ Hid (samN f n a p (258 - k) k = matN f n a p) ∧ Hid (Drw w wr)) (fun kv _ => 258 - (intOf kv).toNat)
  case atStart => exact ⟨0, Nat.zero_le _, ha, rfl, Lib.hid rfl, Lib.hid (Drw.refl w)⟩
  case round =>
    obtain ⟨k, hk, hkn, rfl, HK, HD⟩ := hrel
    have e2 : (a : Int) + (k : Int) = ((a + k : Nat) : Int) := by omega
    by_cases hlt : k < 258
    · have hlti : decide ((k : Int) < 258) = true := by simp; omega
      by_cases hlt2 : a + k < n
      · obtain ⟨b, o, rfl, _, hc⟩ := (HD.out.rd HR.out).2 (by omega)
        have c1 := hc (p + k) (by omega)
        have c2 := hc (a + k) (by omega)
        have e1 : (p : Int) + (k : Int) = ((p + k : Nat) : Int) := by omega
        obtain ⟨P, hP⟩ : ∃ P, P = p + k := ⟨_, rfl⟩
        obtain ⟨Q, hQ⟩ : ∃ Q, Q = a + k := ⟨_, rfl⟩
        have hPn : (P : Int) < (n : Int) := by omega
        have hQn : (Q : Int) < (n : Int) := by omega
        have hQd : decide ((Q : Int) < (n : Int)) = true := by simp; omega
        have hPn' : P < n := by omega
        have hQn' : Q < n := by omega
        have hP0 : (0 : Int) ≤ (P : Int) := by omega
        have hQ0 : (0 : Int) ≤ (Q : Int) := by omega
        rw [← hP] at c1 e1
        rw [← hQ] at c2 e2
        clear hc
        by_cases he : f P = f Q
        · have hee : ((f P : Int) == (f Q : Int)) = true := by simp [he]
          have hst := samN_go (f := f) (L := n) (a := a) (p := p) (k := k) (by omega) (by omega) (by rw [← hP, ← hQ]; exact he)
          have HST := Lib.hid (hst.symm.trans HK.out)
          have hfin : a + (k + 1) ≤ n := by omega
          clear hst hP hQ he
          go_wp2
          go_quiet (fail)
          go_wp2
          go_roundw
          case rel => exact ⟨k + 1, by omega, hfin, by go_num, HST, Lib.hid (HD.out.more _)⟩
          case measure => simp [intOf]; omega
        · have hee : ((f P : Int) == (f Q : Int)) = false := by simp; omega
          have hst := samN_stop (f := f) (L := n) (a := a) (p := p) (k := k) (.inr (.inr (by rw [← hP, ← hQ]; exact he)))
          have HST := Lib.hid (hst.symm.trans HK.out)
          clear hst hP hQ he
          go_wp2
          go_quiet (fail)
          go_wp2
          go_ret
          exact ⟨(by rw [← HST.out]; rfl), HD.out.more _⟩
      · obtain ⟨Q, hQ⟩ : ∃ Q, Q = a + k := ⟨_, rfl⟩
        have hQd : decide ((Q : Int) < (n : Int)) = false := by simp; omega
        have hQb : Q ≤ 1000258 := by omega
        have hQ0 : (0 : Int) ≤ (Q : Int) := by omega
        have hQw : IntKind.i64.wrap (Q : Int) = (Q : Int) := by rw [IntKind.wrap_i64]; omega
        have hQe : decide (Q < n) = false := by simp; omega
        have hst := samN_stop (f := f) (L := n) (a := a) (p := p) (k := k) (by omega)
        have HST := Lib.hid (hst.symm.trans HK.out)
        rw [← hQ] at e2
        clear hst hQ
        go_wp2
        go_quiet (fail)
        go_wp2
        go_ret
        exact ⟨(by rw [← HST.out]; rfl), HD.out.more _⟩
    · obtain rfl : k = 258 := by omega
      have hst := samN_stop (f := f) (L := n) (a := a) (p := p) (k := 258) (by omega)
      have HST := Lib.hid (hst.symm.trans HK.out)
      have hlti : decide (((258 : Nat) : Int) < 258) = false := by decide
      clear hst
      go_wp2
      go_quiet (fail)
      go_wp2
      go_ret
      exact ⟨(by rw [← HST.out]; rfl), HD.out.more _⟩
end Go.Proofs.Ytihfcjehpmiolaa
