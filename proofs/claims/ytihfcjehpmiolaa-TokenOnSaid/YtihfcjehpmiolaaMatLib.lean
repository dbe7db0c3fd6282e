/-
  Layer 7 (match): what the library's LastIndexByte and HasPrefix answer.
-/
import Derived.Test.YtihfcjehpmiolaaMatMem
import Derived.Lib.Bytes
namespace Go.Proofs.Ytihfcjehpmiolaa
open Go.RowKit Go.ChangeShapes Go.WideShapes Go.ChangeAt Go.Joins
theorem strB_same {n : Nat} {f g : Nat → Nat} (h : ∀ j, j < n → f j = g j) : strB n f = strB n g := by
  unfold strB
  rw [List.map_congr_left fun j hj => by rw [h j (List.mem_range.1 hj)]]
theorem strB_inj {n : Nat} {f g : Nat → Nat} (hf : ∀ j, f j < 256) (hg : ∀ j, g j < 256) (h : strB n f = strB n g) : ∀ j, j < n → f j = g j := by
  intro j hj
  have h2 := congrArg (fun b : ByteArray => b.data.toList[j]?) h
  simp [strB, strOfNums, hj] at h2
  have h3 := congrArg UInt8.toNat h2
  simp at h3
  have := hf j; have := hg j
  omega
/-- The last place of a byte, or -1. -/
def lstI (f : Nat → Nat) (x : Nat) : Nat → Int
  | 0 => -1
  | n + 1 => if f n = x then (n : Int) else lstI f x n
theorem lstI_spec (f : Nat → Nat) (x : Nat) : ∀ n, (lstI f x n = -1 ∧ ∀ j, j < n → f j ≠ x) ∨ (∃ m : Nat, lstI f x n = (m : Int) ∧ m < n ∧ f m = x ∧ ∀ j : Nat, m < j → j < n → f j ≠ x)
  | 0 => .inl ⟨rfl, fun j h => by omega⟩
  | n + 1 => by
    by_cases h : f n = x
    · right
      refine ⟨n, ?_, by omega, h, fun j h1 h2 => by omega⟩
      simp only [lstI]; rw [if_pos h]
    · have e : lstI f x (n + 1) = lstI f x n := by simp only [lstI]; rw [if_neg h]
      rw [e]
      rcases lstI_spec f x n with ⟨h1, h2⟩ | ⟨m, h1, h2, h3, h4⟩
      · left
        refine ⟨h1, fun j hj => ?_⟩
        rcases Nat.lt_or_ge j n with q | q
        · exact h2 j q
        · rw [show j = n by omega]; exact h
      · right
        refine ⟨m, h1, by omega, h3, fun j hj hj2 => ?_⟩
        rcases Nat.lt_or_ge j n with q | q
        · exact h4 j hj q
        · rw [show j = n by omega]; exact h
set_option maxRecDepth 100000 in
set_option maxHeartbeats 4000000 in
theorem lastix_any (w : World) (B : Nat) (A : Option Addr) (n c : Nat) (f : Nat → Nat) (x : Nat) (hr : RdB w B A n f) (hn : n ≤ 1000000) :
    Calls Try.prog 43 #[.slice A n c, .int .u8 (x : Int)] w fun e w' => e = .returned (.int .i64 (lstI f x n)) ∧ w' = w := by
  have HR := Lib.hid hr
  clear hr
  go_enter Try.func43, Try.ntmps43
  go_wp2
  go_loopw [5] (fun kv wr => ∃ m : Nat, m ≤ n ∧ kv = .int .i64 ((m : Int) - 1) ∧ Hid (lstI f x n = lstI f x m) ∧ wr = w) (fun kv _ => (intOf kv + 1).toNat)
  case atStart => exact ⟨n, Nat.le_refl _, by go_num, Lib.hid rfl, rfl⟩
  case round =>
    obtain ⟨m, hm, rfl, HK, rfl⟩ := hrel
    rcases Nat.eq_zero_or_pos m with h0 | h0
    · subst h0
      have HST := Lib.hid (HK.out.trans (show lstI f x 0 = -1 from rfl))
      go_wp2
      go_ret
      exact ⟨(by rw [HST.out]; rfl), rfl⟩
    · obtain ⟨k, rfl⟩ : ∃ k, m = k + 1 := ⟨m - 1, by omega⟩
      obtain ⟨b, o, rfl, _, hc⟩ := HR.out.2 (by omega)
      have c1 := hc k (by omega)
      have e1 : ((k + 1 : Nat) : Int) - 1 = (k : Int) := by omega
      have hk0 : (0 : Int) ≤ (k : Int) := by omega
      have hkn : (k : Int) < (n : Int) := by omega
      rw [e1]
      clear hc e1
      by_cases he : f k = x
      · have hee : ((f k : Int) == (x : Int)) = true := by simp [he]
        have hst : lstI f x (k + 1) = (k : Int) := by simp only [lstI]; rw [if_pos he]
        have HST := Lib.hid (HK.out.trans hst)
        clear hst he
        go_wp2
        go_ret
        exact ⟨(by rw [HST.out]; rfl), rfl⟩
      · have hee : ((f k : Int) == (x : Int)) = false := by simp; omega
        have hst : lstI f x (k + 1) = lstI f x k := by simp only [lstI]; rw [if_neg he]
        have HST := Lib.hid (HK.out.trans hst)
        clear hst he
        go_wp2
        go_roundw
        case rel => exact ⟨k, by omega, rfl, HST, trivial⟩
        case measure => simp [intOf]
set_option maxHeartbeats 1000000 in
theorem lastb_any (w : World) (B : Nat) (A : Option Addr) (n c : Nat) (f : Nat → Nat) (x : Nat) (hr : RdB w B A n f) (hn : n ≤ 1000000) :
    Calls Try.prog 41 #[.slice A n c, .int .u8 (x : Int)] w fun e w' => e = .returned (.int .i64 (lstI f x n)) ∧ w' = w := by
  have HL := Lib.hid (lastix_any w B A n c f x hr hn)
  clear hr
  go_enter Try.func41, Try.ntmps41
  go_wp2_with fail
  refine HL.out.mono ?_
  rintro e w' ⟨rfl, rfl⟩
  go_wp2
  go_ret
  exact ⟨rfl, rfl⟩
set_option maxHeartbeats 1000000 in
theorem equalb_any (w : World) (B : Nat) (A A2 : Option Addr) (n c m c2 : Nat) (f g : Nat → Nat) (hr : RdB w B A n f) (hr2 : RdB w B A2 m g) :
    Calls Try.prog 44 #[.slice A n c, .slice A2 m c2] w fun e w' => e = .returned (.bool ((strB n f).toList == (strB m g).toList)) ∧ w' = w := by
  have s1 := run_str hr c
  have s2 := run_str hr2 c2
  go_enter Try.func44, Try.ntmps44
  go_wp2
  go_ret
  exact ⟨rfl, rfl⟩
theorem strL_yes {n : Nat} {f g : Nat → Nat} (h : ∀ j, j < n → f j = g j) : ((strB n f).toList == (strB n g).toList) = true := by rw [strB_same h]; simp
theorem strL_no {n : Nat} {f g : Nat → Nat} (hf : ∀ j, f j < 256) (hg : ∀ j, g j < 256) (h : ¬ ∀ j, j < n → f j = g j) : ((strB n f).toList == (strB n g).toList) = false := by
  rw [Bool.eq_false_iff]
  intro hh
  refine h (strB_inj hf hg ?_)
  have h2 := eq_of_beq hh
  unfold strB at h2 ⊢
  rw [Lib.strOfNums_toList, Lib.strOfNums_toList] at h2
  apply ByteArray.ext
  apply Array.toList_inj.1
  rw [strOfNums_data, strOfNums_data]
  exact h2
set_option maxRecDepth 100000 in
set_option maxHeartbeats 1000000 in
theorem hasp_any (w : World) (B : Nat) (A A2 : Option Addr) (n c m c2 : Nat) (f g : Nat → Nat) (hr : RdB w B A n f) (hr2 : RdB w B A2 m g) (hnm : m ≤ n) (hnc : n ≤ c) :
    Calls Try.prog 42 #[.slice A n c, .slice A2 m c2] w fun e w' => e = .returned (.bool ((strB m f).toList == (strB m g).toList)) ∧ w' = w := by
  have hrm : RdB w B A m f := ⟨hr.1, fun h => by
    obtain ⟨b, o, h1, h2, h3⟩ := hr.2 (by omega)
    exact ⟨b, o, h1, h2, fun j hj => h3 j (by omega)⟩⟩
  have HL := Lib.hid (fun (c : Nat) => equalb_any w B A A2 m c m c2 f g hrm hr2)
  have hd : decide ((m : Int) ≤ (n : Int)) = true := by simp; omega
  have hd2 : decide (m ≤ n) = true := by simp; omega
  have hi : (m : Int) ≤ (c : Int) := by omega
  clear hr hr2 hrm
  go_enter Try.func42, Try.ntmps42
  go_wp2_with fail
  refine (HL.out _).mono ?_
  rintro e w' ⟨rfl, rfl⟩
  go_wp2
  go_ret
  exact ⟨rfl, rfl⟩
end Go.Proofs.Ytihfcjehpmiolaa
