/-
  Layer 5 (tree): the program's iterator over lengths: it yields the symbols by length, those of one by their number.
-/
import Derived.Test.YtedjapamimhglaaImpNxN
import Derived.Test.YtedjapamimhglaaRange
namespace Go.Proofs.Ytedjapamimhglaa
open Go.RowKit Go.Shelf
attribute [local go_sem] Oper.semAt_some
/-- The blocks of S lie as they lay. -/
def KpB (S : Nat → Prop) (W W' : World) : Prop := ∀ k, S k → W'.heap[k]? = W.heap[k]?
theorem KpB.refl (S : Nat → Prop) (W : World) : KpB S W W := fun _ _ => rfl
theorem KpB.tr {S : Nat → Prop} {A B C : World} (h : KpB S A B) (k : KpB S B C) : KpB S A C := fun i hi => (k i hi).trans (h i hi)
theorem KpB.cell {S : Nat → Prop} {W W' : World} (h : KpB S W W') {p : Addr} (hp : S p.block) : W'.cell? p = W.cell? p := by
  simp only [World.cell?, h _ hp]
theorem RdB.kept {S : Nat → Prop} {w w' : World} {B n : Nat} {A : Option Addr} {f : Nat → Nat} (h : RdB w B A n f) (hk : KpB S w w') (hS : ∀ k, k < B → S k) : RdB w' B A n f := by
  refine ⟨h.1, fun hn => ?_⟩
  obtain ⟨b, o, rfl, hlt, hc⟩ := h.2 hn
  exact ⟨b, o, rfl, hlt, fun j hj => by rw [hk.cell (p := ⟨b, o + j, none⟩) (hS b hlt)]; exact hc j hj⟩
/-- The symbol that is yielded in round j. -/
def symN (f : Nat → Nat) (n j : Nat) : Nat := (symL f n 15).getD j 0
theorem symL_at {f : Nat → Nat} {n k x : Nat} (h0 : 0 < k) (hx : x < tcN f k n) : ∀ M, k ≤ M → (symL f n M).getD (sumC f n (k - 1) + x) 0 = (rowM f k n).getD x 0 ∧ sumC f n (k - 1) + x < (symL f n M).length := by
  have hlen : (rowM f k n).length = tcN f k n := rowM_length f h0 n
  intro M
  induction M with
  | zero => intro h; omega
  | succ M ih =>
    intro h
    simp only [symL]
    rcases Nat.eq_or_lt_of_le h with e | e
    · have e2 : k - 1 = M := by omega
      rw [e2, ← e, List.length_append, symL_length, hlen]
      refine ⟨?_, by omega⟩
      rw [List.getD_eq_getElem?_getD, List.getElem?_append_right (by rw [symL_length]; omega), symL_length, Nat.add_sub_cancel_left, List.getD_eq_getElem?_getD]
    · obtain ⟨i1, i2⟩ := ih (by omega)
      refine ⟨?_, by rw [List.length_append]; omega⟩
      rw [List.getD_eq_getElem?_getD, List.getElem?_append_left i2, ← List.getD_eq_getElem?_getD]
      exact i1
theorem symN_at {f : Nat → Nat} {n k i : Nat} (h0 : 0 < k) (hk : k ≤ 15) (hi : i < n) (hf : f i = k) : symN f n (sumC f n (k - 1) + tcN f k i) = i ∧ sumC f n (k - 1) + tcN f k i < sumC f n 15 := by
  have h := symL_at (x := tcN f k i) h0 (tc_lt f h0 hf hi) 15 hk
  rw [row_at f h0 hf n hi, symL_length] at h
  exact h
def symEnc (f : Nat → Nat) (n j : Nat) : Array Value := #[.int .i64 (symN f n j : Nat), .int .u8 (f (symN f n j) : Nat)]
set_option maxRecDepth 100000 in
set_option maxHeartbeats 4000000 in
theorem byl1_in (F : Fence) (fu : Nat) (h1f : F.fn 45) (hro : F.round = none) (hn : 1 ≤ fu) (l Bs B : Nat) (A : Option Addr) (n cap : Nat) (f : Nat → Nat) (S : Nat → Prop) (hS1 : S Bs) (hS2 : ∀ k, k < B → S k) (hlen : n ≤ 1000) (J : Nat → World → Prop)
    (hY : ∀ j W1, J j W1 → j < sumC f n 15 → YieldAt F (fu - 1) Try.prog l (symEnc f n j) W1 fun e W' => e = .returned (.bool true) ∧ J (j + 1) W' ∧ KpB S W1 W')
    (W : World) (hBs : W.cell? ⟨Bs, 0, none⟩ = some (.slice A n cap)) (hr : RdB W B A n f) (h0 : J 0 W) :
    CallsIn F fu Try.prog 45 #[.func (.yield l) #[] #[], .pointer (some ⟨Bs, 0, none⟩)] W fun e W' => (∃ v, e = .returned v) ∧ J (sumC f n 15) W' := by
  refine callsIn_of_wp Try.func45 rfl h1f ?_ hro
  simp only [Try.ntmps45, List.size_toArray, List.length_cons, List.length_nil, Nat.reduceAdd, Nat.reduceSub, Array.replicate_succ, Array.replicate_zero, List.push_toArray, List.append_toArray, List.nil_append, List.cons_append]
  have HR := Lib.hid hr; have HS := Lib.hid hS2
  clear hr hS2
  gi_wp2
  gi_loopw [3] (fun kv wr => ∃ k : Nat, 1 ≤ k ∧ k ≤ 16 ∧ kv = .int .u8 k ∧ J (sumC f n (k - 1)) wr ∧ KpB S W wr) (fun kv _ => 16 - (intOf kv).toNat)
  case atStart => exact ⟨1, Nat.le_refl _, by omega, rfl, h0, KpB.refl _ _⟩
  case round =>
    obtain ⟨k, hk1, hk, rfl, hJs, hkp⟩ := hrel
    obtain ⟨wo, rfl⟩ : ∃ wo : World, wo = wr := ⟨_, rfl⟩
    by_cases hlt : k < 16
    · have hbx := (hkp.cell (p := ⟨Bs, 0, none⟩) hS1).trans hBs
      have HJS := Lib.hid hJs; have HKP := Lib.hid hkp; have HY := Lib.hid hY; have HBS := Lib.hid hBs
      clear hJs hkp hY hBs
      have hd15 : decide ((k : Int) ≤ 15) = true := by simp; omega
      gi_wp2
      gi_loopw [12] (fun iv wi => ∃ i : Nat, i ≤ n ∧ iv = .int .i64 i ∧ J (sumC f n (k - 1) + tcN f k i) wi ∧ KpB S W wi) (fun iv _ => n - (intOf iv).toNat)
      case atStart => exact ⟨0, Nat.zero_le _, rfl, by show J (_ + 0) _; rw [Nat.add_zero]; exact HJS.out, HKP.out⟩
      case round =>
        obtain ⟨i, hi, rfl, hJ, hkp⟩ := hrel
        by_cases hlt2 : i < n
        · obtain ⟨b, o, rfl, _, hc⟩ := (HR.out.kept hkp HS.out).2 (by omega)
          have hcell := hc i hlt2
          have hf8 := HR.out.1 i
          clear hc
          by_cases he : f i = k
          · have hat := symN_at (f := f) (n := n) (k := k) (i := i) (by omega) (by omega) hlt2 he
            obtain ⟨fn, tmps, assign, body, hy, hR⟩ := HY.out _ _ hJ hat.2
            have hen : symEnc f n (sumC f n (k - 1) + tcN f k i) = #[.int .i64 (i : Int), .int .u8 (k : Int)] := by unfold symEnc; rw [hat.1, he]
            rw [hen] at hy
            have hst := tc_succ f (show 0 < k by omega) he
            have HST := Lib.hid hst; have HK := Lib.hid hkp
            rw [he] at hcell
            clear hat hen hst hkp hJ
            have hkk : ((k : Int) == (k : Int)) = true := by simp
            gi_wp2
            refine hR.mono ?_
            rintro e W3 ⟨rfl, hJ3, hk3⟩
            have HK3 := Lib.hid hk3
            clear hk3
            gi_wp2
            go_roundw
            case rel => exact ⟨i + 1, by omega, by go_num, by rw [HST.out]; exact hJ3, HK.out.tr HK3.out⟩
            case measure => simp [intOf]; omega
          · have hno : ((f i : Int) == (k : Int)) = false := by simp; omega
            have hst : tcN f k (i + 1) = tcN f k i := by simp only [tcN]; rw [if_neg (fun g => he g.2)]; rfl
            have HST := Lib.hid hst; have HK := Lib.hid hkp
            clear hst hkp
            gi_wp2
            refine ⟨(fun f h => by cases h), ?_⟩
            gi_wp2
            go_roundw
            case rel => exact ⟨i + 1, by omega, by go_num, by rw [HST.out]; exact hJ, HK.out⟩
            case measure => simp [intOf]; omega
        · obtain rfl : i = n := by omega
          have hst : sumC f i (k - 1) + tcN f k i = sumC f i (k + 1 - 1) := by
            obtain ⟨K, rfl⟩ : ∃ K, k = K + 1 := ⟨k - 1, by omega⟩
            rfl
          have HST := Lib.hid hst; have HK := Lib.hid hkp
          clear hst hkp
          gi_wp2
          go_roundw
          case rel => exact ⟨k + 1, by omega, by omega, by go_num, by rw [← HST.out]; exact hJ, HK.out⟩
          case measure => simp [intOf]; omega
    · obtain rfl : k = 16 := by omega
      clear hY hBs
      gi_wp2
      go_end0
      exact ⟨⟨_, rfl⟩, hJs⟩
set_option maxHeartbeats 1000000 in
theorem byl_in (F : Fence) (n : Nat) (h27 : F.fn 27) (hro : F.round = none) (a : Option Addr) (len cap : Nat) (w : World) :
    CallsIn F n Try.prog 27 #[.slice a len cap] w fun e w' => e = .returned (.func (.func 45) #[] #[.pointer (some ⟨w.heap.size, 0, none⟩)]) ∧ w' = w.alloc (.cells #[.slice a len cap] 29) := by
  refine callsIn_of_wp Try.func27 rfl h27 ?_ hro
  simp only [Try.ntmps27, List.size_toArray, List.length_cons, List.length_nil, Nat.reduceAdd, Nat.reduceSub, Array.replicate_succ, Array.replicate_zero, List.push_toArray, List.append_toArray, List.nil_append, List.cons_append]
  gi_wp2
  go_ret
  exact ⟨rfl, rfl⟩
theorem byl_tied (F : Fence) (fu : Nat) (h1f : F.fn 45) (hro : F.round = none) (hn : 1 ≤ fu) (Bs B : Nat) (A : Option Addr) (n cap : Nat) (f : Nat → Nat) (S : Nat → Prop) (hS1 : S Bs) (hS2 : ∀ k, k < B → S k) (hlen : n ≤ 1000) (w : World) (hBs : w.cell? ⟨Bs, 0, none⟩ = some (.slice A n cap)) (hBw : Bs < w.heap.size) (hB : B ≤ w.heap.size) (hr : RdB w B A n f) :
    SeqTied F fu Try.prog 45 #[.pointer (some ⟨Bs, 0, none⟩)] (symEnc f n) (KpB S) (sumC f n 15) w := fun l J W hW hY h0 =>
  byl1_in F fu h1f hro hn l Bs B A n cap f S hS1 hS2 hlen J hY W ((hW.cell hBw).trans hBs) ((hr.below hW hB)) h0
end Go.Proofs.Ytedjapamimhglaa
