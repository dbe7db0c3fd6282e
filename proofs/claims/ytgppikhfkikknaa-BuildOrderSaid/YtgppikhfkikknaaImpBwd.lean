/-
  Layer 4 (build): the library's iterator over a slice from its end, over the program's rows.
-/
import Derived.Test.YtgppikhfkikknaaImpRws
import Derived.Test.YtgppikhfkikknaaRange
namespace Go.Proofs.Ytgppikhfkikknaa
open Go.RowKit Go.Shelf
attribute [local go_sem] Oper.semAt_some
/-- The blocks of S lie as they lay. -/
def KpS (S : Nat → Prop) (W W' : World) : Prop := ∀ k, S k → W'.heap[k]? = W.heap[k]?
theorem KpS.refl (S : Nat → Prop) (W : World) : KpS S W W := fun _ _ => rfl
theorem KpS.tr {S : Nat → Prop} {A B C : World} (h : KpS S A B) (k : KpS S B C) : KpS S A C := fun i hi => (k i hi).trans (h i hi)
theorem KpS.cell {S : Nat → Prop} {W W' : World} (h : KpS S W W') {p : Addr} (hp : S p.block) : W'.cell? p = W.cell? p := by
  simp only [World.cell?, h _ hp]
set_option maxRecDepth 100000 in
set_option maxHeartbeats 4000000 in
theorem bwd1_in (F : Fence) (n : Nat) (h35 : F.fn 35) (hro : F.round = none) (hn : 1 ≤ n) (l Bs b o len cap : Nat) (As : Nat → Option Addr) (ms cs : Nat → Nat) (S : Nat → Prop) (hS1 : S Bs) (hS2 : S b) (hlen : len ≤ 100) (J : Nat → World → Prop)
    (hY : ∀ j W1, J j W1 → j < len → YieldAt F (n - 1) Try.prog l #[.int .i64 ((len - 1 - j : Nat) : Int), .slice (As (len - 1 - j)) (ms (len - 1 - j)) (cs (len - 1 - j))] W1 fun e W' => e = .returned (.bool true) ∧ J (j + 1) W' ∧ KpS S W1 W')
    (W : World) (hBs : W.cell? ⟨Bs, 0, none⟩ = some (.slice (some ⟨b, o, none⟩) len cap)) (hc : ∀ K, K < len → W.cell? ⟨b, o + K, none⟩ = some (.slice (As K) (ms K) (cs K))) (h0 : J 0 W) :
    CallsIn F n Try.prog 35 #[.func (.yield l) #[] #[], .pointer (some ⟨Bs, 0, none⟩)] W fun e W' => (∃ v, e = .returned v) ∧ J len W' := by
  refine callsIn_of_wp Try.func35 rfl h35 ?_ hro
  simp only [Try.ntmps35, List.size_toArray, List.length_cons, List.length_nil, Nat.reduceAdd, Nat.reduceSub, Array.replicate_succ, Array.replicate_zero, List.push_toArray, List.append_toArray, List.nil_append, List.cons_append]
  gi_wp2
  gi_loopw [3] (fun i wr => ∃ j : Nat, j ≤ len ∧ i = .int .i64 ((len : Int) - 1 - (j : Int)) ∧ J j wr ∧ KpS S W wr) (fun i _ => (intOf i + 1).toNat)
  case atStart => exact ⟨0, Nat.zero_le _, val_int (by omega), h0, KpS.refl _ _⟩
  case round =>
    obtain ⟨j, hj, rfl, hJs, hk⟩ := hrel
    by_cases hlt : j < len
    · obtain ⟨p, hp⟩ : ∃ p, p = len - 1 - j := ⟨_, rfl⟩
      have ep : (len : Int) - 1 - (j : Int) = (p : Int) := by omega
      have hpl : p < len := by omega
      have hbx := (hk.cell (p := ⟨Bs, 0, none⟩) hS1).trans hBs
      have hcx := (hk.cell (p := ⟨b, o + p, none⟩) hS2).trans (hc p hpl)
      obtain ⟨fn, tmps, assign, body, hy, hR⟩ := hY j wr hJs hlt
      rw [← hp] at hy
      have hpp : (0 : Int) ≤ (p : Int) := by omega
      rw [ep]
      have HP := Lib.hid hp; have HK := Lib.hid hk
      clear hc hY hBs hp ep hk
      gi_wp2
      refine hR.mono ?_
      rintro e W3 ⟨rfl, hJ3, hk3⟩
      have HK3 := Lib.hid hk3
      clear hk3
      gi_wp2
      go_roundw
      case rel => exact ⟨j + 1, by omega, val_int (by have := HP.out; omega), hJ3, HK.out.tr HK3.out⟩
      case measure => simp [intOf]
    · obtain rfl : j = len := by omega
      have hneg : ¬ (0 : Int) ≤ (j : Int) - 1 - (j : Int) := by omega
      clear hc hY hBs
      gi_wp2
      go_end0
      exact ⟨⟨_, rfl⟩, hJs⟩
set_option maxHeartbeats 1000000 in
theorem bwd_in (F : Fence) (n : Nat) (h27 : F.fn 27) (hro : F.round = none) (a : Option Addr) (len cap : Nat) (w : World) :
    CallsIn F n Try.prog 27 #[.slice a len cap] w fun e w' => e = .returned (.func (.func 35) #[] #[.pointer (some ⟨w.heap.size, 0, none⟩)]) ∧ w' = w.alloc (.cells #[.slice a len cap] 42) := by
  refine callsIn_of_wp Try.func27 rfl h27 ?_ hro
  simp only [Try.ntmps27, List.size_toArray, List.length_cons, List.length_nil, Nat.reduceAdd, Nat.reduceSub, Array.replicate_succ, Array.replicate_zero, List.push_toArray, List.append_toArray, List.nil_append, List.cons_append]
  gi_wp2
  go_ret
  exact ⟨rfl, rfl⟩
/-- The library's iterator over L rows tells them from the last one on. -/
theorem bwd_tied (F : Fence) (n : Nat) (h35 : F.fn 35) (hro : F.round = none) (hn : 1 ≤ n) (Bs b o len cap : Nat) (As : Nat → Option Addr) (ms cs : Nat → Nat) (S : Nat → Prop) (hS1 : S Bs) (hS2 : S b) (hlen : len ≤ 100) (w : World) (hBs : w.cell? ⟨Bs, 0, none⟩ = some (.slice (some ⟨b, o, none⟩) len cap)) (hB : Bs < w.heap.size) (hb : b < w.heap.size)
    (hc : ∀ K, K < len → w.cell? ⟨b, o + K, none⟩ = some (.slice (As K) (ms K) (cs K))) :
    SeqTied F n Try.prog 35 #[.pointer (some ⟨Bs, 0, none⟩)] (fun j => #[.int .i64 ((len - 1 - j : Nat) : Int), .slice (As (len - 1 - j)) (ms (len - 1 - j)) (cs (len - 1 - j))]) (KpS S) len w := fun l J W hW hY h0 =>
  bwd1_in F n h35 hro hn l Bs b o len cap As ms cs S hS1 hS2 hlen J hY W ((hW.cell hB).trans hBs) (fun K hK => (hW.cell (p := ⟨b, o + K, none⟩) hb).trans (hc K hK)) h0
end Go.Proofs.Ytgppikhfkikknaa
