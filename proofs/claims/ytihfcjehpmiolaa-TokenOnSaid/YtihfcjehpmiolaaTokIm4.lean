/-
  Layer 8 (token): the program's iterator over tokens, which makes memory between its values.
-/
import Derived.Test.YtihfcjehpmiolaaTokIm3
import Derived.Test.YtihfcjehpmiolaaRangeM
import Derived.Test.YtihfcjehpmiolaaKeeps
import Derived.Test.YtihfcjehpmiolaaInRun
import Derived.Sort.QuietIn
namespace Go.Proofs.Ytihfcjehpmiolaa
open Go.RowKit Go.Shelf
attribute [local go_sem] Oper.semAt_some
attribute [local simp] wide_fn
theorem cut_fst {f : Nat → Nat} {n z ch : Nat} {lz : Bool} {a : Nat} (ha : a < n) :
    cutA f n z ch lz a = fstT f n z ch lz a :: cutA f n z ch lz (a + lenT (fstT f n z ch lz a)) ∧ 1 ≤ lenT (fstT f n z ch lz a) ∧ a + lenT (fstT f n z ch lz a) ≤ n ∧
    (if (fstT f n z ch lz a).n < 1 then 1 else (fstT f n z ch lz a).n) = ((lenT (fstT f n z ch lz a) : Nat) : Int) ∧ (fstT f n z ch lz a).x < 256 ∨ ¬ (∀ j, f j < 256) := by
  by_cases hf : ∀ j, f j < 256
  · refine .inl ?_
    unfold fstT
    by_cases h : (bstN f n a z a ch 0 0).2 = 0 ∨ (bstN f n a z a ch 0 0).2 < latN f n z ch lz a
    · rw [if_pos h]
      have e : lenT ⟨f a, 0, 0⟩ = 1 := by unfold lenT; rw [if_pos rfl]
      rw [e]
      exact ⟨cutA_byte ha h, Nat.le_refl _, by omega, rfl, hf a⟩
    · rw [if_neg h]
      obtain ⟨b1, b2, b3, b4, b5, b6⟩ := bst_is (f := f) (L := n) (a := a) (size := z) (chain := ch) (fun q => h (.inl q))
      have e : lenT ⟨0, ((bstN f n a z a ch 0 0).1 : Nat), ((bstN f n a z a ch 0 0).2 : Nat)⟩ = (bstN f n a z a ch 0 0).2 := by
        unfold lenT; rw [if_neg (by show ¬ ((((bstN f n a z a ch 0 0).2 : Nat) : Int) = 0); omega)]; exact Int.toNat_natCast _
      rw [e]
      have hl := (b6 ((bstN f n a z a ch 0 0).2 - 1) (by omega)).1
      refine ⟨cutA_copy ha h, by omega, by omega, ?_, by show 0 < 256; omega⟩
      rw [if_neg (by show ¬ ((((bstN f n a z a ch 0 0).2 : Nat) : Int) < 1); omega)]
  · exact .inr hf
theorem rd_self {w : World} {B n : Nat} {A : Option Addr} {f : Nat → Nat} (h : RdB w B A n f) : RdB w w.heap.size A n f := by
  refine ⟨h.1, fun hn => ?_⟩
  obtain ⟨b, o, rfl, _, hc⟩ := h.2 hn
  refine ⟨b, o, rfl, ?_, hc⟩
  have := hc 0 hn
  rcases Nat.lt_or_ge b w.heap.size with g | g
  · exact g
  · simp only [World.cell?] at this
    rw [Array.getElem?_eq_none g] at this
    simp at this
/-- What a round of the caller keeps. -/
def KpT (S : Nat → Prop) (W W' : World) : Prop := KpB S W W' ∧ (∀ (k : Nat) (cs : Array Value), W.heap[k]? = some (.cells cs 49 (0, 0)) → W'.heap[k]? = some (.cells cs 49 (0, 0))) ∧ W.heap.size ≤ W'.heap.size
theorem KpT.tr {S : Nat → Prop} {A B C : World} (h : KpT S A B) (k : KpT S B C) : KpT S A C := ⟨h.1.tr k.1, fun i cs hi => k.2.1 i cs (h.2.1 i cs hi), Nat.le_trans h.2.2 k.2.2⟩
theorem kpb_below {S : Nat → Prop} {N : Nat} {W W' : World} (hb : Below W.heap.size W W') (hN : N ≤ W.heap.size) (hS : ∀ k, S k → k < N) : KpB S W W' := fun k hk => hb.block k (by have := hS k hk; omega)
def tokV (t : Tok) : Value := .agg #[.int .u8 (t.x : Int), .int .i64 t.d, .int .i64 t.n]
def encT (T : List Tok) (j : Nat) : Array Value := #[tokV (T.getD j tok0)]
set_option maxRecDepth 100000 in
set_option maxHeartbeats 4000000 in
theorem toks1_in (fu : Nat) (hfu : 1 ≤ fu) (l Bb Ba Bs B N : Nat) (A : Option Addr) (n c a z ch : Nat) (m : Int) (lz : Bool) (f : Nat → Nat) (S : Nat → Prop) (hS : S Bb ∧ S Ba ∧ S Bs) (hS2 : ∀ k, k < B → S k) (hS3 : ∀ k, S k → k < N) (ha : a ≤ n) (hn : n ≤ 131072) (hz1 : 1 ≤ z) (hz : z ≤ 32768) (hch : ch ≤ 256)
    (T : List Tok) (hT : T = cutA f n z ch lz a) (J : Nat → World → Prop)
    (hd : ∀ j W1 W2, J j W1 → Below W1.heap.size W1 W2 → J j W2)
    (hY : ∀ j W1, J j W1 → j < T.length → YieldAt Fence.wide (fu - 1) Try.prog l (encT T j) W1 fun e W' => e = .returned (.bool true) ∧ J (j + 1) W' ∧ KpT S W1 W')
    (W : World) (hN : N ≤ W.heap.size) (hBb : W.cell? ⟨Bb, 0, none⟩ = some (.slice A n c)) (hBa : W.cell? ⟨Ba, 0, none⟩ = some (.int .i64 (a : Int))) (hBs : W.heap[Bs]? = some (.cells #[.int .i64 (z : Int), .int .i64 (ch : Int), .int .i64 m, .bool lz] 32 (0, 0))) (hr : ByR W B A n c f) (h0 : J 0 W) :
    CallsIn Fence.wide fu Try.prog 29 #[.func (.yield l) #[] #[], .pointer (some ⟨Ba, 0, none⟩), .pointer (some ⟨Bb, 0, none⟩), .pointer (some ⟨Bs, 0, none⟩)] W fun e W' => (∃ v, e = .returned v) ∧ J T.length W' := by
  refine callsIn_of_wp Try.func29 rfl trivial ?_ rfl
  simp only [Try.ntmps29, List.size_toArray, List.length_cons, List.length_nil, Nat.reduceAdd, Nat.reduceSub, Array.replicate_succ, Array.replicate_zero, List.push_toArray, List.append_toArray, List.nil_append, List.cons_append]
  have HR := Lib.hid hr; have HS2 := Lib.hid hS2; have HS3 := Lib.hid hS3; have HY := Lib.hid hY; have HD := Lib.hid hd; have HT := Lib.hid hT; have HN := Lib.hid hN; have HBS := Lib.hid hBs
  clear hr hS2 hS3 hY hd hT hN
  gi_wp2
  gi_loopw [5] (fun av wr => ∃ j a' : Nat, a' ≤ n ∧ av = .int .i64 (a' : Int) ∧ Hid (j ≤ T.length ∧ T.drop j = cutA f n z ch lz a') ∧ Hid (J j wr) ∧ Hid (KpB S W wr) ∧ Hid (N ≤ wr.heap.size)) (fun av _ => n - (intOf av).toNat)
  case atStart => exact ⟨0, a, ha, rfl, Lib.hid ⟨Nat.zero_le _, HT.out⟩, Lib.hid h0, Lib.hid (KpB.refl _ _), HN⟩
  case round =>
    obtain ⟨j, a', ha', rfl, HK, HJ, HKP, HNW⟩ := hrel
    have c1 := (HKP.out.cell (p := ⟨Bb, 0, none⟩) hS.1).trans hBb
    by_cases hlt : a' < n
    · have hlti : (a' : Int) < (n : Int) := by omega
      have hrow := (HKP.out Bs hS.2.2).trans HBS.out
      have hrw : ByR wr wr.heap.size A n c f := ⟨rd_self (HR.out.1.kept HKP.out HS2.out), HR.out.2⟩
      have hfi := first8_any wr A n c f a' z ch m lz hrw hlt hn hz1 hz hch
      rcases cut_fst (f := f) (n := n) (z := z) (ch := ch) (lz := lz) hlt with ⟨q1, q2, q3, q4, q5⟩ | q
      · obtain ⟨t, ht⟩ : ∃ t, t = fstT f n z ch lz a' := ⟨_, rfl⟩
        rw [← ht] at hfi q1 q2 q3 q4
        obtain ⟨tx, td, tn⟩ := t
        obtain ⟨E, hE⟩ : ∃ E, E = lenT ⟨tx, td, tn⟩ := ⟨_, rfl⟩
        rw [← hE] at q1 q2 q3 q4
        have hdr : T.drop j = ⟨tx, td, tn⟩ :: cutA f n z ch lz (a' + E) := HK.out.2.trans q1
        have hjl : j < T.length := by
          rcases Nat.lt_or_ge j T.length with g | g
          · exact g
          · rw [List.drop_eq_nil_of_le g] at hdr; cases hdr
        have hget : T.getD j tok0 = ⟨tx, td, tn⟩ := by
          rw [List.drop_eq_getElem_cons hjl] at hdr
          injection hdr with h1 _
          rw [List.getD_eq_getElem?_getD, List.getElem?_eq_getElem hjl]; exact h1
        have hdr2 : T.drop (j + 1) = cutA f n z ch lz (a' + E) := by
          rw [List.drop_eq_getElem_cons hjl] at hdr
          injection hdr with _ h2
        have hwi := wide8_any
        have HFI := Lib.hid hfi; have HDR := Lib.hid hdr2; have HGET := Lib.hid hget; have HROW := Lib.hid hrow; have HQ4 := Lib.hid q4
        clear hfi hdr hdr2 hget hrw ht hE q1 q4 q5 hrow hwi
        gi_wp2_with (refine wpListIn_load_row rfl _ _ rfl Bs rfl _ #[.int .i64 (z : Int), .int .i64 (ch : Int), .int .i64 m, .bool lz] (0, 0) _ HROW.out Try.underlying32 rfl szStyle ?_)
        refine (callsIn_wide.2 HFI.out).mono ?_
        rintro e w2 ⟨rfl, hb2⟩
        obtain ⟨g, hg⟩ : ∃ g, g = w2.heap.size := ⟨_, rfl⟩
        have hb3 : Below wr.heap.size wr (w2.alloc (.cells #[.int .u8 (tx : Int), .int .i64 td, .int .i64 tn] 49)) := hb2.alloc hb2.size _
        have hJ3 := HD.out _ _ _ HJ.out hb3
        have hkp3 := HKP.out.tr (kpb_below hb3 HNW.out HS3.out)
        have hn3 : N ≤ (w2.alloc (.cells #[.int .u8 (tx : Int), .int .i64 td, .int .i64 tn] 49)).heap.size := Nat.le_trans HNW.out hb3.size
        have hrow3 : (w2.alloc (.cells #[.int .u8 (tx : Int), .int .i64 td, .int .i64 tn] 49)).heap[g]? = some (.cells #[.int .u8 (tx : Int), .int .i64 td, .int .i64 tn] 49 (0, 0)) := by rw [hg]; exact heap_alloc_new w2 _
        obtain ⟨fn, tmps, assign, body, hy, hRR⟩ := HY.out _ _ hJ3 hjl
        have hen : encT T j = #[.agg #[.int .u8 (tx : Int), .int .i64 td, .int .i64 tn]] := by unfold encT tokV; rw [HGET.out]
        rw [hen] at hy
        have HKP3 := Lib.hid hkp3; have HN3 := Lib.hid hn3; have HROW3 := Lib.hid hrow3; have HRR := Lib.hid hRR; have HG := Lib.hid hg
        clear hb2 hb3 hJ3 hkp3 hn3 hrow3 hRR hen HKP HJ HNW HFI HROW c1 hg
        gi_wp2
        refine HRR.out.mono ?_
        rintro e W4 ⟨rfl, hJ4, hkt⟩
        have HROW4 := Lib.hid (hkt.2.1 g _ HROW3.out)
        have HKP4 := Lib.hid (HKP3.out.tr hkt.1)
        have HN4 := Lib.hid (Nat.le_trans HN3.out hkt.2.2)
        have HJ4 := Lib.hid hJ4
        have hwi := wide8_any W4 ⟨tx, td, tn⟩
        rw [HQ4.out] at hwi
        have HWI := Lib.hid hwi
        clear hkt hJ4 hwi hy HROW3 HRR HKP3 HN3
        rw [← HG.out]
        gi_wp2_with (refine wpListIn_load_row rfl _ _ rfl g rfl _ #[.int .u8 (tx : Int), .int .i64 td, .int .i64 tn] (0, 0) _ HROW4.out Try.underlying49 rfl (sztokA _ _ _) ?_)
        refine (callsIn_wide.2 HWI.out).mono ?_
        rintro e w5 ⟨rfl, hb5⟩
        have HJ5 := Lib.hid (HD.out _ _ _ HJ4.out hb5)
        have HKP5 := Lib.hid (HKP4.out.tr (kpb_below hb5 HN4.out HS3.out))
        have HN5 := Lib.hid (Nat.le_trans HN4.out hb5.size)
        clear hb5
        gi_wp2
        go_roundw
        case rel => exact ⟨j + 1, a' + E, q3, by go_num, Lib.hid ⟨hjl, HDR.out⟩, HJ5, HKP5, HN5⟩
        case measure => simp [intOf]; omega
      · exact absurd HR.out.1.1 q
    · obtain rfl : a' = n := by omega
      have hlti : ¬ (a' : Int) < (a' : Int) := by omega
      have hfin : j = T.length := by
        have h1 := HK.out.2
        rw [cutA_end (Nat.le_refl _)] at h1
        have h2 := congrArg List.length h1
        rw [List.length_drop] at h2
        have := HK.out.1
        simp at h2; omega
      subst hfin
      gi_wp2
      go_end0
      exact ⟨⟨_, rfl⟩, HJ.out⟩
set_option maxHeartbeats 1000000 in
theorem tokens_in (n : Nat) (A : Option Addr) (len cap a : Nat) (z ch m : Int) (lz : Bool) (w : World) :
    CallsIn Fence.wide n Try.prog 23 #[.slice A len cap, .int .i64 (a : Int), .agg #[.int .i64 z, .int .i64 ch, .int .i64 m, .bool lz]] w fun e w' => e = .returned (.func (.func 29) #[] #[.pointer (some ⟨w.heap.size + 1, 0, none⟩), .pointer (some ⟨w.heap.size, 0, none⟩), .pointer (some ⟨w.heap.size + 2, 0, none⟩)]) ∧
      w' = ((w.alloc (.cells #[.slice A len cap] 22)).alloc (.cells #[.int .i64 (a : Int)] 3)).alloc (.cells #[.int .i64 z, .int .i64 ch, .int .i64 m, .bool lz] 32) := by
  refine callsIn_of_wp Try.func23 rfl trivial ?_ rfl
  simp only [Try.ntmps23, List.size_toArray, List.length_cons, List.length_nil, Nat.reduceAdd, Nat.reduceSub, Array.replicate_succ, Array.replicate_zero, List.push_toArray, List.append_toArray, List.nil_append, List.cons_append]
  gi_wp2
  go_ret
  exact ⟨rfl, rfl⟩
theorem toks1_made (fu : Nat) (hfu : 1 ≤ fu) (Bb Ba Bs B N : Nat) (A : Option Addr) (n c a z ch : Nat) (m : Int) (lz : Bool) (f : Nat → Nat) (S : Nat → Prop) (hS : S Bb ∧ S Ba ∧ S Bs) (hS2 : ∀ k, k < B → S k) (hS3 : ∀ k, S k → k < N) (ha : a ≤ n) (hn : n ≤ 131072) (hz1 : 1 ≤ z) (hz : z ≤ 32768) (hch : ch ≤ 256)
    (T : List Tok) (hT : T = cutA f n z ch lz a) (w : World) (hN : N ≤ w.heap.size) (hBb : w.cell? ⟨Bb, 0, none⟩ = some (.slice A n c)) (hBa : w.cell? ⟨Ba, 0, none⟩ = some (.int .i64 (a : Int))) (hBs : w.heap[Bs]? = some (.cells #[.int .i64 (z : Int), .int .i64 (ch : Int), .int .i64 m, .bool lz] 32 (0, 0))) (hr : ByR w B A n c f) (hB : B ≤ w.heap.size) :
    SeqMade Fence.wide fu Try.prog 29 #[.pointer (some ⟨Ba, 0, none⟩), .pointer (some ⟨Bb, 0, none⟩), .pointer (some ⟨Bs, 0, none⟩)] (encT T) (KpT S) T.length w := fun l J W hW hd hY h0 =>
  toks1_in fu hfu l Bb Ba Bs B N A n c a z ch m lz f S hS hS2 hS3 ha hn hz1 hz hch T hT J hd hY W (Nat.le_trans hN hW.size) ((hW.cell (Nat.lt_of_lt_of_le (hS3 _ hS.1) hN)).trans hBb) ((hW.cell (Nat.lt_of_lt_of_le (hS3 _ hS.2.1) hN)).trans hBa) ((hW.block Bs (Nat.lt_of_lt_of_le (hS3 _ hS.2.2) hN)).trans hBs) (hr.below hW hB) h0
end Go.Proofs.Ytihfcjehpmiolaa
