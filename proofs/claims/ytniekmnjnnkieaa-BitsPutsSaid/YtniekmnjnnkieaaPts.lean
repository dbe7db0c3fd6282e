/-
  Layer 1 (bits): bits.Put and the document's Put answer the same, bits.Align and its Align too: one set of words for each pair.
-/
import Derived.Test.YtniekmnjnnkieaaRali
import Derived.Test.YtniekmnjnnkieaaBack
namespace Go.Proofs.Ytniekmnjnnkieaa
open Go.RowKit
/-- Bytes of the call's own, from block B on. -/
def Out (w : World) (B : Nat) (A : Option Addr) (L : Nat) (G : Nat → Nat) : Prop := (A = none ∧ L = 0) ∨ ∃ g, A = some ⟨g, 0, none⟩ ∧ B ≤ g ∧ Row w g L G
theorem Out.rd {w : World} {B : Nat} {A : Option Addr} {L : Nat} {G : Nat → Nat} (h : Out w B A L G) (hG : ∀ j, G j < 256) : RdB w w.heap.size A L G := by
  rcases h with ⟨rfl, rfl⟩ | ⟨g, rfl, _, hr⟩
  · exact ⟨hG, fun h => by omega⟩
  · exact hr.rd hG
theorem Out.below {w w' : World} {B B' : Nat} {A : Option Addr} {L : Nat} {G : Nat → Nat} (h : Out w B A L G) (hb : Below B' w w') (hB : w.heap.size ≤ B') : Out w' B A L G := by
  rcases h with h | ⟨g, rfl, hg, hr⟩
  · exact .inl h
  · exact .inr ⟨g, rfl, hg, hr.below hb (by have := hr.lt; omega)⟩
theorem Out.alloc {w : World} {B : Nat} {A : Option Addr} {L : Nat} {G : Nat → Nat} (h : Out w B A L G) (o : Obj) : Out (w.alloc o) B A L G := by
  rcases h with h | ⟨g, rfl, hg, hr⟩
  · exact .inl h
  · exact .inr ⟨g, rfl, hg, hr.alloc o⟩
/-- What a call that answers a pen and an error says, of bits (14, 12) and of the document (20, 21). -/
def CodePen (F : FuncId) (args : Array Value) (w : World) (L : Nat) (K E : Int) (G : Nat → Nat) : Prop :=
  Calls Try.prog F args w fun e w' => ∃ A' c', e = .returned (.tuple #[.agg #[.slice A' L c', .int .i64 K], .int .i64 E]) ∧ Out w' w.heap.size A' L G ∧ Below w.heap.size w w'
def RefPen (F : FuncId) (args : Array Value) (w : World) (L : Nat) (K E : Int) (G : Nat → Nat) : Prop :=
  Calls Try.prog F args w fun e w' => ∃ A' c', e = .returned (.tuple #[.agg #[.slice A' L c', .int .i64 K], .int .i64 E]) ∧ RdB w' w'.heap.size A' L G ∧ Below w.heap.size w w'
theorem code_none {F : FuncId} {args : Array Value} {w : World} {E : Int} (h : Calls Try.prog F args w fun e w' => e = .returned (.tuple #[.agg #[.slice none 0 0, .int .i64 0], .int .i64 E]) ∧ Below w.heap.size w w') : CodePen F args w 0 0 E nof :=
  h.mono fun _ _ ⟨a, b⟩ => ⟨none, 0, a, .inl ⟨rfl, rfl⟩, b⟩
theorem ref_none {F : FuncId} {args : Array Value} {w : World} {E : Int} (h : Calls Try.prog F args w fun e w' => e = .returned (.tuple #[.agg #[.slice none 0 0, .int .i64 0], .int .i64 E]) ∧ Below w.heap.size w w') : RefPen F args w 0 0 E nof :=
  h.mono fun _ _ ⟨a, b⟩ => ⟨none, 0, a, rd_none _ _, b⟩
theorem put_both (f : Nat → Nat) (n : Nat) (k m : Int) (v : Nat) (hf : ∀ j, f j < 256) (hv : v < 4294967296) (hn0 : -9223372036854775808 ≤ m) (hn1 : m ≤ 9223372036854775807) :
    ∃ (L : Nat) (K E : Int) (G : Nat → Nat), (∀ j, G j < 256) ∧ L ≤ 2000000 ∧
      (∀ (w : World) (A : Option Addr) (c : Nat), RdB w w.heap.size A n f → CodePen 14 #[.agg #[.slice A n c, .int .i64 k], .int .u32 (v : Int), .int .i64 m] w L K E G) ∧
      (∀ (w : World) (A : Option Addr) (c : Nat), RdB w w.heap.size A n f → (A = none → c = 0) → RefPen 20 #[.agg #[.slice A n c, .int .i64 k], .int .u32 (v : Int), .int .i64 m] w L K E G) := by
  have hnof : ∀ j, nof j < 256 := fun _ => by unfold nof; omega
  rcases checkE_eq f n k with h0 | h0
  · cases hfb : fitsB v m with
    | false => exact ⟨0, 0, 2, nof, hnof, by omega, fun w A c hr => code_none (put_arg w A n c f k m v hr h0 hv hn0 hn1 hfb), fun w A c hr _ => ref_none (rput_arg w A n c f k m v hr h0 hv hn0 hn1 hfb)⟩
    | true =>
      obtain ⟨K, rfl, hK, hn, hcl⟩ := check_clean hf h0
      obtain ⟨M, rfl, hM⟩ := fitsB_int hfb
      by_cases hfull : K + M ≤ 8388608
      · refine ⟨(K + M + 7) / 8, ((K + M : Nat) : Int), 0, putF (zext n f) K v M, (hcl.put v M).1, by omega, fun w A c hr => ?_, fun w A c hr hA => ?_⟩
        · exact (put_ok w A n c f K M _ v hr h0 hK hv hM hfb hfull rfl).mono fun _ _ ⟨g, a, hg, hb, hrow⟩ => ⟨_, _, a, .inr ⟨g, rfl, hg, hrow⟩, hb⟩
        · refine (rput_ok w A n c f K M v hr hA h0 hK hv hM hfb hfull).mono ?_
          rintro e w' ⟨A', c', L, rfl, a, ho, hb⟩
          exact ⟨A', c', a, RdB.of_own ho (hcl.put v M).1, hb⟩
      · exact ⟨0, 0, 9, nof, hnof, by omega, fun w A c hr => code_none (put_full w A n c f K M v hr h0 hK hv hM hfb (by omega)), fun w A c hr _ => ref_none (rput_full w A n c f K M v hr h0 hK hv hM hfb (by omega))⟩
  · exact ⟨0, 0, 8, nof, hnof, by omega, fun w A c hr => code_none (put_bad w A n c f k m v hr h0), fun w A c hr _ => ref_none (rput_bad w A n c f k m v hr h0)⟩
theorem RdB.congr {w : World} {B n : Nat} {A : Option Addr} {f g : Nat → Nat} (h : RdB w B A n f) (hg : ∀ j, g j < 256) (he : ∀ j, j < n → f j = g j) : RdB w B A n g := by
  refine ⟨hg, fun hn => ?_⟩
  obtain ⟨b, o, hA, hlt, hc⟩ := h.2 hn
  exact ⟨b, o, hA, hlt, fun j hj => by rw [← he j hj]; exact hc j hj⟩
theorem align_both (f : Nat → Nat) (n : Nat) (k : Int) (hf : ∀ j, f j < 256) :
    ∃ (L : Nat) (K E : Int) (G : Nat → Nat), (∀ j, G j < 256) ∧ L ≤ 2000000 ∧
      (∀ (w : World) (A : Option Addr) (c : Nat), RdB w w.heap.size A n f → CodePen 12 #[.agg #[.slice A n c, .int .i64 k]] w L K E G) ∧
      (∀ (w : World) (A : Option Addr) (c : Nat), RdB w w.heap.size A n f → (A = none → c = 0) → RefPen 21 #[.agg #[.slice A n c, .int .i64 k]] w L K E G) := by
  have hnof : ∀ j, nof j < 256 := fun _ => by unfold nof; omega
  rcases checkE_eq f n k with h0 | h0
  · obtain ⟨K, rfl, hK, hn, hcl⟩ := check_clean hf h0
    refine ⟨n, ((8 * n : Nat) : Int), 0, zext n f, zext_lt hf, by omega, fun w A c hr => ?_, fun w A c hr hA => ?_⟩
    · exact (align_ok w A n c f K hr h0).mono fun _ _ ⟨g, a, hg, hb, hrow⟩ => ⟨_, _, a, .inr ⟨g, rfl, hg, hrow⟩, hb⟩
    · refine (ralign_ok w A n c f K hr hA h0).mono ?_
      rintro e w' ⟨A', c', a, ho, hb⟩
      exact ⟨A', c', a, (RdB.of_own ho hf).congr (zext_lt hf) fun j hj => (zext_in f hj).symm, hb⟩
  · exact ⟨0, 0, 8, nof, hnof, by omega, fun w A c hr => code_none (align_bad w A n c f k hr h0), fun w A c hr _ => ref_none (ralign_bad w A n c f k hr h0)⟩
theorem RdB.grown {w w' : World} {B n : Nat} {A : Option Addr} {f : Nat → Nat} {row : Option Nat} (h : RdB w B A n f) (hg : w.grownBy w' row) (hB : B ≤ w.heap.size) (hr : ∀ g, row = some g → B ≤ g) : RdB w' B A n f := by
  refine ⟨h.1, fun hn => ?_⟩
  obtain ⟨b, o, hA, hlt, hc⟩ := h.2 hn
  refine ⟨b, o, hA, hlt, fun j hj => ?_⟩
  rw [World.cell?_of_block (hg.block b (by omega) (fun e => by have := hr b e.symm; omega))]
  exact hc j hj
end Go.Proofs.Ytniekmnjnnkieaa
