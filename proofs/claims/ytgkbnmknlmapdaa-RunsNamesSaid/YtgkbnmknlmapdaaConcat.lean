/-
  Words for every layer: slices of bytes with their room; slices.Grow of nil; slices.Concat of byte slices.
-/
import Derived.Test.YtgkbnmknlmapdaaBase
import Derived.Lib.AppendZeros
import Derived.LoopN
namespace Go.Proofs.Ytgkbnmknlmapdaa
open Go.RowKit
/-- A slice of bytes, its room too. -/
def ByR (w : World) (B : Nat) (A : Option Addr) (n c : Nat) (f : Nat → Nat) : Prop := RdB w B A n f ∧ (A = none → c = 0) ∧ n ≤ c ∧ c ≤ maxLen
theorem ByR.below {w w' : World} {B B' n c : Nat} {A : Option Addr} {f : Nat → Nat} (h : ByR w B A n c f) (hb : Below B' w w') (hB : B ≤ B') : ByR w' B A n c f := ⟨h.1.below hb hB, h.2⟩
theorem ByR.more {w : World} {B B' n c : Nat} {A : Option Addr} {f : Nat → Nat} (h : ByR w B A n c f) (hB : B ≤ B') : ByR w B' A n c f := ⟨h.1.more hB, h.2⟩
theorem ByR.nil (w : World) (B : Nat) (f : Nat → Nat) (hf : ∀ j, f j < 256) : ByR w B none 0 0 f := ⟨⟨hf, fun h => by omega⟩, fun _ => rfl, Nat.le_refl _, by unfold maxLen; omega⟩
theorem ByR.of_own {w : World} {base n c : Nat} {A : Option Addr} {f : Nat → Nat} (h : w.ownsRow base 5 1 (.slice A n c) n (bytesL n f)) (hf : ∀ j, f j < 256) : ByR w w.heap.size A n c f := by
  refine ⟨RdB.of_own h hf, ?_⟩
  rcases h.2 with ⟨hv, h0⟩ | ⟨g, cap, cur, hv, _, _, h1, h2, _⟩
  · injection hv with h3 h4 h5
    exact ⟨fun _ => h5, by omega, by unfold maxLen; omega⟩
  · injection hv with h3 h4 h5
    exact ⟨(fun h => by rw [h] at h3; cases h3), by omega, by omega⟩
theorem RdB.ext {w : World} {B n : Nat} {A : Option Addr} {f g : Nat → Nat} (h : RdB w B A n f) (hg : ∀ j, g j < 256) (e : ∀ j, j < n → f j = g j) : RdB w B A n g := by
  refine ⟨hg, fun hn => ?_⟩
  obtain ⟨b, o, rfl, hlt, hc⟩ := h.2 hn
  exact ⟨b, o, rfl, hlt, fun j hj => by rw [← e j hj]; exact hc j hj⟩
theorem ByR.ext {w : World} {B n c : Nat} {A : Option Addr} {f g : Nat → Nat} (h : ByR w B A n c f) (hg : ∀ j, g j < 256) (e : ∀ j, j < n → f j = g j) : ByR w B A n c g := ⟨h.1.ext hg e, h.2⟩
/-- The bytes of a slice that came in, their room too. -/
theorem open_byr {H : Type} {enc : TypeId × Value → H} {W : World} {base : Nat} {sp : Nat → Bool} {hd : Bool} {a : Option Addr} {len cap : Nat} {d : DataW H} {p : List MemPlace}
    (h : ∃ fuel, DataW.trod enc Try.prog W base sp hd fuel 23 (Value.slice a len cap).cells.toList = some (d, p)) : ∃ f, ByR W W.heap.size a len cap f := by
  obtain ⟨f, h1, h2, h3, h4⟩ := open_bytes h
  exact ⟨f, h1, h2, h3, h4⟩
/-- What stands from p on. -/
theorem ByR.drop {w : World} {B n c p : Nat} {a : Addr} {A2 : Option Addr} {f : Nat → Nat} (h : ByR w B (some a) n c f) (hp : p ≤ n) (hA : (if c = p then some a else some (a.add p)) = A2) : ByR w B A2 (n - p) (c - p) (fun j => f (j + p)) := by
  obtain ⟨h1, h2, h3, h4⟩ := h
  refine ⟨⟨fun j => h1.1 _, fun hn => ?_⟩, fun h => ?_, by omega, by omega⟩
  · obtain ⟨b, o, e, hb, hcc⟩ := h1.2 (by omega)
    cases e
    rw [if_neg (by omega)] at hA
    have e : (⟨b, o, none⟩ : Addr).add p = ⟨b, o + p, none⟩ := by unfold Addr.add; split <;> simp_all
    rw [e] at hA
    refine ⟨b, o + p, hA.symm, hb, fun j hj => ?_⟩
    have := hcc (j + p) (by omega)
    rw [show o + p + j = o + (j + p) by omega]
    exact this
  · rw [h] at hA; split at hA <;> cases hA
/-- The first m of them, room for no more than k. -/
theorem ByR.cut {w : World} {B n c : Nat} {A : Option Addr} {f : Nat → Nat} (h : ByR w B A n c f) (k : Nat) (hk : n ≤ k) (hkc : k ≤ c) : ByR w B A n k f :=
  ⟨h.1, fun e => by have := h.2.1 e; omega, hk, by have := h.2.2.2; omega⟩
theorem ByR.other {w : World} {B n c : Nat} {A : Option Addr} {f : Nat → Nat} (h : ByR w B A n c f) (p : Addr) (u : Value) (hne : ∀ b, A.map (·.block) = some b → b ≠ p.block) : ByR (w.setCell p u) B A n c f := by
  refine ⟨⟨h.1.1, fun hn => ?_⟩, h.2⟩
  obtain ⟨b, o, rfl, hlt, hc⟩ := h.1.2 hn
  exact ⟨b, o, rfl, hlt, fun j hj => (World.cell?_setCell_other _ _ _ _ (fun e => hne b rfl (by first | exact congrArg Addr.block e | exact (congrArg Addr.block e).symm))).trans (hc j hj)⟩
theorem ByR.drew {w : World} {B n c : Nat} {A : Option Addr} {f : Nat → Nat} (h : ByR w B A n c f) : ByR w.drew B A n c f := h
theorem bytesL_ext {n : Nat} {f g : Nat → Nat} (h : ∀ j, j < n → f j = g j) : bytesL n f = bytesL n g := by
  unfold bytesL
  exact List.map_congr_left fun j hj => by rw [h j (List.mem_range.1 hj)]
/-- One more byte behind a row of the call's own, whose bytes are F's. -/
theorem run_oneB (w : World) (base : Nat) (A : Option Addr) (n c : Nat) (F : Nat → Nat) (hF : ∀ j, F j < 256) (hown : w.ownsRow base 5 1 (.slice A n c) n (bytesL n F)) (x : Nat) (hx : x = F n) (hn : n ≤ 1000000000) (hbase : base ≤ w.heap.size) :
    ∃ A' c' w', (Builtin.append_ #[23, 23] 23 #[.slice A n c, .slice (some ⟨w.heap.size, 0, none⟩) 1 1]).run Try.prog (w.alloc (.cells #[.int .u8 (x : Int)] 5)) = .ok (.slice A' (n + 1) c') w' ∧
      w'.ownsRow base 5 1 (.slice A' (n + 1) c') (n + 1) (bytesL (n + 1) F) ∧ Below base w w' := by
  subst hx
  have hb1 : Below base w (w.alloc (.cells #[.int .u8 (F n : Int)] 5)) := (Below.refl base w).alloc hbase _
  have hr : RdB (w.alloc (.cells #[.int .u8 (F n : Int)] 5)) (w.alloc (.cells #[.int .u8 (F n : Int)] 5)).heap.size (some ⟨w.heap.size, 0, none⟩) 1 (fun _ => F n) :=
    ⟨fun _ => hF n, fun _ => ⟨w.heap.size, 0, rfl, by simp, fun j hj => by
      obtain rfl : j = 0 := by omega
      rw [cell_of_row _ _ _ _ _ (0, 0) (heap_alloc_new w _)]; rfl⟩⟩
  obtain ⟨A', c', w', h1, h2, h3⟩ := run_more (w.alloc (.cells #[.int .u8 (F n : Int)] 5)) base _ (.slice A n c) n F (hown.alloc _) (some ⟨w.heap.size, 0, none⟩) 1 1 (fun _ => F n) hr (by omega) 23 (fun h => by cases h) (Nat.le_trans hbase hb1.size)
  refine ⟨A', c', w', h1, ?_, hb1.trans h3⟩
  rw [← bytesL_ext (f := cat F n (fun _ => F n)) (g := F)]
  · exact h2
  · intro j hj
    unfold cat
    split
    · rfl
    · rw [show j = n by omega]
/-- make([]byte, 0, n) -/
theorem make_cap8 (n : Nat) (h : n ≤ 1000000000) : ∀ u : World, (Instr.makeSlice 23 (.int .i64 0) (.int .i64 (n : Int))).run Try.prog u =
      .ok (.slice (some ⟨u.heap.size, 0, none⟩) 0 n) (u.alloc (.cells (madeCells #[.int .u8 0] n) 5)) := fun u => by
  obtain ⟨i0, hi, hz0, hz1, hz2⟩ := info_parts infoU8
  have h := run_make (P := Try.prog) u 23 5 i0 _ Try.underlying23 hi hz0 .i64 .i64 0 (n : Int) (by omega) (by omega) (by rw [hz2]; omega) (by omega)
  rw [Int.toNat_natCast, hz1, Nat.mul_one] at h
  exact h
theorem own_madeB (u : World) (n : Nat) (h : n ≤ 1000000000) (F : Nat → Nat) : (u.alloc (.cells (madeCells #[.int .u8 0] n) 5)).ownsRow u.heap.size 5 1 (.slice (some ⟨u.heap.size, 0, none⟩) 0 n) 0 (bytesL 0 F) :=
  World.ownsRow_made u _ n (Nat.le_refl _) (by unfold maxLen; omega) (by simp [madeCells])
/-- How many bytes the first k of some slices have, and which. -/
def sumU (n : Nat → Nat) : Nat → Nat
  | 0 => 0
  | k + 1 => sumU n k + n k
def catU (n : Nat → Nat) (f : Nat → Nat → Nat) : Nat → Nat → Nat
  | 0, _ => 0
  | k + 1, j => cat (catU n f k) (sumU n k) (f k) j
theorem catU_lt {n : Nat → Nat} {f : Nat → Nat → Nat} (hf : ∀ i j, f i j < 256) : ∀ k j, catU n f k j < 256
  | 0, _ => by show 0 < 256; omega
  | k + 1, j => by show cat _ _ _ _ < 256; exact cat_lt (catU_lt hf k) (hf k) j
theorem sumU_mono (n : Nat → Nat) {a b : Nat} (h : a ≤ b) : sumU n a ≤ sumU n b := by
  induction h with
  | refl => exact Nat.le_refl _
  | step _ ih => exact Nat.le_trans ih (Nat.le_add_right _ _)
/-- k slices of bytes in a row at A. -/
def RowsB (w : World) (B : Nat) (A : Option Addr) (k : Nat) (n : Nat → Nat) (f : Nat → Nat → Nat) : Prop :=
  0 < k → ∃ b o, A = some ⟨b, o, none⟩ ∧ b < B ∧ ∀ i, i < k → ∃ Ai ci, w.cell? ⟨b, o + i, none⟩ = some (.slice Ai (n i) ci) ∧ RdB w B Ai (n i) (f i) ∧ (Ai = none → ci = 0)
theorem RowsB.below {w w' : World} {B B' k : Nat} {A : Option Addr} {n : Nat → Nat} {f : Nat → Nat → Nat} (h : RowsB w B A k n f) (hb : Below B' w w') (hB : B ≤ B') : RowsB w' B A k n f := fun hk => by
  obtain ⟨b, o, h1, h2, h3⟩ := h hk
  refine ⟨b, o, h1, h2, fun i hi => ?_⟩
  obtain ⟨Ai, ci, q1, q2, q3⟩ := h3 i hi
  exact ⟨Ai, ci, by rw [hb.cell (p := ⟨b, o + i, none⟩) (by show b < B'; omega)]; exact q1, q2.below hb hB, q3⟩
end Go.Proofs.Ytgkbnmknlmapdaa
