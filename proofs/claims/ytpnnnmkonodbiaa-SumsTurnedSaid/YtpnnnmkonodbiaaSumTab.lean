/-
  Layer 2 (sums): what sums.Table and the document's own Table, Row and step answer: the table's 256 numbers.
-/
import Derived.Test.YtpnnnmkonodbiaaSumNum
import Derived.Test.YtpnnnmkonodbiaaBase
import Derived.Deep.WholeRow
import Derived.StillTailTactics
import Derived.OneCell
import Derived.Deep.MidRow
namespace Go.Proofs.Ytpnnnmkonodbiaa
open Go.RowKit
/-- A table: 256 numbers of 32 bits. -/
def tabL (g : Nat → Nat) : List Value := (List.range 256).map fun i => .int .u32 (g i : Int)
def tabA (g : Nat → Nat) : Array Value := (tabL g).toArray
theorem tabL_length (g : Nat → Nat) : (tabL g).length = 256 := by simp [tabL]
theorem tabA_size (g : Nat → Nat) : (tabA g).size = 256 := by simp [tabA, tabL]
theorem tabA_get (g : Nat → Nat) (i : Nat) : (tabA g)[i]? = if i < 256 then some (.int .u32 (g i : Int)) else none := by
  unfold tabA tabL
  by_cases h : i < 256 <;> simp [h]
theorem tabA_one (g : Nat → Nat) : (tabA g).all (·.oneCell') = true := by
  rw [Array.all_eq_true]
  intro i hi
  have : (tabA g)[i] = .int .u32 (g i : Int) := by simp [tabA, tabL]
  rw [this]; rfl
theorem tabA_ext {g h : Nat → Nat} (e : ∀ i, i < 256 → g i = h i) : tabA g = tabA h := by
  apply Array.ext_getElem?
  intro i
  rw [tabA_get, tabA_get]
  split
  · rename_i hi; rw [e i hi]
  · rfl
theorem tabA_set (g : Nat → Nat) (i x : Nat) : (tabA g).setIfInBounds i (.int .u32 (x : Int)) = tabA (upd g i x) := by
  apply Array.ext_getElem?
  intro j
  rw [Array.getElem?_setIfInBounds, tabA_get, tabA_get, tabA_size]
  unfold upd
  by_cases e : i = j
  · subst e
    by_cases h : i < 256 <;> simp [h]
  · have e' : ¬ j = i := fun h => e h.symm
    simp [e, e']
def zero0 (_ : Nat) : Nat := 0
theorem infoTab : (Try.prog.info? 23).map (fun i => (i.zero, i.size)) = some (some (.agg (tabA zero0)), 256) := by kernel_rfl
theorem szTab : (Try.prog.info? 23).map (·.size) = some 256 := (zero_of_info infoTab).2
/-- A block that holds a table. -/
def Tab (w : World) (b : Nat) (g : Nat → Nat) : Prop := w.heap[b]? = some (.cells (tabA g) 23 (0, 0))
theorem Tab.lt {w : World} {b : Nat} {g : Nat → Nat} (h : Tab w b g) : b < w.heap.size := (Array.getElem?_eq_some_iff.1 h).1
theorem Tab.cell {w : World} {b : Nat} {g : Nat → Nat} (h : Tab w b g) {j : Nat} (hj : j < 256) : w.cell? ⟨b, j, none⟩ = some (.int .u32 (g j : Int)) := by
  rw [cell_of_row w b j _ _ (0, 0) h, tabA_get, if_pos hj]
theorem Tab.frozen {w : World} {b : Nat} {g : Nat → Nat} (h : Tab w b g) (j : Nat) : w.frozen? ⟨b, j, none⟩ = false := frozen_of_row w b j _ _ h
theorem Tab.set {w : World} {b : Nat} {g : Nat → Nat} (h : Tab w b g) (i x : Nat) : Tab (w.setCell ⟨b, i, none⟩ (.int .u32 (x : Int))) b (upd g i x) := by
  unfold Tab
  rw [heap_setCell_same w b i _ _ _ h, tabA_set]
theorem Tab.other {w : World} {b : Nat} {g : Nat → Nat} (h : Tab w b g) {p : Addr} (hp : b ≠ p.block) (u : Value) : Tab (w.setCell p u) b g := (Below.heap_setCell w p u b hp).trans h
theorem Tab.alloc {w : World} {b : Nat} {g : Nat → Nat} (h : Tab w b g) (o : Obj) : Tab (w.alloc o) b g := (Below.heap_alloc w o b h.lt).trans h
theorem Tab.below {w w' : World} {b B : Nat} {g : Nat → Nat} (h : Tab w b g) (hb : Below B w w') (hg : b < B) : Tab w' b g := (hb.block b hg).trans h
theorem tab_new (w : World) (g : Nat → Nat) : Tab (w.alloc (.cells (tabA g) 23)) w.heap.size g := heap_alloc_new w _
theorem Tab.load {w : World} {b : Nat} {g : Nat → Nat} (h : Tab w b g) : (loadVar 23 ⟨b, 0, none⟩).run Try.prog w = .ok (.agg (tabA g)) w :=
  run_loadVar_row (P := Try.prog) w b _ _ _ (0, 0) _ h Try.underlying23 rfl (by rw [tabA_size]; exact szTab)
theorem tabL_get (g : Nat → Nat) (i : Nat) : (tabL g)[i]? = if i < 256 then some (.int .u32 (g i : Int)) else none := by
  have := tabA_get g i
  unfold tabA at this
  simpa using this
theorem Tab.range {w : World} {b : Nat} {g : Nat → Nat} (h : Tab w b g) : w.rangeAt b 0 (tabL g) := fun j v hv => by
  rw [Nat.zero_add, cell_of_row w b j _ _ (0, 0) h, tabA_get]
  rw [tabL_get] at hv
  exact hv
theorem tab_of {xs : Array Value} {f : Nat → Int} (hs : xs.size = 256) (hx : ∀ i, i < 256 → xs[i]? = some (.int .u32 (f i))) (hw : ∀ i, i < 256 → (Lit.int .u32 (f i)).wf = true) : ∃ g : Nat → Nat, xs = tabA g ∧ ∀ i, i < 256 → g i < 4294967296 := by
  refine ⟨fun i => (f i).toNat, ?_, fun i hi => ?_⟩
  · apply Array.ext_getElem?
    intro i
    rw [tabA_get]
    by_cases hi : i < 256
    · rw [if_pos hi, hx i hi, Int.toNat_of_nonneg (wf_u32_range (hw i hi)).1]
    · rw [if_neg hi]; simp; omega
  · have := wf_u32_range (hw i hi)
    show (f i).toNat < 4294967296
    omega
/-! ### the document's own -/
set_option maxHeartbeats 400000 in
theorem rstep_any (w : World) (x : Nat) (hx : x < 4294967296) :
    Calls Try.prog 20 #[.int .u32 (x : Int)] w fun e w' => e = .returned (.int .u32 (stepN x : Nat)) ∧ w = w' := by
  by_cases h : x % 2 = 1
  · have hh : x / 2 < 4294967296 := by omega
    have hr : bits .xor .u32 ((x / 2 : Nat) : Int) 3988292384 = ((stepN x : Nat) : Int) := by
      have := u32_xor (x / 2) 3988292384 hh (by omega)
      unfold stepN; rw [if_pos h]; exact this
    have H := Lib.hid hr; clear hr
    have h1 : ((x : Int) % 2 == 1) = true := by simp; omega
    clear h
    go_enter Try.func20, Try.ntmps20
    go_wp2
    go_ret
    exact ⟨ret_int H.out, rfl⟩
  · have hr : ((x : Int) / 2) = ((stepN x : Nat) : Int) := by unfold stepN; rw [if_neg h]; omega
    have H := Lib.hid hr; clear hr
    have h1 : ((x : Int) % 2 == 1) = false := by simp; omega
    clear h
    go_enter Try.func20, Try.ntmps20
    go_wp2
    go_ret
    exact ⟨ret_int H.out, rfl⟩
set_option maxHeartbeats 400000 in
theorem rrow_any (w : World) (i : Nat) (hi : i < 256) :
    Calls Try.prog 19 #[.int .i64 (i : Int)] w fun e w' => e = .returned (.int .u32 (rowN i : Nat)) ∧ w = w' := by
  go_enter Try.func19, Try.ntmps19
  go_wp2
  go_loop [3, 4] (fun x k => ∃ j : Nat, j ≤ 8 ∧ k = .int .i64 j ∧ x = .int .u32 (stepsN i j : Nat)) (fun _ k => 8 - (intOf k).toNat)
  case atStart => exact ⟨0, Nat.zero_le _, rfl, by simp only [stepsN]⟩
  case round =>
    obtain ⟨j, hj, rfl, rfl⟩ := hrel
    have hl := stepsN_lt (x := i) (by omega) j
    have hl2 := stepsN_lt (x := i) (by omega) (j + 1)
    by_cases hlt : j < 8
    · go_wp2_with (go_at_call 20; refine (rstep_any _ _ hl).mono ?_; rintro e w' ⟨rfl, rfl⟩)
      refine ⟨⟨j + 1, hlt, by go_num, rfl⟩, by simp [intOf]; omega⟩
    · go_wp2
      go_ret
      obtain rfl : j = 8 := by omega
      exact ⟨rfl, rfl⟩
end Go.Proofs.Ytpnnnmkonodbiaa
