/-
  Layer 5 (tree): what the document's own Grow answers.
-/
import Derived.Test.YtedjapamimhglaaTreeGrw
import Derived.Laws.ResultCell
namespace Go.Proofs.Ytedjapamimhglaa
open Go.RowKit
/-- The tree that is told of lengths: theirs, where they may be; else none. -/
def grC (f : Nat → Nat) (n : Nat) (most : Int) (m : Nat) : Int := if checkE f n most = 0 then (tcN f m n : Int) else 0
def grS (f : Nat → Nat) (n : Nat) (most : Int) : List Int := if checkE f n most = 0 then natsI (symL f n 15) else []
theorem cell_tree {fn : Func} {p u : Tmp} (h : fn.results = #[.cell p 25, .tmp u]) (tmps : Array Value) (w : World) (g : Nat) (c : Nat → Int) (v : Value) (hp : tmps.getD p undef = .pointer (some ⟨g, 0, none⟩)) (ht : TreA w g c v) :
    (results fn tmps).run Try.prog w = .ok (.tuple #[.agg (trA c v), tmps.getD u undef]) w := by
  have hp' : tmps[p]?.getD undef = .pointer (some ⟨g, 0, none⟩) := by simpa using hp
  have hl := run_loadVar_row (P := Try.prog) w g 25 25 (trA c v) (0, 0) _ ht Try.underlying25 rfl (by rw [trA_size]; exact szTree)
  simp [results, h, hp', asAddr, hl]
set_option maxRecDepth 100000 in
set_option maxHeartbeats 1000000 in
theorem rgrow_any (w : World) (A : Option Addr) (n c : Nat) (f : Nat → Nat) (most : Int) (hr : RdB w w.heap.size A n f) :
    Calls Try.prog 16 #[.slice A n c, .int .i64 most] w fun e w' => ∃ v, e = .returned (.tuple #[.agg (trA (grC f n most) v), .int .i64 (checkE f n most)]) ∧ OwnS w' w.heap.size v (grS f n most) ∧ Below w.heap.size w w' := by
  have hz := (zero_of_info infoTree).1
  have HR := Lib.hid hr
  clear hr
  obtain ⟨E, hE⟩ : ∃ E, E = checkE f n most := ⟨_, rfl⟩
  have hck := fun W (h : Below w.heap.size w W) => rcheck_any W W.heap.size A n c f most ((HR.out.below h (Nat.le_refl _)).more h.size)
  rw [← hE] at hck ⊢
  have HCK := Lib.hid hck
  clear hck
  have hb1 := (Below.refl w.heap.size w).alloc (Nat.le_refl _) (.cells (trA (fun _ => 0) (.slice none 0 0)) 25)
  have ht1 : TreA (w.alloc (.cells (trA (fun _ => 0) (.slice none 0 0)) 25)) w.heap.size (fun _ => 0) (.slice none 0 0) := heap_alloc_new w _
  have HB1 := Lib.hid hb1; have HT1 := Lib.hid ht1
  clear hb1 ht1
  by_cases h0 : E = 0
  · have hn : n ≤ 320 := (check_ok (hE.symm.trans h0)).2.2.1
    have e1 : (fun m => (tcN f m n : Int)) = grC f n most := by funext m; unfold grC; rw [if_pos (by rw [← hE]; exact h0)]
    have e2 : natsI (symL f n 15) = grS f n most := by unfold grS; rw [if_pos (by rw [← hE]; exact h0)]
    have hgr := fun W (h : Below w.heap.size w W) => grown_any W A n c f ((HR.out.below h (Nat.le_refl _)).more h.size) (by omega)
    rw [e1, e2] at hgr
    have HGR := Lib.hid hgr
    clear hE hgr e1 e2
    subst h0
    go_enter Try.func16, Try.ntmps16
    go_wp2_with fail
    refine (HCK.out _ HB1.out).mono ?_
    rintro e w' ⟨rfl, rfl⟩
    go_wp2_with fail
    refine (HGR.out _ HB1.out).mono ?_
    rintro e w2 ⟨v, rfl, hv, hb⟩
    have ht2 := HT1.out.below hb HT1.out.lt
    have hb2 := HB1.out.trans (hb.mono HB1.out.size)
    have h1 := hv.one
    have HT2 := Lib.hid ht2; have HB2 := Lib.hid hb2; have HV := Lib.hid hv; have H1 := Lib.hid h1
    clear hb ht2 hb2 hv h1
    go_wp2_with (refine wpList_store_rowT rfl _ _ _ rfl w.heap.size (trA (grC f n most) v) rfl rfl _ (trA (fun _ => 0) (.slice none 0 0)) HT2.out (by rw [trA_size]; exact szTree) (by rw [trA_size, trA_size]) (trA_one _ _ H1.out) ?_)
    refine bodyPost_ret (v := .tuple #[.agg (trA (grC f n most) v), .int .i64 0]) ((cell_tree rfl _ _ w.heap.size _ _ rfl (setRow_tre HT2.out)).trans rfl) rfl ⟨v, rfl, ?_, below_setRowT HB2.out (Nat.le_refl _) _⟩
    exact (HV.out.same (w' := w2.setRow w.heap.size (trA (grC f n most) v)) (fun g hg => setRow_other _ _ _ _ (by simp at hg; omega))).lower (by simp)
  · have hne : (E != 0) = true := by simpa using h0
    have e1 : grC f n most = fun _ => 0 := by funext m; unfold grC; rw [if_neg (by rw [← hE]; exact h0)]
    have e2 : grS f n most = [] := by unfold grS; rw [if_neg (by rw [← hE]; exact h0)]
    rw [e1, e2]
    clear hE h0 e1 e2
    go_enter Try.func16, Try.ntmps16
    go_wp2_with fail
    refine (HCK.out _ HB1.out).mono ?_
    rintro e w' ⟨rfl, rfl⟩
    have hs1 := fun (v : Value) (h : v.oneCell' = true) => trA_one (fun _ => 0) v h
    go_wp2_with (refine wpList_store_rowT rfl _ _ _ rfl w.heap.size (trA (fun _ => 0) (.slice none 0 0)) rfl rfl 25 (trA (fun _ => 0) (.slice none 0 0)) HT1.out (by rw [trA_size]; exact szTree) rfl (hs1 _ rfl) ?_)
    refine bodyPost_ret (v := .tuple #[.agg (trA (fun _ => 0) (.slice none 0 0)), .int .i64 E]) ((cell_tree rfl _ _ w.heap.size _ _ rfl (setRow_tre HT1.out)).trans rfl) rfl ⟨_, rfl, World.ownsRow_nil _ _ _ 1, below_setRowT HB1.out (Nat.le_refl _) _⟩
end Go.Proofs.Ytedjapamimhglaa
