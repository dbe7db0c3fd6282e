/-
  Words for every layer: an array of numbers that came in, opened; two arrays of numbers, compared.
-/
import Derived.Test.YtedjapamimhglaaBase
import Derived.ChangeKeysEq
import Derived.Laws.StructEq
import Derived.Deep.MidRow
namespace Go.Proofs.Ytedjapamimhglaa
open Go.RowKit Go.ChangeShapes Go.WideShapes Go.ChangeAt
theorem open_nums {H : Type} {enc : TypeId × Value → H} {P : Program} {W : World} {base : Nat} {sp : Nat → Bool} {hd : Bool} {t e : TypeId} {n : Nat} {q : IntKind} (ht : P.underlying t = some (.array n e)) (he : P.underlying e = some (.int q))
    (hce : P.cellsOf e = 1) (hct : P.cellsOf t = n) {v : Value} {r : Reach} {b0 : Nat} {d : DataW H} {p : List MemPlace} (hv : Value.okWide P W r b0 t v) (h : ∃ fuel, DataW.trod enc P W base sp hd fuel t v.cells.toList = some (d, p)) :
    ∃ (xs : Array Value) (f : Nat → Int), v = .agg xs ∧ xs.size = n ∧ (∀ i, i < n → xs[i]? = some (.int q (f i))) ∧ ∀ i, i < n → (Lit.int q (f i)).wf = true := by
  simp only [Value.okWide, ht] at hv
  obtain ⟨xs, rfl, h2, _⟩ := hv
  rw [hct] at h2
  obtain ⟨fuel, hf⟩ := h
  obtain ⟨ys, m, rfl, hx, hl, hyl, hget⟩ := DataW.trod_array ht hf
  have key : ∀ i, i < n → ∃ z, xs[i]? = some (.int q z) ∧ (Lit.int q z).wf = true := by
    intro i hi
    have h3 := hget i hi
    rw [hce, Nat.mul_one] at h3
    have h4 : ((Value.agg xs).cells.toList.drop i).take 1 = [xs[i]] := by
      show (xs.toList.drop i).take 1 = _
      rw [List.drop_eq_getElem_cons (by simpa using (by omega : i < xs.size))]
      simp
    rw [h4] at h3
    obtain ⟨y, hy⟩ : ∃ y, ys[i]? = some y := ⟨ys[i], by simp [hyl, hi]⟩
    rw [hy] at h3
    obtain ⟨z, hz, _, hw⟩ := DataW.trod_int he h3
    refine ⟨z, ?_, hw⟩
    have : xs[i] = .int q z := by simpa using hz
    rw [← this]; simp
  refine ⟨xs, fun i => if h : i < n then (key i h).choose else 0, rfl, h2, fun i hi => ?_, fun i hi => ?_⟩
  · simp only [hi, dif_pos]; exact (key i hi).choose_spec.1
  · simp only [hi, dif_pos]; exact (key i hi).choose_spec.2
theorem run_eqItems_nums {P : Program} (w : World) (d : Nat) {e : TypeId} {q : IntKind} (he : P.underlying e = some (.int q)) (xs ys : Array Value) (f g : Nat → Int) : ∀ (is : List Nat),
    (∀ i ∈ is, xs[i]? = some (.int q (f i)) ∧ ys[i]? = some (.int q (g i))) → (Op.eqItems (d + 1) e 1 xs ys is).run P w = .ok (decide (∀ i ∈ is, f i = g i)) w
  | [], _ => by simp [Op.eqItems]
  | i :: is, h => by
    obtain ⟨h1, h2⟩ := h i (by simp)
    have hp : ∀ (zs : Array Value) (z : Int), zs[i]? = some (.int q z) → (part e zs (i * 1)).run P w = .ok (.int q z) w := by
      intro zs z hz
      unfold part isAgg
      simp [Sem.run_bind, run_underlying he, hz]
    have h3 : (Op.equalIn (d + 1) e (.int q (f i)) (.int q (g i))).run P w = .ok (f i == g i) w := run_equalIn_int w d e q q _ _ he
    simp only [Op.eqItems, Sem.run_bind, hp _ _ h1, hp _ _ h2, h3, Result.andThen_ok]
    have ih := run_eqItems_nums w d he xs ys f g is (fun j hj => h j (by simp [hj]))
    by_cases hc : f i = g i
    · simp [hc, ih]
    · simp [hc]
theorem run_eql_nums {P : Program} (w : World) {t e : TypeId} {n : Nat} {q : IntKind} (ht : P.underlying t = some (.array n e)) (he : P.underlying e = some (.int q)) (hce : P.cellsOf e = 1) (hi : (P.info? e).isSome = true)
    (xs ys : Array Value) (f g : Nat → Int) (hx : ∀ i, i < n → xs[i]? = some (.int q (f i))) (hy : ∀ i, i < n → ys[i]? = some (.int q (g i))) :
    (binOp .eql t (.agg xs) (.agg ys)).run P w = .ok (.bool (decide (∀ i, i < n → f i = g i))) w := by
  obtain ⟨i, hi⟩ := Option.isSome_iff_exists.1 hi
  have h := run_equalIn_array (P := P) w 9999 xs ys ht hi
  rw [hce, run_eqItems_nums w 9998 he xs ys f g (List.range n) (fun i hi => by have := List.mem_range.1 hi; exact ⟨hx i this, hy i this⟩)] at h
  have e : (binOp .eql t (.agg xs) (.agg ys)).run P w = ((Op.equal t (.agg xs) (.agg ys)).run P w).andThen fun b w' => .ok (.bool b) w' := by
    unfold binOp
    simp
  rw [e]
  unfold Op.equal Op.maxDepth
  rw [h]
  simp
end Go.Proofs.Ytedjapamimhglaa
