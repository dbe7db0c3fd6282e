/-
  The law BlockLongs over what the program's functions are asked to answer: the fixed lengths, the order, how long a block is, the best kind.
-/
import Derived.StillTail
import Derived.Deep.RegionLaw
import Derived.Deep.RegionWith
import Derived.BigRegion
import Derived.Test.YtjhljkhgjcckhaaGreatMhac
import Derived.Test.YtjhljkhgjcckhaaGreatMhad
import Derived.Test.YtjhljkhgjcckhaaGreatMhag
import Derived.Test.YtjhljkhgjcckhaaGreatMhai
import Derived.Test.YtjhljkhgjcckhaaGreatMhav
namespace Go.Proofs.YtjhljkhgjcckhaaGreat
open Go.RowKit
/-- T is told of v in w, and in all worlds that come after w. -/
def Up (T : Value → World → Prop) (v : Value) (w : World) : Prop := ∀ W, Below w.heap.size w W → T v W
theorem Up.here {T : Value → World → Prop} {v : Value} {w : World} (h : Up T v w) : T v w := h w (Below.refl _ _)
theorem Up.on {T : Value → World → Prop} {v : Value} {w w' : World} (h : Up T v w) (hb : Below w.heap.size w w') : Up T v w' := fun W hW => h W (hb.trans (hW.mono hb.size))
/-- All that is written, in one frame: the value of each place is told by vals. -/
def putL : List (Option Tmp) → (Tmp → Value) → Act → Act
  | [], _, a => a
  | none :: r, vals, a => putL r vals a
  | some d :: r, vals, a => putL r vals (a.put (some d) (vals d))
theorem putL_defers : ∀ (l : List (Option Tmp)) (vals : Tmp → Value) (a : Act), (putL l vals a).defers = a.defers
  | [], _, _ => rfl
  | none :: r, vals, a => putL_defers r vals a
  | some d :: r, vals, a => by rw [putL, putL_defers r vals]; rfl
theorem putL_in : ∀ (l : List (Option Tmp)) (vals : Tmp → Value) (a : Act) (s : Tmp), (some s ∈ l ∨ a.tmps[s]? = some (vals s)) → s < a.tmps.size → (putL l vals a).tmps[s]? = some (vals s)
  | [], vals, a, s, h, _ => by
    rcases h with h | h
    · cases h
    · exact h
  | none :: r, vals, a, s, h, hs => putL_in r vals a s (h.imp (fun h => by simpa using h) id) hs
  | some d :: r, vals, a, s, h, hs => by
    refine putL_in r vals _ s ?_ (by simpa [Act.put] using hs)
    by_cases e : d = s
    · right; subst e; simp [Act.put, hs]
    · rcases h with h | h
      · left
        rcases List.mem_cons.1 h with h | h
        · exact absurd (Option.some.inj h).symm e
        · exact h
      · right; simpa [Act.put, Array.getElem?_setIfInBounds_ne e] using h
theorem putL_out : ∀ (l : List (Option Tmp)) (vals : Tmp → Value) (a : Act) (s : Tmp), some s ∉ l → (putL l vals a).tmps[s]? = a.tmps[s]?
  | [], _, _, _, _ => rfl
  | none :: r, vals, a, s, h => putL_out r vals a s (fun g => h (List.mem_cons_of_mem _ g))
  | some d :: r, vals, a, s, h => by
    rw [putL, putL_out r vals _ s (fun g => h (List.mem_cons_of_mem _ g))]
    have e : d ≠ s := fun e => h (by rw [e]; exact List.mem_cons_self ..)
    simp [Act.put, Array.getElem?_setIfInBounds_ne e]
/-- No two operations write the same place, all write places of the frame, and each waits for earlier ones alone. -/
def tabB (l : List Oper) (n : Nat) : Bool := decide (l.filterMap (·.dst)).Nodup && (l.all fun o => match o.dst with | some d => decide (d < n) | none => true) && ((List.range l.length).all fun i => match l[i]? with
  | some o => o.after.all fun e => !Region.binds .any e || decide (e.on < i)
  | none => true)
def offB (l : List Oper) (s : Tmp) : Bool := l.all fun o => o.dst != some s
/-- What is asked of the k-th operation. -/
def TabStep (P : Program) (l : List Oper) (T : Nat → Value → World → Prop) (a0 : Act) (U : World) (k : Nat) (o : Oper) : Prop :=
  ∀ (a : Act) (w : World), Below U.heap.size U w → (∀ s, offB l s = true → a.eval (.tmp s) = a0.eval (.tmp s)) → (∀ j d, Region.waitsFor .any l.toArray k j = true → (l[j]?).bind (·.dst) = some d → Up (T j) (a.eval (.tmp d)) w) →
    ∀ (K : Act → World → Prop) (Q : Exit → Act → World → Prop), (∀ v w', Below w.heap.size w w' → Up (T k) v w' → K (a.put o.dst v) w') → if Region.wanted o (yielded l.toArray a.tmps) = true then Oper.wp P o a w K Q else K (a.put o.dst undef) w
def TabAll (P : Program) (l : List Oper) (T : Nat → Value → World → Prop) (a0 : Act) (U : World) : Nat → List Oper → Prop
  | _, [] => True
  | k, o :: r => TabStep P l T a0 U k o ∧ TabAll P l T a0 U (k + 1) r
theorem TabAll.get {P : Program} {l : List Oper} {T : Nat → Value → World → Prop} {a0 : Act} {U : World} : ∀ {r : List Oper} {k : Nat}, TabAll P l T a0 U k r → ∀ {j : Nat} {o : Oper}, r[j]? = some o → TabStep P l T a0 U (k + j) o
  | [], _, _, _, _, h => by cases h
  | _ :: _, k, hA, 0, _, h => by cases h; exact hA.1
  | _ :: r, k, hA, j + 1, o, h => by
    have := TabAll.get (r := r) hA.2 (j := j) (by simpa using h)
    rw [show k + 1 + j = k + (j + 1) by omega] at this
    exact this
structure TabInv (l : List Oper) (T : Nat → Value → World → Prop) (a0 : Act) (U : World) (listed : Array Bool) (a : Act) (w : World) : Prop where
  size : listed.size = l.length
  tmps : a.tmps.size = a0.tmps.size
  defers : a.defers = a0.defers
  below : Below U.heap.size U w
  off : ∀ s, (∀ j d, listed.getD j false = true → (l[j]?).bind (·.dst) = some d → d ≠ s) → a.tmps[s]? = a0.tmps[s]?
  told : ∀ j d, listed.getD j false = true → (l[j]?).bind (·.dst) = some d → Up (T j) (a.eval (.tmp d)) w
theorem offB_is {l : List Oper} {s : Tmp} (h : offB l s = true) {j : Nat} {d : Tmp} (hd : (l[j]?).bind (·.dst) = some d) : d ≠ s := fun e => by
  cases hj : l[j]? with
  | none => rw [hj] at hd; cases hd
  | some y =>
    rw [hj] at hd
    have h1 := List.all_eq_true.1 h y (List.mem_of_getElem? hj)
    have h2 : y.dst = some d := by simpa using hd
    rw [h2, e] at h1; simp at h1
theorem tab_dst {l : List Oper} (h : (l.filterMap (·.dst)).Nodup) {i j : Nat} {x y : Oper} {d : Tmp} (hi : l[i]? = some x) (hj : l[j]? = some y) (hx : x.dst = some d) (hy : y.dst = some d) : i = j := by
  induction l generalizing i j with
  | nil => cases hi
  | cons z r ih =>
    have hr : (r.filterMap (·.dst)).Nodup := by
      rw [List.filterMap_cons] at h
      split at h
      · exact h
      · exact (List.nodup_cons.1 h).2
    have hz : ∀ (q : Nat) (u : Oper), r[q]? = some u → u.dst = some d → z.dst ≠ some d := fun q u hq hu hzd => by
      rw [List.filterMap_cons, hzd] at h
      exact (List.nodup_cons.1 h).1 (List.mem_filterMap.2 ⟨u, List.mem_of_getElem? hq, hu⟩)
    rcases i with _ | i <;> rcases j with _ | j
    · rfl
    · cases hi; exact absurd hx (hz j y (by simpa using hj) hy)
    · cases hj; exact absurd hy (hz i x (by simpa using hi) hx)
    · exact congrArg (· + 1) (ih hr (by simpa using hi) (by simpa using hj))
theorem tab_any {P : Program} {Q : Exit → Act → World → Prop} {a0 : Act} {U : World} {l : List Oper} {T : Nat → Value → World → Prop} (hB : tabB l a0.tmps.size = true) (hstep : TabAll P l T a0 U 0 l)
    (hend : ∀ listed a w, TabInv l T a0 U listed a w → (∀ i, i < l.length → listed.getD i false = true) → Q .normal a w) :
    ∀ (f : Nat) (listed : Array Bool) (a : Act) (w : World), ((List.range l.length).filter fun i => !listed.getD i false).length = f → TabInv l T a0 U listed a w → wpAny P .any l.toArray Q f listed a w := by
  have hB' := hB
  simp only [tabB, Bool.and_eq_true, decide_eq_true_eq] at hB'
  obtain ⟨⟨hnd, hin⟩, hlow⟩ := hB'
  -- where none is ready, all have come up
  have hall : ∀ (listed : Array Bool), listed.size = l.length → Region.ready .any l.toArray listed = [] → ∀ i, i < l.length → listed.getD i false = true := fun listed hsz hr i => by
    induction i using Nat.strongRecOn with
    | _ i ih =>
      intro hi
      cases hu : listed.getD i false with
      | true => rfl
      | false =>
        exfalso
        have h1 := List.all_eq_true.1 hlow i (List.mem_range.2 hi)
        have hoi : l[i]? = some l[i] := List.getElem?_eq_getElem hi
        simp only [hoi] at h1
        have : i ∈ Region.ready .any l.toArray listed := mem_ready.2 ⟨getD_in (by omega) hu, l[i], by simp [hi], fun e he hb => by
          have h2 := Array.all_eq_true_iff_forall_mem.1 h1 e he
          simp only [hb, Bool.not_true, Bool.false_or, decide_eq_true_eq] at h2
          exact ih e.on h2 (by omega)⟩
        rw [hr] at this; cases this
  intro f
  induction f with
  | zero =>
    intro listed a w hf inv
    have hup : ∀ i, i < l.length → listed.getD i false = true := fun i hi => by
      have h0 := List.length_eq_zero_iff.1 hf
      have h1 := List.filter_eq_nil_iff.1 h0 i (List.mem_range.2 hi)
      simpa using h1
    refine ⟨?_, hend listed a w inv hup⟩
    apply List.eq_nil_iff_forall_not_mem.2
    intro i hi
    obtain ⟨h0, o, ho, _⟩ := mem_ready.1 hi
    have hlt : i < l.length := by have := (Array.getElem?_eq_some_iff.1 ho).1; simpa using this
    have h1 := hup i hlt
    rw [getD_both h0] at h1; cases h1
  | succ f ih =>
    intro listed a w hf inv
    refine ⟨fun h0 => hend listed a w inv (hall listed inv.size h0), fun k hk => ?_⟩
    obtain ⟨h0, o, ho, hafter⟩ := mem_ready.1 hk
    have hol : l[k]? = some o := by simpa using ho
    have hlt : k < l.length := (List.getElem?_eq_some_iff.1 hol).1
    have hst : TabStep P l T a0 U k o := by have := hstep.get hol; rwa [Nat.zero_add] at this
    have heval : ∀ s, offB l s = true → a.eval (.tmp s) = a0.eval (.tmp s) := fun s hs => by
      show a.tmps.getD s undef = a0.tmps.getD s undef
      rw [Array.getD_eq_getD_getElem?, Array.getD_eq_getD_getElem?, inv.off s (fun _ _ _ hd => offB_is hs hd)]
    have hfacts : ∀ j d, Region.waitsFor .any l.toArray k j = true → (l[j]?).bind (·.dst) = some d → Up (T j) (a.eval (.tmp d)) w := fun j d hw hd => by
      obtain ⟨ok, hok, e, he, hb, hon⟩ := Region.waitsFor_spec hw
      rw [ho] at hok; cases hok
      exact inv.told j d (by have := hafter e he hb; rwa [hon] at this) hd
    have hdlt : ∀ d, o.dst = some d → d < a.tmps.size := fun d hd => by
      have h1 := List.all_eq_true.1 hin o (List.mem_of_getElem? hol)
      simp only [hd, decide_eq_true_eq] at h1
      rw [inv.tmps]; exact h1
    have hgo := hst a w inv.below heval hfacts (wpAny P .any l.toArray Q f (listed.setIfInBounds k true)) Q (fun v w' hb hv => by
      refine ih _ _ _ ?_ ⟨by simp [inv.size], ?_, ?_, inv.below.trans (hb.mono inv.below.size), fun s hs => ?_, fun j d hl hd => ?_⟩
      · have hfe : ((List.range l.length).filter fun i => !(listed.setIfInBounds k true).getD i false) = ((List.range l.length).filter fun i => !listed.getD i false).erase k := by
          rw [List.Nodup.erase_eq_filter (List.nodup_range.filter _), List.filter_filter]
          apply List.filter_congr
          intro x hx
          by_cases e : x = k
          · subst e
            have : x < listed.size := by rw [inv.size]; exact hlt
            simp [this]
          · rw [getD_set_ne false (Ne.symm e)]; simp [e]
        rw [hfe, List.length_erase_of_mem (List.mem_filter.2 ⟨List.mem_range.2 hlt, by rw [getD_both h0]; rfl⟩), hf]; rfl
      · unfold Act.put; cases o.dst <;> simp [inv.tmps]
      · unfold Act.put; cases o.dst <;> exact inv.defers
      · rw [← inv.off s (fun j d hl hd => hs j d (getD_set_true hl) hd)]
        unfold Act.put
        cases hd : o.dst with
        | none => rfl
        | some d =>
          have e : d ≠ s := hs k d (by have : k < listed.size := by rw [inv.size]; exact hlt
                                       simp [this]) (by rw [hol]; simpa using hd)
          simp [Array.getElem?_setIfInBounds_ne e]
      · by_cases e : j = k
        · subst e
          rw [hol] at hd
          have hd' : o.dst = some d := by simpa using hd
          have hlt2 := hdlt d hd'
          have he : (a.put o.dst v).eval (.tmp d) = v := by rw [hd']; simp [Act.put, Act.eval, hlt2]
          rw [he]; exact hv
        · rw [getD_set_ne false (Ne.symm e)] at hl
          have h1 := inv.told j d hl hd
          have he : (a.put o.dst v).eval (.tmp d) = a.eval (.tmp d) := Act.eval_put fun d' hd' hx => by
            cases hx
            cases hj : l[j]? with
            | none => rw [hj] at hd; cases hd
            | some y =>
              rw [hj] at hd
              exact e (tab_dst hnd hj hol (by simpa using hd) hd')
          rw [he]; exact h1.on hb)
    unfold wpOp
    simp only [ho]
    split at hgo
    · rename_i hw; rw [if_pos hw]; exact .inl hgo
    · rename_i hw; rw [if_neg hw]; exact hgo
/-- A STATEMENT WHOSE ORDER IS OPEN, BY A TABLE T. -/
theorem wp_region_tab {P : Program} {id : Nat} {Q : Exit → Act → World → Prop} {a0 : Act} {w0 : World} {l : List Oper} (T : Nat → Value → World → Prop) (U : World) (hU : Below U.heap.size U w0) (hm : P.follows .mixedOrders = true) (hB : tabB l a0.tmps.size = true)
    (hstep : TabAll P l T a0 U 0 l)
    (hend : ∀ (vals : Tmp → Value) (w : World), Below U.heap.size U w → (∀ j d, (l[j]?).bind (·.dst) = some d → Up (T j) (vals d) w) → Q .normal (putL (l.map (·.dst)) vals a0) w) : (Code.region id l.toArray true).wp P Q a0 w0 := by
  refine wp_region_any hm ?_
  have hl0 : ∀ i, (Array.replicate l.toArray.size false).getD i false = false := fun i => getD_replicate_false _ _
  refine tab_any (T := T) hB hstep (fun listed a w inv hup => ?_) l.toArray.size _ _ _ ?_ ⟨by simp, rfl, rfl, hU.drew, fun _ _ => rfl, fun j d h _ => by rw [hl0] at h; cases h⟩
  · have ha : a = putL (l.map (·.dst)) (fun d => a.eval (.tmp d)) a0 := by
      have ht : a.tmps = (putL (l.map (·.dst)) (fun d => a.eval (.tmp d)) a0).tmps := by
        apply Array.ext_getElem?
        intro s
        by_cases hs : some s ∈ l.map (·.dst)
        · obtain ⟨o, ho, hd⟩ := List.mem_map.1 hs
          simp only [tabB, Bool.and_eq_true, decide_eq_true_eq] at hB
          have h1 := List.all_eq_true.1 hB.1.2 o ho
          simp only [hd, decide_eq_true_eq] at h1
          rw [putL_in _ _ _ s (.inl hs) h1]
          have h2 : s < a.tmps.size := by rw [inv.tmps]; exact h1
          simp [Act.eval, h2]
        · rw [putL_out _ _ _ s hs]
          refine inv.off s (fun j d _ hd e => hs ?_)
          cases hj : l[j]? with
          | none => rw [hj] at hd; cases hd
          | some y =>
            rw [hj] at hd
            exact List.mem_map.2 ⟨y, List.mem_of_getElem? hj, by rw [← e]; simpa using hd⟩
      have hdf : a.defers = (putL (l.map (·.dst)) (fun d => a.eval (.tmp d)) a0).defers := by rw [putL_defers]; exact inv.defers
      cases a with
      | mk t df =>
        generalize hp : putL (l.map (·.dst)) (fun d => (Act.mk t df).eval (.tmp d)) a0 = p at *
        cases p with
        | mk t2 df2 => simp only at ht hdf; rw [ht, hdf]
    rw [ha]
    refine hend _ w inv.below fun j d hd => ?_
    refine inv.told j d (hup j ?_) hd
    cases hj : l[j]? with
    | none => rw [hj] at hd; cases hd
    | some _ => exact (List.getElem?_eq_some_iff.1 hj).1
  · rw [List.filter_eq_self.2 (fun i _ => by rw [hl0]; rfl)]; simp
/-- A guard that is told. -/
theorem tab_on {l : List Oper} {o : Oper} {a : Act} (g : Nat) (b : Bool) (hg : o.guard = some (g, b)) (d : Tmp) (hd : (l[g]?).bind (·.dst) = some d) (hv : a.eval (.tmp d) = .bool b) : Region.wanted o (yielded l.toArray a.tmps) = true := by
  have h1 : a.tmps[d]? = some (.bool b) := by
    have h2 : (a.tmps[d]?).getD undef = .bool b := by rw [← Array.getD_eq_getD_getElem?]; exact hv
    cases h3 : a.tmps[d]? with
    | none => rw [h3] at h2; cases h2
    | some x => rw [h3] at h2; exact congrArg some h2
  have h4 : ((l.toArray[g]?).bind (·.dst)).bind (a.tmps[·]?) = some (.bool b) := by rw [show l.toArray[g]? = l[g]? by simp, hd]; exact h1
  unfold Region.wanted yielded
  rw [hg]
  simp only [h4]
  simp
theorem tab_free {l : List Oper} {o : Oper} {a : Act} (hg : o.guard = none) : Region.wanted o (yielded l.toArray a.tmps) = true := by simp [Region.wanted, hg]
/-- An operation that yields v and leaves the world. -/
theorem tab_val {P : Program} {l : List Oper} {o : Oper} {a : Act} {w : World} {T : Value → World → Prop} {K : Act → World → Prop} {Q : Exit → Act → World → Prop} {E : Prop} (hw : Region.wanted o (yielded l.toArray a.tmps) = true) (v : Value)
    (hr : (execOp a.eval o).run P w = .ok (.value v) w) (hT : Up T v w) (hK : ∀ v w', Below w.heap.size w w' → Up T v w' → K (a.put o.dst v) w') : if Region.wanted o (yielded l.toArray a.tmps) = true then Oper.wp P o a w K Q else E := by
  rw [if_pos hw]
  unfold Oper.wp
  rw [hr]
  exact hK v w (Below.refl _ _) hT
theorem tab_move {P : Program} {l : List Oper} {o : Oper} {a : Act} {w : World} {T : Value → World → Prop} {K : Act → World → Prop} {Q : Exit → Act → World → Prop} {E : Prop} (hw : Region.wanted o (yielded l.toArray a.tmps) = true) (x : Operand) (ho : o.op = .move x)
    (hT : Up T (a.eval x) w) (hK : ∀ v w', Below w.heap.size w w' → Up T v w' → K (a.put o.dst v) w') : if Region.wanted o (yielded l.toArray a.tmps) = true then Oper.wp P o a w K Q else E :=
  tab_val hw (a.eval x) (by simp [execOp, ho]) hT hK
theorem tab_assign {P : Program} {l : List Oper} {o : Oper} {a : Act} {w : World} {T : Value → World → Prop} {K : Act → World → Prop} {Q : Exit → Act → World → Prop} {E : Prop} (hw : Region.wanted o (yielded l.toArray a.tmps) = true) (x : Operand) (ho : o.op = .assign x)
    (hT : Up T (a.eval x) w) (hK : ∀ v w', Below w.heap.size w w' → Up T v w' → K (a.put o.dst v) w') : if Region.wanted o (yielded l.toArray a.tmps) = true then Oper.wp P o a w K Q else E :=
  tab_val hw (a.eval x) (by simp [execOp, ho]) hT hK
theorem tab_pick {P : Program} {l : List Oper} {o : Oper} {a : Act} {w : World} {T : Value → World → Prop} {K : Act → World → Prop} {Q : Exit → Act → World → Prop} {E : Prop} (hw : Region.wanted o (yielded l.toArray a.tmps) = true) (c x y : Operand) (ho : o.op = .pick c x y) (b : Bool) (hc : a.eval c = .bool b)
    (hT : Up T (if b then a.eval x else a.eval y) w) (hK : ∀ v w', Below w.heap.size w w' → Up T v w' → K (a.put o.dst v) w') : if Region.wanted o (yielded l.toArray a.tmps) = true then Oper.wp P o a w K Q else E :=
  tab_val hw (if b then a.eval x else a.eval y) (by simp only [execOp, ho, hc, asBool, Sem.run_bind, Sem.run_pure, Result.andThen_ok]) hT hK
theorem tab_convert {P : Program} {l : List Oper} {o : Oper} {a : Act} {w : World} {T : Value → World → Prop} {K : Act → World → Prop} {Q : Exit → Act → World → Prop} {E : Prop} (hw : Region.wanted o (yielded l.toArray a.tmps) = true) (s t : TypeId) (x : Operand) (ho : o.op = .convert s t x) (v : Value) (hr : (convert s t (a.eval x)).run P w = .ok v w)
    (hT : Up T v w) (hK : ∀ v w', Below w.heap.size w w' → Up T v w' → K (a.put o.dst v) w') : if Region.wanted o (yielded l.toArray a.tmps) = true then Oper.wp P o a w K Q else E :=
  tab_val hw v (by simp only [execOp, ho, Sem.run_bind, hr, Result.andThen_ok]; rfl) hT hK
theorem tab_bin {P : Program} {l : List Oper} {o : Oper} {a : Act} {w : World} {T : Value → World → Prop} {K : Act → World → Prop} {Q : Exit → Act → World → Prop} {E : Prop} (hw : Region.wanted o (yielded l.toArray a.tmps) = true) (b : BinOp) (t t' : TypeId) (x y : Operand) (ho : o.op = .binOp b t x y t') (u z v : Value) (hx : a.eval x = u) (hy : a.eval y = z)
    (hg : (eqGuard b t x y u z).run P w = .ok () w) (hr : (binOp b t u z).run P w = .ok v w)
    (hT : Up T v w) (hK : ∀ v w', Below w.heap.size w w' → Up T v w' → K (a.put o.dst v) w') : if Region.wanted o (yielded l.toArray a.tmps) = true then Oper.wp P o a w K Q else E :=
  tab_val hw v (by simp only [execOp, ho, hx, hy, Sem.run_bind, hg, hr, Result.andThen_ok]; rfl) hT hK
theorem tab_call {l : List Oper} {o : Oper} {a : Act} {w : World} {T : Value → World → Prop} {K : Act → World → Prop} {Q : Exit → Act → World → Prop} {E : Prop} (hw : Region.wanted o (yielded l.toArray a.tmps) = true) (f : FuncId) (xs : Array Operand) (ts : Array TypeId)
    (ho : o.op = .call { callee := .value (.func f), args := xs, argTypes := ts }) (eg : ∀ args w, (callFunc f args).run Tryz.prog w = .ok (.enter f args) w) (args : Array Value) (hx : xs.map a.eval = args) {R : Ending → World → Prop} (hc : Calls Tryz.prog f args w R)
    (h : ∀ e w', R e w' → ∃ v, e = .returned v ∧ Below w.heap.size w w' ∧ Up T v w') (hK : ∀ v w', Below w.heap.size w w' → Up T v w' → K (a.put o.dst v) w') :
    if Region.wanted o (yielded l.toArray a.tmps) = true then Oper.wp Tryz.prog o a w K Q else E :=
  step_call_on hw f xs ts ho eg args hx hc fun e w' hr => by
    obtain ⟨v, he, hb, hv⟩ := h e w' hr
    exact ⟨v, he, hK v w' hb hv⟩
theorem TabAll.nil {P : Program} {l : List Oper} {T : Nat → Value → World → Prop} {a0 : Act} {U : World} {k : Nat} : TabAll P l T a0 U k [] := trivial
theorem TabAll.cons {P : Program} {l : List Oper} {T : Nat → Value → World → Prop} {a0 : Act} {U : World} {k : Nat} {o : Oper} {r : List Oper} (h : ∀ (a : Act) (w : World), Below U.heap.size U w → (∀ s, offB l s = true → a.eval (.tmp s) = a0.eval (.tmp s)) → (∀ j d, Region.waitsFor .any l.toArray k j = true → (l[j]?).bind (·.dst) = some d → Up (T j) (a.eval (.tmp d)) w) →
    ∀ (K : Act → World → Prop) (Q : Exit → Act → World → Prop), (∀ v w', Below w.heap.size w w' → Up (T k) v w' → K (a.put o.dst v) w') → if Region.wanted o (yielded l.toArray a.tmps) = true then Oper.wp P o a w K Q else K (a.put o.dst undef) w) (hr : TabAll P l T a0 U (k + 1) r) : TabAll P l T a0 U k (o :: r) := ⟨h, hr⟩
/-- What is told of each, as a list. -/
def tabT (L : List (Value → World → Prop)) (k : Nat) : Value → World → Prop := (L[k]?).getD fun _ _ => True
theorem eqg_str (P : Program) (b : BinOp) (t : TypeId) (x y : Operand) (A B : ByteArray) (w : World) : (eqGuard b t x y (.string A) (.string B)).run P w = .ok () w := by
  unfold eqGuard; simp [go_sem]
theorem eqg_int (P : Program) (b : BinOp) (t : TypeId) (x y : Operand) (k k' : IntKind) (A B : Int) (w : World) : (eqGuard b t x y (.int k A) (.int k' B)).run P w = .ok () w := by
  unfold eqGuard; simp [go_sem]
theorem eql_str (P : Program) (t : TypeId) (A : ByteArray) (w : World) : (binOp .eql t (.string A) (.string A)).run P w = .ok (.bool true) w := by
  simp [binOp, Op.stringOp, go_sem]
theorem eql_int (P : Program) (t : TypeId) (k : IntKind) (A : Int) (w : World) : (binOp .eql t (.int k A) (.int k A)).run P w = .ok (.bool true) w := by
  simp [binOp, Op.intCmp, go_sem]
theorem up_eq {v x : Value} {w : World} (h : v = x) : Up (fun u _ => u = x) v w := fun _ _ => h
end Go.Proofs.YtjhljkhgjcckhaaGreat

namespace Go.Proofs.YtjhljkhgjcckhaaGreat
open Go.RowKit Go.ChangeShapes Go.WideShapes Go.ChangeAt Go.Joins
theorem eql_ord (T : Nat → Int) (w : World) : (binOp .eql 46 (.agg (tblA T 19)) (.agg (tblA T 19))).run Tryz.prog w = .ok (.bool true) w := by
  rw [run_eql_nums w Tryz.underlying46 Tryz.underlying3 (by kernel_rfl) (by kernel_rfl) (tblA T 19) (tblA T 19) T T (fun i hi => tblA_get T 19 i hi) (fun i hi => tblA_get T 19 i hi)]
  simp
theorem guard_ord (w : World) (x y : Operand) (u v : Array Value) : (eqGuard .eql 46 x y (.agg u) (.agg v)).run Tryz.prog w = .ok () w := by
  have h : Tryz.prog.eqGuardType Tryz.prog.depth 46 = false := by kernel_rfl
  unfold eqGuard
  simp [h, go_sem]
set_option maxRecDepth 100000 in
set_option maxHeartbeats 60000000 in
theorem longs11_walk (HL : LongCon) (HBC : BestCon) (HO : OrderCon) (HF : FixedCon) (a : Int) (kind : Nat) (A1 : Option Addr) (rn rc : Nat) (r : Nat → Nat) (A2 : Option Addr) (m c2 : Nat) (l : List Tok) (w : World)
    (ha1 : -9223372036854775808 ≤ a) (ha2 : a ≤ 9223372036854775807) (hkd : kind < 256) (hrr : ByR w w.heap.size A1 rn rc r) (hrt : TkR w w.heap.size A2 m c2 l) (hin : ∀ t ∈ l, TokIn t) :
    Calls Tryz.prog 4 #[.int .i64 a, .int .u8 (kind : Int), .slice A1 rn rc, .slice A2 m c2] w fun e w' => e = .returned (.bool true) ∧ Below w.heap.size w w' := by
  have HB0 := Lib.hid (Below.refl w.heap.size w)
  by_cases g1 : 500 < rn
  · have d1 : decide (500 < (rn : Int)) = true := by simp; omega
    clear HL HBC HO HF hrr hrt hin
    go_enter Tryz.func4, Tryz.ntmps4
    go_wp2
    go_ret
    exact ⟨rfl, HB0.out⟩
  have d1 : decide (500 < (rn : Int)) = false := by simp; omega
  by_cases g2 : 200 < m
  · have d2 : decide (200 < (m : Int)) = true := by simp; omega
    clear HL HBC HO HF hrr hrt hin
    go_enter Tryz.func4, Tryz.ntmps4
    go_wp2
    go_ret
    exact ⟨rfl, HB0.out⟩
  have d2 : decide (200 < (m : Int)) = false := by simp; omega
  obtain ⟨T, hT⟩ : ∃ T : Nat → Int, T = fun i => (ordN i : Int) := ⟨_, rfl⟩
  have hord := HO
  unfold OrderCon at hord
  have hord2 := fun u => rorder11_any u
  rw [← hT] at hord hord2
  have HORD := Lib.hid hord; have HORD2 := Lib.hid hord2; have HLC := Lib.hid HL; have HBCC := Lib.hid HBC; have HFX := Lib.hid (HF w); have HRR := Lib.hid hrr; have HRT := Lib.hid hrt; have HIN := Lib.hid hin
  have hml := hrt.1
  have HML := Lib.hid hml
  have HX : Hid (∀ t ∈ l, t.x < 256) := Lib.hid fun t ht => (hin t ht).1
  clear hord hord2 hT HL HBC HO HF hrr hrt hin hml HB0
  go_enter Tryz.func4, Tryz.ntmps4
  go_wp2_with fail
  refine HFX.out.mono ?_
  rintro e w1 ⟨B1, k1, B2, k2, rfl, ho1, ho2, -, hb1⟩
  have hlg := HLC.out w1 a kind A1 rn rc r A2 m c2 l ha1 ha2 hkd ((HRR.out.below hb1 (Nat.le_refl _)).more hb1.size) (by omega) ((HRT.out.below hb1 (Nat.le_refl _)).more hb1.size) (by omega) HIN.out
  obtain ⟨V, hV⟩ : ∃ V, V = lngV a kind rn r l := ⟨_, rfl⟩
  obtain ⟨E, hE⟩ : ∃ E, E = lngE a kind rn l := ⟨_, rfl⟩
  rw [← hV, ← hE] at hlg
  have HLG := Lib.hid hlg; have HV := Lib.hid hV; have HE := Lib.hid hE; have HB1 := Lib.hid hb1; have HO1 := Lib.hid ho1; have HO2 := Lib.hid ho2
  clear hlg hV hE hb1 ho1 ho2
  go_wp2_with fail
  refine HLG.out.mono ?_
  rintro e w2 ⟨rfl, hb2⟩
  have hb02 := HB1.out.trans (hb2.mono HB1.out.size)
  have hlg := rlong11_any w2 a kind A1 rn rc r A2 m c2 l hkd ((HRR.out.below hb02 (Nat.le_refl _)).more hb02.size).1 (by omega) HML.out ((HRT.out.below hb02 (Nat.le_refl _)).more hb02.size).2.1 (by omega) HX.out
  rw [← HV.out, ← HE.out] at hlg
  have HLG2 := Lib.hid hlg; have HB02 := Lib.hid hb02; have HB12 := Lib.hid hb2
  clear hlg hb2 hb02 HLG
  go_wp2_with fail
  refine HLG2.out.mono ?_
  rintro e w3 ⟨rfl, hb3⟩
  have hb03 := HB02.out.trans (hb3.mono HB02.out.size)
  have hbs := HBCC.out w3 a A1 rn rc r A2 m c2 l ha1 ha2 ((HRR.out.below hb03 (Nat.le_refl _)).more hb03.size) (by omega) ((HRT.out.below hb03 (Nat.le_refl _)).more hb03.size) (by omega) HIN.out
  obtain ⟨S, hS⟩ : ∃ S, S = bestV a rn r l := ⟨_, rfl⟩
  obtain ⟨G, hG⟩ : ∃ G, G = bestE a rn l := ⟨_, rfl⟩
  rw [← hS, ← hG] at hbs
  have HBS := Lib.hid hbs; have HS := Lib.hid hS; have HG := Lib.hid hG; have HB03 := Lib.hid hb03; have HB13 := Lib.hid (HB12.out.trans (hb3.mono HB12.out.size))
  clear hbs hS hG hb03 hb3 HLG2
  go_wp2_with fail
  refine HBS.out.mono ?_
  rintro e w4 ⟨rfl, hb4⟩
  have hb04 := HB03.out.trans (hb4.mono HB03.out.size)
  have hbs := rbest11_any w4 a A1 rn rc r A2 m c2 l ((HRR.out.below hb04 (Nat.le_refl _)).more hb04.size).1 (by omega) HML.out ((HRT.out.below hb04 (Nat.le_refl _)).more hb04.size).2.1 (by omega) HX.out
  rw [← HS.out, ← HG.out] at hbs
  have HBS2 := Lib.hid hbs; have HB04 := Lib.hid hb04; have HB14 := Lib.hid (HB13.out.trans (hb4.mono HB13.out.size))
  clear hbs hb04 hb4 HBS
  go_wp2_with fail
  refine HBS2.out.mono ?_
  rintro e U ⟨rfl, hb5⟩
  have hbU := HB04.out.trans (hb5.mono HB04.out.size)
  have hb1U := HB14.out.trans (hb5.mono HB14.out.size)
  have oa := own_keepG HO1.out hb1U
  have ob := own_keepG HO2.out hb1U
  have ra : RdB U U.heap.size B1 288 fixA := RdB.of_own oa (fun j => by have := fixA_le j; omega)
  have rb : RdB U U.heap.size B2 32 fixB := RdB.of_own ob (fun j => by have := fixB_le j; omega)
  obtain ⟨ZA, hZA⟩ : ∃ Z, Z = strB 288 fixA := ⟨_, rfl⟩
  obtain ⟨ZB, hZB⟩ : ∃ Z, Z = strB 32 fixB := ⟨_, rfl⟩
  have SA : Hid (∀ V, Below U.heap.size U V → (convert 22 9 (.slice B1 288 k1)).run Tryz.prog V = .ok (.string ZA) V) := Lib.hid fun V hV => by rw [hZA]; exact run_str (ra.below hV (Nat.le_refl _)) k1
  have SB : Hid (∀ V, Below U.heap.size U V → (convert 22 9 (.slice B2 32 k2)).run Tryz.prog V = .ok (.string ZB) V) := Lib.hid fun V hV => by rw [hZB]; exact run_str (rb.below hV (Nat.le_refl _)) k2
  have LA : Hid (∀ (w' : World) (g : Nat) (W : World), RowW w' g 288 fixA → Below w'.heap.size w' W → (convert 22 9 (.slice (some ⟨g, 0, none⟩) 288 288)).run Tryz.prog W = .ok (.string ZA) W) := Lib.hid fun w' g W h2 hW => by
    rw [hZA]; exact run_str ((h2.rd (fun j => by have := fixA_le j; omega)).below hW (Nat.le_refl _)) 288
  have LB : Hid (∀ (w' : World) (g : Nat) (W : World), RowW w' g 32 fixB → Below w'.heap.size w' W → (convert 22 9 (.slice (some ⟨g, 0, none⟩) 32 32)).run Tryz.prog W = .ok (.string ZB) W) := Lib.hid fun w' g W h2 hW => by
    rw [hZB]; exact run_str ((h2.rd (fun j => by have := fixB_le j; omega)).below hW (Nat.le_refl _)) 32
  have hq := eql_ord T
  obtain ⟨X, hX⟩ : ∃ X, X = tblA T 19 := ⟨_, rfl⟩
  have HO1X : Hid (∀ V, Calls Tryz.prog 17 #[] V fun e w' => e = .returned (.agg X) ∧ Below V.heap.size V w') := by rw [hX]; exact HORD
  have HO2X : Hid (∀ V, Calls Tryz.prog 18 #[] V fun e w' => e = .returned (.agg X) ∧ Below V.heap.size V w') := by rw [hX]; exact HORD2
  rw [← hX] at hq
  have HBU := Lib.hid hbU
  clear hX hZA hZB oa ob ra rb hb1U hbU hb5 HBS2 HORD HORD2 HLC HBCC HFX HRR HRT HIN HML HX HV HE HB1 HO1 HO2 HB02 HB12 HS HG HB03 HB13 HB04 HB14 ha1 ha2 hkd g1 g2 d1 d2
  go_wp2
  refine wp_region_tab (tabT [fun v _ => v = .slice B1 288 k1, fun v _ => v = .string ZA, fun v W => ∃ g, v = .slice (some ⟨g, 0, none⟩) 288 288 ∧ (convert 22 9 (.slice (some ⟨g, 0, none⟩) 288 288)).run Tryz.prog W = .ok (.string ZA) W, fun v _ => v = .string ZA, fun v _ => v = .bool true, fun v _ => v = .bool true, fun v _ => v = .slice B2 32 k2, fun v _ => v = .string ZB, fun v W => ∃ g, v = .slice (some ⟨g, 0, none⟩) 32 32 ∧ (convert 22 9 (.slice (some ⟨g, 0, none⟩) 32 32)).run Tryz.prog W = .ok (.string ZB) W, fun v _ => v = .string ZB, fun v _ => v = .bool true, fun v _ => v = .bool true, fun v _ => v = .bool true, fun v _ => v = .agg X, fun v _ => v = .agg X, fun v _ => v = .bool true, fun v _ => v = .bool true, fun v _ => v = .bool true, fun v _ => v = .int .i64 (V : Int), fun v _ => v = .int .i64 (V : Int), fun v _ => v = .bool true, fun v _ => v = .bool true, fun v _ => v = .bool true, fun v _ => v = .int .i64 E, fun v _ => v = .int .i64 E, fun v _ => v = .bool true, fun v _ => v = .bool true, fun v _ => v = .bool true, fun v _ => v = .int .u8 (S : Int), fun v _ => v = .int .u8 (S : Int), fun v _ => v = .bool true, fun v _ => v = .bool true, fun v _ => v = .bool true, fun v _ => v = .int .i64 G, fun v _ => v = .int .i64 G, fun v _ => v = .bool true, fun v _ => v = .bool true, fun v _ => v = .bool true]) U (Below.refl _ _) (by kernel_rfl) (by kernel_rfl) ?_ ?_
  case refine_1 =>
    refine TabAll.cons (fun a w hb ha hS K Q hK => tab_move (tab_free rfl) _ rfl (up_eq ((ha 9 (by kernel_rfl)).trans rfl)) hK) ?_
    refine TabAll.cons (fun a w hb ha hS K Q hK => tab_convert (tab_free rfl) _ _ _ rfl (.string ZA) (by rw [show a.eval (.tmp 61) = .slice B1 288 k1 from (hS 0 61 (by kernel_rfl) rfl).here]; exact SA.out w hb) (up_eq rfl) hK) ?_
    refine TabAll.cons (fun a w hb ha hS K Q hK => tab_call (tab_free rfl) 15 _ _ rfl (enters_of Tryz.func15 (by kernel_rfl) rfl) #[] (by simp) (rlongs11_any w) (fun e w' h => ⟨_, h.1, h.2.2, fun W hW => ⟨_, rfl, LA.out _ _ _ h.2.1 hW⟩⟩) hK) ?_
    refine TabAll.cons (fun a w hb ha hS K Q hK => by obtain ⟨g, h1, h2⟩ := (hS 2 63 (by kernel_rfl) rfl).here; exact tab_convert (tab_free rfl) _ _ _ rfl (.string ZA) (by rw [h1]; exact h2) (up_eq rfl) hK) ?_
    refine TabAll.cons (fun a w hb ha hS K Q hK => tab_bin (tab_free rfl) _ _ _ _ _ rfl _ _ _ (hS 1 62 (by kernel_rfl) rfl).here (hS 3 64 (by kernel_rfl) rfl).here (eqg_str ..) (eql_str ..) (up_eq rfl) hK) ?_
    refine TabAll.cons (fun a w hb ha hS K Q hK => tab_move (tab_free rfl) _ rfl (hS 4 65 (by kernel_rfl) rfl) hK) ?_
    refine TabAll.cons (fun a w hb ha hS K Q hK => tab_move (tab_on 5 true rfl 66 rfl (hS 5 66 (by kernel_rfl) rfl).here) _ rfl (up_eq ((ha 10 (by kernel_rfl)).trans rfl)) hK) ?_
    refine TabAll.cons (fun a w hb ha hS K Q hK => tab_convert (tab_on 5 true rfl 66 rfl (hS 5 66 (by kernel_rfl) rfl).here) _ _ _ rfl (.string ZB) (by rw [show a.eval (.tmp 67) = .slice B2 32 k2 from (hS 6 67 (by kernel_rfl) rfl).here]; exact SB.out w hb) (up_eq rfl) hK) ?_
    refine TabAll.cons (fun a w hb ha hS K Q hK => tab_call (tab_on 5 true rfl 66 rfl (hS 5 66 (by kernel_rfl) rfl).here) 16 _ _ rfl (enters_of Tryz.func16 (by kernel_rfl) rfl) #[] (by simp) (rfars11_any w) (fun e w' h => ⟨_, h.1, h.2.2, fun W hW => ⟨_, rfl, LB.out _ _ _ h.2.1 hW⟩⟩) hK) ?_
    refine TabAll.cons (fun a w hb ha hS K Q hK => by obtain ⟨g, h1, h2⟩ := (hS 8 69 (by kernel_rfl) rfl).here; exact tab_convert (tab_on 5 true rfl 66 rfl (hS 5 66 (by kernel_rfl) rfl).here) _ _ _ rfl (.string ZB) (by rw [h1]; exact h2) (up_eq rfl) hK) ?_
    refine TabAll.cons (fun a w hb ha hS K Q hK => tab_bin (tab_on 5 true rfl 66 rfl (hS 5 66 (by kernel_rfl) rfl).here) _ _ _ _ _ rfl _ _ _ (hS 7 68 (by kernel_rfl) rfl).here (hS 9 70 (by kernel_rfl) rfl).here (eqg_str ..) (eql_str ..) (up_eq rfl) hK) ?_
    refine TabAll.cons (fun a w hb ha hS K Q hK => tab_pick (tab_free rfl) _ _ _ rfl true (hS 5 66 (by kernel_rfl) rfl).here (hS 10 71 (by kernel_rfl) rfl) hK) ?_
    refine TabAll.cons (fun a w hb ha hS K Q hK => tab_move (tab_free rfl) _ rfl (hS 11 72 (by kernel_rfl) rfl) hK) ?_
    refine TabAll.cons (fun a w hb ha hS K Q hK => tab_call (tab_on 12 true rfl 73 rfl (hS 12 73 (by kernel_rfl) rfl).here) 17 _ _ rfl (enters_of Tryz.func17 (by kernel_rfl) rfl) #[] (by simp) (HO1X.out w) (fun e w' h => ⟨_, h.1, h.2, up_eq rfl⟩) hK) ?_
    refine TabAll.cons (fun a w hb ha hS K Q hK => tab_call (tab_on 12 true rfl 73 rfl (hS 12 73 (by kernel_rfl) rfl).here) 18 _ _ rfl (enters_of Tryz.func18 (by kernel_rfl) rfl) #[] (by simp) (HO2X.out w) (fun e w' h => ⟨_, h.1, h.2, up_eq rfl⟩) hK) ?_
    refine TabAll.cons (fun a w hb ha hS K Q hK => tab_bin (tab_on 12 true rfl 73 rfl (hS 12 73 (by kernel_rfl) rfl).here) _ _ _ _ _ rfl _ _ _ (hS 13 74 (by kernel_rfl) rfl).here (hS 14 75 (by kernel_rfl) rfl).here (guard_ord w _ _ _ _) (hq w) (up_eq rfl) hK) ?_
    refine TabAll.cons (fun a w hb ha hS K Q hK => tab_pick (tab_free rfl) _ _ _ rfl true (hS 12 73 (by kernel_rfl) rfl).here (hS 15 76 (by kernel_rfl) rfl) hK) ?_
    refine TabAll.cons (fun a w hb ha hS K Q hK => tab_move (tab_free rfl) _ rfl (hS 16 77 (by kernel_rfl) rfl) hK) ?_
    refine TabAll.cons (fun a w hb ha hS K Q hK => tab_move (tab_on 17 true rfl 78 rfl (hS 17 78 (by kernel_rfl) rfl).here) _ rfl (up_eq ((ha 11 (by kernel_rfl)).trans rfl)) hK) ?_
    refine TabAll.cons (fun a w hb ha hS K Q hK => tab_move (tab_on 17 true rfl 78 rfl (hS 17 78 (by kernel_rfl) rfl).here) _ rfl (up_eq ((ha 13 (by kernel_rfl)).trans rfl)) hK) ?_
    refine TabAll.cons (fun a w hb ha hS K Q hK => tab_bin (tab_on 17 true rfl 78 rfl (hS 17 78 (by kernel_rfl) rfl).here) _ _ _ _ _ rfl _ _ _ (hS 18 79 (by kernel_rfl) rfl).here (hS 19 80 (by kernel_rfl) rfl).here (eqg_int ..) (eql_int ..) (up_eq rfl) hK) ?_
    refine TabAll.cons (fun a w hb ha hS K Q hK => tab_pick (tab_free rfl) _ _ _ rfl true (hS 17 78 (by kernel_rfl) rfl).here (hS 20 81 (by kernel_rfl) rfl) hK) ?_
    refine TabAll.cons (fun a w hb ha hS K Q hK => tab_move (tab_free rfl) _ rfl (hS 21 82 (by kernel_rfl) rfl) hK) ?_
    refine TabAll.cons (fun a w hb ha hS K Q hK => tab_move (tab_on 22 true rfl 83 rfl (hS 22 83 (by kernel_rfl) rfl).here) _ rfl (up_eq ((ha 12 (by kernel_rfl)).trans rfl)) hK) ?_
    refine TabAll.cons (fun a w hb ha hS K Q hK => tab_move (tab_on 22 true rfl 83 rfl (hS 22 83 (by kernel_rfl) rfl).here) _ rfl (up_eq ((ha 14 (by kernel_rfl)).trans rfl)) hK) ?_
    refine TabAll.cons (fun a w hb ha hS K Q hK => tab_bin (tab_on 22 true rfl 83 rfl (hS 22 83 (by kernel_rfl) rfl).here) _ _ _ _ _ rfl _ _ _ (hS 23 84 (by kernel_rfl) rfl).here (hS 24 85 (by kernel_rfl) rfl).here (eqg_int ..) (eql_int ..) (up_eq rfl) hK) ?_
    refine TabAll.cons (fun a w hb ha hS K Q hK => tab_pick (tab_free rfl) _ _ _ rfl true (hS 22 83 (by kernel_rfl) rfl).here (hS 25 86 (by kernel_rfl) rfl) hK) ?_
    refine TabAll.cons (fun a w hb ha hS K Q hK => tab_move (tab_free rfl) _ rfl (hS 26 87 (by kernel_rfl) rfl) hK) ?_
    refine TabAll.cons (fun a w hb ha hS K Q hK => tab_move (tab_on 27 true rfl 88 rfl (hS 27 88 (by kernel_rfl) rfl).here) _ rfl (up_eq ((ha 15 (by kernel_rfl)).trans rfl)) hK) ?_
    refine TabAll.cons (fun a w hb ha hS K Q hK => tab_move (tab_on 27 true rfl 88 rfl (hS 27 88 (by kernel_rfl) rfl).here) _ rfl (up_eq ((ha 17 (by kernel_rfl)).trans rfl)) hK) ?_
    refine TabAll.cons (fun a w hb ha hS K Q hK => tab_bin (tab_on 27 true rfl 88 rfl (hS 27 88 (by kernel_rfl) rfl).here) _ _ _ _ _ rfl _ _ _ (hS 28 89 (by kernel_rfl) rfl).here (hS 29 90 (by kernel_rfl) rfl).here (eqg_int ..) (eql_int ..) (up_eq rfl) hK) ?_
    refine TabAll.cons (fun a w hb ha hS K Q hK => tab_pick (tab_free rfl) _ _ _ rfl true (hS 27 88 (by kernel_rfl) rfl).here (hS 30 91 (by kernel_rfl) rfl) hK) ?_
    refine TabAll.cons (fun a w hb ha hS K Q hK => tab_move (tab_free rfl) _ rfl (hS 31 92 (by kernel_rfl) rfl) hK) ?_
    refine TabAll.cons (fun a w hb ha hS K Q hK => tab_move (tab_on 32 true rfl 93 rfl (hS 32 93 (by kernel_rfl) rfl).here) _ rfl (up_eq ((ha 16 (by kernel_rfl)).trans rfl)) hK) ?_
    refine TabAll.cons (fun a w hb ha hS K Q hK => tab_move (tab_on 32 true rfl 93 rfl (hS 32 93 (by kernel_rfl) rfl).here) _ rfl (up_eq ((ha 18 (by kernel_rfl)).trans rfl)) hK) ?_
    refine TabAll.cons (fun a w hb ha hS K Q hK => tab_bin (tab_on 32 true rfl 93 rfl (hS 32 93 (by kernel_rfl) rfl).here) _ _ _ _ _ rfl _ _ _ (hS 33 94 (by kernel_rfl) rfl).here (hS 34 95 (by kernel_rfl) rfl).here (eqg_int ..) (eql_int ..) (up_eq rfl) hK) ?_
    refine TabAll.cons (fun a w hb ha hS K Q hK => tab_pick (tab_free rfl) _ _ _ rfl true (hS 32 93 (by kernel_rfl) rfl).here (hS 35 96 (by kernel_rfl) rfl) hK) ?_
    refine TabAll.cons (fun a w hb ha hS K Q hK => tab_assign (tab_free rfl) _ rfl (hS 36 97 (by kernel_rfl) rfl) hK) ?_
    exact TabAll.nil
  intro vals w hb hv
  have e8 : vals 8 = .bool true := (hv 37 8 rfl).here
  have HF := Lib.hid (HBU.out.trans (hb.mono HBU.out.size))
  clear hb hv
  simp only [List.map_cons, List.map_nil, putL, Act.put, List.setIfInBounds_toArray, List.set_cons_zero, List.set_cons_succ, e8]
  go_wp2
  go_ret
  exact ⟨rfl, HF.out⟩
end Go.Proofs.YtjhljkhgjcckhaaGreat

