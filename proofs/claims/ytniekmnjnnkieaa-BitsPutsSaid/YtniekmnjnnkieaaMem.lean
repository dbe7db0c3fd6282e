/-
  Layer 1 (bits): what bits.Take, bits.Turn and the document's own answer, by name, for every argument; and the memory of byte slices (how one reads, its copy, its text).
-/
import Derived.Test.YtniekmnjnnkieaaTake
import Derived.ProofKit
import Derived.OpenShut
import Derived.Maps.AppendAt
import Derived.Laws.BytesArg
import Derived.Deep.AppendLies
namespace Go.Proofs.Ytniekmnjnnkieaa
open Go.RowKit Go.ChangeShapes Go.WideShapes Go.ChangeAt
open Go.ChangeMaps (open_string shut_string)
/-! ### what both sides answer, by name -/
def takeV (f : Nat → Nat) (l : Nat) (a n : Int) : Nat := if a < 0 ∨ n < 0 ∨ 32 < n then 0 else if 8 * (l : Int) < a + n then 0 else numN f a.toNat n.toNat
def takeE (l : Nat) (a n : Int) : Int := if a < 0 ∨ n < 0 ∨ 32 < n then 2 else if 8 * (l : Int) < a + n then 10 else 0
def turnV (v n : Int) : Nat := if fitsB v n then turnN v.toNat n.toNat else 0
def turnE (v n : Int) : Int := if fitsB v n then 0 else 2
theorem take_cases {P : Int → Int → Prop} (f : Nat → Nat) (l : Nat) (a n : Int)
    (h1 : a < 0 ∨ n < 0 ∨ 32 < n → P 0 2) (h2 : ∀ x y : Nat, a = x → n = y → y ≤ 32 → 8 * l < x + y → P 0 10)
    (h3 : ∀ x y : Nat, a = x → n = y → y ≤ 32 → x + y ≤ 8 * l → P (numN f x y : Nat) 0) : P (takeV f l a n : Nat) (takeE l a n) := by
  unfold takeV takeE
  by_cases c1 : a < 0 ∨ n < 0 ∨ 32 < n
  · rw [if_pos c1, if_pos c1]; exact h1 c1
  · rw [if_neg c1, if_neg c1]
    obtain ⟨x, rfl⟩ := Int.eq_ofNat_of_zero_le (show 0 ≤ a by omega)
    obtain ⟨y, rfl⟩ := Int.eq_ofNat_of_zero_le (show 0 ≤ n by omega)
    by_cases c2 : 8 * (l : Int) < (x : Int) + (y : Int)
    · rw [if_pos c2, if_pos c2]; exact h2 x y rfl rfl (by omega) (by omega)
    · rw [if_neg c2, if_neg c2]; exact h3 x y rfl rfl (by omega) (by omega)
theorem turn_cases {P : Int → Int → Prop} (v : Nat) (n : Int)
    (h1 : fitsB v n = false → P 0 2) (h3 : ∀ y : Nat, n = y → y ≤ 32 → fitsB v y = true → P (turnN v y : Nat) 0) : P (turnV v n : Nat) (turnE v n) := by
  unfold turnV turnE
  cases hf : fitsB v n with
  | false => exact h1 hf
  | true =>
    obtain ⟨y, rfl, hy⟩ := fitsB_int hf
    exact h3 y rfl hy hf
theorem take_any (w : World) (B : Nat) (A : Option Addr) (l c : Nat) (f : Nat → Nat) (a n : Int) (hr : RdB w B A l f) (hl : l ≤ 1000000000000) (ha : a ≤ 9223372036854775807) :
    Calls Try.prog 10 #[.slice A l c, .int .i64 a, .int .i64 n] w fun e w' => e = .returned (.tuple #[.int .u32 (takeV f l a n : Nat), .int .i64 (takeE l a n)]) ∧ w = w' := by
  refine take_cases (P := fun x y => Calls Try.prog 10 #[.slice A l c, .int .i64 a, .int .i64 n] w fun e w' => e = .returned (.tuple #[.int .u32 x, .int .i64 y]) ∧ w = w') f l a n ?_ ?_ ?_
  · intro h; exact take_arg w A l c a n h
  · rintro x y rfl rfl h1 h2; exact take_end w A l c x y (by omega) h1 hl h2
  · rintro x y rfl rfl h1 h2; exact take_ok w B A l c f x y hr h1 hl h2
theorem rtake_any (w : World) (B : Nat) (A : Option Addr) (l c : Nat) (f : Nat → Nat) (a n : Int) (hr : RdB w B A l f) (hl : l ≤ 1000000000000) (ha : a ≤ 9223372036854775807) :
    Calls Try.prog 17 #[.slice A l c, .int .i64 a, .int .i64 n] w fun e w' => e = .returned (.tuple #[.int .u32 (takeV f l a n : Nat), .int .i64 (takeE l a n)]) ∧ w = w' := by
  refine take_cases (P := fun x y => Calls Try.prog 17 #[.slice A l c, .int .i64 a, .int .i64 n] w fun e w' => e = .returned (.tuple #[.int .u32 x, .int .i64 y]) ∧ w = w') f l a n ?_ ?_ ?_
  · intro h; exact rtake_arg w A l c a n h
  · rintro x y rfl rfl h1 h2; exact rtake_end w A l c x y (by omega) h1 hl h2
  · rintro x y rfl rfl h1 h2; exact rtake_ok w B A l c f x y hr h1 hl h2
theorem turn_any (v : Nat) (n : Int) (w : World) (h1 : v < 4294967296) (hn0 : -9223372036854775808 ≤ n) (hn1 : n ≤ 9223372036854775807) :
    Calls Try.prog 13 #[.int .u32 v, .int .i64 n] w fun e w' => e = .returned (.tuple #[.int .u32 (turnV v n : Nat), .int .i64 (turnE v n)]) ∧ w = w' := by
  refine turn_cases (P := fun x y => Calls Try.prog 13 #[.int .u32 v, .int .i64 n] w fun e w' => e = .returned (.tuple #[.int .u32 x, .int .i64 y]) ∧ w = w') v n ?_ ?_
  · intro h; exact turn_bad v n w (by omega) (by omega) hn0 hn1 h
  · rintro y rfl h2 h3; exact turn_ok v y w h1 h2 h3
theorem rturn_any (v : Nat) (n : Int) (w : World) (h1 : v < 4294967296) (hn0 : -9223372036854775808 ≤ n) (hn1 : n ≤ 9223372036854775807) :
    Calls Try.prog 18 #[.int .u32 v, .int .i64 n] w fun e w' => e = .returned (.tuple #[.int .u32 (turnV v n : Nat), .int .i64 (turnE v n)]) ∧ w = w' := by
  refine turn_cases (P := fun x y => Calls Try.prog 18 #[.int .u32 v, .int .i64 n] w fun e w' => e = .returned (.tuple #[.int .u32 x, .int .i64 y]) ∧ w = w') v n ?_ ?_
  · intro h; exact rturn_bad v n w (by omega) (by omega) hn0 hn1 h
  · rintro y rfl h2 h3; exact rturn_ok v y w h1 h2 h3
/-! ### memory -/
theorem RdB.below {w w' : World} {B B' n : Nat} {A : Option Addr} {f : Nat → Nat} (h : RdB w B A n f) (hb : Below B' w w') (hB : B ≤ B') : RdB w' B A n f := by
  refine ⟨h.1, fun hn => ?_⟩
  obtain ⟨b, o, rfl, hlt, hc⟩ := h.2 hn
  exact ⟨b, o, rfl, hlt, fun j hj => by rw [hb.cell (p := ⟨b, o + j, none⟩) (by show b < B'; omega)]; exact hc j hj⟩
theorem RdB.more {w : World} {B B' n : Nat} {A : Option Addr} {f : Nat → Nat} (h : RdB w B A n f) (hB : B ≤ B') : RdB w B' A n f := by
  refine ⟨h.1, fun hn => ?_⟩
  obtain ⟨b, o, rfl, hlt, hc⟩ := h.2 hn
  exact ⟨b, o, rfl, by omega, hc⟩
def bytesL (n : Nat) (f : Nat → Nat) : List Value := (List.range n).map fun j => .int .u8 (f j : Int)
theorem bytesL_get (n : Nat) (f : Nat → Nat) (j : Nat) : (bytesL n f)[j]? = if j < n then some (.int .u8 (f j : Int)) else none := by
  unfold bytesL
  by_cases h : j < n <;> simp [h]
theorem bytesL_one (n : Nat) (f : Nat → Nat) : ∀ u ∈ bytesL n f, u.oneCell' = true := by
  intro u hu
  simp only [bytesL, List.mem_map] at hu
  obtain ⟨j, _, rfl⟩ := hu
  rfl
theorem RdB.of_own {w : World} {base n c : Nat} {A : Option Addr} {e : TypeId} {f : Nat → Nat} (h : w.ownsRow base e 1 (.slice A n c) n (bytesL n f)) (hf : ∀ j, f j < 256) : RdB w w.heap.size A n f := by
  refine ⟨hf, fun hn => ?_⟩
  obtain ⟨g, cap, hv, _, hlt⟩ := h.form hn
  injection hv with hA _ _
  subst hA
  refine ⟨g, 0, rfl, hlt, fun j hj => ?_⟩
  have := h.cells (g := g) rfl j (.int .u8 (f j : Int)) (by rw [bytesL_get, if_pos hj])
  have e : (⟨g, 0, none⟩ : Addr).add j = ⟨g, 0 + j, none⟩ := by unfold Addr.add; split <;> simp_all
  rw [e] at this
  exact this
theorem info5 : (Try.prog.info? 5).map (fun i => (i.zero, i.size, i.bytes)) = some (some (.int .u8 0), 1, 1) := by kernel_rfl
/-- append([]byte(nil), b...): its own row, of the same bytes. -/
theorem run_twin (w : World) (B : Nat) (A : Option Addr) (n c : Nat) (f : Nat → Nat) (hr : RdB w B A n f) (hn : n ≤ 1000000000000) (ty : TypeId) (hA : A = none → c = 0) :
    ∃ A' c' w', (Builtin.append_ #[22, 22] ty #[.slice none 0 0, .slice A n c]).run Try.prog w = .ok (.slice A' n c') w' ∧
      w'.ownsRow w.heap.size 5 1 (.slice A' n c') n (bytesL n f) ∧ Below w.heap.size w w' ∧ RdB w' w'.heap.size A' n f := by
  obtain ⟨i0, hi, hz0, hz1, hz2⟩ := info_parts info5
  have key : ∃ v' w', (Builtin.append_ #[22, 22] ty #[.slice none 0 0, .slice A n c]).run Try.prog w = .ok v' w' ∧
      w'.ownsRow w.heap.size 5 1 v' n (bytesL n f) ∧ w.grownBy w' none := by
    rcases A with _ | ad
    · have h0 : n = 0 := by
        rcases Nat.eq_zero_or_pos n with h | h
        · exact h
        · obtain ⟨b, o, h, _⟩ := hr.2 h; cases h
      subst h0
      obtain rfl := hA rfl
      exact ⟨_, w, run_append_owned_none (P := Try.prog) (w := w) w.heap.size 22 ty 5 i0 1 Try.underlying22 hi (.slice none 0 0) 0 [] (World.ownsRow_nil w _ 5 1), World.ownsRow_nil w _ 5 1, World.grownBy.refl _ _⟩
    · have hcells : ∀ j u, (bytesL n f)[j]? = some u → w.cell? (ad.add j) = some u := by
        intro j u hu
        rw [bytesL_get] at hu
        by_cases hj : j < n
        · rw [if_pos hj] at hu
          injection hu with hu
          subst hu
          obtain ⟨b, o, h, _, hc⟩ := hr.2 (by omega)
          injection h with h
          subst h
          have e : (⟨b, o, none⟩ : Addr).add j = ⟨b, o + j, none⟩ := by unfold Addr.add; split <;> simp_all
          rw [e]; exact hc j hj
        · rw [if_neg hj] at hu; cases hu
      obtain ⟨v', w', h1, h2, h3, _, _⟩ := run_append_own_at (P := Try.prog) w w.heap.size 22 ty 5 i0 (.int .u8 0) 1 1 Try.underlying22 hi hz0 hz1 hz2 rfl (by decide)
        (.slice none 0 0) 0 [] (World.ownsRow_nil w _ 5 1) ad n c (bytesL n f) (by simp [bytesL]) hcells (bytesL_one n f) (by unfold maxLen; omega) (by omega) (Nat.le_refl _)
      rw [Nat.zero_add, List.nil_append] at h2
      exact ⟨v', w', h1, h2, h3⟩
  obtain ⟨v', w', h1, h2, h3⟩ := key
  have hv : ∃ A' c', v' = .slice A' n c' := by
    rcases h2.2 with ⟨rfl, rfl⟩ | ⟨g, cap, cur, rfl, _⟩
    · exact ⟨_, _, rfl⟩
    · exact ⟨_, _, rfl⟩
  obtain ⟨A', c', rfl⟩ := hv
  exact ⟨A', c', w', h1, h2, ⟨h3.os, h3.tape, h3.output, h3.size, fun k hk => h3.block k hk (by simp)⟩, RdB.of_own h2 hr.1⟩
/-- An append whose run is known. -/
theorem wpList_append_run {P : Program} {w : World} {ops : Array Oper} {rest : List Oper} {o : Oper} {a : Act} {Q : Exit → Act → World → Prop} (hgd : o.guard = none) (s x : Operand) (t : TypeId)
    (ho : o.op = .call { callee := .builtin .append, args := #[s, x], argTypes := #[t, t] }) (v u v' : Value) (w' : World) (hs : a.eval s = v) (hx : a.eval x = u)
    (hrun : (Builtin.append_ #[t, t] o.type #[v, u]).run P w = .ok v' w') (h : wpList P ops Q rest (a.put o.dst v') w') : wpList P ops Q (o :: rest) a w := by
  refine wpList_plain hgd fun K hK => ?_
  unfold Oper.wp
  simp [execOp, ho, resolve, invoke, builtin, hs, hx, hrun, Result.andThen]
  exact hK _ _ h
def strB (n : Nat) (f : Nat → Nat) : ByteArray := strOfNums ((List.range n).map fun j => (f j : Int))
theorem strB_zero (f : Nat → Nat) : strB 0 f = ByteArray.empty := rfl
/-- string(b) -/
theorem run_str {w : World} {B : Nat} {A : Option Addr} {n : Nat} {f : Nat → Nat} (hr : RdB w B A n f) (c : Nat) :
    (convert 22 9 (.slice A n c)).run Try.prog w = .ok (.string (strB n f)) w := by
  rcases Nat.eq_zero_or_pos n with h0 | h0
  · subst h0
    rcases A with _ | ⟨b, o, s⟩
    · rw [strB_zero]; exact run_convert_bytes_nil w 22 5 Try.underlying22 Try.underlying5 0 c 9 Try.underlying9
    · rw [run_convert_bytes_string w 22 9 5 _ 0 c Try.underlying22 Try.underlying5 Try.underlying9, run_bytesToString w _ 0 c [] (by simpa using run_loadCells_list (P := Try.prog) w ⟨b, o, s⟩ [] (by simp))]
      rfl
  · obtain ⟨b, o, rfl, _, hc⟩ := hr.2 h0
    exact run_convert_bytes_arg w 22 5 Try.underlying22 Try.underlying5 b o n c _ (by simp) (fun i hi => by rw [hc i hi]; simp [List.getD, hi]) 9 Try.underlying9
/-- The bytes of a slice that came in, as the statement's form reads it. -/
theorem open_bytes {H : Type} {enc : TypeId × Value → H} {W : World} {base : Nat} {sp : Nat → Bool} {hd : Bool} {a : Option Addr} {len cap : Nat} {d : DataW H} {p : List MemPlace}
    (h : ∃ fuel, DataW.trod enc Try.prog W base sp hd fuel 22 (Value.slice a len cap).cells.toList = some (d, p)) :
    ∃ f, RdB W W.heap.size a len f ∧ (a = none → cap = 0) ∧ len ≤ cap ∧ cap ≤ maxLen := by
  obtain ⟨fuel, hf⟩ := h
  rcases open_ints Try.underlying22 Try.underlying5 (by kernel_rfl) hf with ⟨hcs, _⟩ | ⟨x, l, c, zs, hcs, _, hl, hm, hz, _, hcell, hwz⟩
  · simp [Value.cells] at hcs
    obtain ⟨rfl, rfl, rfl⟩ := hcs
    exact ⟨fun _ => 0, ⟨fun _ => by show 0 < 256; omega, fun h => by omega⟩, fun _ => rfl, Nat.le_refl _, by unfold maxLen; omega⟩
  · simp [Value.cells] at hcs
    obtain ⟨rfl, rfl, rfl⟩ := hcs
    have hbd : ∀ j, 0 ≤ zs.getD j 0 ∧ zs.getD j 0 < 256 := by
      intro j
      rcases Nat.lt_or_ge j zs.length with hj | hj
      · have := hwz (zs.getD j 0) (by simp [List.getD, hj])
        simp [Lit.wf, IntKind.min, IntKind.max, IntKind.signed, IntKind.bits] at this
        simp [List.getD, hj]
        simp [hj] at this
        omega
      · simp [List.getD, List.getElem?_eq_none hj]
    refine ⟨fun j => (zs.getD j 0).toNat, ⟨fun j => by have := hbd j; show (zs.getD j 0).toNat < 256; omega, fun hn => ?_⟩, (fun h => by cases h), hl, hm⟩
    have hzl : len ≤ zs.length := by rw [hz]; split <;> omega
    obtain ⟨b, off, spot⟩ := x
    have h0 := hcell 0 (by omega)
    have hspot : spot = none := by simpa [Addr.add] using World.cell?_spot h0
    subst hspot
    have hlt : b < W.heap.size := by
      rcases Nat.lt_or_ge b W.heap.size with h | h
      · exact h
      · simp [Addr.add, World.cell?, Array.getElem?_eq_none h] at h0
    refine ⟨b, off, rfl, hlt, fun j hj => ?_⟩
    have hb := hbd j
    have h1 := hcell j (by omega)
    have e : (⟨b, off, none⟩ : Addr).add j = ⟨b, off + j, none⟩ := by unfold Addr.add; split <;> simp_all
    rw [e] at h1
    rw [h1, Int.toNat_of_nonneg hb.1]
end Go.Proofs.Ytniekmnjnnkieaa
