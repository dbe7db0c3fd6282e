/-
  Layer 4 (build): what is in each parcel of a row, as numbers; rows of parcels in memory, and one more put behind.
-/
import Derived.Test.YtjhljkhgjcckhaaGreatRows
import Derived.WalkKit
import Derived.ProofKit
import Derived.Lib.Hide
import Derived.Handy
import Derived.OpenShut
import Derived.ShutString
import Derived.ChangeOld
import Derived.Maps.AppendAt
import Derived.Laws.BytesArg
import Derived.Laws.Rows
import Derived.Deep.AppendLies
import Derived.Deep.QuietTactic
import Derived.BigQuiet
namespace Go.Proofs.YtjhljkhgjcckhaaGreat
open Go.RowKit Go.ChangeShapes Go.WideShapes Go.ChangeAt
open Go.ChangeMaps (open_string shut_string)
theorem own : ownKnob Tryz.prog.godebug = none := by kernel_rfl
theorem laidOut : laidOutB Tryz.prog = true := by kernel_rfl
/-! ### bits of unsigned numbers -/
theorem ofInt_nat (W a : Nat) (ha : a < 2 ^ W) : (BitVec.ofInt W (a : Int)).toNat = a := by
  rw [BitVec.ofInt_natCast, BitVec.toNat_ofNat]; exact Nat.mod_eq_of_lt ha
theorem u32_and (a b : Nat) (ha : a < 4294967296) (hb : b < 4294967296) : bits .and .u32 (a : Int) (b : Int) = ((a &&& b : Nat) : Int) := by
  have hx : a &&& b < 2 ^ 32 := Nat.and_lt_two_pow _ (by omega)
  show IntKind.u32.wrap ((BitVec.ofInt 32 (a : Int) &&& BitVec.ofInt 32 (b : Int)).toNat : Int) = _
  rw [BitVec.toNat_and, ofInt_nat 32 a (by omega), ofInt_nat 32 b (by omega), IntKind.wrap_u32]
  omega
theorem u32_or (a b : Nat) (ha : a < 4294967296) (hb : b < 4294967296) : bits .or .u32 (a : Int) (b : Int) = ((a ||| b : Nat) : Int) := by
  have hx : a ||| b < 2 ^ 32 := Nat.or_lt_two_pow (by omega) (by omega)
  show IntKind.u32.wrap ((BitVec.ofInt 32 (a : Int) ||| BitVec.ofInt 32 (b : Int)).toNat : Int) = _
  rw [BitVec.toNat_or, ofInt_nat 32 a (by omega), ofInt_nat 32 b (by omega), IntKind.wrap_u32]
  omega
theorem u64_and (a b : Nat) (ha : a < 18446744073709551616) (hb : b < 18446744073709551616) : bits .and .u64 (a : Int) (b : Int) = ((a &&& b : Nat) : Int) := by
  have hx : a &&& b < 2 ^ 64 := Nat.and_lt_two_pow _ (by omega)
  show IntKind.u64.wrap ((BitVec.ofInt 64 (a : Int) &&& BitVec.ofInt 64 (b : Int)).toNat : Int) = _
  rw [BitVec.toNat_and, ofInt_nat 64 a (by omega), ofInt_nat 64 b (by omega), IntKind.wrap_u64]
  omega
theorem u32_and_one (a : Nat) (ha : a < 4294967296) : bits .and .u32 (a : Int) 1 = ((a % 2 : Nat) : Int) := by
  have := u32_and a 1 ha (by omega)
  rw [Nat.and_one_is_mod] at this
  exact this
/-- bits above and bits below: or is plus. -/
theorem or_add (a b i : Nat) (hb : b < 2 ^ i) (ha : 2 ^ i ∣ a) : a ||| b = a + b := by
  obtain ⟨c, rfl⟩ := ha
  exact (Nat.two_pow_add_eq_or_of_lt hb c).symm
theorem u32_or_add (a b i : Nat) (ha : a < 4294967296) (h : b < 4294967296) (hb : b < 2 ^ i) (hd : 2 ^ i ∣ a) : bits .or .u32 (a : Int) (b : Int) = ((a + b : Nat) : Int) := by
  rw [u32_or a b ha h, or_add a b i hb hd]
theorem pow_le_32 {k : Nat} (h : k ≤ 32) : 2 ^ k ≤ 4294967296 := by
  have := Nat.pow_le_pow_right (n := 2) (by omega) h; simpa using this
theorem lt_32 {x k : Nat} (hx : x < 2 ^ k) (h : k ≤ 32) : x < 4294967296 := Nat.lt_of_lt_of_le hx (pow_le_32 h)
theorem cast_shr (v k : Nat) : ((v : Int) / 2 ^ k) = ((v / 2 ^ k : Nat) : Int) := by
  rw [Int.natCast_ediv, Int.natCast_pow]; rfl
theorem cast_shl (v k : Nat) : ((v : Int) * 2 ^ k) = ((v * 2 ^ k : Nat) : Int) := by
  rw [Int.natCast_mul, Int.natCast_pow]; rfl
theorem bit_cast (v k : Nat) (hv : v < 4294967296) : bits .and .u32 ((v : Int) / 2 ^ k) 1 = ((v / 2 ^ k % 2 : Nat) : Int) := by
  rw [cast_shr, u32_and_one]
  exact Nat.lt_of_le_of_lt (Nat.div_le_self _ _) hv

theorem ret_bool {a b : Bool} (h : a = b) : Ending.returned (.bool a) = .returned (.bool b) := by rw [h]
theorem ret_int {k : IntKind} {a b : Int} (h : a = b) : Ending.returned (.int k a) = .returned (.int k b) := by rw [h]
theorem val_int {k : IntKind} {a b : Int} (h : a = b) : Value.int k a = .int k b := by rw [h]
theorem ret_two {k l : IntKind} {a b c d : Int} (h : a = b) (g : c = d) : Ending.returned (.tuple #[.int k a, .int l c]) = .returned (.tuple #[.int k b, .int l d]) := by rw [h, g]
/-! ### bytes -/
def RdB (w : World) (B : Nat) (A : Option Addr) (n : Nat) (f : Nat → Nat) : Prop :=
  (∀ j, f j < 256) ∧ (0 < n → ∃ b o, A = some ⟨b, o, none⟩ ∧ b < B ∧ ∀ j, j < n → w.cell? ⟨b, o + j, none⟩ = some (.int .u8 (f j : Int)))
theorem RdB.below {w w' : World} {B B' n : Nat} {A : Option Addr} {f : Nat → Nat} (h : RdB w B A n f) (hb : Below B' w w') (hB : B ≤ B') : RdB w' B A n f := by
  refine ⟨h.1, fun hn => ?_⟩
  obtain ⟨b, o, rfl, hlt, hc⟩ := h.2 hn
  exact ⟨b, o, rfl, hlt, fun j hj => by rw [hb.cell (p := ⟨b, o + j, none⟩) (by show b < B'; omega)]; exact hc j hj⟩
theorem RdB.more {w : World} {B B' n : Nat} {A : Option Addr} {f : Nat → Nat} (h : RdB w B A n f) (hB : B ≤ B') : RdB w B' A n f := by
  refine ⟨h.1, fun hn => ?_⟩
  obtain ⟨b, o, rfl, hlt, hc⟩ := h.2 hn
  exact ⟨b, o, rfl, by omega, hc⟩
def bytesL (n : Nat) (f : Nat → Nat) : List Value := (List.range n).map fun j => .int .u8 (f j : Int)
theorem bytesL_get (n : Nat) (f : Nat → Nat) (j : Nat) : (bytesL n f)[j]? = if j < n then some (.int .u8 (f j : Int)) else none := by
  unfold bytesL
  by_cases h : j < n <;> simp [h]
theorem bytesL_one (n : Nat) (f : Nat → Nat) : ∀ u ∈ bytesL n f, u.oneCell' = true := by
  intro u hu
  simp only [bytesL, List.mem_map] at hu
  obtain ⟨j, _, rfl⟩ := hu
  rfl
theorem RdB.of_own {w : World} {base n c : Nat} {A : Option Addr} {e : TypeId} {f : Nat → Nat} (h : w.ownsRow base e 1 (.slice A n c) n (bytesL n f)) (hf : ∀ j, f j < 256) : RdB w w.heap.size A n f := by
  refine ⟨hf, fun hn => ?_⟩
  obtain ⟨g, cap, hv, _, hlt⟩ := h.form hn
  injection hv with hA _ _
  subst hA
  refine ⟨g, 0, rfl, hlt, fun j hj => ?_⟩
  have := h.cells (g := g) rfl j (.int .u8 (f j : Int)) (by rw [bytesL_get, if_pos hj])
  have e : (⟨g, 0, none⟩ : Addr).add j = ⟨g, 0 + j, none⟩ := by unfold Addr.add; split <;> simp_all
  rw [e] at this
  exact this
theorem infoU8 : (Tryz.prog.info? 5).map (fun i => (i.zero, i.size, i.bytes)) = some (some (.int .u8 0), 1, 1) := by kernel_rfl
set_option maxRecDepth 100000 in
/-- append([]byte(nil), b...): its own row, of the same bytes. -/
theorem run_twin (w : World) (B : Nat) (A : Option Addr) (n c : Nat) (f : Nat → Nat) (hr : RdB w B A n f) (hn : n ≤ 1000000000000) (ty : TypeId) (hA : A = none → c = 0) :
    ∃ A' c' w', (Builtin.append_ #[22, 22] ty #[.slice none 0 0, .slice A n c]).run Tryz.prog w = .ok (.slice A' n c') w' ∧
      w'.ownsRow w.heap.size 5 1 (.slice A' n c') n (bytesL n f) ∧ Below w.heap.size w w' ∧ RdB w' w'.heap.size A' n f := by
  obtain ⟨i0, hi, hz0, hz1, hz2⟩ := info_parts infoU8
  have key : ∃ v' w', (Builtin.append_ #[22, 22] ty #[.slice none 0 0, .slice A n c]).run Tryz.prog w = .ok v' w' ∧
      w'.ownsRow w.heap.size 5 1 v' n (bytesL n f) ∧ w.grownBy w' none := by
    rcases A with _ | ad
    · have h0 : n = 0 := by
        rcases Nat.eq_zero_or_pos n with h | h
        · exact h
        · obtain ⟨b, o, h, _⟩ := hr.2 h; cases h
      subst h0
      obtain rfl := hA rfl
      exact ⟨_, w, run_append_owned_none (P := Tryz.prog) (w := w) w.heap.size 22 ty 5 i0 1 Tryz.underlying22 hi (.slice none 0 0) 0 [] (World.ownsRow_nil w _ 5 1), World.ownsRow_nil w _ 5 1, World.grownBy.refl _ _⟩
    · have hcells : ∀ j u, (bytesL n f)[j]? = some u → w.cell? (ad.add j) = some u := by
        intro j u hu
        rw [bytesL_get] at hu
        by_cases hj : j < n
        · rw [if_pos hj] at hu
          injection hu with hu
          subst hu
          obtain ⟨b, o, h, _, hc⟩ := hr.2 (by omega)
          injection h with h
          subst h
          have e : (⟨b, o, none⟩ : Addr).add j = ⟨b, o + j, none⟩ := by unfold Addr.add; split <;> simp_all
          rw [e]; exact hc j hj
        · rw [if_neg hj] at hu; cases hu
      obtain ⟨v', w', h1, h2, h3, _, _⟩ := run_append_own_at (P := Tryz.prog) w w.heap.size 22 ty 5 i0 (.int .u8 0) 1 1 Tryz.underlying22 hi hz0 hz1 hz2 rfl (by decide)
        (.slice none 0 0) 0 [] (World.ownsRow_nil w _ 5 1) ad n c (bytesL n f) (by simp [bytesL]) hcells (bytesL_one n f) (by unfold maxLen; omega) (by omega) (Nat.le_refl _)
      rw [Nat.zero_add, List.nil_append] at h2
      exact ⟨v', w', h1, h2, h3⟩
  obtain ⟨v', w', h1, h2, h3⟩ := key
  have hv : ∃ A' c', v' = .slice A' n c' := by
    rcases h2.2 with ⟨rfl, rfl⟩ | ⟨g, cap, cur, rfl, _⟩
    · exact ⟨_, _, rfl⟩
    · exact ⟨_, _, rfl⟩
  obtain ⟨A', c', rfl⟩ := hv
  exact ⟨A', c', w', h1, h2, ⟨h3.os, h3.tape, h3.output, h3.size, fun k hk => h3.block k hk (by simp)⟩, RdB.of_own h2 hr.1⟩
/-- Bytes behind bytes. -/
def cat (f : Nat → Nat) (n : Nat) (g : Nat → Nat) (j : Nat) : Nat := if j < n then f j else g (j - n)
theorem cat_lt {f g : Nat → Nat} {n : Nat} (hf : ∀ j, f j < 256) (hg : ∀ j, g j < 256) (j : Nat) : cat f n g j < 256 := by
  unfold cat; split
  · exact hf _
  · exact hg _
theorem bytesL_cat (f g : Nat → Nat) (n m : Nat) : bytesL n f ++ bytesL m g = bytesL (n + m) (cat f n g) := by
  apply List.ext_getElem?
  intro j
  rw [List.getElem?_append]
  have hl : (bytesL n f).length = n := by simp [bytesL]
  rw [hl, bytesL_get, bytesL_get, bytesL_get]
  unfold cat
  by_cases h1 : j < n
  · rw [if_pos h1, if_pos h1, if_pos (by omega), if_pos h1]
  · rw [if_neg h1, if_neg h1]
    by_cases h2 : j - n < m
    · rw [if_pos h2, if_pos (by omega)]
    · rw [if_neg h2, if_neg (by omega)]
theorem own_ge {w : World} {base n : Nat} {e : TypeId} {v : Value} {xs : List Value} (h : w.ownsRow base e 1 v n xs) : ∀ k, v.ownBlock = some k → base ≤ k := by
  intro k hk
  rcases h.2 with ⟨rfl, _⟩ | ⟨g, cap, cur, rfl, hg, _⟩
  · simp [Value.ownBlock] at hk
  · simp [Value.ownBlock] at hk; omega
set_option maxRecDepth 100000 in
/-- append(v, b...) onto a row of the call's own: its own row still, of both's bytes. -/
theorem run_more (w : World) (base B : Nat) (v0 : Value) (n : Nat) (f : Nat → Nat) (hown : w.ownsRow base 5 1 v0 n (bytesL n f)) (A : Option Addr) (m c : Nat) (g : Nat → Nat) (hr : RdB w B A m g) (hnm : n + m ≤ 1000000000000) (ty : TypeId)
    (hA : A = none → c = 0) (hbase : base ≤ w.heap.size) :
    ∃ A' c' w', (Builtin.append_ #[22, 22] ty #[v0, .slice A m c]).run Tryz.prog w = .ok (.slice A' (n + m) c') w' ∧
      w'.ownsRow base 5 1 (.slice A' (n + m) c') (n + m) (bytesL (n + m) (cat f n g)) ∧ Below base w w' := by
  obtain ⟨i0, hi, hz0, hz1, hz2⟩ := info_parts infoU8
  have key : ∃ v' w', (Builtin.append_ #[22, 22] ty #[v0, .slice A m c]).run Tryz.prog w = .ok v' w' ∧
      w'.ownsRow base 5 1 v' (n + m) (bytesL (n + m) (cat f n g)) ∧ w.grownBy w' v0.ownBlock := by
    rcases A with _ | ad
    · have h0 : m = 0 := by
        rcases Nat.eq_zero_or_pos m with h | h
        · exact h
        · obtain ⟨b, o, h, _⟩ := hr.2 h; cases h
      subst h0
      obtain rfl := hA rfl
      refine ⟨v0, w, run_append_owned_none (P := Tryz.prog) (w := w) base 22 ty 5 i0 1 Tryz.underlying22 hi v0 n _ hown, ?_, World.grownBy.refl _ _⟩
      rw [← bytesL_cat]
      simpa [bytesL] using hown
    · have hcells : ∀ j u, (bytesL m g)[j]? = some u → w.cell? (ad.add j) = some u := by
        intro j u hu
        rw [bytesL_get] at hu
        by_cases hj : j < m
        · rw [if_pos hj] at hu
          injection hu with hu
          subst hu
          obtain ⟨b, o, h, _, hc⟩ := hr.2 (by omega)
          injection h with h
          subst h
          have e : (⟨b, o, none⟩ : Addr).add j = ⟨b, o + j, none⟩ := by unfold Addr.add; split <;> simp_all
          rw [e]; exact hc j hj
        · rw [if_neg hj] at hu; cases hu
      obtain ⟨v', w', h1, h2, h3, _, _⟩ := run_append_own_at (P := Tryz.prog) w base 22 ty 5 i0 (.int .u8 0) 1 1 Tryz.underlying22 hi hz0 hz1 hz2 rfl (by decide)
        v0 n _ hown ad m c (bytesL m g) (by simp [bytesL]) hcells (bytesL_one m g) (by unfold maxLen; omega) (by omega) hbase
      rw [bytesL_cat] at h2
      exact ⟨v', w', h1, h2, h3⟩
  obtain ⟨v', w', h1, h2, h3⟩ := key
  have hv : ∃ A' c', v' = .slice A' (n + m) c' := by
    rcases h2.2 with ⟨rfl, h⟩ | ⟨g, cap, cur, rfl, _⟩
    · exact ⟨none, 0, by rw [h]⟩
    · exact ⟨_, _, rfl⟩
  obtain ⟨A', c', rfl⟩ := hv
  exact ⟨A', c', w', h1, h2, (Below.refl base w).grown h3 hbase (own_ge hown)⟩
/-- An append whose run is known. -/
theorem wpList_append_run {P : Program} {w : World} {ops : Array Oper} {rest : List Oper} {o : Oper} {a : Act} {Q : Exit → Act → World → Prop} (hgd : o.guard = none) (s x : Operand) (t : TypeId)
    (ho : o.op = .call { callee := .builtin .append, args := #[s, x], argTypes := #[t, t] }) (v u v' : Value) (w' : World) (hs : a.eval s = v) (hx : a.eval x = u)
    (hrun : (Builtin.append_ #[t, t] o.type #[v, u]).run P w = .ok v' w') (h : wpList P ops Q rest (a.put o.dst v') w') : wpList P ops Q (o :: rest) a w := by
  refine wpList_plain hgd fun K hK => ?_
  unfold Oper.wp
  simp [execOp, ho, resolve, invoke, builtin, hs, hx, hrun, Result.andThen]
  exact hK _ _ h
def strB (n : Nat) (f : Nat → Nat) : ByteArray := strOfNums ((List.range n).map fun j => (f j : Int))
theorem strB_zero (f : Nat → Nat) : strB 0 f = ByteArray.empty := rfl
/-- string(b) -/
theorem run_str {w : World} {B : Nat} {A : Option Addr} {n : Nat} {f : Nat → Nat} (hr : RdB w B A n f) (c : Nat) :
    (convert 22 9 (.slice A n c)).run Tryz.prog w = .ok (.string (strB n f)) w := by
  rcases Nat.eq_zero_or_pos n with h0 | h0
  · subst h0
    rcases A with _ | ⟨b, o, s⟩
    · rw [strB_zero]; exact run_convert_bytes_nil w 22 5 Tryz.underlying22 Tryz.underlying5 0 c 9 Tryz.underlying9
    · rw [run_convert_bytes_string w 22 9 5 _ 0 c Tryz.underlying22 Tryz.underlying5 Tryz.underlying9, run_bytesToString w _ 0 c [] (by simpa using run_loadCells_list (P := Tryz.prog) w ⟨b, o, s⟩ [] (by simp))]
      rfl
  · obtain ⟨b, o, rfl, _, hc⟩ := hr.2 h0
    exact run_convert_bytes_arg w 22 5 Tryz.underlying22 Tryz.underlying5 b o n c _ (by simp) (fun i hi => by rw [hc i hi]; simp [List.getD, hi]) 9 Tryz.underlying9
/-- The bytes of a slice that came in, as the statement's form reads it. -/
theorem open_bytes {H : Type} {enc : TypeId × Value → H} {W : World} {base : Nat} {sp : Nat → Bool} {hd : Bool} {a : Option Addr} {len cap : Nat} {d : DataW H} {p : List MemPlace}
    (h : ∃ fuel, DataW.trod enc Tryz.prog W base sp hd fuel 22 (Value.slice a len cap).cells.toList = some (d, p)) :
    ∃ f, RdB W W.heap.size a len f ∧ (a = none → cap = 0) ∧ len ≤ cap ∧ cap ≤ maxLen := by
  obtain ⟨fuel, hf⟩ := h
  rcases open_ints Tryz.underlying22 Tryz.underlying5 (by kernel_rfl) hf with ⟨hcs, _⟩ | ⟨x, l, c, zs, hcs, _, hl, hm, hz, _, hcell, hwz⟩
  · simp [Value.cells] at hcs
    obtain ⟨rfl, rfl, rfl⟩ := hcs
    exact ⟨fun _ => 0, ⟨fun _ => by show 0 < 256; omega, fun h => by omega⟩, fun _ => rfl, Nat.le_refl _, by unfold maxLen; omega⟩
  · simp [Value.cells] at hcs
    obtain ⟨rfl, rfl, rfl⟩ := hcs
    have hbd : ∀ j, 0 ≤ zs.getD j 0 ∧ zs.getD j 0 < 256 := by
      intro j
      rcases Nat.lt_or_ge j zs.length with hj | hj
      · have := hwz (zs.getD j 0) (by simp [List.getD, hj])
        simp [Lit.wf, IntKind.min, IntKind.max, IntKind.signed, IntKind.bits] at this
        simp [List.getD, hj]
        simp [hj] at this
        omega
      · simp [List.getD, List.getElem?_eq_none hj]
    refine ⟨fun j => (zs.getD j 0).toNat, ⟨fun j => by have := hbd j; show (zs.getD j 0).toNat < 256; omega, fun hn => ?_⟩, (fun h => by cases h), hl, hm⟩
    have hzl : len ≤ zs.length := by rw [hz]; split <;> omega
    obtain ⟨b, off, spot⟩ := x
    have h0 := hcell 0 (by omega)
    have hspot : spot = none := by simpa [Addr.add] using World.cell?_spot h0
    subst hspot
    have hlt : b < W.heap.size := by
      rcases Nat.lt_or_ge b W.heap.size with h | h
      · exact h
      · simp [Addr.add, World.cell?, Array.getElem?_eq_none h] at h0
    refine ⟨b, off, rfl, hlt, fun j hj => ?_⟩
    have hb := hbd j
    have h1 := hcell j (by omega)
    have e : (⟨b, off, none⟩ : Addr).add j = ⟨b, off + j, none⟩ := by unfold Addr.add; split <;> simp_all
    rw [e] at h1
    rw [h1, Int.toNat_of_nonneg hb.1]
theorem bcell {B : Nat} {W w1 : World} (hb : Below B W w1) : (∀ b o, b < B → w1.cell? ⟨b, o, none⟩ = W.cell? ⟨b, o, none⟩) ∧ (∀ b o, b < B → w1.frozen? ⟨b, o, none⟩ = W.frozen? ⟨b, o, none⟩) :=
  ⟨fun b o h => hb.cell (p := ⟨b, o, none⟩) h, fun b o h => hb.frozen (p := ⟨b, o, none⟩) h⟩
/-- A block of bytes of the call's own. -/
def Row (w : World) (g L : Nat) (f : Nat → Nat) : Prop := w.heap[g]? = some (.cells (bytesL L f).toArray 5 (0, 0))
def upd (f : Nat → Nat) (i x : Nat) : Nat → Nat := fun j => if j = i then x else f j
theorem Row.cell {w : World} {g L : Nat} {f : Nat → Nat} (h : Row w g L f) {j : Nat} (hj : j < L) : w.cell? ⟨g, j, none⟩ = some (.int .u8 (f j : Int)) := by
  rw [cell_of_row w g j _ 5 (0, 0) h]
  simp [bytesL, hj]
theorem Row.frozen {w : World} {g L : Nat} {f : Nat → Nat} (h : Row w g L f) (j : Nat) : w.frozen? ⟨g, j, none⟩ = false := by
  unfold Row at h
  simp [World.frozen?, h]
theorem Row.lt {w : World} {g L : Nat} {f : Nat → Nat} (h : Row w g L f) : g < w.heap.size := (Array.getElem?_eq_some_iff.1 h).1
theorem Row.set {w : World} {g L : Nat} {f : Nat → Nat} (h : Row w g L f) (i x : Nat) : Row (w.setCell ⟨g, i, none⟩ (.int .u8 (x : Int))) g L (upd f i x) := by
  unfold Row at h ⊢
  simp only [World.setCell, Array.getElem?_modify, h]
  simp
  apply List.ext_getElem?
  intro j
  simp only [List.getElem?_set, bytesL_get, upd]
  have hl : (bytesL L f).length = L := by simp [bytesL]
  by_cases e : i = j
  · subst e
    by_cases h : i < L <;> simp [h, hl]
  · have e' : ¬ j = i := fun h => e h.symm
    simp [e, e']
theorem Row.other {w : World} {g L : Nat} {f : Nat → Nat} (h : Row w g L f) {p : Addr} (hp : g ≠ p.block) (u : Value) : Row (w.setCell p u) g L f := (Below.heap_setCell w p u g hp).trans h
theorem Row.drawn {w : World} {g L : Nat} {f : Nat → Nat} (h : Row w g L f) (n : Nat) : Row (w.drewN n) g L f := h
theorem Row.alloc {w : World} {g L : Nat} {f : Nat → Nat} (h : Row w g L f) (o : Obj) : Row (w.alloc o) g L f := (Below.heap_alloc w o g h.lt).trans h
theorem Row.below {w w' : World} {g L B : Nat} {f : Nat → Nat} (h : Row w g L f) (hb : Below B w w') (hg : g < B) : Row w' g L f := (hb.block g hg).trans h
theorem Row.rd {w : World} {g L : Nat} {f : Nat → Nat} (h : Row w g L f) (hf : ∀ j, f j < 256) : RdB w w.heap.size (some ⟨g, 0, none⟩) L f :=
  ⟨hf, fun _ => ⟨g, 0, rfl, h.lt, fun j hj => by rw [Nat.zero_add]; exact h.cell hj⟩⟩
/-! ### a row of bytes of the call's own, with room behind it -/
def RowW (w : World) (g n : Nat) (f : Nat → Nat) : Prop := ∃ cur : Array Value, w.heap[g]? = some (.cells cur 5 (0, 0)) ∧ ∀ j, j < n → cur[j]? = some (.int .u8 (f j : Int))
theorem RowW.lt {w : World} {g n : Nat} {f : Nat → Nat} (h : RowW w g n f) : g < w.heap.size := by
  obtain ⟨cur, h1, _⟩ := h; exact (Array.getElem?_eq_some_iff.1 h1).1
theorem RowW.cell {w : World} {g n : Nat} {f : Nat → Nat} (h : RowW w g n f) {j : Nat} (hj : j < n) : w.cell? ⟨g, j, none⟩ = some (.int .u8 (f j : Int)) := by
  obtain ⟨cur, h1, h2⟩ := h
  rw [cell_of_row w g j _ _ (0, 0) h1]; exact h2 j hj
theorem RowW.frozen {w : World} {g n : Nat} {f : Nat → Nat} (h : RowW w g n f) (j : Nat) : w.frozen? ⟨g, j, none⟩ = false := by
  obtain ⟨cur, h1, _⟩ := h; exact frozen_of_row w g j _ _ h1
theorem RowW.set {w : World} {g n : Nat} {f : Nat → Nat} (h : RowW w g n f) (i x : Nat) : RowW (w.setCell ⟨g, i, none⟩ (.int .u8 (x : Int))) g n (upd f i x) := by
  obtain ⟨cur, h1, h2⟩ := h
  refine ⟨cur.setIfInBounds i (.int .u8 (x : Int)), heap_setCell_same w g i cur _ _ h1, fun j hj => ?_⟩
  rw [Array.getElem?_setIfInBounds, upd]
  have hs : j < cur.size := by
    rcases Nat.lt_or_ge j cur.size with h | h
    · exact h
    · have := h2 j hj; rw [Array.getElem?_eq_none h] at this; cases this
  by_cases e : i = j
  · subst e; simp [hs]
  · have e' : ¬ j = i := fun h => e h.symm
    simp [e, e', h2 j hj]
theorem RowW.other {w : World} {g n : Nat} {f : Nat → Nat} (h : RowW w g n f) {p : Addr} (hp : g ≠ p.block) (u : Value) : RowW (w.setCell p u) g n f := by
  obtain ⟨cur, h1, h2⟩ := h; exact ⟨cur, (Below.heap_setCell w p u g hp).trans h1, h2⟩
theorem RowW.below {w w' : World} {g n B : Nat} {f : Nat → Nat} (h : RowW w g n f) (hb : Below B w w') (hg : g < B) : RowW w' g n f := by
  obtain ⟨cur, h1, h2⟩ := h; exact ⟨cur, (hb.block g hg).trans h1, h2⟩
theorem RowW.drew {w : World} {g n : Nat} {f : Nat → Nat} (h : RowW w g n f) : RowW w.drew g n f := h
theorem RowW.rd {w : World} {g n : Nat} {f : Nat → Nat} (h : RowW w g n f) (hf : ∀ j, f j < 256) : RdB w w.heap.size (some ⟨g, 0, none⟩) n f :=
  ⟨hf, fun _ => ⟨g, 0, rfl, h.lt, fun j hj => by rw [Nat.zero_add]; exact h.cell hj⟩⟩
theorem RowW.of_own {w : World} {base n c : Nat} {A : Option Addr} {f : Nat → Nat} (h : w.ownsRow base 5 1 (.slice A n c) n (bytesL n f)) (hn : 0 < n) : ∃ g, A = some ⟨g, 0, none⟩ ∧ base ≤ g ∧ RowW w g n f := by
  rcases h.2 with ⟨_, h0⟩ | ⟨g, cap, cur, hv, hg, hh, _, _, _, ht⟩
  · omega
  · injection hv with hA _ _
    refine ⟨g, hA, hg, cur, hh, fun j hj => ?_⟩
    have h1 := bytesL_get n f j
    rw [if_pos hj, ← ht, List.getElem?_take] at h1
    split at h1
    · simpa using h1
    · cases h1
theorem RowW.ext {w : World} {g n : Nat} {f f' : Nat → Nat} (h : RowW w g n f) (e : ∀ j, j < n → f j = f' j) : RowW w g n f' := by
  obtain ⟨cur, h1, h2⟩ := h; exact ⟨cur, h1, fun j hj => by rw [h2 j hj, e j hj]⟩
theorem wf_u8_range {n : Int} (h : (Lit.int .u8 n).wf = true) : 0 ≤ n ∧ n < 256 := by
  simp [Lit.wf, IntKind.min, IntKind.max, IntKind.signed, IntKind.bits] at h; omega
theorem wf_i64_range {n : Int} (h : (Lit.int .i64 n).wf = true) : -9223372036854775808 ≤ n ∧ n ≤ 9223372036854775807 := by
  simp [Lit.wf, IntKind.min, IntKind.max, IntKind.signed, IntKind.bits] at h; omega
end Go.Proofs.YtjhljkhgjcckhaaGreat

namespace Go.Proofs.YtjhljkhgjcckhaaGreat
/-! ### one row out of items and pairs -/
def pickB (n m : Nat) (w p : Nat → Nat) (i k : Nat) : Bool := decide (m ≤ k ∨ (i < n ∧ w i ≤ p k))
/-- How many items stand among the first t parcels of the merged row. -/
def stepI (n m : Nat) (w p : Nat → Nat) : Nat → Nat
  | 0 => 0
  | t + 1 => if pickB n m w p (stepI n m w p t) (t - stepI n m w p t) = true then stepI n m w p t + 1 else stepI n m w p t
def mrg (n m : Nat) (w p : Nat → Nat) (t : Nat) : Nat :=
  if pickB n m w p (stepI n m w p t) (t - stepI n m w p t) = true then w (stepI n m w p t) else p (t - stepI n m w p t)
/-- Sums of the first t. -/
def sm (g : Nat → Nat) : Nat → Nat
  | 0 => 0
  | t + 1 => sm g t + g t
def Sorted (n : Nat) (w : Nat → Nat) : Prop := ∀ i j, i ≤ j → j < n → w i ≤ w j
section
variable {n m : Nat} {w p : Nat → Nat}
theorem stepI_bd : ∀ t, t ≤ n + m → stepI n m w p t ≤ n ∧ t - stepI n m w p t ≤ m ∧ stepI n m w p t ≤ t
  | 0, _ => ⟨Nat.zero_le _, Nat.zero_le _, Nat.le_refl _⟩
  | t + 1, h => by
    have ih := stepI_bd t (by omega)
    simp only [stepI]
    by_cases hc : pickB n m w p (stepI n m w p t) (t - stepI n m w p t) = true
    · rw [if_pos hc]
      have := of_decide_eq_true hc
      omega
    · rw [if_neg hc]
      have := of_decide_eq_false (Bool.not_eq_true _ ▸ hc)
      omega
theorem pair_lt (hw : Sorted n w) : ∀ t, t ≤ n + m → ∀ j, j < t - stepI n m w p t → ∀ i, stepI n m w p t ≤ i → i < n → p j < w i
  | 0, _, j, hj, _, _, _ => absurd hj (by omega)
  | t + 1, h, j, hj, i, hi, hin => by
    have ih := pair_lt hw t (by omega)
    have hbd := stepI_bd (n := n) (m := m) (w := w) (p := p) t (by omega)
    simp only [stepI] at hj hi
    by_cases hc : pickB n m w p (stepI n m w p t) (t - stepI n m w p t) = true
    · rw [if_pos hc] at hj hi
      exact ih j (by omega) i (by omega) hin
    · rw [if_neg hc] at hj hi
      by_cases e : j = t - stepI n m w p t
      · have h2 := of_decide_eq_false (Bool.not_eq_true _ ▸ hc)
        have h3 := hw (stepI n m w p t) i hi hin
        have h4 : ¬ (w (stepI n m w p t) ≤ p (t - stepI n m w p t)) := fun g => h2 (.inr ⟨by omega, g⟩)
        rw [e]; omega
      · exact ih j (by omega) i hi hin
end
/-! ### rows -/
def prs (r : Nat → Nat) (j : Nat) : Nat := r (2 * j) + r (2 * j + 1)
/-- Row k + 1: how many parcels, their weights, how many items among the first t, and how often item i is in them. -/
def rowLen (n : Nat) : Nat → Nat
  | 0 => n
  | k + 1 => n + rowLen n k / 2
def rowW (n : Nat) (w : Nat → Nat) : Nat → Nat → Nat
  | 0 => w
  | k + 1 => mrg n (rowLen n k / 2) w (prs (rowW n w k))
def takeI (n : Nat) (w : Nat → Nat) : Nat → Nat → Nat
  | 0, t => t
  | k + 1, t => stepI n (rowLen n k / 2) w (prs (rowW n w k)) t
def cntN (n : Nat) (w : Nat → Nat) : Nat → Nat → Nat → Nat
  | 0, t, i => if i < t then 1 else 0
  | k + 1, t, i => (if i < takeI n w (k + 1) t then 1 else 0) + cntN n w k (2 * (t - takeI n w (k + 1) t)) i
theorem sm_prs (r : Nat → Nat) : ∀ b, sm (prs r) b = sm r (2 * b)
  | 0 => rfl
  | b + 1 => by
    rw [show 2 * (b + 1) = 2 * b + 1 + 1 by omega]
    simp only [sm]
    rw [sm_prs r b]; unfold prs; omega
end Go.Proofs.YtjhljkhgjcckhaaGreat

namespace Go.Proofs.YtjhljkhgjcckhaaGreat
/-- What lengths count, of 2^L. -/
def kraft (L : Nat) (m : Nat → Nat) : Nat → Nat
  | 0 => 0
  | n + 1 => kraft L m n + 2 ^ (L - m n)
end Go.Proofs.YtjhljkhgjcckhaaGreat

namespace Go.Proofs.YtjhljkhgjcckhaaGreat
theorem takeI_le {n : Nat} {w : Nat → Nat} : ∀ k t, t ≤ rowLen n k → takeI n w k t ≤ n ∧ takeI n w k t ≤ t
  | 0, t, h => ⟨h, Nat.le_refl _⟩
  | k + 1, t, h => by
    have := stepI_bd (n := n) (m := rowLen n k / 2) (w := w) (p := prs (rowW n w k)) t h
    exact ⟨this.1, this.2.2⟩
theorem rest_le {n : Nat} {w : Nat → Nat} {k t : Nat} (h : t ≤ rowLen n (k + 1)) : 2 * (t - takeI n w (k + 1) t) ≤ rowLen n k := by
  have h2 : t - takeI n w (k + 1) t ≤ rowLen n k / 2 := (stepI_bd (n := n) (m := rowLen n k / 2) (w := w) (p := prs (rowW n w k)) t h).2.1
  omega
theorem cnt_le (n : Nat) (w : Nat → Nat) : ∀ k t i, cntN n w k t i ≤ k + 1
  | 0, t, i => by simp only [cntN]; split <;> omega
  | k + 1, t, i => by
    have := cnt_le n w k (2 * (t - takeI n w (k + 1) t)) i
    simp only [cntN]; split <;> omega
theorem step_at {n m : Nat} {w p : Nat → Nat} : ∀ t i, i < stepI n m w p t → ∃ q, q < t ∧ mrg n m w p q = w i
  | 0, i, h => by simp [stepI] at h
  | t + 1, i, h => by
    simp only [stepI] at h
    by_cases hc : pickB n m w p (stepI n m w p t) (t - stepI n m w p t) = true
    · rw [if_pos hc] at h
      rcases Nat.eq_or_lt_of_le (Nat.le_of_lt_succ h) with e | e
      · exact ⟨t, by omega, by unfold mrg; rw [if_pos hc, e]⟩
      · obtain ⟨q, hq, h2⟩ := step_at t i e
        exact ⟨q, by omega, h2⟩
    · rw [if_neg hc] at h
      obtain ⟨q, hq, h2⟩ := step_at t i h
      exact ⟨q, by omega, h2⟩
theorem take_at {n : Nat} {w : Nat → Nat} : ∀ k t i, i < takeI n w k t → ∃ q, q < t ∧ rowW n w k q = w i
  | 0, _, i, h => ⟨i, h, rfl⟩
  | _ + 1, t, i, h => step_at t i h
/-- What stands in a row stands in the row behind it. -/
theorem take_nest {n : Nat} {w : Nat → Nat} (hw : Sorted n w) {k t : Nat} (h : t ≤ rowLen n (k + 1)) : takeI n w k (2 * (t - takeI n w (k + 1) t)) ≤ takeI n w (k + 1) t := by
  have h1 := takeI_le (w := w) k _ (rest_le (w := w) h)
  by_cases g : takeI n w k (2 * (t - takeI n w (k + 1) t)) ≤ takeI n w (k + 1) t
  · exact g
  · exfalso
    obtain ⟨q, hq, he⟩ := take_at (n := n) (w := w) k (2 * (t - takeI n w (k + 1) t)) (takeI n w (k + 1) t) (by omega)
    have h2 := pair_lt (m := rowLen n k / 2) (p := prs (rowW n w k)) hw t h (q / 2) (by show q / 2 < t - takeI n w (k + 1) t; omega) (takeI n w (k + 1) t) (Nat.le_refl _) (by omega)
    have h3 : rowW n w k q ≤ prs (rowW n w k) (q / 2) := by
      unfold prs
      rcases Nat.mod_two_eq_zero_or_one q with e | e
      · rw [show 2 * (q / 2) = q by omega]; omega
      · rw [show 2 * (q / 2) + 1 = q by omega]; omega
    omega
theorem cnt_none {n : Nat} {w : Nat → Nat} (hw : Sorted n w) : ∀ k t i, t ≤ rowLen n k → takeI n w k t ≤ i → cntN n w k t i = 0
  | 0, t, i, _, h => by simp only [cntN]; rw [if_neg (by simp only [takeI] at h; omega)]
  | k + 1, t, i, ht, h => by
    have h1 := take_nest hw ht
    have := cnt_none hw k _ i (rest_le (w := w) ht) (Nat.le_trans h1 h)
    simp only [cntN]; rw [this, if_neg (by omega)]
/-- What item i's parcels count, of 2^(k + 1). -/
def oneF (n : Nat) (w : Nat → Nat) : Nat → Nat → Nat → Nat
  | 0, t, i => if i < t then 1 else 0
  | k + 1, t, i => 2 ^ (k + 1) * (if i < takeI n w (k + 1) t then 1 else 0) + oneF n w k (2 * (t - takeI n w (k + 1) t)) i
theorem oneF_cnt {n : Nat} {w : Nat → Nat} (hw : Sorted n w) : ∀ k t i, t ≤ rowLen n k → oneF n w k t i + 2 ^ (k + 1 - cntN n w k t i) = 2 ^ (k + 1)
  | 0, t, i, h => by
    simp only [oneF, cntN]
    by_cases g : i < t
    · rw [if_pos g]
    · rw [if_neg g]
  | k + 1, t, i, h => by
    have ih := oneF_cnt hw k _ i (rest_le (w := w) h)
    have hl := cnt_le n w k (2 * (t - takeI n w (k + 1) t)) i
    simp only [oneF, cntN]
    by_cases g : i < takeI n w (k + 1) t
    · rw [if_pos g, Nat.mul_one, show k + 1 + 1 - (1 + cntN n w k (2 * (t - takeI n w (k + 1) t)) i) = k + 1 - cntN n w k (2 * (t - takeI n w (k + 1) t)) i by omega]
      have e : (2 : Nat) ^ (k + 1 + 1) = 2 ^ (k + 1) * 2 := Nat.pow_succ _ _
      omega
    · have h0 := cnt_none hw k _ i (rest_le (w := w) h) (Nat.le_trans (take_nest hw h) (by omega))
      rw [if_neg g]
      rw [h0] at ih ⊢
      have e2 : (2 : Nat) ^ (k + 1 - 0) = 2 ^ (k + 1) := rfl
      have e3 : (2 : Nat) ^ (k + 1 + 1 - (0 + 0)) = 2 ^ (k + 1 + 1) := rfl
      rw [e3]; omega
/-- Sums over items. -/
def sums (c : Nat → Nat) : Nat → Nat
  | 0 => 0
  | n + 1 => sums c n + c n
theorem sums_add (a b : Nat → Nat) : ∀ n, sums (fun i => a i + b i) n = sums a n + sums b n
  | 0 => rfl
  | n + 1 => by simp only [sums]; rw [sums_add a b n]; omega
theorem sums_first (x t : Nat) : ∀ n, sums (fun i => x * (if i < t then 1 else 0)) n = x * min t n
  | 0 => by simp [sums]
  | n + 1 => by
    simp only [sums]
    rw [sums_first x t n]
    by_cases h : n < t
    · rw [if_pos h, Nat.mul_one, show min t n = n by omega, show min t (n + 1) = n + 1 by omega, Nat.mul_add, Nat.mul_one]
    · rw [if_neg h, show min t n = t by omega, show min t (n + 1) = t by omega]; omega
theorem sums_oneF {n : Nat} {w : Nat → Nat} : ∀ k t, t ≤ rowLen n k → sums (oneF n w k t) n = t * 2 ^ k
  | 0, t, h => by
    have e : oneF n w 0 t = fun i => 1 * (if i < t then 1 else 0) := by funext i; simp only [oneF]; omega
    rw [e, sums_first, Nat.one_mul, show min t n = t from Nat.min_eq_left h, Nat.pow_zero, Nat.mul_one]
  | k + 1, t, h => by
    have e : oneF n w (k + 1) t = fun i => 2 ^ (k + 1) * (if i < takeI n w (k + 1) t then 1 else 0) + oneF n w k (2 * (t - takeI n w (k + 1) t)) i := rfl
    have hb := takeI_le (w := w) (k + 1) t h
    rw [e, sums_add, sums_first, sums_oneF k _ (rest_le (w := w) h), Nat.min_eq_left hb.1]
    have e2 : (2 : Nat) ^ (k + 1) = 2 ^ k * 2 := Nat.pow_succ _ _
    obtain ⟨r, hr⟩ : ∃ r, t = takeI n w (k + 1) t + r := ⟨t - takeI n w (k + 1) t, by omega⟩
    have e3 : t - takeI n w (k + 1) t = r := by omega
    rw [e3]
    conv => rhs; rw [hr]
    rw [e2, Nat.add_mul, Nat.mul_comm (2 ^ k * 2), Nat.mul_comm 2 r, Nat.mul_assoc r 2, Nat.mul_comm 2 (2 ^ k)]
theorem kraft_sums (L : Nat) (c d : Nat → Nat) : ∀ n, (∀ i, i < n → d i + 2 ^ (L - c i) = 2 ^ L) → sums d n + kraft L c n = n * 2 ^ L
  | 0, _ => by simp [sums, kraft]
  | n + 1, h => by
    have ih := kraft_sums L c d n (fun i hi => h i (by omega))
    have h1 := h n (by omega)
    simp only [sums, kraft]
    rw [Nat.add_mul, Nat.one_mul]; omega
theorem rowLen_le {n : Nat} (hn : 1 ≤ n) : ∀ k, rowLen n k ≤ 2 * n - 1
  | 0 => by simp only [rowLen]; omega
  | k + 1 => by have := rowLen_le hn k; simp only [rowLen]; omega
theorem rowLen_ge {n : Nat} : ∀ k, 2 * n * 2 ^ k + 1 ≤ rowLen n k * 2 ^ k + n + 2 ^ k
  | 0 => by simp only [rowLen, Nat.pow_zero, Nat.mul_one]; omega
  | k + 1 => by
    have ih := rowLen_ge (n := n) k
    simp only [rowLen]
    have e2 : (2 : Nat) ^ (k + 1) = 2 ^ k * 2 := Nat.pow_succ _ _
    have h3 : rowLen n k ≤ 2 * (rowLen n k / 2) + 1 := by omega
    have h4 := Nat.mul_le_mul_right (2 ^ k) h3
    rw [Nat.add_mul, Nat.one_mul, Nat.mul_assoc, Nat.mul_comm 2] at h4
    rw [e2, Nat.add_mul, ← Nat.mul_assoc, ← Nat.mul_assoc, ← Nat.mul_assoc]
    have e5 : 2 * n * 2 ^ k = n * 2 ^ k * 2 := by rw [Nat.mul_assoc, Nat.mul_comm 2]
    rw [e5] at ih ⊢
    omega
theorem rowLen_enough {n L : Nat} (hL : 0 < L) (hn : n ≤ 2 ^ L) : 2 * n - 2 ≤ rowLen n (L - 1) := by
  have h := rowLen_ge (n := n) (L - 1)
  obtain ⟨K, rfl⟩ : ∃ K, L = K + 1 := ⟨L - 1, by omega⟩
  rw [Nat.add_sub_cancel] at h ⊢
  have e2 : (2 : Nat) ^ (K + 1) = 2 ^ K * 2 := Nat.pow_succ _ _
  by_cases g : 2 * n - 2 ≤ rowLen n K
  · exact g
  · exfalso
    have h1 : rowLen n K + 3 ≤ 2 * n := by omega
    have h2 := Nat.mul_le_mul_right (2 ^ K) h1
    rw [Nat.add_mul] at h2
    omega
theorem take_all {n : Nat} {w : Nat → Nat} (hw : Sorted n w) (hn : 2 ≤ n) : ∀ k, 2 * n - 2 ≤ rowLen n k → takeI n w k (2 * n - 2) = n
  | 0, h => by simp only [rowLen] at h; simp only [takeI]; omega
  | k + 1, h => by
    have h1 := takeI_le (w := w) (k + 1) _ h
    by_cases g : takeI n w (k + 1) (2 * n - 2) = n
    · exact g
    · exfalso
      have h2 := rest_le (w := w) h
      have h3 := rowLen_le (n := n) (by omega) k
      have h4 := take_nest hw h
      have e : 2 * (2 * n - 2 - takeI n w (k + 1) (2 * n - 2)) = 2 * n - 2 := by omega
      rw [e] at h2 h4
      rw [take_all hw hn k h2] at h4
      omega
/-- THE LEAST LENGTHS ARE WHOLE. -/
theorem least_whole {n L : Nat} {w : Nat → Nat} (hw : Sorted n w) (hL : 0 < L) (hn : 2 ≤ n) (hn2 : n ≤ 2 ^ L) : kraft L (cntN n w (L - 1) (2 * n - 2)) n = 2 ^ L := by
  have hen := rowLen_enough hL hn2
  obtain ⟨K, rfl⟩ : ∃ K, L = K + 1 := ⟨L - 1, by omega⟩
  rw [Nat.add_sub_cancel] at hen ⊢
  have h1 := kraft_sums (K + 1) (cntN n w K (2 * n - 2)) (oneF n w K (2 * n - 2)) n (fun i _ => oneF_cnt hw K _ i hen)
  rw [sums_oneF K _ hen] at h1
  have e2 : (2 : Nat) ^ (K + 1) = 2 ^ K * 2 := Nat.pow_succ _ _
  have e3 : (2 * n - 2) * 2 ^ K = (n - 1) * 2 ^ (K + 1) := by rw [e2, show 2 * n - 2 = (n - 1) * 2 by omega, Nat.mul_assoc, Nat.mul_comm 2]
  have e4 : n * 2 ^ (K + 1) = (n - 1) * 2 ^ (K + 1) + 2 ^ (K + 1) := by
    conv => lhs; rw [show n = (n - 1) + 1 by omega, Nat.add_mul, Nat.one_mul]
  omega
theorem least_pos {n L : Nat} {w : Nat → Nat} (hw : Sorted n w) (hL : 0 < L) (hn : 2 ≤ n) (hn2 : n ≤ 2 ^ L) {i : Nat} (hi : i < n) : 1 ≤ cntN n w (L - 1) (2 * n - 2) i ∧ cntN n w (L - 1) (2 * n - 2) i ≤ L := by
  have hen := rowLen_enough hL hn2
  have hall := take_all hw hn (L - 1) hen
  have hle := cnt_le n w (L - 1) (2 * n - 2) i
  refine ⟨?_, by omega⟩
  cases hk : L - 1 with
  | zero => rw [hk] at hall; simp only [takeI] at hall; simp only [cntN]; rw [if_pos (by omega)]; exact Nat.le_refl _
  | succ k => rw [hk] at hall; simp only [cntN]; rw [hall, if_pos hi]; omega
end Go.Proofs.YtjhljkhgjcckhaaGreat

namespace Go.Proofs.YtjhljkhgjcckhaaGreat
/-- Does symbol i stand ahead of symbol j? -/
def aheadB (F : Nat → Nat) (i j : Nat) : Bool := decide (F i < F j ∨ (F i = F j ∧ i < j))
/-- Symbol i put in: behind all whose frequency is not greater. -/
def insI (F : Nat → Nat) (i : Nat) : List Nat → List Nat
  | [] => [i]
  | j :: l => if F j ≤ F i then j :: insI F i l else i :: j :: l
def itemsL (F : Nat → Nat) : Nat → List Nat
  | 0 => []
  | n + 1 => if 0 < F n then insI F n (itemsL F n) else itemsL F n
def nI (F : Nat → Nat) : Nat → Nat
  | 0 => 0
  | n + 1 => nI F n + if 0 < F n then 1 else 0
theorem ins_length (F : Nat → Nat) (i : Nat) : ∀ l, (insI F i l).length = l.length + 1
  | [] => rfl
  | j :: l => by
    simp only [insI]; split
    · simp only [List.length_cons]; rw [ins_length F i l]
    · rfl
theorem items_length (F : Nat → Nat) : ∀ n, (itemsL F n).length = nI F n
  | 0 => rfl
  | n + 1 => by
    simp only [itemsL, nI]
    split
    · rw [ins_length, items_length F n]
    · rw [items_length F n]; rfl
theorem ins_mem (F : Nat → Nat) (i x : Nat) : ∀ l, x ∈ insI F i l ↔ x = i ∨ x ∈ l
  | [] => by simp [insI]
  | j :: l => by
    simp only [insI]; split
    · simp only [List.mem_cons]; rw [ins_mem F i x l]
      constructor
      · rintro (h | h | h)
        · exact .inr (.inl h)
        · exact .inl h
        · exact .inr (.inr h)
      · rintro (h | h | h)
        · exact .inr (.inl h)
        · exact .inl h
        · exact .inr (.inr h)
    · simp only [List.mem_cons]
theorem items_mem (F : Nat → Nat) (x : Nat) : ∀ n, x ∈ itemsL F n ↔ x < n ∧ 0 < F x
  | 0 => by simp [itemsL]
  | n + 1 => by
    simp only [itemsL]
    split
    · rename_i h
      rw [ins_mem, items_mem F x n]
      constructor
      · rintro (rfl | h2)
        · exact ⟨by omega, h⟩
        · exact ⟨by omega, h2.2⟩
      · rintro ⟨h1, h2⟩
        by_cases e : x = n
        · exact .inl e
        · exact .inr ⟨by omega, h2⟩
    · rename_i h
      rw [items_mem F x n]
      constructor
      · rintro ⟨h1, h2⟩; exact ⟨by omega, h2⟩
      · rintro ⟨h1, h2⟩
        refine ⟨?_, h2⟩
        by_cases e : x = n
        · subst e; exact absurd h2 h
        · omega
/-- In order: each stands ahead of all behind it. -/
def InOrder (F : Nat → Nat) : List Nat → Prop
  | [] => True
  | j :: l => (∀ x ∈ l, aheadB F j x = true) ∧ InOrder F l
theorem ahead_iff {F : Nat → Nat} {i j : Nat} : aheadB F i j = true ↔ (F i < F j ∨ (F i = F j ∧ i < j)) := by unfold aheadB; exact decide_eq_true_iff
theorem ins_order (F : Nat → Nat) (i : Nat) : ∀ l, InOrder F l → (∀ x ∈ l, x < i) → InOrder F (insI F i l)
  | [], _, _ => ⟨fun x hx => by simp at hx, trivial⟩
  | j :: l, h, hx => by
    simp only [insI]
    have hj := hx j (by simp)
    split
    · rename_i hle
      refine ⟨fun x h2 => ?_, ins_order F i l h.2 (fun x h2 => hx x (by simp [h2]))⟩
      rcases (ins_mem F i x l).1 h2 with rfl | h2
      · exact ahead_iff.2 (by omega)
      · exact h.1 x h2
    · rename_i hle
      refine ⟨fun x h2 => ?_, h⟩
      rcases List.mem_cons.1 h2 with rfl | h2
      · exact ahead_iff.2 (by omega)
      · have := ahead_iff.1 (h.1 x h2)
        exact ahead_iff.2 (by omega)
theorem items_order (F : Nat → Nat) : ∀ n, InOrder F (itemsL F n)
  | 0 => trivial
  | n + 1 => by
    simp only [itemsL]
    split
    · exact ins_order F n _ (items_order F n) (fun x hx => ((items_mem F x n).1 hx).1)
    · exact items_order F n
theorem order_at {F : Nat → Nat} : ∀ (l : List Nat), InOrder F l → ∀ r s, r < s → s < l.length → aheadB F (l.getD r 0) (l.getD s 0) = true
  | [], _, r, s, _, hs => absurd hs (by simp)
  | j :: l, h, 0, s + 1, _, hs => by
    have hs' : s < l.length := by simpa using hs
    have : (j :: l).getD (s + 1) 0 = l[s] := by simp [List.getD, hs']
    rw [this]
    exact h.1 _ (List.getElem_mem hs')
  | j :: l, h, r + 1, s + 1, hrs, hs => by
    have h2 := order_at l h.2 r s (by omega) (by simpa using hs)
    have e1 : ∀ t, (j :: l).getD (t + 1) 0 = l.getD t 0 := fun t => by simp [List.getD]
    rw [e1, e1]; exact h2
/-- The frequency of the item number r. -/
def itemW (F : Nat → Nat) (n r : Nat) : Nat := F ((itemsL F n).getD r 0)
theorem itemW_sorted (F : Nat → Nat) (n : Nat) : Sorted (nI F n) (itemW F n) := by
  intro i j hij hj
  rcases Nat.eq_or_lt_of_le hij with e | e
  · subst e; exact Nat.le_refl _
  · have := ahead_iff.1 (order_at (itemsL F n) (items_order F n) i j e (by rw [items_length]; exact hj))
    unfold itemW; omega
/-! ### sums over items and over symbols -/
theorem sums_same {c d : Nat → Nat} : ∀ n, (∀ i, i < n → c i = d i) → sums c n = sums d n
  | 0, _ => rfl
  | n + 1, h => by simp only [sums]; rw [sums_same n (fun i hi => h i (by omega)), h n (by omega)]
theorem sums_front (c : Nat → Nat) : ∀ n, sums c (n + 1) = c 0 + sums (fun i => c (i + 1)) n
  | 0 => by simp [sums]
  | n + 1 => by
    have := sums_front c n
    have e : sums c (n + 1 + 1) = sums c (n + 1) + c (n + 1) := rfl
    rw [e, this]; simp only [sums]; omega
def sumL (g : Nat → Nat) : List Nat → Nat
  | [] => 0
  | j :: l => g j + sumL g l
theorem sumL_sums (g : Nat → Nat) : ∀ l : List Nat, sums (fun r => g (l.getD r 0)) l.length = sumL g l
  | [] => rfl
  | j :: l => by
    rw [List.length_cons, sums_front]
    have e1 : ∀ t, (j :: l).getD (t + 1) 0 = l.getD t 0 := fun t => by simp [List.getD]
    have e0 : (j :: l).getD 0 0 = j := rfl
    simp only [e1, e0, sumL]
    rw [sumL_sums g l]
theorem sumL_ins (g F : Nat → Nat) (i : Nat) : ∀ l, sumL g (insI F i l) = sumL g l + g i
  | [] => by simp [insI, sumL]
  | j :: l => by
    simp only [insI]; split
    · simp only [sumL]; rw [sumL_ins g F i l]; omega
    · simp only [sumL]; omega
theorem sumL_items (g F : Nat → Nat) : ∀ n, sumL g (itemsL F n) = sums (fun i => if 0 < F i then g i else 0) n
  | 0 => rfl
  | n + 1 => by
    simp only [itemsL, sums]
    split
    · rw [sumL_ins, sumL_items g F n]
    · rw [sumL_items g F n]; rfl
theorem items_sum (g F : Nat → Nat) (n : Nat) : sums (fun r => g ((itemsL F n).getD r 0)) (nI F n) = sums (fun i => if 0 < F i then g i else 0) n := by
  rw [← items_length, sumL_sums, sumL_items]
theorem kraft_sum (L : Nat) (m : Nat → Nat) : ∀ n, kraft L m n = sums (fun i => 2 ^ (L - m i)) n
  | 0 => rfl
  | n + 1 => by simp only [kraft, sums]; rw [kraft_sum L m n]
/-! ### the least lengths -/
/-- A symbol's place among the items. -/
def rankN (F : Nat → Nat) (n i : Nat) : Nat := (itemsL F n).idxOf i
def lenB (F : Nat → Nat) (n L i : Nat) : Nat :=
  if F i = 0 then 0 else if nI F n = 1 then 1 else cntN (nI F n) (itemW F n) (L - 1) (2 * nI F n - 2) (rankN F n i)
theorem rank_at {F : Nat → Nat} {n i : Nat} (hi : i < n) (h : 0 < F i) : rankN F n i < nI F n ∧ (itemsL F n).getD (rankN F n i) 0 = i := by
  have hm : i ∈ itemsL F n := (items_mem F i n).2 ⟨hi, h⟩
  have hl : rankN F n i < (itemsL F n).length := List.idxOf_lt_length_of_mem hm
  refine ⟨by rw [← items_length]; exact hl, ?_⟩
  rw [List.getD_eq_getElem?_getD, List.getElem?_eq_getElem hl]
  exact List.getElem_idxOf hl
theorem rank_of {F : Nat → Nat} {n r : Nat} (hr : r < nI F n) : rankN F n ((itemsL F n).getD r 0) = r ∧ (itemsL F n).getD r 0 < n ∧ 0 < F ((itemsL F n).getD r 0) := by
  have hl : r < (itemsL F n).length := by rw [items_length]; exact hr
  have hm : (itemsL F n).getD r 0 ∈ itemsL F n := by
    rw [List.getD_eq_getElem?_getD, List.getElem?_eq_getElem hl]; exact List.getElem_mem hl
  have h1 := (items_mem F _ n).1 hm
  have h2 := rank_at h1.1 h1.2
  refine ⟨?_, h1⟩
  rcases Nat.lt_trichotomy (rankN F n ((itemsL F n).getD r 0)) r with h | h | h
  · have := ahead_iff.1 (order_at (itemsL F n) (items_order F n) _ _ h hl)
    rw [h2.2] at this; omega
  · exact h
  · have := ahead_iff.1 (order_at (itemsL F n) (items_order F n) _ _ h (by rw [items_length]; exact h2.1))
    rw [h2.2] at this; omega
theorem nI_le (F : Nat → Nat) : ∀ n, nI F n ≤ n
  | 0 => Nat.le_refl _
  | n + 1 => by have := nI_le F n; simp only [nI]; split <;> omega
theorem nI_pos {F : Nat → Nat} {n i : Nat} (hi : i < n) (h : 0 < F i) : 0 < nI F n := by
  have := rank_at hi h; omega
theorem lenB_rank {F : Nat → Nat} {n L r : Nat} (hr : r < nI F n) (h2 : 2 ≤ nI F n) : lenB F n L ((itemsL F n).getD r 0) = cntN (nI F n) (itemW F n) (L - 1) (2 * nI F n - 2) r := by
  have h := rank_of hr
  unfold lenB
  rw [if_neg (by omega), if_neg (by omega), h.1]
/-- The least lengths of items: at least 1, at most L. -/
theorem lenB_bd {F : Nat → Nat} {n L i : Nat} (hL : 0 < L) (hn : nI F n ≤ 2 ^ L) (hi : i < n) (h : 0 < F i) : 1 ≤ lenB F n L i ∧ lenB F n L i ≤ L := by
  unfold lenB
  rw [if_neg (by omega)]
  have hp := nI_pos hi h
  by_cases h1 : nI F n = 1
  · rw [if_pos h1]; omega
  · rw [if_neg h1]
    exact least_pos (itemW_sorted F n) hL (by omega) hn (rank_at hi h).1
theorem lenB_le (F : Nat → Nat) {n L : Nat} (hL : 0 < L) (i : Nat) : lenB F n L i ≤ L := by
  unfold lenB
  split
  · omega
  · split
    · omega
    · have := cnt_le (nI F n) (itemW F n) (L - 1) (2 * nI F n - 2) (rankN F n i)
      omega
/-- What lengths count together, of 2^L, those that are not 0. -/
def countN (L : Nat) (m : Nat → Nat) (n : Nat) : Nat := sums (fun i => if 0 < m i then 2 ^ (L - m i) else 0) n
/-- They are whole, or one has length 1. -/
theorem build_count {F : Nat → Nat} {n L : Nat} (hL : 0 < L) (hn : nI F n ≤ 2 ^ L) : countN L (lenB F n L) n = if 2 ≤ nI F n then 2 ^ L else if nI F n = 1 then 2 ^ (L - 1) else 0 := by
  have e : countN L (lenB F n L) n = sums (fun i => if 0 < F i then 2 ^ (L - lenB F n L i) else 0) n := by
    apply sums_same
    intro i hi
    by_cases h0 : 0 < F i
    · rw [if_pos h0, if_pos (by have := lenB_bd hL hn hi h0; omega)]
    · rw [if_neg h0, if_neg (by unfold lenB; rw [if_pos (by omega)]; omega)]
  rw [e, ← items_sum (fun i => 2 ^ (L - lenB F n L i)) F n]
  by_cases h2 : 2 ≤ nI F n
  · rw [if_pos h2, ← least_whole (itemW_sorted F n) hL h2 hn, kraft_sum]
    apply sums_same
    intro r hr
    rw [lenB_rank hr h2]
  · rw [if_neg h2]
    by_cases h1 : nI F n = 1
    · have h := rank_of (show 0 < nI F n by omega)
      have hl : lenB F n L ((itemsL F n).getD 0 0) = 1 := by unfold lenB; rw [if_neg (by omega), if_pos h1]
      rw [if_pos h1, h1]
      simp only [sums]
      rw [hl]; omega
    · rw [if_neg h1, show nI F n = 0 by omega]; rfl
end Go.Proofs.YtjhljkhgjcckhaaGreat

namespace Go.Proofs.YtjhljkhgjcckhaaGreat
open Go.RowKit Go.ChangeShapes Go.WideShapes Go.ChangeAt
/-- The slice A of m elements of sz cells holds the cells ys, below block B. -/
def SrcL (w : World) (B sz : Nat) (A : Option Addr) (m : Nat) (ys : List Value) : Prop :=
  ys.length = m * sz ∧ (0 < m → ∃ b o, A = some ⟨b, o, none⟩ ∧ b < B ∧ ∀ j u, ys[j]? = some u → w.cell? ⟨b, o + j, none⟩ = some u)
theorem SrcL.none_ (w : World) (B sz : Nat) (A : Option Addr) : SrcL w B sz A 0 [] := ⟨by simp, fun h => absurd h (by omega)⟩
theorem SrcL.below {w w' : World} {B B' sz m : Nat} {A : Option Addr} {ys : List Value} (h : SrcL w B sz A m ys) (hb : Below B' w w') (hB : B ≤ B') : SrcL w' B sz A m ys := by
  refine ⟨h.1, fun hn => ?_⟩
  obtain ⟨b, o, rfl, hlt, hc⟩ := h.2 hn
  exact ⟨b, o, rfl, hlt, fun j u hu => by rw [hb.cell (p := ⟨b, o + j, none⟩) (by show b < B'; omega)]; exact hc j u hu⟩
theorem SrcL.more {w : World} {B B' sz m : Nat} {A : Option Addr} {ys : List Value} (h : SrcL w B sz A m ys) (hB : B ≤ B') : SrcL w B' sz A m ys := by
  refine ⟨h.1, fun hn => ?_⟩
  obtain ⟨b, o, rfl, hlt, hc⟩ := h.2 hn
  exact ⟨b, o, rfl, by omega, hc⟩
theorem SrcL.new (w : World) (sz m : Nat) (cs : Array Value) (t : TypeId) (h : cs.size = m * sz) : SrcL (w.alloc (.cells cs t)) (w.alloc (.cells cs t)).heap.size sz (some ⟨w.heap.size, 0, none⟩) m cs.toList :=
  ⟨by simpa using h, fun _ => ⟨w.heap.size, 0, rfl, by simp, fun j u hu => by rw [Nat.zero_add, cell_of_row _ _ j cs t (0, 0) (heap_alloc_new w _)]; simpa using hu⟩⟩
theorem SrcL.of_own {w : World} {base sz n c : Nat} {e : TypeId} {A : Option Addr} {xs : List Value} (h : w.ownsRow base e sz (.slice A n c) n xs) : SrcL w w.heap.size sz A n xs := by
  refine ⟨h.1, fun hn => ?_⟩
  obtain ⟨g, cap, hv, _, hlt⟩ := h.form hn
  injection hv with hA _ _
  subst hA
  refine ⟨g, 0, rfl, hlt, fun j u hu => ?_⟩
  have := h.cells (g := g) rfl j u hu
  have e : (⟨g, 0, none⟩ : Addr).add j = ⟨g, 0 + j, none⟩ := by unfold Addr.add; split <;> simp_all
  rw [e] at this
  exact this
theorem own_geS {w : World} {base sz n : Nat} {e : TypeId} {v : Value} {xs : List Value} (h : w.ownsRow base e sz v n xs) : ∀ k, v.ownBlock = some k → base ≤ k := by
  intro k hk
  rcases h.2 with ⟨rfl, _⟩ | ⟨g, cap, cur, rfl, hg, _⟩
  · simp [Value.ownBlock] at hk
  · simp [Value.ownBlock] at hk; omega
set_option maxRecDepth 100000 in
/-- append(v, a...) onto a row of the call's own. -/
theorem run_app {T E : TypeId} {z : Value} {sz by_ : Nat} (hT : Tryz.prog.underlying T = some (.slice E)) (hI : (Tryz.prog.info? E).map (fun i => (i.zero, i.size, i.bytes)) = some (some z, sz, by_)) (hz : z.cells.size = sz) (hsz : 0 < sz)
    (w : World) (base B : Nat) (v0 : Value) (n : Nat) (xs : List Value) (hown : w.ownsRow base E sz v0 n xs) (A : Option Addr) (m c : Nat) (ys : List Value) (hr : SrcL w B sz A m ys) (h1 : ∀ u ∈ ys, u.oneCell' = true)
    (hnm : n + m ≤ maxLen) (hby : (n + m) * by_ ≤ 140737488355328) (ty : TypeId) (hA : A = none → c = 0) (hbase : base ≤ w.heap.size) :
    ∃ A' c' w', (Builtin.append_ #[T, T] ty #[v0, .slice A m c]).run Tryz.prog w = .ok (.slice A' (n + m) c') w' ∧ w'.ownsRow base E sz (.slice A' (n + m) c') (n + m) (xs ++ ys) ∧ Below base w w' := by
  obtain ⟨i0, hi, hz0, hz1, hz2⟩ := info_parts hI
  have key : ∃ v' w', (Builtin.append_ #[T, T] ty #[v0, .slice A m c]).run Tryz.prog w = .ok v' w' ∧ w'.ownsRow base E sz v' (n + m) (xs ++ ys) ∧ w.grownBy w' v0.ownBlock := by
    rcases A with _ | ad
    · have h0 : m = 0 := by
        rcases Nat.eq_zero_or_pos m with h | h
        · exact h
        · obtain ⟨b, o, h, _⟩ := hr.2 h; cases h
      subst h0
      obtain rfl := hA rfl
      have hy : ys = [] := List.length_eq_zero_iff.1 (by have := hr.1; omega)
      subst hy
      refine ⟨v0, w, run_append_owned_none (P := Tryz.prog) (w := w) base T ty E i0 sz hT hi v0 n _ hown, ?_, World.grownBy.refl _ _⟩
      simpa using hown
    · have hcells : ∀ j u, ys[j]? = some u → w.cell? (ad.add j) = some u := by
        intro j u hu
        have hm : 0 < m := by
          rcases Nat.eq_zero_or_pos m with h | h
          · have hy : ys = [] := List.length_eq_zero_iff.1 (by have := hr.1; rw [h] at this; omega)
            rw [hy] at hu; cases hu
          · exact h
        obtain ⟨b, o, h, _, hc⟩ := hr.2 hm
        injection h with h
        subst h
        have e : (⟨b, o, none⟩ : Addr).add j = ⟨b, o + j, none⟩ := by unfold Addr.add; split <;> simp_all
        rw [e]; exact hc j u hu
      obtain ⟨v', w', h1, h2, h3, _, _⟩ := run_append_own_at (P := Tryz.prog) w base T ty E i0 z sz by_ hT hi hz0 hz1 hz2 hz hsz v0 n xs hown ad m c ys hr.1 hcells h1 hnm hby hbase
      exact ⟨v', w', h1, h2, h3⟩
  obtain ⟨v', w', h1, h2, h3⟩ := key
  have hv : ∃ A' c', v' = .slice A' (n + m) c' := by
    rcases h2.2 with ⟨rfl, h⟩ | ⟨g, cap, cur, rfl, _⟩
    · exact ⟨none, 0, by rw [h]⟩
    · exact ⟨_, _, rfl⟩
  obtain ⟨A', c', rfl⟩ := hv
  exact ⟨A', c', w', h1, h2, (Below.refl base w).grown h3 hbase (own_geS hown)⟩
/-! ### slices of int -/
def intsL (l : List Int) : List Value := l.map (Value.int .i64)
theorem intsL_get (l : List Int) (j : Nat) : (intsL l)[j]? = (l[j]?).map (Value.int .i64) := by unfold intsL; simp
theorem intsL_one (l : List Int) : ∀ u ∈ intsL l, u.oneCell' = true := by
  intro u hu
  simp only [intsL, List.mem_map] at hu
  obtain ⟨j, _, rfl⟩ := hu
  rfl
theorem infoInt : (Tryz.prog.info? 3).map (fun i => (i.zero, i.size, i.bytes)) = some (some (.int .i64 0), 1, 8) := by kernel_rfl
/-- A slice of int reads as l. -/
def RdI (w : World) (B : Nat) (A : Option Addr) (l : List Int) : Prop := SrcL w B 1 A l.length (intsL l)
theorem RdI.below {w w' : World} {B B' : Nat} {A : Option Addr} {l : List Int} (h : RdI w B A l) (hb : Below B' w w') (hB : B ≤ B') : RdI w' B A l := SrcL.below h hb hB
theorem RdI.more {w : World} {B B' : Nat} {A : Option Addr} {l : List Int} (h : RdI w B A l) (hB : B ≤ B') : RdI w B' A l := SrcL.more h hB
theorem RdI.at {w : World} {B : Nat} {A : Option Addr} {l : List Int} (h : RdI w B A l) {k : Nat} (hk : k < l.length) : ∃ b o, A = some ⟨b, o, none⟩ ∧ b < B ∧ ∀ j, j < l.length → w.cell? ⟨b, o + j, none⟩ = some (.int .i64 (l.getD j 0)) := by
  obtain ⟨b, o, rfl, hb, hc⟩ := h.2 (by omega)
  refine ⟨b, o, rfl, hb, fun j hj => hc j _ ?_⟩
  rw [intsL_get, List.getElem?_eq_getElem hj, List.getD_eq_getElem?_getD, List.getElem?_eq_getElem hj]
  rfl
theorem RdI.of_own {w : World} {base c n : Nat} {A : Option Addr} {l : List Int} (h : w.ownsRow base 3 1 (.slice A n c) n (intsL l)) : n = l.length ∧ RdI w w.heap.size A l := by
  have hl : (intsL l).length = n * 1 := h.1
  have e : n = l.length := by simp [intsL] at hl; omega
  subst e
  exact ⟨rfl, SrcL.of_own h⟩
def natsI (l : List Nat) : List Int := l.map fun (x : Nat) => (x : Int)
theorem natsI_length (l : List Nat) : (natsI l).length = l.length := by simp [natsI]
theorem natsI_get (l : List Nat) (j : Nat) : (natsI l).getD j 0 = ((l.getD j 0 : Nat) : Int) := by
  unfold natsI
  rw [List.getD_eq_getElem?_getD, List.getD_eq_getElem?_getD, List.getElem?_map]
  cases l[j]? <;> rfl
theorem own_cap {w : World} {base n c : Nat} {e : TypeId} {A : Option Addr} {xs : List Value} (h : w.ownsRow base e 1 (.slice A n c) n xs) : n ≤ c ∧ c ≤ maxLen ∧ (A = none → n = 0 ∧ c = 0) := by
  rcases h.2 with ⟨hv, h0⟩ | ⟨g, cap, cur, hv, _, _, h1, h2, _⟩
  · injection hv with h3 h4 h5
    exact ⟨by omega, by unfold maxLen; omega, fun _ => ⟨by omega, h5⟩⟩
  · injection hv with h3 h4 h5
    exact ⟨by omega, by omega, fun h => by rw [h] at h3; cases h3⟩
theorem rdI_nats {w : World} {base c n : Nat} {A : Option Addr} {L : List Nat} (h : w.ownsRow base 3 1 (.slice A n c) n (intsL (natsI L))) : RdI w w.heap.size A (natsI L) := (RdI.of_own h).2
/-- One more number behind a row of the call's own. -/
theorem run_one (w : World) (base : Nat) (A : Option Addr) (n c : Nat) (xs : List Int) (hown : w.ownsRow base 3 1 (.slice A n c) n (intsL xs)) (x : Int) (hn : n ≤ 1000000) (hbase : base ≤ w.heap.size) :
    ∃ A' c' w', (Builtin.append_ #[116, 116] 116 #[.slice A n c, .slice (some ⟨w.heap.size, 0, none⟩) 1 1]).run Tryz.prog (w.alloc (.cells #[.int .i64 x] 3)) = .ok (.slice A' (n + 1) c') w' ∧
      w'.ownsRow base 3 1 (.slice A' (n + 1) c') (n + 1) (intsL (xs ++ [x])) ∧ Below base w w' := by
  have hb1 : Below base w (w.alloc (.cells #[.int .i64 x] 3)) := (Below.refl base w).alloc hbase _
  obtain ⟨A', c', w', h2, o2, b2⟩ := run_app (z := .int .i64 0) (by_ := 8) Tryz.underlying116 infoInt rfl (by decide) (w.alloc (.cells #[.int .i64 x] 3)) base _ (.slice A n c) n _ (hown.alloc _) _ 1 1 _
    (SrcL.new w 1 1 #[.int .i64 x] 3 rfl) (fun u hu => by simp at hu; subst hu; rfl) (by unfold maxLen; omega) (by omega) 116 (fun h => by cases h) (Nat.le_trans hbase hb1.size)
  refine ⟨A', c', w', h2, ?_, hb1.trans b2⟩
  have e : intsL xs ++ (#[Value.int .i64 x] : Array Value).toList = intsL (xs ++ [x]) := by simp [intsL]
  rw [e] at o2
  exact o2
theorem rdI_new (w : World) (l : List Int) (cs : Array Value) (h : cs.toList = intsL l) : RdI (w.alloc (.cells cs 3)) (w.alloc (.cells cs 3)).heap.size (some ⟨w.heap.size, 0, none⟩) l := by
  have h1 := SrcL.new w 1 l.length cs 3 (by rw [← Array.length_toList, h]; simp [intsL])
  rw [h] at h1
  exact h1
theorem ownsRow_lower {w : World} {base base' : Nat} {e : TypeId} {size : Nat} {v : Value} {n : Nat} {xs : List Value} (h : w.ownsRow base e size v n xs) (hb : base' ≤ base) : w.ownsRow base' e size v n xs := by
  obtain ⟨h1, h2⟩ := h
  refine ⟨h1, ?_⟩
  rcases h2 with h2 | ⟨g, cap, cur, hv, hg, r⟩
  · exact .inl h2
  · exact .inr ⟨g, cap, cur, hv, by omega, r⟩
end Go.Proofs.YtjhljkhgjcckhaaGreat

namespace Go.Proofs.YtjhljkhgjcckhaaGreat
open Go.RowKit
/-- A frequency by its symbol. -/
def freqN (l : List Int) (j : Nat) : Nat := (l.getD j 0).toNat
def badI (x : Int) : Bool := decide (x < 0 ∨ 1073741824 < x)
def badL (l : List Int) (k : Nat) : Bool := decide (∃ j, j < k ∧ badI (l.getD j 0) = true)
def askE (l : List Int) (most : Int) : Int :=
  if most < 1 ∨ 15 < most then 2 else if 320 < l.length then 4 else if badL l l.length = true then 2 else if 2 ^ most.toNat < nI (freqN l) l.length then 4 else 0
theorem badL_yes {l : List Int} {k n : Nat} (hk : k < n) (h : badI (l.getD k 0) = true) : badL l n = true := decide_eq_true ⟨k, hk, h⟩
theorem badL_no {l : List Int} {n : Nat} (h : ∀ j, j < n → badI (l.getD j 0) = false) : badL l n = false := by
  apply decide_eq_false
  rintro ⟨j, hj, h2⟩
  rw [h j hj] at h2; cases h2
theorem badI_no {x : Int} (h1 : 0 ≤ x) (h2 : x ≤ 1073741824) : badI x = false := decide_eq_false (by omega)
end Go.Proofs.YtjhljkhgjcckhaaGreat

namespace Go.Proofs.YtjhljkhgjcckhaaGreat
open Go.RowKit
/-- Where a symbol is put in. -/
theorem ins_at {F : Nat → Nat} {i : Nat} : ∀ (l : List Nat) (p : Nat), InOrder F l → p ≤ l.length → (p = 0 ∨ F (l.getD (p - 1) 0) ≤ F i) → (∀ j, p ≤ j → j < l.length → F i < F (l.getD j 0)) → insI F i l = l.take p ++ i :: l.drop p
  | [], p, _, hp, _, _ => by rw [show p = 0 by simpa using hp]; rfl
  | j :: l, 0, _, _, _, h2 => by
    have := h2 0 (Nat.le_refl _) (by simp)
    have e0 : (j :: l).getD 0 0 = j := rfl
    rw [e0] at this
    simp only [insI]
    rw [if_neg (by omega)]; rfl
  | j :: l, p + 1, ho, hp, h1, h2 => by
    have e1 : ∀ t, (j :: l).getD (t + 1) 0 = l.getD t 0 := fun t => by simp [List.getD]
    have hp' : p ≤ l.length := by simpa using hp
    have hj : F j ≤ F i := by
      rcases h1 with h1 | h1
      · omega
      · rw [Nat.add_sub_cancel] at h1
        cases p with
        | zero => exact h1
        | succ q =>
          rw [e1] at h1
          have hq : q < l.length := by omega
          have hm : l.getD q 0 ∈ l := by rw [List.getD_eq_getElem?_getD, List.getElem?_eq_getElem hq]; exact List.getElem_mem hq
          have := ahead_iff.1 (ho.1 _ hm)
          omega
    have ih := ins_at l p ho.2 hp' (by
      rcases h1 with h1 | h1
      · omega
      · rw [Nat.add_sub_cancel] at h1
        cases p with
        | zero => exact .inl rfl
        | succ q => rw [e1] at h1; exact .inr h1) (fun t h3 h4 => by have := h2 (t + 1) (by omega) (by simpa using h4); rw [e1] at this; exact this)
    simp only [insI]
    rw [if_pos hj, ih]; rfl
theorem src_take {w : World} {B : Nat} {A : Option Addr} {n : Nat} {ys : List Value} (h : SrcL w B 1 A n ys) {p : Nat} (hp : p ≤ n) : SrcL w B 1 A p (ys.take p) := by
  have hl := h.1
  refine ⟨by rw [List.length_take]; omega, fun hn => ?_⟩
  obtain ⟨b, o, rfl, hb, hc⟩ := h.2 (by omega)
  refine ⟨b, o, rfl, hb, fun j u hu => hc j u ?_⟩
  rw [List.getElem?_take] at hu
  split at hu
  · exact hu
  · cases hu
theorem src_drop {w : World} {B : Nat} {A A2 : Option Addr} {n p c : Nat} {ys : List Value} (h : SrcL w B 1 A n ys) (hp : p ≤ n) (hc : n ≤ c) (hA : (if c = p then A else A.map (fun x => x.add p)) = A2) : SrcL w B 1 A2 (n - p) (ys.drop p) := by
  have hl := h.1
  refine ⟨by rw [List.length_drop]; omega, fun hn => ?_⟩
  obtain ⟨b, o, rfl, hb, hcc⟩ := h.2 (by omega)
  rw [if_neg (by omega)] at hA
  have e : (⟨b, o, none⟩ : Addr).add p = ⟨b, o + p, none⟩ := by unfold Addr.add; split <;> simp_all
  simp only [Option.map_some] at hA
  rw [e] at hA
  refine ⟨b, o + p, hA.symm, hb, fun j u hu => ?_⟩
  rw [List.getElem?_drop] at hu
  rw [Nat.add_assoc]
  exact hcc _ u hu
/-- The three appends of a round. -/
theorem ins_runs (w : World) (base : Nat) (A : Option Addr) (c : Nat) (l : List Nat) (p i : Nat) (hown : w.ownsRow base 3 1 (.slice A l.length c) l.length (intsL (natsI l))) (hp : p ≤ l.length) (hl : l.length ≤ 1000) (hbase : base ≤ w.heap.size)
    (A2 : Option Addr) (hA2 : (if c = p then A else A.map (fun x => x.add p)) = A2) :
    ∃ Aa ca wa Ab cb wb Ac cc wc, (Builtin.append_ #[116, 116] 116 #[.slice none 0 0, .slice A p c]).run Tryz.prog w = .ok (.slice Aa p ca) wa ∧
      (Builtin.append_ #[116, 116] 116 #[.slice Aa p ca, .slice (some ⟨wa.heap.size, 0, none⟩) 1 1]).run Tryz.prog (wa.alloc (.cells #[.int .i64 (i : Int)] 3)) = .ok (.slice Ab (p + 1) cb) wb ∧
      (Builtin.append_ #[116, 116] 116 #[.slice Ab (p + 1) cb, .slice A2 (l.length - p) (c - p)]).run Tryz.prog wb = .ok (.slice Ac (l.length + 1) cc) wc ∧
      wc.ownsRow base 3 1 (.slice Ac (l.length + 1) cc) (l.length + 1) (intsL (natsI (l.take p ++ i :: l.drop p))) ∧ Below w.heap.size w wc := by
  obtain ⟨hc1, hc2, hc3⟩ := own_cap hown
  have hsrc := SrcL.of_own hown
  have e1 : (natsI l).length = l.length := natsI_length l
  obtain ⟨Aa, ca, wa, h1, o1, b1⟩ := run_app (z := .int .i64 0) (by_ := 8) Tryz.underlying116 infoInt rfl (by decide) w w.heap.size _ (.slice none 0 0) 0 [] (World.ownsRow_nil w _ _ 1) A p c _ (src_take hsrc hp) (fun u hu => intsL_one _ u (List.mem_of_mem_take hu))
    (by unfold maxLen; omega) (by omega) 116 (fun h => by have := hc3 h; omega) (Nat.le_refl _)
  rw [Nat.zero_add, List.nil_append] at o1
  rw [Nat.zero_add] at h1
  have hb1 : Below w.heap.size w (wa.alloc (.cells #[.int .i64 (i : Int)] 3)) := b1.alloc b1.size _
  obtain ⟨Ab, cb, wb, h2, o2, b2⟩ := run_app (z := .int .i64 0) (by_ := 8) Tryz.underlying116 infoInt rfl (by decide) (wa.alloc (.cells #[.int .i64 (i : Int)] 3)) w.heap.size _ (.slice Aa p ca) p _ (o1.alloc _) _ 1 1 _
    (SrcL.new wa 1 1 #[.int .i64 (i : Int)] 3 rfl) (fun u hu => by simp at hu; subst hu; rfl) (by unfold maxLen; omega) (by omega) 116 (fun h => by cases h) hb1.size
  have hb2 : Below w.heap.size w wb := hb1.trans b2
  have hd := (src_drop hsrc hp hc1 hA2).below hb2 (Nat.le_refl _)
  obtain ⟨Ac, cc, wc, h3, o3, b3⟩ := run_app (z := .int .i64 0) (by_ := 8) Tryz.underlying116 infoInt rfl (by decide) wb w.heap.size _ (.slice Ab (p + 1) cb) (p + 1) _ o2 A2 (l.length - p) (c - p) _ hd (fun u hu => intsL_one _ u (List.mem_of_mem_drop hu))
    (by unfold maxLen; omega) (by omega) 116 (fun h => by
      by_cases g : c = p
      · omega
      · rw [if_neg g] at hA2
        cases A with
        | none => have := hc3 rfl; omega
        | some a => rw [h] at hA2; cases hA2) hb2.size
  have e2 : p + 1 + (l.length - p) = l.length + 1 := by omega
  rw [e2] at h3 o3
  refine ⟨Aa, ca, wa, Ab, cb, wb, Ac, cc, wc, h1, h2, h3, ?_, hb2.trans b3⟩
  have e3 : (intsL (natsI l)).take p ++ (#[Value.int .i64 (i : Int)] : Array Value).toList ++ (intsL (natsI l)).drop p = intsL (natsI (l.take p ++ i :: l.drop p)) := by
    unfold intsL natsI
    simp [List.map_take, List.map_drop]
  rw [e3] at o3
  have hbase2 : base ≤ w.heap.size := hbase
  rcases o3 with ⟨q1, q2⟩
  refine ⟨q1, ?_⟩
  rcases q2 with q2 | ⟨g, cap, cur, q3, q4, q5⟩
  · exact .inl q2
  · exact .inr ⟨g, cap, cur, q3, by omega, q5⟩
theorem items_le (F : Nat → Nat) (n : Nat) : (itemsL F n).length ≤ n := by rw [items_length]; exact nI_le F n
set_option maxRecDepth 100000 in
set_option maxHeartbeats 4000000 in
theorem items_any (w : World) (A : Option Addr) (c : Nat) (l : List Int) (hr : RdI w w.heap.size A l) (hn : l.length ≤ 400) (hb : ∀ j, j < l.length → -9223372036854775808 ≤ l.getD j 0 ∧ l.getD j 0 ≤ 9223372036854775807) :
    Calls Tryz.prog 98 #[.slice A l.length c] w fun e w' => ∃ A' c', e = .returned (.slice A' (nI (freqN l) l.length) c') ∧ Below w.heap.size w w' ∧
      w'.ownsRow w.heap.size 3 1 (.slice A' (nI (freqN l) l.length) c') (nI (freqN l) l.length) (intsL (natsI (itemsL (freqN l) l.length))) := by
  have HR := Lib.hid hr
  have HBD := Lib.hid hb
  clear hr hb
  obtain ⟨n, hn0⟩ : ∃ n, n = l.length := ⟨_, rfl⟩
  rw [← hn0] at hn HBD ⊢
  have HN := Lib.hid hn0
  clear hn0
  go_enter Tryz.func98, Tryz.ntmps98
  go_wp2
  go_loopw [3, 4, 5, 6] (fun o i _ _ wr => ∃ (k : Nat) (Ao : Option Addr) (co : Nat), k ≤ n ∧ i = .int .i64 k ∧ o = .slice Ao (itemsL (freqN l) k).length co ∧
    wr.ownsRow w.heap.size 3 1 (.slice Ao (itemsL (freqN l) k).length co) (itemsL (freqN l) k).length (intsL (natsI (itemsL (freqN l) k))) ∧ Below w.heap.size w wr) (fun _ i _ _ _ => n - (intOf i).toNat)
  case atStart => exact ⟨0, none, 0, Nat.zero_le _, rfl, rfl, World.ownsRow_nil w _ _ 1, Below.refl _ _⟩
  case round =>
    obtain ⟨k, Ao, co, hk, rfl, rfl, hown, hbw⟩ := hrel
    by_cases hlt : k < n
    · obtain ⟨b, o, rfl, hbl, hc⟩ := (HR.out.below hbw (Nat.le_refl _)).at (k := k) (by rw [← HN.out]; exact hlt)
      have hcell := hc k (by rw [← HN.out]; exact hlt)
      have HC := Lib.hid hc
      clear hc
      obtain ⟨x, hx⟩ : ∃ x, x = l.getD k 0 := ⟨_, rfl⟩
      rw [← hx] at hcell
      have hxb := HBD.out k hlt
      rw [← hx] at hxb
      have HX := Lib.hid hx
      clear hx
      have hfk : freqN l k = x.toNat := by unfold freqN; rw [← HX.out]
      by_cases g : x ≤ 0
      · have HE := Lib.hid (show itemsL (freqN l) (k + 1) = itemsL (freqN l) k by simp only [itemsL]; rw [if_neg (by rw [hfk]; omega)])
        have HO := Lib.hid hown; have HB := Lib.hid hbw
        clear hown hbw hfk
        go_wp2
        go_roundw
        case rel =>
          refine ⟨k + 1, Ao, co, by omega, by go_num, by rw [HE.out], ?_, HB.out⟩
          rw [HE.out]; exact HO.out
        case measure => simp [intOf]; omega
      · have HE := Lib.hid (show itemsL (freqN l) (k + 1) = insI (freqN l) k (itemsL (freqN l) k) by simp only [itemsL]; rw [if_pos (by rw [hfk]; omega)])
        have hd0 : decide (x ≤ 0) = false := by simpa using g
        have hle := items_le (freqN l) k
        have HO := Lib.hid hown; have HB := Lib.hid hbw; have HFK := Lib.hid hfk
        have hsrc := Lib.hid (SrcL.of_own hown)
        obtain ⟨L, hL⟩ : ∃ L, L = itemsL (freqN l) k := ⟨_, rfl⟩
        have HMEM : Hid (∀ j, j < L.length → L.getD j 0 < k) := Lib.hid (fun j hj => by
          have hm : L.getD j 0 ∈ L := by rw [List.getD_eq_getElem?_getD, List.getElem?_eq_getElem hj]; exact List.getElem_mem hj
          rw [hL] at hm ⊢
          exact ((items_mem _ _ _).1 hm).1)
        have HORD := Lib.hid (show InOrder (freqN l) L by rw [hL]; exact items_order _ _)
        rw [← hL] at HO hsrc HE hle ⊢
        clear hown hbw hfk hL
        obtain ⟨m, hm⟩ : ∃ m, m = L.length := ⟨_, rfl⟩
        rw [← hm] at HMEM hle ⊢
        have HM := Lib.hid hm
        have hg2 : 0 < x := by omega
        clear hm g
        go_wp2
        go_loopw [5] (fun a wi => ∃ (p q : Nat), p ≤ m ∧ a = .int .i64 p ∧ wi = wr.drewN q ∧ ∀ j, p ≤ j → j < m → freqN l k < freqN l (L.getD j 0)) (fun a _ => (intOf a).toNat)
        case atStart => exact ⟨m, 0, Nat.le_refl _, rfl, rfl, fun j h1 h2 => absurd h2 (by omega)⟩
        case round =>
          obtain ⟨p, q, hp, rfl, rfl, hall⟩ := hrel
          have HALL := Lib.hid hall
          clear hall
          by_cases hp0 : p = 0
          · subst hp0
            go_wp2
            go_quiet (fail)
            obtain ⟨V, hV⟩ : ∃ V, V = (wr.drewN q).drewN nq := ⟨_, rfl⟩
            have hVo : V.ownsRow w.heap.size 3 1 (.slice Ao L.length co) L.length (intsL (natsI L)) := by rw [hV]; exact HO.out
            have hVb : Below w.heap.size w V := by rw [hV]; exact ⟨HB.out.os, HB.out.tape, HB.out.output, HB.out.size, HB.out.block⟩
            rw [← hV]
            clear hV
            obtain ⟨Aa, ca, wa, Ab, cb, wb, Ac, cc, wc, r1, r2, r3, ho, hbc⟩ := ins_runs V w.heap.size Ao co L 0 k hVo (by omega) (by rw [← HM.out]; omega) hVb.size Ao (by
              cases Ao with
              | none => split <;> rfl
              | some a => split
                          · rfl
                          · simp only [Option.map_some]; rw [show a.add 0 = a by unfold Addr.add; simp])
            rw [Nat.sub_zero, Nat.sub_zero] at r3
            rw [← HM.out] at r3 ho
            have hc1 := (own_cap hVo).1
            rw [← HM.out] at hc1
            have R1 := Lib.hid r1; have R2 := Lib.hid r2; have R3 := Lib.hid r3; have OWN := Lib.hid ho; have HBC := Lib.hid (hVb.trans (hbc.mono hVb.size))
            clear r1 r2 r3 ho hbc hVo hVb
            go_wp2_with (first
              | (at_builtin; refine wpList_append_run rfl (.tmp 39) (.tmp 42) 116 rfl (.slice none 0 0) (.slice Ao 0 co) (.slice Aa 0 ca) wa rfl rfl R1.out ?_)
              | (at_builtin; refine wpList_append_run rfl (.tmp 44) (.tmp 46) 116 rfl (.slice Aa 0 ca) (.slice (some ⟨wa.heap.size, 0, none⟩) 1 1) (.slice Ab (0 + 1) cb) wb rfl rfl R2.out ?_)
              | (at_builtin; refine wpList_append_run rfl (.tmp 48) (.tmp 51) 116 rfl (.slice Ab (0 + 1) cb) (.slice Ao m co) (.slice Ac (m + 1) cc) wc rfl rfl R3.out ?_))
            go_roundw
            case rel =>
              have hins := ins_at L 0 HORD.out (by omega) (.inl rfl) (i := k) (fun j h1 h2 => HALL.out j h1 (by rw [HM.out]; exact h2))
              have hlen : (insI (freqN l) k L).length = m + 1 := by rw [ins_length, HM.out]
              refine ⟨k + 1, Ac, cc, by omega, by go_num, by rw [HE.out, hlen], ?_, HBC.out⟩
              rw [HE.out, hlen, hins]
              exact OWN.out
            case measure => simp [intOf]; omega
          · obtain ⟨g, og, rfl, hgl, hcg⟩ := hsrc.out.2 (by have := HM.out; omega)
            have hj := HMEM.out (p - 1) (by omega)
            have hcj := hcg (p - 1) (.int .i64 ((L.getD (p - 1) 0 : Nat) : Int)) (by rw [intsL_get, ← natsI_get]; rw [List.getElem?_eq_getElem (by rw [natsI_length, ← HM.out]; omega), List.getD_eq_getElem?_getD, List.getElem?_eq_getElem (by rw [natsI_length, ← HM.out]; omega)]; rfl)
            obtain ⟨jj, hjj⟩ : ∃ j, j = L.getD (p - 1) 0 := ⟨_, rfl⟩
            rw [← hjj] at hj hcj
            have hcy := HC.out jj (by rw [← HN.out]; omega)
            obtain ⟨y, hy⟩ : ∃ y, y = l.getD jj 0 := ⟨_, rfl⟩
            rw [← hy] at hcy
            have hyb := HBD.out jj (by omega)
            rw [← hy] at hyb
            have HJJ := Lib.hid hjj; have HY := Lib.hid hy
            obtain ⟨r, hr1⟩ : ∃ r, p = r + 1 := ⟨p - 1, by omega⟩
            subst hr1
            rw [Nat.add_sub_cancel] at hcj
            have hsum : ((r + 1 : Nat) : Int) - 1 = (r : Int) := by omega
            clear hcg hjj hy hp0
            by_cases hxy : x < y
            · go_wp2
              go_quiet (fail)
              go_wp2
              go_roundw
              case rel =>
                refine ⟨r, q + nq, by omega, by first | rfl | go_num, by first | rfl | (rw [World.drewN_drewN]), fun j h1 h2 => ?_⟩
                by_cases e : j = r
                · have h3 := HJJ.out
                  rw [Nat.add_sub_cancel] at h3
                  rw [e, ← h3, HFK.out]
                  unfold freqN
                  rw [← HY.out]; omega
                · exact HALL.out j (by omega) h2
              case measure => first | (simp [intOf]; done) | (simp [intOf]; omega)
            · have dxy : decide (x < y) = false := by simpa using hxy
              go_wp2
              go_quiet (fail)
              obtain ⟨V, hV⟩ : ∃ V, V = (wr.drewN q).drewN nq := ⟨_, rfl⟩
              have hVo : V.ownsRow w.heap.size 3 1 (.slice (some ⟨g, og, none⟩) L.length co) L.length (intsL (natsI L)) := by rw [hV]; exact HO.out
              have hVb : Below w.heap.size w V := by rw [hV]; exact ⟨HB.out.os, HB.out.tape, HB.out.output, HB.out.size, HB.out.block⟩
              rw [← hV]
              clear hV
              obtain ⟨A2, hA2⟩ : ∃ A2, (if co = r + 1 then (some ⟨g, og, none⟩ : Option Addr) else some ⟨g, og + (r + 1), none⟩) = A2 := ⟨_, rfl⟩
              obtain ⟨Aa, ca, wa, Ab, cb, wb, Ac, cc, wc, r1, r2, r3, ho, hbc⟩ := ins_runs V w.heap.size (some ⟨g, og, none⟩) co L (r + 1) k hVo (by rw [← HM.out]; exact hp) (by rw [← HM.out]; omega) hVb.size A2 (by
                rw [← hA2]
                have e : (⟨g, og, none⟩ : Addr).add (r + 1) = ⟨g, og + (r + 1), none⟩ := by unfold Addr.add; split <;> simp_all
                simp only [Option.map_some, e])
              rw [← HM.out] at r3 ho
              have hc1 := (own_cap hVo).1
              rw [← HM.out] at hc1
              have R1 := Lib.hid r1; have R2 := Lib.hid r2; have R3 := Lib.hid r3; have OWN := Lib.hid ho; have HBC := Lib.hid (hVb.trans (hbc.mono hVb.size))
              clear r1 r2 r3 ho hbc hVo hVb
              go_wp2_with (first
                | (at_builtin; refine wpList_append_run rfl (.tmp 39) (.tmp 42) 116 rfl (.slice none 0 0) (.slice (some ⟨g, og, none⟩) (r + 1) co) (.slice Aa (r + 1) ca) wa rfl rfl R1.out ?_)
                | (at_builtin; refine wpList_append_run rfl (.tmp 44) (.tmp 46) 116 rfl (.slice Aa (r + 1) ca) (.slice (some ⟨wa.heap.size, 0, none⟩) 1 1) (.slice Ab (r + 1 + 1) cb) wb rfl rfl R2.out ?_)
                | (at_builtin; refine wpList_append_run rfl (.tmp 48) (.tmp 51) 116 rfl (.slice Ab (r + 1 + 1) cb) (.slice A2 (m - (r + 1)) (co - (r + 1))) (.slice Ac (m + 1) cc) wc rfl rfl R3.out ?_))
              go_roundw
              case rel =>
                have hins := ins_at L (r + 1) HORD.out (by rw [← HM.out]; exact hp) (.inr (by
                  have h3 := HJJ.out
                  rw [← h3, HFK.out]
                  unfold freqN
                  rw [← HY.out]; omega)) (i := k) (fun j h1 h2 => HALL.out j h1 (by rw [HM.out]; exact h2))
                have hlen : (insI (freqN l) k L).length = m + 1 := by rw [ins_length, HM.out]
                refine ⟨k + 1, Ac, cc, by omega, by go_num, by rw [HE.out, hlen], ?_, HBC.out⟩
                rw [HE.out, hlen, hins]
                exact OWN.out
              case measure => simp [intOf]; omega
    · obtain rfl : k = n := by omega
      have HO := Lib.hid hown; have HB := Lib.hid hbw
      have hlen := items_length (freqN l) k
      rw [hlen] at HO
      have HLEN := Lib.hid hlen
      clear hown hbw hlt hk hlen
      go_wp2
      rw [HLEN.out]
      go_ret
      exact ⟨Ao, co, rfl, HB.out, HO.out⟩
end Go.Proofs.YtjhljkhgjcckhaaGreat

namespace Go.Proofs.YtjhljkhgjcckhaaGreat
open Go.RowKit Go.ChangeShapes Go.WideShapes Go.ChangeAt
/-! ### what is in a parcel -/
def mrgOf (n m : Nat) (w p a q : Nat → Nat) (t : Nat) : Nat :=
  if pickB n m w p (stepI n m w p t) (t - stepI n m w p t) = true then a (stepI n m w p t) else q (t - stepI n m w p t)
theorem sm_mrgOf {n m : Nat} {w p a q : Nat → Nat} : ∀ t, t ≤ n + m → sm (mrgOf n m w p a q) t = sm a (stepI n m w p t) + sm q (t - stepI n m w p t)
  | 0, _ => rfl
  | t + 1, h => by
    have hbd := stepI_bd (n := n) (m := m) (w := w) (p := p) t (by omega)
    have e : sm (mrgOf n m w p a q) (t + 1) = sm (mrgOf n m w p a q) t + mrgOf n m w p a q t := rfl
    rw [e, sm_mrgOf t (by omega)]
    simp only [stepI, mrgOf]
    by_cases hc : pickB n m w p (stepI n m w p t) (t - stepI n m w p t) = true
    · rw [if_pos hc, if_pos hc, show t + 1 - (stepI n m w p t + 1) = t - stepI n m w p t by omega]
      simp only [sm]; omega
    · rw [if_neg hc, if_neg hc, show t + 1 - stepI n m w p t = t - stepI n m w p t + 1 by omega]
      simp only [sm]; omega
/-- How often item i is in parcel t of row k + 1. -/
def conN (n : Nat) (w : Nat → Nat) : Nat → Nat → Nat → Nat
  | 0, t, i => if i = t then 1 else 0
  | k + 1, t, i => mrgOf n (rowLen n k / 2) w (prs (rowW n w k)) (fun s => if i = s then 1 else 0) (prs fun s => conN n w k s i) t
theorem sm_one (i : Nat) : ∀ t, sm (fun s => if i = s then 1 else 0) t = if i < t then 1 else 0
  | 0 => rfl
  | t + 1 => by
    simp only [sm]
    rw [sm_one i t]
    split <;> split <;> split <;> omega
theorem sm_con {n : Nat} {w : Nat → Nat} (i : Nat) : ∀ k t, t ≤ rowLen n k → sm (fun s => conN n w k s i) t = cntN n w k t i
  | 0, t, _ => sm_one i t
  | k + 1, t, h => by
    have hbd := stepI_bd (n := n) (m := rowLen n k / 2) (w := w) (p := prs (rowW n w k)) t h
    have e1 : sm (fun s => conN n w (k + 1) s i) t = sm (fun s => if i = s then 1 else 0) (takeI n w (k + 1) t) + sm (prs fun s => conN n w k s i) (t - takeI n w (k + 1) t) := sm_mrgOf t h
    have e2 : cntN n w (k + 1) t i = (if i < takeI n w (k + 1) t then 1 else 0) + cntN n w k (2 * (t - takeI n w (k + 1) t)) i := rfl
    have hbd3 : t - takeI n w (k + 1) t ≤ rowLen n k / 2 := hbd.2.1
    rw [e1, e2, sm_one, sm_prs, sm_con i k _ (by omega)]
theorem con_le {n : Nat} {w : Nat → Nat} {k t : Nat} (h : t < rowLen n k) (i : Nat) : conN n w k t i ≤ k + 1 := by
  have h1 := sm_con (n := n) (w := w) i k (t + 1) h
  have h2 := cnt_le n w k (t + 1) i
  have e : sm (fun s => conN n w k s i) (t + 1) = sm (fun s => conN n w k s i) t + conN n w k t i := rfl
  omega
theorem row_le {n M : Nat} {w : Nat → Nat} (hM : ∀ i, i < n → w i ≤ M) : ∀ k t, t < rowLen n k → rowW n w k t ≤ 2 ^ k * M
  | 0, t, h => by have := hM t h; simpa [rowW] using this
  | k + 1, t, h => by
    have hbd := stepI_bd (n := n) (m := rowLen n k / 2) (w := w) (p := prs (rowW n w k)) t (by have : rowLen n (k + 1) = n + rowLen n k / 2 := rfl; omega)
    have hlen : rowLen n (k + 1) = n + rowLen n k / 2 := rfl
    have hbd2 := stepI_bd (n := n) (m := rowLen n k / 2) (w := w) (p := prs (rowW n w k)) (t + 1) (by omega)
    have hM1 : M ≤ 2 ^ (k + 1) * M := Nat.le_mul_of_pos_left _ (Nat.two_pow_pos _)
    have hs : stepI n (rowLen n k / 2) w (prs (rowW n w k)) (t + 1) = if pickB n (rowLen n k / 2) w (prs (rowW n w k)) (stepI n (rowLen n k / 2) w (prs (rowW n w k)) t) (t - stepI n (rowLen n k / 2) w (prs (rowW n w k)) t) = true then stepI n (rowLen n k / 2) w (prs (rowW n w k)) t + 1 else stepI n (rowLen n k / 2) w (prs (rowW n w k)) t := rfl
    have er : rowW n w (k + 1) t = mrg n (rowLen n k / 2) w (prs (rowW n w k)) t := rfl
    rw [er]
    unfold mrg
    by_cases hc : pickB n (rowLen n k / 2) w (prs (rowW n w k)) (stepI n (rowLen n k / 2) w (prs (rowW n w k)) t) (t - stepI n (rowLen n k / 2) w (prs (rowW n w k)) t) = true
    · rw [if_pos hc] at hs ⊢
      exact Nat.le_trans (hM _ (by omega)) hM1
    · rw [if_neg hc] at hs ⊢
      have h1 := row_le hM k (2 * (t - stepI n (rowLen n k / 2) w (prs (rowW n w k)) t)) (by omega)
      have h2 := row_le hM k (2 * (t - stepI n (rowLen n k / 2) w (prs (rowW n w k)) t) + 1) (by omega)
      have h3 : prs (rowW n w k) (t - stepI n (rowLen n k / 2) w (prs (rowW n w k)) t) = rowW n w k (2 * (t - stepI n (rowLen n k / 2) w (prs (rowW n w k)) t)) + rowW n w k (2 * (t - stepI n (rowLen n k / 2) w (prs (rowW n w k)) t) + 1) := rfl
      rw [h3, Nat.pow_succ, Nat.mul_comm (2 ^ k) 2, Nat.mul_assoc]
      omega
/-! ### rows of parcels in memory -/
theorem infoPar : (Tryz.prog.info? 188).map (fun i => (i.zero, i.size, i.bytes)) = some (some (.agg #[.int .i64 0, .slice none 0 0]), 2, 32) := by kernel_rfl
def ParL (w : World) (B : Nat) (ex : Option Nat) (n m : Nat) (W : Nat → Nat) (C : Nat → Nat → Nat) (cs : List Value) : Prop :=
  cs.length = m * 2 ∧ ∀ t, t < m → ∃ b, cs[t * 2]? = some (.int .i64 (W t : Int)) ∧ cs[t * 2 + 1]? = some (.slice (some ⟨b, 0, none⟩) n n) ∧ b < B ∧ some b ≠ ex ∧ ∀ i, i < n → w.cell? ⟨b, i, none⟩ = some (.int .i64 (C t i : Int))
def OwnP (w : World) (base : Nat) (A : Option Addr) (c n m : Nat) (W : Nat → Nat) (C : Nat → Nat → Nat) : Prop :=
  ∃ cs, w.ownsRow base 188 2 (.slice A m c) m cs ∧ ParL w w.heap.size (Value.slice A m c).ownBlock n m W C cs
def RdP (w : World) (B : Nat) (A : Option Addr) (n m : Nat) (W : Nat → Nat) (C : Nat → Nat → Nat) : Prop := ∃ cs, SrcL w B 2 A m cs ∧ ParL w B none n m W C cs
theorem OwnP.none_ (w : World) (base n : Nat) (W : Nat → Nat) (C : Nat → Nat → Nat) : OwnP w base none 0 n 0 W C := ⟨[], World.ownsRow_nil w _ _ 2, by simp, fun t h => absurd h (by omega)⟩
theorem OwnP.rd {w : World} {base c n m : Nat} {A : Option Addr} {W : Nat → Nat} {C : Nat → Nat → Nat} (h : OwnP w base A c n m W C) : RdP w w.heap.size A n m W C := by
  obtain ⟨cs, h1, h2, h3⟩ := h
  refine ⟨cs, SrcL.of_own h1, h2, fun t ht => ?_⟩
  obtain ⟨b, q1, q2, q3, _, q5⟩ := h3 t ht
  exact ⟨b, q1, q2, q3, (by simp), q5⟩
theorem RdP.below {w w' : World} {B B' n m : Nat} {A : Option Addr} {W : Nat → Nat} {C : Nat → Nat → Nat} (h : RdP w B A n m W C) (hb : Below B' w w') (hB : B ≤ B') : RdP w' B A n m W C := by
  obtain ⟨cs, h1, h2, h3⟩ := h
  refine ⟨cs, h1.below hb hB, h2, fun t ht => ?_⟩
  obtain ⟨b, q1, q2, q3, q4, q5⟩ := h3 t ht
  exact ⟨b, q1, q2, q3, q4, fun i hi => by rw [hb.cell (p := ⟨b, i, none⟩) (by show b < B'; omega)]; exact q5 i hi⟩
theorem RdP.more {w : World} {B B' n m : Nat} {A : Option Addr} {W : Nat → Nat} {C : Nat → Nat → Nat} (h : RdP w B A n m W C) (hB : B ≤ B') : RdP w B' A n m W C := by
  obtain ⟨cs, h1, h2, h3⟩ := h
  refine ⟨cs, h1.more hB, h2, fun t ht => ?_⟩
  obtain ⟨b, q1, q2, q3, q4, q5⟩ := h3 t ht
  exact ⟨b, q1, q2, by omega, q4, q5⟩
theorem RdP.at {w : World} {B n m : Nat} {A : Option Addr} {W : Nat → Nat} {C : Nat → Nat → Nat} (h : RdP w B A n m W C) (hm : 0 < m) : ∃ a o, A = some ⟨a, o, none⟩ ∧ a < B ∧
    ∀ t, t < m → ∃ b, w.cell? ⟨a, o + t * 2, none⟩ = some (.int .i64 (W t : Int)) ∧ w.cell? ⟨a, o + t * 2 + 1, none⟩ = some (.slice (some ⟨b, 0, none⟩) n n) ∧ b < B ∧ ∀ i, i < n → w.cell? ⟨b, i, none⟩ = some (.int .i64 (C t i : Int)) := by
  obtain ⟨cs, h1, h2, h3⟩ := h
  obtain ⟨a, o, rfl, ha, hc⟩ := h1.2 hm
  refine ⟨a, o, rfl, ha, fun t ht => ?_⟩
  obtain ⟨b, q1, q2, q3, q4, q5⟩ := h3 t ht
  exact ⟨b, hc _ _ q1, hc _ _ q2, q3, q5⟩
theorem OwnP.after {w w' : World} {base c n m : Nat} {A : Option Addr} {W : Nat → Nat} {C : Nat → Nat → Nat} (h : OwnP w base A c n m W C) (hb : Below w.heap.size w w') : OwnP w' base A c n m W C := by
  obtain ⟨cs, h1, h2, h3⟩ := h
  have hg : w.grownBy w' none := ⟨hb.os, hb.tape, hb.output, hb.size, fun k hk _ => hb.block k hk⟩
  refine ⟨cs, h1.kept hg (by cases (Value.slice A m c).ownBlock <;> simp), h2, fun t ht => ?_⟩
  obtain ⟨b, q1, q2, q3, q4, q5⟩ := h3 t ht
  have hs := hb.size
  exact ⟨b, q1, q2, by omega, q4, fun i hi => by rw [hb.cell (p := ⟨b, i, none⟩) q3]; exact q5 i hi⟩
set_option maxRecDepth 100000 in
/-- One more parcel put behind a row of the call's own. -/
theorem run_par (w : World) (base : Nat) (A : Option Addr) (c n m : Nat) (W : Nat → Nat) (C : Nat → Nat → Nat) (h : OwnP w base A c n m W C) (b : Nat) (hb : b < w.heap.size) (hne : some b ≠ (Value.slice A m c).ownBlock)
    (hc : ∀ i, i < n → w.cell? ⟨b, i, none⟩ = some (.int .i64 (C m i : Int))) (hm : m + 1 ≤ 1000) (hbase : base ≤ w.heap.size) :
    ∃ A' c' w', (Builtin.append_ #[183, 183] 183 #[.slice A m c, .slice (some ⟨w.heap.size, 0, none⟩) 1 1]).run Tryz.prog (w.alloc (.cells #[.int .i64 (W m : Int), .slice (some ⟨b, 0, none⟩) n n] 188)) = .ok (.slice A' (m + 1) c') w' ∧
      OwnP w' base A' c' n (m + 1) W C ∧ Below base w w' := by
  obtain ⟨cs, h1, h2, h3⟩ := h
  obtain ⟨U, hU⟩ : ∃ U, U = w.alloc (.cells #[.int .i64 (W m : Int), .slice (some ⟨b, 0, none⟩) n n] 188) := ⟨_, rfl⟩
  have hUs : U.heap.size = w.heap.size + 1 := by rw [hU]; simp
  have hUb : Below w.heap.size w U := by rw [hU]; exact (Below.refl _ _).alloc (Nat.le_refl _) _
  have hown : U.ownsRow base 188 2 (.slice A m c) m cs := by rw [hU]; exact h1.alloc _
  have hsrc := SrcL.new w 2 1 #[.int .i64 (W m : Int), .slice (some ⟨b, 0, none⟩) n n] 188 rfl
  rw [← hU] at hsrc
  obtain ⟨i0, hi, hz0, hz1, hz2⟩ := info_parts infoPar
  have hcells : ∀ j u, ([Value.int .i64 (W m : Int), .slice (some ⟨b, 0, none⟩) n n] : List Value)[j]? = some u → U.cell? ((⟨w.heap.size, 0, none⟩ : Addr).add j) = some u := by
    intro j u hu
    obtain ⟨b2, o2, e, _, hc2⟩ := hsrc.2 (by omega)
    injection e with e
    injection e with e1 e2 e3
    subst e1; subst e2
    have e : (⟨w.heap.size, 0, none⟩ : Addr).add j = ⟨w.heap.size, 0 + j, none⟩ := by unfold Addr.add; split <;> simp_all
    rw [e]; exact hc2 j u hu
  obtain ⟨v', w', r1, r2, r3, _, r5⟩ := run_append_own_at (P := Tryz.prog) U base 183 183 188 i0 _ 2 32 Tryz.underlying183 hi hz0 hz1 hz2 rfl (by decide) (.slice A m c) m cs hown ⟨w.heap.size, 0, none⟩ 1 1 _ rfl hcells
    (fun u hu => by simp at hu; rcases hu with rfl | rfl <;> rfl) (by unfold maxLen; omega) (by omega) (by omega)
  have hv : ∃ A' c', v' = .slice A' (m + 1) c' := by
    rcases r2.2 with ⟨_, h⟩ | ⟨g, cap, cur, rfl, _⟩
    · omega
    · exact ⟨_, _, rfl⟩
  obtain ⟨A', c', rfl⟩ := hv
  have hlt : ∀ k, k < w.heap.size → some k ≠ (Value.slice A m c).ownBlock → w'.heap[k]? = w.heap[k]? ∧ some k ≠ (Value.slice A' (m + 1) c').ownBlock := by
    intro k hk hkn
    refine ⟨(r3.block k (by omega) hkn).trans (hUb.block k hk), fun e => ?_⟩
    rcases r5 with r5 | r5
    · exact hkn (e.trans r5)
    · rw [← e, hUs] at r5; injection r5 with r5; omega
  have hsz : w.heap.size ≤ w'.heap.size := by have := r3.size; omega
  refine ⟨A', c', w', (by rw [← hU]; exact r1), ⟨cs ++ [.int .i64 (W m : Int), .slice (some ⟨b, 0, none⟩) n n], r2, by simp [h2]; omega, fun t ht => ?_⟩, ((hUb.mono hbase).grown r3 (by omega) (own_geS hown))⟩
  by_cases e : t = m
  · subst e
    obtain ⟨q1, q2⟩ := hlt b hb hne
    refine ⟨b, by rw [List.getElem?_append_right (by omega), h2]; simp, by rw [List.getElem?_append_right (by omega), h2, show t * 2 + 1 - t * 2 = 1 by omega]; rfl, by omega, q2, fun i hi => ?_⟩
    rw [World.cell?_of_block (a := ⟨b, i, none⟩) q1]; exact hc i hi
  · obtain ⟨d, q1, q2, q3, q4, q5⟩ := h3 t (by omega)
    obtain ⟨p1, p2⟩ := hlt d q3 q4
    refine ⟨d, by rw [List.getElem?_append_left (by omega)]; exact q1, by rw [List.getElem?_append_left (by omega)]; exact q2, by omega, p2, fun i hi => ?_⟩
    rw [World.cell?_of_block (a := ⟨d, i, none⟩) p1]; exact q5 i hi
end Go.Proofs.YtjhljkhgjcckhaaGreat

