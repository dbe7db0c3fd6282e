/-
  Words for every layer: unsigned numbers' bits; a byte slice that reads as numbers, its copy, its text; a block of bytes of the call's own.
-/
import Derived.Test.YtgkbnmknlmapdaaRows
import Derived.WalkKit
import Derived.ProofKit
import Derived.Lib.Hide
import Derived.Handy
import Derived.OpenShut
import Derived.ShutString
import Derived.ChangeOld
import Derived.Maps.AppendAt
import Derived.Laws.BytesArg
import Derived.Laws.Rows
import Derived.Deep.AppendLies
import Derived.Deep.QuietTactic
import Derived.BigQuiet
namespace Go.Proofs.Ytgkbnmknlmapdaa
open Go.RowKit Go.ChangeShapes Go.WideShapes Go.ChangeAt
open Go.ChangeMaps (open_string shut_string)
theorem own : ownKnob Try.prog.godebug = none := by kernel_rfl
theorem laidOut : laidOutB Try.prog = true := by kernel_rfl
/-! ### bits of unsigned numbers -/
theorem ofInt_nat (W a : Nat) (ha : a < 2 ^ W) : (BitVec.ofInt W (a : Int)).toNat = a := by
  rw [BitVec.ofInt_natCast, BitVec.toNat_ofNat]; exact Nat.mod_eq_of_lt ha
theorem u32_and (a b : Nat) (ha : a < 4294967296) (hb : b < 4294967296) : bits .and .u32 (a : Int) (b : Int) = ((a &&& b : Nat) : Int) := by
  have hx : a &&& b < 2 ^ 32 := Nat.and_lt_two_pow _ (by omega)
  show IntKind.u32.wrap ((BitVec.ofInt 32 (a : Int) &&& BitVec.ofInt 32 (b : Int)).toNat : Int) = _
  rw [BitVec.toNat_and, ofInt_nat 32 a (by omega), ofInt_nat 32 b (by omega), IntKind.wrap_u32]
  omega
theorem u32_or (a b : Nat) (ha : a < 4294967296) (hb : b < 4294967296) : bits .or .u32 (a : Int) (b : Int) = ((a ||| b : Nat) : Int) := by
  have hx : a ||| b < 2 ^ 32 := Nat.or_lt_two_pow (by omega) (by omega)
  show IntKind.u32.wrap ((BitVec.ofInt 32 (a : Int) ||| BitVec.ofInt 32 (b : Int)).toNat : Int) = _
  rw [BitVec.toNat_or, ofInt_nat 32 a (by omega), ofInt_nat 32 b (by omega), IntKind.wrap_u32]
  omega
theorem u8_or (a b : Nat) (ha : a < 256) (hb : b < 256) : bits .or .u8 (a : Int) (b : Int) = ((a ||| b : Nat) : Int) := by
  have hx : a ||| b < 2 ^ 8 := Nat.or_lt_two_pow (by omega) (by omega)
  show IntKind.u8.wrap ((BitVec.ofInt 8 (a : Int) ||| BitVec.ofInt 8 (b : Int)).toNat : Int) = _
  rw [BitVec.toNat_or, ofInt_nat 8 a (by omega), ofInt_nat 8 b (by omega), IntKind.wrap_u8]
  omega
theorem u64_and (a b : Nat) (ha : a < 18446744073709551616) (hb : b < 18446744073709551616) : bits .and .u64 (a : Int) (b : Int) = ((a &&& b : Nat) : Int) := by
  have hx : a &&& b < 2 ^ 64 := Nat.and_lt_two_pow _ (by omega)
  show IntKind.u64.wrap ((BitVec.ofInt 64 (a : Int) &&& BitVec.ofInt 64 (b : Int)).toNat : Int) = _
  rw [BitVec.toNat_and, ofInt_nat 64 a (by omega), ofInt_nat 64 b (by omega), IntKind.wrap_u64]
  omega
theorem u32_xor (a b : Nat) (ha : a < 4294967296) (hb : b < 4294967296) : bits .xor .u32 (a : Int) (b : Int) = ((a ^^^ b : Nat) : Int) := by
  have hx : a ^^^ b < 2 ^ 32 := Nat.xor_lt_two_pow (by omega) (by omega)
  show IntKind.u32.wrap ((BitVec.ofInt 32 (a : Int) ^^^ BitVec.ofInt 32 (b : Int)).toNat : Int) = _
  rw [BitVec.toNat_xor, ofInt_nat 32 a (by omega), ofInt_nat 32 b (by omega), IntKind.wrap_u32]
  omega
theorem u8_xor (a b : Nat) (ha : a < 256) (hb : b < 256) : bits .xor .u8 (a : Int) (b : Int) = ((a ^^^ b : Nat) : Int) := by
  have hx : a ^^^ b < 2 ^ 8 := Nat.xor_lt_two_pow (by omega) (by omega)
  show IntKind.u8.wrap ((BitVec.ofInt 8 (a : Int) ^^^ BitVec.ofInt 8 (b : Int)).toNat : Int) = _
  rw [BitVec.toNat_xor, ofInt_nat 8 a (by omega), ofInt_nat 8 b (by omega), IntKind.wrap_u8]
  omega
theorem i64_xor (a b : Nat) (ha : a < 4294967296) (hb : b < 4294967296) : bits .xor .i64 (a : Int) (b : Int) = ((a ^^^ b : Nat) : Int) := by
  have hx : a ^^^ b < 2 ^ 32 := Nat.xor_lt_two_pow (by omega) (by omega)
  show IntKind.i64.wrap ((BitVec.ofInt 64 (a : Int) ^^^ BitVec.ofInt 64 (b : Int)).toNat : Int) = _
  rw [BitVec.toNat_xor, ofInt_nat 64 a (by omega), ofInt_nat 64 b (by omega), IntKind.wrap_i64]
  omega
theorem u32_and_one (a : Nat) (ha : a < 4294967296) : bits .and .u32 (a : Int) 1 = ((a % 2 : Nat) : Int) := by
  have := u32_and a 1 ha (by omega)
  rw [Nat.and_one_is_mod] at this
  exact this
/-- bits above and bits below: or is plus. -/
theorem or_add (a b i : Nat) (hb : b < 2 ^ i) (ha : 2 ^ i ∣ a) : a ||| b = a + b := by
  obtain ⟨c, rfl⟩ := ha
  exact (Nat.two_pow_add_eq_or_of_lt hb c).symm
theorem u32_or_add (a b i : Nat) (ha : a < 4294967296) (h : b < 4294967296) (hb : b < 2 ^ i) (hd : 2 ^ i ∣ a) : bits .or .u32 (a : Int) (b : Int) = ((a + b : Nat) : Int) := by
  rw [u32_or a b ha h, or_add a b i hb hd]
theorem u32_or_add' (a b i : Nat) (ha : a < 4294967296) (h : b < 4294967296) (hb : a < 2 ^ i) (hd : 2 ^ i ∣ b) : bits .or .u32 (a : Int) (b : Int) = ((a + b : Nat) : Int) := by
  rw [u32_or a b ha h, Nat.or_comm, or_add b a i hb hd, Nat.add_comm]
theorem pow_le_32 {k : Nat} (h : k ≤ 32) : 2 ^ k ≤ 4294967296 := by
  have := Nat.pow_le_pow_right (n := 2) (by omega) h; simpa using this
theorem lt_32 {x k : Nat} (hx : x < 2 ^ k) (h : k ≤ 32) : x < 4294967296 := Nat.lt_of_lt_of_le hx (pow_le_32 h)
theorem cast_shr (v k : Nat) : ((v : Int) / 2 ^ k) = ((v / 2 ^ k : Nat) : Int) := by
  rw [Int.natCast_ediv, Int.natCast_pow]; rfl
theorem cast_shl (v k : Nat) : ((v : Int) * 2 ^ k) = ((v * 2 ^ k : Nat) : Int) := by
  rw [Int.natCast_mul, Int.natCast_pow]; rfl
theorem bit_cast (v k : Nat) (hv : v < 4294967296) : bits .and .u32 ((v : Int) / 2 ^ k) 1 = ((v / 2 ^ k % 2 : Nat) : Int) := by
  rw [cast_shr, u32_and_one]
  exact Nat.lt_of_le_of_lt (Nat.div_le_self _ _) hv

theorem emod_u32 (x : Nat) (h : x < 4294967296) : (x : Int) % 4294967296 = (x : Int) := by omega
theorem ret_bool {a b : Bool} (h : a = b) : Ending.returned (.bool a) = .returned (.bool b) := by rw [h]
theorem ret_int {k : IntKind} {a b : Int} (h : a = b) : Ending.returned (.int k a) = .returned (.int k b) := by rw [h]
theorem val_int {k : IntKind} {a b : Int} (h : a = b) : Value.int k a = .int k b := by rw [h]
theorem ret_two {k l : IntKind} {a b c d : Int} (h : a = b) (g : c = d) : Ending.returned (.tuple #[.int k a, .int l c]) = .returned (.tuple #[.int k b, .int l d]) := by rw [h, g]
/-! ### bytes -/
def RdB (w : World) (B : Nat) (A : Option Addr) (n : Nat) (f : Nat → Nat) : Prop :=
  (∀ j, f j < 256) ∧ (0 < n → ∃ b o, A = some ⟨b, o, none⟩ ∧ b < B ∧ ∀ j, j < n → w.cell? ⟨b, o + j, none⟩ = some (.int .u8 (f j : Int)))
theorem RdB.below {w w' : World} {B B' n : Nat} {A : Option Addr} {f : Nat → Nat} (h : RdB w B A n f) (hb : Below B' w w') (hB : B ≤ B') : RdB w' B A n f := by
  refine ⟨h.1, fun hn => ?_⟩
  obtain ⟨b, o, rfl, hlt, hc⟩ := h.2 hn
  exact ⟨b, o, rfl, hlt, fun j hj => by rw [hb.cell (p := ⟨b, o + j, none⟩) (by show b < B'; omega)]; exact hc j hj⟩
theorem RdB.more {w : World} {B B' n : Nat} {A : Option Addr} {f : Nat → Nat} (h : RdB w B A n f) (hB : B ≤ B') : RdB w B' A n f := by
  refine ⟨h.1, fun hn => ?_⟩
  obtain ⟨b, o, rfl, hlt, hc⟩ := h.2 hn
  exact ⟨b, o, rfl, by omega, hc⟩
def bytesL (n : Nat) (f : Nat → Nat) : List Value := (List.range n).map fun j => .int .u8 (f j : Int)
theorem bytesL_get (n : Nat) (f : Nat → Nat) (j : Nat) : (bytesL n f)[j]? = if j < n then some (.int .u8 (f j : Int)) else none := by
  unfold bytesL
  by_cases h : j < n <;> simp [h]
theorem bytesL_one (n : Nat) (f : Nat → Nat) : ∀ u ∈ bytesL n f, u.oneCell' = true := by
  intro u hu
  simp only [bytesL, List.mem_map] at hu
  obtain ⟨j, _, rfl⟩ := hu
  rfl
theorem RdB.of_own {w : World} {base n c : Nat} {A : Option Addr} {e : TypeId} {f : Nat → Nat} (h : w.ownsRow base e 1 (.slice A n c) n (bytesL n f)) (hf : ∀ j, f j < 256) : RdB w w.heap.size A n f := by
  refine ⟨hf, fun hn => ?_⟩
  obtain ⟨g, cap, hv, _, hlt⟩ := h.form hn
  injection hv with hA _ _
  subst hA
  refine ⟨g, 0, rfl, hlt, fun j hj => ?_⟩
  have := h.cells (g := g) rfl j (.int .u8 (f j : Int)) (by rw [bytesL_get, if_pos hj])
  have e : (⟨g, 0, none⟩ : Addr).add j = ⟨g, 0 + j, none⟩ := by unfold Addr.add; split <;> simp_all
  rw [e] at this
  exact this
theorem infoU8 : (Try.prog.info? 5).map (fun i => (i.zero, i.size, i.bytes)) = some (some (.int .u8 0), 1, 1) := by kernel_rfl
set_option maxRecDepth 100000 in
/-- append([]byte(nil), b...): its own row, of the same bytes. -/
theorem run_twin (w : World) (B : Nat) (A : Option Addr) (n c : Nat) (f : Nat → Nat) (hr : RdB w B A n f) (hn : n ≤ 1000000000000) (ty : TypeId) (hA : A = none → c = 0) :
    ∃ A' c' w', (Builtin.append_ #[23, 23] ty #[.slice none 0 0, .slice A n c]).run Try.prog w = .ok (.slice A' n c') w' ∧
      w'.ownsRow w.heap.size 5 1 (.slice A' n c') n (bytesL n f) ∧ Below w.heap.size w w' ∧ RdB w' w'.heap.size A' n f := by
  obtain ⟨i0, hi, hz0, hz1, hz2⟩ := info_parts infoU8
  have key : ∃ v' w', (Builtin.append_ #[23, 23] ty #[.slice none 0 0, .slice A n c]).run Try.prog w = .ok v' w' ∧
      w'.ownsRow w.heap.size 5 1 v' n (bytesL n f) ∧ w.grownBy w' none := by
    rcases A with _ | ad
    · have h0 : n = 0 := by
        rcases Nat.eq_zero_or_pos n with h | h
        · exact h
        · obtain ⟨b, o, h, _⟩ := hr.2 h; cases h
      subst h0
      obtain rfl := hA rfl
      exact ⟨_, w, run_append_owned_none (P := Try.prog) (w := w) w.heap.size 23 ty 5 i0 1 Try.underlying23 hi (.slice none 0 0) 0 [] (World.ownsRow_nil w _ 5 1), World.ownsRow_nil w _ 5 1, World.grownBy.refl _ _⟩
    · have hcells : ∀ j u, (bytesL n f)[j]? = some u → w.cell? (ad.add j) = some u := by
        intro j u hu
        rw [bytesL_get] at hu
        by_cases hj : j < n
        · rw [if_pos hj] at hu
          injection hu with hu
          subst hu
          obtain ⟨b, o, h, _, hc⟩ := hr.2 (by omega)
          injection h with h
          subst h
          have e : (⟨b, o, none⟩ : Addr).add j = ⟨b, o + j, none⟩ := by unfold Addr.add; split <;> simp_all
          rw [e]; exact hc j hj
        · rw [if_neg hj] at hu; cases hu
      obtain ⟨v', w', h1, h2, h3, _, _⟩ := run_append_own_at (P := Try.prog) w w.heap.size 23 ty 5 i0 (.int .u8 0) 1 1 Try.underlying23 hi hz0 hz1 hz2 rfl (by decide)
        (.slice none 0 0) 0 [] (World.ownsRow_nil w _ 5 1) ad n c (bytesL n f) (by simp [bytesL]) hcells (bytesL_one n f) (by unfold maxLen; omega) (by omega) (Nat.le_refl _)
      rw [Nat.zero_add, List.nil_append] at h2
      exact ⟨v', w', h1, h2, h3⟩
  obtain ⟨v', w', h1, h2, h3⟩ := key
  have hv : ∃ A' c', v' = .slice A' n c' := by
    rcases h2.2 with ⟨rfl, rfl⟩ | ⟨g, cap, cur, rfl, _⟩
    · exact ⟨_, _, rfl⟩
    · exact ⟨_, _, rfl⟩
  obtain ⟨A', c', rfl⟩ := hv
  exact ⟨A', c', w', h1, h2, ⟨h3.os, h3.tape, h3.output, h3.size, fun k hk => h3.block k hk (by simp)⟩, RdB.of_own h2 hr.1⟩
/-- Bytes behind bytes. -/
def cat (f : Nat → Nat) (n : Nat) (g : Nat → Nat) (j : Nat) : Nat := if j < n then f j else g (j - n)
theorem cat_lt {f g : Nat → Nat} {n : Nat} (hf : ∀ j, f j < 256) (hg : ∀ j, g j < 256) (j : Nat) : cat f n g j < 256 := by
  unfold cat; split
  · exact hf _
  · exact hg _
theorem bytesL_cat (f g : Nat → Nat) (n m : Nat) : bytesL n f ++ bytesL m g = bytesL (n + m) (cat f n g) := by
  apply List.ext_getElem?
  intro j
  rw [List.getElem?_append]
  have hl : (bytesL n f).length = n := by simp [bytesL]
  rw [hl, bytesL_get, bytesL_get, bytesL_get]
  unfold cat
  by_cases h1 : j < n
  · rw [if_pos h1, if_pos h1, if_pos (by omega), if_pos h1]
  · rw [if_neg h1, if_neg h1]
    by_cases h2 : j - n < m
    · rw [if_pos h2, if_pos (by omega)]
    · rw [if_neg h2, if_neg (by omega)]
theorem own_ge {w : World} {base n : Nat} {e : TypeId} {v : Value} {xs : List Value} (h : w.ownsRow base e 1 v n xs) : ∀ k, v.ownBlock = some k → base ≤ k := by
  intro k hk
  rcases h.2 with ⟨rfl, _⟩ | ⟨g, cap, cur, rfl, hg, _⟩
  · simp [Value.ownBlock] at hk
  · simp [Value.ownBlock] at hk; omega
set_option maxRecDepth 100000 in
/-- append(v, b...) onto a row of the call's own: its own row still, of both's bytes. -/
theorem run_more (w : World) (base B : Nat) (v0 : Value) (n : Nat) (f : Nat → Nat) (hown : w.ownsRow base 5 1 v0 n (bytesL n f)) (A : Option Addr) (m c : Nat) (g : Nat → Nat) (hr : RdB w B A m g) (hnm : n + m ≤ 1000000000000) (ty : TypeId)
    (hA : A = none → c = 0) (hbase : base ≤ w.heap.size) :
    ∃ A' c' w', (Builtin.append_ #[23, 23] ty #[v0, .slice A m c]).run Try.prog w = .ok (.slice A' (n + m) c') w' ∧
      w'.ownsRow base 5 1 (.slice A' (n + m) c') (n + m) (bytesL (n + m) (cat f n g)) ∧ Below base w w' := by
  obtain ⟨i0, hi, hz0, hz1, hz2⟩ := info_parts infoU8
  have key : ∃ v' w', (Builtin.append_ #[23, 23] ty #[v0, .slice A m c]).run Try.prog w = .ok v' w' ∧
      w'.ownsRow base 5 1 v' (n + m) (bytesL (n + m) (cat f n g)) ∧ w.grownBy w' v0.ownBlock := by
    rcases A with _ | ad
    · have h0 : m = 0 := by
        rcases Nat.eq_zero_or_pos m with h | h
        · exact h
        · obtain ⟨b, o, h, _⟩ := hr.2 h; cases h
      subst h0
      obtain rfl := hA rfl
      refine ⟨v0, w, run_append_owned_none (P := Try.prog) (w := w) base 23 ty 5 i0 1 Try.underlying23 hi v0 n _ hown, ?_, World.grownBy.refl _ _⟩
      rw [← bytesL_cat]
      simpa [bytesL] using hown
    · have hcells : ∀ j u, (bytesL m g)[j]? = some u → w.cell? (ad.add j) = some u := by
        intro j u hu
        rw [bytesL_get] at hu
        by_cases hj : j < m
        · rw [if_pos hj] at hu
          injection hu with hu
          subst hu
          obtain ⟨b, o, h, _, hc⟩ := hr.2 (by omega)
          injection h with h
          subst h
          have e : (⟨b, o, none⟩ : Addr).add j = ⟨b, o + j, none⟩ := by unfold Addr.add; split <;> simp_all
          rw [e]; exact hc j hj
        · rw [if_neg hj] at hu; cases hu
      obtain ⟨v', w', h1, h2, h3, _, _⟩ := run_append_own_at (P := Try.prog) w base 23 ty 5 i0 (.int .u8 0) 1 1 Try.underlying23 hi hz0 hz1 hz2 rfl (by decide)
        v0 n _ hown ad m c (bytesL m g) (by simp [bytesL]) hcells (bytesL_one m g) (by unfold maxLen; omega) (by omega) hbase
      rw [bytesL_cat] at h2
      exact ⟨v', w', h1, h2, h3⟩
  obtain ⟨v', w', h1, h2, h3⟩ := key
  have hv : ∃ A' c', v' = .slice A' (n + m) c' := by
    rcases h2.2 with ⟨rfl, h⟩ | ⟨g, cap, cur, rfl, _⟩
    · exact ⟨none, 0, by rw [h]⟩
    · exact ⟨_, _, rfl⟩
  obtain ⟨A', c', rfl⟩ := hv
  exact ⟨A', c', w', h1, h2, (Below.refl base w).grown h3 hbase (own_ge hown)⟩
/-- An append whose run is known. -/
theorem wpList_append_run {P : Program} {w : World} {ops : Array Oper} {rest : List Oper} {o : Oper} {a : Act} {Q : Exit → Act → World → Prop} (hgd : o.guard = none) (s x : Operand) (t : TypeId)
    (ho : o.op = .call { callee := .builtin .append, args := #[s, x], argTypes := #[t, t] }) (v u v' : Value) (w' : World) (hs : a.eval s = v) (hx : a.eval x = u)
    (hrun : (Builtin.append_ #[t, t] o.type #[v, u]).run P w = .ok v' w') (h : wpList P ops Q rest (a.put o.dst v') w') : wpList P ops Q (o :: rest) a w := by
  refine wpList_plain hgd fun K hK => ?_
  unfold Oper.wp
  simp [execOp, ho, resolve, invoke, builtin, hs, hx, hrun, Result.andThen]
  exact hK _ _ h
def strB (n : Nat) (f : Nat → Nat) : ByteArray := strOfNums ((List.range n).map fun j => (f j : Int))
theorem strB_zero (f : Nat → Nat) : strB 0 f = ByteArray.empty := rfl
/-- string(b) -/
theorem run_str {w : World} {B : Nat} {A : Option Addr} {n : Nat} {f : Nat → Nat} (hr : RdB w B A n f) (c : Nat) :
    (convert 23 9 (.slice A n c)).run Try.prog w = .ok (.string (strB n f)) w := by
  rcases Nat.eq_zero_or_pos n with h0 | h0
  · subst h0
    rcases A with _ | ⟨b, o, s⟩
    · rw [strB_zero]; exact run_convert_bytes_nil w 23 5 Try.underlying23 Try.underlying5 0 c 9 Try.underlying9
    · rw [run_convert_bytes_string w 23 9 5 _ 0 c Try.underlying23 Try.underlying5 Try.underlying9, run_bytesToString w _ 0 c [] (by simpa using run_loadCells_list (P := Try.prog) w ⟨b, o, s⟩ [] (by simp))]
      rfl
  · obtain ⟨b, o, rfl, _, hc⟩ := hr.2 h0
    exact run_convert_bytes_arg w 23 5 Try.underlying23 Try.underlying5 b o n c _ (by simp) (fun i hi => by rw [hc i hi]; simp [List.getD, hi]) 9 Try.underlying9
/-- The bytes of a slice that came in, as the statement's form reads it. -/
theorem open_bytes {H : Type} {enc : TypeId × Value → H} {W : World} {base : Nat} {sp : Nat → Bool} {hd : Bool} {a : Option Addr} {len cap : Nat} {d : DataW H} {p : List MemPlace}
    (h : ∃ fuel, DataW.trod enc Try.prog W base sp hd fuel 23 (Value.slice a len cap).cells.toList = some (d, p)) :
    ∃ f, RdB W W.heap.size a len f ∧ (a = none → cap = 0) ∧ len ≤ cap ∧ cap ≤ maxLen := by
  obtain ⟨fuel, hf⟩ := h
  rcases open_ints Try.underlying23 Try.underlying5 (by kernel_rfl) hf with ⟨hcs, _⟩ | ⟨x, l, c, zs, hcs, _, hl, hm, hz, _, hcell, hwz⟩
  · simp [Value.cells] at hcs
    obtain ⟨rfl, rfl, rfl⟩ := hcs
    exact ⟨fun _ => 0, ⟨fun _ => by show 0 < 256; omega, fun h => by omega⟩, fun _ => rfl, Nat.le_refl _, by unfold maxLen; omega⟩
  · simp [Value.cells] at hcs
    obtain ⟨rfl, rfl, rfl⟩ := hcs
    have hbd : ∀ j, 0 ≤ zs.getD j 0 ∧ zs.getD j 0 < 256 := by
      intro j
      rcases Nat.lt_or_ge j zs.length with hj | hj
      · have := hwz (zs.getD j 0) (by simp [List.getD, hj])
        simp [Lit.wf, IntKind.min, IntKind.max, IntKind.signed, IntKind.bits] at this
        simp [List.getD, hj]
        simp [hj] at this
        omega
      · simp [List.getD, List.getElem?_eq_none hj]
    refine ⟨fun j => (zs.getD j 0).toNat, ⟨fun j => by have := hbd j; show (zs.getD j 0).toNat < 256; omega, fun hn => ?_⟩, (fun h => by cases h), hl, hm⟩
    have hzl : len ≤ zs.length := by rw [hz]; split <;> omega
    obtain ⟨b, off, spot⟩ := x
    have h0 := hcell 0 (by omega)
    have hspot : spot = none := by simpa [Addr.add] using World.cell?_spot h0
    subst hspot
    have hlt : b < W.heap.size := by
      rcases Nat.lt_or_ge b W.heap.size with h | h
      · exact h
      · simp [Addr.add, World.cell?, Array.getElem?_eq_none h] at h0
    refine ⟨b, off, rfl, hlt, fun j hj => ?_⟩
    have hb := hbd j
    have h1 := hcell j (by omega)
    have e : (⟨b, off, none⟩ : Addr).add j = ⟨b, off + j, none⟩ := by unfold Addr.add; split <;> simp_all
    rw [e] at h1
    rw [h1, Int.toNat_of_nonneg hb.1]
theorem bcell {B : Nat} {W w1 : World} (hb : Below B W w1) : (∀ b o, b < B → w1.cell? ⟨b, o, none⟩ = W.cell? ⟨b, o, none⟩) ∧ (∀ b o, b < B → w1.frozen? ⟨b, o, none⟩ = W.frozen? ⟨b, o, none⟩) :=
  ⟨fun b o h => hb.cell (p := ⟨b, o, none⟩) h, fun b o h => hb.frozen (p := ⟨b, o, none⟩) h⟩
/-- A block of bytes of the call's own. -/
def Row (w : World) (g L : Nat) (f : Nat → Nat) : Prop := w.heap[g]? = some (.cells (bytesL L f).toArray 5 (0, 0))
theorem szU8 : (Try.prog.info? 5).map (·.size) = some 1 := by kernel_rfl
def upd (f : Nat → Nat) (i x : Nat) : Nat → Nat := fun j => if j = i then x else f j
theorem Row.cell {w : World} {g L : Nat} {f : Nat → Nat} (h : Row w g L f) {j : Nat} (hj : j < L) : w.cell? ⟨g, j, none⟩ = some (.int .u8 (f j : Int)) := by
  rw [cell_of_row w g j _ 5 (0, 0) h]
  simp [bytesL, hj]
theorem Row.frozen {w : World} {g L : Nat} {f : Nat → Nat} (h : Row w g L f) (j : Nat) : w.frozen? ⟨g, j, none⟩ = false := by
  unfold Row at h
  simp [World.frozen?, h]
theorem Row.lt {w : World} {g L : Nat} {f : Nat → Nat} (h : Row w g L f) : g < w.heap.size := (Array.getElem?_eq_some_iff.1 h).1
theorem Row.set {w : World} {g L : Nat} {f : Nat → Nat} (h : Row w g L f) (i x : Nat) : Row (w.setCell ⟨g, i, none⟩ (.int .u8 (x : Int))) g L (upd f i x) := by
  unfold Row at h ⊢
  simp only [World.setCell, Array.getElem?_modify, h]
  simp
  apply List.ext_getElem?
  intro j
  simp only [List.getElem?_set, bytesL_get, upd]
  have hl : (bytesL L f).length = L := by simp [bytesL]
  by_cases e : i = j
  · subst e
    by_cases h : i < L <;> simp [h, hl]
  · have e' : ¬ j = i := fun h => e h.symm
    simp [e, e']
theorem Row.other {w : World} {g L : Nat} {f : Nat → Nat} (h : Row w g L f) {p : Addr} (hp : g ≠ p.block) (u : Value) : Row (w.setCell p u) g L f := (Below.heap_setCell w p u g hp).trans h
theorem Row.drawn {w : World} {g L : Nat} {f : Nat → Nat} (h : Row w g L f) (n : Nat) : Row (w.drewN n) g L f := h
theorem Row.alloc {w : World} {g L : Nat} {f : Nat → Nat} (h : Row w g L f) (o : Obj) : Row (w.alloc o) g L f := (Below.heap_alloc w o g h.lt).trans h
theorem Row.below {w w' : World} {g L B : Nat} {f : Nat → Nat} (h : Row w g L f) (hb : Below B w w') (hg : g < B) : Row w' g L f := (hb.block g hg).trans h
theorem Row.rd {w : World} {g L : Nat} {f : Nat → Nat} (h : Row w g L f) (hf : ∀ j, f j < 256) : RdB w w.heap.size (some ⟨g, 0, none⟩) L f :=
  ⟨hf, fun _ => ⟨g, 0, rfl, h.lt, fun j hj => by rw [Nat.zero_add]; exact h.cell hj⟩⟩
/-! ### a row of bytes of the call's own, with room behind it -/
def RowW (w : World) (g n : Nat) (f : Nat → Nat) : Prop := ∃ cur : Array Value, w.heap[g]? = some (.cells cur 5 (0, 0)) ∧ ∀ j, j < n → cur[j]? = some (.int .u8 (f j : Int))
theorem RowW.lt {w : World} {g n : Nat} {f : Nat → Nat} (h : RowW w g n f) : g < w.heap.size := by
  obtain ⟨cur, h1, _⟩ := h; exact (Array.getElem?_eq_some_iff.1 h1).1
theorem RowW.cell {w : World} {g n : Nat} {f : Nat → Nat} (h : RowW w g n f) {j : Nat} (hj : j < n) : w.cell? ⟨g, j, none⟩ = some (.int .u8 (f j : Int)) := by
  obtain ⟨cur, h1, h2⟩ := h
  rw [cell_of_row w g j _ _ (0, 0) h1]; exact h2 j hj
theorem RowW.frozen {w : World} {g n : Nat} {f : Nat → Nat} (h : RowW w g n f) (j : Nat) : w.frozen? ⟨g, j, none⟩ = false := by
  obtain ⟨cur, h1, _⟩ := h; exact frozen_of_row w g j _ _ h1
theorem RowW.set {w : World} {g n : Nat} {f : Nat → Nat} (h : RowW w g n f) (i x : Nat) : RowW (w.setCell ⟨g, i, none⟩ (.int .u8 (x : Int))) g n (upd f i x) := by
  obtain ⟨cur, h1, h2⟩ := h
  refine ⟨cur.setIfInBounds i (.int .u8 (x : Int)), heap_setCell_same w g i cur _ _ h1, fun j hj => ?_⟩
  rw [Array.getElem?_setIfInBounds, upd]
  have hs : j < cur.size := by
    rcases Nat.lt_or_ge j cur.size with h | h
    · exact h
    · have := h2 j hj; rw [Array.getElem?_eq_none h] at this; cases this
  by_cases e : i = j
  · subst e; simp [hs]
  · have e' : ¬ j = i := fun h => e h.symm
    simp [e, e', h2 j hj]
theorem RowW.other {w : World} {g n : Nat} {f : Nat → Nat} (h : RowW w g n f) {p : Addr} (hp : g ≠ p.block) (u : Value) : RowW (w.setCell p u) g n f := by
  obtain ⟨cur, h1, h2⟩ := h; exact ⟨cur, (Below.heap_setCell w p u g hp).trans h1, h2⟩
theorem RowW.below {w w' : World} {g n B : Nat} {f : Nat → Nat} (h : RowW w g n f) (hb : Below B w w') (hg : g < B) : RowW w' g n f := by
  obtain ⟨cur, h1, h2⟩ := h; exact ⟨cur, (hb.block g hg).trans h1, h2⟩
theorem RowW.drew {w : World} {g n : Nat} {f : Nat → Nat} (h : RowW w g n f) : RowW w.drew g n f := h
theorem RowW.rd {w : World} {g n : Nat} {f : Nat → Nat} (h : RowW w g n f) (hf : ∀ j, f j < 256) : RdB w w.heap.size (some ⟨g, 0, none⟩) n f :=
  ⟨hf, fun _ => ⟨g, 0, rfl, h.lt, fun j hj => by rw [Nat.zero_add]; exact h.cell hj⟩⟩
theorem RowW.of_own {w : World} {base n c : Nat} {A : Option Addr} {f : Nat → Nat} (h : w.ownsRow base 5 1 (.slice A n c) n (bytesL n f)) (hn : 0 < n) : ∃ g, A = some ⟨g, 0, none⟩ ∧ base ≤ g ∧ RowW w g n f := by
  rcases h.2 with ⟨_, h0⟩ | ⟨g, cap, cur, hv, hg, hh, _, _, _, ht⟩
  · omega
  · injection hv with hA _ _
    refine ⟨g, hA, hg, cur, hh, fun j hj => ?_⟩
    have h1 := bytesL_get n f j
    rw [if_pos hj, ← ht, List.getElem?_take] at h1
    split at h1
    · simpa using h1
    · cases h1
theorem RowW.ext {w : World} {g n : Nat} {f f' : Nat → Nat} (h : RowW w g n f) (e : ∀ j, j < n → f j = f' j) : RowW w g n f' := by
  obtain ⟨cur, h1, h2⟩ := h; exact ⟨cur, h1, fun j hj => by rw [h2 j hj, e j hj]⟩
theorem row_new (w : World) (n : Nat) (f : Nat → Nat) (cs : Array Value) (h : cs = (bytesL n f).toArray) : Row (w.alloc (.cells cs 5)) w.heap.size n f := by
  subst h; exact heap_alloc_new w _
theorem wf_u32_range {n : Int} (h : (Lit.int .u32 n).wf = true) : 0 ≤ n ∧ n < 4294967296 := by
  simp [Lit.wf, IntKind.min, IntKind.max, IntKind.signed, IntKind.bits] at h; omega
theorem wf_u16_range {n : Int} (h : (Lit.int .u16 n).wf = true) : 0 ≤ n ∧ n < 65536 := by
  simp [Lit.wf, IntKind.min, IntKind.max, IntKind.signed, IntKind.bits] at h; omega
theorem wf_u64_range {n : Int} (h : (Lit.int .u64 n).wf = true) : 0 ≤ n ∧ n < 18446744073709551616 := by
  simp [Lit.wf, IntKind.min, IntKind.max, IntKind.signed, IntKind.bits] at h; omega
theorem wf_u8_range {n : Int} (h : (Lit.int .u8 n).wf = true) : 0 ≤ n ∧ n < 256 := by
  simp [Lit.wf, IntKind.min, IntKind.max, IntKind.signed, IntKind.bits] at h; omega
theorem wf_i64_range {n : Int} (h : (Lit.int .i64 n).wf = true) : -9223372036854775808 ≤ n ∧ n ≤ 9223372036854775807 := by
  simp [Lit.wf, IntKind.min, IntKind.max, IntKind.signed, IntKind.bits] at h; omega
end Go.Proofs.Ytgkbnmknlmapdaa
