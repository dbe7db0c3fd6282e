/-
  Layer 1 (bits): what bits.Take, bits.Turn and the document's own answer, by name, for every argument; and the memory of byte slices (how one reads, its copy, its text).
-/
import Derived.Test.YtedjapamimhglaaBitTake
import Derived.ProofKit
import Derived.OpenShut
import Derived.Maps.AppendAt
import Derived.Laws.BytesArg
import Derived.Deep.AppendLies
namespace Go.Proofs.Ytedjapamimhglaa
open Go.RowKit Go.ChangeShapes Go.WideShapes Go.ChangeAt
open Go.ChangeMaps (open_string shut_string)
/-! ### what both sides answer, by name -/
def takeV (f : Nat → Nat) (l : Nat) (a n : Int) : Nat := if a < 0 ∨ n < 0 ∨ 32 < n then 0 else if 8 * (l : Int) < a + n then 0 else numN f a.toNat n.toNat
def takeE (l : Nat) (a n : Int) : Int := if a < 0 ∨ n < 0 ∨ 32 < n then 2 else if 8 * (l : Int) < a + n then 10 else 0
def turnV (v n : Int) : Nat := if fitsB v n then turnN v.toNat n.toNat else 0
def turnE (v n : Int) : Int := if fitsB v n then 0 else 2
theorem take_cases {P : Int → Int → Prop} (f : Nat → Nat) (l : Nat) (a n : Int)
    (h1 : a < 0 ∨ n < 0 ∨ 32 < n → P 0 2) (h2 : ∀ x y : Nat, a = x → n = y → y ≤ 32 → 8 * l < x + y → P 0 10)
    (h3 : ∀ x y : Nat, a = x → n = y → y ≤ 32 → x + y ≤ 8 * l → P (numN f x y : Nat) 0) : P (takeV f l a n : Nat) (takeE l a n) := by
  unfold takeV takeE
  by_cases c1 : a < 0 ∨ n < 0 ∨ 32 < n
  · rw [if_pos c1, if_pos c1]; exact h1 c1
  · rw [if_neg c1, if_neg c1]
    obtain ⟨x, rfl⟩ := Int.eq_ofNat_of_zero_le (show 0 ≤ a by omega)
    obtain ⟨y, rfl⟩ := Int.eq_ofNat_of_zero_le (show 0 ≤ n by omega)
    by_cases c2 : 8 * (l : Int) < (x : Int) + (y : Int)
    · rw [if_pos c2, if_pos c2]; exact h2 x y rfl rfl (by omega) (by omega)
    · rw [if_neg c2, if_neg c2]; exact h3 x y rfl rfl (by omega) (by omega)
theorem turn_cases {P : Int → Int → Prop} (v : Nat) (n : Int)
    (h1 : fitsB v n = false → P 0 2) (h3 : ∀ y : Nat, n = y → y ≤ 32 → fitsB v y = true → P (turnN v y : Nat) 0) : P (turnV v n : Nat) (turnE v n) := by
  unfold turnV turnE
  cases hf : fitsB v n with
  | false => exact h1 hf
  | true =>
    obtain ⟨y, rfl, hy⟩ := fitsB_int hf
    exact h3 y rfl hy hf
theorem take_any (w : World) (B : Nat) (A : Option Addr) (l c : Nat) (f : Nat → Nat) (a n : Int) (hr : RdB w B A l f) (hl : l ≤ 1000000000000) (ha : a ≤ 9223372036854775807) :
    Calls Try.prog 34 #[.slice A l c, .int .i64 a, .int .i64 n] w fun e w' => e = .returned (.tuple #[.int .u32 (takeV f l a n : Nat), .int .i64 (takeE l a n)]) ∧ w = w' := by
  refine take_cases (P := fun x y => Calls Try.prog 34 #[.slice A l c, .int .i64 a, .int .i64 n] w fun e w' => e = .returned (.tuple #[.int .u32 x, .int .i64 y]) ∧ w = w') f l a n ?_ ?_ ?_
  · intro h; exact take_arg w A l c a n h
  · rintro x y rfl rfl h1 h2; exact take_end w A l c x y (by omega) h1 hl h2
  · rintro x y rfl rfl h1 h2; exact take_ok w B A l c f x y hr h1 hl h2
theorem rtake_any (w : World) (B : Nat) (A : Option Addr) (l c : Nat) (f : Nat → Nat) (a n : Int) (hr : RdB w B A l f) (hl : l ≤ 1000000000000) (ha : a ≤ 9223372036854775807) :
    Calls Try.prog 49 #[.slice A l c, .int .i64 a, .int .i64 n] w fun e w' => e = .returned (.tuple #[.int .u32 (takeV f l a n : Nat), .int .i64 (takeE l a n)]) ∧ w = w' := by
  refine take_cases (P := fun x y => Calls Try.prog 49 #[.slice A l c, .int .i64 a, .int .i64 n] w fun e w' => e = .returned (.tuple #[.int .u32 x, .int .i64 y]) ∧ w = w') f l a n ?_ ?_ ?_
  · intro h; exact rtake_arg w A l c a n h
  · rintro x y rfl rfl h1 h2; exact rtake_end w A l c x y (by omega) h1 hl h2
  · rintro x y rfl rfl h1 h2; exact rtake_ok w B A l c f x y hr h1 hl h2
theorem turn_any (v : Nat) (n : Int) (w : World) (h1 : v < 4294967296) (hn0 : -9223372036854775808 ≤ n) (hn1 : n ≤ 9223372036854775807) :
    Calls Try.prog 23 #[.int .u32 v, .int .i64 n] w fun e w' => e = .returned (.tuple #[.int .u32 (turnV v n : Nat), .int .i64 (turnE v n)]) ∧ w = w' := by
  refine turn_cases (P := fun x y => Calls Try.prog 23 #[.int .u32 v, .int .i64 n] w fun e w' => e = .returned (.tuple #[.int .u32 x, .int .i64 y]) ∧ w = w') v n ?_ ?_
  · intro h; exact turn_bad v n w (by omega) (by omega) hn0 hn1 h
  · rintro y rfl h2 h3; exact turn_ok v y w h1 h2 h3
theorem info5 : (Try.prog.info? 5).map (fun i => (i.zero, i.size, i.bytes)) = some (some (.int .u8 0), 1, 1) := by kernel_rfl
end Go.Proofs.Ytedjapamimhglaa
