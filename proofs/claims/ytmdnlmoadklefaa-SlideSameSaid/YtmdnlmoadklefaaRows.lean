/-
  No cell of these rows narrows 'for every input' (looked for: loops, veiled, ifaces, maps, wideKeys, modest, calm, conditions, laid).
  DERIVED. THE GIVEN ROWS OF THIS SEAT. 4 by the template 'for every input the law returns true; each argument reads behind the call as it read before'; 0 by the template 'total and deterministic' (their statements: YtmdnlmoadklefaaTotals.lean).
  GIVEN WITH THE SEED: the statements are not yours to turn. If you find one false, say at which input.
  Laid BY PROGRAM, IN A SANDBOX (cutbox-rows.mjs): the forced cells as the released guide's own fill.sh prints them over the translation e00ddbeca0b468c0… (all of the seat's roots in one cut). By AI agents, Wed Nov 11 2026. No macro, syntax, notation, axiom, sorry.
-/
import Derived.Test.YtmdnlmoadklefaaChecked
import GoSem.Claim
import GoSem.ClaimJoined
import GoSem.ClaimMapViews
import Derived.JoinedTies
import Derived.KernelRfl
namespace Go.Proofs.Ytmdnlmoadklefaa
/- THE CELL 'sum', in the pinned program and in every row, IS THE sha256 OF THE DUMP (.gsa) THAT YtmdnlmoadklefaaProg.lean LOADS. Nothing in Lean hashes anything: it is a label: what it is worth is what the hold of that sum in a sandbox is worth. -/
noncomputable def Try.pinned : Pinned := { name := "ytmdnlmoadklefaa", sum := "e00ddbeca0b468c0388de0989ce80ba0d9e7ea6be0bb9acf86e74f0450d8f08b", checked := Try.checked }
namespace Rows
def none {H : Type} : Left H := { results := [], args := [] }

/-- 'bellowslaw06.SlideNames': WHATEVER THE INPUT: true; the input reads as it did. -/
def slideNamesSpec : ChangeSpec := { name := "slideNames", fn := fun _ => fun
  | [] => { results := [.lit (.bool true)], args := [] }
  | _ => none }
def slideNamesRow : OpenClaim := { program := "ytmdnlmoadklefaa", sum := "e00ddbeca0b468c0388de0989ce80ba0d9e7ea6be0bb9acf86e74f0450d8f08b", func := "bellows/bellowslaw06.SlideNames", spec := "slideNames", apart := false }
def SlideNamesSaid : Prop := slideNamesRow.holds Try.pinned (OpenSpec.ofChange slideNamesSpec)

/-- ITS FALSE NEIGHBOUR: 'it returns false'. Refute it at one input. -/
def slideNamesWrong : ChangeSpec := { name := "slideNames", fn := fun _ => fun
  | [] => { results := [.lit (.bool false)], args := [] }
  | _ => none }
def SlideNamesWrongFalsely : Prop := slideNamesRow.holds Try.pinned (OpenSpec.ofChange slideNamesWrong)

/-- 'bellowslaw06.SlideOn': WHATEVER THE INPUT: true; the input reads as it did. -/
def slideOnSpec : ChangeSpec := { name := "slideOn", fn := fun _ => fun
  | [d1, d2, d3] => { results := [.lit (.bool true)], args := [d1, d2, d3] }
  | _ => none }
def slideOnRow : OpenClaim := { program := "ytmdnlmoadklefaa", sum := "e00ddbeca0b468c0388de0989ce80ba0d9e7ea6be0bb9acf86e74f0450d8f08b", func := "bellows/bellowslaw06.SlideOn", spec := "slideOn", apart := false }
def SlideOnSaid : Prop := slideOnRow.holds Try.pinned (OpenSpec.ofChange slideOnSpec)

/-- ITS FALSE NEIGHBOUR: 'it returns false'. Refute it at one input. -/
def slideOnWrong : ChangeSpec := { name := "slideOn", fn := fun _ => fun
  | [d1, d2, d3] => { results := [.lit (.bool false)], args := [d1, d2, d3] }
  | _ => none }
def SlideOnWrongFalsely : Prop := slideOnRow.holds Try.pinned (OpenSpec.ofChange slideOnWrong)

/-- 'bellowslaw06.SlideCopies': WHATEVER THE INPUT: true; the input reads as it did. -/
def slideCopiesSpec : ChangeSpec := { name := "slideCopies", fn := fun _ => fun
  | [d1, d2, d3, d4] => { results := [.lit (.bool true)], args := [d1, d2, d3, d4] }
  | _ => none }
def slideCopiesRow : OpenClaim := { program := "ytmdnlmoadklefaa", sum := "e00ddbeca0b468c0388de0989ce80ba0d9e7ea6be0bb9acf86e74f0450d8f08b", func := "bellows/bellowslaw06.SlideCopies", spec := "slideCopies", apart := false }
def SlideCopiesSaid : Prop := slideCopiesRow.holds Try.pinned (OpenSpec.ofChange slideCopiesSpec)

/-- ITS FALSE NEIGHBOUR: 'it returns false'. Refute it at one input. -/
def slideCopiesWrong : ChangeSpec := { name := "slideCopies", fn := fun _ => fun
  | [d1, d2, d3, d4] => { results := [.lit (.bool false)], args := [d1, d2, d3, d4] }
  | _ => none }
def SlideCopiesWrongFalsely : Prop := slideCopiesRow.holds Try.pinned (OpenSpec.ofChange slideCopiesWrong)

/-- 'bellowslaw06.SlideSame': WHATEVER THE INPUT: true; the input reads as it did. -/
def slideSameSpec : ChangeSpec := { name := "slideSame", fn := fun _ => fun
  | [d1, d2] => { results := [.lit (.bool true)], args := [d1, d2] }
  | _ => none }
def slideSameRow : OpenClaim := { program := "ytmdnlmoadklefaa", sum := "e00ddbeca0b468c0388de0989ce80ba0d9e7ea6be0bb9acf86e74f0450d8f08b", func := "bellows/bellowslaw06.SlideSame", spec := "slideSame", apart := false }
def SlideSameSaid : Prop := slideSameRow.holds Try.pinned (OpenSpec.ofChange slideSameSpec)

/-- ITS FALSE NEIGHBOUR: 'it returns false'. Refute it at one input. -/
def slideSameWrong : ChangeSpec := { name := "slideSame", fn := fun _ => fun
  | [d1, d2] => { results := [.lit (.bool false)], args := [d1, d2] }
  | _ => none }
def SlideSameWrongFalsely : Prop := slideSameRow.holds Try.pinned (OpenSpec.ofChange slideSameWrong)

/- THE SECOND FORM. 'bulk': how many values and letters a reading holds, each counted each time it is reached (what is shared counts as often as it is met; a slice's spare places count too). A statement '..UptoSaid' is the law's where the arguments, and the package variables that the reading takes, are together of bulk at most 1048576: NARROWER than '..Said'. Prove '..Said' where nothing that the law and all that it calls make is longer than what came in: it says more and counts as full. Else prove '..UptoSaid'. A law counts once. -/
mutual
def uptoBulk {H : Type} : DataW H → Nat
  | .lit (.string bytes) => bytes.length + 1
  | .lit _ => 1
  | .nil => 1
  | .ptr d => uptoBulk d + 1
  | .slice elems spare => uptoBulkAll elems + uptoBulkAll spare + 1
  | .agg parts => uptoBulkAll parts + 1
  | .iface _ d => uptoBulk d + 1
  | .map entries => uptoBulkEntries entries + 1
  | .held _ => 1
def uptoBulkAll {H : Type} : List (DataW H) → Nat
  | [] => 0
  | d :: r => uptoBulk d + uptoBulkAll r
def uptoBulkEntries {H : Type} : List (Lit × DataW H) → Nat
  | [] => 0
  | x :: r => uptoBulkEntry x + uptoBulkEntries r
def uptoBulkEntry {H : Type} : Lit × DataW H → Nat
  | (.string bytes, d) => bytes.length + uptoBulk d + 1
  | (_, d) => uptoBulk d + 1
 end
def uptoSmall : (H : Type) → List (DataW H) → Bool := fun _ ds => decide (uptoBulkAll ds ≤ 1048576)
def OpenSpec.upto (s : _root_.Go.ChangeSpec) : _root_.Go.OpenSpec := { _root_.Go.OpenSpec.ofChange s with cond := some uptoSmall }

/-- 'bellowslaw06.SlideNames', WHERE WHAT IT READS IS OF BULK AT MOST 1048576: true; the input reads as it did. -/
def slideNamesUptoRow : OpenClaim := { program := "ytmdnlmoadklefaa", sum := "e00ddbeca0b468c0388de0989ce80ba0d9e7ea6be0bb9acf86e74f0450d8f08b", func := "bellows/bellowslaw06.SlideNames", spec := "slideNames", apart := false, narrowed := true }
def SlideNamesUptoSaid : Prop := slideNamesUptoRow.holds Try.pinned (OpenSpec.upto slideNamesSpec)

/-- 'bellowslaw06.SlideOn', WHERE WHAT IT READS IS OF BULK AT MOST 1048576: true; the input reads as it did. -/
def slideOnUptoRow : OpenClaim := { program := "ytmdnlmoadklefaa", sum := "e00ddbeca0b468c0388de0989ce80ba0d9e7ea6be0bb9acf86e74f0450d8f08b", func := "bellows/bellowslaw06.SlideOn", spec := "slideOn", apart := false, narrowed := true }
def SlideOnUptoSaid : Prop := slideOnUptoRow.holds Try.pinned (OpenSpec.upto slideOnSpec)

/-- 'bellowslaw06.SlideCopies', WHERE WHAT IT READS IS OF BULK AT MOST 1048576: true; the input reads as it did. -/
def slideCopiesUptoRow : OpenClaim := { program := "ytmdnlmoadklefaa", sum := "e00ddbeca0b468c0388de0989ce80ba0d9e7ea6be0bb9acf86e74f0450d8f08b", func := "bellows/bellowslaw06.SlideCopies", spec := "slideCopies", apart := false, narrowed := true }
def SlideCopiesUptoSaid : Prop := slideCopiesUptoRow.holds Try.pinned (OpenSpec.upto slideCopiesSpec)

/-- 'bellowslaw06.SlideSame', WHERE WHAT IT READS IS OF BULK AT MOST 1048576: true; the input reads as it did. -/
def slideSameUptoRow : OpenClaim := { program := "ytmdnlmoadklefaa", sum := "e00ddbeca0b468c0388de0989ce80ba0d9e7ea6be0bb9acf86e74f0450d8f08b", func := "bellows/bellowslaw06.SlideSame", spec := "slideSame", apart := false, narrowed := true }
def SlideSameUptoSaid : Prop := slideSameUptoRow.holds Try.pinned (OpenSpec.upto slideSameSpec)

end Rows
end Go.Proofs.Ytmdnlmoadklefaa
