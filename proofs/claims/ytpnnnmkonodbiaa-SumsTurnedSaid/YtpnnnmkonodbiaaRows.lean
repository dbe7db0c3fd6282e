/-
  No cell of these rows narrows 'for every input' (looked for: loops, veiled, ifaces, maps, wideKeys, modest, calm, conditions, laid).
  DERIVED. THE GIVEN ROWS OF THIS SEAT. 6 by the template 'for every input the law returns true; each argument reads behind the call as it read before'; 0 by the template 'total and deterministic' (their statements: YtpnnnmkonodbiaaTotals.lean).
  GIVEN WITH THE SEED: the statements are not yours to turn. If you find one false, say at which input.
  Laid BY PROGRAM, IN A SANDBOX (cutbox-rows.mjs): the forced cells as the released guide's own fill.sh prints them over the translation 99244b02ff9ac012… (all of the seat's roots in one cut). By AI agents, Wed Nov 11 2026. No macro, syntax, notation, axiom, sorry.
-/
import Derived.Test.YtpnnnmkonodbiaaChecked
import GoSem.Claim
import GoSem.ClaimJoined
import GoSem.ClaimMapViews
import Derived.JoinedTies
import Derived.KernelRfl
namespace Go.Proofs.Ytpnnnmkonodbiaa
/- THE CELL 'sum', in the pinned program and in every row, IS THE sha256 OF THE DUMP (.gsa) THAT YtpnnnmkonodbiaaProg.lean LOADS. Nothing in Lean hashes anything: it is a label: what it is worth is what the hold of that sum in a sandbox is worth. -/
noncomputable def Try.pinned : Pinned := { name := "ytpnnnmkonodbiaa", sum := "99244b02ff9ac012f09e2202d2f2f70f26c871009f793fdd4e756bc10eb0f7c7", checked := Try.checked }
namespace Rows
def none {H : Type} : Left H := { results := [], args := [] }

/-- 'bellowslaw02.SumsNames': WHATEVER THE INPUT: true; the input reads as it did. -/
def sumsNamesSpec : ChangeSpec := { name := "sumsNames", fn := fun _ => fun
  | [] => { results := [.lit (.bool true)], args := [] }
  | _ => none }
def sumsNamesRow : OpenClaim := { program := "ytpnnnmkonodbiaa", sum := "99244b02ff9ac012f09e2202d2f2f70f26c871009f793fdd4e756bc10eb0f7c7", func := "bellows/bellowslaw02.SumsNames", spec := "sumsNames", unfollowed := true, recurses := true, apart := false }
def SumsNamesSaid : Prop := sumsNamesRow.holds Try.pinned (OpenSpec.ofChange sumsNamesSpec)

/-- ITS FALSE NEIGHBOUR: 'it returns false'. Refute it at one input. -/
def sumsNamesWrong : ChangeSpec := { name := "sumsNames", fn := fun _ => fun
  | [] => { results := [.lit (.bool false)], args := [] }
  | _ => none }
def SumsNamesWrongFalsely : Prop := sumsNamesRow.holds Try.pinned (OpenSpec.ofChange sumsNamesWrong)

/-- 'bellowslaw02.SumsTell': WHATEVER THE INPUT: true; the input reads as it did. -/
def sumsTellSpec : ChangeSpec := { name := "sumsTell", fn := fun _ => fun
  | [d1, d2, d3] => { results := [.lit (.bool true)], args := [d1, d2, d3] }
  | _ => none }
def sumsTellRow : OpenClaim := { program := "ytpnnnmkonodbiaa", sum := "99244b02ff9ac012f09e2202d2f2f70f26c871009f793fdd4e756bc10eb0f7c7", func := "bellows/bellowslaw02.SumsTell", spec := "sumsTell", unfollowed := true, recurses := true, apart := false }
def SumsTellSaid : Prop := sumsTellRow.holds Try.pinned (OpenSpec.ofChange sumsTellSpec)

/-- ITS FALSE NEIGHBOUR: 'it returns false'. Refute it at one input. -/
def sumsTellWrong : ChangeSpec := { name := "sumsTell", fn := fun _ => fun
  | [d1, d2, d3] => { results := [.lit (.bool false)], args := [d1, d2, d3] }
  | _ => none }
def SumsTellWrongFalsely : Prop := sumsTellRow.holds Try.pinned (OpenSpec.ofChange sumsTellWrong)

/-- 'bellowslaw02.SumsBits': WHATEVER THE INPUT: true; the input reads as it did. -/
def sumsBitsSpec : ChangeSpec := { name := "sumsBits", fn := fun _ => fun
  | [d] => { results := [.lit (.bool true)], args := [d] }
  | _ => none }
def sumsBitsRow : OpenClaim := { program := "ytpnnnmkonodbiaa", sum := "99244b02ff9ac012f09e2202d2f2f70f26c871009f793fdd4e756bc10eb0f7c7", func := "bellows/bellowslaw02.SumsBits", spec := "sumsBits", unfollowed := true, recurses := true, apart := false }
def SumsBitsSaid : Prop := sumsBitsRow.holds Try.pinned (OpenSpec.ofChange sumsBitsSpec)

/-- ITS FALSE NEIGHBOUR: 'it returns false'. Refute it at one input. -/
def sumsBitsWrong : ChangeSpec := { name := "sumsBits", fn := fun _ => fun
  | [d] => { results := [.lit (.bool false)], args := [d] }
  | _ => none }
def SumsBitsWrongFalsely : Prop := sumsBitsRow.holds Try.pinned (OpenSpec.ofChange sumsBitsWrong)

/-- 'bellowslaw02.SumsOn': WHATEVER THE INPUT: true; the input reads as it did. -/
def sumsOnSpec : ChangeSpec := { name := "sumsOn", fn := fun _ => fun
  | [d1, d2, d3, d4] => { results := [.lit (.bool true)], args := [d1, d2, d3, d4] }
  | _ => none }
def sumsOnRow : OpenClaim := { program := "ytpnnnmkonodbiaa", sum := "99244b02ff9ac012f09e2202d2f2f70f26c871009f793fdd4e756bc10eb0f7c7", func := "bellows/bellowslaw02.SumsOn", spec := "sumsOn", unfollowed := true, recurses := true, apart := false }
def SumsOnSaid : Prop := sumsOnRow.holds Try.pinned (OpenSpec.ofChange sumsOnSpec)

/-- ITS FALSE NEIGHBOUR: 'it returns false'. Refute it at one input. -/
def sumsOnWrong : ChangeSpec := { name := "sumsOn", fn := fun _ => fun
  | [d1, d2, d3, d4] => { results := [.lit (.bool false)], args := [d1, d2, d3, d4] }
  | _ => none }
def SumsOnWrongFalsely : Prop := sumsOnRow.holds Try.pinned (OpenSpec.ofChange sumsOnWrong)

/-- 'bellowslaw02.SumsTurned': WHATEVER THE INPUT: true; the input reads as it did. -/
def sumsTurnedSpec : ChangeSpec := { name := "sumsTurned", fn := fun _ => fun
  | [d1, d2, d3, d4, d5] => { results := [.lit (.bool true)], args := [d1, d2, d3, d4, d5] }
  | _ => none }
def sumsTurnedRow : OpenClaim := { program := "ytpnnnmkonodbiaa", sum := "99244b02ff9ac012f09e2202d2f2f70f26c871009f793fdd4e756bc10eb0f7c7", func := "bellows/bellowslaw02.SumsTurned", spec := "sumsTurned", unfollowed := true, recurses := true, apart := false }
def SumsTurnedSaid : Prop := sumsTurnedRow.holds Try.pinned (OpenSpec.ofChange sumsTurnedSpec)

/-- ITS FALSE NEIGHBOUR: 'it returns false'. Refute it at one input. -/
def sumsTurnedWrong : ChangeSpec := { name := "sumsTurned", fn := fun _ => fun
  | [d1, d2, d3, d4, d5] => { results := [.lit (.bool false)], args := [d1, d2, d3, d4, d5] }
  | _ => none }
def SumsTurnedWrongFalsely : Prop := sumsTurnedRow.holds Try.pinned (OpenSpec.ofChange sumsTurnedWrong)

/-- 'bellowslaw02.SumsRows': WHATEVER THE INPUT: true; the input reads as it did. -/
def sumsRowsSpec : ChangeSpec := { name := "sumsRows", fn := fun _ => fun
  | [d1, d2] => { results := [.lit (.bool true)], args := [d1, d2] }
  | _ => none }
def sumsRowsRow : OpenClaim := { program := "ytpnnnmkonodbiaa", sum := "99244b02ff9ac012f09e2202d2f2f70f26c871009f793fdd4e756bc10eb0f7c7", func := "bellows/bellowslaw02.SumsRows", spec := "sumsRows", unfollowed := true, recurses := true, apart := false }
def SumsRowsSaid : Prop := sumsRowsRow.holds Try.pinned (OpenSpec.ofChange sumsRowsSpec)

/-- ITS FALSE NEIGHBOUR: 'it returns false'. Refute it at one input. -/
def sumsRowsWrong : ChangeSpec := { name := "sumsRows", fn := fun _ => fun
  | [d1, d2] => { results := [.lit (.bool false)], args := [d1, d2] }
  | _ => none }
def SumsRowsWrongFalsely : Prop := sumsRowsRow.holds Try.pinned (OpenSpec.ofChange sumsRowsWrong)

/- THE SECOND FORM. 'bulk': how many values and letters a reading holds, each counted each time it is reached (what is shared counts as often as it is met; a slice's spare places count too). A statement '..UptoSaid' is the law's where the arguments, and the package variables that the reading takes, are together of bulk at most 1048576: NARROWER than '..Said'. Prove '..Said' where nothing that the law and all that it calls make is longer than what came in: it says more and counts as full. Else prove '..UptoSaid'. A law counts once. -/
mutual
def uptoBulk {H : Type} : DataW H → Nat
  | .lit (.string bytes) => bytes.length + 1
  | .lit _ => 1
  | .nil => 1
  | .ptr d => uptoBulk d + 1
  | .slice elems spare => uptoBulkAll elems + uptoBulkAll spare + 1
  | .agg parts => uptoBulkAll parts + 1
  | .iface _ d => uptoBulk d + 1
  | .map entries => uptoBulkEntries entries + 1
  | .held _ => 1
def uptoBulkAll {H : Type} : List (DataW H) → Nat
  | [] => 0
  | d :: r => uptoBulk d + uptoBulkAll r
def uptoBulkEntries {H : Type} : List (Lit × DataW H) → Nat
  | [] => 0
  | x :: r => uptoBulkEntry x + uptoBulkEntries r
def uptoBulkEntry {H : Type} : Lit × DataW H → Nat
  | (.string bytes, d) => bytes.length + uptoBulk d + 1
  | (_, d) => uptoBulk d + 1
 end
def uptoSmall : (H : Type) → List (DataW H) → Bool := fun _ ds => decide (uptoBulkAll ds ≤ 1048576)
def OpenSpec.upto (s : _root_.Go.ChangeSpec) : _root_.Go.OpenSpec := { _root_.Go.OpenSpec.ofChange s with cond := some uptoSmall }

/-- 'bellowslaw02.SumsNames', WHERE WHAT IT READS IS OF BULK AT MOST 1048576: true; the input reads as it did. -/
def sumsNamesUptoRow : OpenClaim := { program := "ytpnnnmkonodbiaa", sum := "99244b02ff9ac012f09e2202d2f2f70f26c871009f793fdd4e756bc10eb0f7c7", func := "bellows/bellowslaw02.SumsNames", spec := "sumsNames", unfollowed := true, recurses := true, apart := false, narrowed := true }
def SumsNamesUptoSaid : Prop := sumsNamesUptoRow.holds Try.pinned (OpenSpec.upto sumsNamesSpec)

/-- 'bellowslaw02.SumsTell', WHERE WHAT IT READS IS OF BULK AT MOST 1048576: true; the input reads as it did. -/
def sumsTellUptoRow : OpenClaim := { program := "ytpnnnmkonodbiaa", sum := "99244b02ff9ac012f09e2202d2f2f70f26c871009f793fdd4e756bc10eb0f7c7", func := "bellows/bellowslaw02.SumsTell", spec := "sumsTell", unfollowed := true, recurses := true, apart := false, narrowed := true }
def SumsTellUptoSaid : Prop := sumsTellUptoRow.holds Try.pinned (OpenSpec.upto sumsTellSpec)

/-- 'bellowslaw02.SumsBits', WHERE WHAT IT READS IS OF BULK AT MOST 1048576: true; the input reads as it did. -/
def sumsBitsUptoRow : OpenClaim := { program := "ytpnnnmkonodbiaa", sum := "99244b02ff9ac012f09e2202d2f2f70f26c871009f793fdd4e756bc10eb0f7c7", func := "bellows/bellowslaw02.SumsBits", spec := "sumsBits", unfollowed := true, recurses := true, apart := false, narrowed := true }
def SumsBitsUptoSaid : Prop := sumsBitsUptoRow.holds Try.pinned (OpenSpec.upto sumsBitsSpec)

/-- 'bellowslaw02.SumsOn', WHERE WHAT IT READS IS OF BULK AT MOST 1048576: true; the input reads as it did. -/
def sumsOnUptoRow : OpenClaim := { program := "ytpnnnmkonodbiaa", sum := "99244b02ff9ac012f09e2202d2f2f70f26c871009f793fdd4e756bc10eb0f7c7", func := "bellows/bellowslaw02.SumsOn", spec := "sumsOn", unfollowed := true, recurses := true, apart := false, narrowed := true }
def SumsOnUptoSaid : Prop := sumsOnUptoRow.holds Try.pinned (OpenSpec.upto sumsOnSpec)

/-- 'bellowslaw02.SumsTurned', WHERE WHAT IT READS IS OF BULK AT MOST 1048576: true; the input reads as it did. -/
def sumsTurnedUptoRow : OpenClaim := { program := "ytpnnnmkonodbiaa", sum := "99244b02ff9ac012f09e2202d2f2f70f26c871009f793fdd4e756bc10eb0f7c7", func := "bellows/bellowslaw02.SumsTurned", spec := "sumsTurned", unfollowed := true, recurses := true, apart := false, narrowed := true }
def SumsTurnedUptoSaid : Prop := sumsTurnedUptoRow.holds Try.pinned (OpenSpec.upto sumsTurnedSpec)

/-- 'bellowslaw02.SumsRows', WHERE WHAT IT READS IS OF BULK AT MOST 1048576: true; the input reads as it did. -/
def sumsRowsUptoRow : OpenClaim := { program := "ytpnnnmkonodbiaa", sum := "99244b02ff9ac012f09e2202d2f2f70f26c871009f793fdd4e756bc10eb0f7c7", func := "bellows/bellowslaw02.SumsRows", spec := "sumsRows", unfollowed := true, recurses := true, apart := false, narrowed := true }
def SumsRowsUptoSaid : Prop := sumsRowsUptoRow.holds Try.pinned (OpenSpec.upto sumsRowsSpec)

end Rows
end Go.Proofs.Ytpnnnmkonodbiaa
