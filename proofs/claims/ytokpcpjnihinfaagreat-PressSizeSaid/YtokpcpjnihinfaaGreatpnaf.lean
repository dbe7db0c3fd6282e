/-
  Words and walks.
-/
import Derived.Deep.DeepCutAuto
import Derived.Deep.RegionLaw
import Derived.Test.YtokpcpjnihinfaaGreatpnaa
import Derived.Test.YtokpcpjnihinfaaGreatpnab
import Derived.Test.YtokpcpjnihinfaaGreatpnac
import Derived.Test.YtokpcpjnihinfaaGreatpnad
import Derived.Test.YtokpcpjnihinfaaGreatpnae
set_option maxRecDepth 100000
set_option maxHeartbeats 16000000
namespace Go.Proofs.YtokpcpjnihinfaaGreat
open Go.RowKit Go.ChangeShapes Go.WideShapes Go.ChangeAt Go.Joins
theorem built_pen2(A:Option Addr)(n c:Nat)(k:Int):Tryz.prog.built 30 [(0,.slice A n c),(1,.int .i64 k)]=some #[.slice A n c,.int .i64 k]:=by kernel_rfl
theorem rangeBox{w:World}{g:Nat}{cs:Array Value}{t:TypeId}(h:BoxC w g cs t):w.rangeAt g 0 cs.toList:=fun i v hv=>by
 rw[h.cell,Nat.zero_add];simpa using hv
def NewA(base:Nat)(A:Option Addr)(n:Nat):Prop:=∀g o,0<n→A=some ⟨g,o,none⟩→base≤g
end Go.Proofs.YtokpcpjnihinfaaGreat
