/-
  Words and walks.
-/
import Derived.Deep.DeepCutAuto
import Derived.Deep.WholeRow
import Derived.Test.YtgokdgcmkcmjeaaGreatpbaa
import Derived.Test.YtgokdgcmkcmjeaaGreatpbab
set_option maxRecDepth 100000
set_option maxHeartbeats 16000000
namespace Go.Proofs.YtgokdgcmkcmjeaaGreat
open Go.RowKit
theorem below_row9{B:Nat}{a w:World}(h:Below B a w){g:Nat}(hp:B≤g)(cs:Array Value):Below B a (w.setRow g cs):=
 ⟨h.os,h.tape,h.output,by rw[size_setRow];exact h.size,fun k hk=>(setRow_other w g k cs (by omega)).trans (h.block k hk)⟩
def mkV(w:World)(z cs:Array Value)(t:TypeId):World:=(w.alloc (.cells z t)).setRow w.heap.size cs
theorem mkV_row(w:World)(z cs:Array Value)(t:TypeId):(mkV w z cs t).heap[w.heap.size]?=some (.cells cs t (0,0)):=setRow_heap _ _ _ _ _ _ (heap_alloc_new w _)
theorem mkV_below(w:World)(z cs:Array Value)(t:TypeId):Below w.heap.size w (mkV w z cs t):=below_row9 ((Below.refl _ _).alloc (Nat.le_refl _) _) (Nat.le_refl _) cs
theorem mkV_size(w:World)(z cs:Array Value)(t:TypeId):(mkV w z cs t).heap.size=w.heap.size+1:=by unfold mkV;rw[size_setRow];simp
end Go.Proofs.YtgokdgcmkcmjeaaGreat
