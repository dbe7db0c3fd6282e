/-
  Words and walks.
-/
import Derived.BigRegion
import Derived.Deep.RegionLaw
import Derived.Lib.AppendZeros
import Derived.Lib.SliceRun
import Derived.Great.BuildSlice
import Derived.Laws.Tables
import Derived.Deep.DeepCutAuto
import Derived.Test.YtgokdgcmkcmjeaaGreatpraa
import Derived.Test.YtgokdgcmkcmjeaaGreatprab
import Derived.Test.YtgokdgcmkcmjeaaGreatprac
import Derived.Test.YtgokdgcmkcmjeaaGreatprad
import Derived.Test.YtgokdgcmkcmjeaaGreatprae
import Derived.Test.YtgokdgcmkcmjeaaGreatprai
import Derived.Test.YtgokdgcmkcmjeaaGreatpral
import Derived.Test.YtgokdgcmkcmjeaaGreatpraq
set_option maxRecDepth 100000
set_option maxHeartbeats 16000000
namespace Go.Proofs.YtgokdgcmkcmjeaaGreat
open Go.RowKit Go.ChangeShapes Go.WideShapes Go.ChangeAt Go.Joins
theorem own_blk{w w':World}{base sz n:Nat}{e:TypeId}{v:Value}{xs:List Value}(h:w.ownsRow base e sz v n xs)(hk:∀j,v.ownBlock=some j→w'.heap[j]?=w.heap[j]?):w'.ownsRow base e sz v n xs:=by
 obtain⟨h1,h2⟩:=h
 refine⟨h1,?_⟩
 rcases h2 with h2|⟨g,cap,cur,hv,hg,hh,r⟩
 ·exact .inl h2
 ·exact .inr ⟨g,cap,cur,hv,hg,(hk g (by rw[hv];rfl)).trans hh,r⟩
theorem own_blk_lt{w:World}{base sz n:Nat}{e:TypeId}{v:Value}{xs:List Value}(h:w.ownsRow base e sz v n xs):∀j,v.ownBlock=some j→base≤j∧j<w.heap.size:=by
 intro j hj
 rcases h.2 with⟨rfl,_⟩|⟨g,cap,cur,rfl,hg,hh,_⟩
 ·simp[Value.ownBlock]at hj
 ·simp[Value.ownBlock]at hj
  subst hj
  exact⟨hg,(Array.getElem?_eq_some_iff.1 hh).1⟩
end Go.Proofs.YtgokdgcmkcmjeaaGreat
namespace Go.Proofs.YtgokdgcmkcmjeaaGreat
section
variable {g h:Nat→Nat} {l m:Nat}
end
theorem asked_ok{L:Nat}{a:Int}(h:asked13 L a=0):L≤131072∧0≤a∧a.toNat≤8*L:=by
 unfold asked13 at h
 split at h
 ·omega
 ·split at h
  ·omega
  ·omega
end Go.Proofs.YtgokdgcmkcmjeaaGreat
