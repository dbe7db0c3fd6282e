/-
  Words and walks.
-/
import Derived.Laws.ResultCell
import Derived.Test.YtcmpmighjglnpaaGreattaac
import Derived.Test.YtcmpmighjglnpaaGreattaad
import Derived.Test.YtcmpmighjglnpaaGreattaae
set_option maxRecDepth 100000
set_option maxHeartbeats 16000000
namespace Go.Proofs.YtcmpmighjglnpaaGreat
open Go.RowKit
theorem setRow_tre{w:World}{b:Nat}{c d:Nat→Int}{u v:Value}(h:TreA w b c u):TreA (w.setRow b (trA d v)) b d v:=setRow_heap w b _ _ _ _ h
theorem sumC_le(f:Nat→Nat)(n:Nat):∀M,sumC f n M≤n*M
 |0=>Nat.zero_le _
 |M+1=>by
  have h1:=sumC_le f n M
  have h2:=cntN_le f (M+1) n
  simp only[sumC];rw[Nat.mul_succ];omega
theorem natsI_app(a b:List Nat):natsI a++natsI b=natsI (a++b):=by simp[natsI]
end Go.Proofs.YtcmpmighjglnpaaGreat
namespace Go.Proofs.YtcmpmighjglnpaaGreat
open Go.RowKit
def grC(f:Nat→Nat)(n:Nat)(most:Int)(m:Nat):Int:=if checkE f n most=0 then(tcN f m n:Int)else 0
def grS(f:Nat→Nat)(n:Nat)(most:Int):List Int:=if checkE f n most=0 then natsI (symL f n 15)else[]
theorem cell_tree{fn:Func}{p u:Tmp}(h:fn.results=#[.cell p 26,.tmp u])(tmps:Array Value)(w:World)(g:Nat)(c:Nat→Int)(v:Value)(hp:tmps.getD p undef=.pointer (some ⟨g,0,none⟩))(ht:TreA w g c v):
  (results fn tmps).run Tryz.prog w=.ok (.tuple #[.agg (trA c v),tmps.getD u undef]) w:=by
 have hp':tmps[p]?.getD undef=.pointer (some ⟨g,0,none⟩):=by simpa using hp
 have hl:=run_loadVar_row (P:=Tryz.prog) w g 26 26 (trA c v) (0,0) _ ht Tryz.underlying26 rfl (by rw[trA_size];exact szTree)
 simp[results,h,hp',asAddr,hl]
end Go.Proofs.YtcmpmighjglnpaaGreat
