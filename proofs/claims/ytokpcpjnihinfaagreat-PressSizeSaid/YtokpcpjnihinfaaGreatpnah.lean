/-
  Words and walks.
-/
import Derived.Test.YtokpcpjnihinfaaGreatpnab
import Derived.Test.YtokpcpjnihinfaaGreatpnac
import Derived.Test.YtokpcpjnihinfaaGreatpnad
import Derived.Test.YtokpcpjnihinfaaGreatpnag
set_option maxRecDepth 100000
set_option maxHeartbeats 16000000
namespace Go.Proofs.YtokpcpjnihinfaaGreat
open Go.RowKit Go.ChangeShapes Go.WideShapes Go.ChangeAt Go.Joins
def ansP(E:Int)(r:Prs×List Nat):Prs×List Nat:=if E=0 then r else(begP 0 0 0 false,[])
theorem cell_prs3{fn:Func}{p u v:Tmp}(h:fn.results=#[.cell p 32,.tmp u,.tmp v])(tmps:Array Value)(w:World)(g:Nat)(cs:Array Value)(hs:cs.size=9)(hp:tmps.getD p undef=.pointer (some ⟨g,0,none⟩))(ht:BoxC w g cs 32):
  (results fn tmps).run Tryz.prog w=.ok (.tuple #[.agg cs,tmps.getD u undef,tmps.getD v undef]) w:=by
 have hp':tmps[p]?.getD undef=.pointer (some ⟨g,0,none⟩):=by simpa using hp
 have hl:=run_loadVar_row (P:=Tryz.prog) w g 32 32 cs (0,0) _ ht Tryz.underlying32 rfl (by rw[hs];exact szPrs)
 simp[results,h,hp',asAddr,hl]
theorem nilB(j:Nat):lst [] j<256:=lst_lt (L:=[]) (fun x hx=>by cases hx) j
end Go.Proofs.YtokpcpjnihinfaaGreat
namespace Go.Proofs.YtokpcpjnihinfaaGreat
open Go.RowKit Go.ChangeShapes Go.WideShapes Go.ChangeAt Go.Joins
def strL(L:List Nat):ByteArray:=strB L.length (lst L)
theorem strL_eq(L:List Nat):strL L=⟨(L.map UInt8.ofNat).toArray⟩:=by
 unfold strL strB strOfNums
 congr 1
 congr 1
 apply List.ext_getElem?
 intro j
 simp[lst]
 rcases Nat.lt_or_ge j L.length with h|h
 ·simp[h]
 ·simp[h]
end Go.Proofs.YtokpcpjnihinfaaGreat
namespace Go.Proofs.YtokpcpjnihinfaaGreat
open Go.RowKit Go.ChangeShapes Go.WideShapes Go.ChangeAt Go.Joins
theorem strL_inj{L M:List Nat}(hL:BytesP L)(hM:BytesP M)(h:(strL L).toList=(strL M).toList):L=M:=by
 have hb:strL L=strL M:=by
  unfold strL strB at h⊢
  rw[Lib.strOfNums_toList,Lib.strOfNums_toList]at h
  apply ByteArray.ext
  apply Array.toList_inj.1
  rw[strOfNums_data,strOfNums_data]
  exact h
 rw[strL_eq,strL_eq]at hb
 have h2:L.map UInt8.ofNat=M.map UInt8.ofNat:=by
  have:=congrArg (fun b:ByteArray=>b.data.toList) hb
  simpa using this
 have hl:L.length=M.length:=by have:=congrArg List.length h2;simpa using this
 apply List.ext_getElem?
 intro i
 rcases Nat.lt_or_ge i L.length with g|g
 ·have g2:i<M.length:=by omega
  have h1:UInt8.ofNat L[i]=UInt8.ofNat M[i]:=by
   have:=congrArg (·[i]?) h2
   simpa[g,g2]using this
  have a:=hL _ (List.getElem_mem g)
  have b:=hM _ (List.getElem_mem g2)
  rw[List.getElem?_eq_getElem g,List.getElem?_eq_getElem g2]
  congr 1
  have h3:=congrArg UInt8.toNat h1
  rw[UInt8.toNat_ofNat',UInt8.toNat_ofNat']at h3
  omega
 ·rw[List.getElem?_eq_none g,List.getElem?_eq_none (by omega)]
theorem strL_beq{L M:List Nat}(hL:BytesP L)(hM:BytesP M):((strL L).toList==(strL M).toList)=decide (L=M):=by
 by_cases h:L=M
 ·subst h;simp
 ·rw[decide_eq_false h,Bool.eq_false_iff]
  intro hh
  exact h (strL_inj hL hM (eq_of_beq hh))
def greatP(hn wn bn:Nat):Bool:=decide (600<hn)||decide (300<wn)||decide (300<bn)
theorem rgreat12_all(w:World)(s hh m:Int)(z:Bool)(Ah:Option Addr)(hn hc:Nat)(Aw:Option Addr)(wn wc:Nat)(Ap:Option Addr)(pn pc:Nat)(k:Int)(ov:Bool)(Ab:Option Addr)(bn bc:Nat):
  Calls Tryz.prog 17 #[.agg #[.int .i64 s,.int .i64 hh,.int .i64 m,.bool z,.slice Ah hn hc,.slice Aw wn wc,.slice Ap pn pc,.int .i64 k,.bool ov],.slice Ab bn bc] w fun e w'=>e=.returned (.bool (greatP hn wn bn))∧Below w.heap.size w w':=by
 by_cases g1:600<hn
 ·have d1:decide (600<(hn:Int))=true:=decide_eq_true (by omega)
  have HV:Hid (greatP hn wn bn=true):=Lib.hid (by unfold greatP;simp;omega)
  go_enter Tryz.func17,Tryz.ntmps17
  go_wp2
  go_ret
  exact⟨by rw[HV.out];rfl,(Below.refl _ _).alloc (Nat.le_refl _) _⟩
 have d1:decide (600<(hn:Int))=false:=decide_eq_false (by omega)
 by_cases g2:300<wn
 ·have d2:decide (300<(wn:Int))=true:=decide_eq_true (by omega)
  have HV:Hid (greatP hn wn bn=true):=Lib.hid (by unfold greatP;simp;omega)
  go_enter Tryz.func17,Tryz.ntmps17
  go_wp2
  go_ret
  exact⟨by rw[HV.out];rfl,(Below.refl _ _).alloc (Nat.le_refl _) _⟩
 have d2:decide (300<(wn:Int))=false:=decide_eq_false (by omega)
 by_cases g3:300<bn
 ·have d3:decide (300<(bn:Int))=true:=decide_eq_true (by omega)
  have HV:Hid (greatP hn wn bn=true):=Lib.hid (by unfold greatP;simp;omega)
  go_enter Tryz.func17,Tryz.ntmps17
  go_wp2
  go_ret
  exact⟨by rw[HV.out];rfl,(Below.refl _ _).alloc (Nat.le_refl _) _⟩
 ·have d3:decide (300<(bn:Int))=false:=decide_eq_false (by omega)
  have HV:Hid (greatP hn wn bn=false):=Lib.hid (by unfold greatP;simp;omega)
  go_enter Tryz.func17,Tryz.ntmps17
  go_wp2
  go_ret
  exact⟨by rw[HV.out];rfl,(Below.refl _ _).alloc (Nat.le_refl _) _⟩
theorem rgreat12_any(w:World)(p:Prs)(Ah:Option Addr)(hc:Nat)(Aw:Option Addr)(wc:Nat)(Ap:Option Addr)(pc:Nat)(Ab:Option Addr)(bn bc:Nat):
  Calls Tryz.prog 17 #[.agg (prsA p Ah hc Aw wc Ap pc),.slice Ab bn bc] w fun e w'=>e=.returned (.bool (greatP p.hist.length p.wait.length bn))∧Below w.heap.size w w':=
 rgreat12_all w p.s p.h p.m p.z Ah p.hist.length hc Aw p.wait.length wc Ap p.pen.length pc p.k p.over Ab bn bc
def samePen(L:List Nat)(k:Int)(M:List Nat)(j:Int):Bool:=decide (k=j∧L=M)
end Go.Proofs.YtokpcpjnihinfaaGreat
