/-
  Words and walks.
-/
import Derived.Test.Ytgokdgcmkcmjeaapaao
import Derived.Test.Ytgokdgcmkcmjeaapaas
set_option maxRecDepth 100000
set_option maxHeartbeats 16000000
namespace Go.Proofs.Ytgokdgcmkcmjeaa
open Go.RowKit Go.ChangeShapes Go.WideShapes Go.ChangeAt Go.Joins
theorem strLd(L:List Nat)(d:Array UInt8)(h:(L.map UInt8.ofNat).toArray=d):(⟨d⟩:ByteArray)=strL L:=by rw[strL_eq,h]
theorem tells13_yes(w:World)(T M:List Nat)(lim n:Nat)(hT:∀x∈T,x<256)(hn:T.length≤1000)(hlim:lim≤3000)(hR:inflR (lst T) T.length 0 (lim:Int)=(M,n,0)):
  Calls Try.prog 7 #[.string (strL T),.int .i64 (lim:Int),.string (strL M),.int .i64 (n:Int)] w fun e w'=>e=.returned (.bool true)∧Below w.heap.size w w':=by
 obtain⟨c,w1,hrun,hby,hb1⟩:=strbytes_any w T hT (by omega)
 have hI:=fun(u:World) (hu:RdB u u.heap.size (some ⟨w.heap.size,0,none⟩) T.length (lst T))=>pinfl_any u (some ⟨w.heap.size,0,none⟩) T.length c (lst T) hu 0 (by decide) (by decide) (by omega) (lim:Int) (by omega) (by omega)
 rw[hR]at hI
 obtain⟨N,hN⟩:∃N,N=T.length:=⟨_,rfl⟩
 rw[←hN]at hrun hby hI
 obtain⟨ZT,hZT⟩:∃ZT,ZT=strL T:=⟨_,rfl⟩
 obtain⟨ZM,hZM⟩:∃ZM,ZM=strL M:=⟨_,rfl⟩
 rw[←hZT]at hrun⊢
 rw[←hZM]
 obtain⟨m,hm⟩:∃m,m=M.length:=⟨_,rfl⟩
 unfold InfP at hI
 dsimp only at hI
 rw[←hm]at hI
 have HBY:=Lib.hid hby;have HB1:=Lib.hid hb1;have HI:=Lib.hid hI;have HZM:=Lib.hid hZM;have HM:=Lib.hid hm
 clear hby hb1 hI hT hn hR hlim hZT hN hZM hm
 go_enter Try.func7,Try.ntmps7
 go_wp2_with fail
 refine(HI.out w1 HBY.out.1).mono ?_
 clear hrun
 rintro e w2 ⟨A',c',rfl,hy,-,hb2⟩
 have hs:=run_str hy.1 c'
 have hz:strB m (lst M)=ZM:=by rw[HZM.out,HM.out];rfl
 rw[hz]at hs
 have HB2:=Lib.hid (HB1.out.trans (hb2.mono HB1.out.size))
 have z1:(ZM.toList==ZM.toList)=true:=by simp
 have zk:((n:Int)==(n:Int))=true:=by simp
 clear hy hb2 hz HI HBY HB1
 go_wp2
 go_ret
 exact⟨rfl,HB2.out⟩
theorem fails13_yes(w:World)(T:List Nat)(lim:Nat)(E:Int)(hT:∀x∈T,x<256)(hn:T.length≤1000)(hlim:lim≤3000)(hR:inflR (lst T) T.length 0 (lim:Int)=([],0,E)):
  Calls Try.prog 8 #[.string (strL T),.int .i64 (lim:Int),.int .i64 E] w fun e w'=>e=.returned (.bool true)∧Below w.heap.size w w':=by
 obtain⟨c,w1,hrun,hby,hb1⟩:=strbytes_any w T hT (by omega)
 have hI:=fun(u:World) (hu:RdB u u.heap.size (some ⟨w.heap.size,0,none⟩) T.length (lst T))=>pinfl_any u (some ⟨w.heap.size,0,none⟩) T.length c (lst T) hu 0 (by decide) (by decide) (by omega) (lim:Int) (by omega) (by omega)
 rw[hR]at hI
 obtain⟨N,hN⟩:∃N,N=T.length:=⟨_,rfl⟩
 rw[←hN]at hrun hby hI
 obtain⟨ZT,hZT⟩:∃ZT,ZT=strL T:=⟨_,rfl⟩
 rw[←hZT]at hrun⊢
 unfold InfP at hI
 dsimp only[List.length_nil]at hI
 have HBY:=Lib.hid hby;have HB1:=Lib.hid hb1;have HI:=Lib.hid hI
 clear hby hb1 hI hT hn hR hlim hZT hN
 go_enter Try.func8,Try.ntmps8
 go_wp2_with fail
 refine(HI.out w1 HBY.out.1).mono ?_
 clear hrun
 rintro e w2 ⟨A',c',rfl,-,-,hb2⟩
 have HB2:=Lib.hid (HB1.out.trans (hb2.mono HB1.out.size))
 have zk:(E==E)=true:=by simp
 clear hb2 HI HBY HB1
 go_wp2
 go_ret
 exact⟨rfl,HB2.out⟩
theorem tl_a(w:World):Calls Try.prog 7 #[.string ⟨#[75,4,0]⟩,.int .i64 9,.string ⟨#[97]⟩,.int .i64 18] w fun e w'=>e=.returned (.bool true)∧Below w.heap.size w w':=by
 rw[strLd [75,4,0] #[75,4,0] rfl,strLd [97] #[97] rfl]
 exact tells13_yes w [75,4,0] [97] 9 18 (by decide) (by decide) (by decide) valp_a
theorem tl_abc(w:World):Calls Try.prog 7 #[.string ⟨#[1,3,0,252,255,97,98,99]⟩,.int .i64 3,.string ⟨#[97,98,99]⟩,.int .i64 64] w fun e w'=>e=.returned (.bool true)∧Below w.heap.size w w':=by
 rw[strLd [1,3,0,252,255,97,98,99] #[1,3,0,252,255,97,98,99] rfl,strLd [97,98,99] #[97,98,99] rfl]
 exact tells13_yes w [1,3,0,252,255,97,98,99] [97,98,99] 3 64 (by decide) (by decide) (by decide) valp_abc
theorem alive13_any(w:World):Calls Try.prog 9 #[] w fun e w'=>e=.returned (.bool true)∧Below w.heap.size w w':=by
 have H0:=Lib.hid tl_a;have H1:=Lib.hid tl_abc
 go_enter Try.func9,Try.ntmps9
 go_wp2_with fail
 refine(H0.out w).mono ?_
 rintro e w1 ⟨rfl,hb⟩
 have HB1:=Lib.hid hb
 clear hb
 go_wp2_with fail
 refine(H1.out w1).mono ?_
 rintro e w2 ⟨rfl,hb⟩
 have HB2:=Lib.hid (HB1.out.trans (hb.mono HB1.out.size))
 clear hb
 go_wp2
 go_ret
 exact⟨rfl,HB2.out⟩
end Go.Proofs.Ytgokdgcmkcmjeaa
namespace Go.Proofs.Ytgokdgcmkcmjeaa
open Go.RowKit
theorem rgreat13_any(w:World)(A:Option Addr)(l c:Nat):
  Calls Try.prog 11 #[.slice A l c] w fun e w'=>e=.returned (.bool (decide (400<l)))∧w=w':=by
 by_cases y0:400<l
 ·have d1:decide ((400:Int)<(l:Int))=true:=decY (by omega)
  have d2:decide (400<l)=true:=decY0 y0
  rw[d2]
  clear y0
  go_enter Try.func11,Try.ntmps11
  go_wp2
  go_ret
  exact⟨rfl,rfl⟩
 ·have d1:decide ((400:Int)<(l:Int))=false:=decN (by omega)
  have d2:decide (400<l)=false:=decN0 y0
  rw[d2]
  clear y0
  go_enter Try.func11,Try.ntmps11
  go_wp2
  go_ret
  exact⟨rfl,rfl⟩
end Go.Proofs.Ytgokdgcmkcmjeaa
