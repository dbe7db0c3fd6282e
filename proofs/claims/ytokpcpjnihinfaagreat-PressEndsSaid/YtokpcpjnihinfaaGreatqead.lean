/-
  Words and walks.
-/
import Derived.Lib.Bytes
import Derived.RangeFuncFrom
import Derived.RangeFuncBox
import Derived.RangeFuncLeaves
import Derived.RangeFuncBound
import Derived.RangeFuncCalls
import Derived.Shelf.RegionOpen
import Derived.OwnWalkIn
import Derived.TacticsInMore
import Derived.LoopNIn
import Derived.LoopIn
import Derived.Sort.QuietIn
import Derived.Test.YtokpcpjnihinfaaGreatqeaa
import Derived.Test.YtokpcpjnihinfaaGreatqeab
import Derived.Test.YtokpcpjnihinfaaGreatqeac
set_option maxRecDepth 100000
set_option maxHeartbeats 16000000
namespace Go.Proofs.YtokpcpjnihinfaaGreat
open Value renaming int → ae, slice → af, pointer → ag, agg → ah, bool → ai
open IntKind renaming i64 → aj
open Obj renaming cells → ak
open Ending renaming returned → ao
open Go renaming World → aq, Addr → au, Calls → aw, Value → ax, Program → az, Oper → aA, TypeId → aB, wpList_buildTo → aD, wpList_load_row → aE, bodyPost_ret → aK, yielded → aM
open Go.RowKit renaming intOf → aP, Hid → aQ, Below → aR
open _root_.Go.Proofs.Tryz
open Go.RowKit Go.ChangeShapes Go.WideShapes Go.ChangeAt Go.Joins
def lr(a:Bool)(s m:Int)(hn wn:Nat)(b:Bool)(k:Int)(ov:Bool):Bool:=a&&decide ((hn:Int)<=s)&&decide ((wn:Int)<m)&&b&&decide (k<=7)&&(!ov||decide (wn=0/\k=0))
theorem I6(w:aq)(s h m:Int)(z:Bool)(Ah:Option au)(hn hc:Nat)(Aw:Option au)(wn wc:Nat)(Ap:Option au)(pn pc:Nat)(k:Int)(ov:Bool)(f:Nat->Nat)(hr:gE w w.heap.size Ap pn f)(hq:ig s h m=false):
  aw prog 41 #[ah #[ae aj s,ae aj h,ae aj m,ai z,af Ah hn hc,af Aw wn wc,af Ap pn pc,ae aj k,ai ov]] w fun e w'=>e=ao (ai false)/\aR w.heap.size w w':=by
 have HR:=fX hr
 clear hr
 go_enter func41,ntmps41
 go_wp2_with fail
 refine(pX _ s h m z).mono ?_
 rintro e w1 ⟨rfl,av⟩
 have ad:gi w1 w.heap.size #[ae aj s,ae aj h,ae aj m,ai z,af Ah hn hc,af Aw wn wc,af Ap pn pc,ae aj k,ai ov] 32:=(gi.new w _ _).below av (by simp)
 have al:aR w.heap.size w w1:=(gC.alloc fZ _).trans (av.mono (by simp))
 have aS:=gV ad
 have aT:=jH ad
 have aU:=jd ad
 have aV:=iX ad
 have aW:=jf ad
 have aX:=iY ad
 have aY:=jE ad
 have HB:=fX al;have HX:=fX ad
 clear av al ad
 rw[hq]
 go_wp2
 go_ret
 exact⟨rfl,HB.out⟩
theorem I7(w:aq)(s h m:Int)(z:Bool)(Ah:Option au)(hn hc:Nat)(Aw:Option au)(wn wc:Nat)(Ap:Option au)(pn pc:Nat)(k:Int)(ov:Bool)(f:Nat->Nat)(hr:gE w w.heap.size Ap pn f)(hq:ig s h m=true)(h2:s<(hn:Int)):
  aw prog 41 #[ah #[ae aj s,ae aj h,ae aj m,ai z,af Ah hn hc,af Aw wn wc,af Ap pn pc,ae aj k,ai ov]] w fun e w'=>e=ao (ai false)/\aR w.heap.size w w':=by
 have d2:decide (s<(hn:Int))=true:=decide_eq_true h2
 clear h2
 have HR:=fX hr
 clear hr
 go_enter func41,ntmps41
 go_wp2_with fail
 refine(pX _ s h m z).mono ?_
 rintro e w1 ⟨rfl,av⟩
 have ad:gi w1 w.heap.size #[ae aj s,ae aj h,ae aj m,ai z,af Ah hn hc,af Aw wn wc,af Ap pn pc,ae aj k,ai ov] 32:=(gi.new w _ _).below av (by simp)
 have al:aR w.heap.size w w1:=(gC.alloc fZ _).trans (av.mono (by simp))
 have aS:=gV ad
 have aT:=jH ad
 have aU:=jd ad
 have aV:=iX ad
 have aW:=jf ad
 have aX:=iY ad
 have aY:=jE ad
 have HB:=fX al;have HX:=fX ad
 clear av al ad
 rw[hq]
 go_wp2
 go_ret
 exact⟨rfl,HB.out⟩
theorem I8(w:aq)(s h m:Int)(z:Bool)(Ah:Option au)(hn hc:Nat)(Aw:Option au)(wn wc:Nat)(Ap:Option au)(pn pc:Nat)(k:Int)(ov:Bool)(f:Nat->Nat)(hr:gE w w.heap.size Ap pn f)(hq:ig s h m=true)(h2:(hn:Int)<=s)(h3:m<=(wn:Int)):
  aw prog 41 #[ah #[ae aj s,ae aj h,ae aj m,ai z,af Ah hn hc,af Aw wn wc,af Ap pn pc,ae aj k,ai ov]] w fun e w'=>e=ao (ai false)/\aR w.heap.size w w':=by
 have d2:decide (s<(hn:Int))=false:=decide_eq_false (by omega)
 have d3:decide (m<=(wn:Int))=true:=decide_eq_true h3
 clear h2 h3
 have HR:=fX hr
 clear hr
 go_enter func41,ntmps41
 go_wp2_with fail
 refine(pX _ s h m z).mono ?_
 rintro e w1 ⟨rfl,av⟩
 have ad:gi w1 w.heap.size #[ae aj s,ae aj h,ae aj m,ai z,af Ah hn hc,af Aw wn wc,af Ap pn pc,ae aj k,ai ov] 32:=(gi.new w _ _).below av (by simp)
 have al:aR w.heap.size w w1:=(gC.alloc fZ _).trans (av.mono (by simp))
 have aS:=gV ad
 have aT:=jH ad
 have aU:=jd ad
 have aV:=iX ad
 have aW:=jf ad
 have aX:=iY ad
 have aY:=jE ad
 have HB:=fX al;have HX:=fX ad
 clear av al ad
 rw[hq]
 go_wp2
 go_ret
 exact⟨rfl,HB.out⟩
theorem I9(w:aq)(s h m:Int)(z:Bool)(Ah:Option au)(hn hc:Nat)(Aw:Option au)(wn wc:Nat)(Ap:Option au)(pn pc:Nat)(k:Int)(ov:Bool)(f:Nat->Nat)(hr:gE w w.heap.size Ap pn f)(hq:ig s h m=true)(h2:(hn:Int)<=s)(h3:(wn:Int)<m)(hp:jz f pn k=false):
  aw prog 41 #[ah #[ae aj s,ae aj h,ae aj m,ai z,af Ah hn hc,af Aw wn wc,af Ap pn pc,ae aj k,ai ov]] w fun e w'=>e=ao (ai false)/\aR w.heap.size w w':=by
 have d2:decide (s<(hn:Int))=false:=decide_eq_false (by omega)
 have d3:decide (m<=(wn:Int))=false:=decide_eq_false (by omega)
 clear h2 h3
 have HR:=fX hr
 clear hr
 go_enter func41,ntmps41
 go_wp2_with fail
 refine(pX _ s h m z).mono ?_
 rintro e w1 ⟨rfl,aT⟩
 have ad:gi w1 w.heap.size #[ae aj s,ae aj h,ae aj m,ai z,af Ah hn hc,af Aw wn wc,af Ap pn pc,ae aj k,ai ov] 32:=(gi.new w _ _).below aT (by simp)
 have av:aR w.heap.size w w1:=(gC.alloc fZ _).trans (aT.mono (by simp))
 have aW:=gV ad
 have aX:=jH ad
 have aY:=jd ad
 have aZ:=iX ad
 have a1:=jf ad
 have a2:=iY ad
 have a3:=jE ad
 have HB:=fX av;have HX:=fX ad
 clear aT av ad
 rw[hq]
 go_wp2_with fail
 refine(sK w1 Ap pn pc f k ((HR.out.below HB.out fZ).more HB.out.size)).mono ?_
 rintro e w2 ⟨rfl,aU⟩
 have al:gi w2 w.heap.size #[ae aj s,ae aj h,ae aj m,ai z,af Ah hn hc,af Aw wn wc,af Ap pn pc,ae aj k,ai ov] 32:=HX.out.below aU HX.out.lt
 have aS:aR w.heap.size w w2:=HB.out.trans (aU.mono HB.out.size)
 have a4:=gV al
 have a5:=jH al
 have a6:=jd al
 have a7:=iX al
 have a8:=jf al
 have a9:=iY al
 have bd:=jE al
 have aV:=fX aS
 clear aU aS al
 rw[hp]
 go_wp2
 go_ret
 exact⟨rfl,aV.out⟩
theorem Ja(w:aq)(s h m:Int)(z:Bool)(Ah:Option au)(hn hc:Nat)(Aw:Option au)(wn wc:Nat)(Ap:Option au)(pn pc:Nat)(k:Int)(ov:Bool)(f:Nat->Nat)(hr:gE w w.heap.size Ap pn f)(hq:ig s h m=true)(h2:(hn:Int)<=s)(h3:(wn:Int)<m)(hp:jz f pn k=true)(h5:7<k):
  aw prog 41 #[ah #[ae aj s,ae aj h,ae aj m,ai z,af Ah hn hc,af Aw wn wc,af Ap pn pc,ae aj k,ai ov]] w fun e w'=>e=ao (ai false)/\aR w.heap.size w w':=by
 have d2:decide (s<(hn:Int))=false:=decide_eq_false (by omega)
 have d3:decide (m<=(wn:Int))=false:=decide_eq_false (by omega)
 have d5:decide (7<k)=true:=decide_eq_true h5
 clear h2 h3 h5
 have HR:=fX hr
 clear hr
 go_enter func41,ntmps41
 go_wp2_with fail
 refine(pX _ s h m z).mono ?_
 rintro e w1 ⟨rfl,aT⟩
 have ad:gi w1 w.heap.size #[ae aj s,ae aj h,ae aj m,ai z,af Ah hn hc,af Aw wn wc,af Ap pn pc,ae aj k,ai ov] 32:=(gi.new w _ _).below aT (by simp)
 have av:aR w.heap.size w w1:=(gC.alloc fZ _).trans (aT.mono (by simp))
 have aW:=gV ad
 have aX:=jH ad
 have aY:=jd ad
 have aZ:=iX ad
 have a1:=jf ad
 have a2:=iY ad
 have a3:=jE ad
 have HB:=fX av;have HX:=fX ad
 clear aT av ad
 rw[hq]
 go_wp2_with fail
 refine(sK w1 Ap pn pc f k ((HR.out.below HB.out fZ).more HB.out.size)).mono ?_
 rintro e w2 ⟨rfl,aU⟩
 have al:gi w2 w.heap.size #[ae aj s,ae aj h,ae aj m,ai z,af Ah hn hc,af Aw wn wc,af Ap pn pc,ae aj k,ai ov] 32:=HX.out.below aU HX.out.lt
 have aS:aR w.heap.size w w2:=HB.out.trans (aU.mono HB.out.size)
 have a4:=gV al
 have a5:=jH al
 have a6:=jd al
 have a7:=iX al
 have a8:=jf al
 have a9:=iY al
 have bd:=jE al
 have aV:=fX aS
 clear aU aS al
 rw[hp]
 go_wp2
 go_ret
 exact⟨rfl,aV.out⟩
theorem Jb(w:aq)(s h m:Int)(z:Bool)(Ah:Option au)(hn hc:Nat)(Aw:Option au)(wn wc:Nat)(Ap:Option au)(pn pc:Nat)(k:Int)(_:Bool)(f:Nat->Nat)(hr:gE w w.heap.size Ap pn f)(hq:ig s h m=true)(h2:(hn:Int)<=s)(h3:(wn:Int)<m)(hp:jz f pn k=true)(h5:k<=7):
  aw prog 41 #[ah #[ae aj s,ae aj h,ae aj m,ai z,af Ah hn hc,af Aw wn wc,af Ap pn pc,ae aj k,ai false]] w fun e w'=>e=ao (ai true)/\aR w.heap.size w w':=by
 have d2:decide (s<(hn:Int))=false:=decide_eq_false (by omega)
 have d3:decide (m<=(wn:Int))=false:=decide_eq_false (by omega)
 have d5:decide (7<k)=false:=decide_eq_false (by omega)
 clear h2 h3 h5
 have HR:=fX hr
 clear hr
 go_enter func41,ntmps41
 go_wp2_with fail
 refine(pX _ s h m z).mono ?_
 rintro e w1 ⟨rfl,aT⟩
 have ad:gi w1 w.heap.size #[ae aj s,ae aj h,ae aj m,ai z,af Ah hn hc,af Aw wn wc,af Ap pn pc,ae aj k,ai false] 32:=(gi.new w _ _).below aT (by simp)
 have av:aR w.heap.size w w1:=(gC.alloc fZ _).trans (aT.mono (by simp))
 have aW:=gV ad
 have aX:=jH ad
 have aY:=jd ad
 have aZ:=iX ad
 have a1:=jf ad
 have a2:=iY ad
 have a3:=jE ad
 have HB:=fX av;have HX:=fX ad
 clear aT av ad
 rw[hq]
 go_wp2_with fail
 refine(sK w1 Ap pn pc f k ((HR.out.below HB.out fZ).more HB.out.size)).mono ?_
 rintro e w2 ⟨rfl,aU⟩
 have al:gi w2 w.heap.size #[ae aj s,ae aj h,ae aj m,ai z,af Ah hn hc,af Aw wn wc,af Ap pn pc,ae aj k,ai false] 32:=HX.out.below aU HX.out.lt
 have aS:aR w.heap.size w w2:=HB.out.trans (aU.mono HB.out.size)
 have a4:=gV al
 have a5:=jH al
 have a6:=jd al
 have a7:=iX al
 have a8:=jf al
 have a9:=iY al
 have bd:=jE al
 have aV:=fX aS
 clear aU aS al
 rw[hp]
 go_wp2
 go_ret
 exact⟨rfl,aV.out⟩
theorem Jc(w:aq)(s h m:Int)(z:Bool)(Ah:Option au)(hn hc:Nat)(Aw:Option au)(wn wc:Nat)(Ap:Option au)(pn pc:Nat)(k:Int)(_:Bool)(f:Nat->Nat)(hr:gE w w.heap.size Ap pn f)(hq:ig s h m=true)(h2:(hn:Int)<=s)(h3:(wn:Int)<m)(hp:jz f pn k=true)(h5:k<=7)(h6:wn≠0):
  aw prog 41 #[ah #[ae aj s,ae aj h,ae aj m,ai z,af Ah hn hc,af Aw wn wc,af Ap pn pc,ae aj k,ai true]] w fun e w'=>e=ao (ai false)/\aR w.heap.size w w':=by
 have d2:decide (s<(hn:Int))=false:=decide_eq_false (by omega)
 have d3:decide (m<=(wn:Int))=false:=decide_eq_false (by omega)
 have d5:decide (7<k)=false:=decide_eq_false (by omega)
 have d6:((wn:Int)==0)=false:=by simp;omega
 clear h2 h3 h5 h6
 have HR:=fX hr
 clear hr
 go_enter func41,ntmps41
 go_wp2_with fail
 refine(pX _ s h m z).mono ?_
 rintro e w1 ⟨rfl,aT⟩
 have ad:gi w1 w.heap.size #[ae aj s,ae aj h,ae aj m,ai z,af Ah hn hc,af Aw wn wc,af Ap pn pc,ae aj k,ai true] 32:=(gi.new w _ _).below aT (by simp)
 have av:aR w.heap.size w w1:=(gC.alloc fZ _).trans (aT.mono (by simp))
 have aW:=gV ad
 have aX:=jH ad
 have aY:=jd ad
 have aZ:=iX ad
 have a1:=jf ad
 have a2:=iY ad
 have a3:=jE ad
 have HB:=fX av;have HX:=fX ad
 clear aT av ad
 rw[hq]
 go_wp2_with fail
 refine(sK w1 Ap pn pc f k ((HR.out.below HB.out fZ).more HB.out.size)).mono ?_
 rintro e w2 ⟨rfl,aU⟩
 have al:gi w2 w.heap.size #[ae aj s,ae aj h,ae aj m,ai z,af Ah hn hc,af Aw wn wc,af Ap pn pc,ae aj k,ai true] 32:=HX.out.below aU HX.out.lt
 have aS:aR w.heap.size w w2:=HB.out.trans (aU.mono HB.out.size)
 have a4:=gV al
 have a5:=jH al
 have a6:=jd al
 have a7:=iX al
 have a8:=jf al
 have a9:=iY al
 have bd:=jE al
 have aV:=fX aS
 clear aU aS al
 rw[hp]
 go_wp2
 go_ret
 exact⟨rfl,aV.out⟩
theorem Jd(w:aq)(s h m:Int)(z:Bool)(Ah:Option au)(hn hc:Nat)(Aw:Option au)(wn wc:Nat)(Ap:Option au)(pn pc:Nat)(k:Int)(_:Bool)(f:Nat->Nat)(hr:gE w w.heap.size Ap pn f)(hq:ig s h m=true)(h2:(hn:Int)<=s)(h3:(wn:Int)<m)(hp:jz f pn k=true)(h5:k<=7)(h6:wn=0)(h7:k≠0):
  aw prog 41 #[ah #[ae aj s,ae aj h,ae aj m,ai z,af Ah hn hc,af Aw wn wc,af Ap pn pc,ae aj k,ai true]] w fun e w'=>e=ao (ai false)/\aR w.heap.size w w':=by
 have d2:decide (s<(hn:Int))=false:=decide_eq_false (by omega)
 have d3:decide (m<=(wn:Int))=false:=decide_eq_false (by omega)
 have d5:decide (7<k)=false:=decide_eq_false (by omega)
 have d6:((wn:Int)==0)=true:=by simp;omega
 have d7:(k==0)=false:=by simp;omega
 clear h2 h3 h5 h6 h7
 have HR:=fX hr
 clear hr
 go_enter func41,ntmps41
 go_wp2_with fail
 refine(pX _ s h m z).mono ?_
 rintro e w1 ⟨rfl,aT⟩
 have ad:gi w1 w.heap.size #[ae aj s,ae aj h,ae aj m,ai z,af Ah hn hc,af Aw wn wc,af Ap pn pc,ae aj k,ai true] 32:=(gi.new w _ _).below aT (by simp)
 have av:aR w.heap.size w w1:=(gC.alloc fZ _).trans (aT.mono (by simp))
 have aW:=gV ad
 have aX:=jH ad
 have aY:=jd ad
 have aZ:=iX ad
 have a1:=jf ad
 have a2:=iY ad
 have a3:=jE ad
 have HB:=fX av;have HX:=fX ad
 clear aT av ad
 rw[hq]
 go_wp2_with fail
 refine(sK w1 Ap pn pc f k ((HR.out.below HB.out fZ).more HB.out.size)).mono ?_
 rintro e w2 ⟨rfl,aU⟩
 have al:gi w2 w.heap.size #[ae aj s,ae aj h,ae aj m,ai z,af Ah hn hc,af Aw wn wc,af Ap pn pc,ae aj k,ai true] 32:=HX.out.below aU HX.out.lt
 have aS:aR w.heap.size w w2:=HB.out.trans (aU.mono HB.out.size)
 have a4:=gV al
 have a5:=jH al
 have a6:=jd al
 have a7:=iX al
 have a8:=jf al
 have a9:=iY al
 have bd:=jE al
 have aV:=fX aS
 clear aU aS al
 rw[hp]
 go_wp2
 go_ret
 exact⟨rfl,aV.out⟩
theorem Je(w:aq)(s h m:Int)(z:Bool)(Ah:Option au)(hn hc:Nat)(Aw:Option au)(wn wc:Nat)(Ap:Option au)(pn pc:Nat)(k:Int)(_:Bool)(f:Nat->Nat)(hr:gE w w.heap.size Ap pn f)(hq:ig s h m=true)(h2:(hn:Int)<=s)(h3:(wn:Int)<m)(hp:jz f pn k=true)(_h5:k<=7)(h6:wn=0)(h7:k=0):
  aw prog 41 #[ah #[ae aj s,ae aj h,ae aj m,ai z,af Ah hn hc,af Aw wn wc,af Ap pn pc,ae aj k,ai true]] w fun e w'=>e=ao (ai true)/\aR w.heap.size w w':=by
 have d2:decide (s<(hn:Int))=false:=decide_eq_false (by omega)
 have d3:decide (m<=(wn:Int))=false:=decide_eq_false (by omega)
 have d5:decide (7<k)=false:=decide_eq_false (by omega)
 have d6:((wn:Int)==0)=true:=by simp;omega
 have d7:(k==0)=true:=by simp;omega
 clear h2 h3 _h5 h6 h7
 have HR:=fX hr
 clear hr
 go_enter func41,ntmps41
 go_wp2_with fail
 refine(pX _ s h m z).mono ?_
 rintro e w1 ⟨rfl,aT⟩
 have ad:gi w1 w.heap.size #[ae aj s,ae aj h,ae aj m,ai z,af Ah hn hc,af Aw wn wc,af Ap pn pc,ae aj k,ai true] 32:=(gi.new w _ _).below aT (by simp)
 have av:aR w.heap.size w w1:=(gC.alloc fZ _).trans (aT.mono (by simp))
 have aW:=gV ad
 have aX:=jH ad
 have aY:=jd ad
 have aZ:=iX ad
 have a1:=jf ad
 have a2:=iY ad
 have a3:=jE ad
 have HB:=fX av;have HX:=fX ad
 clear aT av ad
 rw[hq]
 go_wp2_with fail
 refine(sK w1 Ap pn pc f k ((HR.out.below HB.out fZ).more HB.out.size)).mono ?_
 rintro e w2 ⟨rfl,aU⟩
 have al:gi w2 w.heap.size #[ae aj s,ae aj h,ae aj m,ai z,af Ah hn hc,af Aw wn wc,af Ap pn pc,ae aj k,ai true] 32:=HX.out.below aU HX.out.lt
 have aS:aR w.heap.size w w2:=HB.out.trans (aU.mono HB.out.size)
 have a4:=gV al
 have a5:=jH al
 have a6:=jd al
 have a7:=iX al
 have a8:=jf al
 have a9:=iY al
 have bd:=jE al
 have aV:=fX aS
 clear aU aS al
 rw[hp]
 go_wp2
 go_ret
 exact⟨rfl,aV.out⟩
theorem Jf(w:aq)(s h m:Int)(z:Bool)(Ah:Option au)(hn hc:Nat)(Aw:Option au)(wn wc:Nat)(Ap:Option au)(pn pc:Nat)(k:Int)(ov:Bool)(f:Nat->Nat)(hr:gE w w.heap.size Ap pn f):
  aw prog 41 #[ah #[ae aj s,ae aj h,ae aj m,ai z,af Ah hn hc,af Aw wn wc,af Ap pn pc,ae aj k,ai ov]] w fun e w'=>e=ao (ai (lr (ig s h m) s m hn wn (jz f pn k) k ov))/\aR w.heap.size w w':=by
 have key:∀b,lr (ig s h m) s m hn wn (jz f pn k) k ov=b->aw prog 41 #[ah #[ae aj s,ae aj h,ae aj m,ai z,af Ah hn hc,af Aw wn wc,af Ap pn pc,ae aj k,ai ov]] w (fun e w'=>e=ao (ai b)/\aR w.heap.size w w')->aw prog 41 #[ah #[ae aj s,ae aj h,ae aj m,ai z,af Ah hn hc,af Aw wn wc,af Ap pn pc,ae aj k,ai ov]] w (fun e w'=>e=ao (ai (lr (ig s h m) s m hn wn (jz f pn k) k ov))/\aR w.heap.size w w'):=fun b hb hc=>by rw[hb];exact hc
 cases hq:ig s h m with
 |false=>rw[hq]at key;exact key false rfl (I6 w s h m z Ah hn hc Aw wn wc Ap pn pc k ov f hr hq)
 |true=>
  rw[hq]at key;by_cases h2:(hn:Int)<=s
  ·by_cases h3:(wn:Int)<m
   ·cases hp:jz f pn k with
    |false=>rw[hp]at key;exact key false (by simp[lr]) (I9 w s h m z Ah hn hc Aw wn wc Ap pn pc k ov f hr hq h2 h3 hp)
    |true=>
     rw[hp]at key;by_cases h5:k<=7
     ·cases ov with
      |false=>exact key true (by simp[lr,h2,h3,h5]) (Jb w s h m z Ah hn hc Aw wn wc Ap pn pc k false f hr hq h2 h3 hp h5)
      |true=>
       by_cases h6:wn=0
       ·by_cases h7:k=0
        ·exact key true (by simp[lr,h2,h6,h7];omega) (Je w s h m z Ah hn hc Aw wn wc Ap pn pc k true f hr hq h2 h3 hp h5 h6 h7)
        ·exact key false (by simp[lr,h7]) (Jd w s h m z Ah hn hc Aw wn wc Ap pn pc k true f hr hq h2 h3 hp h5 h6 h7)
       ·exact key false (by simp[lr,h6]) (Jc w s h m z Ah hn hc Aw wn wc Ap pn pc k true f hr hq h2 h3 hp h5 h6)
     ·exact key false (by simp[lr,h5]) (Ja w s h m z Ah hn hc Aw wn wc Ap pn pc k ov f hr hq h2 h3 hp (by omega))
   ·exact key false (by simp[lr,h3]) (I8 w s h m z Ah hn hc Aw wn wc Ap pn pc k ov f hr hq h2 (by omega))
  ·exact key false (by simp[lr,h2]) (I7 w s h m z Ah hn hc Aw wn wc Ap pn pc k ov f hr hq (by omega))
theorem Jg(w:aq)(p:gF)(Ah:Option au)(hc:Nat)(Aw:Option au)(wc:Nat)(Ap:Option au)(pc:Nat)(hp:gU w w.heap.size p Ah hc Aw wc Ap pc):
  aw prog 41 #[ah (gI p Ah hc Aw wc Ap pc)] w fun e w'=>e=ao (ai (oB p))/\aR w.heap.size w w':=
 Jf w p.s p.h p.m p.z Ah p.hist.length hc Aw p.wait.length wc Ap p.gm.length pc p.k p.gO (gj p.gm) hp.gm.1
theorem lu(p:gF)(Ah:Option au)(hc:Nat)(Aw:Option au)(wc:Nat)(Ap:Option au)(pc:Nat):(gI p Ah hc Aw wc Ap pc).all (·.oneCell')=true:=by simp[gI,Value.oneCell']
theorem CX(w:aq)(p:gF)(Ah:Option au)(hc:Nat)(Aw:Option au)(wc:Nat)(Ap:Option au)(pc:Nat)(hp:gU w w.heap.size p Ah hc Aw wc Ap pc):
  aw prog 37 #[ah (gI p Ah hc Aw wc Ap pc)] w fun e w'=>e=ao (ae aj (jN p))/\aR w.heap.size w w':=by
 obtain⟨X,hX⟩:=fY (gI p Ah hc Aw wc Ap pc)
 have aU:X.size=9:=by rw[hX];rfl
 have al:X[8]?=some (ai p.gO):=by rw[hX];rfl
 have ad:aR w.heap.size w (w.alloc (ak X 32)):=gC.alloc fZ _
 have av:gi (w.alloc (ak X 32)) w.heap.size X 32:=gi.new _ _ _
 have hm:=Jg (w.alloc (ak X 32)) p Ah hc Aw wc Ap pc (hp.on ad)
 rw[<-hX]at hm⊢
 obtain⟨W1,aS⟩:=fY (w.alloc (ak X 32))
 rw[<-aS]at ad av hm
 obtain⟨M,hM⟩:=fY (oB p)
 obtain⟨O,hO⟩:=fY (p.gO)
 have hC:jN p=if M=false then 8 else if O then 6 else 0:=by rw[hM,hO];rfl
 rw[hC]
 rw[<-hM]at hm
 rw[<-hO]at al
 have HM:=fX hm;have HW:=fX aS;have HX:=fX av;have HB:=fX ad;have aV:=fX aU;have aW:=fX al
 clear hm aS av ad aU al hX hC hM hO hp
 rcases M with _|_<;>rcases O with _|_<;>(
  go_enter func37,ntmps37
  go_wp2_with (first
   |(rw[<-HW.out];refine aE rfl _ _ rfl w.heap.size rfl _ X (0,0) _ HX.out underlying32 rfl (by rw[aV.out];exact gM) ?_)
   |fail)
  refine HM.out.mono ?_;rintro e w2 ⟨rfl,aT⟩;have c8:=((HX.out.below aT HX.out.lt).cell (i:=8)).trans aW.out;have aX:=fX (HB.out.trans (aT.mono HB.out.size));clear aT;go_wp2;go_ret;exact⟨rfl,aX.out⟩)
theorem xY{fn:Func}{p u:Tmp}(h:fn.results=#[.cell p 32,.tmp u])(tmps:Array ax)(w:aq)(g:Nat)(cs:Array ax)(hs:cs.size=9)(hp:tmps.getD p undef=ag (some ⟨g,0,none⟩))(ht:gi w g cs 32):
  (results fn tmps).run prog w=.ok (.tuple #[ah cs,tmps.getD u undef]) w:=by
 have ad:tmps[p]?.getD undef=ag (some ⟨g,0,none⟩):=by simpa using hp
 have hl:=run_loadVar_row (P:=prog) w g 32 32 cs (0,0) _ ht underlying32 rfl (by rw[hs];exact gM)
 simp[results,h,ad,asAddr,hl]
theorem Jh(w:aq)(B:Nat)(A:Option au)(n c:Nat)(f:Nat->Nat)(hr:gE w B A n f)(hn:n<=140737488355328)(ty:aB)(hA:A=none->c=0):
  ∃A' c' w',(Builtin.append_ #[22,22] ty #[af none 0 0,af A n c]).run prog w=.ok (af A' n c') w'/\
   w'.ownsRow w.heap.size 5 1 (af A' n c') n (gD n f)/\aR w.heap.size w w'/\gE w' w'.heap.size A' n f:=by
 obtain⟨i0,hi,av,aS,aT⟩:=info_parts oM
 have key:∃v' w',(Builtin.append_ #[22,22] ty #[af none 0 0,af A n c]).run prog w=.ok v' w'/\
   w'.ownsRow w.heap.size 5 1 v' n (gD n f)/\w.grownBy w' none:=by
  rcases A with _|ad
  ·have h0:n=0:=by
    rcases Nat.eq_zero_or_pos n with h|h
    ·exact h
    ·obtain⟨b,o,h,_⟩:=hr.2 h;cases h
   subst h0;obtain rfl:=hA rfl;exact⟨_,w,run_append_owned_none (P:=prog) (w:=w) w.heap.size 22 ty 5 i0 1 underlying22 hi (af none 0 0) 0 [] (World.ownsRow_nil w _ 5 1),World.ownsRow_nil w _ 5 1,World.grownBy.refl _ _⟩
  ·have al:∀j u,(gD n f)[j]?=some u->w.cell? (ad.add j)=some u:=by
    intro j u hu;rw[lH]at hu;by_cases hj:j<n
    ·rw[if_pos hj]at hu;injection hu with hu
     subst hu;obtain⟨b,o,h,_,hc⟩:=hr.2 (by omega);injection h with h
     subst h;have e:(⟨b,o,none⟩:au).add j=⟨b,o+j,none⟩:=by unfold Addr.add;split<;>simp_all
     rw[e];exact hc j hj
    ·rw[if_neg hj]at hu;cases hu
   obtain⟨v',w',h1,h2,h3,_,_⟩:=run_append_own_at (P:=prog) w w.heap.size 22 ty 5 i0 (ae .u8 0) 1 1 underlying22 hi av aS aT rfl (by decide)
    (af none 0 0) 0 [] (World.ownsRow_nil w _ 5 1) ad n c (gD n f) (by simp[gD]) al (sc n f) (by unfold maxLen;omega) (by omega) fZ
   rw[Nat.zero_add,List.nil_append]at h2;exact⟨v',w',h1,h2,h3⟩
 obtain⟨v',w',h1,h2,h3⟩:=key
 have hv:∃A' c',v'=af A' n c':=by
  rcases h2.2 with⟨rfl,rfl⟩|⟨g,cap,cur,rfl,_⟩
  ·exact⟨_,_,rfl⟩
  ·exact⟨_,_,rfl⟩
 obtain⟨A',c',rfl⟩:=hv
 exact⟨A',c',w',h1,h2,⟨h3.os,h3.tape,h3.output,h3.size,fun k hk=>h3.block k hk (by simp)⟩,gE.gR h2 hr.1⟩
theorem Ji{ops:Array aA}{o:aA}{a:Act}{w:aq}{K:Act->aq->Prop}{Q:Exit->Act->aq->Prop}{E:Prop}(al:o.guard=none)(s x:Operand)
  (ho:o.op=.call {callee:=.builtin .append,args:=#[s,x],argTypes:=#[22,22]}) (B:Nat) (A:Option au) (n c:Nat) (f:Nat->Nat) (hs:a.eval s=af none 0 0) (hx:a.eval x=af A n c)
  (hr:gE w B A n f) (hn:n<=140737488355328) (hA:A=none->c=0)
  (h:∀A' c' w',w'.ownsRow w.heap.size 5 1 (af A' n c') n (gD n f)->aR w.heap.size w w'->K (a.put o.dst (af A' n c')) w'):
  if Region.wanted o (aM ops a.tmps)=true then Oper.wp prog o a w K Q else E:=by
 have hw:Region.wanted o (aM ops a.tmps)=true:=by simp[Region.wanted,al]
 rw[if_pos hw]
 obtain⟨A',c',w',ad,h1,h2,_⟩:=Jh w B A n c f hr hn o.type hA
 unfold Oper.wp
 simp[execOp,ho,resolve,invoke,builtin,hs,hx,ad,Result.andThen]
 exact h A' c' w' h1 h2
theorem Jj(w:aq)(A:Option au)(n c:Nat)(f:Nat->Nat)(k:Int)(hr:gE w w.heap.size A n f)(hn:n<=140737488355328)(hA:A=none->c=0):
  aw prog 35 #[ah #[af A n c,ae aj k]] w fun e w'=>∃A' c',e=ao (ah #[af A' n c',ae aj k])/\w'.ownsRow w.heap.size 5 1 (af A' n c') n (gD n f)/\aR w.heap.size w w':=by
 have HR:=fX hr
 have HN:=fX hn
 have HA:=fX hA
 clear hr hA hn
 go_enter func35,ntmps35
 go_wp2
 go_region_law ((refine Ji rfl _ _ rfl _ A n c f rfl rfl (tA HR.out _ _).drew HN.out HA.out ?_;intro A' c' w4 ho hb;have HO:=fX ho;have HB:=fX (CB (hb.mono (B':=w.heap.size+1+1) (by simp)));clear ho hb;obtain⟨k2,k3,k4,k5,k6,k7⟩:=tz HB.out))
 all_goals(
  go_wp2;refine aK (v:=ah #[af A' n c',ae aj k]) (by simp[results,Tryz.results35,go_sem,k2,k3]) rfl ⟨A',c',rfl,?_,uV HB.out _ _⟩;exact s9 (ownsRow_setCell_below (ownsRow_setCell_below HO.out (a:=⟨w.heap.size+1,0,none⟩) (by simp) _) (a:=⟨w.heap.size+1,1,none⟩) (by simp) _) (by simp;omega))
theorem Jk{fn:Func}{p:Tmp}(h:fn.results=#[.cell p 32])(tmps:Array ax)(w:aq)(g:Nat)(cs:Array ax)(hs:cs.size=9)(hp:tmps.getD p undef=ag (some ⟨g,0,none⟩))(ht:gi w g cs 32):
  (results fn tmps).run prog w=.ok (ah cs) w:=by
 have ad:tmps[p]?.getD undef=ag (some ⟨g,0,none⟩):=by simpa using hp
 have hl:=run_loadVar_row (P:=prog) w g 32 32 cs (0,0) _ ht underlying32 rfl (by rw[hs];exact gM)
 simp[results,h,ad,asAddr,hl]
theorem xZ(w:aq)(p:gF)(Ah:Option au)(hc:Nat)(Aw:Option au)(wc:Nat)(Ap:Option au)(pc:Nat)(hp:gU w w.heap.size p Ah hc Aw wc Ap pc)(hl:p.hist.length<=1000000/\p.wait.length<=1000000/\p.gm.length<=140737488355328):
  aw prog 18 #[ah (gI p Ah hc Aw wc Ap pc)] w fun e w'=>∃bm bn bp bq br bt,e=ao (ah (gI p bm bn bp bq br bt))/\gU w' w'.heap.size p bm bn bp bq br bt/\aR w.heap.size w w':=by
 obtain⟨h,hh⟩:=fY (w.heap.size)
 obtain⟨X,hX⟩:=fY (gI p Ah hc Aw wc Ap pc)
 rw[<-hX]
 obtain⟨Z,hZ⟩:=fY (gI (lX 0 0 0 false) none 0 none 0 none 0)
 have hz:=(zero_of_info oC).1
 rw[<-hZ]at hz
 obtain⟨W1,aV⟩:=fY ((w.alloc (ak X 32)).alloc (ak Z 32))
 have b1:aR h w W1:=by rw[aV,hh];exact(gC.alloc fZ _).alloc (by simp) _
 have x1:gi W1 h X 32:=by rw[aV,hh];exact(gi.new w _ _).old _
 have y1:gi W1 (h+1) Z 32:=by
  rw[aV,hh];have:=gi.new (w.alloc (ak X 32)) Z 32
  rwa[World.size_alloc]at this
 have bF:=hp.on (hh▸b1)
 obtain⟨n1,a4⟩:=fY (p.hist.length)
 obtain⟨n2,aW⟩:=fY (p.wait.length)
 obtain⟨n3,aX⟩:=fY (p.gm.length)
 obtain⟨a5,bu,bx⟩:=bF
 rw[<-a4]at a5 hl;rw[<-aW]at bu hl;rw[<-aX]at bx hl
 have al:X=#[ae aj p.s,ae aj p.h,ae aj p.m,ai p.z,af Ah n1 hc,af Aw n2 wc,af Ap n3 pc,ae aj p.k,ai p.gO]:=by rw[hX,a4,aW,aX];rfl
 obtain⟨A1,c1,w1,a7,a8,ad,_⟩:=qS W1 W1.heap.size Ah n1 hc (gj p.hist) a5.1 (by omega) 22 a5.2.1
 have a9:h+1<W1.heap.size:=y1.lt
 have x2:gi w1 h X 32:=x1.below ad (by omega)
 have y2:gi w1 (h+1) Z 32:=y1.below ad a9
 obtain⟨W2,aS⟩:=fY (w1.setCell ⟨h,4,none⟩ (af A1 n1 c1))
 have b2:aR h w W2:=by rw[aS];exact jx (b1.trans (ad.mono (by omega))) fZ _ _
 have s2:W2.heap.size=w1.heap.size:=by rw[aS];simp[World.setCell]
 have x3:gi W2 h (X.setIfInBounds 4 (af A1 n1 c1)) 32:=by rw[aS];exact x2.set 4 _
 have y3:gi W2 (h+1) Z 32:=by rw[aS];exact y2.other (by show h+1≠h;omega) _
 have bG:aR W1.heap.size W1 w1:=ad
 have rd:∀{A:Option au} {n c:Nat} {f:Nat->Nat},gu w w.heap.size A n c f->∀{V:aq},aR h w V->gu V V.heap.size A n c f:=fun hr V hV=>(hr.below hV (by omega)).more (by have:=hV.size;omega)
 have aY:gu W2 W2.heap.size Aw n2 wc (gj p.wait):=by have:=rd hp.wait b2;rwa[<-aW]at this
 obtain⟨A2,c2,w2,bd,bf,aZ,_⟩:=qS W2 W2.heap.size Aw n2 wc (gj p.wait) aY.1 (by omega) 22 aY.2.1
 have x4:gi w2 h (X.setIfInBounds 4 (af A1 n1 c1)) 32:=x3.below aZ (by have:=ad.size;omega)
 have y4:gi w2 (h+1) Z 32:=y3.below aZ (by have:=ad.size;omega)
 obtain⟨W3,av⟩:=fY (w2.setCell ⟨h,5,none⟩ (af A2 n2 c2))
 have b3:aR h w W3:=by rw[av];exact jx (b2.trans (aZ.mono (by have:=ad.size;omega))) fZ _ _
 have s3:W3.heap.size=w2.heap.size:=by rw[av];simp[World.setCell]
 have x5:gi W3 h ((X.setIfInBounds 4 (af A1 n1 c1)).setIfInBounds 5 (af A2 n2 c2)) 32:=by rw[av];exact x4.set 5 _
 have y5:gi W3 (h+1) Z 32:=by rw[av];exact y4.other (by show h+1≠h;omega) _
 have a1:gu W3 W3.heap.size Ap n3 pc (gj p.gm):=by have:=rd hp.gm b3;rwa[<-aX]at this
 have bz:=Jj W3 Ap n3 pc (gj p.gm) p.k a1.1 (by omega) a1.2.1
 have q4:W1.cell? ⟨h,4,none⟩=some (af Ah n1 hc):=by rw[x1.cell,al];rfl
 have q5:W2.cell? ⟨h,5,none⟩=some (af Aw n2 wc):=by rw[x3.cell,al];rfl
 have bH:w1.cell? ⟨h,4,none⟩=some (af Ah n1 hc):=by rw[x2.cell,al];rfl
 have z4:w1.frozen? ⟨h,4,none⟩=false:=x2.free
 have r5:w2.cell? ⟨h,5,none⟩=some (af Aw n2 wc):=by rw[x4.cell,al];rfl
 have z5:w2.frozen? ⟨h,5,none⟩=false:=x4.free
 have r6:W3.cell? ⟨h,6,none⟩=some (af Ap n3 pc):=by rw[x5.cell,al];rfl
 have r7:W3.cell? ⟨h,7,none⟩=some (ae aj p.k):=by rw[x5.cell,al];rfl
 have bl:∀{L:List Nat} {V:aq} {B:Nat} {A:Option au} {n c:Nat},gu V B A n c (gj L)->∀j,gj L j<256:=fun h j=>h.1.1 j
 have Y1:iB W3 (h+2) A1 n1 c1 (gj p.hist):=by
  have a:=iB.gR a8 (bl hp.hist);have a2:iB W2 (h+2) A1 n1 c1 (gj p.hist):=by rw[aS];exact(a.mono (by omega)).set (by omega) _ _
  rw[av];exact(a2.below aZ).set (by omega) _ _
 have Y2:iB W3 (h+2) A2 n2 c2 (gj p.wait):=by
  have a:=iB.gR bf (bl hp.wait);rw[av];exact(a.mono (by have:=ad.size;omega)).set (by omega) _ _
 have bI:aQ (Z.size=9):=fX (by rw[hZ];rfl)
 have bA:=fX x5;have bB:=fX y5;have bJ:=fX b3;have bK:=fX bz;have bL:=fX Y1;have bM:=fX Y2;have bN:=fX aV;have bO:=fX aS;have bP:=fX av;have bC:=fX a7;have bD:=fX bd;have bk:=fX al;have BL:=fX (bl hp.gm)
 have E1:=fX a4;have E2:=fX aW;have E3:=fX aX;have HH:=fX hh;have bE:aQ (h+2<=W3.heap.size):=fX (by have:=y5.lt;omega)
 clear Y1 Y2 bl hp x1 y1 x2 y2 x3 y3 x4 y4 x5 y5 ad aZ b1 b2 b3 bG s2 s3 a5 bu bx aY a1 a8 bf rd aV aS av a7 bd bz hl a9 hZ al hX a4 aW aX hh
 go_enter func18,ntmps18
 go_wp2_with (first
  |(rw[<-bN.out,<-HH.out])
  |(rw[<-bO.out])
  |(rw[<-bP.out])
  |(at_builtin;refine wpList_append_run rfl (.const (af none 0 0)) (.tmp 4) 22 rfl (af none 0 0) (af Ah n1 hc) (af A1 n1 c1) w1 rfl rfl bC.out ?_)
  |(at_builtin;refine wpList_append_run rfl (.const (af none 0 0)) (.tmp 8) 22 rfl (af none 0 0) (af Aw n2 wc) (af A2 n2 c2) w2 rfl rfl bD.out ?_)
  |fail)
 refine bK.out.mono ?_
 rintro e w4 ⟨A3,c3,rfl,bg,aT⟩
 have y3:=(iB.gR bg BL.out).mono bE.out
 have y1:=bL.out.below aT
 have y2:=bM.out.below aT
 have x6:=bA.out.below aT bA.out.lt
 have z6:=bB.out.below aT bB.out.lt
 have bj:=bJ.out.trans (aT.mono (by have:=bE.out;omega))
 have s6:w4.cell? ⟨h,6,none⟩=some (af Ap n3 pc):=by rw[x6.cell,bk.out];rfl
 have s7:w4.cell? ⟨h,7,none⟩=some (ae aj p.k):=by rw[x6.cell,bk.out];rfl
 have f6:w4.frozen? ⟨h,6,none⟩=false:=x6.free
 have f7:w4.frozen? ⟨h,7,none⟩=false:=x6.free
 obtain⟨W5,aU⟩:=fY ((w4.setCell ⟨h,6,none⟩ (af A3 n3 c3)).setCell ⟨h,7,none⟩ (ae aj p.k))
 obtain⟨Y,hY⟩:=fY (gI p A1 c1 A2 c2 A3 c3)
 have x7:gi W5 h Y 32:=by
  have a:=(x6.set 6 (af A3 n3 c3)).set 7 (ae aj p.k);rw[bk.out]at a;rw[aU,hY];unfold gI;rw[<-E1.out,<-E2.out,<-E3.out];exact a
 have z7:gi W5 (h+1) Z 32:=by rw[aU];exact(z6.other (by show h+1≠h;omega) _).other (by show h+1≠h;omega) _
 obtain⟨W6,a3⟩:=fY (W5.setRow (h+1) Y)
 have bQ:aQ (gi W6 (h+1) Y 32):=fX (by rw[a3];exact z7.row Y)
 have bR:aQ (aR h w W6):=fX (by rw[a3,aU];exact jU (jx (jx bj fZ _ _) fZ _ _) (by omega) _)
 have bS:aQ (gU W6 W6.heap.size p A1 c1 A2 c2 A3 c3):=fX (by
  have k:∀{A:Option au} {n c:Nat} {f:Nat->Nat},iB w4 (h+2) A n c f->gu W6 W6.heap.size A n c f:=fun a=>by
   rw[a3,aU];exact(((a.set (by omega) _ _).set (by omega) _ _).row (by omega) _).rd
  exact⟨by rw[<-E1.out];exact k y1,by rw[<-E2.out];exact k y2,by rw[<-E3.out];exact k y3⟩)
 have a6:aQ (Y.size=9):=fX (by rw[hY];rfl)
 have bT:aQ (Y.all (·.oneCell')=true):=fX (by rw[hY];exact lu ..)
 have bU:=fX aU;have bV:=fX a3;have bW:=fX x7;have bX:=fX z7;have bY:=fX hY
 clear aU a3 x7 z7 hY y1 y2 y3 x6 z6 bj aT bg q4 q5 bH z4 r5 z5 r6 r7
 go_wp2_with (first
  |(rw[<-bU.out])
  |(refine aE rfl _ _ rfl h rfl _ Y (0,0) _ bW.out underlying32 rfl (by rw[a6.out];exact gM) ?_)
  |(refine wpList_store_rowTo rfl _ _ _ rfl rfl (h+1) Y rfl rfl 32 Z bX.out (by rw[a6.out];exact gM) (by rw[bI.out,a6.out]) bT.out ?_;rw[<-bV.out])
  |fail)
 refine aK (Jk rfl _ _ (h+1) Y a6.out rfl bQ.out) rfl ?_
 exact⟨A1,c1,A2,c2,A3,c3,by rw[bY.out],bS.out,by rw[<-HH.out];exact bR.out⟩
theorem CY{a j:Nat}(hj:j<=jl a):((a+3+j)%8≠0)↔j<jl a:=by unfold jl at*;omega
theorem CZ(j:Nat):List.replicate j ((0,1):Nat×Nat)++[(0,1)]=List.replicate (j+1) (0,1):=(List.replicate_succ').symm
theorem Jl(w:aq)(a k:Nat)(A:Option au)(n c:Nat)(r:Nat->Nat)(A2:Option au)(m c2:Nat)(l:List gA)(ha:a<=7)(hk:k<=2)(hr:gE w w.heap.size A n r)(hn:n<=65535)(hm:m=l.length)(b2:jL w w.heap.size A2 l)(dd:m<=65535)(cj:∀t∈l,gS t=true/\t.x<256):
  aw prog 73 #[ae aj (a:Int),ae .u8 (k:Int),af A n c,af A2 m c2,ai true] w fun e w'=>∃A' n' c',e=ao (af A' n' c')/\kF w' w'.heap.size A' n' c' (gN a k n r l true)/\aR w.heap.size w w':=by
 have mk:(k:Int)%4294967296=(k:Int):=by omega
 have wk:IntKind.u32.wrap (k:Int)=(k:Int):=by rw[IntKind.wrap_u32];omega
 obtain⟨W1,bD⟩:=fY (w.alloc (ak #[ae .u32 1,ae aj 1,ae .u32 (k:Int),ae aj 2] 150))
 have ck:W1.ownsRow w.heap.size 150 2 (af (some ⟨w.heap.size,0,none⟩) 2 2) 2 (PA [(1,1),(k,2)]):=by rw[bD];exact xH w [(1,1),(k,2)] 2 rfl (by omega) #[ae .u32 1,ae aj 1,ae .u32 (k:Int),ae aj 2] rfl
 have bE:aR w.heap.size w W1:=by rw[bD];exact gC.alloc fZ _
 have cl:l.length<=100000:=by omega
 have bF:=fX bD;have bd:=fX ck;have bf:=fX bE;have HR:=fX hr;have HM:=fX hm;have HT:=fX b2;have b3:=fX cj;have bg:=fX cl
 have bM:=(b2.below bE fZ).more bE.size
 have cm:=fX bM
 clear bD ck bE hr hm b2 cj cl bM
 by_cases k1:k=1
 ·have d1:((k:Int)==1)=true:=by simp[k1]
  have ad:gN a k n r l true=[(1,1),(k,2)]++jh jG 288 kW 32 l:=by unfold gN;rw[if_pos k1];rfl
  have aU:=fX ad;clear ad k1;go_enter func73,ntmps73
  go_wp2_with (first
   |(refine aD rfl 150 #[(0,.const (ae .u32 0)),(1,.const (ae aj 1))] rfl (some 17) rfl #[ae .u32 0,ae aj 1] ?_ ?_;focus(simpa[Act.eval]using kf 0 1))
   |(refine aD rfl 150 #[(0,.tmp 19),(1,.const (ae aj 2))] rfl (some 20) rfl #[ae .u32 (k:Int),ae aj 2] ?_ ?_;focus(simpa[Act.eval]using kf (k:Int) 2))
   |fail)
  rw[<-bF.out];refine(BM W1).mono ?_;rintro e w2 ⟨rfl,a3,aV⟩;obtain⟨g1,cn⟩:=fY (W1.heap.size);rw[<-cn]at a3⊢;have bj:=fX a3;have bG:=fX aV
  clear a3 aV cn;go_wp2_with fail
  refine(BJ w2).mono ?_;rintro e w3 ⟨rfl,a4,aS⟩;have bk:=bj.out.below aS bj.out.lt;obtain⟨g2,cp⟩:=fY (w2.heap.size);rw[<-cp]at a4⊢;have a6:aR W1.heap.size W1 w3:=bG.out.trans (aS.mono bG.out.size);have a8:=uP w3 A2 m c2 l (some ⟨g1,0,none⟩) 288 288 jG (some ⟨g2,0,none⟩) 32 32 kW HM.out ((cm.out.below a6 fZ).more a6.size) (bk.rd (fun j=>by have:=rC j;omega)) (a4.rd (fun j=>by have:=rD j;omega)) (by omega) (by omega) (by omega) rC rD Cr Cs (by omega) (Ct b3.out);have b4:=fX a8;have bN:=fX a6
  clear a8 a6 bk a4 aS cp;go_wp2_with fail
  refine b4.out.mono ?_;rintro e w4 ⟨A4,n4,c4,rfl,al,a9⟩;have bl:aR W1.heap.size W1 w4:=bN.out.trans (a9.mono bN.out.size);have aT:aR w.heap.size w w4:=bf.out.trans (bl.mono bf.out.size);have hlen:=sG jG 288 kW 32 l;have b5:=al.1;obtain⟨A',c',w5,aX,av,bm,-⟩:=sH w4 w.heap.size w4.heap.size (some ⟨w.heap.size,0,none⟩) 2 2 _ (lF bd.out bl) A4 n4 c4 _ al.1 al.2.1 al.2.2.1 (by have:=bg.out;omega) aT.size;rw[<-aU.out]at av;have bn:=fX aX;have HN:=fX (kF.gR av);have aY:=fX (aT.trans bm)
  clear aX av bm aT bl hlen b5 al a9;go_wp2_with (at_builtin;refine wpList_append_run rfl (.tmp 28) (.tmp 32) 111 rfl (af (some ⟨w.heap.size,0,none⟩) 2 2) (af A4 n4 c4) (af A' (2+n4) c') w5 rfl rfl bn.out ?_)
  go_ret;exact⟨A',2+n4,c',rfl,HN.out,aY.out⟩
 have d1:((k:Int)==1)=false:=by simp;omega
 by_cases k2:k=2
 ·have d2:((k:Int)==2)=true:=by simp[k2]
  have ad:gN a k n r l true=([(1,1),(k,2)]++kM l)++jh (iP l) (nA l) (iS l) (nB l) l:=by unfold gN;rw[if_neg k1,if_pos k2,List.append_assoc];rfl
  have aU:=fX ad;have bH:=Cq W1 A2 m c2 l HM.out cm.out (by omega) b3.out;have b6:=xK l bg.out;obtain⟨bO,bP,bp,bq,cL,cM,cN,cO,-⟩:=mB l (by have:=bg.out;omega);have bQ:=Cu bg.out b3.out;have bR:=fX bO;have bS:=fX bP;have br:=fX bp;have bt:=fX bq;have bT:=fX bQ
  have b7:=sG (iP l) (nA l) (iS l) (nB l) l;obtain⟨TP,bI⟩:=fY (jh (iP l) (nA l) (iS l) (nB l) l);obtain⟨DP,cq⟩:=fY (kM l);rw[<-cq]at bH b6 ad;rw[<-bI]at b7 ad;have cP:=fX b7;obtain⟨FA,bJ⟩:=fY (iP l);obtain⟨FB,bK⟩:=fY (iS l);obtain⟨NA,bu⟩:=fY (nA l);obtain⟨NB,bx⟩:=fY (nB l);rw[<-bJ,<-bK,<-bu,<-bx]at bH bI;rw[<-bJ]at bR;rw[<-bK]at bS;rw[<-bJ,<-bu]at br;rw[<-bK,<-bx]at bt;rw[<-bu,<-bx]at bT;rw[<-bu]at cL cM;rw[<-bx]at cN cO;have aU:=fX ad;have cQ:=fX bH;have cr:=fX bI;have cu:=fX b6
  clear ad k1 k2 bH bI b7 bO bP bp bq bQ bJ bK bu bx cq b6;go_enter func73,ntmps73
  go_wp2_with (first
   |(refine aD rfl 150 #[(0,.const (ae .u32 0)),(1,.const (ae aj 1))] rfl (some 17) rfl #[ae .u32 0,ae aj 1] ?_ ?_;focus(simpa[Act.eval]using kf 0 1))
   |(refine aD rfl 150 #[(0,.tmp 19),(1,.const (ae aj 2))] rfl (some 20) rfl #[ae .u32 (k:Int),ae aj 2] ?_ ?_;focus(simpa[Act.eval]using kf (k:Int) 2))
   |fail)
  rw[<-bF.out];refine cQ.out.mono ?_;rintro e w2 ⟨ga,gb,cv,n2,cw,rfl,b8,b9,al,aV,cx,cy⟩;have bz:aR w.heap.size w w2:=bf.out.trans (aV.mono bf.out.size);have cR:=al.1;obtain⟨A3,c3,w3,aZ,a1,aS,a5⟩:=sH w2 w.heap.size w2.heap.size (some ⟨w.heap.size,0,none⟩) 2 2 _ (lF bd.out aV) cv n2 cw _ al.1 al.2.1 al.2.2.1 (by have:=cu.out;omega) bz.size;have bU:ga<w2.heap.size:=by
   obtain⟨b,o,e,h,_⟩:=b8.2 (by omega);injection e with e
   injection e with e1 _ _
   rw[e1];exact h
  have bV:gb<w2.heap.size:=by
   obtain⟨b,o,e,h,_⟩:=b9.2 (by omega);injection e with e
   injection e with e1 _ _
   rw[e1];exact h
  have bW:gE w3 w3.heap.size (some ⟨ga,0,none⟩) NA FA:=b8.keep (a5 ga bU (uS bd.out cx)) (by have:=aS.size;omega);have bX:gE w3 w3.heap.size (some ⟨gb,0,none⟩) NB FB:=b9.keep (a5 gb bV (uS bd.out cy)) (by have:=aS.size;omega);have a7:aR w.heap.size w w3:=bz.trans aS;have a8:=uP w3 A2 m c2 l (some ⟨ga,0,none⟩) NA 286 FA (some ⟨gb,0,none⟩) NB 30 FB HM.out ((HT.out.below a7 fZ).more a7.size) bW bX (by omega) (by omega) (by omega) bR.out bS.out br.out bt.out (by omega) bT.out;rw[<-cr.out]at a8;have b4:=fX a8;have bA:=fX aZ;have a2:=fX a1;have bY:=fX a7
  have c9:n2<=700:=by have:=cu.out;omega
  clear a8 aZ a1 a7 aS a5 bU bV bW bX bz b8 b9 al aV cx cy cR;go_wp2_with (first
   |(at_builtin;refine wpList_append_run rfl (.tmp 42) (.tmp 43) 111 rfl (af (some ⟨w.heap.size,0,none⟩) 2 2) (af cv n2 cw) (af A3 (2+n2) c3) w3 rfl rfl bA.out ?_)
   |fail)
  refine b4.out.mono ?_;rintro e w4 ⟨A4,n4,c4,rfl,al,a9⟩;have aT:aR w.heap.size w w4:=bY.out.trans (a9.mono bY.out.size);have b5:=al.1;obtain⟨A',c',w5,aX,av,bm,-⟩:=sH w4 w.heap.size w4.heap.size A3 (2+n2) c3 _ (lF a2.out a9) A4 n4 c4 _ al.1 al.2.1 al.2.2.1 (by have:=bg.out;have:=cP.out;omega) aT.size;rw[<-aU.out]at av;have bn:=fX aX;have HN:=fX (kF.gR av);have aY:=fX (aT.trans bm)
  clear aX av bm aT b5 al a9;go_wp2_with (at_builtin;refine wpList_append_run rfl (.tmp 45) (.tmp 49) 111 rfl (af A3 (2+n2) c3) (af A4 n4 c4) (af A' (2+n2+n4) c') w5 rfl rfl bn.out ?_)
  go_ret;exact⟨A',2+n2+n4,c',rfl,HN.out,aY.out⟩
 have d2:((k:Int)==2)=false:=by simp;omega
 have ad:gN a k n r l true=(([(1,1),(k,2)]++List.replicate (jl a) (0,1))++[(n,16),(65535-n,16)])++((List.range n).map fun i=>(r i,8)):=by unfold gN qx;rw[if_neg k1,if_neg k2];simp only[List.append_assoc];rfl
 have cz:jl a<=7:=by unfold jl;omega
 have aW:∀j,j<=jl a->((a+3+j)%8≠0↔j<jl a):=fun j hj=>CY hj
 obtain⟨PD,cA⟩:=fY (jl a)
 rw[<-cA]at ad cz aW
 have aU:=fX ad;have cS:=fX aW
 have mn:(n:Int)%4294967296=(n:Int):=by omega
 have wn:IntKind.u32.wrap (n:Int)=(n:Int):=by rw[IntKind.wrap_u32];omega
 obtain⟨z,hz⟩:=fY (65535-n)
 have ez:(65535:Int)-(n:Int)=(z:Int):=by omega
 have mz:(z:Int)%4294967296=(z:Int):=by omega
 have wz:IntKind.u32.wrap (z:Int)=(z:Int):=by rw[IntKind.wrap_u32];omega
 have HZ:=fX hz
 obtain⟨s,hs⟩:=fY (a+3)
 have es:(a:Int)+3=(s:Int):=by omega
 have HS:=fX hs
 have da:s<=10:=by omega
 clear ad aW k1 k2 cA hz hs
 go_enter func73,ntmps73
 go_wp2_with (first
  |(refine aD rfl 150 #[(0,.const (ae .u32 0)),(1,.const (ae aj 1))] rfl (some 17) rfl #[ae .u32 0,ae aj 1] ?_ ?_;focus(simpa[Act.eval]using kf 0 1))
  |(refine aD rfl 150 #[(0,.tmp 19),(1,.const (ae aj 2))] rfl (some 20) rfl #[ae .u32 (k:Int),ae aj 2] ?_ ?_;focus(simpa[Act.eval]using kf (k:Int) 2))
  |fail)
 go_loopw [11,15] (fun ov iv wr=>∃(j p i:Nat) (At:Option au) (ct:Nat),j<=PD/\p=2+j/\i=s+j/\ov=af At p ct/\iv=ae aj (i:Int)/\aQ (wr.ownsRow w.heap.size 150 2 (af At p ct) p (PA ([(1,1),(k,2)]++List.replicate j (0,1))))/\aQ (aR w.heap.size w wr)) (fun _ iv _=>s+PD-(aP iv).toNat)
 case atStart=>exact⟨0,2,s,some ⟨w.heap.size,0,none⟩,2,Nat.zero_le _,rfl,rfl,rfl,rfl,fX (by rw[<-bF.out];exact bd.out),fX (by rw[<-bF.out];exact bf.out)⟩
 case round=>
  obtain⟨j,p,i,At,ct,hj,hp,hi,rfl,rfl,HO,HB⟩:=hrel;have aW:=cS.out j hj;rw[<-HS.out,<-hi]at aW;have de:p<=9:=by omega
  have HP:=fX hp;have HI:=fX hi
  have db:i<=17:=by omega
  by_cases cB:j<PD
  ·have cT:=aW.2 cB;have dn:(((i:Int)%8) !=0)=true:=by simp;omega
   obtain⟨A',c',w',bk,ca,aV⟩:=rr wr w.heap.size At p ct _ HO.out (0,1) (by omega) HB.out.size;rw[List.append_assoc,CZ]at ca;have cU:=fX (show(Builtin.append_ #[111,111] 111 #[af At p ct,af (some ⟨wr.heap.size,0,none⟩) 1 1]).run prog (wr.alloc (ak #[ae .u32 0,ae aj 1] 150))=.ok (af A' (p+1) c') w' from bk);have cV:=fX ca;have bG:=fX (HB.out.trans aV)
   have cC:p+1=2+(j+1):=by omega
   have cD:i+1=s+(j+1):=by omega
   have cW:=fX cC;have cX:=fX cD
   have cb:s+PD-(i+1)<s+PD-i:=by omega
   clear bk ca aV cC cD aW cT hp hi;go_wp2_with (first
    |(refine aD rfl 150 #[(0,.const (ae .u32 0)),(1,.const (ae aj 1))] rfl (some 59) rfl #[ae .u32 0,ae aj 1] ?_ ?_;focus(simpa[Act.eval]using kf 0 1))
    |(at_builtin;refine wpList_append_run rfl (.tmp 58) (.tmp 60) 111 rfl (af At p ct) (af (some ⟨wr.heap.size,0,none⟩) 1 1) (af A' (p+1) c') w' rfl rfl cU.out ?_))
   go_roundw
   case rel=>exact⟨j+1,p+1,i+1,A',c',by omega,cW.out,cX.out,rfl,by go_num,cV,bG⟩
   case measure=>simpa[aP]using cb
  ·obtain rfl:j=PD:=by omega
   have heq:i%8=0:=by
    rcases Nat.eq_zero_or_pos (i%8)with h|h
    ·exact h
    ·exact absurd (aW.1 (by omega)) (by omega)
   have dn:(((i:Int)%8) !=0)=false:=by simp;omega
   obtain⟨A3,c3,w3,aZ,a1,aS⟩:=xn wr w.heap.size At p ct _ HO.out [(n,16),(z,16)] 2 rfl #[ae .u32 (n:Int),ae aj 16,ae .u32 (z:Int),ae aj 16] rfl (by omega) HB.out.size;have bA:=fX aZ;have cY:=fX (HB.out.trans aS)
   have bB:w3.ownsRow w.heap.size 150 2 (af A3 (p+2) c3) (p+2) (PA ((([(1,1),(k,2)]++List.replicate j (0,1))++[(n,16),(z,16)])++((List.range 0).map fun i=>(r i,8)))):=by
    rw[List.range_zero,List.map_nil,List.append_nil];exact a1
   have a2:=fX bB;have ad:=aU.out;rw[<-HZ.out]at ad;obtain⟨L1,cE⟩:=fY (([(1,1),(k,2)]++List.replicate j (0,1))++[(n,16),(z,16)]);rw[<-cE]at a2 ad;have cf:=fX ad;clear aZ a1 bB aS heq aW cB cE ad hp hi;go_wp2_with (first
    |(refine aD rfl 150 #[(0,.tmp 65),(1,.const (ae aj 16))] rfl (some 66) rfl #[ae .u32 (n:Int),ae aj 16] ?_ ?_;focus(simpa[Act.eval]using kf (n:Int) 16))
    |(refine aD rfl 150 #[(0,.tmp 70),(1,.const (ae aj 16))] rfl (some 71) rfl #[ae .u32 (z:Int),ae aj 16] ?_ ?_;focus(simpa[Act.eval]using kf (z:Int) 16))
    |(at_builtin;refine wpList_append_run rfl (.tmp 62) (.tmp 72) 111 rfl (af At p ct) (af (some ⟨wr.heap.size,0,none⟩) 2 2) (af A3 (p+2) c3) w3 rfl rfl bA.out ?_))
   obtain⟨q0,cF⟩:=fY (p+2);have dc:q0<=11:=by omega
   rw[<-cF]at a2⊢;clear cF;go_loopw [11,16] (fun ov iv wr=>∃(i p:Nat) (At:Option au) (ct:Nat),i<=n/\p=q0+i/\ov=af At p ct/\iv=ae aj (i:Int)/\aQ (wr.ownsRow w.heap.size 150 2 (af At p ct) p (PA (L1++((List.range i).map fun i=>(r i,8)))))/\aQ (aR w.heap.size w wr)) (fun _ iv _=>n-(aP iv).toNat)
   case atStart=>exact⟨0,q0,A3,c3,Nat.zero_le _,rfl,rfl,rfl,a2,cY⟩
   case round=>
    obtain⟨i5,p5,A5,c5,df,cG,rfl,rfl,cH,aY⟩:=hrel;by_cases bZ:i5<n
    ·have cg:(i5:Int)<(n:Int):=by omega
     obtain⟨b,o,rfl,_,cI⟩:=(HR.out.below aY.out fZ).2 (by omega);have c0:=cI i5 bZ;have cZ:=HR.out.1 i5;obtain⟨A',c',w',bL,ch,b0⟩:=rr wr w.heap.size A5 p5 c5 _ cH.out (r i5,8) (by omega) aY.out.size;have bC:(L1++((List.range i5).map fun i=>(r i,8)))++[(r i5,8)]=L1++((List.range (i5+1)).map fun i=>(r i,8)):=by
      rw[List.range_succ,List.map_append,List.append_assoc];rfl
     rw[bC]at ch;obtain⟨x,hx⟩:=fY (r i5);dsimp only at bL;rw[<-hx]at c0 bL cZ;have c7:=fX (show(Builtin.append_ #[111,111] 111 #[af A5 p5 c5,af (some ⟨wr.heap.size,0,none⟩) 1 1]).run prog (wr.alloc (ak #[ae .u32 (x:Int),ae aj 8] 150))=.ok (af A' (p5+1) c') w' from bL);have cJ:=fX ch;have cK:=fX (aY.out.trans b0)
     have wx:IntKind.u32.wrap (x:Int)=(x:Int):=by rw[IntKind.wrap_u32];omega
     have mx:(x:Int)%4294967296=(x:Int):=by omega
     have b1:p5+1=q0+(i5+1):=by omega
     have c8:=fX b1;clear bL ch b0 bC hx cI b1 cG;go_wp2_with (first
      |(refine aD rfl 150 #[(0,.tmp 85),(1,.const (ae aj 8))] rfl (some 86) rfl #[ae .u32 (x:Int),ae aj 8] ?_ ?_;focus(simpa[Act.eval]using kf (x:Int) 8))
      |(at_builtin;refine wpList_append_run rfl (.tmp 80) (.tmp 87) 111 rfl (af A5 p5 c5) (af (some ⟨wr.heap.size,0,none⟩) 1 1) (af A' (p5+1) c') w' rfl rfl c7.out ?_))
     go_roundw
     case rel=>exact⟨i5+1,p5+1,A',c',by omega,c8.out,rfl,by go_num,cJ,cK⟩
     case measure=>simp[aP];omega
    ·obtain rfl:i5=n:=by omega
     have cg:¬(i5:Int)<(i5:Int):=by omega
     have av:=cH.out;rw[<-cf.out]at av;have HN:=fX (kF.gR av);clear av cG bZ;go_wp2;go_ret;exact⟨A5,p5,c5,rfl,HN.out,aY.out⟩
theorem Jm(w:aq)(a k:Nat)(A:Option au)(n c:Nat)(r:Nat->Nat)(A2:Option au)(m c2:Nat)(l:List gA)(ha:a<=7)(hk:k<=2)(hr:gE w w.heap.size A n r)(hn:n<=65535)(hm:m=l.length)(b2:jL w w.heap.size A2 l)(dd:m<=65535)(cj:∀t∈l,gS t=true/\t.x<256):
  aw prog 73 #[ae aj (a:Int),ae .u8 (k:Int),af A n c,af A2 m c2,ai false] w fun e w'=>∃A' n' c',e=ao (af A' n' c')/\kF w' w'.heap.size A' n' c' (gN a k n r l false)/\aR w.heap.size w w':=by
 have mk:(k:Int)%4294967296=(k:Int):=by omega
 have wk:IntKind.u32.wrap (k:Int)=(k:Int):=by rw[IntKind.wrap_u32];omega
 obtain⟨W1,bD⟩:=fY (w.alloc (ak #[ae .u32 0,ae aj 1,ae .u32 (k:Int),ae aj 2] 150))
 have ck:W1.ownsRow w.heap.size 150 2 (af (some ⟨w.heap.size,0,none⟩) 2 2) 2 (PA [(0,1),(k,2)]):=by rw[bD];exact xH w [(0,1),(k,2)] 2 rfl (by omega) #[ae .u32 0,ae aj 1,ae .u32 (k:Int),ae aj 2] rfl
 have bE:aR w.heap.size w W1:=by rw[bD];exact gC.alloc fZ _
 have cl:l.length<=100000:=by omega
 have bF:=fX bD;have bd:=fX ck;have bf:=fX bE;have HR:=fX hr;have HM:=fX hm;have HT:=fX b2;have b3:=fX cj;have bg:=fX cl
 have bM:=(b2.below bE fZ).more bE.size
 have cm:=fX bM
 clear bD ck bE hr hm b2 cj cl bM
 by_cases k1:k=1
 ·have d1:((k:Int)==1)=true:=by simp[k1]
  have ad:gN a k n r l false=[(0,1),(k,2)]++jh jG 288 kW 32 l:=by unfold gN;rw[if_pos k1];rfl
  have aU:=fX ad;clear ad k1;go_enter func73,ntmps73
  go_wp2_with (first
   |(refine aD rfl 150 #[(0,.const (ae .u32 0)),(1,.const (ae aj 1))] rfl (some 17) rfl #[ae .u32 0,ae aj 1] ?_ ?_;focus(simpa[Act.eval]using kf 0 1))
   |(refine aD rfl 150 #[(0,.tmp 19),(1,.const (ae aj 2))] rfl (some 20) rfl #[ae .u32 (k:Int),ae aj 2] ?_ ?_;focus(simpa[Act.eval]using kf (k:Int) 2))
   |fail)
  rw[<-bF.out];refine(BM W1).mono ?_;rintro e w2 ⟨rfl,a3,aV⟩;obtain⟨g1,cn⟩:=fY (W1.heap.size);rw[<-cn]at a3⊢;have bj:=fX a3;have bG:=fX aV
  clear a3 aV cn;go_wp2_with fail
  refine(BJ w2).mono ?_;rintro e w3 ⟨rfl,a4,aS⟩;have bk:=bj.out.below aS bj.out.lt;obtain⟨g2,cp⟩:=fY (w2.heap.size);rw[<-cp]at a4⊢;have a6:aR W1.heap.size W1 w3:=bG.out.trans (aS.mono bG.out.size);have a8:=uP w3 A2 m c2 l (some ⟨g1,0,none⟩) 288 288 jG (some ⟨g2,0,none⟩) 32 32 kW HM.out ((cm.out.below a6 fZ).more a6.size) (bk.rd (fun j=>by have:=rC j;omega)) (a4.rd (fun j=>by have:=rD j;omega)) (by omega) (by omega) (by omega) rC rD Cr Cs (by omega) (Ct b3.out);have b4:=fX a8;have bN:=fX a6
  clear a8 a6 bk a4 aS cp;go_wp2_with fail
  refine b4.out.mono ?_;rintro e w4 ⟨A4,n4,c4,rfl,al,a9⟩;have bl:aR W1.heap.size W1 w4:=bN.out.trans (a9.mono bN.out.size);have aT:aR w.heap.size w w4:=bf.out.trans (bl.mono bf.out.size);have hlen:=sG jG 288 kW 32 l;have b5:=al.1;obtain⟨A',c',w5,aX,av,bm,-⟩:=sH w4 w.heap.size w4.heap.size (some ⟨w.heap.size,0,none⟩) 2 2 _ (lF bd.out bl) A4 n4 c4 _ al.1 al.2.1 al.2.2.1 (by have:=bg.out;omega) aT.size;rw[<-aU.out]at av;have bn:=fX aX;have HN:=fX (kF.gR av);have aY:=fX (aT.trans bm)
  clear aX av bm aT bl hlen b5 al a9;go_wp2_with (at_builtin;refine wpList_append_run rfl (.tmp 28) (.tmp 32) 111 rfl (af (some ⟨w.heap.size,0,none⟩) 2 2) (af A4 n4 c4) (af A' (2+n4) c') w5 rfl rfl bn.out ?_)
  go_ret;exact⟨A',2+n4,c',rfl,HN.out,aY.out⟩
 have d1:((k:Int)==1)=false:=by simp;omega
 by_cases k2:k=2
 ·have d2:((k:Int)==2)=true:=by simp[k2]
  have ad:gN a k n r l false=([(0,1),(k,2)]++kM l)++jh (iP l) (nA l) (iS l) (nB l) l:=by unfold gN;rw[if_neg k1,if_pos k2,List.append_assoc];rfl
  have aU:=fX ad;have bH:=Cq W1 A2 m c2 l HM.out cm.out (by omega) b3.out;have b6:=xK l bg.out;obtain⟨bO,bP,bp,bq,cL,cM,cN,cO,-⟩:=mB l (by have:=bg.out;omega);have bQ:=Cu bg.out b3.out;have bR:=fX bO;have bS:=fX bP;have br:=fX bp;have bt:=fX bq;have bT:=fX bQ
  have b7:=sG (iP l) (nA l) (iS l) (nB l) l;obtain⟨TP,bI⟩:=fY (jh (iP l) (nA l) (iS l) (nB l) l);obtain⟨DP,cq⟩:=fY (kM l);rw[<-cq]at bH b6 ad;rw[<-bI]at b7 ad;have cP:=fX b7;obtain⟨FA,bJ⟩:=fY (iP l);obtain⟨FB,bK⟩:=fY (iS l);obtain⟨NA,bu⟩:=fY (nA l);obtain⟨NB,bx⟩:=fY (nB l);rw[<-bJ,<-bK,<-bu,<-bx]at bH bI;rw[<-bJ]at bR;rw[<-bK]at bS;rw[<-bJ,<-bu]at br;rw[<-bK,<-bx]at bt;rw[<-bu,<-bx]at bT;rw[<-bu]at cL cM;rw[<-bx]at cN cO;have aU:=fX ad;have cQ:=fX bH;have cr:=fX bI;have cu:=fX b6
  clear ad k1 k2 bH bI b7 bO bP bp bq bQ bJ bK bu bx cq b6;go_enter func73,ntmps73
  go_wp2_with (first
   |(refine aD rfl 150 #[(0,.const (ae .u32 0)),(1,.const (ae aj 1))] rfl (some 17) rfl #[ae .u32 0,ae aj 1] ?_ ?_;focus(simpa[Act.eval]using kf 0 1))
   |(refine aD rfl 150 #[(0,.tmp 19),(1,.const (ae aj 2))] rfl (some 20) rfl #[ae .u32 (k:Int),ae aj 2] ?_ ?_;focus(simpa[Act.eval]using kf (k:Int) 2))
   |fail)
  rw[<-bF.out];refine cQ.out.mono ?_;rintro e w2 ⟨ga,gb,cv,n2,cw,rfl,b8,b9,al,aV,cx,cy⟩;have bz:aR w.heap.size w w2:=bf.out.trans (aV.mono bf.out.size);have cR:=al.1;obtain⟨A3,c3,w3,aZ,a1,aS,a5⟩:=sH w2 w.heap.size w2.heap.size (some ⟨w.heap.size,0,none⟩) 2 2 _ (lF bd.out aV) cv n2 cw _ al.1 al.2.1 al.2.2.1 (by have:=cu.out;omega) bz.size;have bU:ga<w2.heap.size:=by
   obtain⟨b,o,e,h,_⟩:=b8.2 (by omega);injection e with e
   injection e with e1 _ _
   rw[e1];exact h
  have bV:gb<w2.heap.size:=by
   obtain⟨b,o,e,h,_⟩:=b9.2 (by omega);injection e with e
   injection e with e1 _ _
   rw[e1];exact h
  have bW:gE w3 w3.heap.size (some ⟨ga,0,none⟩) NA FA:=b8.keep (a5 ga bU (uS bd.out cx)) (by have:=aS.size;omega);have bX:gE w3 w3.heap.size (some ⟨gb,0,none⟩) NB FB:=b9.keep (a5 gb bV (uS bd.out cy)) (by have:=aS.size;omega);have a7:aR w.heap.size w w3:=bz.trans aS;have a8:=uP w3 A2 m c2 l (some ⟨ga,0,none⟩) NA 286 FA (some ⟨gb,0,none⟩) NB 30 FB HM.out ((HT.out.below a7 fZ).more a7.size) bW bX (by omega) (by omega) (by omega) bR.out bS.out br.out bt.out (by omega) bT.out;rw[<-cr.out]at a8;have b4:=fX a8;have bA:=fX aZ;have a2:=fX a1;have bY:=fX a7
  have c9:n2<=700:=by have:=cu.out;omega
  clear a8 aZ a1 a7 aS a5 bU bV bW bX bz b8 b9 al aV cx cy cR;go_wp2_with (first
   |(at_builtin;refine wpList_append_run rfl (.tmp 42) (.tmp 43) 111 rfl (af (some ⟨w.heap.size,0,none⟩) 2 2) (af cv n2 cw) (af A3 (2+n2) c3) w3 rfl rfl bA.out ?_)
   |fail)
  refine b4.out.mono ?_;rintro e w4 ⟨A4,n4,c4,rfl,al,a9⟩;have aT:aR w.heap.size w w4:=bY.out.trans (a9.mono bY.out.size);have b5:=al.1;obtain⟨A',c',w5,aX,av,bm,-⟩:=sH w4 w.heap.size w4.heap.size A3 (2+n2) c3 _ (lF a2.out a9) A4 n4 c4 _ al.1 al.2.1 al.2.2.1 (by have:=bg.out;have:=cP.out;omega) aT.size;rw[<-aU.out]at av;have bn:=fX aX;have HN:=fX (kF.gR av);have aY:=fX (aT.trans bm)
  clear aX av bm aT b5 al a9;go_wp2_with (at_builtin;refine wpList_append_run rfl (.tmp 45) (.tmp 49) 111 rfl (af A3 (2+n2) c3) (af A4 n4 c4) (af A' (2+n2+n4) c') w5 rfl rfl bn.out ?_)
  go_ret;exact⟨A',2+n2+n4,c',rfl,HN.out,aY.out⟩
 have d2:((k:Int)==2)=false:=by simp;omega
 have ad:gN a k n r l false=(([(0,1),(k,2)]++List.replicate (jl a) (0,1))++[(n,16),(65535-n,16)])++((List.range n).map fun i=>(r i,8)):=by unfold gN qx;rw[if_neg k1,if_neg k2];simp only[List.append_assoc];rfl
 have cz:jl a<=7:=by unfold jl;omega
 have aW:∀j,j<=jl a->((a+3+j)%8≠0↔j<jl a):=fun j hj=>CY hj
 obtain⟨PD,cA⟩:=fY (jl a)
 rw[<-cA]at ad cz aW
 have aU:=fX ad;have cS:=fX aW
 have mn:(n:Int)%4294967296=(n:Int):=by omega
 have wn:IntKind.u32.wrap (n:Int)=(n:Int):=by rw[IntKind.wrap_u32];omega
 obtain⟨z,hz⟩:=fY (65535-n)
 have ez:(65535:Int)-(n:Int)=(z:Int):=by omega
 have mz:(z:Int)%4294967296=(z:Int):=by omega
 have wz:IntKind.u32.wrap (z:Int)=(z:Int):=by rw[IntKind.wrap_u32];omega
 have HZ:=fX hz
 obtain⟨s,hs⟩:=fY (a+3)
 have es:(a:Int)+3=(s:Int):=by omega
 have HS:=fX hs
 have da:s<=10:=by omega
 clear ad aW k1 k2 cA hz hs
 go_enter func73,ntmps73
 go_wp2_with (first
  |(refine aD rfl 150 #[(0,.const (ae .u32 0)),(1,.const (ae aj 1))] rfl (some 17) rfl #[ae .u32 0,ae aj 1] ?_ ?_;focus(simpa[Act.eval]using kf 0 1))
  |(refine aD rfl 150 #[(0,.tmp 19),(1,.const (ae aj 2))] rfl (some 20) rfl #[ae .u32 (k:Int),ae aj 2] ?_ ?_;focus(simpa[Act.eval]using kf (k:Int) 2))
  |fail)
 go_loopw [11,15] (fun ov iv wr=>∃(j p i:Nat) (At:Option au) (ct:Nat),j<=PD/\p=2+j/\i=s+j/\ov=af At p ct/\iv=ae aj (i:Int)/\aQ (wr.ownsRow w.heap.size 150 2 (af At p ct) p (PA ([(0,1),(k,2)]++List.replicate j (0,1))))/\aQ (aR w.heap.size w wr)) (fun _ iv _=>s+PD-(aP iv).toNat)
 case atStart=>exact⟨0,2,s,some ⟨w.heap.size,0,none⟩,2,Nat.zero_le _,rfl,rfl,rfl,rfl,fX (by rw[<-bF.out];exact bd.out),fX (by rw[<-bF.out];exact bf.out)⟩
 case round=>
  obtain⟨j,p,i,At,ct,hj,hp,hi,rfl,rfl,HO,HB⟩:=hrel;have aW:=cS.out j hj;rw[<-HS.out,<-hi]at aW;have de:p<=9:=by omega
  have HP:=fX hp;have HI:=fX hi
  have db:i<=17:=by omega
  by_cases cB:j<PD
  ·have cT:=aW.2 cB;have dn:(((i:Int)%8) !=0)=true:=by simp;omega
   obtain⟨A',c',w',bk,ca,aV⟩:=rr wr w.heap.size At p ct _ HO.out (0,1) (by omega) HB.out.size;rw[List.append_assoc,CZ]at ca;have cU:=fX (show(Builtin.append_ #[111,111] 111 #[af At p ct,af (some ⟨wr.heap.size,0,none⟩) 1 1]).run prog (wr.alloc (ak #[ae .u32 0,ae aj 1] 150))=.ok (af A' (p+1) c') w' from bk);have cV:=fX ca;have bG:=fX (HB.out.trans aV)
   have cC:p+1=2+(j+1):=by omega
   have cD:i+1=s+(j+1):=by omega
   have cW:=fX cC;have cX:=fX cD
   have cb:s+PD-(i+1)<s+PD-i:=by omega
   clear bk ca aV cC cD aW cT hp hi;go_wp2_with (first
    |(refine aD rfl 150 #[(0,.const (ae .u32 0)),(1,.const (ae aj 1))] rfl (some 59) rfl #[ae .u32 0,ae aj 1] ?_ ?_;focus(simpa[Act.eval]using kf 0 1))
    |(at_builtin;refine wpList_append_run rfl (.tmp 58) (.tmp 60) 111 rfl (af At p ct) (af (some ⟨wr.heap.size,0,none⟩) 1 1) (af A' (p+1) c') w' rfl rfl cU.out ?_))
   go_roundw
   case rel=>exact⟨j+1,p+1,i+1,A',c',by omega,cW.out,cX.out,rfl,by go_num,cV,bG⟩
   case measure=>simpa[aP]using cb
  ·obtain rfl:j=PD:=by omega
   have heq:i%8=0:=by
    rcases Nat.eq_zero_or_pos (i%8)with h|h
    ·exact h
    ·exact absurd (aW.1 (by omega)) (by omega)
   have dn:(((i:Int)%8) !=0)=false:=by simp;omega
   obtain⟨A3,c3,w3,aZ,a1,aS⟩:=xn wr w.heap.size At p ct _ HO.out [(n,16),(z,16)] 2 rfl #[ae .u32 (n:Int),ae aj 16,ae .u32 (z:Int),ae aj 16] rfl (by omega) HB.out.size;have bA:=fX aZ;have cY:=fX (HB.out.trans aS)
   have bB:w3.ownsRow w.heap.size 150 2 (af A3 (p+2) c3) (p+2) (PA ((([(0,1),(k,2)]++List.replicate j (0,1))++[(n,16),(z,16)])++((List.range 0).map fun i=>(r i,8)))):=by
    rw[List.range_zero,List.map_nil,List.append_nil];exact a1
   have a2:=fX bB;have ad:=aU.out;rw[<-HZ.out]at ad;obtain⟨L1,cE⟩:=fY (([(0,1),(k,2)]++List.replicate j (0,1))++[(n,16),(z,16)]);rw[<-cE]at a2 ad;have cf:=fX ad;clear aZ a1 bB aS heq aW cB cE ad hp hi;go_wp2_with (first
    |(refine aD rfl 150 #[(0,.tmp 65),(1,.const (ae aj 16))] rfl (some 66) rfl #[ae .u32 (n:Int),ae aj 16] ?_ ?_;focus(simpa[Act.eval]using kf (n:Int) 16))
    |(refine aD rfl 150 #[(0,.tmp 70),(1,.const (ae aj 16))] rfl (some 71) rfl #[ae .u32 (z:Int),ae aj 16] ?_ ?_;focus(simpa[Act.eval]using kf (z:Int) 16))
    |(at_builtin;refine wpList_append_run rfl (.tmp 62) (.tmp 72) 111 rfl (af At p ct) (af (some ⟨wr.heap.size,0,none⟩) 2 2) (af A3 (p+2) c3) w3 rfl rfl bA.out ?_))
   obtain⟨q0,cF⟩:=fY (p+2);have dc:q0<=11:=by omega
   rw[<-cF]at a2⊢;clear cF;go_loopw [11,16] (fun ov iv wr=>∃(i p:Nat) (At:Option au) (ct:Nat),i<=n/\p=q0+i/\ov=af At p ct/\iv=ae aj (i:Int)/\aQ (wr.ownsRow w.heap.size 150 2 (af At p ct) p (PA (L1++((List.range i).map fun i=>(r i,8)))))/\aQ (aR w.heap.size w wr)) (fun _ iv _=>n-(aP iv).toNat)
   case atStart=>exact⟨0,q0,A3,c3,Nat.zero_le _,rfl,rfl,rfl,a2,cY⟩
   case round=>
    obtain⟨i5,p5,A5,c5,df,cG,rfl,rfl,cH,aY⟩:=hrel;by_cases bZ:i5<n
    ·have cg:(i5:Int)<(n:Int):=by omega
     obtain⟨b,o,rfl,_,cI⟩:=(HR.out.below aY.out fZ).2 (by omega);have c0:=cI i5 bZ;have cZ:=HR.out.1 i5;obtain⟨A',c',w',bL,ch,b0⟩:=rr wr w.heap.size A5 p5 c5 _ cH.out (r i5,8) (by omega) aY.out.size;have bC:(L1++((List.range i5).map fun i=>(r i,8)))++[(r i5,8)]=L1++((List.range (i5+1)).map fun i=>(r i,8)):=by
      rw[List.range_succ,List.map_append,List.append_assoc];rfl
     rw[bC]at ch;obtain⟨x,hx⟩:=fY (r i5);dsimp only at bL;rw[<-hx]at c0 bL cZ;have c7:=fX (show(Builtin.append_ #[111,111] 111 #[af A5 p5 c5,af (some ⟨wr.heap.size,0,none⟩) 1 1]).run prog (wr.alloc (ak #[ae .u32 (x:Int),ae aj 8] 150))=.ok (af A' (p5+1) c') w' from bL);have cJ:=fX ch;have cK:=fX (aY.out.trans b0)
     have wx:IntKind.u32.wrap (x:Int)=(x:Int):=by rw[IntKind.wrap_u32];omega
     have mx:(x:Int)%4294967296=(x:Int):=by omega
     have b1:p5+1=q0+(i5+1):=by omega
     have c8:=fX b1;clear bL ch b0 bC hx cI b1 cG;go_wp2_with (first
      |(refine aD rfl 150 #[(0,.tmp 85),(1,.const (ae aj 8))] rfl (some 86) rfl #[ae .u32 (x:Int),ae aj 8] ?_ ?_;focus(simpa[Act.eval]using kf (x:Int) 8))
      |(at_builtin;refine wpList_append_run rfl (.tmp 80) (.tmp 87) 111 rfl (af A5 p5 c5) (af (some ⟨wr.heap.size,0,none⟩) 1 1) (af A' (p5+1) c') w' rfl rfl c7.out ?_))
     go_roundw
     case rel=>exact⟨i5+1,p5+1,A',c',by omega,c8.out,rfl,by go_num,cJ,cK⟩
     case measure=>simp[aP];omega
    ·obtain rfl:i5=n:=by omega
     have cg:¬(i5:Int)<(i5:Int):=by omega
     have av:=cH.out;rw[<-cf.out]at av;have HN:=fX (kF.gR av);clear av cG bZ;go_wp2;go_ret;exact⟨A5,p5,c5,rfl,HN.out,aY.out⟩
theorem C0(w:aq)(a k:Nat)(A:Option au)(n c:Nat)(r:Nat->Nat)(A2:Option au)(m c2:Nat)(l:List gA)(last:Bool)(ha:a<=7)(hk:k<=2)(hr:gE w w.heap.size A n r)(hn:n<=65535)(hm:m=l.length)(ad:jL w w.heap.size A2 l)(al:m<=65535)(av:∀t∈l,gS t=true/\t.x<256):
  aw prog 73 #[ae aj (a:Int),ae .u8 (k:Int),af A n c,af A2 m c2,ai last] w fun e w'=>∃A' n' c',e=ao (af A' n' c')/\kF w' w'.heap.size A' n' c' (gN a k n r l last)/\aR w.heap.size w w':=by
 cases last
 ·exact Jm w a k A n c r A2 m c2 l ha hk hr hn hm ad al av
 ·exact Jl w a k A n c r A2 m c2 l ha hk hr hn hm ad al av
theorem Jn(w:aq)(a:Nat)(A:Option au)(n c:Nat)(r:Nat->Nat)(A2:Option au)(m c2:Nat)(l:List gA)(ha:a<=7)(hr:gE w w.heap.size A n r)(hn:n<=65535)(hm:m=l.length)(a3:jL w w.heap.size A2 l)(bt:m<=65535)(aZ:∀t∈l,gS t=true/\t.x<256):
  aw prog 57 #[ae aj (a:Int),af A n c,af A2 m c2] w fun e w'=>e=ao (ae .u8 ((qE a n r l:Nat):Int))/\aR w.heap.size w w':=by
 have a4:∀k:Nat,k<=2->∀w',aR w.heap.size w w'->aw prog 73 #[ae aj (a:Int),ae .u8 (k:Int),af A n c,af A2 m c2,ai false] w' fun e a1=>∃A' n' c',e=ao (af A' n' c')/\kF a1 a1.heap.size A' n' c' (gN a k n r l false)/\aR w'.heap.size w' a1:=
  fun k hk w' hb=>C0 w' a k A n c r A2 m c2 l false ha hk ((hr.below hb fZ).more hb.size) hn hm ((a3.below hb fZ).more hb.size) bt aZ
 have a5:∀k:Nat,k<=2->Pq (gN a k n r l false)<=4320000:=fun k hk=>qD (a:=a) (last:=false) hk hn hr.1 (by omega) aZ
 have a6:∀k:Nat,(gN a k n r l false).length<=270000:=fun k=>xL (a:=a) (k:=k) (r:=r) (last:=false) hn (by omega)
 obtain⟨f,hf⟩:∃f:Nat->Nat,f=fun k=>Pq (gN a k n r l false):=⟨_,rfl⟩
 have a7:∀k:Nat,Pq (gN a k n r l false)=f k:=fun k=>by rw[hf]
 have aV:qE a n r l=shF f 2:=by rw[hf];rfl
 rw[aV]
 have a8:=fX a4;have a9:=fX a5;have bd:=fX a6;have bf:=fX a7
 clear a4 a5 a6 a7 hf aV hr a3 aZ hm
 go_enter func57,ntmps57
 go_wp2
 go_loopw [7,8] (fun bv kv wr=>∃j b:Nat,j<=2/\b<=j/\bv=ae .u8 (b:Int)/\kv=ae .u8 ((j+1:Nat):Int)/\aQ (b=shF f j)/\aQ (aR w.heap.size w wr)) (fun _ kv _=>3-(aP kv).toNat)
 case atStart=>exact⟨0,0,Nat.zero_le _,Nat.le_refl _,rfl,rfl,fX rfl,fX gC⟩
 case round=>
  obtain⟨j,b,hj,hb,rfl,rfl,bg,aY⟩:=hrel;by_cases bz:j<2
  ·obtain⟨q,hq⟩:=fY (j+1);have bj:q<=2:=by omega
   have bA:(q:Int)<=2:=by omega
   have bB:decide ((q:Int)<=2)=true:=by simp;omega
   have al:shF f (j+1)=if f q<f b then q else b:=by simp only[shF];rw[<-bg.out,<-hq]
   have bk:=fX al;obtain⟨q1,bl⟩:=fY (q+1);have bC:(q:Int)+1=(q1:Int):=by omega
   have bD:(q1:Int)%256=(q1:Int):=by omega
   have bE:IntKind.u8.wrap (q1:Int)=(q1:Int):=by rw[IntKind.wrap_u8];omega
   have bm:Value.int .u8 (q1:Int)=ae .u8 ((j+1+1:Nat):Int):=by rw[bl,hq]
   have aW:3-q1<3-q:=by omega
   have bn:=fX bm;clear bl bm;rw[<-hq];have HQ:=fX hq;clear al hq;go_wp2_with fail
   refine(a8.out q bj _ aY.out).mono ?_;rintro e w3 ⟨A',n',c',rfl,av,bp⟩;have ad:=B8 w3 A' n' c' _ av.1 av.2.1 (by have:=bd.out q;have:=av.1;omega) (by have:=a9.out q bj;omega);rw[bf.out]at ad;have aX:=fX ad;have a2:=fX (aY.out.trans (bp.mono aY.out.size))
   clear ad bp av;go_wp2_with fail
   refine aX.out.mono ?_;rintro e w4 ⟨rfl,rfl⟩;go_wp2_with fail
   refine(a8.out b (by omega) _ a2.out).mono ?_;rintro e w5 ⟨A5,n5,c5,rfl,av,bq⟩;have ad:=B8 w5 A5 n5 c5 _ av.1 av.2.1 (by have:=bd.out b;have:=av.1;omega) (by have:=a9.out b (by omega);omega);rw[bf.out]at ad;have aT:=fX ad;have br:=fX (a2.out.trans (bq.mono a2.out.size))
   clear ad bq av;go_wp2_with fail
   refine aT.out.mono ?_;rintro e w6 ⟨rfl,rfl⟩;obtain⟨x,hx⟩:=fY (f q);obtain⟨y,hy⟩:=fY (f b);have aS:=bk;rw[<-hx,<-hy]at aS⊢;clear hx hy bk aX aT;by_cases aU:x<y
   ·have dl:decide ((x:Int)<(y:Int))=true:=by simp;omega
    have bu:decide (x<y)=true:=by simp;omega
    have al:=aS.out;rw[if_pos aU]at al;have HS:=fX al;clear al aS aU;go_wp2;go_roundw
    case rel=>exact⟨j+1,q,by omega,by have:=HQ.out;omega,rfl,bn.out,fX HS.out.symm,br⟩
    case measure=>simpa[aP]using aW
   ·have dl:decide ((x:Int)<(y:Int))=false:=by simp;omega
    have bu:decide (x<y)=false:=by simp;omega
    have al:=aS.out;rw[if_neg aU]at al;have HS:=fX al;clear al aS aU;go_wp2;go_roundw
    case rel=>exact⟨j+1,b,by omega,by omega,rfl,bn.out,fX HS.out.symm,br⟩
    case measure=>simpa[aP]using aW
  ·obtain rfl:j=2:=by omega
   have bx:=bg.out;subst bx;go_wp2;go_ret;exact⟨rfl,aY.out⟩
theorem Jo:(prog.info? 108).map (·.size)=some 2:=by kernel_rfl
theorem Jp:(prog.info? 108).map (fun i=>(i.zero,i.size))=some (some (ah #[ae aj 0,af none 0 0]),2):=by kernel_rfl
theorem C5{fn:Func}{p:Tmp}(h:fn.results=#[.cell p 108])(tmps:Array ax)(w:aq)(g:Nat)(cs:Array ax)(hs:cs.size=2)(hp:tmps.getD p undef=ag (some ⟨g,0,none⟩))(ht:gi w g cs 108):
  (results fn tmps).run prog w=.ok (ah cs) w:=by
 have ad:tmps[p]?.getD undef=ag (some ⟨g,0,none⟩):=by simpa using hp
 have hl:=run_loadVar_row (P:=prog) w g 108 108 cs (0,0) _ ht underlying108 rfl (by rw[hs];exact Jo)
 simp[results,h,ad,asAddr,hl]
theorem oS{fn:Func}{p:Tmp}(h:fn.results=#[.cell p 30])(tmps:Array ax)(w:aq)(g:Nat)(cs:Array ax)(hs:cs.size=2)(hp:tmps.getD p undef=ag (some ⟨g,0,none⟩))(ht:gi w g cs 30):
  (results fn tmps).run prog w=.ok (ah cs) w:=by
 have ad:tmps[p]?.getD undef=ag (some ⟨g,0,none⟩):=by simpa using hp
 have hl:=run_loadVar_row (P:=prog) w g 30 30 cs (0,0) _ ht underlying30 rfl (by rw[hs];exact I5)
 simp[results,h,ad,asAddr,hl]
theorem Qf(b o q:Nat):(⟨b,o,none⟩:au).add q=⟨b,o+q,none⟩:=by unfold Addr.add;split<;>simp_all
theorem Jq(L M:List Nat):gD (L.length+M.length) (cat (gj L) L.length (gj M))=gD (L.length+M.length) (gj (L++M)):=sy fun j _=>(pY L M j).symm
theorem C6(W:aq)(B:Nat)(hB:B<=W.heap.size)(A:Option au)(c:Nat)(L:List Nat)(hr:gu W B A L.length c (gj L))(A2:Option au)(c2:Nat)(M:List Nat)(av:gu W B A2 M.length c2 (gj M))(h1:L.length<=1000000)(h2:M.length<=1000000):
  ∃A1 c1 w1,(Builtin.append_ #[22,22] 22 #[af none 0 0,af A L.length c]).run prog W=.ok (af A1 L.length c1) w1/\aR W.heap.size W w1/\
  ∃A3 c3 w3,(Builtin.append_ #[22,22] 22 #[af A1 L.length c1,af A2 M.length c2]).run prog w1=.ok (af A3 (L.length+M.length) c3) w3/\aR W.heap.size W w3/\iB w3 W.heap.size A3 (L++M).length c3 (gj (L++M)):=by
 obtain⟨A1,c1,w1,aS,aT,ad,_⟩:=qS W B A L.length c (gj L) hr.1 (by omega) 22 hr.2.1
 obtain⟨A3,c3,w3,aU,al,aV⟩:=sd w1 W.heap.size B (af A1 L.length c1) L.length (gj L) aT A2 M.length c2 (gj M) (av.1.below ad hB) (by omega) 22 av.2.1 ad.size
 rw[Jq]at al
 refine⟨A1,c1,w1,aS,ad,A3,c3,w3,aU,ad.trans aV,?_⟩
 rw[List.length_append]
 exact iB.gR al (ky fun x hx=>(List.mem_append.1 hx).elim (fun h=>kh hr x h) (fun h=>kh av x h))
theorem Jr(w:aq)(S:Nat)(hS:1<=S)(a3:S<=1000000)(A:Option au)(c:Nat)(L:List Nat)(hr:gu w w.heap.size A L.length c (gj L))(A2:Option au)(c2:Nat)(M:List Nat)(aZ:gu w w.heap.size A2 M.length c2 (gj M))(h1:L.length<=1000000)(h2:M.length<=1000000):
  aw prog 71 #[ah #[ae aj (S:Int),af A L.length c],af A2 M.length c2] w fun e w'=>∃A' c',e=ao (ah #[ae aj (S:Int),af A' (jn S (L++M)).length c'])/\iB w' w.heap.size A' (jn S (L++M)).length c' (gj (jn S (L++M)))/\aR w.heap.size w w':=by
 obtain⟨h,hh⟩:=fY (w.heap.size)
 have hz:=(zero_of_info Jp).1
 obtain⟨W1,ad⟩:=fY ((w.alloc (ak #[ae aj (S:Int),af A L.length c] 108)).alloc (ak #[ae aj 0,af none 0 0] 108))
 have b1:aR h w W1:=by rw[ad,hh];exact(gC.alloc fZ _).alloc (by simp) _
 have x1:gi W1 h #[ae aj (S:Int),af A L.length c] 108:=by rw[ad,hh];exact(gi.new w _ _).old _
 have y1:gi W1 (h+1) #[ae aj 0,af none 0 0] 108:=by
  rw[ad,hh];have:=gi.new (w.alloc (ak #[ae aj (S:Int),af A L.length c] 108)) #[ae aj 0,af none 0 0] 108
  rwa[World.size_alloc]at this
 have aU:h+1<W1.heap.size:=y1.lt
 obtain⟨A1,c1,w1,al,a4,A3,c3,w3,av,aV,aS⟩:=C6 W1 h (by omega) A c L (hh▸hr.below (hh▸b1) fZ) A2 c2 M (hh▸aZ.below (hh▸b1) fZ) h1 h2
 have x3:=x1.below aV (by omega)
 have y3:=y1.below aV aU
 have q1:=iA x1
 have q0:=gV x3
 have bj:=gV y3
 have bk:=iA y3
 have f30:w3.frozen? ⟨h+1,0,none⟩=false:=y3.free
 have f31:w3.frozen? ⟨h+1,1,none⟩=false:=y3.free
 obtain⟨n,hn⟩:=fY (L.length)
 obtain⟨m,hm⟩:=fY (M.length)
 obtain⟨t,ht⟩:=fY (n+m)
 have et:(L++M).length=t:=by rw[List.length_append,<-hn,<-hm,ht]
 have a1:=aS.rd.2.2.1
 have a2:=aS.rd.2.2.2
 rw[et]at aS a1
 rw[<-hn,<-hm,<-ht]at av
 rw[<-hn]at al q1 ad x1 x3 h1⊢
 rw[<-hm]at h2⊢
 have key:∀(A4:Option au) (k c4:Nat),iB w3 (h+2) A4 k c4 (gj (jn S (L++M)))->k=(jn S (L++M)).length->∀U:aq,U=(w3.setCell ⟨h+1,0,none⟩ (ae aj (S:Int))).setCell ⟨h+1,1,none⟩ (af A4 k c4)->
   gi U (h+1) #[ae aj (S:Int),af A4 k c4] 108/\iB U h A4 (jn S (L++M)).length c4 (gj (jn S (L++M)))/\aR h w U:=fun A4 k c4 nw e U hU=>by
  rw[hU,<-e]
  exact⟨((y3.set 0 (ae aj (S:Int))).set 1 (af A4 k c4)),((nw.set (by omega) _ _).set (by omega) _ _).mono (by omega),jx (jx (b1.trans (aV.mono (by omega))) (by omega) _ _) (by omega) _ _⟩
 have nw:iB w3 (h+2) A3 t c3 (gj (L++M)):=aS.mono (by omega)
 have bf:c3<=9223372036854775807:=by unfold maxLen at a2;omega
 have a5:=fX key;have a6:=fX ad;have aX:=fX al;have aY:=fX av;have HH:=fX hh
 by_cases bl:S<t
 ·obtain⟨b,o,rfl,_,_⟩:=nw.rd.1.2 (by omega);obtain⟨q,hq⟩:=fY (t-S);have e1:(t:Int)-(S:Int)=(q:Int):=by omega
  have d1:decide ((S:Int)<(t:Int))=true:=decide_eq_true (by omega);have a8:¬c3=q:=by omega
  have a9:q<=t:=by omega
  have bg:q<=c3:=by omega
  have aW:(jn S (L++M)).length=t-q:=by unfold jn;rw[List.length_drop,et];omega
  have a7:iB w3 (h+2) (some ⟨b,o+q,none⟩) (t-q) (c3-q) (gj (jn S (L++M))):=by
   have:=nw.drop (q:=q) (A2:=some ⟨b,o+q,none⟩) a9 (by rw[if_neg a8,Qf]);have e:(fun j=>gj (L++M) (j+q))=gj (jn S (L++M)):=by
    funext j;unfold jn;rw[rG,et,<-hq]
   rwa[e]at this
  have bd:=fX a7;have aT:=fX aW
  clear key ad al av hh b1 x1 y1 x3 y3 a4 aV aS nw a7 a1 a2 hr aZ aW et ht hn hm hq aU hS a3 h1 h2;go_enter func71,ntmps71
  go_wp2_with (first
   |(rw[<-a6.out,<-HH.out])
   |(at_builtin;refine wpList_append_run rfl (.const (af none 0 0)) (.tmp 7) 22 rfl (af none 0 0) (af A n c) (af A1 n c1) w1 rfl rfl aX.out ?_)
   |(at_builtin;refine wpList_append_run rfl (.tmp 8) (.tmp 9) 22 rfl (af A1 n c1) (af A2 m c2) (af (some ⟨b,o,none⟩) t c3) w3 rfl rfl aY.out ?_)
   |fail)
  obtain⟨k1,k2,k3⟩:=a5.out _ _ _ bd.out aT.out.symm _ rfl;refine aK (C5 rfl _ _ (h+1) #[ae aj (S:Int),af (some ⟨b,o+q,none⟩) (t-q) (c3-q)] rfl rfl k1) rfl ?_;exact⟨_,_,by rw[aT.out],by rw[<-HH.out];exact k2,by rw[<-HH.out];exact k3⟩
 ·have d1:decide ((S:Int)<(t:Int))=false:=decide_eq_false (by omega);have aW:jn S (L++M)=L++M:=by unfold jn;rw[et,show t-S=0 by omega];rfl
  have aT:=fX aW;have NW:=fX nw;have ET:=fX et
  clear key ad al av hh b1 x1 y1 x3 y3 a4 aV aS nw a1 a2 hr aZ aW et ht hn hm aU hS a3 h1 h2;go_enter func71,ntmps71
  go_wp2_with (first
   |(rw[<-a6.out,<-HH.out])
   |(at_builtin;refine wpList_append_run rfl (.const (af none 0 0)) (.tmp 7) 22 rfl (af none 0 0) (af A n c) (af A1 n c1) w1 rfl rfl aX.out ?_)
   |(at_builtin;refine wpList_append_run rfl (.tmp 8) (.tmp 9) 22 rfl (af A1 n c1) (af A2 m c2) (af A3 t c3) w3 rfl rfl aY.out ?_)
   |fail)
  obtain⟨k1,k2,k3⟩:=a5.out A3 t c3 (by rw[aT.out];exact NW.out) (by rw[aT.out,ET.out]) _ rfl;refine aK (C5 rfl _ _ (h+1) #[ae aj (S:Int),af A3 t c3] rfl rfl k1) rfl ?_;exact⟨_,_,by rw[aT.out,ET.out],by rw[<-HH.out];exact k2,by rw[<-HH.out];exact k3⟩
def Up(T:ax->aq->Prop)(v:ax)(w:aq):Prop:=∀W,aR w.heap.size w W->T v W
theorem Up.here{T:ax->aq->Prop}{v:ax}{w:aq}(h:Up T v w):T v w:=h w gC
theorem Up.on{T:ax->aq->Prop}{v:ax}{w w':aq}(h:Up T v w)(hb:aR w.heap.size w w'):Up T v w':=fun W hW=>h W (hb.trans (hW.mono hb.size))
def Pv:List (Option Tmp)->(Tmp->ax)->Act->Act
 |[],_,a=>a
 |none::r,vals,a=>Pv r vals a
 |some d::r,vals,a=>Pv r vals (a.put (some d) (vals d))
theorem C7:∀(l:List (Option Tmp)) (vals:Tmp->ax) (a:Act),(Pv l vals a).tmps.size=a.tmps.size
 |[],_,_=>rfl
 |none::r,vals,a=>C7 r vals a
 |some d::r,vals,a=>by rw[Pv,C7 r vals];simp[Act.put]
theorem rI:∀(l:List (Option Tmp)) (vals:Tmp->ax) (a:Act),(Pv l vals a).defers=a.defers
 |[],_,_=>rfl
 |none::r,vals,a=>rI r vals a
 |some d::r,vals,a=>by rw[Pv,rI r vals];rfl
theorem rJ:∀(l:List (Option Tmp)) (vals:Tmp->ax) (a:Act) (s:Tmp),(some s∈l\/a.tmps[s]?=some (vals s))->s<a.tmps.size->(Pv l vals a).tmps[s]?=some (vals s)
 |[],vals,a,s,h,_=>by
  rcases h with h|h
  ·cases h
  ·exact h
 |none::r,vals,a,s,h,hs=>rJ r vals a s (h.imp (fun h=>by simpa using h) id) hs
 |some d::r,vals,a,s,h,hs=>by
  refine rJ r vals _ s ?_ (by simpa[Act.put]using hs);by_cases e:d=s
  ·right;subst e;simp[Act.put,hs]
  ·rcases h with h|h
   ·left;rcases List.mem_cons.1 h with h|h
    ·exact absurd (Option.some.inj h).symm e
    ·exact h
   ·right;simpa[Act.put,Array.getElem?_setIfInBounds_ne e]using h
theorem rK:∀(l:List (Option Tmp)) (vals:Tmp->ax) (a:Act) (s:Tmp),some s∉l->(Pv l vals a).tmps[s]?=a.tmps[s]?
 |[],_,_,_,_=>rfl
 |none::r,vals,a,s,h=>rK r vals a s (fun g=>h (List.mem_cons_of_mem _ g))
 |some d::r,vals,a,s,h=>by
  rw[Pv,rK r vals _ s (fun g=>h (List.mem_cons_of_mem _ g))];have e:d≠s:=fun e=>h (by rw[e];exact List.mem_cons_self ..)
  simp[Act.put,Array.getElem?_setIfInBounds_ne e]
def PL(l:List aA)(n:Nat):Bool:=decide (l.filterMap (·.dst)).Nodup&&(l.all fun o=>match o.dst with|some d=>decide (d<n)|none=>true)&&((List.range l.length).all fun i=>match l[i]? with
 |some o=>o.after.all fun e=> !Region.binds .any e||decide (e.on<i)
 |none=>true)
def nD(l:List aA)(s:Tmp):Bool:=l.all fun o=>o.dst !=some s
def sL(P:az)(l:List aA)(T:Nat->ax->aq->Prop)(a0:Act)(U:aq)(k:Nat)(o:aA):Prop:=
 ∀(a:Act) (w:aq),aR U.heap.size U w->(∀s,nD l s=true->a.eval (.tmp s)=a0.eval (.tmp s))->(∀j d,Region.waitsFor .any l.toArray k j=true->(l[j]?).bind (·.dst)=some d->Up (T j) (a.eval (.tmp d)) w)->
  ∀(K:Act->aq->Prop) (Q:Exit->Act->aq->Prop),(∀v w',aR w.heap.size w w'->Up (T k) v w'->K (a.put o.dst v) w')->if Region.wanted o (aM l.toArray a.tmps)=true then Oper.wp P o a w K Q else K (a.put o.dst undef) w
def gl(P:az)(l:List aA)(T:Nat->ax->aq->Prop)(a0:Act)(U:aq):Nat->List aA->Prop
 |_,[]=>True
 |k,o::r=>sL P l T a0 U k o/\gl P l T a0 U (k+1) r
theorem gl.get{P:az}{l:List aA}{T:Nat->ax->aq->Prop}{a0:Act}{U:aq}:∀{r:List aA} {k:Nat},gl P l T a0 U k r->∀{j:Nat} {o:aA},r[j]?=some o->sL P l T a0 U (k+j) o
 |[],_,_,_,_,h=>by cases h
 |_::_,k,hA,0,_,h=>by cases h;exact hA.1
 |_::r,k,hA,j+1,o,h=>by
  have:=gl.get (r:=r) hA.2 (j:=j) (by simpa using h);rw[show k+1+j=k+(j+1) by omega]at this;exact this
structure qG (l:List aA) (T:Nat->ax->aq->Prop) (a0:Act) (U:aq) (gv:Array Bool) (a:Act) (w:aq):Prop where
 size:gv.size=l.length
 tmps:a.tmps.size=a0.tmps.size
 defers:a.defers=a0.defers
 below:aR U.heap.size U w
 off:∀s,(∀j d,gv.getD j false=true->(l[j]?).bind (·.dst)=some d->d≠s)->a.tmps[s]?=a0.tmps[s]?
 told:∀j d,gv.getD j false=true->(l[j]?).bind (·.dst)=some d->Up (T j) (a.eval (.tmp d)) w
theorem rL{l:List aA}{s:Tmp}(h:nD l s=true){j:Nat}{d:Tmp}(hd:(l[j]?).bind (·.dst)=some d):d≠s:=fun e=>by
 cases hj:l[j]? with
 |none=>rw[hj]at hd;cases hd
 |some y=>
  rw[hj]at hd;have h1:=List.all_eq_true.1 h y (List.mem_of_getElem? hj);have h2:y.dst=some d:=by simpa using hd
  rw[h2,e]at h1;simp at h1
theorem rM{l:List aA}(h:(l.filterMap (·.dst)).Nodup){i j:Nat}{x y:aA}{d:Tmp}(hi:l[i]?=some x)(hj:l[j]?=some y)(hx:x.dst=some d)(hy:y.dst=some d):i=j:=by
 induction l generalizing i j with
 |nil=>cases hi
 |cons z r ih=>
  have hr:(r.filterMap (·.dst)).Nodup:=by
   rw[List.filterMap_cons]at h;split at h
   ·exact h
   ·exact(List.nodup_cons.1 h).2
  have hz:∀(q:Nat) (u:aA),r[q]?=some u->u.dst=some d->z.dst≠some d:=fun q u hq hu ad=>by
   rw[List.filterMap_cons,ad]at h;exact(List.nodup_cons.1 h).1 (List.mem_filterMap.2 ⟨u,List.mem_of_getElem? hq,hu⟩)
  rcases i with _|i<;>rcases j with _|j
  ·rfl
  ·cases hi;exact absurd hx (hz j y (by simpa using hj) hy)
  ·cases hj;exact absurd hy (hz i x (by simpa using hi) hx)
  ·exact congrArg (·+1) (ih hr (by simpa using hi) (by simpa using hj))
theorem Js{P:az}{Q:Exit->Act->aq->Prop}{a0:Act}{U:aq}{l:List aA}{T:Nat->ax->aq->Prop}(hB:PL l a0.tmps.size=true)(aV:gl P l T a0 U 0 l)
  (aU:∀gv a w,qG l T a0 U gv a w->(∀i,i<l.length->gv.getD i false=true)->Q .normal a w):
  ∀(f:Nat) (gv:Array Bool) (a:Act) (w:aq),((List.range l.length).filter fun i=> !gv.getD i false).length=f->qG l T a0 U gv a w->wpAny P .any l.toArray Q f gv a w:=by
 have aY:=hB
 simp only[PL,Bool.and_eq_true,decide_eq_true_eq]at aY
 obtain⟨⟨a6,a7⟩,aZ⟩:=aY
 have a1:∀(gv:Array Bool),gv.size=l.length->Region.ready .any l.toArray gv=[]->∀i,i<l.length->gv.getD i false=true:=fun gv bg hr i=>by
  induction i using Nat.strongRecOn with
  |_ i ih=>
   intro hi;cases hu:gv.getD i false with
   |true=>rfl
   |false=>
    exfalso;have h1:=List.all_eq_true.1 aZ i (List.mem_range.2 hi);have a8:l[i]?=some l[i]:=List.getElem?_eq_getElem hi;simp only[a8]at h1;have:i∈Region.ready .any l.toArray gv:=mem_ready.2 ⟨getD_in (by omega) hu,l[i],by simp[hi],fun e he hb=>by
     have h2:=Array.all_eq_true_iff_forall_mem.1 h1 e he;simp only[hb,Bool.not_true,Bool.false_or,decide_eq_true_eq]at h2;exact ih e.on h2 (by omega)⟩
    rw[hr]at this;cases this
 intro f
 induction f with
 |zero=>
  intro gv a w hf inv;have a2:∀i,i<l.length->gv.getD i false=true:=fun i hi=>by
   have h0:=List.length_eq_zero_iff.1 hf;have h1:=List.filter_eq_nil_iff.1 h0 i (List.mem_range.2 hi);simpa using h1
  refine⟨?_,aU gv a w inv a2⟩;apply List.eq_nil_iff_forall_not_mem.2;intro i hi;obtain⟨h0,o,ho,_⟩:=mem_ready.1 hi;have al:i<l.length:=by have:=(Array.getElem?_eq_some_iff.1 ho).1;simpa using this
  have h1:=a2 i al;rw[getD_both h0]at h1;cases h1
 |succ f ih=>
  intro gv a w hf inv;refine⟨fun h0=>aU gv a w inv (a1 gv inv.size h0),fun k hk=>?_⟩;obtain⟨h0,o,ho,av⟩:=mem_ready.1 hk;have ad:l[k]?=some o:=by simpa using ho
  have al:k<l.length:=(List.getElem?_eq_some_iff.1 ad).1;have a9:sL P l T a0 U k o:=by have:=aV.get ad;rwa[Nat.zero_add]at this
  have aW:∀s,nD l s=true->a.eval (.tmp s)=a0.eval (.tmp s):=fun s hs=>by
   show a.tmps.getD s undef=a0.tmps.getD s undef
   rw[Array.getD_eq_getD_getElem?,Array.getD_eq_getD_getElem?,inv.off s (fun _ _ _ hd=>rL hs hd)]
  have aS:∀j d,Region.waitsFor .any l.toArray k j=true->(l[j]?).bind (·.dst)=some d->Up (T j) (a.eval (.tmp d)) w:=fun j d hw hd=>by
   obtain⟨ok,a3,e,he,hb,bd⟩:=Region.waitsFor_spec hw;rw[ho]at a3;cases a3;exact inv.told j d (by have:=av e he hb;rwa[bd]at this) hd
  have a4:∀d,o.dst=some d->d<a.tmps.size:=fun d hd=>by
   have h1:=List.all_eq_true.1 a7 o (List.mem_of_getElem? ad);simp only[hd,decide_eq_true_eq]at h1;rw[inv.tmps];exact h1
  have aX:=a9 a w inv.below aW aS (wpAny P .any l.toArray Q f (gv.setIfInBounds k true)) Q (fun v w' hb hv=>by
   refine ih _ _ _ ?_ ⟨by simp[inv.size],?_,?_,inv.below.trans (hb.mono inv.below.size),fun s hs=>?_,fun j d hl hd=>?_⟩
   ·have bf:((List.range l.length).filter fun i=> !(gv.setIfInBounds k true).getD i false)=((List.range l.length).filter fun i=> !gv.getD i false).erase k:=by
     rw[List.Nodup.erase_eq_filter (List.nodup_range.filter _),List.filter_filter];apply List.filter_congr;intro x hx;by_cases e:x=k
     ·subst e;have:x<gv.size:=by rw[inv.size];exact al
      simp[this]
     ·rw[getD_set_ne false (Ne.symm e)];simp[e]
    rw[bf,List.length_erase_of_mem (List.mem_filter.2 ⟨List.mem_range.2 al,by rw[getD_both h0];rfl⟩),hf];rfl
   ·unfold Act.put;cases o.dst<;>simp[inv.tmps]
   ·unfold Act.put;cases o.dst<;>exact inv.defers
   ·rw[<-inv.off s (fun j d hl hd=>hs j d (getD_set_true hl) hd)];unfold Act.put;cases hd:o.dst with
    |none=>rfl
    |some d=>
     have e:d≠s:=hs k d (by have:k<gv.size:=(by rw[inv.size];exact al);simp[this]) (by rw[ad];simpa using hd);simp[Array.getElem?_setIfInBounds_ne e]
   ·by_cases e:j=k
    ·subst e;rw[ad]at hd;have aT:o.dst=some d:=by simpa using hd
     have a5:=a4 d aT;have he:(a.put o.dst v).eval (.tmp d)=v:=by rw[aT];simp[Act.put,Act.eval,a5]
     rw[he];exact hv
    ·rw[getD_set_ne false (Ne.symm e)]at hl;have h1:=inv.told j d hl hd;have he:(a.put o.dst v).eval (.tmp d)=a.eval (.tmp d):=Act.eval_put fun d' aT hx=>by
      cases hx
      cases hj:l[j]? with
      |none=>rw[hj]at hd;cases hd
      |some y=>
       rw[hj]at hd;exact e (rM a6 hj ad (by simpa using hd) aT)
     rw[he];exact h1.on hb)
  unfold wpOp;simp only[ho];split at aX
  ·rename_i hw;rw[if_pos hw];exact .inl aX
  ·rename_i hw;rw[if_neg hw];exact aX
theorem rN{P:az}{id:Nat}{Q:Exit->Act->aq->Prop}{a0:Act}{w0:aq}{l:List aA}(T:Nat->ax->aq->Prop)(U:aq)(hU:aR U.heap.size U w0)(hm:P.follows .mixedOrders=true)(hB:PL l a0.tmps.size=true)
  (ad:gl P l T a0 U 0 l)
  (al:∀(vals:Tmp->ax) (w:aq),aR U.heap.size U w->(∀j d,(l[j]?).bind (·.dst)=some d->Up (T j) (vals d) w)->Q .normal (Pv (l.map (·.dst)) vals a0) w):(Code.region id l.toArray true).wp P Q a0 w0:=by
 refine wp_region_any hm ?_
 have av:∀i,(Array.replicate l.toArray.size false).getD i false=false:=fun i=>getD_replicate_false _ _
 refine Js (T:=T) hB ad (fun gv a w inv aT=>?_) l.toArray.size _ _ _ ?_ ⟨by simp,rfl,rfl,hU.drew,fun _ _=>rfl,fun j d h _=>by rw[av]at h;cases h⟩
 ·have ha:a=Pv (l.map (·.dst)) (fun d=>a.eval (.tmp d)) a0:=by
   have ht:a.tmps=(Pv (l.map (·.dst)) (fun d=>a.eval (.tmp d)) a0).tmps:=by
    apply Array.ext_getElem?;intro s;by_cases hs:some s∈l.map (·.dst)
    ·obtain⟨o,ho,hd⟩:=List.mem_map.1 hs;simp only[PL,Bool.and_eq_true,decide_eq_true_eq]at hB;have h1:=List.all_eq_true.1 hB.1.2 o ho;simp only[hd,decide_eq_true_eq]at h1;rw[rJ _ _ _ s (.inl hs) h1];have h2:s<a.tmps.size:=by rw[inv.tmps];exact h1
     simp[Act.eval,h2]
    ·rw[rK _ _ _ s hs];refine inv.off s (fun j d _ hd e=>hs ?_);cases hj:l[j]? with
     |none=>rw[hj]at hd;cases hd
     |some y=>
      rw[hj]at hd;exact List.mem_map.2 ⟨y,List.mem_of_getElem? hj,by rw[<-e];simpa using hd⟩
   have aS:a.defers=(Pv (l.map (·.dst)) (fun d=>a.eval (.tmp d)) a0).defers:=by rw[rI];exact inv.defers
   cases a with
   |mk t df=>
    generalize hp:Pv (l.map (·.dst)) (fun d=>(Act.mk t df).eval (.tmp d)) a0=p at*;cases p with
    |mk t2 aU=>simp only at ht aS;rw[ht,aS]
  rw[ha];refine al _ w inv.below fun j d hd=>?_
  refine inv.told j d (aT j ?_) hd;cases hj:l[j]? with
  |none=>rw[hj]at hd;cases hd
  |some _=>exact(List.getElem?_eq_some_iff.1 hj).1
 ·rw[List.filter_eq_self.2 (fun i _=>by rw[av];rfl)];simp
theorem gp{l:List aA}{o:aA}{a:Act}(hg:o.guard=none):Region.wanted o (aM l.toArray a.tmps)=true:=by simp[Region.wanted,hg]
theorem mW{P:az}{l:List aA}{o:aA}{a:Act}{w:aq}{T:ax->aq->Prop}{K:Act->aq->Prop}{Q:Exit->Act->aq->Prop}{E:Prop}(hw:Region.wanted o (aM l.toArray a.tmps)=true)(v:ax)
  (hr:(execOp a.eval o).run P w=.ok (.value v) w) (hT:Up T v w) (hK:∀v w',aR w.heap.size w w'->Up T v w'->K (a.put o.dst v) w'):if Region.wanted o (aM l.toArray a.tmps)=true then Oper.wp P o a w K Q else E:=by
 rw[if_pos hw]
 unfold Oper.wp
 rw[hr]
 exact hK v w gC hT
theorem gY{P:az}{l:List aA}{o:aA}{a:Act}{w:aq}{T:ax->aq->Prop}{K:Act->aq->Prop}{Q:Exit->Act->aq->Prop}{E:Prop}(hw:Region.wanted o (aM l.toArray a.tmps)=true)(x:Operand)(ho:o.op=.move x)
  (hT:Up T (a.eval x) w) (hK:∀v w',aR w.heap.size w w'->Up T v w'->K (a.put o.dst v) w'):if Region.wanted o (aM l.toArray a.tmps)=true then Oper.wp P o a w K Q else E:=
 mW hw (a.eval x) (by simp[execOp,ho]) hT hK
theorem qH{P:az}{l:List aA}{o:aA}{a:Act}{w:aq}{T:ax->aq->Prop}{K:Act->aq->Prop}{Q:Exit->Act->aq->Prop}{E:Prop}(hw:Region.wanted o (aM l.toArray a.tmps)=true)(x:Operand)(ho:o.op=.assign x)
  (hT:Up T (a.eval x) w) (hK:∀v w',aR w.heap.size w w'->Up T v w'->K (a.put o.dst v) w'):if Region.wanted o (aM l.toArray a.tmps)=true then Oper.wp P o a w K Q else E:=
 mW hw (a.eval x) (by simp[execOp,ho]) hT hK
theorem rO{P:az}{l:List aA}{o:aA}{a:Act}{w:aq}{T:ax->aq->Prop}{K:Act->aq->Prop}{Q:Exit->Act->aq->Prop}{E:Prop}(hw:Region.wanted o (aM l.toArray a.tmps)=true)(b:BinOp)(t t':aB)(x y:Operand)(ho:o.op=.binOp b t x y t')(u z v:ax)(hx:a.eval x=u)(hy:a.eval y=z)
  (hg:(eqGuard b t x y u z).run P w=.ok () w) (hr:(binOp b t u z).run P w=.ok v w)
  (hT:Up T v w) (hK:∀v w',aR w.heap.size w w'->Up T v w'->K (a.put o.dst v) w'):if Region.wanted o (aM l.toArray a.tmps)=true then Oper.wp P o a w K Q else E:=
 mW hw v (by simp only[execOp,ho,hx,hy,Sem.run_bind,hg,hr,Result.andThen_ok];rfl) hT hK
theorem lZ{l:List aA}{o:aA}{a:Act}{w:aq}{T:ax->aq->Prop}{K:Act->aq->Prop}{Q:Exit->Act->aq->Prop}{E:Prop}(hw:Region.wanted o (aM l.toArray a.tmps)=true)(f:FuncId)(xs:Array Operand)(ts:Array aB)
  (ho:o.op=.call {callee:=.value (.func f),args:=xs,argTypes:=ts}) (eg:∀args w,(callFunc f args).run prog w=.ok (.enter f args) w) (args:Array ax) (hx:xs.map a.eval=args) {R:Ending->aq->Prop} (hc:aw prog f args w R)
  (h:∀e w',R e w'->∃v,e=ao v/\aR w.heap.size w w'/\Up T v w') (hK:∀v w',aR w.heap.size w w'->Up T v w'->K (a.put o.dst v) w'):
  if Region.wanted o (aM l.toArray a.tmps)=true then Oper.wp prog o a w K Q else E:=
 Hh hw f xs ts ho eg args hx hc fun e w' hr=>by
  obtain⟨v,he,hb,hv⟩:=h e w' hr;exact⟨v,he,hK v w' hb hv⟩
theorem gl.nil{P:az}{l:List aA}{T:Nat->ax->aq->Prop}{a0:Act}{U:aq}{k:Nat}:gl P l T a0 U k []:=trivial
theorem gl.cons {P:az} {l:List aA} {T:Nat->ax->aq->Prop} {a0:Act} {U:aq} {k:Nat} {o:aA} {r:List aA} (h:∀(a:Act) (w:aq),aR U.heap.size U w->(∀s,nD l s=true->a.eval (.tmp s)=a0.eval (.tmp s))->(∀j d,Region.waitsFor .any l.toArray k j=true->(l[j]?).bind (·.dst)=some d->Up (T j) (a.eval (.tmp d)) w)->
  ∀(K:Act->aq->Prop) (Q:Exit->Act->aq->Prop),(∀v w',aR w.heap.size w w'->Up (T k) v w'->K (a.put o.dst v) w')->if Region.wanted o (aM l.toArray a.tmps)=true then Oper.wp P o a w K Q else K (a.put o.dst undef) w) (hr:gl P l T a0 U (k+1) r):gl P l T a0 U k (o::r):=⟨h,hr⟩
def mG(L:List (ax->aq->Prop))(k:Nat):ax->aq->Prop:=(L[k]?).getD fun _ _=>True
theorem gx{v x:ax}{w:aq}(h:v=x):Up (fun u _=>u=x) v w:=fun _ _=>h
theorem Jt{P:az}{Q:Exit->Act->aq->Prop}{a0:Act}{U:aq}{l:List aA}{T:Nat->ax->aq->Prop}{n:Nat}(hn:n<l.length)(hs:tq l 0 n=true)(hc:Region.chainB .any l.toArray n=true)
  (aZ:Region.seqB .any l.toArray (l.length-n) n (km n (l.length-n))=true) (hB:PL l a0.tmps.size=true) (aV:gl P l T a0 U 0 (l.take n))
  (a1:∀gv a w,qG l T a0 U gv a w->(∀i,i<n->gv.getD i false=true)->(∀i,n<=i->i<l.length->gv.getD i true=false)->wpList P l.toArray Q (l.drop n) a w):
  ∀(f:Nat) (gv:Array Bool) (a:Act) (w:aq),((List.range n).filter fun i=> !gv.getD i false).length=f->qG l T a0 U gv a w->HeadInv .any l.toArray n gv->wpAny P .any l.toArray Q (f+(l.length-n)) gv a w:=by
 have a2:=hB
 simp only[PL,Bool.and_eq_true,decide_eq_true_eq]at a2
 obtain⟨⟨bf,bg⟩,a3⟩:=a2
 intro f
 induction f with
 |zero=>
  intro gv a w hf inv hi;have a4:∀i,i<n->gv.getD i false=true:=fun i hi=>by
   have h0:=List.length_eq_zero_iff.1 hf;have h1:=List.filter_eq_nil_iff.1 h0 i (List.mem_range.2 hi);simpa using h1
  have hk:=a1 gv a w inv a4 (fun i h1 h2=>hi.tail i h1 (by simpa using h2));have he:=uK (n:=n) (g:=l.length-n) (gv:=gv) (by rw[inv.size];omega) (fun i h=>by
   have h1:=a4 i h;cases h2:gv.getD i true with
   |true=>rfl
   |false=>rw[getD_both h2]at h1;cases h1) (fun t ht br=>hi.tail t ht (by simp;omega))
  subst he;have h3:=wpAny_of_seq (P:=P) (md:=.any) (Q':=Q) (l.drop n) n (km n (l.length-n)) a w (fun j=>by simp[List.getElem?_drop]) (by rw[List.length_drop];exact aZ) hk;rw[List.length_drop]at h3;rw[Nat.zero_add];exact h3
 |succ f ih=>
  intro gv a w hf inv hi;rw[show f+1+(l.length-n)=(f+(l.length-n))+1 by omega];obtain⟨x,bj,a5⟩:∃x,x<n/\gv.getD x false=false:=by
   have:0<((List.range n).filter fun i=> !gv.getD i false).length:=by omega
   obtain⟨x,hx⟩:=List.exists_mem_of_length_pos this;obtain⟨h1,h2⟩:=List.mem_filter.1 hx;exact⟨x,List.mem_range.1 h1,by simpa using h2⟩
  have bk:gv.getD x true=false:=getD_in (by rw[inv.size];omega) a5;have al:∀i,i∈Region.ready .any l.toArray gv->i<n:=fun i hr=>by
   rcases Nat.lt_or_ge i n with g|g
   ·exact g
   ·exact absurd hr (BP hs hc hn hi (fun i h=>absurd h (Nat.not_lt_zero i)) bj bk i g)
  refine⟨fun h0=>?_,fun k hk=>?_⟩
  ·exfalso;have a6:∀i,i<l.length->gv.getD i false=true:=fun i=>by
    induction i using Nat.strongRecOn with
    |_ i bl=>
     intro av;cases hu:gv.getD i false with
     |true=>rfl
     |false=>
      exfalso;have h1:=List.all_eq_true.1 a3 i (List.mem_range.2 av);have bm:l[i]?=some l[i]:=List.getElem?_eq_getElem av;simp only[bm]at h1;have:i∈Region.ready .any l.toArray gv:=mem_ready.2 ⟨getD_in (by rw[inv.size];exact av) hu,l[i],by simp[av],fun e he hb=>by
       have h2:=Array.all_eq_true_iff_forall_mem.1 h1 e he;simp only[hb,Bool.not_true,Bool.false_or,decide_eq_true_eq]at h2;exact bl e.on h2 (by omega)⟩
      rw[h0]at this;cases this
   have:=a6 x (by omega);rw[a5]at this;cases this
  ·have aW:=al k hk;obtain⟨h0,o,ho,aS⟩:=mem_ready.1 hk;have ad:l[k]?=some o:=by simpa using ho
   have a7:k<l.length:=(List.getElem?_eq_some_iff.1 ad).1;have bn:sL P l T a0 U k o:=by
    have:=aV.get (j:=k) (o:=o) (by rw[List.getElem?_take_of_lt aW];exact ad);rwa[Nat.zero_add]at this
   have aX:∀s,nD l s=true->a.eval (.tmp s)=a0.eval (.tmp s):=fun s hs=>by
    show a.tmps.getD s undef=a0.tmps.getD s undef
    rw[Array.getD_eq_getD_getElem?,Array.getD_eq_getD_getElem?,inv.off s (fun _ _ _ hd=>rL hs hd)]
   have aT:∀j d,Region.waitsFor .any l.toArray k j=true->(l[j]?).bind (·.dst)=some d->Up (T j) (a.eval (.tmp d)) w:=fun j d hw hd=>by
    obtain⟨ok,a8,e,he,hb,bp⟩:=Region.waitsFor_spec hw;rw[ho]at a8;cases a8;exact inv.told j d (by have:=aS e he hb;rwa[bp]at this) hd
   have a9:∀d,o.dst=some d->d<a.tmps.size:=fun d hd=>by
    have h1:=List.all_eq_true.1 bg o (List.mem_of_getElem? ad);simp only[hd,decide_eq_true_eq]at h1;rw[inv.tmps];exact h1
   have aY:=bn a w inv.below aX aT (wpAny P .any l.toArray Q (f+(l.length-n)) (gv.setIfInBounds k true)) Q (fun v w' hb hv=>by
    refine ih _ _ _ ?_ ⟨by simp[inv.size],?_,?_,inv.below.trans (hb.mono inv.below.size),fun s hs=>?_,fun j d hl hd=>?_⟩ (hi.set hk aW)
    ·have bq:((List.range n).filter fun i=> !(gv.setIfInBounds k true).getD i false)=((List.range n).filter fun i=> !gv.getD i false).erase k:=by
      rw[List.Nodup.erase_eq_filter (List.nodup_range.filter _),List.filter_filter];apply List.filter_congr;intro x hx;by_cases e:x=k
      ·subst e;have:x<gv.size:=by rw[inv.size];exact a7
       simp[this]
      ·rw[getD_set_ne false (Ne.symm e)];simp[e]
     rw[bq,List.length_erase_of_mem (List.mem_filter.2 ⟨List.mem_range.2 aW,by rw[getD_both h0];rfl⟩),hf];rfl
    ·unfold Act.put;cases o.dst<;>simp[inv.tmps]
    ·unfold Act.put;cases o.dst<;>exact inv.defers
    ·rw[<-inv.off s (fun j d hl hd=>hs j d (getD_set_true hl) hd)];unfold Act.put;cases hd:o.dst with
     |none=>rfl
     |some d=>
      have e:d≠s:=hs k d (by have:k<gv.size:=(by rw[inv.size];exact a7);simp[this]) (by rw[ad];simpa using hd);simp[Array.getElem?_setIfInBounds_ne e]
    ·by_cases e:j=k
     ·subst e;rw[ad]at hd;have aU:o.dst=some d:=by simpa using hd
      have bd:=a9 d aU;have he:(a.put o.dst v).eval (.tmp d)=v:=by rw[aU];simp[Act.put,Act.eval,bd]
      rw[he];exact hv
     ·rw[getD_set_ne false (Ne.symm e)]at hl;have h1:=inv.told j d hl hd;have he:(a.put o.dst v).eval (.tmp d)=a.eval (.tmp d):=Act.eval_put fun d' aU hx=>by
       cases hx
       cases hj:l[j]? with
       |none=>rw[hj]at hd;cases hd
       |some y=>
        rw[hj]at hd;exact e (rM bf hj ad (by simpa using hd) aU)
      rw[he];exact h1.on hb)
   unfold wpOp;simp only[ho];split at aY
   ·rename_i hw;rw[if_pos hw];exact .inl aY
   ·rename_i hw;rw[if_neg hw];exact aY
def C8(l:List aA)(n m:Nat):Bool:=decide (n<l.length)&&tq l 0 n&&Region.chainB .any l.toArray n&&Region.seqB .any l.toArray (l.length-n) n (km n (l.length-n))&&PL l m
theorem tD{P:az}{id:Nat}{Q:Exit->Act->aq->Prop}{a0:Act}{w0:aq}{l:List aA}(n:Nat)(T:Nat->ax->aq->Prop)(U:aq)(hU:aR U.heap.size U w0)(hm:P.follows .mixedOrders=true)(hB:C8 l n a0.tmps.size=true)
  (ad:gl P l T a0 U 0 (l.take n))
  (av:∀(vals:Tmp->ax) (w:aq),aR U.heap.size U w->(∀j d,((l.take n)[j]?).bind (·.dst)=some d->Up (T j) (vals d) w)->wpList P l.toArray Q (l.drop n) (Pv ((l.take n).map (·.dst)) vals a0) w):(Code.region id l.toArray true).wp P Q a0 w0:=by
 simp only[C8,Bool.and_eq_true,decide_eq_true_eq]at hB
 obtain⟨⟨⟨⟨hn,hs⟩,hc⟩,aS⟩,hB⟩:=hB
 refine wp_region_any hm ?_
 have al:∀i,(Array.replicate l.toArray.size false).getD i false=false:=fun i=>getD_replicate_false _ _
 have hinv:HeadInv .any l.toArray n (Array.replicate l.toArray.size false):=⟨by simp,(fun j oj _ hl=>by rw[al]at hl;cases hl),(fun t _ ht=>by simp at ht;simp[ht])⟩
 have key:=Jt (P:=P) (Q:=Q) (T:=T) (U:=U) hn hs hc aS hB ad (fun gv a w inv aV aW=>by
  have ha:a=Pv ((l.take n).map (·.dst)) (fun d=>a.eval (.tmp d)) a0:=by
   have aT:=hB;simp only[PL,Bool.and_eq_true,decide_eq_true_eq]at aT;have ht:a.tmps=(Pv ((l.take n).map (·.dst)) (fun d=>a.eval (.tmp d)) a0).tmps:=by
    apply Array.ext_getElem?;intro s;by_cases hs:some s∈(l.take n).map (·.dst)
    ·obtain⟨o,ho,hd⟩:=List.mem_map.1 hs;have h1:=List.all_eq_true.1 aT.1.2 o (List.mem_of_mem_take ho);simp only[hd,decide_eq_true_eq]at h1;rw[rJ _ _ _ s (.inl hs) h1];have h2:s<a.tmps.size:=by rw[inv.tmps];exact h1
     simp[Act.eval,h2]
    ·rw[rK _ _ _ s hs];refine inv.off s (fun j d hl hd e=>hs ?_);cases hj:l[j]? with
     |none=>rw[hj]at hd;cases hd
     |some y=>
      have aX:j<l.length:=(List.getElem?_eq_some_iff.1 hj).1;have aY:j<n:=by
       rcases Nat.lt_or_ge j n with g|g
       ·exact g
       ·have:=getD_both (aW j g aX);rw[hl]at this;cases this
      rw[hj]at hd;exact List.mem_map.2 ⟨y,List.mem_of_getElem? (i:=j) (by rw[List.getElem?_take_of_lt aY];exact hj),by rw[<-e];simpa using hd⟩
   have aU:a.defers=(Pv ((l.take n).map (·.dst)) (fun d=>a.eval (.tmp d)) a0).defers:=by rw[rI];exact inv.defers
   cases a with
   |mk t df=>
    generalize hp:Pv ((l.take n).map (·.dst)) (fun d=>(Act.mk t df).eval (.tmp d)) a0=p at*;cases p with
    |mk t2 aZ=>simp only at ht aU;rw[ht,aU]
  rw[ha];refine av _ w inv.below fun j d hd=>?_
  rcases Nat.lt_or_ge j n with g|g
  ·rw[List.getElem?_take_of_lt g]at hd;exact inv.told j d (aV j g) hd
  ·rw[List.getElem?_eq_none (by rw[List.length_take];omega)]at hd;cases hd) n (Array.replicate l.toArray.size false) a0 w0.drew (by rw[List.filter_eq_self.2 (fun i _=>by rw[al];rfl)];simp) ⟨by simp,rfl,rfl,hU.drew,fun _ _=>rfl,fun j d h _=>by rw[al]at h;cases h⟩ hinv
 rw[show n+(l.length-n)=l.toArray.size by simp;omega]at key
 exact key
theorem oD{l:List aA}{o:aA}{a:Act}{w:aq}{T:ax->aq->Prop}{K:Act->aq->Prop}{Q:Exit->Act->aq->Prop}{E:Prop}(hw:Region.wanted o (aM l.toArray a.tmps)=true)(ty:aB)(x:Operand)(ho:o.op=.load ty x)(b k:Nat)(hx:a.eval x=ag (some ⟨b,k,none⟩))(cs:List ax)(d:TypeDesc)
  (hS:w.rangeAt b k cs) (hu:prog.underlying ty=some d) (hd:d.isRow=true) (hi:(prog.info? ty).map (·.size)=some cs.length)
  (hT:Up T (ah cs.toArray) w) (hK:∀v w',aR w.heap.size w w'->Up T v w'->K (a.put o.dst v) w'):if Region.wanted o (aM l.toArray a.tmps)=true then Oper.wp prog o a w K Q else E:=
 mW hw _ (by
  unfold execOp;simp only[ho,hx,Instr.loadAt,Instr.sureAddr,Sem.run_bind,Sem.run_pure,Result.andThen_ok,run_loadVar_mid w b k ty cs d hS hu hd hi]) hT hK
theorem la{l:List aA}{o:aA}{a:Act}{w:aq}{T:ax->aq->Prop}{K:Act->aq->Prop}{Q:Exit->Act->aq->Prop}{E:Prop}(hw:Region.wanted o (aM l.toArray a.tmps)=true)(ty:aB)(x:Operand)(ho:o.op=.load ty x)(u v:ax)(hx:a.eval x=u)
  (hr:(Instr.loadAt ty u).run prog w=.ok v w)
  (hT:Up T v w) (hK:∀v w',aR w.heap.size w w'->Up T v w'->K (a.put o.dst v) w'):if Region.wanted o (aM l.toArray a.tmps)=true then Oper.wp prog o a w K Q else E:=
 mW hw v (by unfold execOp;simp only[ho,hx,Sem.run_bind,hr,Result.andThen_ok];rfl) hT hK
theorem gZ{l:List aA}{o:aA}{a:Act}{w:aq}{T:ax->aq->Prop}{K:Act->aq->Prop}{Q:Exit->Act->aq->Prop}{E:Prop}(hw:Region.wanted o (aM l.toArray a.tmps)=true)(ty:aB)(x:Operand)(f:Nat)(ho:o.op=.fieldAddr ty x f)(u v:ax)(hx:a.eval x=u)
  (hr:(Instr.fieldAt ty u f).run prog w=.ok v w)
  (hT:Up T v w) (hK:∀v w',aR w.heap.size w w'->Up T v w'->K (a.put o.dst v) w'):if Region.wanted o (aM l.toArray a.tmps)=true then Oper.wp prog o a w K Q else E:=
 mW hw v (by unfold execOp;simp only[ho,hx,Sem.run_bind,hr,Result.andThen_ok];rfl) hT hK
theorem rP(P:az)(b:BinOp)(t:aB)(x y:Operand)(u v:ax)(hb:b≠.eql)(ad:b≠.neq)(w:aq):(eqGuard b t x y u v).run P w=.ok () w:=by
 unfold eqGuard;cases b<;>first|exact absurd rfl hb|exact absurd rfl ad|simp[go_sem]
theorem px{P:az}{l:List aA}{o:aA}{a:Act}{w:aq}{T:ax->aq->Prop}{K:Act->aq->Prop}{Q:Exit->Act->aq->Prop}{E:Prop}(hw:Region.wanted o (aM l.toArray a.tmps)=true)(x:Operand)(i:Nat)(ho:o.op=.extract x i)(u v:ax)(hx:a.eval x=u)(hr:(Instr.extract u i).run P w=.ok v w)
  (hT:Up T v w) (hK:∀v w',aR w.heap.size w w'->Up T v w'->K (a.put o.dst v) w'):if Region.wanted o (aM l.toArray a.tmps)=true then Oper.wp P o a w K Q else E:=
 mW hw v (by unfold execOp;simp only[ho,hx,Sem.run_bind,hr,Result.andThen_ok];rfl) hT hK
theorem vg{P:az}{l:List aA}{o:aA}{a:Act}{w w':aq}{T:ax->aq->Prop}{K:Act->aq->Prop}{Q:Exit->Act->aq->Prop}{E:Prop}(hw:Region.wanted o (aM l.toArray a.tmps)=true)(v:ax)
  (hr:(execOp a.eval o).run P w=.ok (.value v) w') (hb:aR w.heap.size w w') (hT:Up T v w') (hK:∀v w',aR w.heap.size w w'->Up T v w'->K (a.put o.dst v) w'):if Region.wanted o (aM l.toArray a.tmps)=true then Oper.wp P o a w K Q else E:=by
 rw[if_pos hw]
 unfold Oper.wp
 rw[hr]
 exact hK v w' hb hT
theorem C9{P:az}{l:List aA}{o:aA}{a:Act}{w w':aq}{T:ax->aq->Prop}{K:Act->aq->Prop}{Q:Exit->Act->aq->Prop}{E:Prop}(hw:Region.wanted o (aM l.toArray a.tmps)=true)(x y:Operand)(t:aB)(ho:o.op=.call {callee:=.builtin .append,args:=#[x,y],argTypes:=#[t,t]})(u z v:ax)(hx:a.eval x=u)(hy:a.eval y=z)
  (hr:(Builtin.append_ #[t,t] o.type #[u,z]).run P w=.ok v w') (hb:aR w.heap.size w w') (hT:Up T v w') (hK:∀v w',aR w.heap.size w w'->Up T v w'->K (a.put o.dst v) w'):if Region.wanted o (aM l.toArray a.tmps)=true then Oper.wp P o a w K Q else E:=
 vg hw v (by simp[execOp,ho,resolve,invoke,builtin,hx,hy,hr,Result.andThen]) hb hT hK
theorem ya(P:az)(t:aB)(k:IntKind)(x y:Nat)(hy:0<y)(w:aq):(binOp .rem t (ae k (x:Int)) (ae k (y:Int))).run P w=.ok (ae k ((x%y:Nat):Int)) w:=by
 have h0:¬(y:Int)=0:=by omega
 have e:(x:Int).tmod (y:Int)=((x%y:Nat):Int):=by rw[Int.tmod_eq_emod_of_nonneg (by omega)];simp
 unfold binOp;simp only[ne_eq,not_true_eq_false,if_false,Op.intDiv,if_neg h0,e];rfl
theorem qI{P:az}{l:List aA}{o:aA}{a:Act}{w:aq}{T:ax->aq->Prop}{K:Act->aq->Prop}{Q:Exit->Act->aq->Prop}{E:Prop}(hw:Region.wanted o (aM l.toArray a.tmps)=true)(t:aB)(x:Operand)(lo hi mx:Option Operand)(ho:o.op=.slice t x lo hi mx)(u v:ax)(ad al av:Option ax)(hx:a.eval x=u)(h1:lo.map a.eval=ad)(h2:hi.map a.eval=al)(h3:mx.map a.eval=av)
  (hr:(Instr.sliceAt t u ad al av).run P w=.ok v w)
  (hT:Up T v w) (hK:∀v w',aR w.heap.size w w'->Up T v w'->K (a.put o.dst v) w'):if Region.wanted o (aM l.toArray a.tmps)=true then Oper.wp P o a w K Q else E:=
 mW hw v (by unfold execOp;simp only[ho,hx,h1,h2,h3,Sem.run_bind,hr,Result.andThen_ok];rfl) hT hK
theorem Da{P:az}{l:List aA}{o:aA}{a:Act}{w:aq}{T:ax->aq->Prop}{K:Act->aq->Prop}{Q:Exit->Act->aq->Prop}{E:Prop}(hw:Region.wanted o (aM l.toArray a.tmps)=true)(t:aB)(parts:Array (Nat×Operand))(ho:o.op=.build t parts)(cells:Array ax)(hf:P.built t (parts.map fun(i,x)=>(i,a.eval x)).toList=some cells)
  (hT:Up T (ah cells) w) (hK:∀v w',aR w.heap.size w w'->Up T v w'->K (a.put o.dst v) w'):if Region.wanted o (aM l.toArray a.tmps)=true then Oper.wp P o a w K Q else E:=
 mW hw (ah cells) (by unfold execOp;simp only[ho,Sem.run_bind,run_build w t _ cells hf,Result.andThen_ok];rfl) hT hK
theorem wrap_i64(q:Nat)(h:q<=9223372036854775807):IntKind.i64.wrap (q:Int)=(q:Int):=by
 show(let m:=(q:Int)%(2^64:Int);if(true&&decide (m≥(2^63:Int)))=true then m-(2^64:Int)else m)=_
 have h1:(2:Int)^64=18446744073709551616:=rfl;have h2:(2:Int)^63=9223372036854775808:=rfl;have e1:(q:Int)%(2^64:Int)=(q:Int):=Int.emod_eq_of_lt (by omega) (by omega);simp only[e1];rw[if_neg (by simp;omega)]
theorem vh(A A2:Option au)(L c k:Nat)(hk:k<=L)(hA:(if c=k then A else A.map (·.add k))=A2)(w:aq):(Instr.sliceAt 22 (af A L c) (some (ae aj (k:Int))) none none).run prog w=.ok (af A2 (L-k) (c-k)) w:=by
 obtain⟨i0,hi,al,ad,av⟩:=info_parts oM;have hs:(sizeOf 5).run prog w=.ok 1 w:=by simp[sizeOf,typeInfo,hi,ad,go_sem]
 rw[run_sliceAt_slice (h:=underlying22),run_slice_l (ht:=underlying22) (h0:=by omega) (h1:=by omega)];have he:prog.elem 22=5:=by kernel_rfl
 rw[he,hs];simp[sliced,<-hA,Result.andThen]
theorem vm(A:Option au)(L c k:Nat)(hk:k<=c)(w:aq):(Instr.sliceAt 22 (af A L c) none (some (ae aj (k:Int))) none).run prog w=.ok (af A k c) w:=by
 obtain⟨i0,hi,al,ad,av⟩:=info_parts oM;have hs:(sizeOf 5).run prog w=.ok 1 w:=by simp[sizeOf,typeInfo,hi,ad,go_sem]
 rw[run_sliceAt_slice (h:=underlying22),run_slice_h (ht:=underlying22) (h0:=by omega) (h2:=by omega)];have he:prog.elem 22=5:=by kernel_rfl
 rw[he,hs];have h0:(if c=0 then A else A.map fun x=>x.add 0)=A:=by
  split
  ·rfl
  ·cases A with
   |none=>rfl
   |some a=>simp[Addr.add]
 simp[sliced,Result.andThen,h0]
theorem Db{f:Nat->Nat}{L a p k:Nat}(hk:k<258)(h:a+k<L)(he:f (p+k)=f (a+k)):PN f L a p (258-k) k=PN f L a p (258-(k+1)) (k+1):=by
 rw[show 258-k=(258-(k+1))+1 by omega,PN,if_pos ⟨h,he⟩]
theorem tE{f:Nat->Nat}{L a p k:Nat}(h:258<=k\/L<=a+k\/f (p+k)≠f (a+k)):PN f L a p (258-k) k=k:=by
 rcases Nat.lt_or_ge k 258 with hk|hk
 ·rw[show 258-k=(258-(k+1))+1 by omega,PN,if_neg (by omega)]
 ·rw[show 258-k=0 by omega,PN]
def iZ(w u:aq):Prop:=∃t,u=w.drewN t
theorem iZ.refl(w:aq):iZ w w:=⟨0,rfl⟩
theorem iZ.more{w u:aq}(h:iZ w u)(n:Nat):iZ w (u.drewN n):=by
 obtain⟨t,rfl⟩:=h;exact⟨t+n,by rw[World.drewN_drewN]⟩
theorem iZ.rd{w u:aq}(h:iZ w u){B n:Nat}{A:Option au}{f:Nat->Nat}(hr:gE w B A n f):gE u B A n f:=by
 obtain⟨t,rfl⟩:=h;exact hr
theorem iZ.below{w u:aq}(h:iZ w u){g:Nat}{a:aq}(hb:aR g a w):aR g a u:=by
 obtain⟨t,rfl⟩:=h;exact⟨hb.os,hb.tape,hb.output,hb.size,hb.block⟩
theorem vn(w:aq)(A:Option au)(n c a:Nat)(ha:a<=n)(hn:n<=1000000):
  aw prog 177 #[af A n c,ae aj (a:Int)] w fun e w'=>e=ao (ae aj ((min (n-a) 258:Nat):Int))/\w=w':=by
 obtain⟨d,rfl⟩:∃d,n=a+d:=⟨n-a,by omega⟩
 have e1:(((a+d:Nat):Int))-(a:Int)=(d:Int):=by omega
 have e2:a+d-a=d:=by omega
 rw[e2]
 go_enter func177,ntmps177
 go_wp2
 all_goals(go_ret;exact⟨nj (by omega),rfl⟩)
theorem Ju(w:aq)(B:Nat)(A:Option au)(n c:Nat)(f:Nat->Nat)(a p:Nat)(hr:gE w B A n f)(hp:p<a)(ha:a<=n)(hn:n<=1000000):
  aw prog 176 #[af A n c,ae aj (a:Int),ae aj (p:Int)] w fun e w'=>e=ao (ae aj ((jk f n a p:Nat):Int))/\iZ w w':=by
 have HR:=fX hr
 obtain⟨M,hM⟩:=fY (min (n-a) 258)
 have al:∀u,aw prog 177 #[af A n c,ae aj (a:Int)] u fun e w'=>e=ao (ae aj (M:Int))/\u=w':=fun u=>by rw[hM];exact vn u A n c a ha hn
 have HM:=fX hM;have aT:=fX al
 clear hr hM al
 go_enter func176,ntmps176
 go_wp2
 go_loopw [7] (fun kv wr=>∃k:Nat,k<=M/\kv=ae aj (k:Int)/\aQ (PN f n a p (258-k) k=jk f n a p)/\aQ (iZ w wr)) (fun kv _=>M-(aP kv).toNat)
 case atStart=>exact⟨0,Nat.zero_le _,rfl,fX rfl,fX (iZ.refl w)⟩
 case round=>
  obtain⟨k,hk,rfl,HK,HD⟩:=hrel;by_cases aZ:k<M
  ·have aU:(k:Int)<(M:Int):=by omega
   obtain⟨b,o,rfl,_,hc⟩:=(HD.out.rd HR.out).2 (by omega);have aS:=HM.out;have c1:=hc (p+k) (by omega);have c2:=hc (a+k) (by omega);have e1:(p:Int)+(k:Int)=((p+k:Nat):Int):=by omega
   have e2:(a:Int)+(k:Int)=((a+k:Nat):Int):=by omega
   obtain⟨P,hP⟩:=fY (p+k);obtain⟨Q,hQ⟩:=fY (a+k);have a1:(P:Int)<(n:Int):=by omega
   have a2:(Q:Int)<(n:Int):=by omega
   have aX:P<n:=by omega
   have aY:Q<n:=by omega
   have a3:(0:Int)<=(P:Int):=by omega
   have a4:(0:Int)<=(Q:Int):=by omega
   rw[<-hP]at c1 e1;rw[<-hQ]at c2 e2;clear hc;by_cases he:f P=f Q
   ·have aV:((f P:Int)==(f Q:Int))=true:=by simp[he]
    have ad:=Db (f:=f) (L:=n) (a:=a) (p:=p) (k:=k) (by omega) (by omega) (by rw[<-hP,<-hQ];exact he);have av:=fX (ad.symm.trans HK.out);clear ad aS hP hQ he;go_wp2;go_quiet ((go_at_call 177;exact Calls.quiet_of_same ((aT.out _).mono fun _ _ ⟨a,b⟩=>⟨a,b.symm⟩)))
    go_wp2;go_roundw
    case rel=>exact⟨k+1,by omega,by go_num,av,fX (HD.out.more _)⟩
    case measure=>simp[aP];omega
   ·have aV:((f P:Int)==(f Q:Int))=false:=by simp;omega
    have ad:=tE (f:=f) (L:=n) (a:=a) (p:=p) (k:=k) (.inr (.inr (by rw[<-hP,<-hQ];exact he)));have av:=fX (ad.symm.trans HK.out);clear ad aS hP hQ he;go_wp2;go_quiet ((go_at_call 177;exact Calls.quiet_of_same ((aT.out _).mono fun _ _ ⟨a,b⟩=>⟨a,b.symm⟩)))
    go_wp2;go_ret;exact⟨(by rw[<-av.out];rfl),HD.out.more _⟩
  ·obtain rfl:k=M:=by omega
   have aU:decide ((k:Int)<(k:Int))=false:=by simp
   have aW:¬(k:Int)<(k:Int):=by simp
   have aS:=HM.out;have ad:=tE (f:=f) (L:=n) (a:=a) (p:=p) (k:=k) (by omega);have av:=fX (ad.symm.trans HK.out);clear ad aS;go_wp2;go_quiet ((go_at_call 177;exact Calls.quiet_of_same ((aT.out _).mono fun _ _ ⟨a,b⟩=>⟨a,b.symm⟩)))
   go_wp2;go_ret;exact⟨(by rw[<-av.out];rfl),HD.out.more _⟩
theorem Jv(w:aq)(B:Nat)(A:Option au)(n c:Nat)(f:Nat->Nat)(a p:Nat)(hr:gE w B A n f)(hp:p<a)(ha:a<=n)(hn:n<=1000000):
  aw prog 112 #[af A n c,ae aj (a:Int),ae aj (p:Int)] w fun e w'=>e=ao (ae aj ((jk f n a p:Nat):Int))/\iZ w w':=by
 have HR:=fX hr
 clear hr
 go_enter func112,ntmps112
 go_wp2
 go_loopw [7] (fun kv wr=>∃k:Nat,k<=258/\a+k<=n/\kv=ae aj (k:Int)/\aQ (PN f n a p (258-k) k=jk f n a p)/\aQ (iZ w wr)) (fun kv _=>258-(aP kv).toNat)
 case atStart=>exact⟨0,Nat.zero_le _,ha,rfl,fX rfl,fX (iZ.refl w)⟩
 case round=>
  obtain⟨k,hk,aZ,rfl,HK,HD⟩:=hrel;have e2:(a:Int)+(k:Int)=((a+k:Nat):Int):=by omega
  by_cases a1:k<258
  ·have av:decide ((k:Int)<258)=true:=by simp;omega
   by_cases aW:a+k<n
   ·obtain⟨b,o,rfl,_,hc⟩:=(HD.out.rd HR.out).2 (by omega);have c1:=hc (p+k) (by omega);have c2:=hc (a+k) (by omega);have e1:(p:Int)+(k:Int)=((p+k:Nat):Int):=by omega
    obtain⟨P,hP⟩:=fY (p+k);obtain⟨Q,hQ⟩:=fY (a+k);have a2:(P:Int)<(n:Int):=by omega
    have a3:(Q:Int)<(n:Int):=by omega
    have aT:decide ((Q:Int)<(n:Int))=true:=by simp;omega
    have aX:P<n:=by omega
    have aY:Q<n:=by omega
    have a4:(0:Int)<=(P:Int):=by omega
    have aU:(0:Int)<=(Q:Int):=by omega
    rw[<-hP]at c1 e1;rw[<-hQ]at c2 e2;clear hc;by_cases he:f P=f Q
    ·have aV:((f P:Int)==(f Q:Int))=true:=by simp[he]
     have ad:=Db (f:=f) (L:=n) (a:=a) (p:=p) (k:=k) (by omega) (by omega) (by rw[<-hP,<-hQ];exact he);have al:=fX (ad.symm.trans HK.out);have aS:a+(k+1)<=n:=by omega
     clear ad hP hQ he;go_wp2;go_quiet (fail)
     go_wp2;go_roundw
     case rel=>exact⟨k+1,by omega,aS,by go_num,al,fX (HD.out.more _)⟩
     case measure=>simp[aP];omega
    ·have aV:((f P:Int)==(f Q:Int))=false:=by simp;omega
     have ad:=tE (f:=f) (L:=n) (a:=a) (p:=p) (k:=k) (.inr (.inr (by rw[<-hP,<-hQ];exact he)));have al:=fX (ad.symm.trans HK.out);clear ad hP hQ he;go_wp2;go_quiet (fail)
     go_wp2;go_ret;exact⟨(by rw[<-al.out];rfl),HD.out.more _⟩
   ·obtain⟨Q,hQ⟩:=fY (a+k);have aT:decide ((Q:Int)<(n:Int))=false:=by simp;omega
    have a5:Q<=1000258:=by omega
    have aU:(0:Int)<=(Q:Int):=by omega
    have a6:IntKind.i64.wrap (Q:Int)=(Q:Int):=by rw[IntKind.wrap_i64];omega
    have a7:decide (Q<n)=false:=by simp;omega
    have ad:=tE (f:=f) (L:=n) (a:=a) (p:=p) (k:=k) (by omega);have al:=fX (ad.symm.trans HK.out);rw[<-hQ]at e2;clear ad hQ;go_wp2;go_quiet (fail)
    go_wp2;go_ret;exact⟨(by rw[<-al.out];rfl),HD.out.more _⟩
  ·obtain rfl:k=258:=by omega
   have ad:=tE (f:=f) (L:=n) (a:=a) (p:=p) (k:=258) (by omega);have al:=fX (ad.symm.trans HK.out);have av:decide (((258:Nat):Int)<258)=false:=by decide
   clear ad;go_wp2;go_quiet (fail)
   go_wp2;go_ret;exact⟨(by rw[<-al.out];rfl),HD.out.more _⟩
theorem Jw{n:Nat}{f g:Nat->Nat}(h:∀j,j<n->f j=g j):ll n f=ll n g:=by
 unfold ll;rw[List.map_congr_left fun j hj=>by rw[h j (List.mem_range.1 hj)]]
theorem Jy{n:Nat}{f g:Nat->Nat}(hf:∀j,f j<256)(hg:∀j,g j<256)(h:ll n f=ll n g):∀j,j<n->f j=g j:=by
 intro j hj;have h2:=congrArg (fun b:ByteArray=>b.data.toList[j]?) h;simp[ll,strOfNums,hj]at h2;have h3:=congrArg UInt8.toNat h2;simp at h3;have:=hf j;have:=hg j
 omega
def PR(f:Nat->Nat)(x:Nat):Nat->Int
 |0=> -1
 |n+1=>if f n=x then(n:Int)else PR f x n
theorem Dc(f:Nat->Nat)(x:Nat):∀n,(PR f x n= -1/\∀j,j<n->f j≠x)\/(∃m:Nat,PR f x n=(m:Int)/\m<n/\f m=x/\∀j:Nat,m<j->j<n->f j≠x)
 |0=>.inl ⟨rfl,fun j h=>by omega⟩
 |n+1=>by
  by_cases h:f n=x
  ·right;refine⟨n,?_,by omega,h,fun j h1 h2=>by omega⟩;simp only[PR];rw[if_pos h]
  ·have e:PR f x (n+1)=PR f x n:=by simp only[PR];rw[if_neg h]
   rw[e];rcases Dc f x n with⟨h1,h2⟩|⟨m,h1,h2,h3,h4⟩
   ·left;refine⟨h1,fun j hj=>?_⟩;rcases Nat.lt_or_ge j n with q|q
    ·exact h2 j q
    ·rw[show j=n by omega];exact h
   ·right;refine⟨m,h1,by omega,h3,fun j hj ad=>?_⟩;rcases Nat.lt_or_ge j n with q|q
    ·exact h4 j hj q
    ·rw[show j=n by omega];exact h
theorem Jz(w:aq)(B:Nat)(A:Option au)(n c:Nat)(f:Nat->Nat)(x:Nat)(hr:gE w B A n f)(hn:n<=1000000):
  aw prog 188 #[af A n c,ae .u8 (x:Int)] w fun e w'=>e=ao (ae aj (PR f x n))/\w'=w:=by
 have HR:=fX hr
 clear hr
 go_enter func188,ntmps188
 go_wp2
 go_loopw [5] (fun kv wr=>∃m:Nat,m<=n/\kv=ae aj ((m:Int)-1)/\aQ (PR f x n=PR f x m)/\wr=w) (fun kv _=>(aP kv+1).toNat)
 case atStart=>exact⟨n,Nat.le_refl _,by go_num,fX rfl,rfl⟩
 case round=>
  obtain⟨m,hm,rfl,HK,rfl⟩:=hrel;rcases Nat.eq_zero_or_pos m with h0|h0
  ·subst h0;have ad:=fX (HK.out.trans (show PR f x 0= -1 from rfl));go_wp2;go_ret;exact⟨(by rw[ad.out];rfl),rfl⟩
  ·obtain⟨k,rfl⟩:∃k,m=k+1:=⟨m-1,by omega⟩;obtain⟨b,o,rfl,_,hc⟩:=HR.out.2 (by omega);have c1:=hc k (by omega);have e1:((k+1:Nat):Int)-1=(k:Int):=by omega
   have aS:(0:Int)<=(k:Int):=by omega
   have aT:(k:Int)<(n:Int):=by omega
   rw[e1];clear hc e1;by_cases he:f k=x
   ·have av:((f k:Int)==(x:Int))=true:=by simp[he]
    have al:PR f x (k+1)=(k:Int):=by simp only[PR];rw[if_pos he]
    have ad:=fX (HK.out.trans al);clear al he;go_wp2;go_ret;exact⟨(by rw[ad.out];rfl),rfl⟩
   ·have av:((f k:Int)==(x:Int))=false:=by simp;omega
    have al:PR f x (k+1)=PR f x k:=by simp only[PR];rw[if_neg he]
    have ad:=fX (HK.out.trans al);clear al he;go_wp2;go_roundw
    case rel=>exact⟨k,by omega,rfl,ad,trivial⟩
    case measure=>simp[aP]
theorem JA(w:aq)(B:Nat)(A:Option au)(n c:Nat)(f:Nat->Nat)(x:Nat)(hr:gE w B A n f)(hn:n<=1000000):
  aw prog 184 #[af A n c,ae .u8 (x:Int)] w fun e w'=>e=ao (ae aj (PR f x n))/\w'=w:=by
 have HL:=fX (Jz w B A n c f x hr hn)
 clear hr
 go_enter func184,ntmps184
 go_wp2_with fail
 refine HL.out.mono ?_
 rintro e w' ⟨rfl,rfl⟩
 go_wp2
 go_ret
 exact⟨rfl,rfl⟩
theorem JB(w:aq)(B:Nat)(A A2:Option au)(n c m c2:Nat)(f g:Nat->Nat)(hr:gE w B A n f)(ad:gE w B A2 m g):
  aw prog 43 #[af A n c,af A2 m c2] w fun e w'=>e=ao (ai ((ll n f).toList==(ll m g).toList))/\w'=w:=by
 have s1:=od hr c
 have s2:=od ad c2
 go_enter func43,ntmps43
 go_wp2
 go_ret
 exact⟨rfl,rfl⟩
theorem JC{n:Nat}{f g:Nat->Nat}(h:∀j,j<n->f j=g j):((ll n f).toList==(ll n g).toList)=true:=by rw[Jw h];simp
theorem JD{n:Nat}{f g:Nat->Nat}(hf:∀j,f j<256)(hg:∀j,g j<256)(h:¬∀j,j<n->f j=g j):((ll n f).toList==(ll n g).toList)=false:=by
 rw[Bool.eq_false_iff];intro hh;refine h (Jy hf hg ?_);have h2:=eq_of_beq hh;unfold ll at h2⊢;rw[Lib.strOfNums_toList,Lib.strOfNums_toList]at h2;apply ByteArray.ext;apply Array.toList_inj.1;rw[strOfNums_data,strOfNums_data];exact h2
theorem JE(w:aq)(B:Nat)(A A2:Option au)(n c m c2:Nat)(f g:Nat->Nat)(hr:gE w B A n f)(ad:gE w B A2 m g)(av:m<=n)(aS:n<=c):
  aw prog 185 #[af A n c,af A2 m c2] w fun e w'=>e=ao (ai ((ll m f).toList==(ll m g).toList))/\w'=w:=by
 have al:gE w B A m f:=⟨hr.1,fun h=>by
  obtain⟨b,o,h1,h2,h3⟩:=hr.2 (by omega);exact⟨b,o,h1,h2,fun j hj=>h3 j (by omega)⟩⟩
 have HL:=fX (fun(c:Nat)=>JB w B A A2 m c m c2 f g al ad)
 have hd:decide ((m:Int)<=(n:Int))=true:=by simp;omega
 have aT:decide (m<=n)=true:=by simp;omega
 have hi:(m:Int)<=(c:Int):=by omega
 clear hr ad al
 go_enter func185,ntmps185
 go_wp2_with fail
 refine(HL.out _).mono ?_
 rintro e w' ⟨rfl,rfl⟩
 go_wp2
 go_ret
 exact⟨rfl,rfl⟩
def Dd(F:Fence)(n:Nat)(P:az)(g:Nat)(lb:Array ax)(ad:Nat->Array ax)(Kp:aq->aq->Prop)(L:Nat)(w:aq):Prop:=
 ∀(l:Nat) (J:Nat->aq->Prop) (W:aq),aR w.heap.size w W->
  (∀j W1,J j W1->j<L->YieldAt F (n-1) P l (ad j) W1 fun e W'=>e=ao (ai true)/\J (j+1) W'/\Kp W1 W')->
  J 0 W->CallsIn F n P g (#[.func (.yield l) #[] #[]]++lb) W fun e W'=>(∃v,e=ao v)/\J L W'
theorem JF{F:Fence}{n:Nat}{P:az}{g:Operand}{ps:Array Tmp}{assign body:Code}{Q:Exit->Act->aq->Prop}{a:Act}{w:aq}
  (a2:F.round=none) (h1:1<=n) {gf:Nat} {lb:Array ax} (hg:a.eval g=.func (.func gf) #[] lb) (a4:F.fn gf) (eg:∀args w,(callFunc gf args).run P w=.ok (.enter gf args) w)
  {al:Nat->Array ax} {Kp:aq->aq->Prop} {L:Nat} (aW:Dd F (n-1) P gf lb al Kp L w)
  (aX:∀{A B C:aq},Kp A B->Kp B C->Kp A C) (aY:∀(W:aq) (l:Nat) (o o':Obj),w.heap.size<=l->W.heap[l]?=some o->o.isCells=false->o.isWalk=false->Kp W (W.putObj l o')) (a5:∀j,(al j).size=ps.size)
  (I:Nat->aq->Prop) (hI:OwnFrom w.heap.size I) (h0:I 0 w) (a₁:Nat->Act)
  (av:∀(l j:Nat) (W:aq) (K:Act->aq->Prop),K (a₁ j) W->
   assign.wpIn (F.inRound l) (n-1-1) P (Exit.then K (fun _ _ _=>False)) {tmps:=(ps.zip (al j)).foldl (fun t (p,v)=>t.setIfInBounds p v) a.tmps,defers:=[]} W)
  (aU:∀(l j:Nat) (W:aq),I j W->j<L->body.wpIn (F.inRound l) (n-1-1) P (fun e _ W'=>e=.normal/\KeepsOthers W W'/\Kp W W'/\I (j+1) W') (a₁ j) W)
  (aV:∀(D:Nat) (W:aq),w.heap.size<=D->I L W->W.heap[D]?=some (.deferred (some []))->Q .normal {a with defers:={target:=.collected D,args:=#[]}::a.defers} W):
  (Code.rangeFunc g ps assign body).wpIn F n P Q a w:=by
 refine wpIn_rangeFunc fun fn a6=>?_
 rw[a2]
 obtain⟨rec,ad⟩:∃rec:LoopState->Loop,rec=fun st=>{state:=st,pending:=none,fn,tmps:=a.tmps,params:=ps,assign,body,defers:=w.heap.size}:=⟨_,rfl⟩
 obtain⟨D,hD⟩:=fY (w.heap.size)
 obtain⟨W1,aS⟩:=fY ((w.alloc (.deferred (some []))).alloc (.loop (rec .ready)))
 have a7:W1.heap[D+1]?=some (.loop (rec .ready)):=by
  rw[aS,hD];have h:=World.alloc_heap_new (w.alloc (.deferred (some []))) (.loop (rec .ready));rwa[World.size_alloc]at h
 have a8:W1.heap[D]?=some (.deferred (some [])):=by
  rw[aS,hD];exact(Below.heap_alloc _ _ _ (by simp)).trans (World.alloc_heap_new w _)
 have a9:I 0 W1:=by rw[aS];exact hI.alloc _ (hI.alloc _ h0)
 have bd:aR w.heap.size w W1:=by
  rw[aS];exact((Below.refl _ w).alloc fZ _).alloc (by simp) _
 refine⟨D+1,[{target:=.collected D,args:=#[]}],W1,{target:=.fn (.func gf) lb,args:=#[.func (.yield (D+1)) #[] #[]]},W1,gf,#[.func (.yield (D+1)) #[] #[]]++lb,W1,?_,?_,?_,?_,fun _=>h1,?_⟩
 ·rw[aS,ad,hD];exact run_enterLoop_outer _ _ _ _ _
 ·simp only[resolve,hg];simp[go_sem]
 ·intro f' aZ;simp[Target.leads]at aZ;subst aZ;exact a4
 ·simp[invoke,go_sem,eg]
 ·refine(aW (D+1) (fun j W=>I j W/\W.heap[D+1]?=some (.loop (rec .ready))/\W.heap[D]?=some (.deferred (some []))) W1 bd ?_ ⟨a9,a7,a8⟩).mono ?_
  ·rintro j W ⟨hi,hl,hk⟩ hj;have bf:D+1<W.heap.size:=(Array.getElem?_eq_some_iff.1 hl).1;have hy:=run_yield (P:=P) (args:=al j) hl (by rw[ad];exact a5 j);rw[ad]at hy;refine⟨fn,_,assign,body,hy,roundIn_of_wpIn a6 (av _ j W _ ⟨_,run_beginRound hl (by rw[ad]),?_⟩)⟩;have bg:(W.putObj (D+1) (.loop {rec .ready with state:=.busy})).heap[D+1]?=some (.loop {rec .ready with state:=.busy}):=World.putObj_heap_same bf;have bj:(W.putObj (D+1) (.loop {rec .ready with state:=.busy})).heap[D]?=some (.deferred (some [])):=(World.putObj_heap_other (by omega)).trans hk;have bk:Kp W (W.putObj (D+1) (.loop {rec .ready with state:=.busy})):=aY W _ _ _ (by omega) hl rfl rfl;refine wpIn_mono (aU _ j _ (hI.putObj _ hi (by omega) hl rfl) hj) ?_;rintro e a3 W3 ⟨rfl,a1,bl,bm⟩;have aT:=a1.same _ _ bg rfl;have hr:=run_endRound (P:=P) none aT;rw[ad]at hr aT;refine⟨_,_,hr,rfl,⟨hI.putObj _ bm (by omega) aT rfl,?_,(World.putObj_heap_other (by omega)).trans (a1.same _ _ bj rfl)⟩,aX (aX bk bl) (aY W3 _ _ _ (by omega) aT rfl rfl)⟩;rw[World.putObj_heap_same (Array.getElem?_eq_some_iff.1 aT).1,ad];rfl
  ·rintro e W2 ⟨⟨v,rfl⟩,hi,hl,hk⟩;refine⟨none,_,by have h:=run_endLoop (P:=P) hl (by rw[ad];simp);rw[ad]at h;exact h,?_⟩;exact aV D _ (by omega) (hI.putObj _ hi (by omega) hl rfl) ((World.putObj_heap_other (by omega)).trans hk)
def De(F:Fence)(n:Nat)(P:az)(g:Nat)(lb:Array ax)(ad:Nat->Array ax)(ok:Nat->Prop)(Kp:aq->aq->Prop)(L:Nat)(w:aq):Prop:=
 ∀(l:Nat) (J Jx:Nat->aq->Prop) (W:aq),aR w.heap.size w W->
  (∀j W1,J j W1->j<L->¬ok j->J (j+1) W1)->
  (∀j W1,J j W1->j<L->ok j->YieldAt F (n-1) P l (ad j) W1 fun e W'=>(e=ao (ai true)/\J (j+1) W'/\Kp W1 W')\/(e=ao (ai false)/\Jx j W'))->
  (∀W1 W2 j,J j W1->(∃t,W2=W1.drewN t)->J j W2)->
  (∀W1 W2 j,Jx j W1->(∃t,W2=W1.drewN t)->Jx j W2)->
  J 0 W->CallsIn F n P g (#[.func (.yield l) #[] #[]]++lb) W fun e W'=>(∃v,e=ao v)/\(J L W'\/∃j,j<L/\Jx j W')
theorem JG{F:Fence}{n:Nat}{P:az}{g:Operand}{ps:Array Tmp}{assign body:Code}{Q:Exit->Act->aq->Prop}{a:Act}{w:aq}
  (bd:F.round=none) (h1:1<=n) {gf:Nat} {lb:Array ax} (hg:a.eval g=.func (.func gf) #[] lb) (bf:F.fn gf) (eg:∀args w,(callFunc gf args).run P w=.ok (.enter gf args) w)
  {av:Nat->Array ax} {ok:Nat->Prop} {Kp:aq->aq->Prop} {L:Nat} (a5:De F (n-1) P gf lb av ok Kp L w)
  (a6:∀{A B C:aq},Kp A B->Kp B C->Kp A C) (a7:∀(W:aq) (l:Nat) (o o':Obj),w.heap.size<=l->W.heap[l]?=some o->o.isCells=false->o.isWalk=false->Kp W (W.putObj l o')) (bg:∀j,(av j).size=ps.size)
  (je:Exit) (jc:Code) (bj:(je=.ret/\jc=.ret)\/∃id,je=.exit id/\jc=.exit id)
  (I Ix:Nat->aq->Prop) (hI:OwnFrom w.heap.size I) (aV:OwnFrom w.heap.size Ix) (h0:I 0 w) (a₁:Nat->Act)
  (aZ:∀(j:Nat) (W:aq),I j W->j<L->¬ok j->I (j+1) W)
  (aS:∀(l j:Nat) (W:aq) (K:Act->aq->Prop),K (a₁ j) W->
   assign.wpIn (F.inRound l) (n-1-1) P (Exit.then K (fun _ _ _=>False)) {tmps:=(ps.zip (av j)).foldl (fun t (p,v)=>t.setIfInBounds p v) a.tmps,defers:=[]} W)
  (a1:∀(l j:Nat) (W:aq),I j W->j<L->ok j->body.wpIn (F.inRound l) (n-1-1) P (fun e _ W'=>KeepsOthers W W'/\((e=.normal/\Kp W W'/\I (j+1) W')\/(e=je/\Ix j W'))) (a₁ j) W)
  (a2:∀(D:Nat) (W:aq),w.heap.size<=D->I L W->W.heap[D]?=some (.deferred (some []))->Q .normal {a with defers:={target:=.collected D,args:=#[]}::a.defers} W)
  (a4:∀(D j:Nat) (W:aq),w.heap.size<=D->j<L->Ix j W->W.heap[D]?=some (.deferred (some []))->jc.wpIn F n P Q {a with defers:={target:=.collected D,args:=#[]}::a.defers} W):
  (Code.rangeFunc g ps assign body).wpIn F n P Q a w:=by
 refine wpIn_rangeFunc fun fn bk=>?_
 rw[bd]
 obtain⟨rec,ad⟩:∃rec:LoopState->Option Code->Loop,rec=fun st pe=>{state:=st,pending:=pe,fn,tmps:=a.tmps,params:=ps,assign,body,defers:=w.heap.size}:=⟨_,rfl⟩
 obtain⟨D,hD⟩:=fY (w.heap.size)
 obtain⟨W1,aT⟩:=fY ((w.alloc (.deferred (some []))).alloc (.loop (rec .ready none)))
 have bl:W1.heap[D+1]?=some (.loop (rec .ready none)):=by
  rw[aT,hD];have h:=World.alloc_heap_new (w.alloc (.deferred (some []))) (.loop (rec .ready none));rwa[World.size_alloc]at h
 have bm:W1.heap[D]?=some (.deferred (some [])):=by
  rw[aT,hD];exact(Below.heap_alloc _ _ _ (by simp)).trans (World.alloc_heap_new w _)
 have bn:I 0 W1:=by rw[aT];exact hI.alloc _ (hI.alloc _ h0)
 have bp:aR w.heap.size w W1:=by
  rw[aT];exact((Below.refl _ w).alloc fZ _).alloc (by simp) _
 have a8:∀(W:aq) (t:Nat),W.grownBy (W.drewN t) none:=fun W t=>⟨rfl,rfl,rfl,Nat.le_refl _,fun _ _ _=>rfl⟩
 refine⟨D+1,[{target:=.collected D,args:=#[]}],W1,{target:=.fn (.func gf) lb,args:=#[.func (.yield (D+1)) #[] #[]]},W1,gf,#[.func (.yield (D+1)) #[] #[]]++lb,W1,?_,?_,?_,?_,fun _=>h1,?_⟩
 ·rw[aT,ad,hD];exact run_enterLoop_outer _ _ _ _ _
 ·simp only[resolve,hg];simp[go_sem]
 ·intro f' a9;simp[Target.leads]at a9;subst a9;exact bf
 ·simp[invoke,go_sem,eg]
 ·refine(a5 (D+1) (fun j W=>I j W/\W.heap[D+1]?=some (.loop (rec .ready none))/\W.heap[D]?=some (.deferred (some [])))
   (fun j W=>Ix j W/\W.heap[D+1]?=some (.loop (rec .done (some jc)))/\W.heap[D]?=some (.deferred (some []))) W1 bp ?_ ?_ ?_ ?_ ⟨bn,bl,bm⟩).mono ?_
  ·rintro j W ⟨hi,hl,hk⟩ hj bq;exact⟨aZ j W hi hj bq,hl,hk⟩
  ·rintro j W ⟨hi,hl,hk⟩ hj br;have bt:D+1<W.heap.size:=(Array.getElem?_eq_some_iff.1 hl).1;have hy:=run_yield (P:=P) (args:=av j) hl (by rw[ad];exact bg j);rw[ad]at hy;refine⟨fn,_,assign,body,hy,roundIn_of_wpIn bk (aS _ j W _ ⟨_,run_beginRound hl (by rw[ad]),?_⟩)⟩;have bu:(W.putObj (D+1) (.loop {rec .ready none with state:=.busy})).heap[D+1]?=some (.loop {rec .ready none with state:=.busy}):=World.putObj_heap_same bt;have bx:(W.putObj (D+1) (.loop {rec .ready none with state:=.busy})).heap[D]?=some (.deferred (some [])):=(World.putObj_heap_other (by omega)).trans hk;have bz:Kp W (W.putObj (D+1) (.loop {rec .ready none with state:=.busy})):=a7 W _ _ _ (by omega) hl rfl rfl;refine wpIn_mono (a1 _ j _ (hI.putObj _ hi (by omega) hl rfl) hj br) ?_;have fin:∀(jump:Option Code) (W3:aq),KeepsOthers (W.putObj (D+1) (.loop {rec .ready none with state:=.busy})) W3->
     (Instr.endRound (D+1) jump).run P W3=.ok (ai jump.isNone) (W3.putObj (D+1) (.loop (rec (if jump.isNone then .ready else .done) jump)))/\
     W3.heap[D+1]?=some (.loop {rec .ready none with state:=.busy})/\
     (W3.putObj (D+1) (.loop (rec (if jump.isNone then .ready else .done) jump))).heap[D+1]?=some (.loop (rec (if jump.isNone then .ready else .done) jump))/\
     (W3.putObj (D+1) (.loop (rec (if jump.isNone then .ready else .done) jump))).heap[D]?=some (.deferred (some [])):=fun jump W3 aU=>by
    have al:=aU.same _ _ bu rfl
    have:=run_endRound (P:=P) jump al
    rw[ad]at this⊢
    exact⟨this,by rw[ad]at al;exact al,World.putObj_heap_same (Array.getElem?_eq_some_iff.1 al).1,(World.putObj_heap_other (by omega)).trans (aU.same _ _ bx rfl)⟩
   rintro e a3 W3 ⟨aU,h⟩;rcases h with⟨rfl,bA,aW⟩|⟨rfl,aW⟩
   ·obtain⟨hr,al,aX,aY⟩:=fin none W3 aU;exact⟨_,_,hr,.inl ⟨rfl,⟨hI.putObj _ aW (by omega) al rfl,aX,aY⟩,a6 (a6 bz bA) (a7 W3 _ _ _ (by omega) al rfl rfl)⟩⟩
   ·obtain⟨hr,al,aX,aY⟩:=fin (some jc) W3 aU;rcases bj with⟨rfl,rfl⟩|⟨id,rfl,rfl⟩
    ·exact⟨_,_,hr,.inr ⟨rfl,aV.putObj _ aW (by omega) al rfl,aX,aY⟩⟩
    ·exact⟨_,_,hr,.inr ⟨rfl,aV.putObj _ aW (by omega) al rfl,aX,aY⟩⟩
  ·rintro A B j ⟨hi,hl,hk⟩ ⟨t,rfl⟩;exact⟨hI _ _ _ none hi (a8 A t) (fun r e=>by cases e),hl,hk⟩
  ·rintro A B j ⟨hi,hl,hk⟩ ⟨t,rfl⟩;exact⟨aV _ _ _ none hi (a8 A t) (fun r e=>by cases e),hl,hk⟩
  ·rintro e W2 ⟨⟨v,rfl⟩,⟨hi,hl,hk⟩|⟨j,hj,hi,hl,hk⟩⟩
   ·refine⟨none,_,by have h:=run_endLoop (P:=P) hl (by rw[ad];simp);rw[ad]at h;exact h,?_⟩;exact a2 D _ (by omega) (hI.putObj _ hi (by omega) hl rfl) ((World.putObj_heap_other (by omega)).trans hk)
   ·refine⟨some jc,_,by have h:=run_endLoop (P:=P) hl (by rw[ad];simp);rw[ad]at h;exact h,?_⟩;exact a4 D j _ (by omega) hj (aV.putObj _ hi (by omega) hl rfl) ((World.putObj_heap_other (by omega)).trans hk)
def gJ(S:Nat->Prop)(W W':aq):Prop:=∀k,S k->W'.heap[k]?=W.heap[k]?
theorem gJ.refl(S:Nat->Prop)(W:aq):gJ S W W:=fun _ _=>rfl
theorem gJ.tr{S:Nat->Prop}{A B C:aq}(h:gJ S A B)(k:gJ S B C):gJ S A C:=fun i hi=>(k i hi).trans (h i hi)
theorem gJ.cell{S:Nat->Prop}{W W':aq}(h:gJ S W W'){p:au}(hp:S p.block):W'.cell? p=W.cell? p:=by
 simp only[World.cell?,h _ hp]
theorem gE.kept{S:Nat->Prop}{w w':aq}{B n:Nat}{A:Option au}{f:Nat->Nat}(h:gE w B A n f)(hk:gJ S w w')(hS:∀k,k<B->S k):gE w' B A n f:=by
 refine⟨h.1,fun hn=>?_⟩;obtain⟨b,o,rfl,ad,hc⟩:=h.2 hn;exact⟨b,o,rfl,ad,fun j hj=>by rw[hk.cell (p:=⟨b,o+j,none⟩) (hS b ad)];exact hc j hj⟩
theorem JH{F:Fence}{n:Nat}{P:az}{w:aq}{ops:Array aA}{rest:List aA}{o:aA}{a:Act}{Q:Exit->Act->aq->Prop}(hg:o.guard=none)(s x:Operand)(t:aB)
  (hop:o.op=.call {callee:=.builtin .append,args:=#[s,x],argTypes:=#[t,t]}) (v u v':ax) (w':aq) (hs:a.eval s=v) (hx:a.eval x=u)
  (ad:(Builtin.append_ #[t,t] o.type #[v,u]).run P w=.ok v' w') (h:wpListIn F n P ops Q rest (a.put o.dst v') w'):wpListIn F n P ops Q (o::rest) a w:=by
 refine wpListIn_plain hg fun K al=>?_
 unfold Oper.wpIn
 refine⟨?_,?_⟩
 ·simp[Oper.about,hop,resolve,Target.leads,Sem.run_pure]
 ·rw[Oper.semAt_plain F _ _ (by rw[hop];intro c av;cases av)];simp[execOp,hop,resolve,invoke,builtin,hs,hx,ad,Result.andThen];exact al _ _ h
theorem vo{F:Fence}{n:Nat}{P:az}{ops:Array aA}{rest:List aA}{o:aA}{a:Act}{w:aq}{Q:Exit->Act->aq->Prop}(ad:o.guard=none)(ty:aB)(x:Operand)(ho:o.op=.load ty x)
  (g:Nat) (hx:a.eval x=ag (some ⟨g,0,none⟩)) (t:aB) (cs:Array ax) (fr:Nat×Nat) (d:TypeDesc) (hg:w.heap[g]?=some (ak cs t fr))
  (hu:P.underlying ty=some d) (hd:(match d with| .struct _| .array _ _=>true|_=>false)=true) (hi:(P.info? ty).map (·.size)=some cs.size)
  (h:wpListIn F n P ops Q rest (a.put o.dst (ah cs)) w):wpListIn F n P ops Q (o::rest) a w:=by
 refine wpListIn_plain ad fun K al=>?_
 unfold Oper.wpIn
 refine⟨?_,?_⟩
 ·simp[Oper.about,ho]
 ·rw[Oper.semAt_plain F _ _ (by rw[ho];intro c av;cases av)];have:=run_loadVar_row (P:=P) w g t ty cs fr d hg hu hd hi;simp[execOp,ho,hx,Instr.loadAt,Instr.sureAddr,this,Result.andThen];exact al _ _ h
open Go.Shelf
attribute [local go_sem] Oper.semAt_some
theorem vq(f:FuncId):Fence.wide.fn f=True:=rfl
attribute [local simp] vq
theorem yb{w:aq}{B n c lo hi:Nat}{ad:au}{A2:Option au}{f:Nat->Nat}(h:gE w B (some ad) n f)(av:lo<=hi)(aS:hi<=n)(hc:n<=c)(hA:(if c=lo then(some ad:Option au)else some (ad.add lo))=A2):gE w B A2 (hi-lo) (fun k=>f (k+lo)):=by
 refine⟨fun j=>h.1 _,fun hn=>?_⟩;obtain⟨b,o,e,hb,al⟩:=h.2 (by omega);cases e
 rw[if_neg (by omega)]at hA;have e:(⟨b,o,none⟩:au).add lo=⟨b,o+lo,none⟩:=by unfold Addr.add;split<;>simp_all
 rw[e]at hA;refine⟨b,o+lo,hA.symm,hb,fun j hj=>?_⟩;have:=al (j+lo) (by omega);rw[show o+lo+j=o+(j+lo) by omega];exact this
theorem Df{f:Nat->Nat}{L a q:Nat}(h:a+3<=L):3<=jk f L a q↔∀i,i<3->f (q+i)=f (a+i):=by
 obtain⟨h1,h2,h3⟩:=sn f L a q;constructor
 ·intro h i hi;exact(h2 i (by omega)).2
 ·intro hh;rcases Nat.lt_or_ge (jk f L a q) 3 with g|g
  ·rcases h3 with h3|h3
   ·omega
   ·exact absurd ⟨by omega,hh _ g⟩ h3
  ·exact g
theorem JI{f:Nat->Nat}{L a q:Nat}(h:a<=L)(h3:L-a<3):¬3<=jk f L a q:=by
 have:=Bl (f:=f) (p:=q) h;omega
theorem Dg{f:Nat->Nat}{L a q:Nat}(h:f q≠f a):¬3<=jk f L a q:=by
 intro h3;obtain⟨h1,h2,_⟩:=sn f L a q;exact h (h2 0 (by omega)).2
def nT(f:Nat->Nat)(n a j:Nat):Prop:=3<=jk f n a (a-1-j)
def tF(a j:Nat):Array ax:=#[ae aj ((a-1-j:Nat):Int)]
theorem vt{J:Nat->aq->Prop}{ok:Nat->Prop}{L:Nat}(h:∀j W1,J j W1->j<L->¬ok j->J (j+1) W1){j:Nat}{W:aq}(hJ:J j W):∀d,j+d<=L->(∀i,j<=i->i<j+d->¬ok i)->J (j+d) W
 |0,_,_=>hJ
 |d+1,h1,h2=>h (j+d) W (vt h hJ d (by omega) fun i hi ad=>h2 i hi (by omega)) (by omega) (h2 (j+d) (by omega) (by omega))
theorem JJ(fu:Nat)(hn:1<=fu)(l Bb Ba Bs B:Nat)(A:Option au)(n c a z:Nat)(f:Nat->Nat)(S:Nat->Prop)(hS:S Bb/\S Ba/\S Bs)(bz:∀k,k<B->S k)(hlen:n<=1000000)(_:c<=maxLen)(ha:a<=n)(bf:n<=c)(hz:z<=1000000)
  (J Jx:Nat->aq->Prop)
  (bA:∀j W1,J j W1->j<min z a->¬nT f n a j->J (j+1) W1)
  (hY:∀j W1,J j W1->j<min z a->nT f n a j->YieldAt Fence.wide (fu-1) prog l (tF a j) W1 fun e W'=>(e=ao (ai true)/\J (j+1) W'/\gJ S W1 W')\/(e=ao (ai false)/\Jx j W'))
  (hd:∀W1 W2 j,J j W1->(∃t,W2=W1.drewN t)->J j W2)
  (W:aq) (bP:W.cell? ⟨Bb,0,none⟩=some (af A n c)) (bB:W.cell? ⟨Ba,0,none⟩=some (ae aj (a:Int))) (b4:W.cell? ⟨Bs,0,none⟩=some (ae aj (z:Int))) (hr:gE W B A n f) (h0:J 0 W):
  CallsIn Fence.wide fu prog 183 #[.func (.yield l) #[] #[],ag (some ⟨Bb,0,none⟩),ag (some ⟨Ba,0,none⟩),ag (some ⟨Bs,0,none⟩)] W fun e W'=>(∃v,e=ao v)/\(J (min z a) W'\/∃j,j<min z a/\Jx j W'):=by
 obtain⟨M,hM⟩:=fY (min (n-a) 258)
 have bg:=vn W A n c a ha hlen
 rw[<-hM]at bg
 have bj:=fX bg
 refine callsIn_of_wp func183 rfl trivial ?_ rfl
 simp only[ntmps183,List.size_toArray,List.length_cons,List.length_nil,Nat.reduceAdd,Nat.reduceSub,Array.replicate_succ,Array.replicate_zero,List.push_toArray,List.append_toArray,List.nil_append,List.cons_append]
 have HR:=fX hr;have HS:=fX bz;have HM:=fX hM;have HY:=fX hY;have a1:=fX bA;have HD:=fX hd
 clear hr bz hM bg hY bA hd
 by_cases b5:M<3
 ·have bd:∀i,¬nT f n a i:=fun i=>JI ha (by have:=HM.out;omega)
  have aU:=vt a1.out h0 (min z a) (by omega) (fun i _ _=>bd i);rw[Nat.zero_add]at aU;have bk:=fX aU;have bQ:(M:Int)<3:=by omega
  clear bd aU;gi_wp2_with (gi_at_call 177;refine(callsIn_wide.2 bj.out).mono ?_;rintro e w' ⟨rfl,rfl⟩)
  refine aK (results_none rfl _ _ _) rfl ?_;exact⟨⟨_,rfl⟩,.inl bk.out⟩
 ·have bQ:¬(M:Int)<3:=by omega
  have bl:a+3<=n:=by have:=HM.out;omega
  obtain⟨ad,rfl⟩:∃ad,A=some ad:=by
   obtain⟨b,o,h,_⟩:=HR.out.2 (by omega);exact⟨_,h⟩
  obtain⟨A1,hA1⟩:∃A1,(if c=a then(some ad:Option au)else some (ad.add a))=A1:=⟨_,rfl⟩;have aW:=yb (hi:=a+3) HR.out (by omega) bl bf hA1;obtain⟨b1,o1,rfl,bR,bS⟩:=aW.2 (by omega);obtain⟨low,bT⟩:=fY (a-z);obtain⟨L,hL⟩:=fY (min z a);have eL:L=a-low:=by omega
  have b6:low<=a:=by omega
  have bC:(if(a:Int)-(z:Int)<0 then 0 else(a:Int)-(z:Int))=(low:Int):=by split<;>omega
  have e3:a+3-a=3:=by omega
  rw[e3]at aW;rw[<-hL]at HY a1⊢;have bD:=fX aW;have b7:=fX hA1
  clear aW bS bR hL bT;gi_wp2_with (gi_at_call 177;refine(callsIn_wide.2 bj.out).mono ?_;rintro e w' ⟨rfl,rfl⟩)
  gi_region
  simp only[e3];have aS:=HD.out _ _ _ h0 ⟨1,rfl⟩;change J 0 W.drew at aS;have aT:gJ S W W.drew:=gJ.refl S W;obtain⟨V,hV⟩:=fY (W.drew);rw[<-hV]at aS aT⊢;have bU:=(aT.cell (p:=⟨Ba,0,none⟩) hS.2.1).trans bB;have bV:=fX aS;have bW:=fX aT
  clear hV aS aT h0 bC e3 bj hA1;gi_wp2
  gi_loopw [7] (fun kv wr=>∃j:Nat,j<=L/\kv=ae aj ((a-j:Nat):Int)/\aQ (J j wr)/\aQ (gJ S W wr)) (fun kv _=>(aP kv).toNat)
  case atStart=>exact⟨0,Nat.zero_le _,rfl,bV,bW⟩
  case round=>
   obtain⟨j,hj,rfl,HJ,HK⟩:=hrel;obtain⟨g,hg⟩:=fY (a-j);rw[<-hg];have bX:low<=g:=by omega
   have b8:g<=a:=by omega
   have c1:=(HK.out.cell (p:=⟨Bb,0,none⟩) hS.1).trans bP;have c2:=(HK.out.cell (p:=⟨Ba,0,none⟩) hS.2.1).trans bB;have bm:=fX (HR.out.kept HK.out HS.out);have bn:=fX (bD.out.kept HK.out HS.out);obtain⟨b2,o2,a2,_,bE⟩:=bn.out.2 (by omega);injection a2 with a2
   injection a2 with a2 bY _
   subst a2;subst bY;have c3:wr.cell? ⟨b1,o1,none⟩=some (ae .u8 (f a:Int)):=by have h:=bE 0 (by omega);simpa using h
   have a3:=yb (hi:=g) bm.out bX (by omega) bf (if_neg (by omega));obtain⟨R,hR⟩:=fY (PR (fun k=>f (k+low)) (f a) (g-low));have bp:=fun(t cc:Nat)=>JA (wr.drewN t) B (some (ad.add low)) (g-low) cc (fun k=>f (k+low)) (f a) a3 (by omega)
   rw[<-hR]at bp;have bq:=Dc (fun k=>f (k+low)) (f a) (g-low);rw[<-hR]at bq;have bF:=fX bp;have bZ:=fX bq;have HG:=fX hg;have br:=fX eL
   have b9:(low:Int)<=(g:Int):=by omega
   have ca:(g:Int)<=(c:Int):=by omega
   clear bp bq a3 bE hR hg eL;clear bU;gi_wp2
   gi_quiet ((gi_at_call 184;exact CallsIn.quiet_of_same (callsIn_wide.2 (bF.out _ _))))
   have aS:=HD.out _ _ _ HJ.out ⟨nq,rfl⟩;have aT:gJ S W (wr.drewN nq):=HK.out;have a4:gE (wr.drewN nq) B (some ad) n f:=bm.out;have a5:gE (wr.drewN nq) B (some ⟨b1,o1,none⟩) 3 (fun k=>f (k+a)):=bn.out;have v1:(wr.drewN nq).cell? ⟨Bb,0,none⟩=some (af (some ad) n c):=c1;obtain⟨V,hV⟩:=fY (wr.drewN nq);rw[<-hV]at aS aT a4 a5 v1⊢;have bG:=fX aS;have bH:=fX aT
   clear aS aT hV HJ HK bm bn bF c1 c2 c3;rcases bZ.out with⟨rfl,bI⟩|⟨m,rfl,hm,bJ,aV⟩
   ·have a6:∀i,j<=i->i<L->¬nT f n a i:=fun i h1 h2=>by
     have bK:=HG.out;have bL:=br.out
     have h:=bI (a-1-i-low) (by omega);refine Dg ?_;rw[show a-1-i=a-1-i-low+low by omega];exact h
    have aU:=vt a1.out bG.out (L-j) (by omega) (fun i h1 h2=>a6 i h1 (by omega));rw[show j+(L-j)=L by omega]at aU;have bk:=fX aU;clear bI a6 aU a4 a5 v1;gi_wp2
    refine aK (results_none rfl _ _ _) rfl ?_;exact⟨⟨_,rfl⟩,.inl bk.out⟩
   ·obtain⟨p,hp⟩:=fY (low+m);have ep:(low:Int)+(m:Int)=(p:Int):=by omega
    have cb:p<g:=by omega
    have cf:p<n:=by omega
    obtain⟨js,bM⟩:=fY (a-1-p);have av:j<=js/\js<L/\a-1-js=p/\a-(js+1)=p:=by
     have bK:=HG.out;have bL:=br.out;omega
    have a7:=vt a1.out bG.out (js-j) (by omega) (fun i h1 h2=>by
     have bK:=HG.out;have bL:=br.out
     refine Dg ?_;have h:=aV (a-1-i-low) (by omega) (by omega);rw[show a-1-i=a-1-i-low+low by omega];exact h)
    rw[show j+(js-j)=js by omega]at a7;have bt:=yb (hi:=n) a4 (show p<=n by omega) fZ bf (if_neg (by omega));have aY:=JE V B (some (ad.add p)) (some ⟨b1,o1,none⟩) (n-p) (c-p) 3 (c-a) (fun k=>f (k+p)) (fun k=>f (k+a)) bt a5 (by omega) (by omega);have aX:∀k,f k<256:=HR.out.1;have cg:¬(m:Int)<0:=by omega
    have ch:(p:Int)<=(n:Int):=by omega
    by_cases al:∀i,i<3->f (i+p)=f (i+a)
    ·have a8:nT f n a js:=by
      unfold nT;rw[av.2.2.1,Df bl];intro i hi;rw[Nat.add_comm p i,Nat.add_comm a i];exact al i hi
     rw[JC al]at aY;obtain⟨fn,tmps,assign,body,hy,hR⟩:=HY.out _ _ a7 av.2.1 a8;have bN:tF a js=#[ae aj (p:Int)]:=by unfold tF;rw[av.2.2.1]
     rw[bN]at hy;have bu:=fX aY;have b0:=fX hR
     have aZ:=fX av;clear aY hR bt a5 a4 a8 aV bJ bN a7 al aX hp bM av;gi_wp2_with (gi_at_call 185;refine(callsIn_wide.2 bu.out).mono ?_;rintro e w' ⟨rfl,rfl⟩)
     refine b0.out.mono ?_;rintro e W3 (⟨rfl,a9,bO⟩|⟨rfl,hX⟩)
     ·have bx:=fX a9;have b3:=fX (bH.out.tr bO)
      clear a9 bO;gi_wp2
      go_roundw
      case rel=>exact⟨js+1,aZ.out.2.1,by rw[aZ.out.2.2.2],bx,b3⟩
      case measure=>simp[aP];omega
     ·have HX:=fX hX;clear hX;gi_wp2
      refine aK (results_none rfl _ _ _) rfl ?_;exact⟨⟨_,rfl⟩,.inr ⟨js,aZ.out.2.1,HX.out⟩⟩
    ·have a8:¬nT f n a js:=by
      unfold nT;rw[av.2.2.1,Df bl];intro h;refine al fun i hi=>?_
      have:=h i hi;rw[Nat.add_comm p i,Nat.add_comm a i]at this;exact this
     rw[JD (fun k=>aX _) (fun k=>aX _) al]at aY;have a9:=a1.out _ _ a7 av.2.1 a8;have bu:=fX aY;have aZ:=fX av;have bx:=fX a9
     clear aY bt a5 a4 a8 aV bJ a7 al aX hp bM av a9;gi_wp2_with (gi_at_call 185;refine(callsIn_wide.2 bu.out).mono ?_;rintro e w' ⟨rfl,rfl⟩)
     all_goals(try refine⟨(fun f h=>by cases h),?_⟩)
     all_goals(try gi_wp2)
     go_roundw
     case rel=>exact⟨js+1,aZ.out.2.1,by rw[aZ.out.2.2.2],bx,bH⟩
     case measure=>simp[aP];omega
theorem JK(fu:Nat)(hn:1<=fu)(Bb Ba Bs B:Nat)(A:Option au)(n c a z:Nat)(f:Nat->Nat)(S:Nat->Prop)(hS:S Bb/\S Ba/\S Bs)(al:∀k,k<B->S k)(hlen:n<=1000000)(av:c<=maxLen)(ha:a<=n)(aS:n<=c)(hz:z<=1000000)
  (w:aq) (aT:w.cell? ⟨Bb,0,none⟩=some (af A n c)) (aU:w.cell? ⟨Ba,0,none⟩=some (ae aj (a:Int))) (aV:w.cell? ⟨Bs,0,none⟩=some (ae aj (z:Int))) (ad:Bb<w.heap.size/\Ba<w.heap.size/\Bs<w.heap.size) (hB:B<=w.heap.size) (hr:gE w B A n f):
  De Fence.wide fu prog 183 #[ag (some ⟨Bb,0,none⟩),ag (some ⟨Ba,0,none⟩),ag (some ⟨Bs,0,none⟩)] (tF a) (nT f n a) (gJ S) (min z a) w:=fun l J Jx W hW aW hY hd _ h0=>
 JJ fu hn l Bb Ba Bs B A n c a z f S hS al hlen av ha aS hz J Jx aW hY hd W ((hW.cell ad.1).trans aT) ((hW.cell ad.2.1).trans aU) ((hW.cell ad.2.2).trans aV) (hr.below hW hB) h0
theorem JL(n:Nat)(A:Option au)(len cap:Nat)(a z:Nat)(w:aq):
  CallsIn Fence.wide n prog 175 #[af A len cap,ae aj (a:Int),ae aj (z:Int)] w fun e w'=>e=ao (.func (.func 183) #[] #[ag (some ⟨w.heap.size,0,none⟩),ag (some ⟨w.heap.size+1,0,none⟩),ag (some ⟨w.heap.size+2,0,none⟩)])/\
   w'=((w.alloc (ak #[af A len cap] 22)).alloc (ak #[ae aj (a:Int)] 3)).alloc (ak #[ae aj (z:Int)] 3):=by
 refine callsIn_of_wp func175 rfl trivial ?_ rfl
 simp only[ntmps175,List.size_toArray,List.length_cons,List.length_nil,Nat.reduceAdd,Nat.reduceSub,Array.replicate_succ,Array.replicate_zero,List.push_toArray,List.append_toArray,List.nil_append,List.cons_append]
 gi_wp2
 go_ret
 exact⟨rfl,rfl⟩
end Go.Proofs.YtokpcpjnihinfaaGreat
