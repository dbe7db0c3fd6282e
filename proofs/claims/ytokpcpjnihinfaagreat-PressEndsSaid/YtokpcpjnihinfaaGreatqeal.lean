/-
  Words and walks.
-/
import Derived.SizedLaws
import Derived.Test.YtokpcpjnihinfaaGreatqeaa
import Derived.Test.YtokpcpjnihinfaaGreatqeac
import Derived.Test.YtokpcpjnihinfaaGreatqead
import Derived.Test.YtokpcpjnihinfaaGreatqeaf
import Derived.Test.YtokpcpjnihinfaaGreatqeak
set_option maxRecDepth 100000
set_option maxHeartbeats 16000000
namespace Go.Proofs.YtokpcpjnihinfaaGreat
open Value renaming int → ae, slice → af, agg → ah, bool → ai
open IntKind renaming i64 → aj
open Obj renaming cells → ak
open Ending renaming returned → ao
open Go renaming World → aq, Addr → au, Calls → aw, Value → ax, TypeId → aB, wpList_load_mid → aF
open Go.RowKit renaming Hid → aQ, Below → aR
open _root_.Go.Proofs.Tryz
open Go.RowKit Go.ChangeShapes Go.WideShapes Go.ChangeAt Go.Joins
theorem O5(w:aq)(s h m:Int)(z:Bool)(Ah:Option au)(hn hc:Nat)(Aw:Option au)(wn wc:Nat)(Ap:Option au)(pn pc:Nat)(k:Int)(ov:Bool)(f:Nat->Nat)(hr:gE w w.heap.size Ap pn f)(hq:jV s h m=8):
  aw prog 16 #[ah #[ae aj s,ae aj h,ae aj m,ai z,af Ah hn hc,af Aw wn wc,af Ap pn pc,ae aj k,ai ov]] w fun e w'=>e=ao (ae aj 8)/\aR w.heap.size w w':=by
 have HR:=fX hr
 clear hr
 obtain⟨W1,al⟩:=fY (w.alloc (ak #[ae aj s,ae aj h,ae aj m,ai z,af Ah hn hc,af Aw wn wc,af Ap pn pc,ae aj k,ai ov] 32))
 have aU:gi W1 w.heap.size #[ae aj s,ae aj h,ae aj m,ai z,af Ah hn hc,af Aw wn wc,af Ap pn pc,ae aj k,ai ov] 32:=by rw[al];exact gi.new w _ _
 have aV:aR w.heap.size w W1:=by rw[al];exact gC.alloc fZ _
 have aS:=fX aU;have aW:=fX aV;have aX:=fX al
 have aY:aQ (∀V,gi V w.heap.size #[ae aj s,ae aj h,ae aj m,ai z,af Ah hn hc,af Aw wn wc,af Ap pn pc,ae aj k,ai ov] 32->V.rangeAt w.heap.size 0 [ae aj s,ae aj h,ae aj m,ai z]):=fX fun V hx=>kH hx 0 _ (fun i hi=>by rcases i with _|_|_|_|i<;>first|rfl|(simp at hi;omega))
 have aZ:aQ (∀V,gi V w.heap.size #[ae aj s,ae aj h,ae aj m,ai z,af Ah hn hc,af Aw wn wc,af Ap pn pc,ae aj k,ai ov] 32->V.rangeAt w.heap.size 6 [af Ap pn pc,ae aj k]):=fX fun V hx=>kH hx 6 _ (fun i hi=>by rcases i with _|_|i<;>first|rfl|(simp at hi;omega))
 clear aU aV al
 go_enter func16,ntmps16
 go_wp2_with (first
  |(rw[<-aX.out])
  |(refine aF rfl _ _ rfl w.heap.size 0 rfl [ae aj s,ae aj h,ae aj m,ai z] _ (aY.out _ aS.out) underlying27 rfl (pM ..) ?_)
  |fail)
 refine(pG _ s h m z).mono ?_
 rintro e w1 ⟨rfl,aT⟩
 have ad:gi w1 w.heap.size #[ae aj s,ae aj h,ae aj m,ai z,af Ah hn hc,af Aw wn wc,af Ap pn pc,ae aj k,ai ov] 32:=aS.out.below aT aS.out.lt
 have av:aR w.heap.size w w1:=aW.out.trans (aT.mono aW.out.size)
 have a1:=gV ad
 have a2:=iA ad
 have a3:=jH ad
 have a4:=mo ad
 have a5:=jd ad
 have a6:=iX ad
 have a7:=jf ad
 have a8:=iY ad
 have a9:=jE ad
 have HB:=fX av;have HX:=fX ad
 clear aT av ad
 rw[hq]
 go_wp2
 go_ret
 exact⟨rfl,HB.out⟩
theorem O6(w:aq)(s h m:Int)(z:Bool)(Ah:Option au)(hn hc:Nat)(Aw:Option au)(wn wc:Nat)(Ap:Option au)(pn pc:Nat)(k:Int)(ov:Bool)(f:Nat->Nat)(hr:gE w w.heap.size Ap pn f)(hq:jV s h m=0)(hp:jM f pn k=8):
  aw prog 16 #[ah #[ae aj s,ae aj h,ae aj m,ai z,af Ah hn hc,af Aw wn wc,af Ap pn pc,ae aj k,ai ov]] w fun e w'=>e=ao (ae aj 8)/\aR w.heap.size w w':=by
 have HR:=fX hr
 clear hr
 obtain⟨W1,av⟩:=fY (w.alloc (ak #[ae aj s,ae aj h,ae aj m,ai z,af Ah hn hc,af Aw wn wc,af Ap pn pc,ae aj k,ai ov] 32))
 have aX:gi W1 w.heap.size #[ae aj s,ae aj h,ae aj m,ai z,af Ah hn hc,af Aw wn wc,af Ap pn pc,ae aj k,ai ov] 32:=by rw[av];exact gi.new w _ _
 have aY:aR w.heap.size w W1:=by rw[av];exact gC.alloc fZ _
 have aU:=fX aX;have aZ:=fX aY;have a1:=fX av
 have a2:aQ (∀V,gi V w.heap.size #[ae aj s,ae aj h,ae aj m,ai z,af Ah hn hc,af Aw wn wc,af Ap pn pc,ae aj k,ai ov] 32->V.rangeAt w.heap.size 0 [ae aj s,ae aj h,ae aj m,ai z]):=fX fun V hx=>kH hx 0 _ (fun i hi=>by rcases i with _|_|_|_|i<;>first|rfl|(simp at hi;omega))
 have a3:aQ (∀V,gi V w.heap.size #[ae aj s,ae aj h,ae aj m,ai z,af Ah hn hc,af Aw wn wc,af Ap pn pc,ae aj k,ai ov] 32->V.rangeAt w.heap.size 6 [af Ap pn pc,ae aj k]):=fX fun V hx=>kH hx 6 _ (fun i hi=>by rcases i with _|_|i<;>first|rfl|(simp at hi;omega))
 clear aX aY av
 go_enter func16,ntmps16
 go_wp2_with (first
  |(rw[<-a1.out])
  |(refine aF rfl _ _ rfl w.heap.size 0 rfl [ae aj s,ae aj h,ae aj m,ai z] _ (a2.out _ aU.out) underlying27 rfl (pM ..) ?_)
  |fail)
 refine(pG _ s h m z).mono ?_
 rintro e w1 ⟨rfl,aV⟩
 have ad:gi w1 w.heap.size #[ae aj s,ae aj h,ae aj m,ai z,af Ah hn hc,af Aw wn wc,af Ap pn pc,ae aj k,ai ov] 32:=aU.out.below aV aU.out.lt
 have aS:aR w.heap.size w w1:=aZ.out.trans (aV.mono aZ.out.size)
 have a5:=gV ad
 have a6:=iA ad
 have a7:=jH ad
 have a8:=mo ad
 have a9:=jd ad
 have bd:=iX ad
 have bf:=jf ad
 have bg:=iY ad
 have bj:=jE ad
 have HB:=fX aS;have HX:=fX ad
 clear aV aS ad
 rw[hq]
 go_wp2_with (first
  |(refine aF rfl _ _ rfl w.heap.size 6 rfl [af Ap pn pc,ae aj k] _ (a3.out _ HX.out) underlying30 rfl (nQ _ _) ?_)
  |fail)
 refine(pr w1 Ap pn pc f k ((HR.out.below HB.out fZ).more HB.out.size)).mono ?_
 rintro e w2 ⟨rfl,aW⟩
 have al:gi w2 w.heap.size #[ae aj s,ae aj h,ae aj m,ai z,af Ah hn hc,af Aw wn wc,af Ap pn pc,ae aj k,ai ov] 32:=HX.out.below aW HX.out.lt
 have aT:aR w.heap.size w w2:=HB.out.trans (aW.mono HB.out.size)
 have bk:=gV al
 have bl:=iA al
 have bm:=jH al
 have bn:=mo al
 have bp:=jd al
 have bq:=iX al
 have br:=jf al
 have bt:=iY al
 have bu:=jE al
 have a4:=fX aT
 clear aW aT al
 rw[hp]
 go_wp2
 go_ret
 exact⟨rfl,a4.out⟩
theorem O7(w:aq)(s h m:Int)(z:Bool)(Ah:Option au)(hn hc:Nat)(Aw:Option au)(wn wc:Nat)(Ap:Option au)(pn pc:Nat)(k:Int)(ov:Bool)(f:Nat->Nat)(hr:gE w w.heap.size Ap pn f)(hq:jV s h m=0)(hp:jM f pn k=0)(h2:s<(hn:Int)):
  aw prog 16 #[ah #[ae aj s,ae aj h,ae aj m,ai z,af Ah hn hc,af Aw wn wc,af Ap pn pc,ae aj k,ai ov]] w fun e w'=>e=ao (ae aj 8)/\aR w.heap.size w w':=by
 have d2:decide (s<(hn:Int))=true:=decide_eq_true (by omega)
 clear h2
 have HR:=fX hr
 clear hr
 obtain⟨W1,av⟩:=fY (w.alloc (ak #[ae aj s,ae aj h,ae aj m,ai z,af Ah hn hc,af Aw wn wc,af Ap pn pc,ae aj k,ai ov] 32))
 have aX:gi W1 w.heap.size #[ae aj s,ae aj h,ae aj m,ai z,af Ah hn hc,af Aw wn wc,af Ap pn pc,ae aj k,ai ov] 32:=by rw[av];exact gi.new w _ _
 have aY:aR w.heap.size w W1:=by rw[av];exact gC.alloc fZ _
 have aU:=fX aX;have aZ:=fX aY;have a1:=fX av
 have a2:aQ (∀V,gi V w.heap.size #[ae aj s,ae aj h,ae aj m,ai z,af Ah hn hc,af Aw wn wc,af Ap pn pc,ae aj k,ai ov] 32->V.rangeAt w.heap.size 0 [ae aj s,ae aj h,ae aj m,ai z]):=fX fun V hx=>kH hx 0 _ (fun i hi=>by rcases i with _|_|_|_|i<;>first|rfl|(simp at hi;omega))
 have a3:aQ (∀V,gi V w.heap.size #[ae aj s,ae aj h,ae aj m,ai z,af Ah hn hc,af Aw wn wc,af Ap pn pc,ae aj k,ai ov] 32->V.rangeAt w.heap.size 6 [af Ap pn pc,ae aj k]):=fX fun V hx=>kH hx 6 _ (fun i hi=>by rcases i with _|_|i<;>first|rfl|(simp at hi;omega))
 clear aX aY av
 go_enter func16,ntmps16
 go_wp2_with (first
  |(rw[<-a1.out])
  |(refine aF rfl _ _ rfl w.heap.size 0 rfl [ae aj s,ae aj h,ae aj m,ai z] _ (a2.out _ aU.out) underlying27 rfl (pM ..) ?_)
  |fail)
 refine(pG _ s h m z).mono ?_
 rintro e w1 ⟨rfl,aV⟩
 have ad:gi w1 w.heap.size #[ae aj s,ae aj h,ae aj m,ai z,af Ah hn hc,af Aw wn wc,af Ap pn pc,ae aj k,ai ov] 32:=aU.out.below aV aU.out.lt
 have aS:aR w.heap.size w w1:=aZ.out.trans (aV.mono aZ.out.size)
 have a5:=gV ad
 have a6:=iA ad
 have a7:=jH ad
 have a8:=mo ad
 have a9:=jd ad
 have bd:=iX ad
 have bf:=jf ad
 have bg:=iY ad
 have bj:=jE ad
 have HB:=fX aS;have HX:=fX ad
 clear aV aS ad
 rw[hq]
 go_wp2_with (first
  |(refine aF rfl _ _ rfl w.heap.size 6 rfl [af Ap pn pc,ae aj k] _ (a3.out _ HX.out) underlying30 rfl (nQ _ _) ?_)
  |fail)
 refine(pr w1 Ap pn pc f k ((HR.out.below HB.out fZ).more HB.out.size)).mono ?_
 rintro e w2 ⟨rfl,aW⟩
 have al:gi w2 w.heap.size #[ae aj s,ae aj h,ae aj m,ai z,af Ah hn hc,af Aw wn wc,af Ap pn pc,ae aj k,ai ov] 32:=HX.out.below aW HX.out.lt
 have aT:aR w.heap.size w w2:=HB.out.trans (aW.mono HB.out.size)
 have bk:=gV al
 have bl:=iA al
 have bm:=jH al
 have bn:=mo al
 have bp:=jd al
 have bq:=iX al
 have br:=jf al
 have bt:=iY al
 have bu:=jE al
 have a4:=fX aT
 clear aW aT al
 rw[hp]
 go_wp2
 go_ret
 exact⟨rfl,a4.out⟩
theorem O8(w:aq)(s h m:Int)(z:Bool)(Ah:Option au)(hn hc:Nat)(Aw:Option au)(wn wc:Nat)(Ap:Option au)(pn pc:Nat)(k:Int)(ov:Bool)(f:Nat->Nat)(hr:gE w w.heap.size Ap pn f)(hq:jV s h m=0)(hp:jM f pn k=0)(h2:(hn:Int)<=s)(h3:m<=(wn:Int)):
  aw prog 16 #[ah #[ae aj s,ae aj h,ae aj m,ai z,af Ah hn hc,af Aw wn wc,af Ap pn pc,ae aj k,ai ov]] w fun e w'=>e=ao (ae aj 8)/\aR w.heap.size w w':=by
 have d2:decide (s<(hn:Int))=false:=decide_eq_false (by omega)
 have d3:decide (m<=(wn:Int))=true:=decide_eq_true (by omega)
 clear h2 h3
 have HR:=fX hr
 clear hr
 obtain⟨W1,av⟩:=fY (w.alloc (ak #[ae aj s,ae aj h,ae aj m,ai z,af Ah hn hc,af Aw wn wc,af Ap pn pc,ae aj k,ai ov] 32))
 have aX:gi W1 w.heap.size #[ae aj s,ae aj h,ae aj m,ai z,af Ah hn hc,af Aw wn wc,af Ap pn pc,ae aj k,ai ov] 32:=by rw[av];exact gi.new w _ _
 have aY:aR w.heap.size w W1:=by rw[av];exact gC.alloc fZ _
 have aU:=fX aX;have aZ:=fX aY;have a1:=fX av
 have a2:aQ (∀V,gi V w.heap.size #[ae aj s,ae aj h,ae aj m,ai z,af Ah hn hc,af Aw wn wc,af Ap pn pc,ae aj k,ai ov] 32->V.rangeAt w.heap.size 0 [ae aj s,ae aj h,ae aj m,ai z]):=fX fun V hx=>kH hx 0 _ (fun i hi=>by rcases i with _|_|_|_|i<;>first|rfl|(simp at hi;omega))
 have a3:aQ (∀V,gi V w.heap.size #[ae aj s,ae aj h,ae aj m,ai z,af Ah hn hc,af Aw wn wc,af Ap pn pc,ae aj k,ai ov] 32->V.rangeAt w.heap.size 6 [af Ap pn pc,ae aj k]):=fX fun V hx=>kH hx 6 _ (fun i hi=>by rcases i with _|_|i<;>first|rfl|(simp at hi;omega))
 clear aX aY av
 go_enter func16,ntmps16
 go_wp2_with (first
  |(rw[<-a1.out])
  |(refine aF rfl _ _ rfl w.heap.size 0 rfl [ae aj s,ae aj h,ae aj m,ai z] _ (a2.out _ aU.out) underlying27 rfl (pM ..) ?_)
  |fail)
 refine(pG _ s h m z).mono ?_
 rintro e w1 ⟨rfl,aV⟩
 have ad:gi w1 w.heap.size #[ae aj s,ae aj h,ae aj m,ai z,af Ah hn hc,af Aw wn wc,af Ap pn pc,ae aj k,ai ov] 32:=aU.out.below aV aU.out.lt
 have aS:aR w.heap.size w w1:=aZ.out.trans (aV.mono aZ.out.size)
 have a5:=gV ad
 have a6:=iA ad
 have a7:=jH ad
 have a8:=mo ad
 have a9:=jd ad
 have bd:=iX ad
 have bf:=jf ad
 have bg:=iY ad
 have bj:=jE ad
 have HB:=fX aS;have HX:=fX ad
 clear aV aS ad
 rw[hq]
 go_wp2_with (first
  |(refine aF rfl _ _ rfl w.heap.size 6 rfl [af Ap pn pc,ae aj k] _ (a3.out _ HX.out) underlying30 rfl (nQ _ _) ?_)
  |fail)
 refine(pr w1 Ap pn pc f k ((HR.out.below HB.out fZ).more HB.out.size)).mono ?_
 rintro e w2 ⟨rfl,aW⟩
 have al:gi w2 w.heap.size #[ae aj s,ae aj h,ae aj m,ai z,af Ah hn hc,af Aw wn wc,af Ap pn pc,ae aj k,ai ov] 32:=HX.out.below aW HX.out.lt
 have aT:aR w.heap.size w w2:=HB.out.trans (aW.mono HB.out.size)
 have bk:=gV al
 have bl:=iA al
 have bm:=jH al
 have bn:=mo al
 have bp:=jd al
 have bq:=iX al
 have br:=jf al
 have bt:=iY al
 have bu:=jE al
 have a4:=fX aT
 clear aW aT al
 rw[hp]
 go_wp2
 go_ret
 exact⟨rfl,a4.out⟩
theorem O9(w:aq)(s h m:Int)(z:Bool)(Ah:Option au)(hn hc:Nat)(Aw:Option au)(wn wc:Nat)(Ap:Option au)(pn pc:Nat)(k:Int)(ov:Bool)(f:Nat->Nat)(hr:gE w w.heap.size Ap pn f)(hq:jV s h m=0)(hp:jM f pn k=0)(h2:(hn:Int)<=s)(h3:(wn:Int)<m)(h5:7<k):
  aw prog 16 #[ah #[ae aj s,ae aj h,ae aj m,ai z,af Ah hn hc,af Aw wn wc,af Ap pn pc,ae aj k,ai ov]] w fun e w'=>e=ao (ae aj 8)/\aR w.heap.size w w':=by
 have d2:decide (s<(hn:Int))=false:=decide_eq_false (by omega)
 have d3:decide (m<=(wn:Int))=false:=decide_eq_false (by omega)
 have d5:decide (7<k)=true:=decide_eq_true (by omega)
 clear h2 h3 h5
 have HR:=fX hr
 clear hr
 obtain⟨W1,av⟩:=fY (w.alloc (ak #[ae aj s,ae aj h,ae aj m,ai z,af Ah hn hc,af Aw wn wc,af Ap pn pc,ae aj k,ai ov] 32))
 have aX:gi W1 w.heap.size #[ae aj s,ae aj h,ae aj m,ai z,af Ah hn hc,af Aw wn wc,af Ap pn pc,ae aj k,ai ov] 32:=by rw[av];exact gi.new w _ _
 have aY:aR w.heap.size w W1:=by rw[av];exact gC.alloc fZ _
 have aU:=fX aX;have aZ:=fX aY;have a1:=fX av
 have a2:aQ (∀V,gi V w.heap.size #[ae aj s,ae aj h,ae aj m,ai z,af Ah hn hc,af Aw wn wc,af Ap pn pc,ae aj k,ai ov] 32->V.rangeAt w.heap.size 0 [ae aj s,ae aj h,ae aj m,ai z]):=fX fun V hx=>kH hx 0 _ (fun i hi=>by rcases i with _|_|_|_|i<;>first|rfl|(simp at hi;omega))
 have a3:aQ (∀V,gi V w.heap.size #[ae aj s,ae aj h,ae aj m,ai z,af Ah hn hc,af Aw wn wc,af Ap pn pc,ae aj k,ai ov] 32->V.rangeAt w.heap.size 6 [af Ap pn pc,ae aj k]):=fX fun V hx=>kH hx 6 _ (fun i hi=>by rcases i with _|_|i<;>first|rfl|(simp at hi;omega))
 clear aX aY av
 go_enter func16,ntmps16
 go_wp2_with (first
  |(rw[<-a1.out])
  |(refine aF rfl _ _ rfl w.heap.size 0 rfl [ae aj s,ae aj h,ae aj m,ai z] _ (a2.out _ aU.out) underlying27 rfl (pM ..) ?_)
  |fail)
 refine(pG _ s h m z).mono ?_
 rintro e w1 ⟨rfl,aV⟩
 have ad:gi w1 w.heap.size #[ae aj s,ae aj h,ae aj m,ai z,af Ah hn hc,af Aw wn wc,af Ap pn pc,ae aj k,ai ov] 32:=aU.out.below aV aU.out.lt
 have aS:aR w.heap.size w w1:=aZ.out.trans (aV.mono aZ.out.size)
 have a5:=gV ad
 have a6:=iA ad
 have a7:=jH ad
 have a8:=mo ad
 have a9:=jd ad
 have bd:=iX ad
 have bf:=jf ad
 have bg:=iY ad
 have bj:=jE ad
 have HB:=fX aS;have HX:=fX ad
 clear aV aS ad
 rw[hq]
 go_wp2_with (first
  |(refine aF rfl _ _ rfl w.heap.size 6 rfl [af Ap pn pc,ae aj k] _ (a3.out _ HX.out) underlying30 rfl (nQ _ _) ?_)
  |fail)
 refine(pr w1 Ap pn pc f k ((HR.out.below HB.out fZ).more HB.out.size)).mono ?_
 rintro e w2 ⟨rfl,aW⟩
 have al:gi w2 w.heap.size #[ae aj s,ae aj h,ae aj m,ai z,af Ah hn hc,af Aw wn wc,af Ap pn pc,ae aj k,ai ov] 32:=HX.out.below aW HX.out.lt
 have aT:aR w.heap.size w w2:=HB.out.trans (aW.mono HB.out.size)
 have bk:=gV al
 have bl:=iA al
 have bm:=jH al
 have bn:=mo al
 have bp:=jd al
 have bq:=iX al
 have br:=jf al
 have bt:=iY al
 have bu:=jE al
 have a4:=fX aT
 clear aW aT al
 rw[hp]
 go_wp2
 go_ret
 exact⟨rfl,a4.out⟩
theorem Pa(w:aq)(s h m:Int)(z:Bool)(Ah:Option au)(hn hc:Nat)(Aw:Option au)(wn wc:Nat)(Ap:Option au)(pn pc:Nat)(k:Int)(f:Nat->Nat)(hr:gE w w.heap.size Ap pn f)(hq:jV s h m=0)(hp:jM f pn k=0)(h2:(hn:Int)<=s)(h3:(wn:Int)<m)(h5:k<=7):
  aw prog 16 #[ah #[ae aj s,ae aj h,ae aj m,ai z,af Ah hn hc,af Aw wn wc,af Ap pn pc,ae aj k,ai false]] w fun e w'=>e=ao (ae aj 0)/\aR w.heap.size w w':=by
 have d2:decide (s<(hn:Int))=false:=decide_eq_false (by omega)
 have d3:decide (m<=(wn:Int))=false:=decide_eq_false (by omega)
 have d5:decide (7<k)=false:=decide_eq_false (by omega)
 clear h2 h3 h5
 have HR:=fX hr
 clear hr
 obtain⟨W1,av⟩:=fY (w.alloc (ak #[ae aj s,ae aj h,ae aj m,ai z,af Ah hn hc,af Aw wn wc,af Ap pn pc,ae aj k,ai false] 32))
 have aX:gi W1 w.heap.size #[ae aj s,ae aj h,ae aj m,ai z,af Ah hn hc,af Aw wn wc,af Ap pn pc,ae aj k,ai false] 32:=by rw[av];exact gi.new w _ _
 have aY:aR w.heap.size w W1:=by rw[av];exact gC.alloc fZ _
 have aU:=fX aX;have aZ:=fX aY;have a1:=fX av
 have a2:aQ (∀V,gi V w.heap.size #[ae aj s,ae aj h,ae aj m,ai z,af Ah hn hc,af Aw wn wc,af Ap pn pc,ae aj k,ai false] 32->V.rangeAt w.heap.size 0 [ae aj s,ae aj h,ae aj m,ai z]):=fX fun V hx=>kH hx 0 _ (fun i hi=>by rcases i with _|_|_|_|i<;>first|rfl|(simp at hi;omega))
 have a3:aQ (∀V,gi V w.heap.size #[ae aj s,ae aj h,ae aj m,ai z,af Ah hn hc,af Aw wn wc,af Ap pn pc,ae aj k,ai false] 32->V.rangeAt w.heap.size 6 [af Ap pn pc,ae aj k]):=fX fun V hx=>kH hx 6 _ (fun i hi=>by rcases i with _|_|i<;>first|rfl|(simp at hi;omega))
 clear aX aY av
 go_enter func16,ntmps16
 go_wp2_with (first
  |(rw[<-a1.out])
  |(refine aF rfl _ _ rfl w.heap.size 0 rfl [ae aj s,ae aj h,ae aj m,ai z] _ (a2.out _ aU.out) underlying27 rfl (pM ..) ?_)
  |fail)
 refine(pG _ s h m z).mono ?_
 rintro e w1 ⟨rfl,aV⟩
 have ad:gi w1 w.heap.size #[ae aj s,ae aj h,ae aj m,ai z,af Ah hn hc,af Aw wn wc,af Ap pn pc,ae aj k,ai false] 32:=aU.out.below aV aU.out.lt
 have aS:aR w.heap.size w w1:=aZ.out.trans (aV.mono aZ.out.size)
 have a5:=gV ad
 have a6:=iA ad
 have a7:=jH ad
 have a8:=mo ad
 have a9:=jd ad
 have bd:=iX ad
 have bf:=jf ad
 have bg:=iY ad
 have bj:=jE ad
 have HB:=fX aS;have HX:=fX ad
 clear aV aS ad
 rw[hq]
 go_wp2_with (first
  |(refine aF rfl _ _ rfl w.heap.size 6 rfl [af Ap pn pc,ae aj k] _ (a3.out _ HX.out) underlying30 rfl (nQ _ _) ?_)
  |fail)
 refine(pr w1 Ap pn pc f k ((HR.out.below HB.out fZ).more HB.out.size)).mono ?_
 rintro e w2 ⟨rfl,aW⟩
 have al:gi w2 w.heap.size #[ae aj s,ae aj h,ae aj m,ai z,af Ah hn hc,af Aw wn wc,af Ap pn pc,ae aj k,ai false] 32:=HX.out.below aW HX.out.lt
 have aT:aR w.heap.size w w2:=HB.out.trans (aW.mono HB.out.size)
 have bk:=gV al
 have bl:=iA al
 have bm:=jH al
 have bn:=mo al
 have bp:=jd al
 have bq:=iX al
 have br:=jf al
 have bt:=iY al
 have bu:=jE al
 have a4:=fX aT
 clear aW aT al
 rw[hp]
 go_wp2
 go_ret
 exact⟨rfl,a4.out⟩
theorem Pb(w:aq)(s h m:Int)(z:Bool)(Ah:Option au)(hn hc:Nat)(Aw:Option au)(wn wc:Nat)(Ap:Option au)(pn pc:Nat)(k:Int)(f:Nat->Nat)(hr:gE w w.heap.size Ap pn f)(hq:jV s h m=0)(hp:jM f pn k=0)(h2:(hn:Int)<=s)(h3:(wn:Int)<m)(h5:k<=7)(h6:0<wn):
  aw prog 16 #[ah #[ae aj s,ae aj h,ae aj m,ai z,af Ah hn hc,af Aw wn wc,af Ap pn pc,ae aj k,ai true]] w fun e w'=>e=ao (ae aj 8)/\aR w.heap.size w w':=by
 have d2:decide (s<(hn:Int))=false:=decide_eq_false (by omega)
 have d3:decide (m<=(wn:Int))=false:=decide_eq_false (by omega)
 have d5:decide (7<k)=false:=decide_eq_false (by omega)
 have d6:decide ((0:Int)<(wn:Int))=true:=decide_eq_true (by omega)
 have a5:decide (0<wn)=true:=decide_eq_true (by omega)
 clear h2 h3 h5
 have HR:=fX hr
 clear hr
 obtain⟨W1,av⟩:=fY (w.alloc (ak #[ae aj s,ae aj h,ae aj m,ai z,af Ah hn hc,af Aw wn wc,af Ap pn pc,ae aj k,ai true] 32))
 have aX:gi W1 w.heap.size #[ae aj s,ae aj h,ae aj m,ai z,af Ah hn hc,af Aw wn wc,af Ap pn pc,ae aj k,ai true] 32:=by rw[av];exact gi.new w _ _
 have aY:aR w.heap.size w W1:=by rw[av];exact gC.alloc fZ _
 have aU:=fX aX;have aZ:=fX aY;have a1:=fX av
 have a2:aQ (∀V,gi V w.heap.size #[ae aj s,ae aj h,ae aj m,ai z,af Ah hn hc,af Aw wn wc,af Ap pn pc,ae aj k,ai true] 32->V.rangeAt w.heap.size 0 [ae aj s,ae aj h,ae aj m,ai z]):=fX fun V hx=>kH hx 0 _ (fun i hi=>by rcases i with _|_|_|_|i<;>first|rfl|(simp at hi;omega))
 have a3:aQ (∀V,gi V w.heap.size #[ae aj s,ae aj h,ae aj m,ai z,af Ah hn hc,af Aw wn wc,af Ap pn pc,ae aj k,ai true] 32->V.rangeAt w.heap.size 6 [af Ap pn pc,ae aj k]):=fX fun V hx=>kH hx 6 _ (fun i hi=>by rcases i with _|_|i<;>first|rfl|(simp at hi;omega))
 clear aX aY av
 go_enter func16,ntmps16
 go_wp2_with (first
  |(rw[<-a1.out])
  |(refine aF rfl _ _ rfl w.heap.size 0 rfl [ae aj s,ae aj h,ae aj m,ai z] _ (a2.out _ aU.out) underlying27 rfl (pM ..) ?_)
  |fail)
 refine(pG _ s h m z).mono ?_
 rintro e w1 ⟨rfl,aV⟩
 have ad:gi w1 w.heap.size #[ae aj s,ae aj h,ae aj m,ai z,af Ah hn hc,af Aw wn wc,af Ap pn pc,ae aj k,ai true] 32:=aU.out.below aV aU.out.lt
 have aS:aR w.heap.size w w1:=aZ.out.trans (aV.mono aZ.out.size)
 have a6:=gV ad
 have a7:=iA ad
 have a8:=jH ad
 have a9:=mo ad
 have bd:=jd ad
 have bf:=iX ad
 have bg:=jf ad
 have bj:=iY ad
 have bk:=jE ad
 have HB:=fX aS;have HX:=fX ad
 clear aV aS ad
 rw[hq]
 go_wp2_with (first
  |(refine aF rfl _ _ rfl w.heap.size 6 rfl [af Ap pn pc,ae aj k] _ (a3.out _ HX.out) underlying30 rfl (nQ _ _) ?_)
  |fail)
 refine(pr w1 Ap pn pc f k ((HR.out.below HB.out fZ).more HB.out.size)).mono ?_
 rintro e w2 ⟨rfl,aW⟩
 have al:gi w2 w.heap.size #[ae aj s,ae aj h,ae aj m,ai z,af Ah hn hc,af Aw wn wc,af Ap pn pc,ae aj k,ai true] 32:=HX.out.below aW HX.out.lt
 have aT:aR w.heap.size w w2:=HB.out.trans (aW.mono HB.out.size)
 have bl:=gV al
 have bm:=iA al
 have bn:=jH al
 have bp:=mo al
 have bq:=jd al
 have br:=iX al
 have bt:=jf al
 have bu:=iY al
 have bx:=jE al
 have a4:=fX aT
 clear aW aT al
 rw[hp]
 go_wp2
 go_ret
 exact⟨rfl,a4.out⟩
theorem Pc(w:aq)(s h m:Int)(z:Bool)(Ah:Option au)(hn hc:Nat)(Aw:Option au)(wn wc:Nat)(Ap:Option au)(pn pc:Nat)(k:Int)(f:Nat->Nat)(hr:gE w w.heap.size Ap pn f)(hq:jV s h m=0)(hp:jM f pn k=0)(h2:(hn:Int)<=s)(h3:(wn:Int)<m)(h5:k<=7)(h6:¬0<wn)(h7:0<k):
  aw prog 16 #[ah #[ae aj s,ae aj h,ae aj m,ai z,af Ah hn hc,af Aw wn wc,af Ap pn pc,ae aj k,ai true]] w fun e w'=>e=ao (ae aj 8)/\aR w.heap.size w w':=by
 have d2:decide (s<(hn:Int))=false:=decide_eq_false (by omega)
 have d3:decide (m<=(wn:Int))=false:=decide_eq_false (by omega)
 have d5:decide (7<k)=false:=decide_eq_false (by omega)
 have d6:decide ((0:Int)<(wn:Int))=false:=decide_eq_false (by omega)
 have a5:decide (0<wn)=false:=decide_eq_false (by omega)
 have d7:decide ((0:Int)<k)=true:=decide_eq_true (by omega)
 clear h2 h3 h5
 have HR:=fX hr
 clear hr
 obtain⟨W1,av⟩:=fY (w.alloc (ak #[ae aj s,ae aj h,ae aj m,ai z,af Ah hn hc,af Aw wn wc,af Ap pn pc,ae aj k,ai true] 32))
 have aX:gi W1 w.heap.size #[ae aj s,ae aj h,ae aj m,ai z,af Ah hn hc,af Aw wn wc,af Ap pn pc,ae aj k,ai true] 32:=by rw[av];exact gi.new w _ _
 have aY:aR w.heap.size w W1:=by rw[av];exact gC.alloc fZ _
 have aU:=fX aX;have aZ:=fX aY;have a1:=fX av
 have a2:aQ (∀V,gi V w.heap.size #[ae aj s,ae aj h,ae aj m,ai z,af Ah hn hc,af Aw wn wc,af Ap pn pc,ae aj k,ai true] 32->V.rangeAt w.heap.size 0 [ae aj s,ae aj h,ae aj m,ai z]):=fX fun V hx=>kH hx 0 _ (fun i hi=>by rcases i with _|_|_|_|i<;>first|rfl|(simp at hi;omega))
 have a3:aQ (∀V,gi V w.heap.size #[ae aj s,ae aj h,ae aj m,ai z,af Ah hn hc,af Aw wn wc,af Ap pn pc,ae aj k,ai true] 32->V.rangeAt w.heap.size 6 [af Ap pn pc,ae aj k]):=fX fun V hx=>kH hx 6 _ (fun i hi=>by rcases i with _|_|i<;>first|rfl|(simp at hi;omega))
 clear aX aY av
 go_enter func16,ntmps16
 go_wp2_with (first
  |(rw[<-a1.out])
  |(refine aF rfl _ _ rfl w.heap.size 0 rfl [ae aj s,ae aj h,ae aj m,ai z] _ (a2.out _ aU.out) underlying27 rfl (pM ..) ?_)
  |fail)
 refine(pG _ s h m z).mono ?_
 rintro e w1 ⟨rfl,aV⟩
 have ad:gi w1 w.heap.size #[ae aj s,ae aj h,ae aj m,ai z,af Ah hn hc,af Aw wn wc,af Ap pn pc,ae aj k,ai true] 32:=aU.out.below aV aU.out.lt
 have aS:aR w.heap.size w w1:=aZ.out.trans (aV.mono aZ.out.size)
 have a6:=gV ad
 have a7:=iA ad
 have a8:=jH ad
 have a9:=mo ad
 have bd:=jd ad
 have bf:=iX ad
 have bg:=jf ad
 have bj:=iY ad
 have bk:=jE ad
 have HB:=fX aS;have HX:=fX ad
 clear aV aS ad
 rw[hq]
 go_wp2_with (first
  |(refine aF rfl _ _ rfl w.heap.size 6 rfl [af Ap pn pc,ae aj k] _ (a3.out _ HX.out) underlying30 rfl (nQ _ _) ?_)
  |fail)
 refine(pr w1 Ap pn pc f k ((HR.out.below HB.out fZ).more HB.out.size)).mono ?_
 rintro e w2 ⟨rfl,aW⟩
 have al:gi w2 w.heap.size #[ae aj s,ae aj h,ae aj m,ai z,af Ah hn hc,af Aw wn wc,af Ap pn pc,ae aj k,ai true] 32:=HX.out.below aW HX.out.lt
 have aT:aR w.heap.size w w2:=HB.out.trans (aW.mono HB.out.size)
 have bl:=gV al
 have bm:=iA al
 have bn:=jH al
 have bp:=mo al
 have bq:=jd al
 have br:=iX al
 have bt:=jf al
 have bu:=iY al
 have bx:=jE al
 have a4:=fX aT
 clear aW aT al
 rw[hp]
 go_wp2
 go_ret
 exact⟨rfl,a4.out⟩
theorem Pd(w:aq)(s h m:Int)(z:Bool)(Ah:Option au)(hn hc:Nat)(Aw:Option au)(wn wc:Nat)(Ap:Option au)(pn pc:Nat)(k:Int)(f:Nat->Nat)(hr:gE w w.heap.size Ap pn f)(hq:jV s h m=0)(hp:jM f pn k=0)(h2:(hn:Int)<=s)(h3:(wn:Int)<m)(h6:¬0<wn)(h7:¬0<k):
  aw prog 16 #[ah #[ae aj s,ae aj h,ae aj m,ai z,af Ah hn hc,af Aw wn wc,af Ap pn pc,ae aj k,ai true]] w fun e w'=>e=ao (ae aj 0)/\aR w.heap.size w w':=by
 have d2:decide (s<(hn:Int))=false:=decide_eq_false (by omega)
 have d3:decide (m<=(wn:Int))=false:=decide_eq_false (by omega)
 have d5:decide (7<k)=false:=decide_eq_false (by omega)
 have d6:decide ((0:Int)<(wn:Int))=false:=decide_eq_false (by omega)
 have a5:decide (0<wn)=false:=decide_eq_false (by omega)
 have d7:decide ((0:Int)<k)=false:=decide_eq_false (by omega)
 clear h2 h3
 have HR:=fX hr
 clear hr
 obtain⟨W1,av⟩:=fY (w.alloc (ak #[ae aj s,ae aj h,ae aj m,ai z,af Ah hn hc,af Aw wn wc,af Ap pn pc,ae aj k,ai true] 32))
 have aX:gi W1 w.heap.size #[ae aj s,ae aj h,ae aj m,ai z,af Ah hn hc,af Aw wn wc,af Ap pn pc,ae aj k,ai true] 32:=by rw[av];exact gi.new w _ _
 have aY:aR w.heap.size w W1:=by rw[av];exact gC.alloc fZ _
 have aU:=fX aX;have aZ:=fX aY;have a1:=fX av
 have a2:aQ (∀V,gi V w.heap.size #[ae aj s,ae aj h,ae aj m,ai z,af Ah hn hc,af Aw wn wc,af Ap pn pc,ae aj k,ai true] 32->V.rangeAt w.heap.size 0 [ae aj s,ae aj h,ae aj m,ai z]):=fX fun V hx=>kH hx 0 _ (fun i hi=>by rcases i with _|_|_|_|i<;>first|rfl|(simp at hi;omega))
 have a3:aQ (∀V,gi V w.heap.size #[ae aj s,ae aj h,ae aj m,ai z,af Ah hn hc,af Aw wn wc,af Ap pn pc,ae aj k,ai true] 32->V.rangeAt w.heap.size 6 [af Ap pn pc,ae aj k]):=fX fun V hx=>kH hx 6 _ (fun i hi=>by rcases i with _|_|i<;>first|rfl|(simp at hi;omega))
 clear aX aY av
 go_enter func16,ntmps16
 go_wp2_with (first
  |(rw[<-a1.out])
  |(refine aF rfl _ _ rfl w.heap.size 0 rfl [ae aj s,ae aj h,ae aj m,ai z] _ (a2.out _ aU.out) underlying27 rfl (pM ..) ?_)
  |fail)
 refine(pG _ s h m z).mono ?_
 rintro e w1 ⟨rfl,aV⟩
 have ad:gi w1 w.heap.size #[ae aj s,ae aj h,ae aj m,ai z,af Ah hn hc,af Aw wn wc,af Ap pn pc,ae aj k,ai true] 32:=aU.out.below aV aU.out.lt
 have aS:aR w.heap.size w w1:=aZ.out.trans (aV.mono aZ.out.size)
 have a6:=gV ad
 have a7:=iA ad
 have a8:=jH ad
 have a9:=mo ad
 have bd:=jd ad
 have bf:=iX ad
 have bg:=jf ad
 have bj:=iY ad
 have bk:=jE ad
 have HB:=fX aS;have HX:=fX ad
 clear aV aS ad
 rw[hq]
 go_wp2_with (first
  |(refine aF rfl _ _ rfl w.heap.size 6 rfl [af Ap pn pc,ae aj k] _ (a3.out _ HX.out) underlying30 rfl (nQ _ _) ?_)
  |fail)
 refine(pr w1 Ap pn pc f k ((HR.out.below HB.out fZ).more HB.out.size)).mono ?_
 rintro e w2 ⟨rfl,aW⟩
 have al:gi w2 w.heap.size #[ae aj s,ae aj h,ae aj m,ai z,af Ah hn hc,af Aw wn wc,af Ap pn pc,ae aj k,ai true] 32:=HX.out.below aW HX.out.lt
 have aT:aR w.heap.size w w2:=HB.out.trans (aW.mono HB.out.size)
 have bl:=gV al
 have bm:=iA al
 have bn:=jH al
 have bp:=mo al
 have bq:=jd al
 have br:=iX al
 have bt:=jf al
 have bu:=iY al
 have bx:=jE al
 have a4:=fX aT
 clear aW aT al
 rw[hp]
 go_wp2
 go_ret
 exact⟨rfl,a4.out⟩
theorem Pe(w:aq)(s h m:Int)(z:Bool)(Ah:Option au)(hn hc:Nat)(Aw:Option au)(wn wc:Nat)(Ap:Option au)(pn pc:Nat)(k:Int)(ov:Bool)(f:Nat->Nat)(hr:gE w w.heap.size Ap pn f):
  aw prog 16 #[ah #[ae aj s,ae aj h,ae aj m,ai z,af Ah hn hc,af Aw wn wc,af Ap pn pc,ae aj k,ai ov]] w fun e w'=>e=ao (ae aj (if lr (ig s h m) s m hn wn (jz f pn k) k ov then 0 else 8))/\aR w.heap.size w w':=by
 have key:∀(b:Bool) (v:Int),lr (ig s h m) s m hn wn (jz f pn k) k ov=b->v=(if b then 0 else 8)->aw prog 16 #[ah #[ae aj s,ae aj h,ae aj m,ai z,af Ah hn hc,af Aw wn wc,af Ap pn pc,ae aj k,ai ov]] w (fun e w'=>e=ao (ae aj v)/\aR w.heap.size w w')->aw prog 16 #[ah #[ae aj s,ae aj h,ae aj m,ai z,af Ah hn hc,af Aw wn wc,af Ap pn pc,ae aj k,ai ov]] w (fun e w'=>e=ao (ae aj (if lr (ig s h m) s m hn wn (jz f pn k) k ov then 0 else 8))/\aR w.heap.size w w'):=fun b v e1 e2 hc=>by rw[e1,<-e2];exact hc
 cases hq:ig s h m with
 |false=>rw[hq]at key;exact key false 8 rfl rfl (O5 w s h m z Ah hn hc Aw wn wc Ap pn pc k ov f hr (by unfold jV;rw[hq];rfl))
 |true=>
  have sq:jV s h m=0:=by unfold jV;rw[hq];rfl
  rw[hq]at key;cases hp:jz f pn k with
  |false=>rw[hp]at key;exact key false 8 (by simp[lr]) rfl (O6 w s h m z Ah hn hc Aw wn wc Ap pn pc k ov f hr sq (by unfold jM;rw[hp];rfl))
  |true=>
   have pq:jM f pn k=0:=by unfold jM;rw[hp];rfl
   have ad:0<=k:=by
    obtain⟨K,e,_⟩:=uU hr.1 pq;omega
   rw[hp]at key;by_cases h2:(hn:Int)<=s
   ·by_cases h3:(wn:Int)<m
    ·by_cases h5:k<=7
     ·cases ov with
      |false=>exact key true 0 (by simp[lr,h2,h3,h5]) rfl (Pa w s h m z Ah hn hc Aw wn wc Ap pn pc k f hr sq pq h2 h3 h5)
      |true=>
       by_cases h6:0<wn
       ·exact key false 8 (by simp[lr];omega) rfl (Pb w s h m z Ah hn hc Aw wn wc Ap pn pc k f hr sq pq h2 h3 h5 h6)
       ·by_cases h7:0<k
        ·exact key false 8 (by simp[lr];omega) rfl (Pc w s h m z Ah hn hc Aw wn wc Ap pn pc k f hr sq pq h2 h3 h5 h6 h7)
        ·have e6:wn=0:=by omega
         have e7:k=0:=by omega
         exact key true 0 (by subst e6;subst e7;simp[lr,h2];omega) rfl (Pd w s h m z Ah hn hc Aw wn wc Ap pn pc k f hr sq pq h2 h3 h6 h7)
     ·exact key false 8 (by simp[lr,h5]) rfl (O9 w s h m z Ah hn hc Aw wn wc Ap pn pc k ov f hr sq pq h2 h3 (by omega))
    ·exact key false 8 (by simp[lr,h3]) rfl (O8 w s h m z Ah hn hc Aw wn wc Ap pn pc k ov f hr sq pq h2 (by omega))
   ·exact key false 8 (by simp[lr,h2]) rfl (O7 w s h m z Ah hn hc Aw wn wc Ap pn pc k ov f hr sq pq (by omega))
theorem Fy:tL:=by
 intro w p Ah hc Aw wc Ap pc hp;exact Pe w p.s p.h p.m p.z Ah p.hist.length hc Aw p.wait.length wc Ap p.gm.length pc p.k p.gO (gj p.gm) hp.gm.1
theorem Pf:yp:=OZ Fy
theorem Pg:yq:=O0 Fy
section
variable {H:Type} {enc:aB×ax->H} {P:Program} {w:aq} {base:Nat} {spare:Nat->Bool} {held:Bool}
theorem Fz{t:aB}{f0 f1 f2 f3 f4:Field}{fuel:Nat}{cs:List ax}{x:DataW H×List MemPlace}(ht:P.underlying t=some (.struct #[f0,f1,f2,f3,f4]))(h:DataW.trod enc P w base spare held fuel t cs=some x):
  ∃y0 y1 y2 y3 y4 n,x=(.agg [y0.1,y1.1,y2.1,y3.1,y4.1],y0.2++(y1.2++(y2.2++(y3.2++y4.2))))/\cs.length=P.cellsOf t/\DataW.trod enc P w base spare held n f0.type ((cs.drop f0.offset).take (P.cellsOf f0.type))=some y0/\
   DataW.trod enc P w base spare held n f1.type ((cs.drop f1.offset).take (P.cellsOf f1.type))=some y1/\DataW.trod enc P w base spare held n f2.type ((cs.drop f2.offset).take (P.cellsOf f2.type))=some y2/\
   DataW.trod enc P w base spare held n f3.type ((cs.drop f3.offset).take (P.cellsOf f3.type))=some y3/\DataW.trod enc P w base spare held n f4.type ((cs.drop f4.offset).take (P.cellsOf f4.type))=some y4:=by
 obtain⟨xs,n,_,rfl,hl,hlen,hf⟩:=DataW.trod_struct ht h
 match xs,hlen with
 |[y0,y1,y2,y3,y4],_=>exact⟨y0,y1,y2,y3,y4,n,by simp,hl,by simpa using hf 0 f0 rfl,by simpa using hf 1 f1 rfl,by simpa using hf 2 f2 rfl,by simpa using hf 3 f3 rfl,by simpa using hf 4 f4 rfl⟩
end
theorem Ph:prog.cellsOf 32=9:=by kernel_rfl
theorem Pj:prog.cellsOf 27=4:=by kernel_rfl
theorem FC:prog.cellsOf 30=2:=by kernel_rfl
theorem zD:prog.cellsOf 22=1:=by kernel_rfl
theorem FD:prog.cellsOf 4=1:=by kernel_rfl
theorem FE:prog.cellsOf 3=1:=by kernel_rfl
theorem Pk{cs:Array ax}(h:cs.size=9):∃c0 c1 c2 c3 c4 c5 c6 c7 c8,cs=#[c0,c1,c2,c3,c4,c5,c6,c7,c8]:=by
 obtain⟨l⟩:=cs;match l,h with
 |[c0,c1,c2,c3,c4,c5,c6,c7,c8],_=>exact⟨c0,c1,c2,c3,c4,c5,c6,c7,c8,rfl⟩
theorem zE{w:aq}{B n c:Nat}{A:Option au}{f:Nat->Nat}(h:gu w B A n c f):∃L:List Nat,L.length=n/\gu w B A L.length c (gj L):=by
 have hl:jo (kD f n):=fun x hx=>by
  unfold kD at hx;obtain⟨i,_,rfl⟩:=List.mem_map.1 hx;exact h.1.1 i
 refine⟨kD f n,uA _ _,?_⟩;rw[uA];refine h.same (ky hl) fun j hj=>?_
 show f j=(kD f n).getD j 0
 rw[Bn f hj]
theorem Pl{H:Type}{enc:aB×ax->H}{W:aq}{r:Reach}{b0 base:Nat}{sp:Nat->Bool}{hd:Bool}{v:ax}{d:DataW H}{p:List MemPlace}
  (hv:Value.okWide prog W r b0 32 v) (h:DataW.Trod enc prog W base sp hd 32 v d p):
  ∃(q:gF) (Ah:Option au) (hc:Nat) (Aw:Option au) (wc:Nat) (Ap:Option au) (pc:Nat),v=ah (gI q Ah hc Aw wc Ap pc)/\gU W W.heap.size q Ah hc Aw wc Ap pc:=by
 obtain⟨cs,rfl,ad⟩:=okWide_struct underlying32 hv
 rw[Ph]at ad
 obtain⟨c0,c1,c2,c3,c4,c5,c6,c7,c8,rfl⟩:=Pk ad
 obtain⟨fuel,hf⟩:=h
 obtain⟨y0,y1,y2,y3,y4,n,_,_,h0,h1,h2,h3,h4⟩:=Fz underlying32 hf
 simp only[Value.cells]at h0 h1 h2 h3 h4
 rw[show prog.cellsOf _=4 from Pj]at h0
 rw[show prog.cellsOf _=1 from zD]at h1 h2
 rw[show prog.cellsOf _=2 from FC]at h3
 rw[show prog.cellsOf _=1 from FD]at h4
 replace h0:DataW.trod enc prog W base sp hd n 27 [c0,c1,c2,c3]=some y0:=h0
 replace h1:DataW.trod enc prog W base sp hd n 22 [c4]=some y1:=h1
 replace h2:DataW.trod enc prog W base sp hd n 22 [c5]=some y2:=h2
 replace h3:DataW.trod enc prog W base sp hd n 30 [c6,c7]=some y3:=h3
 replace h4:DataW.trod enc prog W base sp hd n 4 [c8]=some y4:=h4
 obtain⟨z0,z1,z2,z3,m,_,_,g0,g1,g2,g3⟩:=trod_struct4 underlying27 h0
 rw[show prog.cellsOf _=1 from FE]at g0 g1 g2
 rw[show prog.cellsOf _=1 from FD]at g3
 replace g0:DataW.trod enc prog W base sp hd m 3 [c0]=some z0:=g0
 replace g1:DataW.trod enc prog W base sp hd m 3 [c1]=some z1:=g1
 replace g2:DataW.trod enc prog W base sp hd m 3 [c2]=some z2:=g2
 replace g3:DataW.trod enc prog W base sp hd m 4 [c3]=some z3:=g3
 obtain⟨s,e0,_⟩:=DataW.trod_int underlying3 g0
 obtain⟨hh,e1,_⟩:=DataW.trod_int underlying3 g1
 obtain⟨mm,e2,_⟩:=DataW.trod_int underlying3 g2
 obtain⟨zz,e3,_⟩:=DataW.trod_bool underlying4 g3
 obtain⟨u0,u1,m2,_,_,k0,k1⟩:=trod_struct2 underlying30 h3
 rw[show prog.cellsOf _=1 from zD]at k0
 rw[show prog.cellsOf _=1 from FE]at k1
 replace k0:DataW.trod enc prog W base sp hd m2 22 [c6]=some u0:=k0
 replace k1:DataW.trod enc prog W base sp hd m2 3 [c7]=some u1:=k1
 obtain⟨kk,e7,_⟩:=DataW.trod_int underlying3 k1
 obtain⟨ov,e8,_⟩:=DataW.trod_bool underlying4 h4
 obtain⟨Ah,l1,hc,e4⟩:=slice_form underlying22 h1
 obtain⟨Aw,l2,wc,e5⟩:=slice_form underlying22 h2
 obtain⟨Ap,l3,pc,e6⟩:=slice_form underlying22 k0
 simp only[List.cons.injEq,and_true]at e0 e1 e2 e3 e4 e5 e6 e7 e8
 subst e0;subst e1;subst e2;subst e3;subst e4;subst e5;subst e6;subst e7;subst e8
 obtain⟨f1,r1⟩:=xk (d:=y1.1) (p:=y1.2) ⟨n,by simpa[Value.cells]using h1⟩
 obtain⟨f2,r2⟩:=xk (d:=y2.1) (p:=y2.2) ⟨n,by simpa[Value.cells]using h2⟩
 obtain⟨f3,r3⟩:=xk (d:=u0.1) (p:=u0.2) ⟨m2,by simpa[Value.cells]using k0⟩
 obtain⟨L1,n1,q1⟩:=zE r1
 obtain⟨L2,n2,q2⟩:=zE r2
 obtain⟨L3,n3,q3⟩:=zE r3
 exact⟨⟨s,hh,mm,zz,L1,L2,L3,kk,ov⟩,Ah,hc,Aw,wc,Ap,pc,by unfold gI;rw[n1,n2,n3],q1,q2,q3⟩
theorem weigh{H:Type}{P:Program}{ts:List aB}{ds:List (DataW H)}(h:(DataW.weightsEach P ts ds).all (·<=reachBytes)=true){j:Nat}{t:aB}{d:DataW H}(ht:ts[j]?=some t)(hd:ds[j]?=some d):∀n∈d.weights P t,n<=reachBytes:=fun n hn=>by
 simpa using List.all_eq_true.1 h n (DataW.weights_mem_each ht hd n hn)
theorem Pm{H:Type}{enc:aB×ax->H}{W:aq}{base:Nat}{sp:Nat->Bool}{hd:Bool}{a:Option au}{len cap:Nat}{y:DataW H×List MemPlace}{fuel:Nat}
  (hf:DataW.trod enc prog W base sp hd fuel 22 [Value.slice a len cap]=some y) (hw:∀n∈y.1.weights prog 22,n<=reachBytes):len<=140737488355328:=by
 rcases open_ints underlying22 underlying5 (by kernel_rfl) hf with⟨ad,_⟩|⟨x,l,c,zs,ad,_,hl,_,hz,hy,_,_⟩
 ·simp at ad;omega
 ·simp at ad;obtain⟨rfl,rfl,rfl⟩:=ad;subst hy;have hb:prog.bytesOf 5=1:=by kernel_rfl
  have h1:=hw ((zs.take len).length+(zs.drop len).length) (by
   simp only[DataW.weights,underlying22,hb,lits,List.length_map,Nat.mul_one];exact List.mem_cons_self ..)
  have al:len<=zs.length:=by rw[hz];split<;>omega
  rw[List.length_take,List.length_drop]at h1;unfold reachBytes at h1;omega
theorem Pn{H:Type}{enc:aB×ax->H}{W:aq}{base:Nat}{sp:Nat->Bool}{hd:Bool}{q:gF}{Ah:Option au}{hc:Nat}{Aw:Option au}{wc:Nat}{Ap:Option au}{pc:Nat}{d:DataW H}{p:List MemPlace}
  (h:DataW.Trod enc prog W base sp hd 32 (ah (gI q Ah hc Aw wc Ap pc)) d p) (hw:∀n∈d.weights prog 32,n<=reachBytes):q.gm.length<=140737488355328:=by
 obtain⟨fuel,hf⟩:=h
 obtain⟨y0,y1,y2,y3,y4,n,hx,_,h0,h1,h2,h3,h4⟩:=Fz underlying32 hf
 simp only[Value.cells,gI]at h3
 rw[show prog.cellsOf _=2 from FC]at h3
 replace h3:DataW.trod enc prog W base sp hd n 30 [af Ap q.gm.length pc,ae aj q.k]=some y3:=h3
 obtain⟨u0,u1,m2,hy,_,k0,k1⟩:=trod_struct2 underlying30 h3
 rw[show prog.cellsOf _=1 from zD]at k0
 replace k0:DataW.trod enc prog W base sp hd m2 22 [af Ap q.gm.length pc]=some u0:=k0
 refine Pm k0 fun x ad=>?_
 injection hx with hx _
 subst hx
 have e3:y3.1=.agg [u0.1,u1.1]:=by rw[hy]
 refine hw x ?_
 simp only[DataW.weights,underlying32]
 refine DataW.weights_mem_each (j:=3) rfl rfl x ?_
 rw[e3]
 simp only[DataW.weights,underlying30]
 exact DataW.weights_mem_each (j:=0) rfl rfl x ad
end Go.Proofs.YtokpcpjnihinfaaGreat
