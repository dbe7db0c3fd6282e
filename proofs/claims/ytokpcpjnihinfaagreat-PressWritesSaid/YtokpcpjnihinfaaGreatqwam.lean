/-
  Words and walks.
-/
import Derived.SizedLaws
import Derived.Test.YtokpcpjnihinfaaGreatqwaa
import Derived.Test.YtokpcpjnihinfaaGreatqwad
import Derived.Test.YtokpcpjnihinfaaGreatqwaf
import Derived.Test.YtokpcpjnihinfaaGreatqwak
import Derived.Test.YtokpcpjnihinfaaGreatqwal
set_option maxRecDepth 100000
set_option maxHeartbeats 16000000
namespace Go.Proofs.YtokpcpjnihinfaaGreat
open Value renaming int → ae, slice → af, agg → ah, bool → ai
open IntKind renaming i64 → aj
open Obj renaming cells → ak
open Ending renaming returned → ao
open Go renaming World → aq, Addr → au, Calls → aw, TypeId → aB, wpList_store_rowTo → aC, wpList_buildTo → aD, wpList_load_row → aE, wpList_load_mid → aF
open Go.RowKit renaming Hid → aQ, Below → aR
open _root_.Go.Proofs.Tryz
open Go.RowKit Go.ChangeShapes Go.WideShapes Go.ChangeAt Go.Joins
theorem zR(w:aq)(A:Option au)(c:Nat)(a:List Nat)(A2:Option au)(c2:Nat)(b:List Nat)(ha:ib w w.heap.size A a.length c (hH a))(hb:ib w w.heap.size A2 b.length c2 (hH b)):
  aw prog 43 #[af A a.length c,af A2 b.length c2] w fun e w'=>e=ao (ai (decide (a=b)))/\w'=w:=by
 have h:=DI w w.heap.size A A2 a.length c b.length c2 (hH a) (hH b) ha.1 hb.1
 have e:((lg a.length (hH a)).toList==(lg b.length (hH b)).toList)=decide (a=b):=vZ (kE ha) (kE hb)
 rw[e]at h
 exact h
theorem Ga:yL:=by
 intro w s h m z;have hz:=(zero_of_info oP).1;obtain⟨Z,hZ⟩:=gX (iA (iR 0 0 0 false) none 0 none 0 none 0);obtain⟨Y,hY⟩:=gX (iA (iR s h m z) none 0 none 0 none 0);have aT:=vO;have aU:=Dt s h m z;have a1:Z.size=9:=by rw[hZ];rfl
 have a2:Y.size=9:=by rw[hY];rfl
 have a3:Z.all (·.oneCell')=true:=by rw[hZ];exact kW ..
 have a4:Y.all (·.oneCell')=true:=by rw[hY];exact kW ..
 have hV:iA (lE s h m z) none 0 none 0 none 0=if iJ s h m=false then Z else Y:=by rw[hZ,hY];unfold lE;split<;>rfl
 have a5:∀V:aq,iD V V.heap.size (lE s h m z) none 0 none 0 none 0:=fun V=>by
  unfold lE;split
  ·exact Dr _ _ _ _ _ _
  ·exact Dr _ _ _ _ _ _
 suffices hs:aw prog 11 #[ah #[ae aj s,ae aj h,ae aj m,ai z]] w fun e w'=>e=ao (.tuple #[ah (iA (lE s h m z) none 0 none 0 none 0),ae aj (oz s h m)])/\aR w.heap.size w w' from
  hs.mono fun e w' ⟨h1,h2⟩=>⟨none,0,none,0,none,0,h1,a5 w',h2⟩
 clear a5;rw[hV];have hm:=fun V=>pG V s h m z
 unfold oz;unfold ku at hm;rw[<-hZ]at hz aT;rw[<-hY]at aU;obtain⟨M,hM⟩:=gX (iJ s h m);rw[<-hM]at hm⊢;obtain⟨W1,aS⟩:=gX ((w.alloc (ak #[ae aj s,ae aj h,ae aj m,ai z] 27)).alloc (ak Z 32));have b1:aR w.heap.size w W1:=by rw[aS];exact(ix.alloc gY _).alloc (by simp) _
 have x1:gZ W1 w.heap.size #[ae aj s,ae aj h,ae aj m,ai z] 27:=by rw[aS];exact(gZ.new w _ _).old _
 have y1:gZ W1 (w.heap.size+1) Z 32:=by
  rw[aS];have:=gZ.new (w.alloc (ak #[ae aj s,ae aj h,ae aj m,ai z] 27)) Z 32
  rwa[World.size_alloc]at this
 have HM:=gW hm;have HW:=gW aS;have HB:=gW b1;have HX:=gW x1;have HY:=gW y1;have aV:=gW a1;have aW:=gW a2;have a7:=gW a3;have a8:=gW a4;have a9:=gW aT;have bd:=gW aU
 clear hm hM aS b1 x1 y1 a1 a2 a3 a4 aT aU hV hZ hY;cases M with
 |false=>
  go_enter func11,ntmps11
  go_wp2_with (first
   |(rw[<-HW.out];refine aE rfl _ _ rfl w.heap.size rfl _ _ (0,0) _ HX.out underlying27 rfl oy ?_)
   |fail)
  refine(HM.out W1).mono ?_;rintro e w2 ⟨rfl,ad⟩;have av:=HY.out.below ad HY.out.lt;have al:=HB.out.trans (ad.mono HB.out.size);obtain⟨U,hU⟩:=gX (w2.setRow (w.heap.size+1) Z);have aX:aQ (gZ U (w.heap.size+1) Z 32):=gW (by rw[hU];exact av.row Z);have aY:aQ (aR w.heap.size w U):=gW (by rw[hU];exact mf al (by omega) _);have HU:=gW hU;have aZ:=gW av
  clear hU ad al av;rw[if_neg (show¬(false=true) by simp)];go_wp2_with (first
   |(refine aD rfl 32 #[] rfl (some 9) rfl Z ?_ ?_;focus(simpa[Act.eval]using a9.out))
   |(refine aC rfl _ _ _ rfl rfl (w.heap.size+1) Z rfl rfl 32 Z aZ.out (by rw[aV.out];exact iF) rfl a7.out ?_;rw[<-HU.out]))
  refine bodyPost_ret (sk rfl _ _ (w.heap.size+1) Z aV.out rfl aX.out) rfl ?_;exact⟨rfl,aY.out⟩
 |true=>
  go_enter func11,ntmps11
  go_wp2_with (first
   |(rw[<-HW.out];refine aE rfl _ _ rfl w.heap.size rfl _ _ (0,0) _ HX.out underlying27 rfl oy ?_)
   |fail)
  refine(HM.out W1).mono ?_;rintro e w2 ⟨rfl,ad⟩;have av:=HY.out.below ad HY.out.lt;have a6:=HX.out.below ad HX.out.lt;have al:=HB.out.trans (ad.mono HB.out.size);obtain⟨U,hU⟩:=gX (w2.setRow (w.heap.size+1) Y);have aX:aQ (gZ U (w.heap.size+1) Y 32):=gW (by rw[hU];exact av.row Y);have aY:aQ (aR w.heap.size w U):=gW (by rw[hU];exact mf al (by omega) _);have HU:=gW hU;have aZ:=gW av;have bf:=gW a6
  clear hU ad al av a6;rw[if_pos trivial];go_wp2_with (first
   |(refine aE rfl _ _ rfl w.heap.size rfl _ _ (0,0) _ bf.out underlying27 rfl oy ?_)
   |(refine aD rfl 32 #[(0,.tmp 11)] rfl (some 12) rfl Y ?_ ?_;focus(simpa[Act.eval,Act.put]using bd.out))
   |(refine aC rfl _ _ _ rfl rfl (w.heap.size+1) Y rfl rfl 32 Z aZ.out (by rw[aW.out];exact iF) (by rw[aV.out,aW.out]) a8.out ?_;rw[<-HU.out]))
  refine bodyPost_ret (sk rfl _ _ (w.heap.size+1) Y aW.out rfl aX.out) rfl ?_;exact⟨rfl,aY.out⟩
theorem Pu(w:aq)(s h m:Int)(z:Bool)(Ah:Option au)(hn hc:Nat)(Aw:Option au)(wn wc:Nat)(Ap:Option au)(pn pc:Nat)(k:Int)(ov:Bool)(f:Nat->Nat)(hr:iy w w.heap.size Ap pn f)(hq:ku s h m=8):
  aw prog 16 #[ah #[ae aj s,ae aj h,ae aj m,ai z,af Ah hn hc,af Aw wn wc,af Ap pn pc,ae aj k,ai ov]] w fun e w'=>e=ao (ae aj 8)/\aR w.heap.size w w':=by
 have HR:=gW hr
 clear hr
 obtain⟨W1,al⟩:=gX (w.alloc (ak #[ae aj s,ae aj h,ae aj m,ai z,af Ah hn hc,af Aw wn wc,af Ap pn pc,ae aj k,ai ov] 32))
 have aU:gZ W1 w.heap.size #[ae aj s,ae aj h,ae aj m,ai z,af Ah hn hc,af Aw wn wc,af Ap pn pc,ae aj k,ai ov] 32:=by rw[al];exact gZ.new w _ _
 have aV:aR w.heap.size w W1:=by rw[al];exact ix.alloc gY _
 have aS:=gW aU;have aW:=gW aV;have aX:=gW al
 have aY:aQ (∀V,gZ V w.heap.size #[ae aj s,ae aj h,ae aj m,ai z,af Ah hn hc,af Aw wn wc,af Ap pn pc,ae aj k,ai ov] 32->V.rangeAt w.heap.size 0 [ae aj s,ae aj h,ae aj m,ai z]):=gW fun V hx=>mg hx 0 _ (fun i hi=>by rcases i with _|_|_|_|i<;>first|rfl|(simp at hi;omega))
 have aZ:aQ (∀V,gZ V w.heap.size #[ae aj s,ae aj h,ae aj m,ai z,af Ah hn hc,af Aw wn wc,af Ap pn pc,ae aj k,ai ov] 32->V.rangeAt w.heap.size 6 [af Ap pn pc,ae aj k]):=gW fun V hx=>mg hx 6 _ (fun i hi=>by rcases i with _|_|i<;>first|rfl|(simp at hi;omega))
 clear aU aV al
 go_enter func16,ntmps16
 go_wp2_with (first
  |(rw[<-aX.out])
  |(refine aF rfl _ _ rfl w.heap.size 0 rfl [ae aj s,ae aj h,ae aj m,ai z] _ (aY.out _ aS.out) underlying27 rfl (qj ..) ?_)
  |fail)
 refine(pG _ s h m z).mono ?_
 rintro e w1 ⟨rfl,aT⟩
 have ad:gZ w1 w.heap.size #[ae aj s,ae aj h,ae aj m,ai z,af Ah hn hc,af Aw wn wc,af Ap pn pc,ae aj k,ai ov] 32:=aS.out.below aT aS.out.lt
 have av:aR w.heap.size w w1:=aW.out.trans (aT.mono aW.out.size)
 have a1:w1.cell? ⟨w.heap.size,0,none⟩=some (ae aj s):=ad.cell.trans rfl
 have a2:w1.cell? ⟨w.heap.size,1,none⟩=some (ae aj h):=ad.cell.trans rfl
 have a3:w1.cell? ⟨w.heap.size,2,none⟩=some (ae aj m):=ad.cell.trans rfl
 have a4:w1.cell? ⟨w.heap.size,3,none⟩=some (ai z):=ad.cell.trans rfl
 have a5:w1.cell? ⟨w.heap.size,4,none⟩=some (af Ah hn hc):=ad.cell.trans rfl
 have a6:w1.cell? ⟨w.heap.size,5,none⟩=some (af Aw wn wc):=ad.cell.trans rfl
 have a7:w1.cell? ⟨w.heap.size,6,none⟩=some (af Ap pn pc):=ad.cell.trans rfl
 have a8:w1.cell? ⟨w.heap.size,7,none⟩=some (ae aj k):=ad.cell.trans rfl
 have a9:w1.cell? ⟨w.heap.size,8,none⟩=some (ai ov):=ad.cell.trans rfl
 have HB:=gW av;have HX:=gW ad
 clear aT av ad
 rw[hq]
 go_wp2
 go_ret
 exact⟨rfl,HB.out⟩
theorem Pv(w:aq)(s h m:Int)(z:Bool)(Ah:Option au)(hn hc:Nat)(Aw:Option au)(wn wc:Nat)(Ap:Option au)(pn pc:Nat)(k:Int)(ov:Bool)(f:Nat->Nat)(hr:iy w w.heap.size Ap pn f)(hq:ku s h m=0)(hp:ko f pn k=8):
  aw prog 16 #[ah #[ae aj s,ae aj h,ae aj m,ai z,af Ah hn hc,af Aw wn wc,af Ap pn pc,ae aj k,ai ov]] w fun e w'=>e=ao (ae aj 8)/\aR w.heap.size w w':=by
 have HR:=gW hr
 clear hr
 obtain⟨W1,av⟩:=gX (w.alloc (ak #[ae aj s,ae aj h,ae aj m,ai z,af Ah hn hc,af Aw wn wc,af Ap pn pc,ae aj k,ai ov] 32))
 have aX:gZ W1 w.heap.size #[ae aj s,ae aj h,ae aj m,ai z,af Ah hn hc,af Aw wn wc,af Ap pn pc,ae aj k,ai ov] 32:=by rw[av];exact gZ.new w _ _
 have aY:aR w.heap.size w W1:=by rw[av];exact ix.alloc gY _
 have aU:=gW aX;have aZ:=gW aY;have a1:=gW av
 have a2:aQ (∀V,gZ V w.heap.size #[ae aj s,ae aj h,ae aj m,ai z,af Ah hn hc,af Aw wn wc,af Ap pn pc,ae aj k,ai ov] 32->V.rangeAt w.heap.size 0 [ae aj s,ae aj h,ae aj m,ai z]):=gW fun V hx=>mg hx 0 _ (fun i hi=>by rcases i with _|_|_|_|i<;>first|rfl|(simp at hi;omega))
 have a3:aQ (∀V,gZ V w.heap.size #[ae aj s,ae aj h,ae aj m,ai z,af Ah hn hc,af Aw wn wc,af Ap pn pc,ae aj k,ai ov] 32->V.rangeAt w.heap.size 6 [af Ap pn pc,ae aj k]):=gW fun V hx=>mg hx 6 _ (fun i hi=>by rcases i with _|_|i<;>first|rfl|(simp at hi;omega))
 clear aX aY av
 go_enter func16,ntmps16
 go_wp2_with (first
  |(rw[<-a1.out])
  |(refine aF rfl _ _ rfl w.heap.size 0 rfl [ae aj s,ae aj h,ae aj m,ai z] _ (a2.out _ aU.out) underlying27 rfl (qj ..) ?_)
  |fail)
 refine(pG _ s h m z).mono ?_
 rintro e w1 ⟨rfl,aV⟩
 have ad:gZ w1 w.heap.size #[ae aj s,ae aj h,ae aj m,ai z,af Ah hn hc,af Aw wn wc,af Ap pn pc,ae aj k,ai ov] 32:=aU.out.below aV aU.out.lt
 have aS:aR w.heap.size w w1:=aZ.out.trans (aV.mono aZ.out.size)
 have a5:w1.cell? ⟨w.heap.size,0,none⟩=some (ae aj s):=ad.cell.trans rfl
 have a6:w1.cell? ⟨w.heap.size,1,none⟩=some (ae aj h):=ad.cell.trans rfl
 have a7:w1.cell? ⟨w.heap.size,2,none⟩=some (ae aj m):=ad.cell.trans rfl
 have a8:w1.cell? ⟨w.heap.size,3,none⟩=some (ai z):=ad.cell.trans rfl
 have a9:w1.cell? ⟨w.heap.size,4,none⟩=some (af Ah hn hc):=ad.cell.trans rfl
 have bd:w1.cell? ⟨w.heap.size,5,none⟩=some (af Aw wn wc):=ad.cell.trans rfl
 have bf:w1.cell? ⟨w.heap.size,6,none⟩=some (af Ap pn pc):=ad.cell.trans rfl
 have bg:w1.cell? ⟨w.heap.size,7,none⟩=some (ae aj k):=ad.cell.trans rfl
 have bj:w1.cell? ⟨w.heap.size,8,none⟩=some (ai ov):=ad.cell.trans rfl
 have HB:=gW aS;have HX:=gW ad
 clear aV aS ad
 rw[hq]
 go_wp2_with (first
  |(refine aF rfl _ _ rfl w.heap.size 6 rfl [af Ap pn pc,ae aj k] _ (a3.out _ HX.out) underlying30 rfl (ou _ _) ?_)
  |fail)
 refine(pZ w1 Ap pn pc f k ((HR.out.below HB.out gY).more HB.out.size)).mono ?_
 rintro e w2 ⟨rfl,aW⟩
 have al:gZ w2 w.heap.size #[ae aj s,ae aj h,ae aj m,ai z,af Ah hn hc,af Aw wn wc,af Ap pn pc,ae aj k,ai ov] 32:=HX.out.below aW HX.out.lt
 have aT:aR w.heap.size w w2:=HB.out.trans (aW.mono HB.out.size)
 have bk:w2.cell? ⟨w.heap.size,0,none⟩=some (ae aj s):=al.cell.trans rfl
 have bl:w2.cell? ⟨w.heap.size,1,none⟩=some (ae aj h):=al.cell.trans rfl
 have bm:w2.cell? ⟨w.heap.size,2,none⟩=some (ae aj m):=al.cell.trans rfl
 have bn:w2.cell? ⟨w.heap.size,3,none⟩=some (ai z):=al.cell.trans rfl
 have bp:w2.cell? ⟨w.heap.size,4,none⟩=some (af Ah hn hc):=al.cell.trans rfl
 have bq:w2.cell? ⟨w.heap.size,5,none⟩=some (af Aw wn wc):=al.cell.trans rfl
 have br:w2.cell? ⟨w.heap.size,6,none⟩=some (af Ap pn pc):=al.cell.trans rfl
 have bt:w2.cell? ⟨w.heap.size,7,none⟩=some (ae aj k):=al.cell.trans rfl
 have bu:w2.cell? ⟨w.heap.size,8,none⟩=some (ai ov):=al.cell.trans rfl
 have a4:=gW aT
 clear aW aT al
 rw[hp]
 go_wp2
 go_ret
 exact⟨rfl,a4.out⟩
theorem Pw(w:aq)(s h m:Int)(z:Bool)(Ah:Option au)(hn hc:Nat)(Aw:Option au)(wn wc:Nat)(Ap:Option au)(pn pc:Nat)(k:Int)(ov:Bool)(f:Nat->Nat)(hr:iy w w.heap.size Ap pn f)(hq:ku s h m=0)(hp:ko f pn k=0)(h2:s<(hn:Int)):
  aw prog 16 #[ah #[ae aj s,ae aj h,ae aj m,ai z,af Ah hn hc,af Aw wn wc,af Ap pn pc,ae aj k,ai ov]] w fun e w'=>e=ao (ae aj 8)/\aR w.heap.size w w':=by
 have d2:decide (s<(hn:Int))=true:=decide_eq_true (by omega)
 clear h2
 have HR:=gW hr
 clear hr
 obtain⟨W1,av⟩:=gX (w.alloc (ak #[ae aj s,ae aj h,ae aj m,ai z,af Ah hn hc,af Aw wn wc,af Ap pn pc,ae aj k,ai ov] 32))
 have aX:gZ W1 w.heap.size #[ae aj s,ae aj h,ae aj m,ai z,af Ah hn hc,af Aw wn wc,af Ap pn pc,ae aj k,ai ov] 32:=by rw[av];exact gZ.new w _ _
 have aY:aR w.heap.size w W1:=by rw[av];exact ix.alloc gY _
 have aU:=gW aX;have aZ:=gW aY;have a1:=gW av
 have a2:aQ (∀V,gZ V w.heap.size #[ae aj s,ae aj h,ae aj m,ai z,af Ah hn hc,af Aw wn wc,af Ap pn pc,ae aj k,ai ov] 32->V.rangeAt w.heap.size 0 [ae aj s,ae aj h,ae aj m,ai z]):=gW fun V hx=>mg hx 0 _ (fun i hi=>by rcases i with _|_|_|_|i<;>first|rfl|(simp at hi;omega))
 have a3:aQ (∀V,gZ V w.heap.size #[ae aj s,ae aj h,ae aj m,ai z,af Ah hn hc,af Aw wn wc,af Ap pn pc,ae aj k,ai ov] 32->V.rangeAt w.heap.size 6 [af Ap pn pc,ae aj k]):=gW fun V hx=>mg hx 6 _ (fun i hi=>by rcases i with _|_|i<;>first|rfl|(simp at hi;omega))
 clear aX aY av
 go_enter func16,ntmps16
 go_wp2_with (first
  |(rw[<-a1.out])
  |(refine aF rfl _ _ rfl w.heap.size 0 rfl [ae aj s,ae aj h,ae aj m,ai z] _ (a2.out _ aU.out) underlying27 rfl (qj ..) ?_)
  |fail)
 refine(pG _ s h m z).mono ?_
 rintro e w1 ⟨rfl,aV⟩
 have ad:gZ w1 w.heap.size #[ae aj s,ae aj h,ae aj m,ai z,af Ah hn hc,af Aw wn wc,af Ap pn pc,ae aj k,ai ov] 32:=aU.out.below aV aU.out.lt
 have aS:aR w.heap.size w w1:=aZ.out.trans (aV.mono aZ.out.size)
 have a5:w1.cell? ⟨w.heap.size,0,none⟩=some (ae aj s):=ad.cell.trans rfl
 have a6:w1.cell? ⟨w.heap.size,1,none⟩=some (ae aj h):=ad.cell.trans rfl
 have a7:w1.cell? ⟨w.heap.size,2,none⟩=some (ae aj m):=ad.cell.trans rfl
 have a8:w1.cell? ⟨w.heap.size,3,none⟩=some (ai z):=ad.cell.trans rfl
 have a9:w1.cell? ⟨w.heap.size,4,none⟩=some (af Ah hn hc):=ad.cell.trans rfl
 have bd:w1.cell? ⟨w.heap.size,5,none⟩=some (af Aw wn wc):=ad.cell.trans rfl
 have bf:w1.cell? ⟨w.heap.size,6,none⟩=some (af Ap pn pc):=ad.cell.trans rfl
 have bg:w1.cell? ⟨w.heap.size,7,none⟩=some (ae aj k):=ad.cell.trans rfl
 have bj:w1.cell? ⟨w.heap.size,8,none⟩=some (ai ov):=ad.cell.trans rfl
 have HB:=gW aS;have HX:=gW ad
 clear aV aS ad
 rw[hq]
 go_wp2_with (first
  |(refine aF rfl _ _ rfl w.heap.size 6 rfl [af Ap pn pc,ae aj k] _ (a3.out _ HX.out) underlying30 rfl (ou _ _) ?_)
  |fail)
 refine(pZ w1 Ap pn pc f k ((HR.out.below HB.out gY).more HB.out.size)).mono ?_
 rintro e w2 ⟨rfl,aW⟩
 have al:gZ w2 w.heap.size #[ae aj s,ae aj h,ae aj m,ai z,af Ah hn hc,af Aw wn wc,af Ap pn pc,ae aj k,ai ov] 32:=HX.out.below aW HX.out.lt
 have aT:aR w.heap.size w w2:=HB.out.trans (aW.mono HB.out.size)
 have bk:w2.cell? ⟨w.heap.size,0,none⟩=some (ae aj s):=al.cell.trans rfl
 have bl:w2.cell? ⟨w.heap.size,1,none⟩=some (ae aj h):=al.cell.trans rfl
 have bm:w2.cell? ⟨w.heap.size,2,none⟩=some (ae aj m):=al.cell.trans rfl
 have bn:w2.cell? ⟨w.heap.size,3,none⟩=some (ai z):=al.cell.trans rfl
 have bp:w2.cell? ⟨w.heap.size,4,none⟩=some (af Ah hn hc):=al.cell.trans rfl
 have bq:w2.cell? ⟨w.heap.size,5,none⟩=some (af Aw wn wc):=al.cell.trans rfl
 have br:w2.cell? ⟨w.heap.size,6,none⟩=some (af Ap pn pc):=al.cell.trans rfl
 have bt:w2.cell? ⟨w.heap.size,7,none⟩=some (ae aj k):=al.cell.trans rfl
 have bu:w2.cell? ⟨w.heap.size,8,none⟩=some (ai ov):=al.cell.trans rfl
 have a4:=gW aT
 clear aW aT al
 rw[hp]
 go_wp2
 go_ret
 exact⟨rfl,a4.out⟩
theorem Px(w:aq)(s h m:Int)(z:Bool)(Ah:Option au)(hn hc:Nat)(Aw:Option au)(wn wc:Nat)(Ap:Option au)(pn pc:Nat)(k:Int)(ov:Bool)(f:Nat->Nat)(hr:iy w w.heap.size Ap pn f)(hq:ku s h m=0)(hp:ko f pn k=0)(h2:(hn:Int)<=s)(h3:m<=(wn:Int)):
  aw prog 16 #[ah #[ae aj s,ae aj h,ae aj m,ai z,af Ah hn hc,af Aw wn wc,af Ap pn pc,ae aj k,ai ov]] w fun e w'=>e=ao (ae aj 8)/\aR w.heap.size w w':=by
 have d2:decide (s<(hn:Int))=false:=decide_eq_false (by omega)
 have d3:decide (m<=(wn:Int))=true:=decide_eq_true (by omega)
 clear h2 h3
 have HR:=gW hr
 clear hr
 obtain⟨W1,av⟩:=gX (w.alloc (ak #[ae aj s,ae aj h,ae aj m,ai z,af Ah hn hc,af Aw wn wc,af Ap pn pc,ae aj k,ai ov] 32))
 have aX:gZ W1 w.heap.size #[ae aj s,ae aj h,ae aj m,ai z,af Ah hn hc,af Aw wn wc,af Ap pn pc,ae aj k,ai ov] 32:=by rw[av];exact gZ.new w _ _
 have aY:aR w.heap.size w W1:=by rw[av];exact ix.alloc gY _
 have aU:=gW aX;have aZ:=gW aY;have a1:=gW av
 have a2:aQ (∀V,gZ V w.heap.size #[ae aj s,ae aj h,ae aj m,ai z,af Ah hn hc,af Aw wn wc,af Ap pn pc,ae aj k,ai ov] 32->V.rangeAt w.heap.size 0 [ae aj s,ae aj h,ae aj m,ai z]):=gW fun V hx=>mg hx 0 _ (fun i hi=>by rcases i with _|_|_|_|i<;>first|rfl|(simp at hi;omega))
 have a3:aQ (∀V,gZ V w.heap.size #[ae aj s,ae aj h,ae aj m,ai z,af Ah hn hc,af Aw wn wc,af Ap pn pc,ae aj k,ai ov] 32->V.rangeAt w.heap.size 6 [af Ap pn pc,ae aj k]):=gW fun V hx=>mg hx 6 _ (fun i hi=>by rcases i with _|_|i<;>first|rfl|(simp at hi;omega))
 clear aX aY av
 go_enter func16,ntmps16
 go_wp2_with (first
  |(rw[<-a1.out])
  |(refine aF rfl _ _ rfl w.heap.size 0 rfl [ae aj s,ae aj h,ae aj m,ai z] _ (a2.out _ aU.out) underlying27 rfl (qj ..) ?_)
  |fail)
 refine(pG _ s h m z).mono ?_
 rintro e w1 ⟨rfl,aV⟩
 have ad:gZ w1 w.heap.size #[ae aj s,ae aj h,ae aj m,ai z,af Ah hn hc,af Aw wn wc,af Ap pn pc,ae aj k,ai ov] 32:=aU.out.below aV aU.out.lt
 have aS:aR w.heap.size w w1:=aZ.out.trans (aV.mono aZ.out.size)
 have a5:w1.cell? ⟨w.heap.size,0,none⟩=some (ae aj s):=ad.cell.trans rfl
 have a6:w1.cell? ⟨w.heap.size,1,none⟩=some (ae aj h):=ad.cell.trans rfl
 have a7:w1.cell? ⟨w.heap.size,2,none⟩=some (ae aj m):=ad.cell.trans rfl
 have a8:w1.cell? ⟨w.heap.size,3,none⟩=some (ai z):=ad.cell.trans rfl
 have a9:w1.cell? ⟨w.heap.size,4,none⟩=some (af Ah hn hc):=ad.cell.trans rfl
 have bd:w1.cell? ⟨w.heap.size,5,none⟩=some (af Aw wn wc):=ad.cell.trans rfl
 have bf:w1.cell? ⟨w.heap.size,6,none⟩=some (af Ap pn pc):=ad.cell.trans rfl
 have bg:w1.cell? ⟨w.heap.size,7,none⟩=some (ae aj k):=ad.cell.trans rfl
 have bj:w1.cell? ⟨w.heap.size,8,none⟩=some (ai ov):=ad.cell.trans rfl
 have HB:=gW aS;have HX:=gW ad
 clear aV aS ad
 rw[hq]
 go_wp2_with (first
  |(refine aF rfl _ _ rfl w.heap.size 6 rfl [af Ap pn pc,ae aj k] _ (a3.out _ HX.out) underlying30 rfl (ou _ _) ?_)
  |fail)
 refine(pZ w1 Ap pn pc f k ((HR.out.below HB.out gY).more HB.out.size)).mono ?_
 rintro e w2 ⟨rfl,aW⟩
 have al:gZ w2 w.heap.size #[ae aj s,ae aj h,ae aj m,ai z,af Ah hn hc,af Aw wn wc,af Ap pn pc,ae aj k,ai ov] 32:=HX.out.below aW HX.out.lt
 have aT:aR w.heap.size w w2:=HB.out.trans (aW.mono HB.out.size)
 have bk:w2.cell? ⟨w.heap.size,0,none⟩=some (ae aj s):=al.cell.trans rfl
 have bl:w2.cell? ⟨w.heap.size,1,none⟩=some (ae aj h):=al.cell.trans rfl
 have bm:w2.cell? ⟨w.heap.size,2,none⟩=some (ae aj m):=al.cell.trans rfl
 have bn:w2.cell? ⟨w.heap.size,3,none⟩=some (ai z):=al.cell.trans rfl
 have bp:w2.cell? ⟨w.heap.size,4,none⟩=some (af Ah hn hc):=al.cell.trans rfl
 have bq:w2.cell? ⟨w.heap.size,5,none⟩=some (af Aw wn wc):=al.cell.trans rfl
 have br:w2.cell? ⟨w.heap.size,6,none⟩=some (af Ap pn pc):=al.cell.trans rfl
 have bt:w2.cell? ⟨w.heap.size,7,none⟩=some (ae aj k):=al.cell.trans rfl
 have bu:w2.cell? ⟨w.heap.size,8,none⟩=some (ai ov):=al.cell.trans rfl
 have a4:=gW aT
 clear aW aT al
 rw[hp]
 go_wp2
 go_ret
 exact⟨rfl,a4.out⟩
theorem Py(w:aq)(s h m:Int)(z:Bool)(Ah:Option au)(hn hc:Nat)(Aw:Option au)(wn wc:Nat)(Ap:Option au)(pn pc:Nat)(k:Int)(ov:Bool)(f:Nat->Nat)(hr:iy w w.heap.size Ap pn f)(hq:ku s h m=0)(hp:ko f pn k=0)(h2:(hn:Int)<=s)(h3:(wn:Int)<m)(h5:7<k):
  aw prog 16 #[ah #[ae aj s,ae aj h,ae aj m,ai z,af Ah hn hc,af Aw wn wc,af Ap pn pc,ae aj k,ai ov]] w fun e w'=>e=ao (ae aj 8)/\aR w.heap.size w w':=by
 have d2:decide (s<(hn:Int))=false:=decide_eq_false (by omega)
 have d3:decide (m<=(wn:Int))=false:=decide_eq_false (by omega)
 have d5:decide (7<k)=true:=decide_eq_true (by omega)
 clear h2 h3 h5
 have HR:=gW hr
 clear hr
 obtain⟨W1,av⟩:=gX (w.alloc (ak #[ae aj s,ae aj h,ae aj m,ai z,af Ah hn hc,af Aw wn wc,af Ap pn pc,ae aj k,ai ov] 32))
 have aX:gZ W1 w.heap.size #[ae aj s,ae aj h,ae aj m,ai z,af Ah hn hc,af Aw wn wc,af Ap pn pc,ae aj k,ai ov] 32:=by rw[av];exact gZ.new w _ _
 have aY:aR w.heap.size w W1:=by rw[av];exact ix.alloc gY _
 have aU:=gW aX;have aZ:=gW aY;have a1:=gW av
 have a2:aQ (∀V,gZ V w.heap.size #[ae aj s,ae aj h,ae aj m,ai z,af Ah hn hc,af Aw wn wc,af Ap pn pc,ae aj k,ai ov] 32->V.rangeAt w.heap.size 0 [ae aj s,ae aj h,ae aj m,ai z]):=gW fun V hx=>mg hx 0 _ (fun i hi=>by rcases i with _|_|_|_|i<;>first|rfl|(simp at hi;omega))
 have a3:aQ (∀V,gZ V w.heap.size #[ae aj s,ae aj h,ae aj m,ai z,af Ah hn hc,af Aw wn wc,af Ap pn pc,ae aj k,ai ov] 32->V.rangeAt w.heap.size 6 [af Ap pn pc,ae aj k]):=gW fun V hx=>mg hx 6 _ (fun i hi=>by rcases i with _|_|i<;>first|rfl|(simp at hi;omega))
 clear aX aY av
 go_enter func16,ntmps16
 go_wp2_with (first
  |(rw[<-a1.out])
  |(refine aF rfl _ _ rfl w.heap.size 0 rfl [ae aj s,ae aj h,ae aj m,ai z] _ (a2.out _ aU.out) underlying27 rfl (qj ..) ?_)
  |fail)
 refine(pG _ s h m z).mono ?_
 rintro e w1 ⟨rfl,aV⟩
 have ad:gZ w1 w.heap.size #[ae aj s,ae aj h,ae aj m,ai z,af Ah hn hc,af Aw wn wc,af Ap pn pc,ae aj k,ai ov] 32:=aU.out.below aV aU.out.lt
 have aS:aR w.heap.size w w1:=aZ.out.trans (aV.mono aZ.out.size)
 have a5:w1.cell? ⟨w.heap.size,0,none⟩=some (ae aj s):=ad.cell.trans rfl
 have a6:w1.cell? ⟨w.heap.size,1,none⟩=some (ae aj h):=ad.cell.trans rfl
 have a7:w1.cell? ⟨w.heap.size,2,none⟩=some (ae aj m):=ad.cell.trans rfl
 have a8:w1.cell? ⟨w.heap.size,3,none⟩=some (ai z):=ad.cell.trans rfl
 have a9:w1.cell? ⟨w.heap.size,4,none⟩=some (af Ah hn hc):=ad.cell.trans rfl
 have bd:w1.cell? ⟨w.heap.size,5,none⟩=some (af Aw wn wc):=ad.cell.trans rfl
 have bf:w1.cell? ⟨w.heap.size,6,none⟩=some (af Ap pn pc):=ad.cell.trans rfl
 have bg:w1.cell? ⟨w.heap.size,7,none⟩=some (ae aj k):=ad.cell.trans rfl
 have bj:w1.cell? ⟨w.heap.size,8,none⟩=some (ai ov):=ad.cell.trans rfl
 have HB:=gW aS;have HX:=gW ad
 clear aV aS ad
 rw[hq]
 go_wp2_with (first
  |(refine aF rfl _ _ rfl w.heap.size 6 rfl [af Ap pn pc,ae aj k] _ (a3.out _ HX.out) underlying30 rfl (ou _ _) ?_)
  |fail)
 refine(pZ w1 Ap pn pc f k ((HR.out.below HB.out gY).more HB.out.size)).mono ?_
 rintro e w2 ⟨rfl,aW⟩
 have al:gZ w2 w.heap.size #[ae aj s,ae aj h,ae aj m,ai z,af Ah hn hc,af Aw wn wc,af Ap pn pc,ae aj k,ai ov] 32:=HX.out.below aW HX.out.lt
 have aT:aR w.heap.size w w2:=HB.out.trans (aW.mono HB.out.size)
 have bk:w2.cell? ⟨w.heap.size,0,none⟩=some (ae aj s):=al.cell.trans rfl
 have bl:w2.cell? ⟨w.heap.size,1,none⟩=some (ae aj h):=al.cell.trans rfl
 have bm:w2.cell? ⟨w.heap.size,2,none⟩=some (ae aj m):=al.cell.trans rfl
 have bn:w2.cell? ⟨w.heap.size,3,none⟩=some (ai z):=al.cell.trans rfl
 have bp:w2.cell? ⟨w.heap.size,4,none⟩=some (af Ah hn hc):=al.cell.trans rfl
 have bq:w2.cell? ⟨w.heap.size,5,none⟩=some (af Aw wn wc):=al.cell.trans rfl
 have br:w2.cell? ⟨w.heap.size,6,none⟩=some (af Ap pn pc):=al.cell.trans rfl
 have bt:w2.cell? ⟨w.heap.size,7,none⟩=some (ae aj k):=al.cell.trans rfl
 have bu:w2.cell? ⟨w.heap.size,8,none⟩=some (ai ov):=al.cell.trans rfl
 have a4:=gW aT
 clear aW aT al
 rw[hp]
 go_wp2
 go_ret
 exact⟨rfl,a4.out⟩
theorem Pz(w:aq)(s h m:Int)(z:Bool)(Ah:Option au)(hn hc:Nat)(Aw:Option au)(wn wc:Nat)(Ap:Option au)(pn pc:Nat)(k:Int)(f:Nat->Nat)(hr:iy w w.heap.size Ap pn f)(hq:ku s h m=0)(hp:ko f pn k=0)(h2:(hn:Int)<=s)(h3:(wn:Int)<m)(h5:k<=7):
  aw prog 16 #[ah #[ae aj s,ae aj h,ae aj m,ai z,af Ah hn hc,af Aw wn wc,af Ap pn pc,ae aj k,ai false]] w fun e w'=>e=ao (ae aj 0)/\aR w.heap.size w w':=by
 have d2:decide (s<(hn:Int))=false:=decide_eq_false (by omega)
 have d3:decide (m<=(wn:Int))=false:=decide_eq_false (by omega)
 have d5:decide (7<k)=false:=decide_eq_false (by omega)
 clear h2 h3 h5
 have HR:=gW hr
 clear hr
 obtain⟨W1,av⟩:=gX (w.alloc (ak #[ae aj s,ae aj h,ae aj m,ai z,af Ah hn hc,af Aw wn wc,af Ap pn pc,ae aj k,ai false] 32))
 have aX:gZ W1 w.heap.size #[ae aj s,ae aj h,ae aj m,ai z,af Ah hn hc,af Aw wn wc,af Ap pn pc,ae aj k,ai false] 32:=by rw[av];exact gZ.new w _ _
 have aY:aR w.heap.size w W1:=by rw[av];exact ix.alloc gY _
 have aU:=gW aX;have aZ:=gW aY;have a1:=gW av
 have a2:aQ (∀V,gZ V w.heap.size #[ae aj s,ae aj h,ae aj m,ai z,af Ah hn hc,af Aw wn wc,af Ap pn pc,ae aj k,ai false] 32->V.rangeAt w.heap.size 0 [ae aj s,ae aj h,ae aj m,ai z]):=gW fun V hx=>mg hx 0 _ (fun i hi=>by rcases i with _|_|_|_|i<;>first|rfl|(simp at hi;omega))
 have a3:aQ (∀V,gZ V w.heap.size #[ae aj s,ae aj h,ae aj m,ai z,af Ah hn hc,af Aw wn wc,af Ap pn pc,ae aj k,ai false] 32->V.rangeAt w.heap.size 6 [af Ap pn pc,ae aj k]):=gW fun V hx=>mg hx 6 _ (fun i hi=>by rcases i with _|_|i<;>first|rfl|(simp at hi;omega))
 clear aX aY av
 go_enter func16,ntmps16
 go_wp2_with (first
  |(rw[<-a1.out])
  |(refine aF rfl _ _ rfl w.heap.size 0 rfl [ae aj s,ae aj h,ae aj m,ai z] _ (a2.out _ aU.out) underlying27 rfl (qj ..) ?_)
  |fail)
 refine(pG _ s h m z).mono ?_
 rintro e w1 ⟨rfl,aV⟩
 have ad:gZ w1 w.heap.size #[ae aj s,ae aj h,ae aj m,ai z,af Ah hn hc,af Aw wn wc,af Ap pn pc,ae aj k,ai false] 32:=aU.out.below aV aU.out.lt
 have aS:aR w.heap.size w w1:=aZ.out.trans (aV.mono aZ.out.size)
 have a5:w1.cell? ⟨w.heap.size,0,none⟩=some (ae aj s):=ad.cell.trans rfl
 have a6:w1.cell? ⟨w.heap.size,1,none⟩=some (ae aj h):=ad.cell.trans rfl
 have a7:w1.cell? ⟨w.heap.size,2,none⟩=some (ae aj m):=ad.cell.trans rfl
 have a8:w1.cell? ⟨w.heap.size,3,none⟩=some (ai z):=ad.cell.trans rfl
 have a9:w1.cell? ⟨w.heap.size,4,none⟩=some (af Ah hn hc):=ad.cell.trans rfl
 have bd:w1.cell? ⟨w.heap.size,5,none⟩=some (af Aw wn wc):=ad.cell.trans rfl
 have bf:w1.cell? ⟨w.heap.size,6,none⟩=some (af Ap pn pc):=ad.cell.trans rfl
 have bg:w1.cell? ⟨w.heap.size,7,none⟩=some (ae aj k):=ad.cell.trans rfl
 have bj:w1.cell? ⟨w.heap.size,8,none⟩=some (ai false):=ad.cell.trans rfl
 have HB:=gW aS;have HX:=gW ad
 clear aV aS ad
 rw[hq]
 go_wp2_with (first
  |(refine aF rfl _ _ rfl w.heap.size 6 rfl [af Ap pn pc,ae aj k] _ (a3.out _ HX.out) underlying30 rfl (ou _ _) ?_)
  |fail)
 refine(pZ w1 Ap pn pc f k ((HR.out.below HB.out gY).more HB.out.size)).mono ?_
 rintro e w2 ⟨rfl,aW⟩
 have al:gZ w2 w.heap.size #[ae aj s,ae aj h,ae aj m,ai z,af Ah hn hc,af Aw wn wc,af Ap pn pc,ae aj k,ai false] 32:=HX.out.below aW HX.out.lt
 have aT:aR w.heap.size w w2:=HB.out.trans (aW.mono HB.out.size)
 have bk:w2.cell? ⟨w.heap.size,0,none⟩=some (ae aj s):=al.cell.trans rfl
 have bl:w2.cell? ⟨w.heap.size,1,none⟩=some (ae aj h):=al.cell.trans rfl
 have bm:w2.cell? ⟨w.heap.size,2,none⟩=some (ae aj m):=al.cell.trans rfl
 have bn:w2.cell? ⟨w.heap.size,3,none⟩=some (ai z):=al.cell.trans rfl
 have bp:w2.cell? ⟨w.heap.size,4,none⟩=some (af Ah hn hc):=al.cell.trans rfl
 have bq:w2.cell? ⟨w.heap.size,5,none⟩=some (af Aw wn wc):=al.cell.trans rfl
 have br:w2.cell? ⟨w.heap.size,6,none⟩=some (af Ap pn pc):=al.cell.trans rfl
 have bt:w2.cell? ⟨w.heap.size,7,none⟩=some (ae aj k):=al.cell.trans rfl
 have bu:w2.cell? ⟨w.heap.size,8,none⟩=some (ai false):=al.cell.trans rfl
 have a4:=gW aT
 clear aW aT al
 rw[hp]
 go_wp2
 go_ret
 exact⟨rfl,a4.out⟩
theorem PA(w:aq)(s h m:Int)(z:Bool)(Ah:Option au)(hn hc:Nat)(Aw:Option au)(wn wc:Nat)(Ap:Option au)(pn pc:Nat)(k:Int)(f:Nat->Nat)(hr:iy w w.heap.size Ap pn f)(hq:ku s h m=0)(hp:ko f pn k=0)(h2:(hn:Int)<=s)(h3:(wn:Int)<m)(h5:k<=7)(h6:0<wn):
  aw prog 16 #[ah #[ae aj s,ae aj h,ae aj m,ai z,af Ah hn hc,af Aw wn wc,af Ap pn pc,ae aj k,ai true]] w fun e w'=>e=ao (ae aj 8)/\aR w.heap.size w w':=by
 have d2:decide (s<(hn:Int))=false:=decide_eq_false (by omega)
 have d3:decide (m<=(wn:Int))=false:=decide_eq_false (by omega)
 have d5:decide (7<k)=false:=decide_eq_false (by omega)
 have d6:decide ((0:Int)<(wn:Int))=true:=decide_eq_true (by omega)
 have a5:decide (0<wn)=true:=decide_eq_true (by omega)
 clear h2 h3 h5
 have HR:=gW hr
 clear hr
 obtain⟨W1,av⟩:=gX (w.alloc (ak #[ae aj s,ae aj h,ae aj m,ai z,af Ah hn hc,af Aw wn wc,af Ap pn pc,ae aj k,ai true] 32))
 have aX:gZ W1 w.heap.size #[ae aj s,ae aj h,ae aj m,ai z,af Ah hn hc,af Aw wn wc,af Ap pn pc,ae aj k,ai true] 32:=by rw[av];exact gZ.new w _ _
 have aY:aR w.heap.size w W1:=by rw[av];exact ix.alloc gY _
 have aU:=gW aX;have aZ:=gW aY;have a1:=gW av
 have a2:aQ (∀V,gZ V w.heap.size #[ae aj s,ae aj h,ae aj m,ai z,af Ah hn hc,af Aw wn wc,af Ap pn pc,ae aj k,ai true] 32->V.rangeAt w.heap.size 0 [ae aj s,ae aj h,ae aj m,ai z]):=gW fun V hx=>mg hx 0 _ (fun i hi=>by rcases i with _|_|_|_|i<;>first|rfl|(simp at hi;omega))
 have a3:aQ (∀V,gZ V w.heap.size #[ae aj s,ae aj h,ae aj m,ai z,af Ah hn hc,af Aw wn wc,af Ap pn pc,ae aj k,ai true] 32->V.rangeAt w.heap.size 6 [af Ap pn pc,ae aj k]):=gW fun V hx=>mg hx 6 _ (fun i hi=>by rcases i with _|_|i<;>first|rfl|(simp at hi;omega))
 clear aX aY av
 go_enter func16,ntmps16
 go_wp2_with (first
  |(rw[<-a1.out])
  |(refine aF rfl _ _ rfl w.heap.size 0 rfl [ae aj s,ae aj h,ae aj m,ai z] _ (a2.out _ aU.out) underlying27 rfl (qj ..) ?_)
  |fail)
 refine(pG _ s h m z).mono ?_
 rintro e w1 ⟨rfl,aV⟩
 have ad:gZ w1 w.heap.size #[ae aj s,ae aj h,ae aj m,ai z,af Ah hn hc,af Aw wn wc,af Ap pn pc,ae aj k,ai true] 32:=aU.out.below aV aU.out.lt
 have aS:aR w.heap.size w w1:=aZ.out.trans (aV.mono aZ.out.size)
 have a6:w1.cell? ⟨w.heap.size,0,none⟩=some (ae aj s):=ad.cell.trans rfl
 have a7:w1.cell? ⟨w.heap.size,1,none⟩=some (ae aj h):=ad.cell.trans rfl
 have a8:w1.cell? ⟨w.heap.size,2,none⟩=some (ae aj m):=ad.cell.trans rfl
 have a9:w1.cell? ⟨w.heap.size,3,none⟩=some (ai z):=ad.cell.trans rfl
 have bd:w1.cell? ⟨w.heap.size,4,none⟩=some (af Ah hn hc):=ad.cell.trans rfl
 have bf:w1.cell? ⟨w.heap.size,5,none⟩=some (af Aw wn wc):=ad.cell.trans rfl
 have bg:w1.cell? ⟨w.heap.size,6,none⟩=some (af Ap pn pc):=ad.cell.trans rfl
 have bj:w1.cell? ⟨w.heap.size,7,none⟩=some (ae aj k):=ad.cell.trans rfl
 have bk:w1.cell? ⟨w.heap.size,8,none⟩=some (ai true):=ad.cell.trans rfl
 have HB:=gW aS;have HX:=gW ad
 clear aV aS ad
 rw[hq]
 go_wp2_with (first
  |(refine aF rfl _ _ rfl w.heap.size 6 rfl [af Ap pn pc,ae aj k] _ (a3.out _ HX.out) underlying30 rfl (ou _ _) ?_)
  |fail)
 refine(pZ w1 Ap pn pc f k ((HR.out.below HB.out gY).more HB.out.size)).mono ?_
 rintro e w2 ⟨rfl,aW⟩
 have al:gZ w2 w.heap.size #[ae aj s,ae aj h,ae aj m,ai z,af Ah hn hc,af Aw wn wc,af Ap pn pc,ae aj k,ai true] 32:=HX.out.below aW HX.out.lt
 have aT:aR w.heap.size w w2:=HB.out.trans (aW.mono HB.out.size)
 have bl:w2.cell? ⟨w.heap.size,0,none⟩=some (ae aj s):=al.cell.trans rfl
 have bm:w2.cell? ⟨w.heap.size,1,none⟩=some (ae aj h):=al.cell.trans rfl
 have bn:w2.cell? ⟨w.heap.size,2,none⟩=some (ae aj m):=al.cell.trans rfl
 have bp:w2.cell? ⟨w.heap.size,3,none⟩=some (ai z):=al.cell.trans rfl
 have bq:w2.cell? ⟨w.heap.size,4,none⟩=some (af Ah hn hc):=al.cell.trans rfl
 have br:w2.cell? ⟨w.heap.size,5,none⟩=some (af Aw wn wc):=al.cell.trans rfl
 have bt:w2.cell? ⟨w.heap.size,6,none⟩=some (af Ap pn pc):=al.cell.trans rfl
 have bu:w2.cell? ⟨w.heap.size,7,none⟩=some (ae aj k):=al.cell.trans rfl
 have bz:w2.cell? ⟨w.heap.size,8,none⟩=some (ai true):=al.cell.trans rfl
 have a4:=gW aT
 clear aW aT al
 rw[hp]
 go_wp2
 go_ret
 exact⟨rfl,a4.out⟩
theorem PB(w:aq)(s h m:Int)(z:Bool)(Ah:Option au)(hn hc:Nat)(Aw:Option au)(wn wc:Nat)(Ap:Option au)(pn pc:Nat)(k:Int)(f:Nat->Nat)(hr:iy w w.heap.size Ap pn f)(hq:ku s h m=0)(hp:ko f pn k=0)(h2:(hn:Int)<=s)(h3:(wn:Int)<m)(h5:k<=7)(h6:¬0<wn)(h7:0<k):
  aw prog 16 #[ah #[ae aj s,ae aj h,ae aj m,ai z,af Ah hn hc,af Aw wn wc,af Ap pn pc,ae aj k,ai true]] w fun e w'=>e=ao (ae aj 8)/\aR w.heap.size w w':=by
 have d2:decide (s<(hn:Int))=false:=decide_eq_false (by omega)
 have d3:decide (m<=(wn:Int))=false:=decide_eq_false (by omega)
 have d5:decide (7<k)=false:=decide_eq_false (by omega)
 have d6:decide ((0:Int)<(wn:Int))=false:=decide_eq_false (by omega)
 have a5:decide (0<wn)=false:=decide_eq_false (by omega)
 have d7:decide ((0:Int)<k)=true:=decide_eq_true (by omega)
 clear h2 h3 h5
 have HR:=gW hr
 clear hr
 obtain⟨W1,av⟩:=gX (w.alloc (ak #[ae aj s,ae aj h,ae aj m,ai z,af Ah hn hc,af Aw wn wc,af Ap pn pc,ae aj k,ai true] 32))
 have aX:gZ W1 w.heap.size #[ae aj s,ae aj h,ae aj m,ai z,af Ah hn hc,af Aw wn wc,af Ap pn pc,ae aj k,ai true] 32:=by rw[av];exact gZ.new w _ _
 have aY:aR w.heap.size w W1:=by rw[av];exact ix.alloc gY _
 have aU:=gW aX;have aZ:=gW aY;have a1:=gW av
 have a2:aQ (∀V,gZ V w.heap.size #[ae aj s,ae aj h,ae aj m,ai z,af Ah hn hc,af Aw wn wc,af Ap pn pc,ae aj k,ai true] 32->V.rangeAt w.heap.size 0 [ae aj s,ae aj h,ae aj m,ai z]):=gW fun V hx=>mg hx 0 _ (fun i hi=>by rcases i with _|_|_|_|i<;>first|rfl|(simp at hi;omega))
 have a3:aQ (∀V,gZ V w.heap.size #[ae aj s,ae aj h,ae aj m,ai z,af Ah hn hc,af Aw wn wc,af Ap pn pc,ae aj k,ai true] 32->V.rangeAt w.heap.size 6 [af Ap pn pc,ae aj k]):=gW fun V hx=>mg hx 6 _ (fun i hi=>by rcases i with _|_|i<;>first|rfl|(simp at hi;omega))
 clear aX aY av
 go_enter func16,ntmps16
 go_wp2_with (first
  |(rw[<-a1.out])
  |(refine aF rfl _ _ rfl w.heap.size 0 rfl [ae aj s,ae aj h,ae aj m,ai z] _ (a2.out _ aU.out) underlying27 rfl (qj ..) ?_)
  |fail)
 refine(pG _ s h m z).mono ?_
 rintro e w1 ⟨rfl,aV⟩
 have ad:gZ w1 w.heap.size #[ae aj s,ae aj h,ae aj m,ai z,af Ah hn hc,af Aw wn wc,af Ap pn pc,ae aj k,ai true] 32:=aU.out.below aV aU.out.lt
 have aS:aR w.heap.size w w1:=aZ.out.trans (aV.mono aZ.out.size)
 have a6:w1.cell? ⟨w.heap.size,0,none⟩=some (ae aj s):=ad.cell.trans rfl
 have a7:w1.cell? ⟨w.heap.size,1,none⟩=some (ae aj h):=ad.cell.trans rfl
 have a8:w1.cell? ⟨w.heap.size,2,none⟩=some (ae aj m):=ad.cell.trans rfl
 have a9:w1.cell? ⟨w.heap.size,3,none⟩=some (ai z):=ad.cell.trans rfl
 have bd:w1.cell? ⟨w.heap.size,4,none⟩=some (af Ah hn hc):=ad.cell.trans rfl
 have bf:w1.cell? ⟨w.heap.size,5,none⟩=some (af Aw wn wc):=ad.cell.trans rfl
 have bg:w1.cell? ⟨w.heap.size,6,none⟩=some (af Ap pn pc):=ad.cell.trans rfl
 have bj:w1.cell? ⟨w.heap.size,7,none⟩=some (ae aj k):=ad.cell.trans rfl
 have bk:w1.cell? ⟨w.heap.size,8,none⟩=some (ai true):=ad.cell.trans rfl
 have HB:=gW aS;have HX:=gW ad
 clear aV aS ad
 rw[hq]
 go_wp2_with (first
  |(refine aF rfl _ _ rfl w.heap.size 6 rfl [af Ap pn pc,ae aj k] _ (a3.out _ HX.out) underlying30 rfl (ou _ _) ?_)
  |fail)
 refine(pZ w1 Ap pn pc f k ((HR.out.below HB.out gY).more HB.out.size)).mono ?_
 rintro e w2 ⟨rfl,aW⟩
 have al:gZ w2 w.heap.size #[ae aj s,ae aj h,ae aj m,ai z,af Ah hn hc,af Aw wn wc,af Ap pn pc,ae aj k,ai true] 32:=HX.out.below aW HX.out.lt
 have aT:aR w.heap.size w w2:=HB.out.trans (aW.mono HB.out.size)
 have bl:w2.cell? ⟨w.heap.size,0,none⟩=some (ae aj s):=al.cell.trans rfl
 have bm:w2.cell? ⟨w.heap.size,1,none⟩=some (ae aj h):=al.cell.trans rfl
 have bn:w2.cell? ⟨w.heap.size,2,none⟩=some (ae aj m):=al.cell.trans rfl
 have bp:w2.cell? ⟨w.heap.size,3,none⟩=some (ai z):=al.cell.trans rfl
 have bq:w2.cell? ⟨w.heap.size,4,none⟩=some (af Ah hn hc):=al.cell.trans rfl
 have br:w2.cell? ⟨w.heap.size,5,none⟩=some (af Aw wn wc):=al.cell.trans rfl
 have bt:w2.cell? ⟨w.heap.size,6,none⟩=some (af Ap pn pc):=al.cell.trans rfl
 have bu:w2.cell? ⟨w.heap.size,7,none⟩=some (ae aj k):=al.cell.trans rfl
 have bz:w2.cell? ⟨w.heap.size,8,none⟩=some (ai true):=al.cell.trans rfl
 have a4:=gW aT
 clear aW aT al
 rw[hp]
 go_wp2
 go_ret
 exact⟨rfl,a4.out⟩
theorem PE(w:aq)(s h m:Int)(z:Bool)(Ah:Option au)(hn hc:Nat)(Aw:Option au)(wn wc:Nat)(Ap:Option au)(pn pc:Nat)(k:Int)(f:Nat->Nat)(hr:iy w w.heap.size Ap pn f)(hq:ku s h m=0)(hp:ko f pn k=0)(h2:(hn:Int)<=s)(h3:(wn:Int)<m)(h6:¬0<wn)(h7:¬0<k):
  aw prog 16 #[ah #[ae aj s,ae aj h,ae aj m,ai z,af Ah hn hc,af Aw wn wc,af Ap pn pc,ae aj k,ai true]] w fun e w'=>e=ao (ae aj 0)/\aR w.heap.size w w':=by
 have d2:decide (s<(hn:Int))=false:=decide_eq_false (by omega)
 have d3:decide (m<=(wn:Int))=false:=decide_eq_false (by omega)
 have d5:decide (7<k)=false:=decide_eq_false (by omega)
 have d6:decide ((0:Int)<(wn:Int))=false:=decide_eq_false (by omega)
 have a5:decide (0<wn)=false:=decide_eq_false (by omega)
 have d7:decide ((0:Int)<k)=false:=decide_eq_false (by omega)
 clear h2 h3
 have HR:=gW hr
 clear hr
 obtain⟨W1,av⟩:=gX (w.alloc (ak #[ae aj s,ae aj h,ae aj m,ai z,af Ah hn hc,af Aw wn wc,af Ap pn pc,ae aj k,ai true] 32))
 have aX:gZ W1 w.heap.size #[ae aj s,ae aj h,ae aj m,ai z,af Ah hn hc,af Aw wn wc,af Ap pn pc,ae aj k,ai true] 32:=by rw[av];exact gZ.new w _ _
 have aY:aR w.heap.size w W1:=by rw[av];exact ix.alloc gY _
 have aU:=gW aX;have aZ:=gW aY;have a1:=gW av
 have a2:aQ (∀V,gZ V w.heap.size #[ae aj s,ae aj h,ae aj m,ai z,af Ah hn hc,af Aw wn wc,af Ap pn pc,ae aj k,ai true] 32->V.rangeAt w.heap.size 0 [ae aj s,ae aj h,ae aj m,ai z]):=gW fun V hx=>mg hx 0 _ (fun i hi=>by rcases i with _|_|_|_|i<;>first|rfl|(simp at hi;omega))
 have a3:aQ (∀V,gZ V w.heap.size #[ae aj s,ae aj h,ae aj m,ai z,af Ah hn hc,af Aw wn wc,af Ap pn pc,ae aj k,ai true] 32->V.rangeAt w.heap.size 6 [af Ap pn pc,ae aj k]):=gW fun V hx=>mg hx 6 _ (fun i hi=>by rcases i with _|_|i<;>first|rfl|(simp at hi;omega))
 clear aX aY av
 go_enter func16,ntmps16
 go_wp2_with (first
  |(rw[<-a1.out])
  |(refine aF rfl _ _ rfl w.heap.size 0 rfl [ae aj s,ae aj h,ae aj m,ai z] _ (a2.out _ aU.out) underlying27 rfl (qj ..) ?_)
  |fail)
 refine(pG _ s h m z).mono ?_
 rintro e w1 ⟨rfl,aV⟩
 have ad:gZ w1 w.heap.size #[ae aj s,ae aj h,ae aj m,ai z,af Ah hn hc,af Aw wn wc,af Ap pn pc,ae aj k,ai true] 32:=aU.out.below aV aU.out.lt
 have aS:aR w.heap.size w w1:=aZ.out.trans (aV.mono aZ.out.size)
 have a6:w1.cell? ⟨w.heap.size,0,none⟩=some (ae aj s):=ad.cell.trans rfl
 have a7:w1.cell? ⟨w.heap.size,1,none⟩=some (ae aj h):=ad.cell.trans rfl
 have a8:w1.cell? ⟨w.heap.size,2,none⟩=some (ae aj m):=ad.cell.trans rfl
 have a9:w1.cell? ⟨w.heap.size,3,none⟩=some (ai z):=ad.cell.trans rfl
 have bd:w1.cell? ⟨w.heap.size,4,none⟩=some (af Ah hn hc):=ad.cell.trans rfl
 have bf:w1.cell? ⟨w.heap.size,5,none⟩=some (af Aw wn wc):=ad.cell.trans rfl
 have bg:w1.cell? ⟨w.heap.size,6,none⟩=some (af Ap pn pc):=ad.cell.trans rfl
 have bj:w1.cell? ⟨w.heap.size,7,none⟩=some (ae aj k):=ad.cell.trans rfl
 have bk:w1.cell? ⟨w.heap.size,8,none⟩=some (ai true):=ad.cell.trans rfl
 have HB:=gW aS;have HX:=gW ad
 clear aV aS ad
 rw[hq]
 go_wp2_with (first
  |(refine aF rfl _ _ rfl w.heap.size 6 rfl [af Ap pn pc,ae aj k] _ (a3.out _ HX.out) underlying30 rfl (ou _ _) ?_)
  |fail)
 refine(pZ w1 Ap pn pc f k ((HR.out.below HB.out gY).more HB.out.size)).mono ?_
 rintro e w2 ⟨rfl,aW⟩
 have al:gZ w2 w.heap.size #[ae aj s,ae aj h,ae aj m,ai z,af Ah hn hc,af Aw wn wc,af Ap pn pc,ae aj k,ai true] 32:=HX.out.below aW HX.out.lt
 have aT:aR w.heap.size w w2:=HB.out.trans (aW.mono HB.out.size)
 have bl:w2.cell? ⟨w.heap.size,0,none⟩=some (ae aj s):=al.cell.trans rfl
 have bm:w2.cell? ⟨w.heap.size,1,none⟩=some (ae aj h):=al.cell.trans rfl
 have bn:w2.cell? ⟨w.heap.size,2,none⟩=some (ae aj m):=al.cell.trans rfl
 have bp:w2.cell? ⟨w.heap.size,3,none⟩=some (ai z):=al.cell.trans rfl
 have bq:w2.cell? ⟨w.heap.size,4,none⟩=some (af Ah hn hc):=al.cell.trans rfl
 have br:w2.cell? ⟨w.heap.size,5,none⟩=some (af Aw wn wc):=al.cell.trans rfl
 have bt:w2.cell? ⟨w.heap.size,6,none⟩=some (af Ap pn pc):=al.cell.trans rfl
 have bu:w2.cell? ⟨w.heap.size,7,none⟩=some (ae aj k):=al.cell.trans rfl
 have bz:w2.cell? ⟨w.heap.size,8,none⟩=some (ai true):=al.cell.trans rfl
 have a4:=gW aT
 clear aW aT al
 rw[hp]
 go_wp2
 go_ret
 exact⟨rfl,a4.out⟩
theorem PF(w:aq)(s h m:Int)(z:Bool)(Ah:Option au)(hn hc:Nat)(Aw:Option au)(wn wc:Nat)(Ap:Option au)(pn pc:Nat)(k:Int)(ov:Bool)(f:Nat->Nat)(hr:iy w w.heap.size Ap pn f):
  aw prog 16 #[ah #[ae aj s,ae aj h,ae aj m,ai z,af Ah hn hc,af Aw wn wc,af Ap pn pc,ae aj k,ai ov]] w fun e w'=>e=ao (ae aj (if l4 (iJ s h m) s m hn wn (jY f pn k) k ov then 0 else 8))/\aR w.heap.size w w':=by
 have key:∀(b:Bool) (v:Int),l4 (iJ s h m) s m hn wn (jY f pn k) k ov=b->v=(if b then 0 else 8)->aw prog 16 #[ah #[ae aj s,ae aj h,ae aj m,ai z,af Ah hn hc,af Aw wn wc,af Ap pn pc,ae aj k,ai ov]] w (fun e w'=>e=ao (ae aj v)/\aR w.heap.size w w')->aw prog 16 #[ah #[ae aj s,ae aj h,ae aj m,ai z,af Ah hn hc,af Aw wn wc,af Ap pn pc,ae aj k,ai ov]] w (fun e w'=>e=ao (ae aj (if l4 (iJ s h m) s m hn wn (jY f pn k) k ov then 0 else 8))/\aR w.heap.size w w'):=fun b v e1 e2 hc=>by rw[e1,<-e2];exact hc
 cases hq:iJ s h m with
 |false=>rw[hq]at key;exact key false 8 rfl rfl (Pu w s h m z Ah hn hc Aw wn wc Ap pn pc k ov f hr (by unfold ku;rw[hq];rfl))
 |true=>
  have sq:ku s h m=0:=by unfold ku;rw[hq];rfl
  rw[hq]at key;cases hp:jY f pn k with
  |false=>rw[hp]at key;exact key false 8 (by simp[l4]) rfl (Pv w s h m z Ah hn hc Aw wn wc Ap pn pc k ov f hr sq (by unfold ko;rw[hp];rfl))
  |true=>
   have pq:ko f pn k=0:=by unfold ko;rw[hp];rfl
   have ad:0<=k:=by
    obtain⟨K,e,_⟩:=vE hr.1 pq;omega
   rw[hp]at key;by_cases h2:(hn:Int)<=s
   ·by_cases h3:(wn:Int)<m
    ·by_cases h5:k<=7
     ·cases ov with
      |false=>exact key true 0 (by simp[l4,h2,h3,h5]) rfl (Pz w s h m z Ah hn hc Aw wn wc Ap pn pc k f hr sq pq h2 h3 h5)
      |true=>
       by_cases h6:0<wn
       ·exact key false 8 (by simp[l4];omega) rfl (PA w s h m z Ah hn hc Aw wn wc Ap pn pc k f hr sq pq h2 h3 h5 h6)
       ·by_cases h7:0<k
        ·exact key false 8 (by simp[l4];omega) rfl (PB w s h m z Ah hn hc Aw wn wc Ap pn pc k f hr sq pq h2 h3 h5 h6 h7)
        ·have e6:wn=0:=by omega
         have e7:k=0:=by omega
         exact key true 0 (by subst e6;subst e7;simp[l4,h2];omega) rfl (PE w s h m z Ah hn hc Aw wn wc Ap pn pc k f hr sq pq h2 h3 h6 h7)
     ·exact key false 8 (by simp[l4,h5]) rfl (Py w s h m z Ah hn hc Aw wn wc Ap pn pc k ov f hr sq pq h2 h3 (by omega))
    ·exact key false 8 (by simp[l4,h3]) rfl (Px w s h m z Ah hn hc Aw wn wc Ap pn pc k ov f hr sq pq h2 (by omega))
   ·exact key false 8 (by simp[l4,h2]) rfl (Pw w s h m z Ah hn hc Aw wn wc Ap pn pc k ov f hr sq pq (by omega))
theorem Gb:we:=by
 intro w p Ah hc Aw wc Ap pc hp;exact PF w p.s p.h p.m p.z Ah p.hist.length hc Aw p.wait.length wc Ap p.ie.length pc p.k p.iH (hH p.ie) hp.ie.1
theorem PG(w:aq)(A:Option au)(c:Nat)(L:List Nat)(k:Int)(A2:Option au)(c2:Nat)(M:List Nat)(j:Int)(hr:ib w w.heap.size A L.length c (hH L))(al:ib w w.heap.size A2 M.length c2 (hH M)):
  aw prog 42 #[ah #[af A L.length c,ae aj k],ah #[af A2 M.length c2,ae aj j]] w fun e w'=>e=ao (ai (oC L k M j))/\aR w.heap.size w w':=by
 obtain⟨n,hn⟩:=gX (L.length)
 obtain⟨m,hm⟩:=gX (M.length)
 obtain⟨h,hh⟩:=gX (w.heap.size)
 obtain⟨W1,ad⟩:=gX ((w.alloc (ak #[af A n c,ae aj k] 30)).alloc (ak #[af A2 m c2,ae aj j] 30))
 have b1:aR h w W1:=by rw[ad,hh];exact(ix.alloc gY _).alloc (by simp) _
 have x1:gZ W1 h #[af A n c,ae aj k] 30:=by rw[ad,hh];exact(gZ.new w _ _).old _
 have y1:gZ W1 (h+1) #[af A2 m c2,ae aj j] 30:=by
  rw[ad,hh];have:=gZ.new (w.alloc (ak #[af A n c,ae aj k] 30)) #[af A2 m c2,ae aj j] 30
  rwa[World.size_alloc]at this
 have heq:=zR W1 A c L A2 c2 M ((hr.below (hh▸b1) gY).more (hh▸b1).size) ((al.below (hh▸b1) gY).more (hh▸b1).size)
 rw[<-hn,<-hm]at heq
 have k0:W1.cell? ⟨h,0,none⟩=some (af A n c):=x1.cell.trans rfl
 have k1:W1.cell? ⟨h,1,none⟩=some (ae aj k):=x1.cell.trans rfl
 have j0:W1.cell? ⟨h+1,0,none⟩=some (af A2 m c2):=y1.cell.trans rfl
 have j1:W1.cell? ⟨h+1,1,none⟩=some (ae aj j):=y1.cell.trans rfl
 have av:=gW ad;have HH:=gW hh;have aS:=gW b1;have aT:=gW heq
 rw[<-hn,<-hm]
 clear ad hh b1 x1 y1 hr al hn hm heq
 by_cases e1:k=j
 ·have d1:(k==j)=true:=by simpa using e1
  have HV:aQ (oC L k M j=decide (L=M)):=gW (by unfold oC;simp[e1]);clear e1;go_enter func42,ntmps42
  go_wp2_with (first|(rw[<-av.out,<-HH.out])|fail)
  refine aT.out.mono ?_;rintro e w2 ⟨rfl,rfl⟩;rw[<-HV.out];go_wp2;go_ret;exact⟨rfl,by rw[<-HH.out];exact aS.out⟩
 ·have d1:(k==j)=false:=by simpa using e1
  have HV:aQ (oC L k M j=false):=gW (decide_eq_false (fun h=>e1 h.1));clear e1;go_enter func42,ntmps42
  go_wp2_with (rw[<-av.out,<-HH.out])
  go_ret;exact⟨by rw[HV.out];rfl,by rw[<-HH.out];exact aS.out⟩
theorem PH:DZ:=by
 intro w a b Ah hc Aw wc Ap pc Bh hd Bw wd Bp pd ha hb;obtain⟨h,hh⟩:=gX (w.heap.size);obtain⟨X,hX⟩:=gX (iA a Ah hc Aw wc Ap pc);obtain⟨Y,hY⟩:=gX (iA b Bh hd Bw wd Bp pd);rw[<-hX,<-hY];obtain⟨W1,a1⟩:=gX ((w.alloc (ak X 32)).alloc (ak Y 32));have b1:aR h w W1:=by rw[a1,hh];exact(ix.alloc gY _).alloc (by simp) _
 have aU:gZ W1 h X 32:=by rw[a1,hh];exact(gZ.new w _ _).old _
 have aV:gZ W1 (h+1) Y 32:=by
  rw[a1,hh];have:=gZ.new (w.alloc (ak X 32)) Y 32
  rwa[World.size_alloc]at this
 obtain⟨na,a2⟩:=gX (a.hist.length);obtain⟨ma,a3⟩:=gX (a.wait.length);obtain⟨pa,a4⟩:=gX (a.ie.length);obtain⟨nb,a5⟩:=gX (b.hist.length);obtain⟨mb,a6⟩:=gX (b.wait.length);obtain⟨pb,a7⟩:=gX (b.ie.length);have Xx:X=#[ae aj a.s,ae aj a.h,ae aj a.m,ai a.z,af Ah na hc,af Aw ma wc,af Ap pa pc,ae aj a.k,ai a.iH]:=by rw[hX,a2,a3,a4];rfl
 have Xy:Y=#[ae aj b.s,ae aj b.h,ae aj b.m,ai b.z,af Bh nb hd,af Bw mb wd,af Bp pb pd,ae aj b.k,ai b.iH]:=by rw[hY,a5,a6,a7];rfl
 have pv:∀V,aR h w V->iD V V.heap.size a Ah hc Aw wc Ap pc/\iD V V.heap.size b Bh hd Bw wd Bp pd:=fun V hV=>⟨(ha.below (hh▸hV) gY).more (hh▸hV).size,(hb.below (hh▸hV) gY).more (hh▸hV).size⟩
 have aY:aQ (∀V,aR h w V->aw prog 42 #[ah #[af Ap pa pc,ae aj a.k],ah #[af Bp pb pd,ae aj b.k]] V fun e w'=>e=ao (ai (oC a.ie a.k b.ie b.k))/\aR V.heap.size V w'):=gW fun V hV=>by
  have h1:=PG V Ap pc a.ie a.k Bp pd b.ie b.k (pv V hV).1.ie (pv V hV).2.ie;rwa[<-a4,<-a7]at h1
 have a8:aQ (∀V,aR h w V->aw prog 43 #[af Ah na hc,af Bh nb hd] V fun e w'=>e=ao (ai (decide (a.hist=b.hist)))/\w'=V):=gW fun V hV=>by
  have h1:=zR V Ah hc a.hist Bh hd b.hist (pv V hV).1.hist (pv V hV).2.hist;rwa[<-a2,<-a5]at h1
 have bj:aQ (∀V,aR h w V->aw prog 43 #[af Aw ma wc,af Bw mb wd] V fun e w'=>e=ao (ai (decide (a.wait=b.wait)))/\w'=V):=gW fun V hV=>by
  have h1:=zR V Aw wc a.wait Bw wd b.wait (pv V hV).1.wait (pv V hV).2.wait;rwa[<-a3,<-a6]at h1
 have aZ:=gW a1;have HH:=gW hh;have aT:=gW b1;have HX:=gW aU;have HY:=gW aV;have aW:=gW Xx;have aX:=gW Xy
 have bk:W1.cell? ⟨h,0,none⟩=some (ae aj a.s):=by rw[aU.cell,Xx];rfl
 have bl:W1.cell? ⟨h,1,none⟩=some (ae aj a.h):=by rw[aU.cell,Xx];rfl
 have bm:W1.cell? ⟨h,2,none⟩=some (ae aj a.m):=by rw[aU.cell,Xx];rfl
 have bn:W1.cell? ⟨h,3,none⟩=some (ai a.z):=by rw[aU.cell,Xx];rfl
 have bp:W1.cell? ⟨h,8,none⟩=some (ai a.iH):=by rw[aU.cell,Xx];rfl
 have bq:W1.cell? ⟨h,6,none⟩=some (af Ap pa pc):=by rw[aU.cell,Xx];rfl
 have br:W1.cell? ⟨h,7,none⟩=some (ae aj a.k):=by rw[aU.cell,Xx];rfl
 have bt:W1.cell? ⟨h+1,0,none⟩=some (ae aj b.s):=by rw[aV.cell,Xy];rfl
 have bu:W1.cell? ⟨h+1,1,none⟩=some (ae aj b.h):=by rw[aV.cell,Xy];rfl
 have bz:W1.cell? ⟨h+1,2,none⟩=some (ae aj b.m):=by rw[aV.cell,Xy];rfl
 have bA:W1.cell? ⟨h+1,3,none⟩=some (ai b.z):=by rw[aV.cell,Xy];rfl
 have bB:W1.cell? ⟨h+1,8,none⟩=some (ai b.iH):=by rw[aV.cell,Xy];rfl
 have bC:W1.cell? ⟨h+1,6,none⟩=some (af Bp pb pd):=by rw[aV.cell,Xy];rfl
 have bD:W1.cell? ⟨h+1,7,none⟩=some (ae aj b.k):=by rw[aV.cell,Xy];rfl
 clear a1 hh b1 aU aV Xx Xy pv hX hY a2 a3 a4 a5 a6 a7 ha hb;cases d1:sF a.s a.h a.m a.z b.s b.h b.m b.z with
 |false=>
  have HV:aQ (kI a b=false):=gW (by unfold kI;simp[*]);go_enter func24,ntmps24
  go_wp2_with (first
   |(rw[<-aZ.out,<-HH.out])
   |(refine pk rfl _ _ _ _ _ rfl _ _ _ rfl rfl (po _ _ _ _ _) (pr _ _ _ _ _ _ _ _ _ false d1) ?_)
   |fail)
  go_ret;exact⟨by rw[HV.out];rfl,by rw[<-HH.out];exact aT.out⟩
 |true=>
  cases d2:(a.iH==b.iH)with
  |false=>
   have HV:aQ (kI a b=false):=gW (by unfold kI;simp[*]);go_enter func24,ntmps24
   go_wp2_with (first
    |(rw[<-aZ.out,<-HH.out])
    |(refine pk rfl _ _ _ _ _ rfl _ _ _ rfl rfl (po _ _ _ _ _) (pr _ _ _ _ _ _ _ _ _ true d1) ?_)
    |fail)
   go_ret;exact⟨by rw[HV.out];rfl,by rw[<-HH.out];exact aT.out⟩
  |true=>
   cases dp:oC a.ie a.k b.ie b.k with
   |false=>
    have HV:aQ (kI a b=false):=gW (by unfold kI;rw[d1,d2,dp];simp[*]);go_enter func24,ntmps24
    go_wp2_with (first
     |(rw[<-aZ.out,<-HH.out])
     |(refine pk rfl _ _ _ _ _ rfl _ _ _ rfl rfl (po _ _ _ _ _) (pr _ _ _ _ _ _ _ _ _ true d1) ?_)
     |fail)
    refine(aY.out _ aT.out).mono ?_;rintro e w2 ⟨rfl,ad⟩;have al:=HX.out.below ad HX.out.lt;have av:=HY.out.below ad HY.out.lt;have aS:=gW (aT.out.trans (ad.mono (by have:=HX.out.lt;omega)));have a9:w2.cell? ⟨h,4,none⟩=some (af Ah na hc):=by rw[al.cell,aW.out];rfl
    have bd:w2.cell? ⟨h,5,none⟩=some (af Aw ma wc):=by rw[al.cell,aW.out];rfl
    have bf:w2.cell? ⟨h+1,4,none⟩=some (af Bh nb hd):=by rw[av.cell,aX.out];rfl
    have bg:w2.cell? ⟨h+1,5,none⟩=some (af Bw mb wd):=by rw[av.cell,aX.out];rfl
    clear ad al av;rw[dp];go_wp2;go_ret;exact⟨by rw[HV.out];rfl,by rw[<-HH.out];exact aS.out⟩
   |true=>
    cases e1:decide (a.hist=b.hist)with
    |false=>
     have HV:aQ (kI a b=false):=gW (by unfold kI;rw[d1,d2,dp];simp[*]);go_enter func24,ntmps24
     go_wp2_with (first
      |(rw[<-aZ.out,<-HH.out])
      |(refine pk rfl _ _ _ _ _ rfl _ _ _ rfl rfl (po _ _ _ _ _) (pr _ _ _ _ _ _ _ _ _ true d1) ?_)
      |fail)
     refine(aY.out _ aT.out).mono ?_;rintro e w2 ⟨rfl,ad⟩;have al:=HX.out.below ad HX.out.lt;have av:=HY.out.below ad HY.out.lt;have aS:=gW (aT.out.trans (ad.mono (by have:=HX.out.lt;omega)));have a9:w2.cell? ⟨h,4,none⟩=some (af Ah na hc):=by rw[al.cell,aW.out];rfl
     have bd:w2.cell? ⟨h,5,none⟩=some (af Aw ma wc):=by rw[al.cell,aW.out];rfl
     have bf:w2.cell? ⟨h+1,4,none⟩=some (af Bh nb hd):=by rw[av.cell,aX.out];rfl
     have bg:w2.cell? ⟨h+1,5,none⟩=some (af Bw mb wd):=by rw[av.cell,aX.out];rfl
     clear ad al av;rw[dp];go_wp2_with fail
     refine(a8.out w2 aS.out).mono ?_;rintro e w3 ⟨rfl,rfl⟩;go_wp2;go_ret;exact⟨by rw[HV.out];rfl,by rw[<-HH.out];exact aS.out⟩
    |true=>
     cases e2:decide (a.wait=b.wait)with
     |false=>
      have HV:aQ (kI a b=false):=gW (by unfold kI;rw[d1,d2,dp];simp[*]);go_enter func24,ntmps24
      go_wp2_with (first
       |(rw[<-aZ.out,<-HH.out])
       |(refine pk rfl _ _ _ _ _ rfl _ _ _ rfl rfl (po _ _ _ _ _) (pr _ _ _ _ _ _ _ _ _ true d1) ?_)
       |fail)
      refine(aY.out _ aT.out).mono ?_;rintro e w2 ⟨rfl,ad⟩;have al:=HX.out.below ad HX.out.lt;have av:=HY.out.below ad HY.out.lt;have aS:=gW (aT.out.trans (ad.mono (by have:=HX.out.lt;omega)));have a9:w2.cell? ⟨h,4,none⟩=some (af Ah na hc):=by rw[al.cell,aW.out];rfl
      have bd:w2.cell? ⟨h,5,none⟩=some (af Aw ma wc):=by rw[al.cell,aW.out];rfl
      have bf:w2.cell? ⟨h+1,4,none⟩=some (af Bh nb hd):=by rw[av.cell,aX.out];rfl
      have bg:w2.cell? ⟨h+1,5,none⟩=some (af Bw mb wd):=by rw[av.cell,aX.out];rfl
      clear ad al av;rw[dp];go_wp2_with fail
      refine(a8.out w2 aS.out).mono ?_;rintro e w3 ⟨rfl,rfl⟩;rw[e1];go_wp2_with fail
      refine(bj.out w3 aS.out).mono ?_;rintro e w4 ⟨rfl,rfl⟩;rw[e2];go_wp2;go_ret;exact⟨by rw[HV.out];rfl,by rw[<-HH.out];exact aS.out⟩
     |true=>
      have HV:aQ (kI a b=true):=gW (by unfold kI;rw[d1,d2,dp];simp[*]);go_enter func24,ntmps24
      go_wp2_with (first
       |(rw[<-aZ.out,<-HH.out])
       |(refine pk rfl _ _ _ _ _ rfl _ _ _ rfl rfl (po _ _ _ _ _) (pr _ _ _ _ _ _ _ _ _ true d1) ?_)
       |fail)
      refine(aY.out _ aT.out).mono ?_;rintro e w2 ⟨rfl,ad⟩;have al:=HX.out.below ad HX.out.lt;have av:=HY.out.below ad HY.out.lt;have aS:=gW (aT.out.trans (ad.mono (by have:=HX.out.lt;omega)));have a9:w2.cell? ⟨h,4,none⟩=some (af Ah na hc):=by rw[al.cell,aW.out];rfl
      have bd:w2.cell? ⟨h,5,none⟩=some (af Aw ma wc):=by rw[al.cell,aW.out];rfl
      have bf:w2.cell? ⟨h+1,4,none⟩=some (af Bh nb hd):=by rw[av.cell,aX.out];rfl
      have bg:w2.cell? ⟨h+1,5,none⟩=some (af Bw mb wd):=by rw[av.cell,aX.out];rfl
      clear ad al av;rw[dp];go_wp2_with fail
      refine(a8.out w2 aS.out).mono ?_;rintro e w3 ⟨rfl,rfl⟩;rw[e1];go_wp2_with fail
      refine(bj.out w3 aS.out).mono ?_;rintro e w4 ⟨rfl,rfl⟩;rw[e2];go_wp2;go_ret;exact⟨by rw[HV.out];rfl,by rw[<-HH.out];exact aS.out⟩
theorem PI:yM:=Ps Gb
theorem PJ:yN:=Pt Ga
theorem weigh{H:Type}{P:Program}{ts:List aB}{ds:List (DataW H)}(h:(DataW.weightsEach P ts ds).all (·<=reachBytes)=true){j:Nat}{t:aB}{d:DataW H}(ht:ts[j]?=some t)(hd:ds[j]?=some d):∀n∈d.weights P t,n<=reachBytes:=fun n hn=>by
 simpa using List.all_eq_true.1 h n (DataW.weights_mem_each ht hd n hn)
theorem PK{H:Type}{enc:aB×Value->H}{W:aq}{base:Nat}{sp:Nat->Bool}{hd:Bool}{a:Option au}{len cap:Nat}{y:DataW H×List MemPlace}{fuel:Nat}
  (hf:DataW.trod enc prog W base sp hd fuel 22 [Value.slice a len cap]=some y) (hw:∀n∈y.1.weights prog 22,n<=reachBytes):len<=140737488355328:=by
 rcases open_ints underlying22 underlying5 (by kernel_rfl) hf with⟨ad,_⟩|⟨x,l,c,zs,ad,_,hl,_,hz,hy,_,_⟩
 ·simp at ad;omega
 ·simp at ad;obtain⟨rfl,rfl,rfl⟩:=ad;subst hy;have hb:prog.bytesOf 5=1:=by kernel_rfl
  have h1:=hw ((zs.take len).length+(zs.drop len).length) (by
   simp only[DataW.weights,underlying22,hb,lits,List.length_map,Nat.mul_one];exact List.mem_cons_self ..)
  have al:len<=zs.length:=by rw[hz];split<;>omega
  rw[List.length_take,List.length_drop]at h1;unfold reachBytes at h1;omega
theorem PL{H:Type}{enc:aB×Value->H}{W:aq}{base:Nat}{sp:Nat->Bool}{hd:Bool}{q:iz}{Ah:Option au}{hc:Nat}{Aw:Option au}{wc:Nat}{Ap:Option au}{pc:Nat}{d:DataW H}{p:List MemPlace}
  (h:DataW.Trod enc prog W base sp hd 32 (ah (iA q Ah hc Aw wc Ap pc)) d p) (hw:∀n∈d.weights prog 32,n<=reachBytes):q.ie.length<=140737488355328:=by
 obtain⟨fuel,hf⟩:=h
 obtain⟨y0,y1,y2,y3,y4,n,hx,_,h0,h1,h2,h3,h4⟩:=F0 underlying32 hf
 simp only[Value.cells,iA]at h3
 rw[show prog.cellsOf _=2 from F3]at h3
 replace h3:DataW.trod enc prog W base sp hd n 30 [af Ap q.ie.length pc,ae aj q.k]=some y3:=h3
 obtain⟨u0,u1,m2,hy,_,k0,k1⟩:=trod_struct2 underlying30 h3
 rw[show prog.cellsOf _=1 from zN]at k0
 replace k0:DataW.trod enc prog W base sp hd m2 22 [af Ap q.ie.length pc]=some u0:=k0
 refine PK k0 fun x ad=>?_
 injection hx with hx _
 subst hx
 have e3:y3.1=.agg [u0.1,u1.1]:=by rw[hy]
 refine hw x ?_
 simp only[DataW.weights,underlying32]
 refine DataW.weights_mem_each (j:=3) rfl rfl x ?_
 rw[e3]
 simp only[DataW.weights,underlying30]
 exact DataW.weights_mem_each (j:=0) rfl rfl x ad
end Go.Proofs.YtokpcpjnihinfaaGreat
