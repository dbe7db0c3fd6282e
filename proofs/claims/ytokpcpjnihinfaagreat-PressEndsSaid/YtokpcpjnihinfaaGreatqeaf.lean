/-
  Words and walks.
-/
import Derived.ChangeKeysEq
import Derived.Lib.SlBytesConst
import Derived.KernelRfl
import Derived.Lib.SliceRun
import Derived.Test.YtokpcpjnihinfaaGreatqeaa
import Derived.Test.YtokpcpjnihinfaaGreatqeab
import Derived.Test.YtokpcpjnihinfaaGreatqeac
import Derived.Test.YtokpcpjnihinfaaGreatqead
import Derived.Test.YtokpcpjnihinfaaGreatqeae
set_option maxRecDepth 100000
set_option maxHeartbeats 16000000
namespace Go.Proofs.YtokpcpjnihinfaaGreat
open Value renaming int → ae, slice → af, pointer → ag, agg → ah, bool → ai
open IntKind renaming i64 → aj
open Obj renaming cells → ak
open Ending renaming returned → ao
open Go renaming World → aq, Addr → au, Calls → aw, Value → ax, Program → az, Oper → aA, TypeId → aB, wpList_store_rowTo → aC, wpList_buildTo → aD, wpList_load_row → aE, heap_alloc_new → aG, cell_of_row → aH, bodyPost_ret → aK, frozen_of_row → aO
open Go.RowKit renaming intOf → aP, Hid → aQ, Below → aR
open _root_.Go.Proofs.Tryz
open Go.RowKit Go.ChangeShapes Go.WideShapes Go.ChangeAt Go.Joins
theorem Kc(w:aq)(p:gF)(Ah:Option au)(hc:Nat)(Aw:Option au)(wc:Nat)(Ap:Option au)(pc:Nat)(hp:gU w w.heap.size p Ah hc Aw wc Ap pc)(g:kg p):
  aw prog 39 #[ah (gI p Ah hc Aw wc Ap pc)] w fun e w'=>∃al av aS aT Ao oc,e=ao (.tuple #[ah (gI (iK p).1 al av none 0 aS aT),af Ao (iK p).2.length oc])/\
   gU w' w'.heap.size (iK p).1 al av none 0 aS aT/\gu w' w'.heap.size Ao (iK p).2.length oc (gj (iK p).2)/\aR w.heap.size w w':=by
 obtain⟨h,hh⟩:=fY (w.heap.size)
 obtain⟨X,hX⟩:=fY (gI p Ah hc Aw wc Ap pc)
 rw[<-hX]
 obtain⟨Z,hZ⟩:=fY (gI (lX 0 0 0 false) none 0 none 0 none 0)
 have hz:=(zero_of_info oC).1
 rw[<-hZ]at hz
 obtain⟨W1,a5⟩:=fY ((w.alloc (ak X 32)).alloc (ak Z 32))
 have b1:aR h w W1:=by rw[a5,hh];exact(gC.alloc fZ _).alloc (by simp) _
 have x1:gi W1 h X 32:=by rw[a5,hh];exact(gi.new w _ _).old _
 have z1:gi W1 (h+1) Z 32:=by
  rw[a5,hh];have:=gi.new (w.alloc (ak X 32)) Z 32
  rwa[World.size_alloc]at this
 have bz:h+1<W1.heap.size:=z1.lt
 obtain⟨kk,bR⟩:∃kk:Nat,p.k=(kk:Int):=⟨p.k.toNat,by have:=g.k0;omega⟩
 have a6:p.k.toNat=kk:=by omega
 have bI:kk<=7:=by have:=g.k7;omega
 obtain⟨wn,aV⟩:=fY (p.wait.length)
 obtain⟨pn,a7⟩:=fY (p.gm.length)
 have bA:pn=(kk+7)/8:=by rw[a7,g.len,a6]
 have bk:X=#[ae aj p.s,ae aj p.h,ae aj p.m,ai p.z,af Ah p.hist.length hc,af Aw wn wc,af Ap pn pc,ae aj (kk:Int),ai p.gO]:=by rw[hX,<-bR,aV,a7];rfl
 have bS:=mj g.jY
 have cn:=g.hist;have cp:=g.wait
 obtain⟨tl,a8⟩:=fY (iy p p.wait)
 obtain⟨t1,t2⟩:=tC g.jY g.bh g.bw
 rw[<-a8]at t1 t2
 have bJ:=hp.on (hh▸b1)
 have a9:=Dj W1 p Ah hc Aw wc Ap pc bJ g.jY (by omega) Aw wc p.wait bJ.wait (by omega)
 rw[<-hX,<-a8,<-aV]at a9
 obtain⟨BK,bl⟩:=fY (lK p p.wait)
 have bd:BK<=2:=by rw[bl];exact xV _ _
 obtain⟨E1,bf⟩:=fY (gT p.gm kk BK p.wait tl true)
 obtain⟨L,hL⟩:=fY (iH p (E1.1,8*E1.1.length) p.wait)
 have bT:Pw (gj p.gm) kk:=by rw[<-a6];exact g.clean
 have bU:p.gm.length=(kk+7)/8:=by rw[<-a7];exact bA
 have a4:∀V,aR h w V->gU V V.heap.size p Ah hc Aw wc Ap pc:=fun V hV=>(hp.below (hh▸hV) fZ).more (hh▸hV).size
 have hle:=rV (k:=kk) (kind:=BK) (raw:=p.wait) (l:=tl) (last:=true) bd bI (by omega) g.bw (by omega) t2
 have bC:E1.1.length=(E1.2+7)/8:=by rw[bf];exact nS ..
 have bD:E1.2<=4320007:=by rw[bf];exact hle
 have SH:aQ (∀V,aR h w V->∀{A2:Option au} {t c2:Nat},iL V V.heap.size A2 t c2 tl->aw prog 57 #[ae aj (kk:Int),af Aw wn wc,af A2 t c2] V fun e w'=>e=ao (ae .u8 (BK:Int))/\aR V.heap.size V w'):=fX fun V hV A2 t c2 ht=>by
  have h1:=Jn V kk Aw wn wc (gj p.wait) A2 t c2 tl bI (by rw[aV];exact(a4 V hV).wait.1) (by omega) ht.1 ht.2.1 (by have:=ht.1;omega) t2;have e:qE kk wn (gj p.wait) tl=BK:=by rw[bl];unfold lK;rw[a6,<-aV,<-a8]
  rw[e]at h1;exact h1
 have PU:aQ (∀V,aR h w V->∀(A2:Option au) (t c2:Nat),iL V V.heap.size A2 t c2 tl->aw prog 56 #[ah #[af Ap pn pc,ae aj (kk:Int)],ae .u8 (BK:Int),af Aw wn wc,af A2 t c2,ai true] V fun e w'=>∃A' n' c',e=ao (ah #[af A' n' c',ae aj (E1.2:Int)])/\n'=E1.1.length/\gu w' w'.heap.size A' n' c' (gj E1.1)/\aR V.heap.size V w'):=fX fun V hV A2 t c2 ht=>by
  have h1:=yg V p.gm kk Ap pc BK Aw wc p.wait A2 t c2 tl true (a4 V hV).gm bU bT (by omega) bd (a4 V hV).wait (by omega) ht (by omega) t2;rw[<-a7,<-aV,<-bf]at h1;exact h1.mono fun e w' ⟨A',c',e1,e2,e3⟩=>⟨A',_,c',e1,rfl,e2,e3⟩
 have LF:aQ (∀V,aR h w V->∀(A':Option au) (n' c':Nat),n'=E1.1.length->gu V V.heap.size A' n' c' (gj E1.1)->∀m8:Nat,m8=8*n'->aw prog 55 #[ah X,ah #[af A' n' c',ae aj (m8:Int)],af Aw wn wc] V fun e w'=>∃al av aS aT Ao oc,e=ao (.tuple #[ah (gI L.1 al av Aw wc aS aT),af Ao L.2.length oc])/\
   gU w' w'.heap.size L.1 al av Aw wc aS aT/\gu w' w'.heap.size Ao L.2.length oc (gj L.2)/\aR V.heap.size V w'):=fX fun V hV A' n' c' en r1 m8 em=>by
  subst en
  subst em
  have h1:=Dl V p Ah hc Aw wc Ap pc (a4 V hV) (by omega) (by omega) (by omega) E1.1 (8*E1.1.length) A' c' r1 (by omega) (by omega) Aw wc p.wait (a4 V hV).wait (by omega)
  rw[<-hX,<-aV,<-hL]at h1
  exact h1
 have bV:iK p=({L.1 with wait:=[],gO:=true},L.2):=by
  have e:lY p=(E1.1,8*E1.1.length):=by unfold lY;rw[a6,<-a8,<-bl,<-bf]
  unfold iK;rw[e,<-hL]
 have cq:aQ (∀V,gi V h X 32->V.rangeAt h 6 [af Ap pn pc,ae aj (kk:Int)]):=fX fun V hx i v hv=>by
  rw[hx.cell,bk];rcases i with _|_|i
  ·simpa using hv
  ·simpa using hv
  ·simp at hv
 have bW:=fX a9;have bX:=fX bC;have bY:=fX bD
 have cr:=fX a5;have HH:=fX hh;have ct:=fX b1;have bK:=fX x1;have bZ:=fX z1;have cu:=fX bz;have bm:=fX bk;have b0:aQ (X.size=9):=fX (by rw[hX];rfl);have b2:aQ (Z.size=9):=fX (by rw[hZ];rfl);have cv:aQ (lv Z):=fX (by rw[hZ];exact pz _ _ _ _ _ _ _);have cw:=fX bV
 have q5:W1.cell? ⟨h,5,none⟩=some (af Aw wn wc):=by rw[x1.cell,bk];rfl
 clear hZ a5 hh b1 x1 z1 bz bk hX a4 hp g bR a6 bI aV a7 bA bS cn cp a8 t1 t2 bJ a9 bl bd bf hL bT bU hle bC bD bV
 go_enter func39,ntmps39
 go_wp2_with (first
  |(rw[<-cr.out,<-HH.out])
  |(refine aE rfl _ _ rfl h rfl _ X (0,0) _ bK.out underlying32 rfl (by rw[b0.out];exact gM) ?_)
  |fail)
 refine bW.out.mono ?_
 rintro e w2 ⟨A2,t,c2,rfl,ht,bn⟩
 have bL:=fX (ct.out.trans (bn.mono (by have:=cu.out;omega)))
 have ad:=fX (bK.out.below bn bK.out.lt)
 have bp:=fX (bZ.out.below bn bZ.out.lt)
 have b3:=fX ht
 have bM:aQ (h<=w2.heap.size):=fX (by have:=bp.out.lt;omega)
 clear ht bn q5
 go_wp2
 refine tD 14 (mG [fun v _=>v=ag (some ⟨h,6,none⟩),fun v _=>v=ah #[af Ap pn pc,ae aj (kk:Int)],fun v _=>v=ag (some ⟨h,6,none⟩),fun v _=>v=ag (some ⟨h,7,none⟩),fun v _=>v=ae aj (kk:Int),fun v _=>v=ag (some ⟨h,5,none⟩),fun v _=>v=af Aw wn wc,fun v _=>v=af A2 t c2,fun v _=>v=ae .u8 (BK:Int),fun v _=>v=ag (some ⟨h,5,none⟩),fun v _=>v=af Aw wn wc,fun v _=>v=af A2 t c2,fun v W=>∃A' n' c',v=ah #[af A' n' c',ae aj (E1.2:Int)]/\n'=E1.1.length/\gu W W.heap.size A' n' c' (gj E1.1),fun v W=>∃gq,v=ag (some ⟨gq,0,none⟩)/\gi W gq #[af none 0 0,ae aj 0] 30/\w2.heap.size<=gq]) w2 gC (by kernel_rfl) (by kernel_rfl) ?_ ?_
 case refine_1=>
  simp only[List.take_succ_cons,List.take_zero];refine gl.cons (fun aa wv hb ha hS Kk Qq hK=>gZ (gp rfl) _ _ _ rfl _ (ag (some ⟨h,6,none⟩)) ((ha 1 (by kernel_rfl)).trans rfl) (by go_simp) (gx rfl) hK) ?_;refine gl.cons (fun aa wv hb ha hS Kk Qq hK=>by have hx:=ad.out.below hb ad.out.lt;exact oD (gp rfl) _ _ rfl h 6 (hS 0 12 (by kernel_rfl) rfl).here [af Ap pn pc,ae aj (kk:Int)] _ (cq.out wv hx) underlying30 rfl (nQ _ _) (gx rfl) hK) ?_;refine gl.cons (fun aa wv hb ha hS Kk Qq hK=>gZ (gp rfl) _ _ _ rfl _ (ag (some ⟨h,6,none⟩)) ((ha 1 (by kernel_rfl)).trans rfl) (by go_simp) (gx rfl) hK) ?_;refine gl.cons (fun aa wv hb ha hS Kk Qq hK=>gZ (gp rfl) _ _ _ rfl _ (ag (some ⟨h,7,none⟩)) (hS 2 14 (by kernel_rfl) rfl).here (by go_simp) (gx rfl) hK) ?_;refine gl.cons (fun aa wv hb ha hS Kk Qq hK=>la (gp rfl) _ _ rfl _ (ae aj (kk:Int)) (hS 3 15 (by kernel_rfl) rfl).here (by have hc:wv.cell? ⟨h,7,none⟩=some (ae aj (kk:Int)):=by {rw[(ad.out.below hb ad.out.lt).cell,bm.out];rfl};go_simp) (gx rfl) hK) ?_;refine gl.cons (fun aa wv hb ha hS Kk Qq hK=>gZ (gp rfl) _ _ _ rfl _ (ag (some ⟨h,5,none⟩)) ((ha 1 (by kernel_rfl)).trans rfl) (by go_simp) (gx rfl) hK) ?_;refine gl.cons (fun aa wv hb ha hS Kk Qq hK=>la (gp rfl) _ _ rfl _ (af Aw wn wc) (hS 5 17 (by kernel_rfl) rfl).here (by have hc:wv.cell? ⟨h,5,none⟩=some (af Aw wn wc):=by {rw[(ad.out.below hb ad.out.lt).cell,bm.out];rfl};go_simp) (gx rfl) hK) ?_;refine gl.cons (fun aa wv hb ha hS Kk Qq hK=>gY (gp rfl) _ rfl (gx ((ha 4 (by kernel_rfl)).trans rfl)) hK) ?_;refine gl.cons (fun aa wv hb ha hS Kk Qq hK=>lZ (gp rfl) 57 _ _ rfl (enters_of func57 (by kernel_rfl) rfl) #[ae aj (kk:Int),af Aw wn wc,af A2 t c2] (by simp[(show aa.eval (.tmp 16)=ae aj (kk:Int)from(hS 4 16 (by kernel_rfl) rfl).here),(show aa.eval (.tmp 18)=af Aw wn wc from(hS 6 18 (by kernel_rfl) rfl).here),(show aa.eval (.tmp 19)=af A2 t c2 from(hS 7 19 (by kernel_rfl) rfl).here)]) (SH.out wv (bL.out.trans (hb.mono bM.out)) ((b3.out.below hb fZ).more hb.size)) (fun ee w' ⟨h1,h2⟩=>⟨_,h1,h2,gx rfl⟩) hK) ?_;refine gl.cons (fun aa wv hb ha hS Kk Qq hK=>gZ (gp rfl) _ _ _ rfl _ (ag (some ⟨h,5,none⟩)) ((ha 1 (by kernel_rfl)).trans rfl) (by go_simp) (gx rfl) hK) ?_;refine gl.cons (fun aa wv hb ha hS Kk Qq hK=>la (gp rfl) _ _ rfl _ (af Aw wn wc) (hS 9 21 (by kernel_rfl) rfl).here (by have hc:wv.cell? ⟨h,5,none⟩=some (af Aw wn wc):=by {rw[(ad.out.below hb ad.out.lt).cell,bm.out];rfl};go_simp) (gx rfl) hK) ?_;refine gl.cons (fun aa wv hb ha hS Kk Qq hK=>gY (gp rfl) _ rfl (gx ((ha 4 (by kernel_rfl)).trans rfl)) hK) ?_;refine gl.cons (fun aa wv hb ha hS Kk Qq hK=>lZ (gp rfl) 56 _ _ rfl (enters_of func56 (by kernel_rfl) rfl) #[ah #[af Ap pn pc,ae aj (kk:Int)],ae .u8 (BK:Int),af Aw wn wc,af A2 t c2,ai true] (by simp[(show aa.eval (.tmp 13)=ah #[af Ap pn pc,ae aj (kk:Int)]from(hS 1 13 (by kernel_rfl) rfl).here),(show aa.eval (.tmp 20)=ae .u8 (BK:Int)from(hS 8 20 (by kernel_rfl) rfl).here),(show aa.eval (.tmp 22)=af Aw wn wc from(hS 10 22 (by kernel_rfl) rfl).here),(show aa.eval (.tmp 23)=af A2 t c2 from(hS 11 23 (by kernel_rfl) rfl).here),(show aa.eval (.const (ai true))=ai true from rfl)]) (PU.out wv (bL.out.trans (hb.mono bM.out)) A2 t c2 ((b3.out.below hb fZ).more hb.size)) (fun ee w' ⟨A',n',c',h1,h2,h3,h4⟩=>⟨_,h1,h4,fun W hW=>⟨_,_,_,rfl,h2,(h3.below hW fZ).more hW.size⟩⟩) hK) ?_;refine gl.cons (fun aa wv hb ha hS Kk Qq hK=>vg (w':=wv.alloc (ak #[af none 0 0,ae aj 0] 30)) (gp rfl) (ag (some ⟨wv.heap.size,0,none⟩)) (by go_simp) (gC.alloc fZ _) (fun W hW=>⟨_,rfl,(gi.new wv #[af none 0 0,ae aj 0] 30).below hW (by simp),hb.size⟩) hK) ?_;exact gl.nil
 intro vals w5 hb hv
 obtain⟨A',n',c',b4,b5,b6⟩:=(hv 12 24 rfl).here
 obtain⟨gq,e5,bq,cx⟩:=(hv 13 5 rfl).here
 have x5:=ad.out.below hb ad.out.lt
 have z5:=bp.out.below hb bp.out.lt
 have b7:=bL.out.trans (hb.mono bM.out)
 have b8:=bp.out.lt
 have br:h≠gq:=by omega
 have aY:h+1≠gq:=by omega
 obtain⟨m8,b9⟩:=fY (8*n')
 have cy:n'<=540001:=by have:=bX.out;have:=bY.out;omega
 obtain⟨w6,aU⟩:=fY ((w5.setCell ⟨gq,0,none⟩ (af A' n' c')).setCell ⟨gq,1,none⟩ (ae aj (E1.2:Int)))
 have q6:gi w6 gq #[af A' n' c',ae aj (E1.2:Int)] 30:=by rw[aU];exact nE bq _ _
 obtain⟨w7,aW⟩:=fY (w6.setCell ⟨gq,1,none⟩ (ae aj (m8:Int)))
 have q7:gi w7 gq #[af A' n' c',ae aj (m8:Int)] 30:=by rw[aW];exact q6.set 1 _
 have x7:gi w7 h X 32:=by rw[aW,aU];exact((x5.other (by exact br) _).other (by exact br) _).other (by exact br) _
 have z7:gi w7 (h+1) Z 32:=by rw[aW,aU];exact((z5.other (by exact aY) _).other (by exact aY) _).other (by exact aY) _
 have bN:aR h w w7:=by rw[aW,aU];exact jx (jx (jx b7 (by omega) _ _) (by omega) _ _) (by omega) _ _
 have r7:gu w7 w7.heap.size A' n' c' (gj E1.1):=by
  rw[aW,qJ,aU,qJ,qJ];exact(((b6.nV bq (rT none 0 0 0) 0 _).nV (bq.set 0 _) (rT A' n' c' 0) 1 _).nV (by have:=q6;rw[aU]at this;exact this) (rT A' n' c' _) 1 _)
 have ca:=LF.out w7 bN A' n' c' b5 r7 m8 b9
 have a0:=gV bq
 have a1:=iA bq
 have a2:w5.frozen? ⟨gq,0,none⟩=false:=bq.free
 have a3:w5.frozen? ⟨gq,1,none⟩=false:=bq.free
 have u0:=gV q6
 have u1:=iA q6
 have u3:w6.frozen? ⟨gq,1,none⟩=false:=q6.free
 have v0:=gV q7
 have v1:=iA q7
 have v5:w7.cell? ⟨h,5,none⟩=some (af Aw wn wc):=by rw[x7.cell,bm.out];rfl
 have e8:8*(n':Int)=(m8:Int):=by omega
 have cO:wrap64 (m8:Int)=(m8:Int):=by unfold wrap64;omega
 have cz:=fX ca;have cA:=fX x7;have bO:=fX z7;have cB:=fX bN;have cC:=fX aU;have cD:=fX aW
 clear aU aW q6 q7 x5 z5 x7 z7 b7 bN r7 ca bq cx b6 hb hv b5 b9 cy br aY b8
 simp only[List.take_succ_cons,List.take_zero,List.drop_succ_cons,List.drop_zero,List.map_cons,List.map_nil,Pv,Act.put,List.setIfInBounds_toArray,List.set_cons_zero,List.set_cons_succ,b4,e5]
 clear b4 e5
 go_wp2_with (first
  |(rw[<-cD.out])
  |(rw[<-cC.out])
  |(refine aE rfl _ _ rfl h rfl _ X (0,0) _ cA.out underlying32 rfl (by rw[b0.out];exact gM) ?_)
  |fail)
 refine cz.out.mono ?_
 rintro e w8 ⟨al,av,aS,aT,Ao,oc,rfl,cb,cf,bP⟩
 have z8:=bO.out.below bP bO.out.lt
 have bE:=cB.out.trans (bP.mono (by have:=bO.out.lt;omega))
 have bF:=z8.lt
 obtain⟨Y0,aX⟩:=fY (gI L.1 al av Aw wc aS aT)
 obtain⟨Y2,bg⟩:=fY (gI {L.1 with wait:=[],gO:=true} al av none 0 aS aT)
 obtain⟨lo,bQ⟩:=fY (L.2.length)
 obtain⟨w9,bt⟩:=fY ((w8.alloc (ak Z 32)).setRow w8.heap.size Y0)
 have q9:gi w9 w8.heap.size Y0 32:=by rw[bt];exact(gi.new w8 Z _).row Y0
 obtain⟨wA,bu⟩:=fY (w9.setCell ⟨w8.heap.size,5,none⟩ (af none 0 0))
 obtain⟨wB,bx⟩:=fY (wA.setCell ⟨w8.heap.size,8,none⟩ (ai true))
 have qA:gi wA w8.heap.size (Y0.setIfInBounds 5 (af none 0 0)) 32:=by rw[bu];exact q9.set 5 _
 have qB:gi wB w8.heap.size Y2 32:=by
  have a:=qA.set 8 (ai true);rw[bx,bg];rw[aX]at a;exact a
 have bB:aR w8.heap.size w8 wB:=by rw[bx,bu,bt];exact jx (jx (jU (gC.alloc fZ _) fZ _) fZ _ _) fZ _ _
 have zB:=z8.below bB bF
 obtain⟨wC,bj⟩:=fY (wB.setRow (h+1) Y2)
 have cE:aQ (gi wC (h+1) Y2 32):=fX (by rw[bj];exact zB.row Y2)
 have cF:aQ (aR h w wC):=fX (by rw[bj];exact jU (bE.trans (bB.mono (by omega))) (by omega) _)
 have cG:aQ (∀(A:Option au) (n c:Nat) (f:Nat->Nat),gu w8 w8.heap.size A n c f->gu wC wC.heap.size A n c f):=fX fun A n c f r=>by
  rw[bj,size_setRow];exact((r.below bB fZ).more bB.size).pA zB cv.out Y2
 have c5:w9.cell? ⟨w8.heap.size,5,none⟩=some (af Aw L.1.wait.length wc):=by rw[q9.cell,aX];rfl
 have f5:w9.frozen? ⟨w8.heap.size,5,none⟩=false:=q9.free
 have c8:wA.cell? ⟨w8.heap.size,8,none⟩=some (ai L.1.gO):=by rw[qA.cell,aX];rfl
 have f8:wA.frozen? ⟨w8.heap.size,8,none⟩=false:=qA.free
 have bG:aQ (Y0.size=9):=fX (by rw[aX];rfl)
 have aZ:aQ (Y2.size=9):=fX (by rw[bg];rfl)
 have cg:aQ (Y0.all (·.oneCell')=true):=fX (by rw[aX];exact lu ..)
 have ch:aQ (Y2.all (·.oneCell')=true):=fX (by rw[bg];exact lu ..)
 have cH:=fX qB;have cI:=fX zB;have cJ:=fX bt;have cK:=fX bu;have cL:=fX bx;have cM:=fX bj;have bH:=fX cb;have cj:=fX cf;have ck:=fX bg;have cN:=fX bQ
 have cl:=fX (gi.new w8 Z 32)
 rw[<-aX,<-bQ]
 clear bt bu bx bj q9 qA qB bB z8 zB bP bE cb cf aX bg bQ bF
 go_wp2_with (first
  |(rw[<-cK.out])
  |(rw[<-cL.out])
  |(refine aC rfl _ _ _ rfl rfl w8.heap.size Y0 rfl rfl 32 Z cl.out (by rw[bG.out];exact gM) (by rw[b2.out,bG.out]) cg.out ?_;rw[<-cJ.out])
  |(refine aE rfl _ _ rfl w8.heap.size rfl _ Y2 (0,0) _ cH.out underlying32 rfl (by rw[aZ.out];exact gM) ?_)
  |(refine aC rfl _ _ _ rfl rfl (h+1) Y2 rfl rfl 32 Z cI.out (by rw[aZ.out];exact gM) (by rw[b2.out,aZ.out]) ch.out ?_;rw[<-cM.out]))
 refine aK (xY rfl _ _ (h+1) Y2 aZ.out rfl cE.out) rfl ?_
 have cm:=cw.out
 have g1:(iK p).1={L.1 with wait:=[],gO:=true}:=by rw[cm]
 have g2:(iK p).2=L.2:=by rw[cm]
 rw[g1,g2]
 have k:=cG.out
 refine⟨al,av,aS,aT,Ao,oc,by rw[ck.out,cN.out];rfl,⟨k _ _ _ _ bH.out.hist,?_,k _ _ _ _ bH.out.gm⟩,k _ _ _ _ cj.out,by rw[<-HH.out];exact cF.out⟩
 exact gu.nil _ _ _ (fun j=>ky (L:=[]) (fun x hx=>by cases hx) j)
def kO(E:Int)(r:gF×List Nat):gF×List Nat:=if E=0 then r else(lX 0 0 0 false,[])
theorem mY{fn:Func}{p u v:Tmp}(h:fn.results=#[.cell p 32,.tmp u,.tmp v])(tmps:Array ax)(w:aq)(g:Nat)(cs:Array ax)(hs:cs.size=9)(hp:tmps.getD p undef=ag (some ⟨g,0,none⟩))(ht:gi w g cs 32):
  (results fn tmps).run prog w=.ok (.tuple #[ah cs,tmps.getD u undef,tmps.getD v undef]) w:=by
 have ad:tmps[p]?.getD undef=ag (some ⟨g,0,none⟩):=by simpa using hp
 have hl:=run_loadVar_row (P:=prog) w g 32 32 cs (0,0) _ ht underlying32 rfl (by rw[hs];exact gM)
 simp[results,h,ad,asAddr,hl]
def vy(w w':aq)(e:Ending)(r:gF×List Nat)(E:Int):Prop:=∃Ah hc Aw wc Ap pc Ao oc,e=ao (.tuple #[ah (gI r.1 Ah hc Aw wc Ap pc),af Ao r.2.length oc,ae aj E])/\gU w' w'.heap.size r.1 Ah hc Aw wc Ap pc/\gu w' w'.heap.size Ao r.2.length oc (gj r.2)/\aR w.heap.size w w'
theorem sP(j:Nat):gj [] j<256:=ky (L:=[]) (fun x hx=>by cases hx) j
theorem Kd(w:aq)(p:gF)(Ah:Option au)(hc:Nat)(Aw:Option au)(wc:Nat)(Ap:Option au)(pc:Nat)(hp:gU w w.heap.size p Ah hc Aw wc Ap pc):
  aw prog 25 #[ah (gI p Ah hc Aw wc Ap pc)] w fun e w'=>vy w w' e (kO (jN p) (jA p)) (jN p):=by
 obtain⟨h,hh⟩:=fY (w.heap.size)
 obtain⟨X,hX⟩:=fY (gI p Ah hc Aw wc Ap pc)
 rw[<-hX]
 obtain⟨Z,hZ⟩:=fY (gI (lX 0 0 0 false) none 0 none 0 none 0)
 have hz:=(zero_of_info oC).1
 have a7:=ve
 rw[<-hZ]at hz a7
 obtain⟨W1,aS⟩:=fY ((w.alloc (ak X 32)).alloc (ak Z 32))
 have b1:aR h w W1:=by rw[aS,hh];exact(gC.alloc fZ _).alloc (by simp) _
 have x1:gi W1 h X 32:=by rw[aS,hh];exact(gi.new w _ _).old _
 have z1:gi W1 (h+1) Z 32:=by
  rw[aS,hh];have:=gi.new (w.alloc (ak X 32)) Z 32
  rwa[World.size_alloc]at this
 have a1:h+1<W1.heap.size:=z1.lt
 have av:=CX W1 p Ah hc Aw wc Ap pc (hp.on (hh▸b1))
 rw[<-hX]at av
 obtain⟨E,hE⟩:=fY (jN p)
 rw[<-hE]at av⊢
 have a2:=fX av;have bp:=fX aS;have HH:=fX hh;have bq:=fX b1;have a8:=fX x1;have br:=fX z1;have a9:=fX a1;have bM:=fX hX;have bd:aQ (X.size=9):=fX (by rw[hX];rfl);have aY:aQ (Z.size=9):=fX (by rw[hZ];rfl);have bN:=fX hZ;have bO:aQ (Z.all (·.oneCell')=true):=fX (by rw[hZ];exact lu ..);have bP:aQ (lv Z):=fX (by rw[hZ];exact pz _ _ _ _ _ _ _)
 have HP:=fX hp;have HE:=fX hE;have bQ:=fX a7
 clear av aS hh b1 x1 z1 a1 hX hZ hp hE a7
 by_cases q0:E=0
 ·have dq:(E !=0)=false:=by simpa using q0
  have g:kg p:=CQ (by rw[<-HE.out];exact q0) (kh HP.out.hist) (kh HP.out.wait) (kh HP.out.gm);have bt:=mj g.jY;have hlen:p.hist.length<=1000000/\p.wait.length<=1000000/\p.gm.length<=140737488355328:=by
   have h1:=g.hist;have h2:=g.wait;have h3:=g.len;have h4:=g.k7;have h5:=g.k0
   exact⟨by omega,by omega,by omega⟩
  have HG:=fX g;have bu:=fX hlen
  have aT:aQ (kO E (jA p)=jA p):=fX (by unfold kO;rw[if_pos q0]);have bR:=fX q0;clear g bt hlen q0;go_enter func25,ntmps25
  go_wp2_with (first
   |(rw[<-bp.out,<-HH.out])
   |(refine aE rfl _ _ rfl h rfl _ X (0,0) _ a8.out underlying32 rfl (by rw[bd.out];exact gM) ?_)
   |fail)
  refine a2.out.mono ?_;rintro e w2 ⟨rfl,al⟩;have bx:=a9.out;have bz:=fX (bq.out.trans (al.mono (by omega)));have bS:=fX (a8.out.below al (by omega));have aU:=fX (br.out.below al bx);have bA:gU w2 w2.heap.size p Ah hc Aw wc Ap pc:=by have:=bz.out;rw[HH.out]at this;exact HP.out.on this
  have bf:=xZ w2 p Ah hc Aw wc Ap pc bA bu.out;rw[<-bM.out]at bf;have bT:=fX bf;clear bA bf bx al;go_wp2_with (first
   |(refine aE rfl _ _ rfl h rfl _ X (0,0) _ bS.out underlying32 rfl (by rw[bd.out];exact gM) ?_)
   |fail)
  refine bT.out.mono ?_;rintro e w3 ⟨A1,k1,A2,k2,A3,k3,rfl,r3,bg⟩;have bC:=Kb w3 p A1 k1 A2 k2 A3 k3 r3 HG.out;have bj:=fX (aU.out.below bg aU.out.lt);have bU:=fX (bz.out.trans (bg.mono (by have:=aU.out.lt;omega)));have bV:=fX bC;clear bC r3 bg;go_wp2_with fail
  refine bV.out.mono ?_;rintro e w8 ⟨bD,bE,bF,bG,Ao,oc,rfl,bH,bI,bk⟩;have z8:=bj.out.below bk bj.out.lt;have a3:=bU.out.trans (bk.mono (by have:=bj.out.lt;omega));have a4:=z8.lt;obtain⟨Y0,aV⟩:=fY (gI (jA p).1 bD bE none 0 bF bG);obtain⟨lo,bl⟩:=fY ((jA p).2.length);obtain⟨w9,aZ⟩:=fY ((w8.alloc (ak Z 32)).setRow w8.heap.size Y0);have q9:gi w9 w8.heap.size Y0 32:=by rw[aZ];exact(gi.new w8 Z _).row Y0
  have bB:aR w8.heap.size w8 w9:=by rw[aZ];exact jU (gC.alloc fZ _) fZ _
  have zB:=z8.below bB a4;obtain⟨wC,aW⟩:=fY (w9.setRow (h+1) Y0);have bm:aQ (gi wC (h+1) Y0 32):=fX (by rw[aW];exact zB.row Y0);have bn:aQ (aR h w wC):=fX (by rw[aW];exact jU (a3.trans (bB.mono (by omega))) (by omega) _);have bW:aQ (∀(A:Option au) (n c:Nat) (f:Nat->Nat),gu w8 w8.heap.size A n c f->gu wC wC.heap.size A n c f):=fX fun A n c f r=>by
   rw[aW,size_setRow];exact((r.below bB fZ).more bB.size).pA zB bP.out Y0
  have ad:aQ (Y0.size=9):=fX (by rw[aV];rfl);have a5:aQ (Y0.all (·.oneCell')=true):=fX (by rw[aV];exact lu ..);have bX:=fX q9;have bY:=fX zB;have bZ:=fX aZ;have b0:=fX aW;have aX:=fX bH;have bJ:=fX bI;have bK:=fX aV;have b2:=fX bl
  have bL:=fX (gi.new w8 Z 32);rw[<-aV,<-bl];clear aZ aW q9 bB z8 zB bk a3 bH bI aV bl a4;go_wp2_with (first
   |(refine aC rfl _ _ _ rfl rfl w8.heap.size Y0 rfl rfl 32 Z bL.out (by rw[ad.out];exact gM) (by rw[aY.out,ad.out]) a5.out ?_;rw[<-bZ.out])
   |(refine aE rfl _ _ rfl w8.heap.size rfl _ Y0 (0,0) _ bX.out underlying32 rfl (by rw[ad.out];exact gM) ?_)
   |(refine aC rfl _ _ _ rfl rfl (h+1) Y0 rfl rfl 32 Z bY.out (by rw[ad.out];exact gM) (by rw[aY.out,ad.out]) a5.out ?_;rw[<-b0.out]))
  refine aK (mY rfl _ _ (h+1) Y0 ad.out rfl bm.out) rfl ?_;rw[aT.out];have k:=bW.out;exact⟨bD,bE,none,0,bF,bG,Ao,oc,by rw[bK.out,b2.out,bR.out];rfl,⟨k _ _ _ _ aX.out.hist,k _ _ _ _ aX.out.wait,k _ _ _ _ aX.out.gm⟩,k _ _ _ _ bJ.out,by rw[<-HH.out];exact bn.out⟩
 ·have dq:(E !=0)=true:=by simpa using q0
  have aT:aQ (kO E (jA p)=(lX 0 0 0 false,[])):=fX (by unfold kO;rw[if_neg q0]);clear q0;go_enter func25,ntmps25
  go_wp2_with (first
   |(rw[<-bp.out,<-HH.out])
   |(refine aE rfl _ _ rfl h rfl _ X (0,0) _ a8.out underlying32 rfl (by rw[bd.out];exact gM) ?_)
   |fail)
  refine a2.out.mono ?_;rintro e w2 ⟨rfl,al⟩;have z2:=br.out.below al a9.out;have a6:=bq.out.trans (al.mono (by have:=a9.out;omega));obtain⟨U,hU⟩:=fY (w2.setRow (h+1) Z);have bm:aQ (gi U (h+1) Z 32):=fX (by rw[hU];exact z2.row Z);have bn:aQ (aR h w U):=fX (by rw[hU];exact jU a6 (by omega) _);have HU:=fX hU;have aU:=fX z2
  clear hU al a6 z2;go_wp2_with (first
   |(refine aD rfl 32 #[] rfl (some 12) rfl Z ?_ ?_;focus(simpa[Act.eval]using bQ.out))
   |(refine aC rfl _ _ _ rfl rfl (h+1) Z rfl rfl 32 Z aU.out (by rw[aY.out];exact gM) rfl bO.out ?_;rw[<-HU.out]))
  refine aK (mY rfl _ _ (h+1) Z aY.out rfl bm.out) rfl ?_;rw[aT.out];exact⟨none,0,none,0,none,0,none,0,by rw[bN.out];rfl,vf _ _,gu.nil _ _ _ sP,by rw[<-HH.out];exact bn.out⟩
theorem Ke(w:aq)(p:gF)(Ah:Option au)(hc:Nat)(Aw:Option au)(wc:Nat)(Ap:Option au)(pc:Nat)(hp:gU w w.heap.size p Ah hc Aw wc Ap pc):
  aw prog 26 #[ah (gI p Ah hc Aw wc Ap pc)] w fun e w'=>vy w w' e (kO (jN p) (iK p)) (jN p):=by
 obtain⟨h,hh⟩:=fY (w.heap.size)
 obtain⟨X,hX⟩:=fY (gI p Ah hc Aw wc Ap pc)
 rw[<-hX]
 obtain⟨Z,hZ⟩:=fY (gI (lX 0 0 0 false) none 0 none 0 none 0)
 have hz:=(zero_of_info oC).1
 have a7:=ve
 rw[<-hZ]at hz a7
 obtain⟨W1,aS⟩:=fY ((w.alloc (ak X 32)).alloc (ak Z 32))
 have b1:aR h w W1:=by rw[aS,hh];exact(gC.alloc fZ _).alloc (by simp) _
 have x1:gi W1 h X 32:=by rw[aS,hh];exact(gi.new w _ _).old _
 have z1:gi W1 (h+1) Z 32:=by
  rw[aS,hh];have:=gi.new (w.alloc (ak X 32)) Z 32
  rwa[World.size_alloc]at this
 have a1:h+1<W1.heap.size:=z1.lt
 have av:=CX W1 p Ah hc Aw wc Ap pc (hp.on (hh▸b1))
 rw[<-hX]at av
 obtain⟨E,hE⟩:=fY (jN p)
 rw[<-hE]at av⊢
 have a2:=fX av;have bp:=fX aS;have HH:=fX hh;have bq:=fX b1;have a8:=fX x1;have br:=fX z1;have a9:=fX a1;have bM:=fX hX;have bd:aQ (X.size=9):=fX (by rw[hX];rfl);have aY:aQ (Z.size=9):=fX (by rw[hZ];rfl);have bN:=fX hZ;have bO:aQ (Z.all (·.oneCell')=true):=fX (by rw[hZ];exact lu ..);have bP:aQ (lv Z):=fX (by rw[hZ];exact pz _ _ _ _ _ _ _)
 have HP:=fX hp;have HE:=fX hE;have bQ:=fX a7
 clear av aS hh b1 x1 z1 a1 hX hZ hp hE a7
 by_cases q0:E=0
 ·have dq:(E !=0)=false:=by simpa using q0
  have g:kg p:=CQ (by rw[<-HE.out];exact q0) (kh HP.out.hist) (kh HP.out.wait) (kh HP.out.gm);have bt:=mj g.jY;have hlen:p.hist.length<=1000000/\p.wait.length<=1000000/\p.gm.length<=140737488355328:=by
   have h1:=g.hist;have h2:=g.wait;have h3:=g.len;have h4:=g.k7;have h5:=g.k0
   exact⟨by omega,by omega,by omega⟩
  have HG:=fX g;have bu:=fX hlen
  have aT:aQ (kO E (iK p)=iK p):=fX (by unfold kO;rw[if_pos q0]);have bR:=fX q0;clear g bt hlen q0;go_enter func26,ntmps26
  go_wp2_with (first
   |(rw[<-bp.out,<-HH.out])
   |(refine aE rfl _ _ rfl h rfl _ X (0,0) _ a8.out underlying32 rfl (by rw[bd.out];exact gM) ?_)
   |fail)
  refine a2.out.mono ?_;rintro e w2 ⟨rfl,al⟩;have bx:=a9.out;have bz:=fX (bq.out.trans (al.mono (by omega)));have bS:=fX (a8.out.below al (by omega));have aU:=fX (br.out.below al bx);have bA:gU w2 w2.heap.size p Ah hc Aw wc Ap pc:=by have:=bz.out;rw[HH.out]at this;exact HP.out.on this
  have bf:=xZ w2 p Ah hc Aw wc Ap pc bA bu.out;rw[<-bM.out]at bf;have bT:=fX bf;clear bA bf bx al;go_wp2_with (first
   |(refine aE rfl _ _ rfl h rfl _ X (0,0) _ bS.out underlying32 rfl (by rw[bd.out];exact gM) ?_)
   |fail)
  refine bT.out.mono ?_;rintro e w3 ⟨A1,k1,A2,k2,A3,k3,rfl,r3,bg⟩;have bC:=Kc w3 p A1 k1 A2 k2 A3 k3 r3 HG.out;have bj:=fX (aU.out.below bg aU.out.lt);have bU:=fX (bz.out.trans (bg.mono (by have:=aU.out.lt;omega)));have bV:=fX bC;clear bC r3 bg;go_wp2_with fail
  refine bV.out.mono ?_;rintro e w8 ⟨bD,bE,bF,bG,Ao,oc,rfl,bH,bI,bk⟩;have z8:=bj.out.below bk bj.out.lt;have a3:=bU.out.trans (bk.mono (by have:=bj.out.lt;omega));have a4:=z8.lt;obtain⟨Y0,aV⟩:=fY (gI (iK p).1 bD bE none 0 bF bG);obtain⟨lo,bl⟩:=fY ((iK p).2.length);obtain⟨w9,aZ⟩:=fY ((w8.alloc (ak Z 32)).setRow w8.heap.size Y0);have q9:gi w9 w8.heap.size Y0 32:=by rw[aZ];exact(gi.new w8 Z _).row Y0
  have bB:aR w8.heap.size w8 w9:=by rw[aZ];exact jU (gC.alloc fZ _) fZ _
  have zB:=z8.below bB a4;obtain⟨wC,aW⟩:=fY (w9.setRow (h+1) Y0);have bm:aQ (gi wC (h+1) Y0 32):=fX (by rw[aW];exact zB.row Y0);have bn:aQ (aR h w wC):=fX (by rw[aW];exact jU (a3.trans (bB.mono (by omega))) (by omega) _);have bW:aQ (∀(A:Option au) (n c:Nat) (f:Nat->Nat),gu w8 w8.heap.size A n c f->gu wC wC.heap.size A n c f):=fX fun A n c f r=>by
   rw[aW,size_setRow];exact((r.below bB fZ).more bB.size).pA zB bP.out Y0
  have ad:aQ (Y0.size=9):=fX (by rw[aV];rfl);have a5:aQ (Y0.all (·.oneCell')=true):=fX (by rw[aV];exact lu ..);have bX:=fX q9;have bY:=fX zB;have bZ:=fX aZ;have b0:=fX aW;have aX:=fX bH;have bJ:=fX bI;have bK:=fX aV;have b2:=fX bl
  have bL:=fX (gi.new w8 Z 32);rw[<-aV,<-bl];clear aZ aW q9 bB z8 zB bk a3 bH bI aV bl a4;go_wp2_with (first
   |(refine aC rfl _ _ _ rfl rfl w8.heap.size Y0 rfl rfl 32 Z bL.out (by rw[ad.out];exact gM) (by rw[aY.out,ad.out]) a5.out ?_;rw[<-bZ.out])
   |(refine aE rfl _ _ rfl w8.heap.size rfl _ Y0 (0,0) _ bX.out underlying32 rfl (by rw[ad.out];exact gM) ?_)
   |(refine aC rfl _ _ _ rfl rfl (h+1) Y0 rfl rfl 32 Z bY.out (by rw[ad.out];exact gM) (by rw[aY.out,ad.out]) a5.out ?_;rw[<-b0.out]))
  refine aK (mY rfl _ _ (h+1) Y0 ad.out rfl bm.out) rfl ?_;rw[aT.out];have k:=bW.out;exact⟨bD,bE,none,0,bF,bG,Ao,oc,by rw[bK.out,b2.out,bR.out];rfl,⟨k _ _ _ _ aX.out.hist,k _ _ _ _ aX.out.wait,k _ _ _ _ aX.out.gm⟩,k _ _ _ _ bJ.out,by rw[<-HH.out];exact bn.out⟩
 ·have dq:(E !=0)=true:=by simpa using q0
  have aT:aQ (kO E (iK p)=(lX 0 0 0 false,[])):=fX (by unfold kO;rw[if_neg q0]);clear q0;go_enter func26,ntmps26
  go_wp2_with (first
   |(rw[<-bp.out,<-HH.out])
   |(refine aE rfl _ _ rfl h rfl _ X (0,0) _ a8.out underlying32 rfl (by rw[bd.out];exact gM) ?_)
   |fail)
  refine a2.out.mono ?_;rintro e w2 ⟨rfl,al⟩;have z2:=br.out.below al a9.out;have a6:=bq.out.trans (al.mono (by have:=a9.out;omega));obtain⟨U,hU⟩:=fY (w2.setRow (h+1) Z);have bm:aQ (gi U (h+1) Z 32):=fX (by rw[hU];exact z2.row Z);have bn:aQ (aR h w U):=fX (by rw[hU];exact jU a6 (by omega) _);have HU:=fX hU;have aU:=fX z2
  clear hU al a6 z2;go_wp2_with (first
   |(refine aD rfl 32 #[] rfl (some 12) rfl Z ?_ ?_;focus(simpa[Act.eval]using bQ.out))
   |(refine aC rfl _ _ _ rfl rfl (h+1) Z rfl rfl 32 Z aU.out (by rw[aY.out];exact gM) rfl bO.out ?_;rw[<-HU.out]))
  refine aK (mY rfl _ _ (h+1) Z aY.out rfl bm.out) rfl ?_;rw[aT.out];exact⟨none,0,none,0,none,0,none,0,by rw[bN.out];rfl,vf _ _,gu.nil _ _ _ sP,by rw[<-HH.out];exact bn.out⟩
def mZ(L:List Nat):ByteArray:=ll L.length (gj L)
theorem Dr(L:List Nat):mZ L=⟨(L.map UInt8.ofNat).toArray⟩:=by
 unfold mZ ll strOfNums;congr 1;congr 1;apply List.ext_getElem?;intro j;simp[gj];rcases Nat.lt_or_ge j L.length with h|h
 ·simp[h]
 ·simp[h]
theorem Kf{L M:List Nat}(hL:jo L)(hM:jo M)(h:(mZ L).toList=(mZ M).toList):L=M:=by
 have hb:mZ L=mZ M:=by
  unfold mZ ll at h⊢;rw[Lib.strOfNums_toList,Lib.strOfNums_toList]at h;apply ByteArray.ext;apply Array.toList_inj.1;rw[strOfNums_data,strOfNums_data];exact h
 rw[Dr,Dr]at hb;have h2:L.map UInt8.ofNat=M.map UInt8.ofNat:=by
  have:=congrArg (fun b:ByteArray=>b.data.toList) hb;simpa using this
 have hl:L.length=M.length:=by have:=congrArg List.length h2;simpa using this
 apply List.ext_getElem?;intro i;rcases Nat.lt_or_ge i L.length with g|g
 ·have g2:i<M.length:=by omega
  have h1:UInt8.ofNat L[i]=UInt8.ofNat M[i]:=by
   have:=congrArg (·[i]?) h2;simpa[g,g2]using this
  have a:=hL _ (List.getElem_mem g);have b:=hM _ (List.getElem_mem g2);rw[List.getElem?_eq_getElem g,List.getElem?_eq_getElem g2];congr 1;have h3:=congrArg UInt8.toNat h1;rw[UInt8.toNat_ofNat',UInt8.toNat_ofNat']at h3;omega
 ·rw[List.getElem?_eq_none g,List.getElem?_eq_none (by omega)]
theorem yn{L M:List Nat}(hL:jo L)(hM:jo M):((mZ L).toList==(mZ M).toList)=decide (L=M):=by
 by_cases h:L=M
 ·subst h;simp
 ·rw[decide_eq_false h,Bool.eq_false_iff];intro hh;exact h (Kf hL hM (eq_of_beq hh))
def nF(hn wn bn:Nat):Bool:=decide (600<hn)||decide (300<wn)||decide (300<bn)
theorem Kg(w:aq)(s hh m:Int)(z:Bool)(Ah:Option au)(hn hc:Nat)(Aw:Option au)(wn wc:Nat)(Ap:Option au)(pn pc:Nat)(k:Int)(ov:Bool)(Ab:Option au)(bn bc:Nat):
  aw prog 17 #[ah #[ae aj s,ae aj hh,ae aj m,ai z,af Ah hn hc,af Aw wn wc,af Ap pn pc,ae aj k,ai ov],af Ab bn bc] w fun e w'=>e=ao (ai (nF hn wn bn))/\aR w.heap.size w w':=by
 by_cases g1:600<hn
 ·have d1:decide (600<(hn:Int))=true:=decide_eq_true (by omega);have HV:aQ (nF hn wn bn=true):=fX (by unfold nF;simp;omega);go_enter func17,ntmps17
  go_wp2;go_ret;exact⟨by rw[HV.out];rfl,gC.alloc fZ _⟩
 have d1:decide (600<(hn:Int))=false:=decide_eq_false (by omega)
 by_cases g2:300<wn
 ·have d2:decide (300<(wn:Int))=true:=decide_eq_true (by omega);have HV:aQ (nF hn wn bn=true):=fX (by unfold nF;simp;omega);go_enter func17,ntmps17
  go_wp2;go_ret;exact⟨by rw[HV.out];rfl,gC.alloc fZ _⟩
 have d2:decide (300<(wn:Int))=false:=decide_eq_false (by omega)
 by_cases g3:300<bn
 ·have d3:decide (300<(bn:Int))=true:=decide_eq_true (by omega);have HV:aQ (nF hn wn bn=true):=fX (by unfold nF;simp;omega);go_enter func17,ntmps17
  go_wp2;go_ret;exact⟨by rw[HV.out];rfl,gC.alloc fZ _⟩
 ·have d3:decide (300<(bn:Int))=false:=decide_eq_false (by omega);have HV:aQ (nF hn wn bn=false):=fX (by unfold nF;simp;omega);go_enter func17,ntmps17
  go_wp2;go_ret;exact⟨by rw[HV.out];rfl,gC.alloc fZ _⟩
theorem Kh(w:aq)(p:gF)(Ah:Option au)(hc:Nat)(Aw:Option au)(wc:Nat)(Ap:Option au)(pc:Nat)(Ab:Option au)(bn bc:Nat):
  aw prog 17 #[ah (gI p Ah hc Aw wc Ap pc),af Ab bn bc] w fun e w'=>e=ao (ai (nF p.hist.length p.wait.length bn))/\aR w.heap.size w w':=
 Kg w p.s p.h p.m p.z Ah p.hist.length hc Aw p.wait.length wc Ap p.gm.length pc p.k p.gO Ab bn bc
def qK(L:List Nat)(k:Int)(M:List Nat)(j:Int):Bool:=decide (k=j/\L=M)
theorem Ki(w:aq)(A:Option au)(c:Nat)(L:List Nat)(k:Int)(A2:Option au)(c2:Nat)(M:List Nat)(j:Int)(hr:gu w w.heap.size A L.length c (gj L))(av:gu w w.heap.size A2 M.length c2 (gj M)):
  aw prog 40 #[ah #[af A L.length c,ae aj k],ah #[af A2 M.length c2,ae aj j]] w fun e w'=>e=ao (ai (qK L k M j))/\aR w.heap.size w w':=by
 obtain⟨n,hn⟩:=fY (L.length)
 obtain⟨m,hm⟩:=fY (M.length)
 obtain⟨h,hh⟩:=fY (w.heap.size)
 obtain⟨W1,al⟩:=fY ((w.alloc (ak #[af A n c,ae aj k] 30)).alloc (ak #[af A2 m c2,ae aj j] 30))
 have b1:aR h w W1:=by rw[al,hh];exact(gC.alloc fZ _).alloc (by simp) _
 have x1:gi W1 h #[af A n c,ae aj k] 30:=by rw[al,hh];exact(gi.new w _ _).old _
 have y1:gi W1 (h+1) #[af A2 m c2,ae aj j] 30:=by
  rw[al,hh];have:=gi.new (w.alloc (ak #[af A n c,ae aj k] 30)) #[af A2 m c2,ae aj j] 30
  rwa[World.size_alloc]at this
 obtain⟨ZA,aS⟩:=fY (mZ L)
 obtain⟨ZB,aT⟩:=fY (mZ M)
 have sa:(convert 22 9 (af A n c)).run prog W1=.ok (.string ZA) W1:=by
  rw[aS,hn];exact od (hr.1.below (hh▸b1) fZ) c
 have sb:(convert 22 9 (af A2 m c2)).run prog W1=.ok (.string ZB) W1:=by
  rw[aT,hm];exact od (av.1.below (hh▸b1) fZ) c2
 have ad:=yn (kh hr) (kh av)
 rw[<-aS,<-aT]at ad
 have k0:=gV x1
 have k1:=iA x1
 have j0:=gV y1
 have j1:=iA y1
 have aU:=fX al;have HH:=fX hh;have aV:=fX b1
 rw[<-hn,<-hm]
 clear al hh b1 x1 y1 hr av aS aT hn hm
 by_cases e1:k=j
 ·have d1:(k==j)=true:=by simpa using e1
  by_cases e2:L=M
  ·have d2:(ZA.toList==ZB.toList)=true:=by rw[ad];exact decide_eq_true e2
   have HV:aQ (qK L k M j=true):=fX (decide_eq_true ⟨e1,e2⟩);clear ad e1 e2;go_enter func40,ntmps40
   go_wp2_with (rw[<-aU.out,<-HH.out])
   go_ret;exact⟨by rw[HV.out];rfl,by rw[<-HH.out];exact aV.out⟩
  ·have d2:(ZA.toList==ZB.toList)=false:=by rw[ad];exact decide_eq_false e2
   have HV:aQ (qK L k M j=false):=fX (decide_eq_false (fun h=>e2 h.2));clear ad e1 e2;go_enter func40,ntmps40
   go_wp2_with (rw[<-aU.out,<-HH.out])
   go_ret;exact⟨by rw[HV.out];rfl,by rw[<-HH.out];exact aV.out⟩
 ·have d1:(k==j)=false:=by simpa using e1
  have HV:aQ (qK L k M j=false):=fX (decide_eq_false (fun h=>e1 h.1));clear ad e1;go_enter func40,ntmps40
  go_wp2_with (rw[<-aU.out,<-HH.out])
  go_ret;exact⟨by rw[HV.out];rfl,by rw[<-HH.out];exact aV.out⟩
theorem Kj:prog.underlying 27=some (.struct (prog.fieldsOf 27)):=by kernel_rfl
theorem Kl:prog.stoodInHeld 27=false:=by kernel_rfl
theorem Km:(prog.fieldsOf 27).toList.map (fun f=>(f.type,f.offset,f.name== "_"))=[(3,0,false),(3,1,false),(3,2,false),(4,3,false)]:=by kernel_rfl
def sQ(s h m:Int)(z:Bool)(s' h' m':Int)(z':Bool):Bool:=decide (s=s'/\h=h'/\m=m'/\z=z')
theorem Kn(w:aq)(s h m:Int)(z:Bool)(s' h' m':Int)(z':Bool):(Op.equalIn 10000 27 (ah #[ae aj s,ae aj h,ae aj m,ai z]) (ah #[ae aj s',ae aj h',ae aj m',ai z'])).run prog w=.ok (sQ s h m z s' h' m' z') w:=by
 rw[run_equalIn_struct w 9999 _ _ _ Kj Kl];have hf:=Km;obtain⟨fs,ad⟩:=fY ((prog.fieldsOf 27).toList);rw[<-ad]at hf⊢;clear ad;have hl:fs.length=4:=by have:=congrArg List.length hf;simpa using this
 match fs,hl,hf with
 |[f0,f1,f2,f3],_,hf=>
  simp at hf;obtain⟨⟨a1,a2,a3⟩,⟨b1,b2,b3⟩,⟨c1,c2,c3⟩,⟨d1,d2,d3⟩⟩:=hf;unfold sQ;by_cases e1:s=s'<;>by_cases e2:h=h'<;>by_cases e3:m=m'<;>by_cases e4:z=z'<;>
   simp[Op.eqFields,a1,a2,a3,b1,b2,b3,c1,c2,c3,d1,d2,d3,go_sem,underlying4,underlying3,e1,e2,e3,e4]
theorem sR{P:az}{w:aq}{ops:Array aA}{rest:List aA}{o:aA}{a:Act}{Q:Exit->Act->aq->Prop}(ad:o.guard=none)(b:BinOp)(t t':aB)(x y:Operand)(ho:o.op=.binOp b t x y t')(u z v:ax)(hx:a.eval x=u)(hy:a.eval y=z)(hg:(eqGuard b t x y u z).run P w=.ok () w)(hr:(binOp b t u z).run P w=.ok v w)(h:wpList P ops Q rest (a.put o.dst v) w):wpList P ops Q (o::rest) a w:=by
 refine wpList_plain ad fun K hK=>?_
 unfold Oper.wp;have:(execOp a.eval o).run P w=.ok (.value v) w:=by unfold execOp;simp only[ho,hx,hy,Sem.run_bind,hg,hr,Result.andThen_ok];rfl
 rw[this];exact hK _ _ h
theorem sS(w:aq)(x y:Operand)(u v:Array ax):(eqGuard .eql 27 x y (ah u) (ah v)).run prog w=.ok () w:=by
 unfold eqGuard;simp[go_sem]
theorem sT(w:aq)(s h m:Int)(z:Bool)(s' h' m':Int)(z':Bool)(b:Bool)(e:sQ s h m z s' h' m' z'=b):(binOp .eql 27 (ah #[ae aj s,ae aj h,ae aj m,ai z]) (ah #[ae aj s',ae aj h',ae aj m',ai z'])).run prog w=.ok (ai b) w:=by
 rw[run_eql_struct,Kn,e];rfl
def m7(a b:gF):Bool:=sQ a.s a.h a.m a.z b.s b.h b.m b.z&&(a.gO==b.gO)&&qK a.gm a.k b.gm b.k&&decide (a.hist=b.hist)&&decide (a.wait=b.wait)
theorem yo(w:aq)(a b:gF)(Ah:Option au)(hc:Nat)(Aw:Option au)(wc:Nat)(Ap:Option au)(pc:Nat)(Bh:Option au)(hd:Nat)(Bw:Option au)(wd:Nat)(Bp:Option au)(pd:Nat)(ha:gU w w.heap.size a Ah hc Aw wc Ap pc)(hb:gU w w.heap.size b Bh hd Bw wd Bp pd):
  aw prog 22 #[ah (gI a Ah hc Aw wc Ap pc),ah (gI b Bh hd Bw wd Bp pd)] w fun e w'=>e=ao (ai (m7 a b))/\aR w.heap.size w w':=by
 obtain⟨h,hh⟩:=fY (w.heap.size)
 obtain⟨X,hX⟩:=fY (gI a Ah hc Aw wc Ap pc)
 obtain⟨Y,hY⟩:=fY (gI b Bh hd Bw wd Bp pd)
 rw[<-hX,<-hY]
 obtain⟨W1,a3⟩:=fY ((w.alloc (ak X 32)).alloc (ak Y 32))
 have b1:aR h w W1:=by rw[a3,hh];exact(gC.alloc fZ _).alloc (by simp) _
 have aU:gi W1 h X 32:=by rw[a3,hh];exact(gi.new w _ _).old _
 have aV:gi W1 (h+1) Y 32:=by
  rw[a3,hh];have:=gi.new (w.alloc (ak X 32)) Y 32
  rwa[World.size_alloc]at this
 obtain⟨na,a5⟩:=fY (a.hist.length)
 obtain⟨ma,a6⟩:=fY (a.wait.length)
 obtain⟨pa,a7⟩:=fY (a.gm.length)
 obtain⟨nb,a8⟩:=fY (b.hist.length)
 obtain⟨mb,a9⟩:=fY (b.wait.length)
 obtain⟨pb,bd⟩:=fY (b.gm.length)
 have Xx:X=#[ae aj a.s,ae aj a.h,ae aj a.m,ai a.z,af Ah na hc,af Aw ma wc,af Ap pa pc,ae aj a.k,ai a.gO]:=by rw[hX,a5,a6,a7];rfl
 have Xy:Y=#[ae aj b.s,ae aj b.h,ae aj b.m,ai b.z,af Bh nb hd,af Bw mb wd,af Bp pb pd,ae aj b.k,ai b.gO]:=by rw[hY,a8,a9,bd];rfl
 have pv:∀V,aR h w V->gU V V.heap.size a Ah hc Aw wc Ap pc/\gU V V.heap.size b Bh hd Bw wd Bp pd:=fun V hV=>⟨(ha.below (hh▸hV) fZ).more (hh▸hV).size,(hb.below (hh▸hV) fZ).more (hh▸hV).size⟩
 have aY:aQ (∀V,aR h w V->aw prog 40 #[ah #[af Ap pa pc,ae aj a.k],ah #[af Bp pb pd,ae aj b.k]] V fun e w'=>e=ao (ai (qK a.gm a.k b.gm b.k))/\aR V.heap.size V w'):=fX fun V hV=>by
  have h1:=Ki V Ap pc a.gm a.k Bp pd b.gm b.k (pv V hV).1.gm (pv V hV).2.gm;rwa[<-a7,<-bd]at h1
 obtain⟨S1,bf⟩:=fY (mZ a.hist)
 obtain⟨S2,bg⟩:=fY (mZ b.hist)
 obtain⟨S3,bj⟩:=fY (mZ a.wait)
 obtain⟨S4,bk⟩:=fY (mZ b.wait)
 have a4:aQ (∀V,aR h w V->(convert 22 9 (af Ah na hc)).run prog V=.ok (.string S1) V/\(convert 22 9 (af Bh nb hd)).run prog V=.ok (.string S2) V/\(convert 22 9 (af Aw ma wc)).run prog V=.ok (.string S3) V/\(convert 22 9 (af Bw mb wd)).run prog V=.ok (.string S4) V):=fX fun V hV=>by
  obtain⟨q1,q2⟩:=pv V hV;rw[bf,bg,bj,bk,a5,a8,a6,a9];exact⟨od q1.hist.1 hc,od q2.hist.1 hd,od q1.wait.1 wc,od q2.wait.1 wd⟩
 have aZ:=yn (kh ha.hist) (kh hb.hist)
 have a1:=yn (kh ha.wait) (kh hb.wait)
 rw[<-bf,<-bg]at aZ
 rw[<-bj,<-bk]at a1
 have a2:=fX a3;have HH:=fX hh;have aT:=fX b1;have HX:=fX aU;have HY:=fX aV;have aW:=fX Xx;have aX:=fX Xy
 have bq:W1.cell? ⟨h,0,none⟩=some (ae aj a.s):=by rw[aU.cell,Xx];rfl
 have br:W1.cell? ⟨h,1,none⟩=some (ae aj a.h):=by rw[aU.cell,Xx];rfl
 have bt:W1.cell? ⟨h,2,none⟩=some (ae aj a.m):=by rw[aU.cell,Xx];rfl
 have bu:W1.cell? ⟨h,3,none⟩=some (ai a.z):=by rw[aU.cell,Xx];rfl
 have bx:W1.cell? ⟨h,8,none⟩=some (ai a.gO):=by rw[aU.cell,Xx];rfl
 have bz:W1.cell? ⟨h,6,none⟩=some (af Ap pa pc):=by rw[aU.cell,Xx];rfl
 have bA:W1.cell? ⟨h,7,none⟩=some (ae aj a.k):=by rw[aU.cell,Xx];rfl
 have bB:W1.cell? ⟨h+1,0,none⟩=some (ae aj b.s):=by rw[aV.cell,Xy];rfl
 have bC:W1.cell? ⟨h+1,1,none⟩=some (ae aj b.h):=by rw[aV.cell,Xy];rfl
 have bD:W1.cell? ⟨h+1,2,none⟩=some (ae aj b.m):=by rw[aV.cell,Xy];rfl
 have bE:W1.cell? ⟨h+1,3,none⟩=some (ai b.z):=by rw[aV.cell,Xy];rfl
 have bF:W1.cell? ⟨h+1,8,none⟩=some (ai b.gO):=by rw[aV.cell,Xy];rfl
 have bG:W1.cell? ⟨h+1,6,none⟩=some (af Bp pb pd):=by rw[aV.cell,Xy];rfl
 have bH:W1.cell? ⟨h+1,7,none⟩=some (ae aj b.k):=by rw[aV.cell,Xy];rfl
 clear a3 hh b1 aU aV Xx Xy pv hX hY a5 a6 a7 a8 a9 bd bf bg bj bk ha hb
 cases d1:sQ a.s a.h a.m a.z b.s b.h b.m b.z with
 |false=>
  have HV:aQ (m7 a b=false):=fX (by unfold m7;simp[*]);go_enter func22,ntmps22
  go_wp2_with (first
   |(rw[<-a2.out,<-HH.out])
   |(refine sR rfl _ _ _ _ _ rfl _ _ _ rfl rfl (sS _ _ _ _ _) (sT _ _ _ _ _ _ _ _ _ false d1) ?_)
   |fail)
  go_ret;exact⟨by rw[HV.out];rfl,by rw[<-HH.out];exact aT.out⟩
 |true=>
  cases d2:(a.gO==b.gO)with
  |false=>
   have HV:aQ (m7 a b=false):=fX (by unfold m7;simp[*]);go_enter func22,ntmps22
   go_wp2_with (first
    |(rw[<-a2.out,<-HH.out])
    |(refine sR rfl _ _ _ _ _ rfl _ _ _ rfl rfl (sS _ _ _ _ _) (sT _ _ _ _ _ _ _ _ _ true d1) ?_)
    |fail)
   go_ret;exact⟨by rw[HV.out];rfl,by rw[<-HH.out];exact aT.out⟩
  |true=>
   cases dp:qK a.gm a.k b.gm b.k with
   |false=>
    have HV:aQ (m7 a b=false):=fX (by unfold m7;rw[d1,d2,dp];simp[*]);go_enter func22,ntmps22
    go_wp2_with (first
     |(rw[<-a2.out,<-HH.out])
     |(refine sR rfl _ _ _ _ _ rfl _ _ _ rfl rfl (sS _ _ _ _ _) (sT _ _ _ _ _ _ _ _ _ true d1) ?_)
     |fail)
    refine(aY.out _ aT.out).mono ?_;rintro e w2 ⟨rfl,ad⟩;have al:=HX.out.below ad HX.out.lt;have av:=HY.out.below ad HY.out.lt;have aS:=fX (aT.out.trans (ad.mono (by have:=HX.out.lt;omega)));obtain⟨s1,s2,s3,s4⟩:=a4.out w2 aS.out;have bl:w2.cell? ⟨h,4,none⟩=some (af Ah na hc):=by rw[al.cell,aW.out];rfl
    have bm:w2.cell? ⟨h,5,none⟩=some (af Aw ma wc):=by rw[al.cell,aW.out];rfl
    have bn:w2.cell? ⟨h+1,4,none⟩=some (af Bh nb hd):=by rw[av.cell,aX.out];rfl
    have bp:w2.cell? ⟨h+1,5,none⟩=some (af Bw mb wd):=by rw[av.cell,aX.out];rfl
    clear ad al av;rw[dp];go_wp2;go_ret;exact⟨by rw[HV.out];rfl,by rw[<-HH.out];exact aS.out⟩
   |true=>
    by_cases e1:a.hist=b.hist
    ·have d3:(S1.toList==S2.toList)=true:=by rw[aZ];exact decide_eq_true e1
     by_cases e2:a.wait=b.wait
     ·have d4:(S3.toList==S4.toList)=true:=by rw[a1];exact decide_eq_true e2
      clear aZ a1;have HV:aQ (m7 a b=true):=fX (by unfold m7;rw[d1,d2,dp];simp[*]);go_enter func22,ntmps22
      go_wp2_with (first
       |(rw[<-a2.out,<-HH.out])
       |(refine sR rfl _ _ _ _ _ rfl _ _ _ rfl rfl (sS _ _ _ _ _) (sT _ _ _ _ _ _ _ _ _ true d1) ?_)
       |fail)
      refine(aY.out _ aT.out).mono ?_;rintro e w2 ⟨rfl,ad⟩;have al:=HX.out.below ad HX.out.lt;have av:=HY.out.below ad HY.out.lt;have aS:=fX (aT.out.trans (ad.mono (by have:=HX.out.lt;omega)));obtain⟨s1,s2,s3,s4⟩:=a4.out w2 aS.out;have bl:w2.cell? ⟨h,4,none⟩=some (af Ah na hc):=by rw[al.cell,aW.out];rfl
      have bm:w2.cell? ⟨h,5,none⟩=some (af Aw ma wc):=by rw[al.cell,aW.out];rfl
      have bn:w2.cell? ⟨h+1,4,none⟩=some (af Bh nb hd):=by rw[av.cell,aX.out];rfl
      have bp:w2.cell? ⟨h+1,5,none⟩=some (af Bw mb wd):=by rw[av.cell,aX.out];rfl
      clear ad al av;rw[dp];go_wp2;go_ret;exact⟨by rw[HV.out];rfl,by rw[<-HH.out];exact aS.out⟩
     ·have d4:(S3.toList==S4.toList)=false:=by rw[a1];exact decide_eq_false e2
      clear aZ a1;have HV:aQ (m7 a b=false):=fX (by unfold m7;rw[d1,d2,dp];simp[*]);go_enter func22,ntmps22
      go_wp2_with (first
       |(rw[<-a2.out,<-HH.out])
       |(refine sR rfl _ _ _ _ _ rfl _ _ _ rfl rfl (sS _ _ _ _ _) (sT _ _ _ _ _ _ _ _ _ true d1) ?_)
       |fail)
      refine(aY.out _ aT.out).mono ?_;rintro e w2 ⟨rfl,ad⟩;have al:=HX.out.below ad HX.out.lt;have av:=HY.out.below ad HY.out.lt;have aS:=fX (aT.out.trans (ad.mono (by have:=HX.out.lt;omega)));obtain⟨s1,s2,s3,s4⟩:=a4.out w2 aS.out;have bl:w2.cell? ⟨h,4,none⟩=some (af Ah na hc):=by rw[al.cell,aW.out];rfl
      have bm:w2.cell? ⟨h,5,none⟩=some (af Aw ma wc):=by rw[al.cell,aW.out];rfl
      have bn:w2.cell? ⟨h+1,4,none⟩=some (af Bh nb hd):=by rw[av.cell,aX.out];rfl
      have bp:w2.cell? ⟨h+1,5,none⟩=some (af Bw mb wd):=by rw[av.cell,aX.out];rfl
      clear ad al av;rw[dp];go_wp2;go_ret;exact⟨by rw[HV.out];rfl,by rw[<-HH.out];exact aS.out⟩
    ·have d3:(S1.toList==S2.toList)=false:=by rw[aZ];exact decide_eq_false e1
     clear aZ a1;have HV:aQ (m7 a b=false):=fX (by unfold m7;rw[d1,d2,dp];simp[*]);go_enter func22,ntmps22
     go_wp2_with (first
      |(rw[<-a2.out,<-HH.out])
      |(refine sR rfl _ _ _ _ _ rfl _ _ _ rfl rfl (sS _ _ _ _ _) (sT _ _ _ _ _ _ _ _ _ true d1) ?_)
      |fail)
     refine(aY.out _ aT.out).mono ?_;rintro e w2 ⟨rfl,ad⟩;have al:=HX.out.below ad HX.out.lt;have av:=HY.out.below ad HY.out.lt;have aS:=fX (aT.out.trans (ad.mono (by have:=HX.out.lt;omega)));obtain⟨s1,s2,s3,s4⟩:=a4.out w2 aS.out;have bl:w2.cell? ⟨h,4,none⟩=some (af Ah na hc):=by rw[al.cell,aW.out];rfl
     have bm:w2.cell? ⟨h,5,none⟩=some (af Aw ma wc):=by rw[al.cell,aW.out];rfl
     have bn:w2.cell? ⟨h+1,4,none⟩=some (af Bh nb hd):=by rw[av.cell,aX.out];rfl
     have bp:w2.cell? ⟨h+1,5,none⟩=some (af Bw mb wd):=by rw[av.cell,aX.out];rfl
     clear ad al av;rw[dp];go_wp2;go_ret;exact⟨by rw[HV.out];rfl,by rw[<-HH.out];exact aS.out⟩
def lx(p:gF)(n:Nat):Int:=if jN p≠0 then jN p else if 131072<n then 4 else 0
def oF(w w':aq)(e:Ending)(r:gF×List Nat)(E:Int):Prop:=∃Ah hc Aw wc Ap pc Ao oc,e=ao (.tuple #[ah (gI r.1 Ah hc Aw wc Ap pc),af Ao r.2.length oc,ae aj E])/\gU w' w'.heap.size r.1 Ah hc Aw wc Ap pc/\gu w' w'.heap.size Ao r.2.length oc (gj r.2)/\aR w.heap.size w w'/\
 kG w' w.heap.size Ah r.1.hist.length/\kG w' w.heap.size Aw r.1.wait.length
def tL:Prop:=∀(w:aq) (p:gF) (Ah:Option au) (hc:Nat) (Aw:Option au) (wc:Nat) (Ap:Option au) (pc:Nat),gU w w.heap.size p Ah hc Aw wc Ap pc->aw prog 16 #[ah (gI p Ah hc Aw wc Ap pc)] w fun e w'=>e=ao (ae aj (pZ p))/\aR w.heap.size w w'
def yp:Prop:=∀(w:aq) (p:gF) (Ah:Option au) (hc:Nat) (Aw:Option au) (wc:Nat) (Ap:Option au) (pc:Nat),gU w w.heap.size p Ah hc Aw wc Ap pc->p.hist.length<=1000000->p.wait.length<=1000000->
 aw prog 13 #[ah (gI p Ah hc Aw wc Ap pc)] w fun e w'=>oF w w' e (kO (jN p) (jA p)) (jN p)
def yq:Prop:=∀(w:aq) (p:gF) (Ah:Option au) (hc:Nat) (Aw:Option au) (wc:Nat) (Ap:Option au) (pc:Nat),gU w w.heap.size p Ah hc Aw wc Ap pc->p.hist.length<=1000000->p.wait.length<=1000000->
 aw prog 14 #[ah (gI p Ah hc Aw wc Ap pc)] w fun e w'=>oF w w' e (kO (jN p) (iK p)) (jN p)
def qL(f:Nat->Nat)(n:Nat)(k:Int)(kind rn:Nat)(r:Nat->Nat)(l:List gA)(last:Bool):Int:=
 if jz f n k=false then 8 else if mc kind rn l≠0 then mc kind rn l else if 8388608<k.toNat+Pq (gN (k.toNat%8) kind rn r l last)then 9 else 0
def tM(f:Nat->Nat)(n:Nat)(k:Int)(kind rn:Nat)(r:Nat->Nat)(l:List gA)(last:Bool):Nat:=
 if qL f n k kind rn r l last=0 then k.toNat+Pq (gN (k.toNat%8) kind rn r l last)else 0
def tN(f:Nat->Nat)(n:Nat)(k:Int)(kind rn:Nat)(r:Nat->Nat)(l:List gA)(last:Bool):Nat->Nat:=
 if qL f n k kind rn r l last=0 then gK (gP n f) k.toNat (gN (k.toNat%8) kind rn r l last)else fun _=>0
theorem vz:prog.built 30 []=some #[af none 0 0,ae aj 0]:=by kernel_rfl
theorem sU{fn:Func}{p u:Tmp}(h:fn.results=#[.cell p 30,.tmp u])(tmps:Array ax)(w:aq)(g:Nat)(cs:Array ax)(hs:cs.size=2)(hp:tmps.getD p undef=ag (some ⟨g,0,none⟩))(ht:w.heap[g]?=some (ak cs 30 (0,0))):
  (results fn tmps).run prog w=.ok (.tuple #[ah cs,tmps.getD u undef]) w:=by
 have ad:tmps[p]?.getD undef=ag (some ⟨g,0,none⟩):=by simpa using hp
 have hl:=run_loadVar_row (P:=prog) w g 30 30 cs (0,0) _ ht underlying30 rfl (by rw[hs];exact lq)
 simp[results,h,ad,asAddr,hl]
theorem Ko{f:Nat->Nat}{n:Nat}{k:Int}(hf:∀j,f j<256)(h:jz f n k=true):∃K:Nat,k=K/\K<=8388608/\n=(K+7)/8/\Pw (gP n f) K:=uU hf (by unfold jM;rw[if_pos h])
open Go.Deep
def p9(t:gA):Prop:=t.x<256/\(-9223372036854775808<=t.d/\t.d<=9223372036854775807)/\(-9223372036854775808<=t.n/\t.n<=9223372036854775807)
def Ds(w w':aq)(e:Ending)(K:Nat)(E:Int)(F:Nat->Nat):Prop:=∃A' c' L,L=(K+7)/8/\e=ao (.tuple #[ah #[af A' L c',ae aj (K:Int)],ae aj E])/\gu w' w'.heap.size A' L c' F/\aR w.heap.size w w'/\kG w' w.heap.size A' L
def Kq:Prop:=∀(w:aq) (A:Option au) (n c:Nat) (f:Nat->Nat) (k:Int) (kind:Nat) (A1:Option au) (rn rc:Nat) (r:Nat->Nat) (A2:Option au) (m c2:Nat) (l:List gA) (last:Bool),gu w w.heap.size A n c f->n<=2000000->-9223372036854775808<=k->k<=9223372036854775807->kind<256->
 gu w w.heap.size A1 rn rc r->rn<=1000000->iL w w.heap.size A2 m c2 l->m<=1000000->(∀t∈l,p9 t)->
 aw prog 66 #[ah #[af A n c,ae aj k],ae .u8 (kind:Int),af A1 rn rc,af A2 m c2,ai last] w fun e w'=>Ds w w' e (tM f n k kind rn r l last) (qL f n k kind rn r l last) (tN f n k kind rn r l last)
def Kr:Prop:=∀(w:aq) (a:Int) (kind:Nat) (A1:Option au) (rn rc:Nat) (r:Nat->Nat) (A2:Option au) (m c2:Nat) (l:List gA),-9223372036854775808<=a->a<=9223372036854775807->kind<256->
 gu w w.heap.size A1 rn rc r->rn<=1000000->iL w w.heap.size A2 m c2 l->m<=1000000->(∀t∈l,p9 t)->
 aw prog 91 #[ae aj a,ae .u8 (kind:Int),af A1 rn rc,af A2 m c2] w fun e w'=>e=ao (.tuple #[ae aj ((sJ a kind rn r l:Nat):Int),ae aj (oA a kind rn l)])/\aR w.heap.size w w'
def Ks:Prop:=∀(w:aq) (a:Int) (A1:Option au) (rn rc:Nat) (r:Nat->Nat) (A2:Option au) (m c2:Nat) (l:List gA),-9223372036854775808<=a->a<=9223372036854775807->
 gu w w.heap.size A1 rn rc r->rn<=1000000->iL w w.heap.size A2 m c2 l->m<=1000000->(∀t∈l,p9 t)->
 aw prog 61 #[ae aj a,af A1 rn rc,af A2 m c2] w fun e w'=>e=ao (.tuple #[ae .u8 ((uT a rn r l:Nat):Int),ae aj (qF a rn l)])/\aR w.heap.size w w'
def Kt:Prop:=∀w:aq,aw prog 159 #[] w fun e w'=>e=ao (ah (gw (fun i=>(jD i:Int)) 19))/\aR w.heap.size w w'
def Ku:Prop:=∀w:aq,aw prog 107 #[] w fun e w'=>∃A1 c1 A2 c2,e=ao (.tuple #[af A1 288 c1,af A2 32 c2])/\
 w'.ownsRow w.heap.size 5 1 (af A1 288 c1) 288 (gD 288 jG)/\w'.ownsRow w.heap.size 5 1 (af A2 32 c2) 32 (gD 32 kW)/\(∀g,(Value.slice A1 288 c1).ownBlock=some g->(Value.slice A2 32 c2).ownBlock≠some g)/\aR w.heap.size w w'
theorem Dt{P:az}(w:aq)(d:Nat){e:aB}{q:IntKind}(he:P.underlying e=some (.int q))(xs ys:Array ax)(f g:Nat->Int):∀(is:List Nat),
  (∀i∈is,xs[i]?=some (ae q (f i))/\ys[i]?=some (ae q (g i)))->(Op.eqItems (d+1) e 1 xs ys is).run P w=.ok (decide (∀i∈is,f i=g i)) w
 |[],_=>by simp[Op.eqItems]
 |i::is,h=>by
  obtain⟨h1,h2⟩:=h i (by simp);have hp:∀(zs:Array ax) (z:Int),zs[i]?=some (ae q z)->(part e zs (i*1)).run P w=.ok (ae q z) w:=by
   intro zs z hz;unfold part isAgg;simp[Sem.run_bind,run_underlying he,hz]
  have h3:(Op.equalIn (d+1) e (ae q (f i)) (ae q (g i))).run P w=.ok (f i==g i) w:=run_equalIn_int w d e q q _ _ he;simp only[Op.eqItems,Sem.run_bind,hp _ _ h1,hp _ _ h2,h3,Result.andThen_ok];have ih:=Dt w d he xs ys f g is (fun j hj=>h j (by simp[hj]));by_cases hc:f i=g i
  ·simp[hc,ih]
  ·simp[hc]
def tcN(f:Nat->Nat)(m:Nat):Nat->Nat
 |0=>0
 |n+1=>tcN f m n+if 0<f n/\f n=m then 1 else 0
theorem vA(f:Nat->Nat)(m:Nat):∀n,tcN f m n<=n
 |0=>Nat.le_refl _
 |n+1=>by have:=vA f m n;simp only[tcN];split<;>omega
theorem vB(f:Nat->Nat):∀n,tcN f 0 n=0
 |0=>rfl
 |n+1=>by simp only[tcN];rw[vB f n,if_neg (by omega)]
theorem tO(f:Nat->Nat){m:Nat}(hm:0<m):∀n,lE f m n=tcN f m n*pt m
 |0=>by simp[lE,tcN]
 |n+1=>by
  simp only[lE,tcN];rw[tO f hm n];by_cases h:f n=m
  ·rw[if_pos h,if_pos ⟨by omega,h⟩,Nat.add_mul,Nat.one_mul]
  ·rw[if_neg h,if_neg (fun g=>h g.2)];rfl
def pB(f:Nat->Nat)(n:Nat):Nat->Nat
 |0=>0
 |m+1=>pB f n m+tcN f (m+1) n
theorem Du(f:Nat->Nat):∀M,pB f 0 M=0
 |0=>rfl
 |M+1=>by simp only[pB,tcN];rw[Du f M]
theorem Dv(f:Nat->Nat)(n:Nat):∀M,pB f (n+1) M=pB f n M+if 0<f n/\f n<=M then 1 else 0
 |0=>by rw[if_neg (by omega)];rfl
 |M+1=>by
  simp only[pB,tcN];rw[Dv f n M];repeat' split
  all_goals omega
theorem yr(f:Nat->Nat):∀n,(∀j,j<n->f j<=15)->kS f n=pB f n 15
 |0,_=>(Du f 15).symm
 |n+1,h=>by
  rw[Dv,<-yr f n (fun j hj=>h j (by omega))];simp only[kS];have:=h n (by omega);by_cases h1:0<f n
  ·rw[if_pos h1,if_pos ⟨h1,this⟩]
  ·rw[if_neg h1,if_neg (fun g=>h1 g.1)]
def lf(t:Nat->Nat):Nat->Int
 |0=>1
 |k+1=>2*lf t k-(t (k+1):Int)
theorem Dw{t:Nat->Nat}(ht:∀m,t m<=1000):∀k,lf t k<=((2^k:Nat):Int)/\1000-((1000*2^k:Nat):Int)<=lf t k
 |0=>by simp[lf]
 |k+1=>by
  have:=Dw ht k;have h1:=ht (k+1);simp only[lf,Nat.pow_succ];omega
theorem Dx{t:Nat->Nat}(ht:∀m,t m<=1000){k:Nat}(hk:k<=15):lf t k<=32768/\-32768000<=lf t k:=by
 have:=Dw ht k;have h2:(2:Nat)^k<=2^15:=Nat.pow_le_pow_right (by omega) hk;have h3:(2:Nat)^15=32768:=rfl;omega
theorem Dy(f:Nat->Nat)(n:Nat):∀k,k<=15->lf (fun m=>tcN f m n) k*(pt k:Int)=32768-(kA f n k:Int)
 |0,_=>by simp[lf,kA,pt]
 |k+1,h=>by
  have ih:=Dy f n k (by omega);have e:pt k=pt (k+1)*2:=by rw[sj (Nat.le_succ k) h,show k+1-k=1 by omega]
  simp only[lf,kA];rw[tO f (by omega),Int.sub_mul,Int.natCast_add,Int.natCast_mul];rw[e,Int.natCast_mul,<-Int.mul_assoc]at ih;have h2:2*lf (fun m=>tcN f m n) k*(pt (k+1):Int)=lf (fun m=>tcN f m n) k*(pt (k+1):Int)*((2:Nat):Int):=by
   rw[Int.mul_comm 2,Int.mul_assoc,Int.mul_comm 2,<-Int.mul_assoc];rfl
  rw[h2];omega
theorem Kv{f:Nat->Nat}{n:Nat}(h:∀j,j<n->f j<=15):lf (fun m=>tcN f m n) 15=32768-(Pz f n:Int):=by
 have:=Dy f n 15 fZ;rw[tb f n h];rw[<-this,show pt 15=1 from rfl];simp
def pC(m:Nat):Nat:=if m=1 then 1 else 0
theorem Dz(f:Nat->Nat)(n:Nat):pB f n 15=0+tcN f 1 n+tcN f 2 n+tcN f 3 n+tcN f 4 n+tcN f 5 n+tcN f 6 n+tcN f 7 n+tcN f 8 n+tcN f 9 n+tcN f 10 n+tcN f 11 n+tcN f 12 n+tcN f 13 n+tcN f 14 n+tcN f 15 n:=rfl
theorem Kw{f:Nat->Nat}{n:Nat}(h:∀j,j<n->f j<=15):(∀m,m<16->tcN f m n=0)↔kS f n=0:=by
 rw[yr f n h];constructor
 ·intro g;have:∀M,M<16->pB f n M=0:=by
   intro M;induction M with
   |zero=>intro _;rfl
   |succ M ih=>intro hM;simp only[pB];rw[ih (by omega),g (M+1) hM]
  exact this 15 (by omega)
 ·intro g m hm;have hz:=vB f n;rw[Dz]at g;obtain rfl|rfl|rfl|rfl|rfl|rfl|rfl|rfl|rfl|rfl|rfl|rfl|rfl|rfl|rfl|rfl:m=0\/m=1\/m=2\/m=3\/m=4\/m=5\/m=6\/m=7\/m=8\/m=9\/m=10\/m=11\/m=12\/m=13\/m=14\/m=15:=by omega
  all_goals omega
theorem Kx(c1 c2 c3 c4 c5 c6 c7 c8 c9 ad al av aS aT aU:Nat):c1*16384+c2*8192+c3*4096+c4*2048+c5*1024+c6*512+c7*256+c8*128+c9*64+ad*32+al*16+av*8+aS*4+aT*2+aU*1<=8192*(0+c1+c2+c3+c4+c5+c6+c7+c8+c9+ad+al+av+aS+aT+aU)+8192*c1:=by omega
theorem Ky{f:Nat->Nat}{n:Nat}(h:∀j,j<n->f j<=15):(∀m,m<16->tcN f m n=pC m)↔kS f n=1/\Pz f n=16384:=by
 rw[yr f n h,tb f n h];have hp:∀m,0<m->lE f m n=tcN f m n*pt m:=fun m hm=>tO f hm n
 have e:kA f n 15=tcN f 1 n*16384+tcN f 2 n*8192+tcN f 3 n*4096+tcN f 4 n*2048+tcN f 5 n*1024+tcN f 6 n*512+tcN f 7 n*256+tcN f 8 n*128+tcN f 9 n*64+tcN f 10 n*32+tcN f 11 n*16+tcN f 12 n*8+tcN f 13 n*4+tcN f 14 n*2+tcN f 15 n*1:=by
  simp only[kA];rw[hp 1 (by omega),hp 2 (by omega),hp 3 (by omega),hp 4 (by omega),hp 5 (by omega),hp 6 (by omega),hp 7 (by omega),hp 8 (by omega),hp 9 (by omega),hp 10 (by omega),hp 11 (by omega),hp 12 (by omega),hp 13 (by omega),hp 14 (by omega),hp 15 (by omega)];have:pt 1=16384/\pt 2=8192/\pt 3=4096/\pt 4=2048/\pt 5=1024/\pt 6=512/\pt 7=256/\pt 8=128/\pt 9=64/\pt 10=32/\pt 11=16/\pt 12=8/\pt 13=4/\pt 14=2/\pt 15=1:=by decide
  obtain⟨h1,h2,h3,h4,h5,h6,h7,h8,h9,al,av,aS,aT,aU,aV⟩:=this;rw[h1,h2,h3,h4,h5,h6,h7,h8,h9,al,av,aS,aT,aU,aV];omega
 rw[e];clear hp e;rw[Dz];constructor
 ·intro g;rw[g 1 (by omega),g 2 (by omega),g 3 (by omega),g 4 (by omega),g 5 (by omega),g 6 (by omega),g 7 (by omega),g 8 (by omega),g 9 (by omega),g 10 (by omega),g 11 (by omega),g 12 (by omega),g 13 (by omega),g 14 (by omega),g 15 (by omega)];decide
 ·rintro⟨g1,g2⟩ m hm;have hz:=vB f n;have ad:tcN f 1 n=1:=by
   have h1:16384<=8192*1+8192*tcN f 1 n:=by
    have:=Kx (tcN f 1 n) (tcN f 2 n) (tcN f 3 n) (tcN f 4 n) (tcN f 5 n) (tcN f 6 n) (tcN f 7 n) (tcN f 8 n) (tcN f 9 n) (tcN f 10 n) (tcN f 11 n) (tcN f 12 n) (tcN f 13 n) (tcN f 14 n) (tcN f 15 n);rw[g1,g2]at this;exact this
   clear g2;omega
  clear g2;rw[ad]at g1;obtain rfl|rfl|rfl|rfl|rfl|rfl|rfl|rfl|rfl|rfl|rfl|rfl|rfl|rfl|rfl|rfl:m=0\/m=1\/m=2\/m=3\/m=4\/m=5\/m=6\/m=7\/m=8\/m=9\/m=10\/m=11\/m=12\/m=13\/m=14\/m=15:=by omega
  all_goals(unfold pC;first|exact ad|(rw[if_neg (by decide)];omega))
def l4(t:Nat->Nat):Nat->Nat
 |0=>0
 |m+1=>2*(l4 t m+t m)
theorem DA{t:Nat->Nat}(ht:∀m,t m<=1000):∀k,l4 t k+2000<=2000*2^k
 |0=>by simp[l4]
 |k+1=>by
  have:=DA ht k;have h1:=ht k;simp only[l4,Nat.pow_succ];omega
theorem Kz{t:Nat->Nat}(ht:∀m,t m<=1000){k:Nat}(hk:k<=16):l4 t k<=131072000:=by
 have:=DA ht k;have h2:(2:Nat)^k<=2^16:=Nat.pow_le_pow_right (by omega) hk;have h3:(2:Nat)^16=65536:=rfl;omega
theorem DB(f:Nat->Nat)(n:Nat):∀m,m<15->l4 (fun m=>tcN f m n) (m+1)*pt (m+1)=kA f n m
 |0,_=>by simp only[l4,kA,vB];omega
 |m+1,h=>by
  have ih:=DB f n m (by omega);have e:pt (m+1)=pt (m+2)*2:=by rw[sj (Nat.le_succ (m+1)) h,show m+1+1-(m+1)=1 by omega]
  have e1:l4 (fun m=>tcN f m n) (m+1+1)=2*(l4 (fun m=>tcN f m n) (m+1)+tcN f (m+1) n):=rfl;have e2:kA f n (m+1)=kA f n m+lE f (m+1) n:=rfl;rw[e1,e2,tO f (by omega),<-ih,<-Nat.add_mul,e,Nat.mul_comm 2,Nat.mul_assoc,Nat.mul_comm 2]
def m9(f:Nat->Nat)(n i m:Nat):Nat:=l4 (fun m=>tcN f m n) m+tcN f m i
theorem KA{f:Nat->Nat}{n i:Nat}(h0:0<f i)(h:f i<=15):iO f n i=m9 f n i (f i):=by
 unfold iO m9 kT;rw[if_neg (by omega)];obtain⟨m,hm⟩:∃m,f i=m+1:=⟨f i-1,by omega⟩;rw[hm,Nat.add_sub_cancel,<-DB f n m (by omega),tO f (by omega),<-Nat.add_mul];exact Nat.mul_div_cancel _ (wS (by omega))
theorem KB{f:Nat->Nat}{n i:Nat}(h0:0<f i):gL (m9 f n i) (f i) (m9 f n i (f i)+1)=m9 f n (i+1):=by
 funext m;unfold gL m9;simp only[tcN];by_cases e:m=f i
 ·subst e;rw[if_pos rfl,if_pos ⟨h0,rfl⟩];omega
 ·rw[if_neg e,if_neg (fun g=>e g.2.symm)];rfl
theorem KC{f:Nat->Nat}{n i:Nat}(h0:f i=0):m9 f n i=m9 f n (i+1):=by
 funext m;unfold m9;simp only[tcN];rw[if_neg (by omega)];rfl
theorem KE(f:Nat->Nat)(n:Nat):l4 (fun m=>tcN f m n)=m9 f n 0:=rfl
theorem KF{f:Nat->Nat}{i:Nat}(h0:0<f i):gL (fun m=>tcN f m i) (f i) (tcN f (f i) i+1)=fun m=>tcN f m (i+1):=by
 funext m;unfold gL;simp only[tcN];by_cases e:m=f i
 ·subst e;rw[if_pos rfl,if_pos ⟨h0,rfl⟩]
 ·rw[if_neg e,if_neg (fun g=>e g.2.symm)];rfl
theorem KG{f:Nat->Nat}{i:Nat}(h0:f i=0):(fun m=>tcN f m i)=fun m=>tcN f m (i+1):=by
 funext m;simp only[tcN];rw[if_neg (by omega)];rfl
def vC(g:Nat->Nat):List ax:=(List.range 16).map fun i=>ae aj (g i:Int)
def ia(g:Nat->Nat):Array ax:=(vC g).toArray
theorem nc(g:Nat->Nat):(ia g).size=16:=by simp[ia,vC]
theorem rW(g:Nat->Nat)(i:Nat):(ia g)[i]?=if i<16 then some (ae aj (g i:Int))else none:=by
 unfold ia vC;by_cases h:i<16<;>simp[h]
theorem DC(g:Nat->Nat):(ia g).all (·.oneCell')=true:=by
 rw[Array.all_eq_true];intro i hi;have:(ia g)[i]=ae aj (g i:Int):=by simp[ia,vC]
 rw[this];rfl
theorem KH{g h:Nat->Nat}(e:∀i,i<16->g i=h i):ia g=ia h:=by
 apply Array.ext_getElem?;intro i;rw[rW,rW];split
 ·rename_i hi;rw[e i hi]
 ·rfl
theorem KI(g:Nat->Nat)(i x:Nat):(ia g).setIfInBounds i (ae aj (x:Int))=ia (gL g i x):=by
 apply Array.ext_getElem?;intro j;rw[Array.getElem?_setIfInBounds,rW,rW,nc];unfold gL;by_cases e:i=j
 ·subst e;by_cases h:i<16<;>simp[h]
 ·have e':¬j=i:=fun h=>e h.symm
  simp[e,e']
theorem yt:(prog.info? 211).map (fun i=>(i.zero,i.size))=some (some (ah (ia lp)),16):=by kernel_rfl
theorem pD:(prog.info? 211).map (·.size)=some 16:=(zero_of_info yt).2
def ja(w:aq)(b:Nat)(g:Nat->Nat):Prop:=w.heap[b]?=some (ak (ia g) 211 (0,0))
theorem ja.lt{w:aq}{b:Nat}{g:Nat->Nat}(h:ja w b g):b<w.heap.size:=(Array.getElem?_eq_some_iff.1 h).1
theorem ja.cell{w:aq}{b:Nat}{g:Nat->Nat}(h:ja w b g){j:Nat}(hj:j<16):w.cell? ⟨b,j,none⟩=some (ae aj (g j:Int)):=by
 rw[aH w b j _ _ (0,0) h,rW,if_pos hj]
theorem ja.frozen{w:aq}{b:Nat}{g:Nat->Nat}(h:ja w b g)(j:Nat):w.frozen? ⟨b,j,none⟩=false:=aO w b j _ _ h
theorem ja.set{w:aq}{b:Nat}{g:Nat->Nat}(h:ja w b g)(i x:Nat):ja (w.setCell ⟨b,i,none⟩ (ae aj (x:Int))) b (gL g i x):=by
 unfold ja;rw[heap_setCell_same w b i _ _ _ h,KI]
theorem ja.other{w:aq}{b:Nat}{g:Nat->Nat}(h:ja w b g){p:au}(hp:b≠p.block)(u:ax):ja (w.setCell p u) b g:=(Below.heap_setCell w p u b hp).trans h
theorem ja.alloc{w:aq}{b:Nat}{g:Nat->Nat}(h:ja w b g)(o:Obj):ja (w.alloc o) b g:=(Below.heap_alloc w o b h.lt).trans h
theorem ja.below{w w':aq}{b B:Nat}{g:Nat->Nat}(h:ja w b g)(hb:aR B w w')(hg:b<B):ja w' b g:=(hb.block b hg).trans h
theorem ja.ext{w:aq}{b:Nat}{g g':Nat->Nat}(h:ja w b g)(e:∀i,i<16->g i=g' i):ja w b g':=by
 unfold ja at h⊢;rw[<-KH e];exact h
theorem DD{P:az}{ops:Array aA}{rest:List aA}{o:aA}{a:Act}{w:aq}{Q:Exit->Act->aq->Prop}(ad:o.guard=none)(ty:aB)(x y:Operand)(ho:o.op=.store ty x y)
  (g:Nat) (cells:Array ax) (hx:a.eval x=ag (some ⟨g,0,none⟩)) (hy:a.eval y=ah cells)
  (t:aB) (old:Array ax) (hg:w.heap[g]?=some (ak old t (0,0))) (hi:(P.info? ty).map (·.size)=some cells.size)
  (hold:old.size=cells.size) (h1:cells.all (·.oneCell')=true)
  (h:wpList P ops Q rest (a.put o.dst undef) (w.setRow g cells)):wpList P ops Q (o::rest) a w:=
 wpList_plain ad fun _ hK=>wp_store_row ty x y ho g cells hx hy t old hg hi hold h1 (hK _ _ h)
theorem yu{B:Nat}{a w:aq}(h:aR B a w){g:Nat}(hp:B<=g)(cs:Array ax):aR B a (w.setRow g cs):=
 ⟨h.os,h.tape,h.output,by rw[size_setRow];exact h.size,fun k hk=>(setRow_other w g k cs (by omega)).trans (h.block k hk)⟩
theorem ja.setRow{w:aq}{b:Nat}{g h:Nat->Nat}(ht:ja w b g):ja (w.setRow b (ia h)) b h:=setRow_heap w b _ _ _ _ ht
theorem DE(w:aq)(A:Option au)(n c:Nat)(f:Nat->Nat)(hr:gE w w.heap.size A n f)(hn:n<=1000000)(av:∀j,j<n->f j<=15):
  aw prog 138 #[af A n c] w fun e w'=>e=ao (ah (ia fun m=>tcN f m n))/\aR w.heap.size w w':=by
 have hz:=(zero_of_info yt).1
 have HR:=fX hr;have aU:=fX av
 clear hr av
 go_enter func138,ntmps138
 go_wp2
 go_loopw [8] (fun i wr=>∃k:Nat,k<=n/\i=ae aj k/\ja wr w.heap.size lp/\ja wr (w.heap.size+1) (fun m=>tcN f m k)/\w.heap.size+1<wr.heap.size/\aR w.heap.size w wr) (fun i _=>n-(aP i).toNat)
 case atStart=>
  exact⟨0,Nat.zero_le _,rfl,heap_alloc2_old w _ _,heap_alloc2_new w _ _,by simp,(gC.alloc fZ _).alloc (by simp) _⟩
 case round=>
  obtain⟨k,hk,rfl,h0,h1,aS,hb⟩:=hrel;by_cases al:k<n
  ·obtain⟨b,o,rfl,_,hc⟩:=(HR.out.below hb fZ).2 (by omega);have aV:=hc k al;have hf:=aU.out k al;have aW:=vA f (f k) k;clear hc;by_cases hp:0<f k
   ·have c1:=h1.cell (show f k<16 by omega);have f1:=h1.frozen (f k);have H0:=fX h0;have H1:=fX h1;have HB:=fX hb
    have HS:=fX (KF hp);clear h0 h1 hb;obtain⟨q,hq⟩:=fY (tcN f (f k) k);have HQ:=fX hq;rw[<-hq]at c1 aW;clear hq;go_wp2;go_roundw
    case rel=>
     have ad:=H1.out.set (f k) (q+1);rw[HQ.out,HS.out]at ad;refine⟨k+1,by omega,by go_num,H0.out.other (by simp) _,?_,by simpa[World.setCell]using aS,HB.out.setCell (by simp) _⟩;rw[HQ.out];exact ad
    case measure=>simp[aP];omega
   ·have aT:f k=0:=by omega
    have aX:decide (0<((f k:Nat):Int))=false:=by simp;omega
    have H0:=fX h0;have H1:=fX h1;have HB:=fX hb
    have HS:=fX (KG aT);clear h0 h1 hb aT;go_wp2;go_roundw
    case rel=>
     refine⟨k+1,by omega,by go_num,H0.out,?_,aS,HB.out⟩;rw[<-HS.out];exact H1.out
    case measure=>simp[aP];omega
  ·obtain rfl:k=n:=by omega
   have H0:=fX h0;have H1:=fX h1;have HB:=fX hb
   clear h0 h1 hb al hk;go_wp2_with (first
    |(refine aE rfl _ _ rfl (w.heap.size+1) rfl _ (ia fun m=>tcN f m k) (0,0) _ H1.out underlying211 rfl (by rw[nc];exact pD) ?_)
    |(refine DD rfl _ _ _ rfl w.heap.size (ia fun m=>tcN f m k) rfl rfl _ (ia lp) H0.out (by rw[nc];exact pD) (by rw[nc,nc]) (DC _) ?_))
   refine aK (v:=ah (ia fun m=>tcN f m k)) ?_ rfl ⟨rfl,yu HB.out fZ _⟩;exact results_cell_row rfl _ _ w.heap.size _ _ (0,0) _ rfl (H0.out.setRow (h:=fun m=>tcN f m k)) underlying211 rfl (by rw[nc];exact pD)
theorem vD(w:aq)(t:Nat->Nat)(ht:∀m,t m<=1000):
  aw prog 174 #[ah (ia t)] w fun e w'=>e=ao (ae aj (lf t 15))/\aR w.heap.size w w':=by
 have HT:=fX ht
 clear ht
 go_enter func174,ntmps174
 go_wp2
 go_loopw [3,8] (fun l i wr=>∃k:Nat,k<=15/\i=ae aj k/\l=ae aj (lf t k)/\ja wr w.heap.size t/\aR w.heap.size w wr) (fun _ i _=>15-(aP i).toNat)
 case atStart=>exact⟨0,by omega,rfl,rfl,aG w _,gC.alloc fZ _⟩
 case round=>
  obtain⟨k,hk,rfl,rfl,ht,hb⟩:=hrel;have HS:=fX (show lf t (k+1)=2*lf t k-(t (k+1):Int)from rfl);have ad:=Dx HT.out (k:=k) (by omega);obtain⟨l,hl⟩:=fY (lf t k);have HL:=fX hl;rw[<-hl]at ad HS⊢;clear hl;obtain⟨av,aS⟩:=ad;by_cases al:k<15
  ·have c1:=ht.cell (show 1+k<16 by omega);have hm:=HT.out (1+k);have H1:=fX ht;have HB:=fX hb
   clear ht hb;go_wp2;go_roundw
   case rel=>exact⟨k+1,by omega,by go_num,kJ (by rw[HS.out,Nat.add_comm 1 k]),H1.out,HB.out⟩
   case measure=>simp[aP];omega
  ·obtain rfl:k=15:=by omega
   have HB:=fX hb;clear ht hb al hk;go_wp2;go_ret;exact⟨nj (by rw[HL.out]),HB.out⟩
theorem DF{P:az}{ops:Array aA}{rest:List aA}{o:aA}{a:Act}{w:aq}{Q:Exit->Act->aq->Prop}(hw:Region.wanted o (yielded ops a.tmps)=true)
  (h:∀K:Act->aq->Prop,(∀a w,wpList P ops Q rest a w->K a w)->o.wp P a w K Q):wpList P ops Q (o::rest) a w:=
 wpList_step fun K hK=>by rw[if_pos hw];exact h K hK
theorem sV{P:az}{ops:Array aA}{rest:List aA}{o:aA}{a:Act}{w:aq}{Q:Exit->Act->aq->Prop}(hw:Region.wanted o (yielded ops a.tmps)=true)(ty:aB)(x:Operand)(ho:o.op=.load ty x)
  (g:Nat) (hx:a.eval x=ag (some ⟨g,0,none⟩)) (t:aB) (cs:Array ax) (fr:Nat×Nat) (d:TypeDesc) (hg:w.heap[g]?=some (ak cs t fr))
  (hu:P.underlying ty=some d) (hd:(match d with| .struct _| .array _ _=>true|_=>false)=true) (hi:(P.info? ty).map (·.size)=some cs.size)
  (h:wpList P ops Q rest (a.put o.dst (ah cs)) w):wpList P ops Q (o::rest) a w:=
 DF hw fun _ hK=>wp_load_row ty x ho g hx t cs fr d hg hu hd hi (hK _ _ h)
theorem yv{P:az}{ops:Array aA}{rest:List aA}{o:aA}{a:Act}{w:aq}{Q:Exit->Act->aq->Prop}(hw:Region.wanted o (yielded ops a.tmps)=true)(ty:aB)(x y:Operand)(ho:o.op=.binOp .neq ty x y ty)
  (u v:ax) (b:Bool) (hx:a.eval x=u) (hy:a.eval y=v) (hg:(eqGuard .neq ty x y u v).run P w=.ok () w) (ad:(binOp .neq ty u v).run P w=.ok (ai b) w)
  (h:wpList P ops Q rest (a.put o.dst (ai b)) w):wpList P ops Q (o::rest) a w:=
 DF hw fun K hK=>by
  unfold Oper.wp execOp;simp only[ho,hx,hy];simp[ad,hg,Sem.run_bind];exact hK _ _ h
theorem yw(w:aq)(x y:Operand)(u v:Array ax):(eqGuard .neq 211 x y (ah u) (ah v)).run prog w=.ok () w:=by
 have h:prog.eqGuardType prog.depth 211=false:=by kernel_rfl
 unfold eqGuard;simp[Sem.run_bind,h]
def mI(t g:Nat->Nat):Bool:=(List.range 16).all fun m=>t m==g m
theorem vE(t g:Nat->Nat):mI t g=true↔∀m,m<16->t m=g m:=by simp[mI]
theorem KJ{P:az}(w:aq){t e:aB}{n:Nat}{q:IntKind}(ht:P.underlying t=some (.array n e))(he:P.underlying e=some (.int q))(ad:P.cellsOf e=1)(hi:(P.info? e).isSome=true)
  (xs ys:Array ax) (f g:Nat->Int) (hx:∀i,i<n->xs[i]?=some (ae q (f i))) (hy:∀i,i<n->ys[i]?=some (ae q (g i))):
  (binOp .neq t (ah xs) (ah ys)).run P w=.ok (ai (!decide (∀i,i<n->f i=g i))) w:=by
 obtain⟨i,hi⟩:=Option.isSome_iff_exists.1 hi
 have h:=run_equalIn_array (P:=P) w 9999 xs ys ht hi
 rw[ad,Dt w 9998 he xs ys f g (List.range n) (fun i hi=>by have:=List.mem_range.1 hi;exact⟨hx i this,hy i this⟩)]at h
 have e:(binOp .neq t (ah xs) (ah ys)).run P w=((Op.equal t (ah xs) (ah ys)).run P w).andThen fun b w'=>.ok (ai (!b)) w':=by
  unfold binOp;simp
 rw[e]
 unfold Op.equal Op.maxDepth
 rw[h]
 simp
theorem DG(w:aq)(t g:Nat->Nat):(binOp .neq 211 (ah (ia t)) (ah (ia g))).run prog w=.ok (ai (!mI t g)) w:=by
 rw[KJ (P:=prog) w (n:=16) (q:=aj) underlying211 underlying3 (by kernel_rfl) (by kernel_rfl) (ia t) (ia g) (fun i=>(t i:Int)) (fun i=>(g i:Int)) (fun i hi=>by rw[rW,if_pos hi]) (fun i hi=>by rw[rW,if_pos hi])];have:(∀i,i<16->(t i:Int)=(g i:Int))↔mI t g=true:=⟨fun h=>(vE t g).2 fun m hm=>by have:=h m hm;omega,fun h m hm=>by have:=(vE t g).1 h m hm;omega⟩;simp only[this];cases mI t g<;>rfl
theorem KL(w:aq)(t:Nat->Nat)(ht:∀m,t m<=1000)(h:lf t 15<0):
  aw prog 161 #[ah (ia t)] w fun e w'=>e=ao (ae aj 30)/\aR w.heap.size w w':=by
 have HT:=fX ht
 clear ht
 obtain⟨l,hl⟩:=fY (lf t 15)
 have HL:=fX hl
 rw[<-hl]at h
 clear hl
 go_enter func161,ntmps161
 have h1:ja (w.alloc (ak (ia t) 211)) w.heap.size t:=aG w _
 have H1:=fX h1
 have HB:=fX ((Below.refl w.heap.size w).alloc fZ (ak (ia t) 211))
 clear h1
 go_wp2_with (first
  |(refine aE rfl _ _ rfl w.heap.size rfl _ (ia t) (0,0) _ H1.out underlying211 rfl (by rw[nc];exact pD) ?_)
  |(go_at_call 174;refine(vD _ t HT.out).mono ?_;rintro e w' ⟨rfl,hb⟩;rw[<-HL.out];have ad:=fX (HB.out.trans (hb.mono (by simp)));clear hb))
 go_ret
 exact⟨rfl,ad.out⟩
theorem KM(w:aq)(t:Nat->Nat)(ht:∀m,t m<=1000)(h:lf t 15=0):
  aw prog 161 #[ah (ia t)] w fun e w'=>e=ao (ae aj 0)/\aR w.heap.size w w':=by
 have HT:=fX ht
 clear ht
 have HL:=fX h
 clear h
 go_enter func161,ntmps161
 have h1:ja (w.alloc (ak (ia t) 211)) w.heap.size t:=aG w _
 have H1:=fX h1
 have HB:=fX ((Below.refl w.heap.size w).alloc fZ (ak (ia t) 211))
 clear h1
 go_wp2_with (first
  |(refine aE rfl _ _ rfl w.heap.size rfl _ (ia t) (0,0) _ H1.out underlying211 rfl (by rw[nc];exact pD) ?_)
  |(go_at_call 174;refine(vD _ t HT.out).mono ?_;rintro e w' ⟨rfl,hb⟩;rw[HL.out];have ad:=fX (HB.out.trans (hb.mono (by simp)));clear hb))
 go_ret
 exact⟨rfl,ad.out⟩
def tP(z o:Bool):Int:=if z=false/\o=false then 31 else 0
theorem KN(w:aq)(t:Nat->Nat)(ht:∀m,t m<=1000)(h:0<lf t 15):
  aw prog 161 #[ah (ia t)] w fun e w'=>e=ao (ae aj (tP (mI t lp) (mI t pC)))/\aR w.heap.size w w':=by
 have HT:=fX ht
 have aT:=Dx ht (Nat.le_refl 15)
 obtain⟨av,aS⟩:=aT
 clear ht
 obtain⟨l,hl⟩:=fY (lf t 15)
 have HL:=fX hl
 rw[<-hl]at h av aS
 clear hl
 have Q0:=fX fun u:aq=>DG u t lp
 have Q1:=fX fun u:aq=>DG u t pC
 have hd:decide (l<0)=false:=by simp;omega
 cases hz:mI t lp
 ·rw[hz]at Q0;cases ho:mI t pC
  all_goals
   rw[ho]at Q1
   clear hz ho
   go_enter func161,ntmps161
   have h1:ja (w.alloc (ak (ia t) 211)) w.heap.size t:=aG w _
   have H1:=fX h1
   have HB:=fX ((Below.refl w.heap.size w).alloc fZ (ak (ia t) 211))
   clear h1
   go_wp2_with (refine aE rfl _ _ rfl w.heap.size rfl _ (ia t) (0,0) _ H1.out underlying211 rfl (by rw[nc];exact pD) ?_)
   refine(vD _ t HT.out).mono ?_
   rintro e w' ⟨rfl,hb⟩
   rw[<-HL.out]
   have ad:=fX (HB.out.trans (hb.mono (by simp)))
   have al:=fX (H1.out.below hb (by simp))
   clear hb
   go_wp2_with (first
    |(refine sV (by rfl) _ _ rfl w.heap.size rfl _ (ia t) (0,0) _ al.out underlying211 rfl (by rw[nc];exact pD) ?_)
    |(refine yv (by rfl) _ _ _ rfl (ah (ia t)) (ah (ia lp)) _ rfl rfl (yw _ _ _ _ _) (Q0.out _) ?_)
    |(refine yv (by rfl) _ _ _ rfl (ah (ia t)) (ah (ia pC)) _ rfl rfl (yw _ _ _ _ _) (Q1.out _) ?_))
   go_ret
   exact⟨rfl,ad.out⟩
 ·rw[hz]at Q0;clear hz Q1;have he:tP true (mI t pC)=0:=by unfold tP;rw[if_neg (by simp)]
  rw[he];clear he;go_enter func161,ntmps161
  have h1:ja (w.alloc (ak (ia t) 211)) w.heap.size t:=aG w _;have H1:=fX h1;have HB:=fX ((Below.refl w.heap.size w).alloc fZ (ak (ia t) 211));clear h1;go_wp2_with (refine aE rfl _ _ rfl w.heap.size rfl _ (ia t) (0,0) _ H1.out underlying211 rfl (by rw[nc];exact pD) ?_)
  refine(vD _ t HT.out).mono ?_;rintro e w' ⟨rfl,hb⟩;rw[<-HL.out];have ad:=fX (HB.out.trans (hb.mono (by simp)));have al:=fX (H1.out.below hb (by simp));clear hb;go_wp2_with (first
   |(refine sV (by rfl) _ _ rfl w.heap.size rfl _ (ia t) (0,0) _ al.out underlying211 rfl (by rw[nc];exact pD) ?_)
   |(refine yv (by rfl) _ _ _ rfl (ah (ia t)) (ah (ia lp)) _ rfl rfl (yw _ _ _ _ _) (Q0.out _) ?_))
  go_ret;exact⟨rfl,ad.out⟩
theorem KO(w:aq)(f:Nat->Nat)(n:Nat)(hn:n<=1000)(ad:∀j,j<n->f j<=15):
  aw prog 161 #[ah (ia fun m=>tcN f m n)] w fun e w'=>e=ao (ae aj (pS (Pz f n) (kS f n)))/\aR w.heap.size w w':=by
 have ht:∀m,tcN f m n<=1000:=fun m=>Nat.le_trans (vA f m n) hn
 have hl:=Kv ad
 unfold pS
 by_cases h1:32768<Pz f n
 ·rw[if_pos h1];exact KL w _ ht (by omega)
 ·rw[if_neg h1];by_cases h2:Pz f n=32768
  ·rw[if_pos (.inl h2)];exact KM w _ ht (by omega)
  ·have:=KN w _ ht (by omega);have e:tP (mI (fun m=>tcN f m n) lp) (mI (fun m=>tcN f m n) pC)=if Pz f n=32768\/kS f n=0\/(kS f n=1/\Pz f n=16384)then 0 else 31:=by
    have e0:mI (fun m=>tcN f m n) lp=true↔kS f n=0:=(vE _ _).trans (Kw ad);have e1:mI (fun m=>tcN f m n) pC=true↔kS f n=1/\Pz f n=16384:=(vE _ _).trans (Ky ad);unfold tP;simp only[<-e0,<-e1];cases mI (fun m=>tcN f m n) lp<;>cases mI (fun m=>tcN f m n) pC<;>simp[h2]
   rw[e]at this;exact this
theorem KQ(w:aq)(A:Option au)(n c:Nat)(gy:Int)(h:gy<1\/15<gy):
  aw prog 137 #[af A n c,ae aj gy] w fun e w'=>e=ao (ae aj 2)/\w=w':=by
 by_cases h1:gy<1
 ·have hd:decide (gy<1)=true:=by simpa using h1
  clear h;go_enter func137,ntmps137
  go_wp2;go_ret;exact⟨rfl,rfl⟩
 ·have h2:15<gy:=by omega
  have hd:decide (gy<1)=false:=by simpa using h1
  clear h;go_enter func137,ntmps137
  go_wp2;go_ret;exact⟨rfl,rfl⟩
theorem KR(w:aq)(A:Option au)(n c:Nat)(gy:Int)(h1:1<=gy)(h2:gy<=15)(h:320<n):
  aw prog 137 #[af A n c,ae aj gy] w fun e w'=>e=ao (ae aj 4)/\w=w':=by
 have hd:decide (gy<1)=false:=by simp;omega
 have ad:decide (15<gy)=false:=by simp;omega
 go_enter func137,ntmps137
 go_wp2
 go_ret
 exact⟨rfl,rfl⟩
theorem KS(w:aq)(A:Option au)(n c:Nat)(f:Nat->Nat)(gy:Int)(hr:gE w w.heap.size A n f)(h1:1<=gy)(h2:gy<=15)(h:n<=320):
  aw prog 137 #[af A n c,ae aj gy] w fun e w'=>e=ao (ae aj (if pR f n gy=true then 2 else pS (Pz f n) (kS f n)))/\aR w.heap.size w w':=by
 have HR:=fX hr
 clear hr
 have hd:decide (gy<1)=false:=by simp;omega
 have aX:decide (15<gy)=false:=by simp;omega
 have aY:decide ((320:Int)<(n:Int))=false:=by simp;omega
 obtain⟨E,hE⟩:=fY ((if pR f n gy=true then 2 else pS (Pz f n) (kS f n)))
 rw[<-hE]
 have HE:=fX hE
 clear hE
 go_enter func137,ntmps137
 go_wp2
 go_loop [18] (fun i=>∃k:Nat,k<=n/\i=ae aj k/\∀j,j<k->(f j:Int)<=gy) (fun i=>n-(aP i).toNat)
 case atStart=>exact⟨0,Nat.zero_le _,rfl,fun j hj=>absurd hj (by omega)⟩
 case round=>
  obtain⟨k,hk,rfl,av⟩:=hrel;have ad:=fX av;clear av;have hf:=HR.out.1 k;by_cases al:k<n
  ·obtain⟨b,o,rfl,_,hc⟩:=HR.out.2 (by omega);have aU:=hc k al;clear hc;by_cases hb:gy<(f k:Int)
   ·have HB:=fX (Gx al hb);go_wp2;go_ret;exact⟨nj (by rw[HE.out,if_pos HB.out]),Below.refl _ _⟩
   ·go_wp2;refine⟨⟨k+1,al,by go_num,fun j hj=>?_⟩,by simp[aP];omega⟩;rcases Nat.eq_or_lt_of_le (Nat.le_of_lt_succ hj)with e|e
    ·subst e;omega
    ·exact ad.out j e
  ·obtain rfl:k=n:=by omega
   clear hk al;have aS:∀j,j<k->f j<=15:=fun j hj=>by have:=ad.out j hj;omega
   have aT:=fX aS;have aV:=fX (HE.out.trans (by rw[if_neg (by rw[Gw ad.out];decide)]:_=pS (Pz f k) (kS f k)));clear aS;go_wp2_with fail
   refine(DE w A k c f HR.out (by omega) aT.out).mono ?_;rintro e w1 ⟨rfl,hb⟩;have HB:=fX hb;clear hb;go_wp2_with fail
   refine(KO w1 f k (by omega) aT.out).mono ?_;rintro e w2 ⟨rfl,hb⟩;rw[<-aV.out];have aW:=fX (HB.out.trans (hb.mono HB.out.size));clear hb;go_wp2;go_ret;exact⟨rfl,aW.out⟩
theorem yx(a:gF):m7 a a=true:=by unfold m7 sQ qK;simp
theorem KU{hn wn bn:Nat}(h:nF hn wn bn=false):hn<=600/\wn<=300/\bn<=300:=by
 unfold nF at h;simp only[Bool.or_eq_false_iff,decide_eq_false_iff_not]at h;omega
theorem lL{a b c:aq}(h1:aR a.heap.size a b)(h2:aR b.heap.size b c):aR a.heap.size a c:=h1.trans (h2.mono h1.size)
theorem yy{w:aq}{g h:Nat}{cur Y:Array ax}{t:aB}(hh:w.heap[g]?=some (ak cur 5 (0,0)))(hb:gi w h Y t)(ht:(5==t)=false):h≠g:=fun e=>by
 have ad:w.heap[h]?=_:=hb;rw[e,hh]at ad;injection ad with ad
 injection ad with _ h2
 rw[h2]at ht;simp at ht
theorem kz.other{w:aq}{base n g i:Nat}{A:Option au}(h:kz w base A n)(hg:g<base)(v:ax):kz (w.setCell ⟨g,i,none⟩ v) base A n:=fun h0=>by
 obtain⟨g',o',cur,F,h1,h2,h3,h4,h5⟩:=h h0;exact⟨g',o',cur,F,h1,h2,(Below.heap_setCell w _ v g' (by show g'≠g;omega)).trans h3,h4,h5⟩
theorem KV(HF:yp)(HE:yq)(p:gF)(Ah:Option au)(hc:Nat)(Aw:Option au)(wc:Nat)(Ap:Option au)(pc:Nat)(w:aq)(hp:gU w w.heap.size p Ah hc Aw wc Ap pc)(cA:p.gm.length<=140737488355328):
  aw prog 5 #[ah (gI p Ah hc Aw wc Ap pc)] w fun e w'=>e=ao (ai true)/\aR w.heap.size w w':=by
 obtain⟨X,hX⟩:=fY (gI p Ah hc Aw wc Ap pc)
 obtain⟨Z,hZ⟩:=fY (gI (lX 0 0 0 false) none 0 none 0 none 0)
 have hz:=(zero_of_info oC).1
 rw[<-hZ]at hz
 rw[<-hX]
 obtain⟨W0,cb⟩:=fY (w.alloc (ak X 32))
 have cf:aQ (aR w.heap.size w W0):=fX (by rw[cb];exact gC.alloc fZ _)
 have ad:aQ (gi W0 (w.heap.size) X 32):=fX (by rw[cb];exact gi.new w _ _)
 have dw:=fX cb;have bF:aQ (X.size=9):=fX (by rw[hX];rfl);have bO:aQ (Z.size=9):=fX (by rw[hZ];rfl);have eO:=fX hX
 have eP:aQ (∀V,aR w.heap.size w V->gU V V.heap.size p Ah hc Aw wc Ap pc):=fX fun V hV=>hp.on hV
 have cB:aQ (∀V:aq,aw prog 17 #[ah X,af none 0 0] V fun e w'=>e=ao (ai (nF p.hist.length p.wait.length 0))/\aR V.heap.size V w'):=fX fun V=>by rw[hX];exact Kh V p Ah hc Aw wc Ap pc none 0 0
 have cC:aQ (p.hist.length<=1000000/\p.wait.length<=1000000->∀V,aR w.heap.size w V->aw prog 18 #[ah X] V fun e w'=>∃dx dy dz dA dB dC,e=ao (ah (gI p dx dy dz dA dB dC))/\gU w' w'.heap.size p dx dy dz dA dB dC/\aR V.heap.size V w'):=fX fun hl V hV=>by rw[hX];exact xZ V p Ah hc Aw wc Ap pc (hp.on hV) ⟨hl.1,hl.2,cA⟩
 have fq:=fX HF;have fr:=fX HE
 obtain⟨E,hE⟩:=fY (jN p)
 obtain⟨RF,cJ⟩:=fY (kO E (jA p))
 obtain⟨RE,cK⟩:=fY (kO E (iK p))
 have eQ:aQ (∀V,aR w.heap.size w V->aw prog 25 #[ah X] V fun e w'=>vy V w' e RF E):=fX fun V hV=>by rw[cJ,hE,hX];exact Kd V p Ah hc Aw wc Ap pc (hp.on hV)
 have eR:aQ (∀V,aR w.heap.size w V->aw prog 26 #[ah X] V fun e w'=>vy V w' e RE E):=fX fun V hV=>by rw[cK,hE,hX];exact Ke V p Ah hc Aw wc Ap pc (hp.on hV)
 have dD:aQ (p.hist.length<=1000000/\p.wait.length<=1000000->∀V A1 k1 A2 k2 A3 k3,gU V V.heap.size p A1 k1 A2 k2 A3 k3->aw prog 13 #[ah (gI p A1 k1 A2 k2 A3 k3)] V fun e w'=>oF V w' e RF E):=fX fun hl V A1 k1 A2 k2 A3 k3 h=>by rw[cJ,hE];exact HF V p A1 k1 A2 k2 A3 k3 h hl.1 hl.2
 have dE:aQ (p.hist.length<=1000000/\p.wait.length<=1000000->∀V A1 k1 A2 k2 A3 k3,gU V V.heap.size p A1 k1 A2 k2 A3 k3->aw prog 14 #[ah (gI p A1 k1 A2 k2 A3 k3)] V fun e w'=>oF V w' e RE E):=fX fun hl V A1 k1 A2 k2 A3 k3 h=>by rw[cK,hE];exact HE V p A1 k1 A2 k2 A3 k3 h hl.1 hl.2
 clear HF HE hp hX hZ cb hE cJ cK cA
 cases hg:nF p.hist.length p.wait.length 0 with
 |true=>
  have cL:aQ (∀V:aq,aw prog 17 #[ah X,af none 0 0] V fun e w'=>e=ao (ai true)/\aR V.heap.size V w'):=fX (hg▸cB.out);clear hg;go_enter func5,ntmps5
  go_wp2_with (first
   |(rw[<-dw.out];refine aE rfl _ _ rfl (w.heap.size) rfl _ X (0,0) _ ad.out underlying32 rfl (by rw[bF.out];exact gM) ?_)
   |fail)
  refine(cL.out W0).mono ?_;rintro e W1 ⟨rfl,aY⟩;have dF:=fX aY;have bP:aQ (aR w.heap.size w W1):=fX (cf.out.trans (aY.mono cf.out.size));have al:aQ (gi W1 (w.heap.size) X 32):=fX (ad.out.below aY ad.out.lt);clear aY;go_wp2;go_ret;exact⟨rfl,bP.out⟩
 |false=>
  have cL:aQ (∀V:aq,aw prog 17 #[ah X,af none 0 0] V fun e w'=>e=ao (ai false)/\aR V.heap.size V w'):=fX (hg▸cB.out);obtain⟨eS,eT,_⟩:=KU hg;have hl:p.hist.length<=1000000/\p.wait.length<=1000000:=⟨by omega,by omega⟩;have eU:=fX (cC.out hl);have dG:=fX (dD.out hl);have dH:=fX (dE.out hl)
  obtain⟨nf,dI⟩:=fY (RF.2.length);obtain⟨ne,dJ⟩:=fY (RE.2.length);obtain⟨hx,dK⟩:=fY (RF.1.hist.length);obtain⟨hu,dL⟩:=fY (RE.1.hist.length);have cM:=fX dI;have cN:=fX dJ;have cg:=fX dK;have cO:=fX dL
  clear hg eS eT hl cC dD dE dI dJ dK dL;go_enter func5,ntmps5
  go_wp2_with (first
   |(rw[<-dw.out];refine aE rfl _ _ rfl (w.heap.size) rfl _ X (0,0) _ ad.out underlying32 rfl (by rw[bF.out];exact gM) ?_)
   |fail)
  refine(cL.out W0).mono ?_;rintro e W1 ⟨rfl,aY⟩;have dF:=fX aY;have bP:aQ (aR w.heap.size w W1):=fX (cf.out.trans (aY.mono cf.out.size));have al:aQ (gi W1 (w.heap.size) X 32):=fX (ad.out.below aY ad.out.lt);clear aY;go_wp2_with (first
   |(refine aE rfl _ _ rfl (w.heap.size) rfl _ X (0,0) _ al.out underlying32 rfl (by rw[bF.out];exact gM) ?_)
   |fail)
  refine(eU.out W1 bP.out).mono ?_;rintro e w2 ⟨bQ,bR,bS,bT,bU,bV,rfl,r2,ch⟩;obtain⟨Y2,bW⟩:=fY (gI p bQ bR bS bT bU bV);have a9:aQ (Y2.size=9):=fX (by rw[bW];rfl);have dM:aQ (Y2.all (·.oneCell')=true):=fX (by rw[bW];exact lu ..);have bX:=fX bW;obtain⟨W2,cj⟩:=fY (iq w2 Z Y2 32);have av:aQ (gi W2 w2.heap.size Y2 32):=fX (by rw[cj];exact kY _ _ _ _);have cP:aR w2.heap.size w2 W2:=by rw[cj];exact kN _ _ _ _
  have ck:aR W1.heap.size W1 W2:=ch.trans (cP.mono ch.size);have dN:=fX ck;have fk:aQ (W1.heap.size<=w2.heap.size/\w2.heap.size<W2.heap.size):=fX ⟨ch.size,av.out.lt⟩;have bG:aQ (aR w.heap.size w W2):=fX (bP.out.trans (ck.mono bP.out.size));have cQ:aQ (gU W2 W2.heap.size p bQ bR bS bT bU bV):=fX (r2.on cP);have bn:aQ (gi W2 (w.heap.size) X 32):=fX (al.out.below ck al.out.lt);have eV:=fX cj;rw[<-bW];clear cj ch r2 cP ck bW;have cR:=dG.out W2 bQ bR bS bT bU bV cQ.out;rw[<-bX.out]at cR;have eW:=fX cR;clear cR;go_wp2_with (first
   |(refine aC rfl _ _ _ rfl rfl w2.heap.size Y2 rfl rfl 32 Z (aG w2 _) (by rw[a9.out];exact gM) (by rw[bO.out,a9.out]) dM.out ?_;rw[show(w2.alloc (ak Z 32)).setRow w2.heap.size Y2=iq w2 Z Y2 32 from rfl,<-eV.out])
   |(refine aE rfl _ _ rfl (w2.heap.size) rfl _ Y2 (0,0) _ av.out underlying32 rfl (by rw[a9.out];exact gM) ?_)
   |fail)
  refine eW.out.mono ?_;rintro e w3 ⟨aV,bH,cS,cT,cU,cV,eX,dO,rfl,r3,dP,cl,dQ,-⟩;obtain⟨Y3,bY⟩:=fY (gI RF.1 aV bH cS cT cU cV);have bZ:aQ (Y3.size=9):=fX (by rw[bY];rfl);have dR:aQ (Y3.all (·.oneCell')=true):=fX (by rw[bY];exact lu ..);have cD:=fX bY;obtain⟨W3,cm⟩:=fY (iq w3 Z Y3 32);have aZ:aQ (gi W3 w3.heap.size Y3 32):=fX (by rw[cm];exact kY _ _ _ _);have bI:aR w3.heap.size w3 W3:=by rw[cm];exact kN _ _ _ _
  have b0:aR W2.heap.size W2 W3:=cl.trans (bI.mono cl.size);have cE:=fX b0;have cF:aQ (W2.heap.size<=w3.heap.size/\w3.heap.size<W3.heap.size):=fX ⟨cl.size,aZ.out.lt⟩;have cW:aQ (aR w.heap.size w W3):=fX (bG.out.trans (b0.mono bG.out.size));have cX:aQ (gU W3 W3.heap.size RF.1 aV bH cS cT cU cV):=fX (r3.on bI);have dS:aQ (gu W3 W3.heap.size eX RF.2.length dO (gj RF.2)):=fX ((dP.below bI fZ).more bI.size);have dT:aQ (kz W3 W2.heap.size aV RF.1.hist.length):=fX ((kz.of dQ r3.hist.1).below bI fZ);have dU:aQ (∀g o,0<RF.1.hist.length->aV=some ⟨g,o,none⟩->g<w3.heap.size):=fX fun g o h0 e=>by
   obtain⟨b,o',e2,hb,_⟩:=r3.hist.1.2 h0;rw[e2]at e;injection e with e;injection e with e1 _ _;omega
  have a1:aQ (gi W3 (w.heap.size) X 32):=fX (bn.out.below b0 bn.out.lt);have bp:aQ (gi W3 (w2.heap.size) Y2 32):=fX (av.out.below b0 av.out.lt);have eY:=fX cm;rw[<-bY,<-cM.out];clear cm cl r3 dP dQ bI b0 bY;go_wp2_with (first
   |(refine aC rfl _ _ _ rfl rfl w3.heap.size Y3 rfl rfl 32 Z (aG w3 _) (by rw[bZ.out];exact gM) (by rw[bO.out,bZ.out]) dR.out ?_;rw[show(w3.alloc (ak Z 32)).setRow w3.heap.size Y3=iq w3 Z Y3 32 from rfl,<-eY.out])
   |(refine aE rfl _ _ rfl (w.heap.size) rfl _ X (0,0) _ a1.out underlying32 rfl (by rw[bF.out];exact gM) ?_)
   |fail)
  refine(eQ.out W3 cW.out).mono ?_;rintro e w4 ⟨cY,cZ,c7,c8,c9,da,eZ,dV,rfl,r4,dW,cn⟩;obtain⟨Y4,b1⟩:=fY (gI RF.1 cY cZ c7 c8 c9 da);have b2:aQ (Y4.size=9):=fX (by rw[b1];rfl);have dX:aQ (Y4.all (·.oneCell')=true):=fX (by rw[b1];exact lu ..);have dY:=fX b1;obtain⟨W4,cp⟩:=fY (iq w4 Z Y4 32);have a2:aQ (gi W4 w4.heap.size Y4 32):=fX (by rw[cp];exact kY _ _ _ _);have b3:aR w4.heap.size w4 W4:=by rw[cp];exact kN _ _ _ _
  have bJ:aR W3.heap.size W3 W4:=cn.trans (b3.mono cn.size);have bd:=fX bJ;have cG:aQ (W3.heap.size<=w4.heap.size/\w4.heap.size<W4.heap.size):=fX ⟨cn.size,a2.out.lt⟩;have dZ:aQ (aR w.heap.size w W4):=fX (cW.out.trans (bJ.mono cW.out.size));have e0:aQ (gU W4 W4.heap.size RF.1 cY cZ c7 c8 c9 da):=fX (r4.on b3);have ea:aQ (gu W4 W4.heap.size eZ RF.2.length dV (gj RF.2)):=fX ((dW.below b3 fZ).more b3.size);have bq:aQ (gi W4 (w.heap.size) X 32):=fX (a1.out.below bJ a1.out.lt);have a3:aQ (gi W4 (w2.heap.size) Y2 32):=fX (bp.out.below bJ bp.out.lt);have br:aQ (gi W4 (w3.heap.size) Y3 32):=fX (aZ.out.below bJ aZ.out.lt);have e3:=fX cp;rw[<-b1,<-cM.out];clear cp cn r4 dW b3 bJ b1;have db:=dH.out W4 bQ bR bS bT bU bV ((cQ.out.on cE.out).on bd.out);rw[<-bX.out]at db;have e4:=fX db;clear db;go_wp2_with (first
   |(refine aC rfl _ _ _ rfl rfl w4.heap.size Y4 rfl rfl 32 Z (aG w4 _) (by rw[b2.out];exact gM) (by rw[bO.out,b2.out]) dX.out ?_;rw[show(w4.alloc (ak Z 32)).setRow w4.heap.size Y4=iq w4 Z Y4 32 from rfl,<-e3.out])
   |(refine aE rfl _ _ rfl (w2.heap.size) rfl _ Y2 (0,0) _ a3.out underlying32 rfl (by rw[a9.out];exact gM) ?_)
   |fail)
  refine e4.out.mono ?_;rintro e w5 ⟨aU,bK,dc,dd,de,df,e5,eb,rfl,r5,ec,cq,ed,-⟩;obtain⟨Y5,b4⟩:=fY (gI RE.1 aU bK dc dd de df);have b5:aQ (Y5.size=9):=fX (by rw[b4];rfl);have ef:aQ (Y5.all (·.oneCell')=true):=fX (by rw[b4];exact lu ..);have cH:=fX b4;obtain⟨W5,cr⟩:=fY (iq w5 Z Y5 32);have a4:aQ (gi W5 w5.heap.size Y5 32):=fX (by rw[cr];exact kY _ _ _ _);have bL:aR w5.heap.size w5 W5:=by rw[cr];exact kN _ _ _ _
  have bl:aR W4.heap.size W4 W5:=cq.trans (bL.mono cq.size);have aX:=fX bl;have fl:aQ (W4.heap.size<=w5.heap.size/\w5.heap.size<W5.heap.size):=fX ⟨cq.size,a4.out.lt⟩;have dg:aQ (aR w.heap.size w W5):=fX (dZ.out.trans (bl.mono dZ.out.size));have dh:aQ (gU W5 W5.heap.size RE.1 aU bK dc dd de df):=fX (r5.on bL);have eg:aQ (gu W5 W5.heap.size e5 RE.2.length eb (gj RE.2)):=fX ((ec.below bL fZ).more bL.size);have eh:aQ (kz W5 W4.heap.size aU RE.1.hist.length):=fX ((kz.of ed r5.hist.1).below bL fZ);have fm:aQ (∀g o,0<RE.1.hist.length->aU=some ⟨g,o,none⟩->g<w5.heap.size):=fX fun g o h0 e=>by
   obtain⟨b,o',e2,hb,_⟩:=r5.hist.1.2 h0;rw[e2]at e;injection e with e;injection e with e1 _ _;omega
  have a5:aQ (gi W5 (w.heap.size) X 32):=fX (bq.out.below bl bq.out.lt);have bt:aQ (gi W5 (w2.heap.size) Y2 32):=fX (a3.out.below bl a3.out.lt);have bu:aQ (gi W5 (w3.heap.size) Y3 32):=fX (br.out.below bl br.out.lt);have bx:aQ (gi W5 (w4.heap.size) Y4 32):=fX (a2.out.below bl a2.out.lt);have e6:=fX cr;rw[<-b4,<-cN.out];clear cr cq r5 ec ed bL bl b4;go_wp2_with (first
   |(refine aC rfl _ _ _ rfl rfl w5.heap.size Y5 rfl rfl 32 Z (aG w5 _) (by rw[b5.out];exact gM) (by rw[bO.out,b5.out]) ef.out ?_;rw[show(w5.alloc (ak Z 32)).setRow w5.heap.size Y5=iq w5 Z Y5 32 from rfl,<-e6.out])
   |(refine aE rfl _ _ rfl (w.heap.size) rfl _ X (0,0) _ a5.out underlying32 rfl (by rw[bF.out];exact gM) ?_)
   |fail)
  refine(eR.out W5 dg.out).mono ?_;rintro e w6 ⟨di,dj,dk,dm,dn,dp,e7,ei,rfl,r6,ej,ct⟩;obtain⟨Y6,b6⟩:=fY (gI RE.1 di dj dk dm dn dp);have b7:aQ (Y6.size=9):=fX (by rw[b6];rfl);have ek:aQ (Y6.all (·.oneCell')=true):=fX (by rw[b6];exact lu ..);have en:=fX b6;obtain⟨W6,cu⟩:=fY (iq w6 Z Y6 32);have a6:aQ (gi W6 w6.heap.size Y6 32):=fX (by rw[cu];exact kY _ _ _ _);have b8:aR w6.heap.size w6 W6:=by rw[cu];exact kN _ _ _ _
  have bf:aR W5.heap.size W5 W6:=ct.trans (b8.mono ct.size);have aS:=fX bf;have fp:aQ (W5.heap.size<=w6.heap.size/\w6.heap.size<W6.heap.size):=fX ⟨ct.size,a6.out.lt⟩;have eo:aQ (aR w.heap.size w W6):=fX (dg.out.trans (bf.mono dg.out.size));have e8:aQ (gU W6 W6.heap.size RE.1 di dj dk dm dn dp):=fX (r6.on b8);have ep:aQ (gu W6 W6.heap.size e7 RE.2.length ei (gj RE.2)):=fX ((ej.below b8 fZ).more b8.size);have bz:aQ (gi W6 (w.heap.size) X 32):=fX (a5.out.below bf a5.out.lt);have bA:aQ (gi W6 (w2.heap.size) Y2 32):=fX (bt.out.below bf bt.out.lt);have a7:aQ (gi W6 (w3.heap.size) Y3 32):=fX (bu.out.below bf bu.out.lt);have cv:aQ (gi W6 (w4.heap.size) Y4 32):=fX (bx.out.below bf bx.out.lt);have bB:aQ (gi W6 (w5.heap.size) Y5 32):=fX (a4.out.below bf a4.out.lt);have e9:=fX cu;rw[<-b6,<-cN.out];clear cu ct r6 ej b8 bf b6;have er:=((cX.out.on bd.out).on aX.out).on aS.out;have et:=(e0.out.on aX.out).on aS.out;have dq:=yo W6 RF.1 RF.1 aV bH cS cT cU cV cY cZ c7 c8 c9 da er et;rw[yx,<-cD.out,<-dY.out]at dq;have fa:=fX dq;clear er et dq;go_wp2_with (first
   |(refine aC rfl _ _ _ rfl rfl w6.heap.size Y6 rfl rfl 32 Z (aG w6 _) (by rw[b7.out];exact gM) (by rw[bO.out,b7.out]) ek.out ?_;rw[show(w6.alloc (ak Z 32)).setRow w6.heap.size Y6=iq w6 Z Y6 32 from rfl,<-e9.out])
   |(refine aE rfl _ _ rfl (w3.heap.size) rfl _ Y3 (0,0) _ a7.out underlying32 rfl (by rw[bZ.out];exact gM) ?_)
   |(refine aE rfl _ _ rfl (w4.heap.size) rfl _ Y4 (0,0) _ cv.out underlying32 rfl (by rw[b2.out];exact gM) ?_)
   |fail)
  refine fa.out.mono ?_;rintro e W7 ⟨rfl,bg⟩;have aT:=fX bg;have eu:aQ (aR w.heap.size w W7):=fX (eo.out.trans (bg.mono eo.out.size));have bC:aQ (gi W7 (w.heap.size) X 32):=fX (bz.out.below bg bz.out.lt);have bD:aQ (gi W7 (w2.heap.size) Y2 32):=fX (bA.out.below bg bA.out.lt);have bE:aQ (gi W7 (w3.heap.size) Y3 32):=fX (a7.out.below bg a7.out.lt);have a8:aQ (gi W7 (w5.heap.size) Y5 32):=fX (bB.out.below bg bB.out.lt);have cw:aQ (gi W7 (w6.heap.size) Y6 32):=fX (a6.out.below bg a6.out.lt);clear bg;have ev:=(dh.out.on aS.out).on aT.out;have ew:=e8.out.on aT.out;have dr:=yo W7 RE.1 RE.1 aU bK dc dd de df di dj dk dm dn dp ev ew;rw[yx,<-cH.out,<-en.out]at dr;have fb:=fX dr;have t1:=od (dS.out.below (lL (lL (lL bd.out aX.out) aS.out) aT.out) fZ).1 dO;have t2:=od (ea.out.below (lL (lL aX.out aS.out) aT.out) fZ).1 dV;rw[<-cM.out]at t1 t2;obtain⟨ZF,ey⟩:=fY (ll nf (gj RF.2));rw[<-ey]at t1 t2;have ez:(E==E)=true:=by simp
  clear ev ew dr ey;go_wp2_with (first
   |(refine sV (by rfl) _ _ rfl (w5.heap.size) rfl _ Y5 (0,0) _ a8.out underlying32 rfl (by rw[b5.out];exact gM) ?_)
   |(refine sV (by rfl) _ _ rfl (w6.heap.size) rfl _ Y6 (0,0) _ cw.out underlying32 rfl (by rw[b7.out];exact gM) ?_)
   |fail)
  refine fb.out.mono ?_;rintro e W8 ⟨rfl,bm⟩;have bj:=fX bm;have ft:aQ (aR w.heap.size w W8):=fX (eu.out.trans (bm.mono eu.out.size));have eM:aQ (gi W8 (w.heap.size) X 32):=fX (bC.out.below bm bC.out.lt);have eN:aQ (gi W8 (w2.heap.size) Y2 32):=fX (bD.out.below bm bD.out.lt);have cx:aQ (gi W8 (w3.heap.size) Y3 32):=fX (bE.out.below bm bE.out.lt);have cy:aQ (gi W8 (w5.heap.size) Y5 32):=fX (a8.out.below bm a8.out.lt);clear bm;have t3:=od (eg.out.below (lL (lL aS.out aT.out) bj.out) fZ).1 eb;have t4:=od (ep.out.below (lL aT.out bj.out) fZ).1 ei;rw[<-cN.out]at t3 t4;obtain⟨ZE,eA⟩:=fY (ll ne (gj RE.2));rw[<-eA]at t3 t4;clear t1 t2 eA;have eB:aQ (kz W8 W2.heap.size aV hx):=fX (by rw[cg.out];exact dT.out.below (lL (lL (lL (lL bd.out aX.out) aS.out) aT.out) bj.out) fZ);have eC:aQ (kz W8 W4.heap.size aU hu):=fX (by rw[cO.out];exact eh.out.below (lL (lL aS.out aT.out) bj.out) fZ);have fc:aQ (∀g o,0<hx->aV=some ⟨g,o,none⟩->g<W4.heap.size):=fX fun g o h0 e=>by have:=dU.out g o (by rw[<-cg.out];exact h0) e;have:=cF.out;have:=cG.out;omega
  have eD:aQ (aR W2.heap.size W2 W8):=fX (lL (lL (lL (lL (lL cE.out bd.out) aX.out) aS.out) aT.out) bj.out);have fe:aQ (Y3[4]?=some (af aV hx bH)):=fX (by rw[cD.out,cg.out];rfl);have ff:aQ (Y5[4]?=some (af aU hu bK)):=fX (by rw[cH.out,cO.out];rfl);have fu:hx<=9223372036854775807:=by have h1:=cX.out.hist.2.2.1;have h2:=cX.out.hist.2.2.2;unfold maxLen at h2;rw[cg.out];omega
  have fv:hu<=9223372036854775807:=by have h1:=dh.out.hist.2.2.1;have h2:=dh.out.hist.2.2.2;unfold maxLen at h2;rw[cO.out];omega
  have fg:aQ (∀V,aR W2.heap.size W2 V->aw prog 22 #[ah Y2,ah X] V fun e w'=>e=ao (ai true)/\aR V.heap.size V w'):=fX fun V hV=>by
   have h1:=yo V p p bQ bR bS bT bU bV Ah hc Aw wc Ap pc (cQ.out.on hV) (eP.out V (bG.out.trans (hV.mono bG.out.size)));rw[yx,<-bX.out,<-eO.out]at h1;exact h1
  go_wp2;clear ez t3 t4;go_loopw [17] (fun jv wr=>∃j:Nat,j<=hx/\jv=ae aj (j:Int)/\aQ (aR W2.heap.size W2 wr)/\aQ (kz wr W2.heap.size aV hx)/\aQ (kz wr W4.heap.size aU hu)/\aQ (gi wr w3.heap.size Y3 32)/\aQ (gi wr w5.heap.size Y5 32)) (fun jv _=>hx-(aP jv).toNat)
  case atStart=>exact⟨0,Nat.zero_le _,rfl,eD,eB,eC,cx,cy⟩
  case round=>
   obtain⟨j,hj,rfl,HB,dt,bM,cz,bk⟩:=hrel;have kp:wr.cell? ⟨w3.heap.size,4,none⟩=some (af aV hx bH):=cz.out.cell.trans fe.out;by_cases bN:j<hx
   ·have cI:(j:Int)<(hx:Int):=by omega
    obtain⟨g,o,cur,F',aW,hg,hh,hF,b9⟩:=dt.out (by omega);have eE:=fc.out g o (by omega) aW;rw[aW]at kp;have c1:wr.cell? ⟨g,o+j,none⟩=some (ae .u8 (F' j:Int)):=by rw[aH wr g _ _ _ (0,0) hh];exact b9 j bN
    have f1:wr.frozen? ⟨g,o+j,none⟩=false:=aO wr g _ _ _ hh;have n3:=yy hh cz.out (by rfl);have n5:=yy hh bk.out (by rfl);have du:=hF j;obtain⟨u,ca⟩:=fY (F' j);rw[<-ca]at c1 du;obtain⟨x,dv⟩:=fY ((u+1)%256);have fh:IntKind.u8.wrap ((u:Int)+1)=(x:Int):=by rw[IntKind.wrap_u8];omega
    have S1:aQ (kz (wr.drew.setCell ⟨g,o+j,none⟩ (ae .u8 (x:Int))) W2.heap.size aV hx):=fX (by rw[aW];exact kz.set (w:=wr.drew) (by have:=dt.out;rw[aW]at this;exact this) bN x (by omega));have S2:aQ (kz (wr.drew.setCell ⟨g,o+j,none⟩ (ae .u8 (x:Int))) W4.heap.size aU hu):=fX (kz.other (w:=wr.drew) bM.out eE _);have S3:aQ (aR W2.heap.size W2 (wr.drew.setCell ⟨g,o+j,none⟩ (ae .u8 (x:Int)))):=fX (HB.out.drew.setCell (p:=⟨g,o+j,none⟩) hg (ae .u8 (x:Int)));have S4:aQ (gi (wr.drew.setCell ⟨g,o+j,none⟩ (ae .u8 (x:Int))) w3.heap.size Y3 32):=fX (gi.other (w:=wr.drew) cz.out n3 _);have S5:aQ (gi (wr.drew.setCell ⟨g,o+j,none⟩ (ae .u8 (x:Int))) w5.heap.size Y5 32):=fX (gi.other (w:=wr.drew) bk.out n5 _);have kd:wr.drew.cell? ⟨w3.heap.size,4,none⟩=some (af (some ⟨g,o,none⟩) hx bH):=kp;have cd:wr.drew.cell? ⟨g,o+j,none⟩=some (ae .u8 (u:Int)):=c1;have fd:wr.drew.frozen? ⟨g,o+j,none⟩=false:=f1;clear ca dv hh b9 hF n3 n5 eE aW;go_wp2;go_region;all_goals(
     go_wp2;go_roundw
     case rel=>exact⟨j+1,by omega,by go_num,S3,S1,S2,S4,S5⟩
     case measure=>simp[aP];omega)
   ·obtain rfl:j=hx:=by omega
    have cI:¬(j:Int)<(j:Int):=by omega
    clear dt cz;go_wp2;clear kp cI bN;go_loopw [18] (fun jv wr=>∃j:Nat,j<=hu/\jv=ae aj (j:Int)/\aQ (aR W2.heap.size W2 wr)/\aQ (kz wr W4.heap.size aU hu)/\aQ (gi wr w5.heap.size Y5 32)) (fun jv _=>hu-(aP jv).toNat)
    case atStart=>exact⟨0,Nat.zero_le _,rfl,HB,bM,bk⟩
    case round=>
     clear HB bM bk;obtain⟨i,hi,rfl,HB,bM,bk⟩:=hrel;have kp:wr.cell? ⟨w5.heap.size,4,none⟩=some (af aU hu bK):=bk.out.cell.trans ff.out;by_cases bN:i<hu
     ·have eF:(i:Int)<(hu:Int):=by omega
      obtain⟨g,o,cur,F',aW,hg,hh,hF,b9⟩:=bM.out (by omega);rw[aW]at kp;have c1:wr.cell? ⟨g,o+i,none⟩=some (ae .u8 (F' i:Int)):=by rw[aH wr g _ _ _ (0,0) hh];exact b9 i bN
      have f1:wr.frozen? ⟨g,o+i,none⟩=false:=aO wr g _ _ _ hh;have n5:=yy hh bk.out (by rfl);have du:=hF i;obtain⟨u,ca⟩:=fY (F' i);rw[<-ca]at c1 du;obtain⟨x,dv⟩:=fY ((u+1)%256);have fh:IntKind.u8.wrap ((u:Int)+1)=(x:Int):=by rw[IntKind.wrap_u8];omega
      have eG:W2.heap.size<=g:=by have:=cF.out;have:=cG.out;omega
      have S1:aQ (kz (wr.drew.setCell ⟨g,o+i,none⟩ (ae .u8 (x:Int))) W4.heap.size aU hu):=fX (by rw[aW];exact kz.set (w:=wr.drew) (by have:=bM.out;rw[aW]at this;exact this) bN x (by omega));have S3:aQ (aR W2.heap.size W2 (wr.drew.setCell ⟨g,o+i,none⟩ (ae .u8 (x:Int)))):=fX (HB.out.drew.setCell (p:=⟨g,o+i,none⟩) eG (ae .u8 (x:Int)));have S5:aQ (gi (wr.drew.setCell ⟨g,o+i,none⟩ (ae .u8 (x:Int))) w5.heap.size Y5 32):=fX (gi.other (w:=wr.drew) bk.out n5 _);have kd:wr.drew.cell? ⟨w5.heap.size,4,none⟩=some (af (some ⟨g,o,none⟩) hu bK):=kp;have cd:wr.drew.cell? ⟨g,o+i,none⟩=some (ae .u8 (u:Int)):=c1;have fd:wr.drew.frozen? ⟨g,o+i,none⟩=false:=f1;clear ca dv hh b9 hF n5 aW eG;go_wp2;go_region;all_goals(
       go_wp2;go_roundw
       case rel=>exact⟨i+1,by omega,by go_num,S3,S1,S5⟩
       case measure=>simp[aP];omega)
     ·obtain rfl:i=hu:=by omega
      have eF:¬(i:Int)<(i:Int):=by omega
      have eH:=fX (av.out.below HB.out av.out.lt);have eI:=lL dN.out HB.out;have eJ:=fX (al.out.below eI al.out.lt);have fi:=fX (fg.out wr HB.out);have eK:=fX (bG.out.trans (HB.out.mono bG.out.size));clear eI;go_wp2_with (first
       |(refine sV (by rfl) _ _ rfl (w2.heap.size) rfl _ Y2 (0,0) _ eH.out underlying32 rfl (by rw[a9.out];exact gM) ?_)
       |(refine sV (by rfl) _ _ rfl (w.heap.size) rfl _ X (0,0) _ eJ.out underlying32 rfl (by rw[bF.out];exact gM) ?_)
       |fail)
      refine fi.out.mono ?_;rintro e w9 ⟨rfl,eL⟩;have fj:=fX (eK.out.trans (eL.mono eK.out.size));clear eL;go_wp2;go_ret;exact⟨rfl,fj.out⟩
theorem DH(f:Nat->Nat)(d k v:Nat):∀n,PF (fun i=>f (i+d)) k v n=fun j=>PF f (k+8*d) v n (j+d)
 |0=>rfl
 |n+1=>by
  simp only[PF];rw[DH f d k v n];funext j;unfold jQ gL;have e1:(k+8*d+n)/8=(k+n)/8+d:=by omega
  have e2:(k+8*d+n)%8=(k+n)%8:=by omega
  rw[e1,e2];by_cases h:j=(k+n)/8
  ·rw[if_pos h,if_pos (by omega)]
  ·rw[if_neg h,if_neg (by omega)]
theorem DI(d:Nat):∀(P:List (Nat×Nat)) (f:Nat->Nat) (k:Nat),gK (fun i=>f (i+d)) k P=fun j=>gK f (k+8*d) P (j+d)
 |[],_,_=>rfl
 |x::P,f,k=>by
  simp only[gK];rw[DH,DI d P (PF f (k+8*d) x.1 x.2) (k+x.2),show k+x.2+8*d=k+8*d+x.2 by omega]
theorem DJ:∀(P:List (Nat×Nat)) (f:Nat->Nat) (k j:Nat),j<k/8->gK f k P j=f j
 |[],_,_,_,_=>rfl
 |x::P,f,k,j,h=>by
  simp only[gK];rw[DJ P _ (k+x.2) j (by omega),KW f k x.1 x.2 j h]
where
 KW (f:Nat->Nat) (k v:Nat):∀n j,j<k/8->PF f k v n j=f j
 |0,_,_=>rfl
 |n+1,j,h=>by
  simp only[PF];unfold jQ gL;rw[if_neg (by omega)];exact KW f k v n j h
theorem KX(F:Nat->Nat)(L d:Nat):(kD F L).drop d=kD (fun j=>F (j+d)) (L-d):=by
 unfold kD;apply List.ext_getElem?;intro i;rw[List.getElem?_drop,List.getElem?_map,List.getElem?_map];rcases Nat.lt_or_ge i (L-d)with h|h
 ·rw[List.getElem?_range h,List.getElem?_range (by omega),Nat.add_comm];rfl
 ·rw[List.getElem?_eq_none (by simp;omega),List.getElem?_eq_none (by simp;omega)];rfl
theorem KY(F:Nat->Nat){L d:Nat}(h:d<=L):(kD F L).take d=kD F d:=by
 unfold kD;rw[<-List.map_take,List.take_range,Nat.min_eq_left h]
theorem KZ(q:List Nat)(K kind:Nat)(raw:List Nat)(l:List gA)(last:Bool):gT (q.drop (K/8)) (K%8) kind raw l last=((gT q K kind raw l last).1.drop (K/8),(gT q K kind raw l last).2-8*(K/8)):=by
 unfold gT;rw[Nat.mod_mod];obtain⟨P,hP⟩:=fY (gN (K%8) kind raw.length (gj raw) l last);rw[<-hP];have e:gj (q.drop (K/8))=fun i=>gj q (i+K/8):=funext fun j=>rG q _ j
 rw[e,DI,show K%8+8*(K/8)=K by omega];show(_,_)=((kD _ _).drop _,_)
 rw[KX,show(K+Pq P+7)/8-K/8=(K%8+Pq P+7)/8 by omega,show K+Pq P-8*(K/8)=K%8+Pq P by omega]
theorem K7{q:List Nat}{K:Nat}(hq:K/8<=q.length)(kind:Nat)(raw:List Nat)(l:List gA)(last:Bool):(gT q K kind raw l last).1.take (K/8)=q.take (K/8):=by
 show(kD _ _).take _=_
 rw[KY _ (by omega)];have e:q.take (K/8)=kD (gj (q.take (K/8))) (q.take (K/8)).length:=(IT _).symm;rw[e,List.length_take,Nat.min_eq_left hq];unfold kD;refine List.map_congr_left fun j hj=>?_
 have hj:=List.mem_range.1 hj;rw[DJ _ _ _ _ hj,rH q hj]
def jZ(p:gF)(kind n:Nat)(l:List gA)(last:Bool):gF×List Nat:=
 ({(iH p (gT p.gm p.k.toNat kind (p.wait.take n) l last) (p.wait.take n)).1 with wait:=p.wait.drop n},(iH p (gT p.gm p.k.toNat kind (p.wait.take n) l last) (p.wait.take n)).2)
theorem qM{l:List Nat}(h:jo l)(n:Nat):jo (l.take n):=fun x hx=>h x (List.mem_of_mem_take hx)
theorem K8{l:List Nat}(h:jo l)(n:Nat):jo (l.drop n):=fun x hx=>h x (List.mem_of_mem_drop hx)
structure kP (p:gF):Prop where
 jY:ig p.s p.h p.m=true
 hist:(p.hist.length:Int)<=p.s
 k0:0<=p.k
 k7:p.k<=7
 len:p.gm.length=(p.k.toNat+7)/8
 clean:Pw (gj p.gm) p.k.toNat
 gO:p.gO=false
 bh:jo p.hist
 bw:jo p.wait
theorem kg.w{p:gF}(g:kg p):kP p:=⟨g.jY,g.hist,g.k0,g.k7,g.len,g.clean,g.gO,g.bh,g.bw⟩
theorem kP.empty{p:gF}(g:kP p):kg {p with wait:=[]}:=⟨g.jY,g.hist,(by have:=mj g.jY;show((0:Nat):Int)<p.m;omega),g.k0,g.k7,g.len,g.clean,g.gO,g.bh,fun x hx=>by cases hx⟩
theorem kP.set{p:gF}(g:kP p){b:List Nat}(hb:jo b):kP {p with wait:=b}:=⟨g.jY,g.hist,g.k0,g.k7,g.len,g.clean,g.gO,g.bh,hb⟩
theorem DK{p:gF}(g:kP p)(kind n:Nat)(l:List gA)(last:Bool):kP (jZ p kind n l last).1:=by
 have h:=CS g.empty (pw g.clean kind (p.wait.take n) l last) (nS ..) (qM g.bw n) (w:=[]) (fun x hx=>by cases hx) (by have:=mj g.jY;show((0:Nat):Int)<p.m;omega);exact h.w.set (K8 g.bw n)
theorem DL{p:gF}(q:gF×List Nat)(hq:q=jZ p (lK p p.wait) p.wait.length (iy p p.wait) true):iK p=({q.1 with gm:=[],k:=0,gO:=true},q.2++q.1.gm):=by
 rw[hq];unfold jZ;rw[List.take_length,List.drop_length];obtain⟨E,hE⟩:=fY (gT p.gm p.k.toNat (lK p p.wait) p.wait (iy p p.wait) true);have he:lY p=(E.1,8*E.1.length):=by unfold lY;rw[<-hE]
 unfold iK;rw[he,<-hE];unfold iH;show({p with hist:=_,gm:=E.1.drop (8*E.1.length/8),k:=((8*E.1.length%8:Nat):Int),wait:=[],gO:=true},E.1.take (8*E.1.length/8))=({p with hist:=_,wait:=[],gm:=[],k:=0,gO:=true},E.1.take (E.2/8)++E.1.drop (E.2/8))
 rw[show 8*E.1.length/8=E.1.length by omega,List.drop_length,List.take_length,List.take_append_drop,show 8*E.1.length%8=0 by omega];rfl
def mJ(p:gF)(l:List gA)(kind:Nat):Nat:=p.k.toNat+Pq (gN p.k.toNat kind p.wait.length (gj p.wait) l false)
def qN(n:Nat):Nat:=if n%8=0 then n else n+Pq (gN (n%8) 0 0 (gj []) [] false)
def pE(p:gF)(l:List gA):Nat:=if mJ p l 2<mJ p l 1 then 2 else 1
def qa(p:gF)(l:List gA):Nat:=if qN (mJ p l (pE p l))<mJ p l 0 then pE p l else 0
theorem K9(p:gF)(l:List gA):qa p l<=2:=by
 have h:pE p l<=2:=by unfold pE;split<;>omega
 unfold qa;split
 ·exact h
 ·omega
theorem yz{p:gF}(g:kP p)(l:List gA)(kind:Nat):mJ p l kind=(gT p.gm p.k.toNat kind p.wait l false).2:=by
 have:=g.k7;have:=g.k0
 rw[p6,Nat.mod_eq_of_lt (show p.k.toNat<8 by omega)];rfl
theorem La(q:List Nat×Nat):qN q.2=(jw q).2:=by
 unfold qN jw;by_cases h:q.2%8=0
 ·rw[if_pos h,if_pos h]
 ·rw[if_neg h,if_neg h,p6];rfl
def nX(r:gF×List Nat):gF×List Nat:=if 0<r.1.k then((jZ r.1 0 0 [] false).1,r.2++(jZ r.1 0 0 [] false).2)else r
theorem Lb{p:gF}(g:kg p)(hw:p.wait=[]):nX (p,[])=jA p:=by
 have hk:=g.k0;unfold nX;by_cases h:0<p.k
 ·rw[if_pos h];unfold jA iW;rw[hw,if_pos (show([]:List Nat).length=0 from rfl),if_neg (by omega)];unfold jZ;rw[hw];rfl
 ·rw[if_neg h];have hk:p.k=0:=by have:=g.k0;omega
  exact(I2 g hk hw).symm
theorem Lc{p:gF}(_g:kP p){q:List Nat×Nat}(_:Pw (gj q.1) q.2)(hl:q.1.length=(q.2+7)/8):
  nX ({(iH p q p.wait).1 with wait:=[]},(iH p q p.wait).2)=({(iH p (jw q) p.wait).1 with wait:=[]},(iH p (jw q) p.wait).2):=by
 unfold nX
 show(if 0<((q.2%8:Nat):Int)then _ else _)=_
 unfold jw
 by_cases h0:q.2%8=0
 ·rw[if_neg (by omega),if_pos h0]
 ·rw[if_pos (by omega),if_neg h0];obtain⟨R,hR⟩:=fY (gT q.1 q.2 0 [] [] false);have av:=KZ q.1 q.2 0 [] [] false;have aS:=K7 (q:=q.1) (K:=q.2) (by omega) 0 [] [] false;have al:=p6 q.1 q.2 0 [] [] false;rw[<-hR]at av aS al⊢;have aT:q.2<=R.2:=by rw[al];omega
  have e6:q.2/8+(R.2-8*(q.2/8))/8=R.2/8:=by omega
  have e7:(R.2-8*(q.2/8))%8=R.2%8:=by omega
  have e8:q.1.take (q.2/8)++(R.1.drop (q.2/8)).take ((R.2-8*(q.2/8))/8)=R.1.take (R.2/8):=by
   rw[<-aS,<-e6];exact(List.take_add ..).symm
  have e9:(R.1.drop (q.2/8)).drop ((R.2-8*(q.2/8))/8)=R.1.drop (R.2/8):=by rw[List.drop_drop,e6]
  obtain⟨N,hN⟩:=fY (jn p.s.toNat (p.hist++p.wait));have e5:jn p.s.toNat (N++[])=N:=by
   have:=xU p.s.toNat (p.hist++p.wait);rw[<-hN]at this;rw[List.append_nil];unfold jn;rw[show N.length-p.s.toNat=0 by omega];rfl
  have el:∀Q:List Nat×Nat,iH p Q p.wait=({p with hist:=N,gm:=Q.1.drop (Q.2/8),k:=((Q.2%8:Nat):Int)},Q.1.take (Q.2/8)):=fun Q=>by rw[hN];rfl
  rw[el,el];have hs:∀p':gF,p'=({p with hist:=N,gm:=q.1.drop (q.2/8),k:=((q.2%8:Nat):Int),wait:=[]}:gF)->jZ p' 0 0 [] false=({p with hist:=N,gm:=R.1.drop (R.2/8),k:=((R.2%8:Nat):Int),wait:=[]},(R.1.drop (q.2/8)).take ((R.2-8*(q.2/8))/8)):=fun p' ad=>by
   have a1:p'.gm=q.1.drop (q.2/8):=by rw[ad]
   have a2:p'.k.toNat=q.2%8:=by rw[ad];exact Int.toNat_natCast _
   have a3:p'.wait=[]:=by rw[ad]
   have a4:p'.hist=N:=by rw[ad]
   have a5:p'.s=p.s:=by rw[ad]
   unfold jZ;rw[a1,a2,a3,List.take_nil,List.drop_nil,av];unfold iH;rw[a4,a5,e5];show(_,_)=(_,_)
   rw[e9,e7,ad]
  rw[hs _ rfl];show({p with hist:=N,gm:=R.1.drop (R.2/8),k:=((R.2%8:Nat):Int),wait:=[]},q.1.take (q.2/8)++(R.1.drop (q.2/8)).take ((R.2-8*(q.2/8))/8))=_
  rw[e8]
theorem Ld{p:gF}(g:kg p)(hw:0<p.wait.length):nX (jZ p (qa p (iy p p.wait)) p.wait.length (iy p p.wait) false)=jA p:=by
 obtain⟨l,hl⟩:=fY (iy p p.wait);rw[<-hl];unfold jZ;rw[List.take_length,List.drop_length];rw[Lc g.w (pw g.clean _ _ _ _) (nS ..)];unfold jA;suffices h:jw (gT p.gm p.k.toNat (qa p l) p.wait l false)=iW p by rw[h]
 unfold iW;rw[if_neg (by omega),<-hl];obtain⟨one,h1⟩:=fY (gT p.gm p.k.toNat 0 p.wait l false);obtain⟨two,h2⟩:=fY (gT p.gm p.k.toNat 1 p.wait l false);obtain⟨three,h3⟩:=fY (gT p.gm p.k.toNat 2 p.wait l false);have w0:=yz g.w l 0;have w1:=yz g.w l 1;have w2:=yz g.w l 2
 rw[<-h1]at w0;rw[<-h2]at w1;rw[<-h3]at w2;have s1:jw one=one:=by
  unfold jw;rw[if_pos];rw[h1,p6,pW];unfold jl;have:=g.k7;have:=g.k0
  omega
 have hc:gT p.gm p.k.toNat (pE p l) p.wait l false=iz two three/\mJ p l (pE p l)=(iz two three).2:=by
  unfold pE iz;rw[w1,w2];by_cases h:three.2<two.2
  ·rw[if_pos h,if_pos h];exact⟨h3.symm,w2⟩
  ·rw[if_neg h,if_neg h];exact⟨h2.symm,w1⟩
 rw[<-h1,<-h2,<-h3];unfold qa;rw[hc.2,La,w0];conv=>rhs;unfold iz
 by_cases h:(jw (iz two three)).2<one.2
 ·rw[if_pos h,hc.1];have e:iz two three=if three.2<two.2 then three else two:=rfl
  rw[if_pos (by rw[<-e];exact h),<-e]
 ·rw[if_neg h,<-h1,s1];have e:iz two three=if three.2<two.2 then three else two:=rfl
  rw[if_neg (by rw[<-e];exact h)]
def pF(x:Nat×Nat):Prop:=x.1<2^x.2/\x.2<=16
def lg(F:Nat->Nat)(L:Nat):Nat:=F L+256*F (L+1)+65536*F (L+2)
theorem yA(f:Nat->Nat)(k v:Nat):∀n j,j<k/8->PF f k v n j=f j
 |0,_,_=>rfl
 |n+1,j,h=>by
  simp only[PF];unfold jQ gL;rw[if_neg (by omega)];exact yA f k v n j h
theorem Le(G:Nat->Nat)(k n b:Nat)(hn:n<=15):lg (jQ G (k+n) b) (k/8)=lg G (k/8)+b*2^(k%8+n):=by
 obtain⟨p,hp⟩:=fY (2^((k+n)%8));have hd:(k+n)/8=k/8\/(k+n)/8=k/8+1\/(k+n)/8=k/8+2:=by omega
 rcases hd with hd|hd|hd
 ·have e:2^(k%8+n)=p:=by rw[hp,show(k+n)%8=k%8+n by omega]
  rw[e];unfold lg jQ gL;rw[hd,<-hp,if_pos rfl,if_neg (by omega),if_neg (by omega)];omega
 ·have e:2^(k%8+n)=256*p:=by rw[hp,show k%8+n=8+(k+n)%8 by omega,Nat.pow_add]
  rw[e,Nat.mul_left_comm];unfold lg jQ gL;rw[hd,<-hp,if_neg (by omega),if_pos rfl,if_neg (by omega)];omega
 ·have e:2^(k%8+n)=65536*p:=by rw[hp,show k%8+n=16+(k+n)%8 by omega,Nat.pow_add]
  rw[e,Nat.mul_left_comm];unfold lg jQ gL;rw[hd,<-hp,if_neg (by omega),if_neg (by omega),if_pos rfl];omega
theorem yC{f:Nat->Nat}{k:Nat}(hc:Pw f k)(v:Nat):∀n,n<=16->lg (PF f k v n) (k/8)=f (k/8)+(v%2^n)*2^(k%8)
 |0,_=>by
  unfold lg;simp only[PF];rw[hc.2.1 (k/8+1) (by omega),hc.2.1 (k/8+2) (by omega),Nat.pow_zero,Nat.mod_one];omega
 |n+1,h=>by
  have ih:=yC hc v n (by omega);simp only[PF];rw[Le _ _ _ _ (by omega),ih,Nat.mod_pow_succ,Nat.add_mul,Nat.add_assoc,Nat.mul_comm (2^n),Nat.mul_assoc,<-Nat.pow_add,Nat.add_comm n]
theorem Lf{F:Nat->Nat}(hF:∀j,F j<256)(L:Nat)(h:F (L+3)=0):lg F L%256=F L/\lg F L/256=lg F (L+1):=by
 have h0:=hF L;have h1:=hF (L+1);have h2:=hF (L+2);unfold lg;rw[show L+1+1=L+2 by omega,show L+1+2=L+3 by omega,h];omega
theorem DM{F:Nat->Nat}{K:Nat}(h:Pw F K)(j:Nat)(hj:K<8*j):F j=0:=h.2.1 j (by omega)
theorem Lg{F:Nat->Nat}{K:Nat}(h:Pw F K):lg F (K/8)=F (K/8):=by
 unfold lg;rw[h.2.1 (K/8+1) (by omega),h.2.1 (K/8+2) (by omega)];omega
theorem Lh{F:Nat->Nat}(hF:∀j,F j<256)(L:Nat):lg F L<16777216:=by
 have h0:=hF L;have h1:=hF (L+1);have h2:=hF (L+2);unfold lg;omega
theorem Li(f:Nat->Nat)(k:Nat):jQ f k 0=f:=by
 funext j;unfold jQ gL;by_cases h:j=k/8
 ·rw[if_pos h,h];omega
 ·rw[if_neg h]
theorem yD(f:Nat->Nat)(k:Nat):∀n,PF f k 0 n=f
 |0=>rfl
 |n+1=>by
  simp only[PF];rw[yD f k n,Nat.zero_div,Nat.zero_mod,Li]
theorem DN(f:Nat->Nat):∀n k,gK f k (List.replicate n (0,1))=f
 |0,_=>rfl
 |n+1,k=>by
  rw[List.replicate_succ];simp only[gK];rw[yD,DN f n]
theorem Lj(f:Nat->Nat)(k p:Nat)(P:List (Nat×Nat)):gK f k ((0,p)::P)=gK f k (List.replicate p (0,1)++P)/\Pq ((0,p)::P)=Pq (List.replicate p (0,1)++P):=by
 constructor
 ·rw[lI,DN,xP];simp only[gK];rw[yD]
 ·rw[iQ,xP];rfl
theorem Lk{f:Nat->Nat}{k:Nat}(hc:Pw f k)(h8:k%8=0)(v:Nat)(hv:v<256):PF f k v 8=gL f (k/8) v:=by
 have ad:=hc.put v 8;have h1:=yC hc v 8 (by omega);have hz:f (k/8)=0:=by have:=hc.2.2;rw[h8]at this;have e:(2:Nat)^0=1:=rfl;omega
 have e1:(2:Nat)^0=1:=rfl;have e2:(2:Nat)^8=256:=rfl;rw[h8,hz,e1,e2,Nat.mod_eq_of_lt hv]at h1;have z1:=DM ad (k/8+2) (by omega);have z2:=ad.2.2;rw[show(k+8)/8=k/8+1 by omega,show(k+8)%8=0 by omega,e1]at z2;unfold lg at h1;funext j;unfold gL;by_cases h:j=k/8
 ·rw[if_pos h,h];omega
 ·rw[if_neg h];rcases Nat.lt_or_ge j (k/8)with g|g
  ·exact yA f k v 8 j g
  ·rw[hc.2.1 j (by omega)];rcases Nat.lt_or_ge (k/8+1) j with g2|g2
   ·exact DM ad j (by omega)
   ·obtain rfl:j=k/8+1:=by omega
    omega
def qb(f:Nat->Nat)(L n:Nat)(r:Nat->Nat)(j:Nat):Nat:=if j<L then f j else if j<L+n then r (j-L)else 0
theorem DO{f:Nat->Nat}{k:Nat}(hc:Pw f k)(h8:k%8=0)(r:Nat->Nat)(hr:∀j,r j<256):∀n,gK f k ((List.range n).map fun i=>(r i,8))=qb f (k/8) n r
 |0=>by
  funext j;simp only[List.range_zero,List.map_nil,gK];unfold qb;by_cases h:j<k/8
  ·rw[if_pos h]
  ·rw[if_neg h,if_neg (by omega)];rcases Nat.lt_or_ge (k/8) j with g|g
   ·exact hc.2.1 j g
   ·have:=hc.2.2;rw[h8]at this;have e:(2:Nat)^0=1:=rfl;rw[show j=k/8 by omega];omega
 |n+1=>by
  have ih:=DO hc h8 r hr n;have ad:=hc.rp ((List.range n).map fun i=>(r i,8));rw[tB,ih]at ad;rw[List.range_succ,List.map_append,lI,tB,ih];simp only[List.map_cons,List.map_nil,gK];rw[Lk ad (by omega) _ (hr n),show(k+8*n)/8=k/8+n by omega];funext j;unfold gL qb;by_cases h:j=k/8+n
  ·rw[if_pos h,if_neg (by omega),if_pos (by omega),show j-k/8=n by omega]
  ·rw[if_neg h];by_cases h1:j<k/8
   ·rw[if_pos h1,if_pos h1]
   ·rw[if_neg h1,if_neg h1];by_cases h2:j<k/8+n
    ·rw[if_pos h2,if_pos (by omega)]
    ·rw[if_neg h2,if_neg (by omega)]
theorem ly{v b:Nat}(hv:v<2^b)(hb:b<=16):pF (v,b):=⟨hv,hb⟩
theorem Ll{t:gA}(hm:gS t=true)(hx:t.x<256)(h0:t.n≠0):pF ((kC t.n).toNat,(kq t.n).toNat)/\pF ((kL t.d).toNat,(kr t.d).toNat):=by
 obtain⟨ad,al,_⟩:=(lU hm hx).2.2 h0;obtain⟨_,_,_,_,p1,p2,p3,p4⟩:=rf ad;obtain⟨_,_,_,_,q1,q2,q3,q4⟩:=rh al;exact⟨ly (by omega) (by omega),ly (by omega) (by omega)⟩
theorem Lm{l:List gA}(hl:l.length<=1000000){r:Int×Int}(hr:r∈ju l):pF (r.2.toNat,(iU r.1).toNat):=by
 obtain⟨s0,al,x0,ad,hx⟩:=(rB l hl).1 r hr;have hb:=uQ r.1;have e2:iU r.1=(j8 r.1:Nat):=by unfold iU;rw[if_pos (by omega)]
 rw[e2,Int.toNat_natCast];exact ly (by omega) (by omega)
def jV(s h m:Int):Int:=if ig s h m=true then 0 else 8
def qc(t:gA):Int:=if gS t=true then 0 else 8
theorem vF:(prog.info? 27).map (·.size)=some 4:=by kernel_rfl
theorem pG(w:aq)(s h m:Int)(z:Bool):aw prog 31 #[ah #[ae aj s,ae aj h,ae aj m,ai z]] w fun e w'=>e=ao (ae aj (jV s h m))/\aR w.heap.size w w':=by
 have HB:=fX ((Below.refl w.heap.size w).alloc fZ (ak #[ae aj s,ae aj h,ae aj m,ai z] 27));by_cases y0:s<1
 ·have d0:decide (s<1)=true:=by simp;omega
  have e:jV s h m=8:=by unfold jV;rw[if_neg];unfold ig;simp;omega
  rw[e];go_enter func31,ntmps31
  go_wp2;go_ret;exact⟨rfl,HB.out⟩
 have d0:decide (s<1)=false:=by simp;omega
 by_cases y1:32768<s
 ·have d1:decide (32768<s)=true:=by simp;omega
  have e:jV s h m=8:=by unfold jV;rw[if_neg];unfold ig;simp;omega
  rw[e];go_enter func31,ntmps31
  go_wp2;go_ret;exact⟨rfl,HB.out⟩
 have d1:decide (32768<s)=false:=by simp;omega
 by_cases y2:h<0
 ·have d2:decide (h<0)=true:=by simp;omega
  have e:jV s h m=8:=by unfold jV;rw[if_neg];unfold ig;simp;omega
  rw[e];go_enter func31,ntmps31
  go_wp2;go_ret;exact⟨rfl,HB.out⟩
 have d2:decide (h<0)=false:=by simp;omega
 by_cases y3:256<h
 ·have d3:decide (256<h)=true:=by simp;omega
  have e:jV s h m=8:=by unfold jV;rw[if_neg];unfold ig;simp;omega
  rw[e];go_enter func31,ntmps31
  go_wp2;go_ret;exact⟨rfl,HB.out⟩
 have d3:decide (256<h)=false:=by simp;omega
 by_cases y4:m<1
 ·have d4:decide (m<1)=true:=by simp;omega
  have e:jV s h m=8:=by unfold jV;rw[if_neg];unfold ig;simp;omega
  rw[e];go_enter func31,ntmps31
  go_wp2;go_ret;exact⟨rfl,HB.out⟩
 have d4:decide (m<1)=false:=by simp;omega
 by_cases y5:65535<m
 ·have d5:decide (65535<m)=true:=by simp;omega
  have e:jV s h m=8:=by unfold jV;rw[if_neg];unfold ig;simp;omega
  rw[e];go_enter func31,ntmps31
  go_wp2;go_ret;exact⟨rfl,HB.out⟩
 have d5:decide (65535<m)=false:=by simp;omega
 have e:jV s h m=0:=by unfold jV;rw[if_pos];unfold ig;simp;omega
 rw[e];go_enter func31,ntmps31
 go_wp2;go_ret;exact⟨rfl,HB.out⟩
def nY(t:gA):Bool:=t.n !=0||t.d !=0
theorem DQ(w:aq)(t:gA):aw prog 124 #[ah #[ae .u8 (t.x:Int),ae aj t.d,ae aj t.n]] w fun e w'=>e=ao (ai (nY t))/\aR w.heap.size w w':=by
 obtain⟨x,d,n⟩:=t;have HB:=fX ((Below.refl w.heap.size w).alloc fZ (ak #[ae .u8 (x:Int),ae aj d,ae aj n] 127));by_cases h0:n=0
 ·subst h0;have e:nY ⟨x,d,0⟩=(d !=0):=by simp[nY]
  rw[e];clear e;go_enter func124,ntmps124
  go_wp2;go_ret;exact⟨rfl,HB.out⟩
 ·have e0:(n !=0)=true:=by simp[h0]
  have e:nY ⟨x,d,n⟩=true:=by simp[nY,h0]
  rw[e];clear e;go_enter func124,ntmps124
  go_wp2;go_ret;exact⟨rfl,HB.out⟩
theorem DR(w:aq)(t:gA):aw prog 104 #[ah #[ae .u8 (t.x:Int),ae aj t.d,ae aj t.n]] w fun e w'=>e=ao (ae aj (if t.n<1 then 1 else t.n))/\aR w.heap.size w w':=by
 obtain⟨x,d,n⟩:=t;have HB:=fX ((Below.refl w.heap.size w).alloc fZ (ak #[ae .u8 (x:Int),ae aj d,ae aj n] 127));by_cases h0:n<1
 ·rw[if_pos h0];go_enter func104,ntmps104
  go_wp2;go_ret;exact⟨rfl,HB.out⟩
 ·rw[if_neg h0];go_enter func104,ntmps104
  go_wp2;go_ret;exact⟨rfl,HB.out⟩
theorem Ln(w:aq)(t:gA)(_:p9 t):aw prog 98 #[ah #[ae .u8 (t.x:Int),ae aj t.d,ae aj t.n]] w fun e w'=>e=ao (ae aj (qc t))/\aR w.heap.size w w':=by
 obtain⟨x,d,n⟩:=t;obtain⟨W1,al⟩:=fY (w.alloc (ak #[ae .u8 (x:Int),ae aj d,ae aj n] 128));have aZ:=fX al;have aU:aR w.heap.size w W1:=by rw[al];exact gC.alloc fZ _
 have aV:W1.heap.size=w.heap.size+1:=by rw[al];simp
 have aS:W1.heap[w.heap.size]?=some (ak #[ae .u8 (x:Int),ae aj d,ae aj n] 128 (0,0)):=by rw[al];exact aG w _
 have aW:=fX aU;have a1:=fX aV;have aX:=fX aS
 have HM:=fX (DQ W1 ⟨x,d,n⟩);clear al aU aV aS;obtain⟨E,hE⟩:=fY (qc ⟨x,d,n⟩);rw[<-hE];obtain⟨b,hb⟩:=fY (nY ⟨x,d,n⟩);rw[<-hb]at HM;have HE:=fX hE;have aY:=fX hb
 clear hE hb;go_enter func98,ntmps98
 go_wp2_with fail
 rw[<-aZ.out];refine HM.out.mono ?_;rintro e w2 ⟨rfl,aT⟩;have ad:=fX (aW.out.trans (aT.mono aW.out.size));have av:w2.heap[w.heap.size]?=some (ak #[ae .u8 (x:Int),ae aj d,ae aj n] 128 (0,0)):=(aT.block _ (by have:=a1.out;omega)).trans aX.out;have x0:w2.cell? ⟨w.heap.size,0,none⟩=some (ae .u8 (x:Int)):=(aH w2 _ 0 _ _ (0,0) av).trans rfl;have x1:w2.cell? ⟨w.heap.size,1,none⟩=some (ae aj d):=(aH w2 _ 1 _ _ (0,0) av).trans rfl;have x2:w2.cell? ⟨w.heap.size,2,none⟩=some (ae aj n):=(aH w2 _ 2 _ _ (0,0) av).trans rfl;clear aT av;cases b with
 |false=>
  have hz:n=0/\d=0:=by have h:=aY.out.symm;simp[nY]at h;exact h
  obtain rfl:E=0:=by rw[HE.out];unfold qc;rw[if_pos];simp[gS,hz.1,hz.2]
  go_wp2;go_ret;exact⟨rfl,ad.out⟩
 |true=>
  have hz:¬(n=0/\d=0):=by have h:=aY.out.symm;simp[nY]at h;omega
  have key:∀P:Prop,(gS ⟨x,d,n⟩=true↔P)->(¬P->E=8)/\(P->E=0):=fun P hP=>⟨fun h=>by rw[HE.out];unfold qc;rw[if_neg (fun g=>h (hP.1 g))],fun h=>by rw[HE.out];unfold qc;rw[if_pos (hP.2 h)]⟩
  have hk:=key (¬n<3/\¬258<n/\¬d<1/\¬32768<d/\x=0) (by unfold gS;simp only[decide_eq_true_eq];omega);clear key;by_cases y0:n<3
  ·have d0:decide (n<3)=true:=by simp;omega
   obtain rfl:E=8:=hk.1 (by omega);clear hk;go_wp2;go_ret;exact⟨rfl,ad.out⟩
  have d0:decide (n<3)=false:=by simp;omega
  by_cases y1:258<n
  ·have d1:decide (258<n)=true:=by simp;omega
   obtain rfl:E=8:=hk.1 (by omega);clear hk;go_wp2;go_ret;exact⟨rfl,ad.out⟩
  have d1:decide (258<n)=false:=by simp;omega
  by_cases y2:d<1
  ·have d2:decide (d<1)=true:=by simp;omega
   obtain rfl:E=8:=hk.1 (by omega);clear hk;go_wp2;go_ret;exact⟨rfl,ad.out⟩
  have d2:decide (d<1)=false:=by simp;omega
  by_cases y3:32768<d
  ·have d3:decide (32768<d)=true:=by simp;omega
   obtain rfl:E=8:=hk.1 (by omega);clear hk;go_wp2;go_ret;exact⟨rfl,ad.out⟩
  have d3:decide (32768<d)=false:=by simp;omega
  by_cases y4:x=0
  ·subst y4;have d4:(((0:Nat):Int) !=0)=false:=by decide
   obtain rfl:E=0:=hk.2 (by omega);clear hk;go_wp2;go_ret;exact⟨rfl,ad.out⟩
  ·have d4:((x:Int) !=0)=true:=by simp;omega
   obtain rfl:E=8:=hk.1 (by omega);clear hk;go_wp2;go_ret;exact⟨rfl,ad.out⟩
theorem DS(w:aq)(A:Option au)(n c:Nat)(f:Nat->Nat)(hr:gu w w.heap.size A n c f)(hn:n<=2000000):
  aw prog 63 #[af A n c] w fun e w'=>∃A' c',e=ao (af A' n c')/\w'.ownsRow w.heap.size 5 1 (af A' n c') n (gD n f)/\aR w.heap.size w w':=by
 rcases A with _|ad
 ·obtain rfl:=hr.2.1 rfl;have h0:n=0:=by have:=hr.2.2.1;omega
  subst h0;clear hr;have aU:∀(w:aq) (a:Option au) (n c n' c':Nat),(binOp .eql 22 (af a n c) (af none n' c')).run prog w=.ok (ai a.isNone) w:=fun w a n c n' c'=>Lib.run_eql_slice_nil w _ _ a n c n' c' underlying22
  go_enter func63,ntmps63
  go_wp2;go_ret;exact⟨none,0,rfl,World.ownsRow_nil _ _ _ _,Below.refl _ _⟩
 ·have aU:∀(w:aq) (a:Option au) (n c n' c':Nat),(binOp .eql 22 (af a n c) (af none n' c')).run prog w=.ok (ai a.isNone) w:=fun w a n c n' c'=>Lib.run_eql_slice_nil w _ _ a n c n' c' underlying22
  have al:aR w.heap.size w (w.alloc (ak #[] 5)):=gC.alloc fZ _;have av:(w.alloc (ak #[] 5)).ownsRow w.heap.size 5 1 (af (some ⟨w.heap.size,0,none⟩) 0 0) 0 (gD 0 f):=World.ownsRow_made w #[] 0 fZ (Nat.zero_le _) rfl;obtain⟨A',c',w',h1,h2,h3⟩:=sd _ w.heap.size (w.alloc (ak #[] 5)).heap.size _ 0 f av (some ad) n c f ((hr.1.below al fZ).more al.size) (by omega) 22 (fun h=>by cases h) al.size;rw[Nat.zero_add]at h1 h2;have e:cat f 0 f=f:=by funext j;unfold cat;rw[if_neg (by omega)];rfl
  rw[e]at h2;have aS:=fX h1;have aT:=fX h2;have HB:=fX (al.trans h3)
  clear h1 h2 h3 av al hr e;go_enter func63,ntmps63
  go_wp2_with (at_builtin;refine wpList_append_run rfl (.tmp 5) (.tmp 6) 22 rfl (af (some ⟨w.heap.size,0,none⟩) 0 0) (af (some ad) n c) (af A' n c') w' rfl rfl aS.out ?_)
  go_ret;exact⟨A',c',rfl,aT.out,HB.out⟩
theorem oG{w:aq}{base sz n h:Nat}{e t:aB}{v:ax}{xs:List ax}{cs:Array ax}(ho:w.ownsRow base e sz v n xs)(hh:w.heap[h]?=some (ak cs t (0,0)))(ad:(e==t)=false):v.ownBlock≠some h:=fun hk=>by
 rcases ho.2 with⟨rfl,_⟩|⟨g,cap,cur,rfl,_,hg,_⟩
 ·simp[Value.ownBlock]at hk
 ·simp[Value.ownBlock]at hk;subst hk;rw[hg]at hh;injection hh with hh
  injection hh with _ h2 _
  rw[h2]at ad;simp at ad
theorem pH{B:Nat}{a w:aq}(h:aR B a w){g:Nat}(hp:B<=g)(cs:Array ax):aR B a (w.setRow g cs):=
 ⟨h.os,h.tape,h.output,by rw[size_setRow];exact h.size,fun k hk=>(setRow_other w g k cs (by omega)).trans (h.block k hk)⟩
theorem tQ(t:gA):(jb t).toArray.all (·.oneCell')=true:=by simp[jb,Value.oneCell']
theorem sW(t:gA):(prog.info? 128).map (·.size)=some (jb t).toArray.size:=sF
theorem DT{T E:aB}{z:ax}{sz kl:Nat}(hT:prog.underlying T=some (.slice E))(hI:(prog.info? E).map (fun i=>(i.zero,i.size,i.bytes))=some (some z,sz,kl))(hz:z.cells.size=sz)(aT:0<sz)
  (w:aq) (base B:Nat) (v0:ax) (n:Nat) (xs:List ax) (al:w.ownsRow base E sz v0 n xs) (A:Option au) (m c:Nat) (ys:List ax) (hr:gX w B sz A m ys) (h1:∀u∈ys,u.oneCell'=true)
  (aU:n+m<=maxLen) (aV:(n+m)*kl<=140737488355328) (ty:aB) (hA:A=none->c=0) (aS:base<=w.heap.size):
  ∃A' c' w',(Builtin.append_ #[T,T] ty #[v0,af A m c]).run prog w=.ok (af A' (n+m) c') w'/\w'.ownsRow base E sz (af A' (n+m) c') (n+m) (xs++ys)/\w.grownBy w' v0.ownBlock/\((Value.slice A' (n+m) c').ownBlock=v0.ownBlock\/(Value.slice A' (n+m) c').ownBlock=some w.heap.size):=by
 obtain⟨i0,hi,aW,aX,aY⟩:=info_parts hI
 have key:∃v' w',(Builtin.append_ #[T,T] ty #[v0,af A m c]).run prog w=.ok v' w'/\w'.ownsRow base E sz v' (n+m) (xs++ys)/\w.grownBy w' v0.ownBlock/\(v'.ownBlock=v0.ownBlock\/v'.ownBlock=some w.heap.size):=by
  rcases A with _|ad
  ·have h0:m=0:=by
    rcases Nat.eq_zero_or_pos m with h|h
    ·exact h
    ·obtain⟨b,o,h,_⟩:=hr.2 h;cases h
   subst h0;obtain rfl:=hA rfl;have hy:ys=[]:=List.length_eq_zero_iff.1 (by have:=hr.1;omega);subst hy;refine⟨v0,w,run_append_owned_none (P:=prog) (w:=w) base T ty E i0 sz hT hi v0 n _ al,?_,World.grownBy.refl _ _,.inl rfl⟩;simpa using al
  ·have av:∀j u,ys[j]?=some u->w.cell? (ad.add j)=some u:=by
    intro j u hu;have hm:0<m:=by
     rcases Nat.eq_zero_or_pos m with h|h
     ·have hy:ys=[]:=List.length_eq_zero_iff.1 (by have:=hr.1;rw[h]at this;omega);rw[hy]at hu;cases hu
     ·exact h
    obtain⟨b,o,h,_,hc⟩:=hr.2 hm;injection h with h
    subst h;have e:(⟨b,o,none⟩:au).add j=⟨b,o+j,none⟩:=by unfold Addr.add;split<;>simp_all
    rw[e];exact hc j u hu
   obtain⟨v',w',h1,h2,h3,_,h5⟩:=run_append_own_at (P:=prog) w base T ty E i0 z sz kl hT hi aW aX aY hz aT v0 n xs al ad m c ys hr.1 av h1 aU aV aS;exact⟨v',w',h1,h2,h3,h5⟩
 obtain⟨v',w',h1,h2,h3,h5⟩:=key
 have hv:∃A' c',v'=af A' (n+m) c':=by
  rcases h2.2 with⟨rfl,h⟩|⟨g,cap,cur,rfl,_⟩
  ·exact⟨none,0,by rw[h]⟩
  ·exact⟨_,_,rfl⟩
 obtain⟨A',c',rfl⟩:=hv
 exact⟨A',c',w',h1,h2,h3,h5⟩
theorem DU(w:aq)(base:Nat)(A:Option au)(n c:Nat)(F:Nat->Nat)(av:w.ownsRow base 5 1 (af A n c) n (gD n F))(x:Nat)(hx:x=F n)(hn:n<=1000000000)(ad:base<=w.heap.size):
  ∃A' c' w',(Builtin.append_ #[22,22] 22 #[af A n c,af (some ⟨w.heap.size,0,none⟩) 1 1]).run prog (w.alloc (ak #[ae .u8 (x:Int)] 5))=.ok (af A' (n+1) c') w'/\
   w'.ownsRow base 5 1 (af A' (n+1) c') (n+1) (gD (n+1) F)/\aR base w w'/\(∀k,k<w.heap.size->(Value.slice A n c).ownBlock≠some k->w'.heap[k]?=w.heap[k]?)/\(∀j,(Value.slice A' (n+1) c').ownBlock=some j->(Value.slice A n c).ownBlock=some j\/w.heap.size<=j):=by
 subst hx
 have al:aR base w (w.alloc (ak #[ae .u8 (F n:Int)] 5)):=(Below.refl base w).alloc ad _
 have aS:=av.alloc (ak #[ae .u8 (F n:Int)] 5)
 obtain⟨A',c',w',h2,o2,b2,h5⟩:=DT (z:=ae .u8 0) (kl:=1) underlying22 oM rfl (by decide) (w.alloc (ak #[ae .u8 (F n:Int)] 5)) base _ (af A n c) n _ aS _ 1 1 _
  (gX.new w 1 1 #[ae .u8 (F n:Int)] 5 rfl) (fun u hu=>by simp at hu;subst hu;rfl) (by unfold maxLen;omega) (by omega) 22 (fun h=>by cases h) (Nat.le_trans ad al.size)
 refine⟨A',c',w',h2,?_,al.trans ((Below.refl base _).grown b2 (Nat.le_trans ad al.size) (oZ aS)),fun k hk aT=>?_,fun j hj=>?_⟩
 ·have e:gD n F++(#[Value.int .u8 (F n:Int)]:Array ax).toList=gD (n+1) F:=by
   unfold gD;rw[List.range_succ,List.map_append];rfl
  rw[e]at o2;exact o2
 ·refine(b2.block k (by simp;omega) (fun e=>aT e.symm)).trans ?_;exact(Below.refl w.heap.size w).alloc fZ (ak #[ae .u8 (F n:Int)] 5)|>.block k hk
 ·rcases h5 with h5|h5
  ·exact .inl (h5▸hj)
  ·rw[h5]at hj;injection hj with hj
   simp at hj;exact .inr (by omega)
theorem DV(w:aq)(base:Nat)(A:Option au)(n c:Nat)(F:Nat->Nat)(al:w.ownsRow base 5 1 (af A n c) n (gD n F))(A2:Option au)(m c2:Nat)(r G:Nat->Nat)(hr:gu w w.heap.size A2 m c2 r)(hG:∀j,j<n->G j=F j)(aS:∀j,j<m->G (n+j)=r j)(hn:n+m<=1000000000)(ad:base<=w.heap.size):
  ∃A' c' w',(Builtin.append_ #[22,22] 22 #[af A n c,af A2 m c2]).run prog w=.ok (af A' (n+m) c') w'/\
   w'.ownsRow base 5 1 (af A' (n+m) c') (n+m) (gD (n+m) G)/\aR base w w'/\(∀k,k<w.heap.size->(Value.slice A n c).ownBlock≠some k->w'.heap[k]?=w.heap[k]?)/\(∀j,(Value.slice A' (n+m) c').ownBlock=some j->(Value.slice A n c).ownBlock=some j\/w.heap.size<=j):=by
 have av:gX w w.heap.size 1 A2 m (gD m r):=by
  refine⟨by simp[gD],fun h0=>?_⟩;obtain⟨b,o,h1,h2,h3⟩:=hr.1.2 h0;refine⟨b,o,h1,h2,fun j u hu=>?_⟩;have hj:j<m:=by
   rcases Nat.lt_or_ge j m with g|g
   ·exact g
   ·rw[List.getElem?_eq_none (by simpa[gD]using g)]at hu;cases hu
  rw[h3 j hj,<-hu];simp[gD,hj]
 obtain⟨A',c',w',h2,o2,b2,h5⟩:=DT (z:=ae .u8 0) (kl:=1) underlying22 oM rfl (by decide) w base _ (af A n c) n _ al A2 m c2 _
  av (fun u hu=>by simp[gD]at hu;obtain⟨_,_,rfl⟩:=hu;rfl) (by unfold maxLen;omega) (by omega) 22 hr.2.1 ad
 refine⟨A',c',w',h2,?_,(Below.refl base _).grown b2 ad (oZ al),fun k hk aT=>b2.block k hk (fun e=>aT e.symm),fun j hj=>?_⟩
 ·have e:gD n F++gD m r=gD (n+m) G:=by
   unfold gD;rw[List.range_add,List.map_append,List.map_map];congr 1
   ·refine List.map_congr_left fun j hj=>?_
    rw[hG j (List.mem_range.1 hj)]
   ·refine List.map_congr_left fun j hj=>?_
    simp only[Function.comp];rw[aS j (List.mem_range.1 hj)]
  rw[e]at o2;exact o2
 ·rcases h5 with h5|h5
  ·exact .inl (h5▸hj)
  ·rw[h5]at hj;injection hj with hj
   exact .inr (by omega)
end Go.Proofs.YtokpcpjnihinfaaGreat
