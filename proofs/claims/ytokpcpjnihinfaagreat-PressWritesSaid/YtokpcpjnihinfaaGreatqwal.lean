/-
  Words and walks.
-/
import Derived.Test.YtokpcpjnihinfaaGreatqwaa
import Derived.Test.YtokpcpjnihinfaaGreatqwab
import Derived.Test.YtokpcpjnihinfaaGreatqwad
import Derived.Test.YtokpcpjnihinfaaGreatqwaf
import Derived.Test.YtokpcpjnihinfaaGreatqwag
import Derived.Test.YtokpcpjnihinfaaGreatqwaj
import Derived.Test.YtokpcpjnihinfaaGreatqwak
set_option maxRecDepth 100000
set_option maxHeartbeats 16000000
namespace Go.Proofs.YtokpcpjnihinfaaGreat
open Value renaming int → ae, slice → af, pointer → ag, agg → ah, bool → ai
open IntKind renaming i64 → aj
open Obj renaming cells → ak
open Ending renaming returned → ao
open Go renaming World → aq, Addr → au, Calls → aw, Value → ax, Program → az, Oper → aA, wpList_store_rowTo → aC, wpList_buildTo → aD, wpList_load_row → aE, heap_alloc_new → aG, bodyPost_ret → aK, setRow_other → aL, yielded → aM, frozen_of_row → aO
open Go.RowKit renaming Hid → aQ, Below → aR
open _root_.Go.Proofs.Tryz
open Go.RowKit Go.ChangeShapes Go.WideShapes Go.ChangeAt Go.Joins
theorem Pc(P:az)(b:BinOp)(t:TypeId)(x y:Operand)(A B:Bool)(w:aq):(eqGuard b t x y (ai A) (ai B)).run P w=.ok () w:=by
 unfold eqGuard;simp[go_sem]
theorem Pd(A:Bool)(w:aq):(binOp .eql 4 (ai A) (ai A)).run prog w=.ok (ai true) w:=by
 unfold binOp Op.equal;rw[show Op.maxDepth=Nat.succ (Op.maxDepth-1)from rfl];cases A<;>simp[Op.equalIn,go_sem]
theorem Pe(HN:yL)(HW:yM)(HA:yN)(HC:we)(HS:DZ)(p:iz)(Ah:Option au)(hc:Nat)(Aw:Option au)(wc:Nat)(Ap:Option au)(pc:Nat)(s ch m:Int)(z:Bool)(A:Option au)(c:Nat)(b:List Nat)(w:aq)(hp:iD w w.heap.size p Ah hc Aw wc Ap pc)(dM:p.ie.length<=140737488355328)(rb:ib w w.heap.size A b.length c (hH b)):
  aw prog 4 #[ah (iA p Ah hc Aw wc Ap pc),ah #[ae aj s,ae aj ch,ae aj m,ai z],af A b.length c] w fun e w'=>e=ao (ai true)/\aR w.heap.size w w':=by
 obtain⟨X,hX⟩:=gX (iA p Ah hc Aw wc Ap pc)
 obtain⟨SY,bE⟩:∃X:Array ax,X=#[ae aj s,ae aj ch,ae aj m,ai z]:=⟨_,rfl⟩
 obtain⟨Z,hZ⟩:=gX (iA (iR 0 0 0 false) none 0 none 0 none 0)
 have hz:=(zero_of_info oP).1
 rw[<-hZ]at hz
 rw[<-hX,<-bE]
 obtain⟨W0,cL⟩:=gX ((w.alloc (ak X 32)).alloc (ak SY 27))
 have dv:aQ (aR w.heap.size w W0):=gW (by rw[cL];exact(ix.alloc gY _).alloc (by simp) _)
 have aW:aQ (gZ W0 (w.heap.size) X 32):=gW (by rw[cL];exact(gZ.new w _ _).old _)
 have a4:aQ (gZ W0 (w.heap.size+1) SY 27):=gW (by rw[cL];have:=gZ.new (w.alloc (ak X 32)) SY 27;rwa[World.size_alloc]at this)
 have eX:=gW cL;have bF:aQ (X.size=9):=gW (by rw[hX];rfl);have b3:aQ (SY.size=4):=gW (by rw[bE];rfl);have cM:aQ (Z.size=9):=gW (by rw[hZ];rfl);have dw:=gW hX;have gL:=gW bE
 have eY:aQ (∀V,aR w.heap.size w V->iD V V.heap.size p Ah hc Aw wc Ap pc):=gW fun V hV=>hp.on hV
 have dx:aQ (∀V,aR w.heap.size w V->ib V V.heap.size A b.length c (hH b)):=gW fun V hV=>(rb.below hV gY).more hV.size
 obtain⟨bn,bm⟩:=gX (b.length)
 have eZ:=gW bm
 have cN:aQ (∀V:aq,aw prog 17 #[ah X,af A bn c] V fun e w'=>e=ao (ai (oB p.hist.length p.wait.length bn))/\aR V.heap.size V w'):=gW fun V=>by rw[hX];exact KF V p Ah hc Aw wc Ap pc A bn c
 have dN:aQ (p.hist.length<=1000000/\p.wait.length<=1000000->∀V,aR w.heap.size w V->aw prog 18 #[ah X] V fun e w'=>∃e0 e5 e6 e7 e8 e9,e=ao (ah (iA p e0 e5 e6 e7 e8 e9))/\iD w' w'.heap.size p e0 e5 e6 e7 e8 e9/\aR V.heap.size V w'):=gW fun hl V hV=>by rw[hX];exact Dv V p Ah hc Aw wc Ap pc (hp.on hV) ⟨hl.1,hl.2,dM⟩
 obtain⟨pn,ea⟩:=gX (lE s ch m z)
 obtain⟨E1,eb⟩:=gX (oz s ch m)
 obtain⟨E2,ec⟩:=gX (ox p)
 obtain⟨RW,ed⟩:=gX (pj E2 (jB p b))
 obtain⟨E3,ef⟩:=gX (mK s ch m bn)
 obtain⟨OL,eg⟩:=gX ((if mK s ch m b.length=0 then qC s ch m z b else[]))
 obtain⟨na,cO⟩:=gX (OL.length)
 have fX:aQ (∀V,aw prog 11 #[ah SY] V fun e w'=>∃Ah hc Aw wc Ap pc,e=ao (.tuple #[ah (iA pn Ah hc Aw wc Ap pc),ae aj E1])/\iD w' w'.heap.size pn Ah hc Aw wc Ap pc/\aR V.heap.size V w'):=gW fun V=>by rw[bE,ea,eb];exact HN V s ch m z
 have fY:aQ (∀V,aw prog 19 #[ah SY] V fun e w'=>∃Ah hc Aw wc Ap pc,e=ao (.tuple #[ah (iA pn Ah hc Aw wc Ap pc),ae aj E1])/\iD w' w'.heap.size pn Ah hc Aw wc Ap pc/\aR V.heap.size V w'):=gW fun V=>by rw[bE,ea,eb];exact Ln V s ch m z
 have dO:aQ (p.hist.length<=1000000/\p.wait.length<=1000000/\bn<=1000->∀V A1 k1 A2 k2 A3 k3 A4 k4,iD V V.heap.size p A1 k1 A2 k2 A3 k3->ib V V.heap.size A4 bn k4 (hH b)->aw prog 12 #[ah (iA p A1 k1 A2 k2 A3 k3),af A4 bn k4] V fun e w'=>tv V w' e RW E2):=gW fun hl V A1 k1 A2 k2 A3 k3 A4 k4 h h4=>by
  have e:nt p b.length=E2:=by unfold nt;rw[<-ec];by_cases h0:E2=0<;>simp[h0];omega
  have h1:=HW V p A1 k1 A2 k2 A3 k3 A4 k4 b h (by rw[<-bm];exact h4) hl.1 hl.2.1 (by omega);rw[e,<-ed,<-bm]at h1;exact h1
 have dP:aQ (bn<=1000->∀V,aR w.heap.size w V->aw prog 20 #[ah X,af A bn c] V fun e w'=>DX V w' e RW E2):=gW fun hl V hV=>by
  have h1:=O6 V p Ah hc Aw wc Ap pc (hp.on hV) A c b ((rb.below hV gY).more hV.size) (by omega);rw[<-ec,<-ed,<-bm,<-hX]at h1;exact h1
 have dQ:aQ (bn<=1000->∀V A4 k4,ib V V.heap.size A4 bn k4 (hH b)->aw prog 9 #[ah SY,af A4 bn k4] V fun e w'=>∃Ao oc,e=ao (.tuple #[af Ao na oc,ae aj E3])/\ib w' w'.heap.size Ao na oc (hH OL)/\aR V.heap.size V w'):=gW fun hl V A4 k4 h4=>by
  have h1:=HA V s ch m z A4 k4 b (by rw[<-bm];exact h4) (by omega);rw[<-eg,<-bm,<-ef,<-bE]at h1;exact h1.mono fun e w' ⟨Ao,on,oc,e1,e2,e3,e4⟩=>⟨Ao,oc,by rw[cO,<-e2];exact e1,by rw[cO,<-e2];exact e3,e4⟩
 have dR:aQ (bn<=1000->∀V,aR w.heap.size w V->aw prog 21 #[ah SY,af A bn c] V fun e w'=>∃Ao oc,e=ao (.tuple #[af Ao na oc,ae aj E3])/\ib w' w'.heap.size Ao na oc (hH OL)/\aR V.heap.size V w'):=gW fun hl V hV=>by
  have h1:=O7 V s ch m z A c b ((rb.below hV gY).more hV.size) (by omega);rw[<-eg,<-bm,<-ef,<-bE]at h1;exact h1.mono fun e w' ⟨Ao,on,oc,e1,e2,e3,e4⟩=>⟨Ao,oc,by rw[cO,<-e2];exact e1,by rw[cO,<-e2];exact e3,e4⟩
 have fZ:=gW HC;have fa:=gW HS
 rw[<-bm]
 clear HN HW HA HC HS hp hX bE hZ cL rb bm ea eb ec ed ef eg cO dM
 cases hg:oB p.hist.length p.wait.length bn with
 |true=>
  have eh:aQ (∀V:aq,aw prog 17 #[ah X,af A bn c] V fun e w'=>e=ao (ai true)/\aR V.heap.size V w'):=gW (hg▸cN.out);clear hg;go_enter func4,ntmps4
  go_wp2_with (first
   |(rw[<-eX.out];refine aE rfl _ _ rfl (w.heap.size) rfl _ X (0,0) _ aW.out underlying32 rfl (by rw[bF.out];exact iF) ?_)
   |fail)
  refine(eh.out W0).mono ?_;rintro e W1 ⟨rfl,a7⟩;have fb:=gW a7;have cP:aQ (aR w.heap.size w W1):=gW (dv.out.trans (a7.mono dv.out.size));have a5:aQ (gZ W1 (w.heap.size) X 32):=gW (aW.out.below a7 aW.out.lt);have bp:aQ (gZ W1 (w.heap.size+1) SY 27):=gW (a4.out.below a7 a4.out.lt);clear a7;go_wp2;go_ret;exact⟨rfl,cP.out⟩
 |false=>
  have eh:aQ (∀V:aq,aw prog 17 #[ah X,af A bn c] V fun e w'=>e=ao (ai false)/\aR V.heap.size V w'):=gW (hg▸cN.out);obtain⟨ga,gb,gS⟩:=Lm hg;have gd:=gW (dN.out ⟨by omega,by omega⟩);have gf:=gW (dO.out ⟨by omega,by omega,by omega⟩);have gg:=gW (dP.out (by omega));have gi:=gW (dQ.out (by omega));have gj:=gW (dR.out (by omega))
  obtain⟨nw,fc⟩:=gX (RW.2.length);obtain⟨hx,fe⟩:=gX (RW.1.hist.length);obtain⟨hu,ff⟩:=gX (RW.1.wait.length);have ei:=gW fc;have ej:=gW fe;have ek:=gW ff
  clear hg ga gb dN dO dP dQ dR cN fc fe ff;go_enter func4,ntmps4
  go_wp2_with (first
   |(rw[<-eX.out];refine aE rfl _ _ rfl (w.heap.size) rfl _ X (0,0) _ aW.out underlying32 rfl (by rw[bF.out];exact iF) ?_)
   |fail)
  refine(eh.out W0).mono ?_;rintro e W1 ⟨rfl,a7⟩;have fb:=gW a7;have cP:aQ (aR w.heap.size w W1):=gW (dv.out.trans (a7.mono dv.out.size));have a5:aQ (gZ W1 (w.heap.size) X 32):=gW (aW.out.below a7 aW.out.lt);have bp:aQ (gZ W1 (w.heap.size+1) SY 27):=gW (a4.out.below a7 a4.out.lt);clear a7;go_wp2_with (first
   |(refine aE rfl _ _ rfl (w.heap.size) rfl _ X (0,0) _ a5.out underlying32 rfl (by rw[bF.out];exact iF) ?_)
   |fail)
  refine(gd.out W1 cP.out).mono ?_;rintro e w2 ⟨bG,bH,bI,bJ,bK,bL,rfl,r2,dy⟩;obtain⟨Y2,cQ⟩:=gX (iA p bG bH bI bJ bK bL);have a8:aQ (Y2.size=9):=gW (by rw[cQ];rfl);have fg:aQ (Y2.all (·.oneCell')=true):=gW (by rw[cQ];exact kW ..);have bM:=gW cQ;obtain⟨W2,dz⟩:=gX (iP w2 Z Y2 32);have bq:aQ (gZ W2 w2.heap.size Y2 32):=gW (by rw[dz];exact lq _ _ _ _);have en:aR w2.heap.size w2 W2:=by rw[dz];exact kU _ _ _ _
  have cR:aR W1.heap.size W1 W2:=dy.trans (en.mono dy.size);have gM:=gW cR;have gN:aQ (W1.heap.size<=w2.heap.size/\w2.heap.size<W2.heap.size):=gW ⟨dy.size,bq.out.lt⟩;have bZ:aQ (aR w.heap.size w W2):=gW (cP.out.trans (cR.mono cP.out.size));have eo:aQ (iD W2 W2.heap.size p bG bH bI bJ bK bL):=gW (r2.on en);have b4:aQ (gZ W2 (w.heap.size) X 32):=gW (a5.out.below cR a5.out.lt);have b5:aQ (gZ W2 (w.heap.size+1) SY 27):=gW (bp.out.below cR bp.out.lt);have gl:=gW dz;rw[<-cQ];clear dz dy r2 en cR cQ;obtain⟨A3,c3,W3,dS,dT,cF,_⟩:=qo W2 W2.heap.size A bn c (hH b) (by have:=(dx.out W2 bZ.out).1;rwa[<-eZ.out]at this) (by omega) 22 (dx.out W2 bZ.out).2.1;have cS:=gW cF;have fh:aQ (aR w.heap.size w W3):=gW (bZ.out.trans (cF.mono bZ.out.size));have fi:aQ (ib W3 W3.heap.size A3 bn c3 (hH b)):=gW (ib.iI dT (dx.out W2 bZ.out).1.1);have fj:=gW dS;have b6:aQ (gZ W3 (w.heap.size) X 32):=gW (b4.out.below cF b4.out.lt);have br:aQ (gZ W3 (w.heap.size+1) SY 27):=gW (b5.out.below cF b5.out.lt);have b7:aQ (gZ W3 (w2.heap.size) Y2 32):=gW (bq.out.below cF bq.out.lt);clear dS dT cF;go_wp2_with (first
   |(refine aC rfl _ _ _ rfl rfl w2.heap.size Y2 rfl rfl 32 Z (aG w2 _) (by rw[a8.out];exact iF) (by rw[cM.out,a8.out]) fg.out ?_;rw[show(w2.alloc (ak Z 32)).setRow w2.heap.size Y2=iP w2 Z Y2 32 from rfl,<-gl.out])
   |(at_builtin;refine wpList_append_run rfl (.const (af none 0 0)) (.tmp 32) 22 rfl (af none 0 0) (af A bn c) (af A3 bn c3) W3 rfl rfl fj.out ?_)
   |(refine aE rfl _ _ rfl (w.heap.size+1) rfl _ SY (0,0) _ br.out underlying27 rfl (by rw[b3.out];exact oy) ?_)
   |fail)
  refine(fX.out W3).mono ?_;rintro e w5 ⟨ep,er,et,eu,ev,ew,rfl,r5,ey⟩;obtain⟨Y5,cT⟩:=gX (iA pn ep er et eu ev ew);have cU:aQ (Y5.size=9):=gW (by rw[cT];rfl);have fk:aQ (Y5.all (·.oneCell')=true):=gW (by rw[cT];exact kW ..);have fl:=gW cT;obtain⟨W5,dA⟩:=gX (iP w5 Z Y5 32);have b8:aQ (gZ W5 w5.heap.size Y5 32):=gW (by rw[dA];exact lq _ _ _ _);have ez:aR w5.heap.size w5 W5:=by rw[dA];exact kU _ _ _ _
  have cG:aR W3.heap.size W3 W5:=ey.trans (ez.mono ey.size);have bN:=gW cG;have fm:aQ (aR w.heap.size w W5):=gW (fh.out.trans (cG.mono fh.out.size));have gm:aQ (iD W5 W5.heap.size pn ep er et eu ev ew):=gW (r5.on ez);have b9:aQ (gZ W5 (w.heap.size) X 32):=gW (b6.out.below cG b6.out.lt);have bt:aQ (gZ W5 (w.heap.size+1) SY 27):=gW (br.out.below cG br.out.lt);have ca:aQ (gZ W5 (w2.heap.size) Y2 32):=gW (b7.out.below cG b7.out.lt);have gn:=gW dA;rw[<-cT];clear dA ey r5 ez cG cT;go_wp2_with (first
   |(refine aC rfl _ _ _ rfl rfl w5.heap.size Y5 rfl rfl 32 Z (aG w5 _) (by rw[cU.out];exact iF) (by rw[cM.out,cU.out]) fk.out ?_;rw[show(w5.alloc (ak Z 32)).setRow w5.heap.size Y5=iP w5 Z Y5 32 from rfl,<-gn.out])
   |(refine aE rfl _ _ rfl (w.heap.size+1) rfl _ SY (0,0) _ bt.out underlying27 rfl (by rw[b3.out];exact oy) ?_)
   |fail)
  refine(fY.out W5).mono ?_;rintro e w6 ⟨eA,eB,eC,eD,eE,eF,rfl,r6,eG⟩;obtain⟨Y6,cV⟩:=gX (iA pn eA eB eC eD eE eF);have cW:aQ (Y6.size=9):=gW (by rw[cV];rfl);have fp:aQ (Y6.all (·.oneCell')=true):=gW (by rw[cV];exact kW ..);have fq:=gW cV;obtain⟨W6,dB⟩:=gX (iP w6 Z Y6 32);have cb:aQ (gZ W6 w6.heap.size Y6 32):=gW (by rw[dB];exact lq _ _ _ _);have eH:aR w6.heap.size w6 W6:=by rw[dB];exact kU _ _ _ _
  have b0:aR W5.heap.size W5 W6:=eG.trans (eH.mono eG.size);have bk:=gW b0;have dC:aQ (aR w.heap.size w W6):=gW (fm.out.trans (b0.mono fm.out.size));have gp:aQ (iD W6 W6.heap.size pn eA eB eC eD eE eF):=gW (r6.on eH);have a6:aQ (gZ W6 (w.heap.size) X 32):=gW (b9.out.below b0 b9.out.lt);have cf:aQ (gZ W6 (w.heap.size+1) SY 27):=gW (bt.out.below b0 bt.out.lt);have aY:aQ (gZ W6 (w2.heap.size) Y2 32):=gW (ca.out.below b0 ca.out.lt);have cg:aQ (gZ W6 (w5.heap.size) Y5 32):=gW (b8.out.below b0 b8.out.lt);have gq:=gW dB;rw[<-cV];clear dB eG r6 eH b0 cV;have cX:aQ (ib W6 W6.heap.size A3 bn c3 (hH b)):=gW ((fi.out.below (jt bN.out bk.out) gY).more (jt bN.out bk.out).size);have eI:=gf.out W6 bG bH bI bJ bK bL A3 c3 (((eo.out.on cS.out).on bN.out).on bk.out) cX.out;rw[<-bM.out]at eI;have gu:=gW eI;clear eI;go_wp2_with (first
   |(refine aC rfl _ _ _ rfl rfl w6.heap.size Y6 rfl rfl 32 Z (aG w6 _) (by rw[cW.out];exact iF) (by rw[cM.out,cW.out]) fp.out ?_;rw[show(w6.alloc (ak Z 32)).setRow w6.heap.size Y6=iP w6 Z Y6 32 from rfl,<-gq.out])
   |(refine aE rfl _ _ rfl (w2.heap.size) rfl _ Y2 (0,0) _ aY.out underlying32 rfl (by rw[a8.out];exact iF) ?_)
   |fail)
  refine gu.out.mono ?_;rintro e w7 ⟨a3,bO,a2,bP,cY,cZ,gv,fr,rfl,r7,ft,dD,fu,fv⟩;obtain⟨Y7,c8⟩:=gX (iA RW.1 a3 bO a2 bP cY cZ);have cj:aQ (Y7.size=9):=gW (by rw[c8];rfl);have fw:aQ (Y7.all (·.oneCell')=true):=gW (by rw[c8];exact kW ..);have ck:=gW c8;obtain⟨W7,dE⟩:=gX (iP w7 Z Y7 32);have bu:aQ (gZ W7 w7.heap.size Y7 32):=gW (by rw[dE];exact lq _ _ _ _);have b1:aR w7.heap.size w7 W7:=by rw[dE];exact kU _ _ _ _
  have bQ:aR W6.heap.size W6 W7:=dD.trans (b1.mono dD.size);have bl:=gW bQ;have gO:aQ (W6.heap.size<=w7.heap.size/\w7.heap.size<W7.heap.size):=gW ⟨dD.size,bu.out.lt⟩;have eJ:aQ (aR w.heap.size w W7):=gW (dC.out.trans (bQ.mono dC.out.size));have cH:aQ (iD W7 W7.heap.size RW.1 a3 bO a2 bP cY cZ):=gW (r7.on b1);have fx:aQ (ib W7 W7.heap.size gv RW.2.length fr (hH RW.2)):=gW ((ft.below b1 gY).more b1.size);have fy:aQ (lO W7 W6.heap.size a3 RW.1.hist.length):=gW ((lO.of fu r7.hist.1).below b1 gY);have fz:aQ (lO W7 W6.heap.size a2 RW.1.wait.length):=gW ((lO.of fv r7.wait.1).below b1 gY);clear fv;have gP:aQ (∀g o,0<RW.1.hist.length->a3=some ⟨g,o,none⟩->g<w7.heap.size):=gW fun g o h0 e=>by
   obtain⟨b,o',e2,hb,_⟩:=r7.hist.1.2 h0;rw[e2]at e;injection e with e;injection e with e1 _ _;omega
  have bz:aQ (gZ W7 (w.heap.size) X 32):=gW (a6.out.below bQ a6.out.lt);have cl:aQ (gZ W7 (w2.heap.size) Y2 32):=gW (aY.out.below bQ aY.out.lt);have cm:aQ (gZ W7 (w5.heap.size) Y5 32):=gW (cg.out.below bQ cg.out.lt);have cn:aQ (gZ W7 (w6.heap.size) Y6 32):=gW (cb.out.below bQ cb.out.lt);have cp:aQ (gZ W7 (w.heap.size+1) SY 27):=gW (cf.out.below bQ cf.out.lt);have gw:=gW dE;rw[<-c8,<-ei.out];clear dE dD r7 ft fu b1 bQ c8;go_wp2_with (first
   |(refine aC rfl _ _ _ rfl rfl w7.heap.size Y7 rfl rfl 32 Z (aG w7 _) (by rw[cj.out];exact iF) (by rw[cM.out,cj.out]) fw.out ?_;rw[show(w7.alloc (ak Z 32)).setRow w7.heap.size Y7=iP w7 Z Y7 32 from rfl,<-gw.out])
   |(refine aE rfl _ _ rfl (w.heap.size) rfl _ X (0,0) _ bz.out underlying32 rfl (by rw[bF.out];exact iF) ?_)
   |fail)
  refine(gg.out W7 eJ.out).mono ?_;rintro e w8 ⟨c9,da,db,dc,dd,de,gx,fA,rfl,r8,fB,dF⟩;obtain⟨Y8,df⟩:=gX (iA RW.1 c9 da db dc dd de);have cq:aQ (Y8.size=9):=gW (by rw[df];rfl);have fC:aQ (Y8.all (·.oneCell')=true):=gW (by rw[df];exact kW ..);have dU:=gW df;obtain⟨W8,dG⟩:=gX (iP w8 Z Y8 32);have bA:aQ (gZ W8 w8.heap.size Y8 32):=gW (by rw[dG];exact lq _ _ _ _);have dg:aR w8.heap.size w8 W8:=by rw[dG];exact kU _ _ _ _
  have bB:aR W7.heap.size W7 W8:=dF.trans (dg.mono dF.size);have aX:=gW bB;have gQ:aQ (W7.heap.size<=w8.heap.size/\w8.heap.size<W8.heap.size):=gW ⟨dF.size,bA.out.lt⟩;have fD:aQ (aR w.heap.size w W8):=gW (eJ.out.trans (bB.mono eJ.out.size));have fE:aQ (iD W8 W8.heap.size RW.1 c9 da db dc dd de):=gW (r8.on dg);have fF:aQ (ib W8 W8.heap.size gx RW.2.length fA (hH RW.2)):=gW ((fB.below dg gY).more dg.size);have cr:aQ (gZ W8 (w.heap.size) X 32):=gW (bz.out.below bB bz.out.lt);have ct:aQ (gZ W8 (w2.heap.size) Y2 32):=gW (cl.out.below bB cl.out.lt);have cu:aQ (gZ W8 (w5.heap.size) Y5 32):=gW (cm.out.below bB cm.out.lt);have cv:aQ (gZ W8 (w6.heap.size) Y6 32):=gW (cn.out.below bB cn.out.lt);have cw:aQ (gZ W8 (w7.heap.size) Y7 32):=gW (bu.out.below bB bu.out.lt);have bC:aQ (gZ W8 (w.heap.size+1) SY 27):=gW (cp.out.below bB cp.out.lt);have gy:=gW dG;rw[<-df,<-ei.out];clear dG dF r8 fB dg bB df;have fG:=gi.out W8 A3 c3 ((cX.out.below (jt bl.out aX.out) gY).more (jt bl.out aX.out).size);have gA:=gW fG;clear fG;go_wp2_with (first
   |(refine aC rfl _ _ _ rfl rfl w8.heap.size Y8 rfl rfl 32 Z (aG w8 _) (by rw[cq.out];exact iF) (by rw[cM.out,cq.out]) fC.out ?_;rw[show(w8.alloc (ak Z 32)).setRow w8.heap.size Y8=iP w8 Z Y8 32 from rfl,<-gy.out])
   |(refine aE rfl _ _ rfl (w.heap.size+1) rfl _ SY (0,0) _ bC.out underlying27 rfl (by rw[b3.out];exact oy) ?_)
   |fail)
  refine gA.out.mono ?_;rintro e W9 ⟨gT,gB,rfl,fH,bj⟩;have fI:=gW fH;have aV:=gW bj;have eK:aQ (aR w.heap.size w W9):=gW (fD.out.trans (bj.mono fD.out.size));have cx:aQ (gZ W9 (w.heap.size) X 32):=gW (cr.out.below bj cr.out.lt);have dH:aQ (gZ W9 (w.heap.size+1) SY 27):=gW (bC.out.below bj bC.out.lt);have cy:aQ (gZ W9 (w2.heap.size) Y2 32):=gW (ct.out.below bj ct.out.lt);have cz:aQ (gZ W9 (w5.heap.size) Y5 32):=gW (cu.out.below bj cu.out.lt);have cA:aQ (gZ W9 (w6.heap.size) Y6 32):=gW (cv.out.below bj cv.out.lt);have cB:aQ (gZ W9 (w7.heap.size) Y7 32):=gW (cw.out.below bj cw.out.lt);have cC:aQ (gZ W9 (w8.heap.size) Y8 32):=gW (bA.out.below bj bA.out.lt);clear bj fH;go_wp2_with (first
   |(refine aE rfl _ _ rfl (w.heap.size+1) rfl _ SY (0,0) _ dH.out underlying27 rfl (by rw[b3.out];exact oy) ?_)
   |fail)
  refine(gj.out W9 eK.out).mono ?_;rintro e bR ⟨gR,fJ,rfl,dV,aZ⟩;have eL:=gW dV;have ad:=gW aZ;have dW:aQ (aR w.heap.size w bR):=gW (eK.out.trans (aZ.mono eK.out.size));have bS:aQ (gZ bR (w.heap.size) X 32):=gW (cx.out.below aZ cx.out.lt);have bT:aQ (gZ bR (w2.heap.size) Y2 32):=gW (cy.out.below aZ cy.out.lt);have dh:aQ (gZ bR (w5.heap.size) Y5 32):=gW (cz.out.below aZ cz.out.lt);have di:aQ (gZ bR (w6.heap.size) Y6 32):=gW (cA.out.below aZ cA.out.lt);have bU:aQ (gZ bR (w7.heap.size) Y7 32):=gW (cB.out.below aZ cB.out.lt);have bV:aQ (gZ bR (w8.heap.size) Y8 32):=gW (cC.out.below aZ cC.out.lt);clear aZ dV;have eM:=v7 bR pn pn ep er et eu ev ew eA eB eC eD eE eF (((((gm.out.on bk.out).on bl.out).on aX.out).on aV.out).on ad.out) ((((gp.out.on bl.out).on aX.out).on aV.out).on ad.out);rw[wE,<-fl.out,<-fq.out]at eM;have gC:=gW eM;clear eM;go_wp2_with (first
   |(refine aE rfl _ _ rfl (w5.heap.size) rfl _ Y5 (0,0) _ dh.out underlying32 rfl (by rw[cU.out];exact iF) ?_)
   |(refine aE rfl _ _ rfl (w6.heap.size) rfl _ Y6 (0,0) _ di.out underlying32 rfl (by rw[cW.out];exact iF) ?_)
   |fail)
  refine gC.out.mono ?_;rintro e cI ⟨rfl,a9⟩;have av:=gW a9;have dX:aQ (aR w.heap.size w cI):=gW (dW.out.trans (a9.mono dW.out.size));have bW:aQ (gZ cI (w.heap.size) X 32):=gW (bS.out.below a9 bS.out.lt);have bX:aQ (gZ cI (w2.heap.size) Y2 32):=gW (bT.out.below a9 bT.out.lt);have bd:aQ (gZ cI (w7.heap.size) Y7 32):=gW (bU.out.below a9 bU.out.lt);have bf:aQ (gZ cI (w8.heap.size) Y8 32):=gW (bV.out.below a9 bV.out.lt);clear a9;have eN:=v7 cI RW.1 RW.1 a3 bO a2 bP cY cZ c9 da db dc dd de ((((cH.out.on aX.out).on aV.out).on ad.out).on av.out) (((fE.out.on aV.out).on ad.out).on av.out);rw[wE,<-ck.out,<-dU.out]at eN;have gD:=gW eN;have fK:(E1==E1)=true:=by simp
  have fL:(E2==E2)=true:=by simp
  have fM:(E3==E3)=true:=by simp
  clear eN;go_wp2_with (first
   |(refine tz (by rfl) _ _ rfl (w7.heap.size) rfl _ Y7 (0,0) _ bd.out underlying32 rfl (by rw[cj.out];exact iF) ?_)
   |(refine tz (by rfl) _ _ rfl (w8.heap.size) rfl _ Y8 (0,0) _ bf.out underlying32 rfl (by rw[cq.out];exact iF) ?_)
   |fail)
  refine gD.out.mono ?_;rintro e al ⟨rfl,bg⟩;have aU:=gW bg;have dY:aQ (aR w.heap.size w al):=gW (dX.out.trans (bg.mono dX.out.size));have aS:aQ (gZ al (w.heap.size) X 32):=gW (bW.out.below bg bW.out.lt);have aT:aQ (gZ al (w2.heap.size) Y2 32):=gW (bX.out.below bg bX.out.lt);have a1:aQ (gZ al (w7.heap.size) Y7 32):=gW (bd.out.below bg bd.out.lt);have bY:aQ (gZ al (w8.heap.size) Y8 32):=gW (bf.out.below bg bf.out.lt);clear bg;have t1:=nW (fx.out.below (jt (jt (jt (jt aX.out aV.out) ad.out) av.out) aU.out) gY).1 fr;have t2:=nW (fF.out.below (jt (jt (jt aV.out ad.out) av.out) aU.out) gY).1 fA;have t3:=nW (fI.out.below (jt (jt ad.out av.out) aU.out) gY).1 gB;have t4:=nW (eL.out.below (jt av.out aU.out) gY).1 fJ;rw[<-ei.out]at t1 t2;obtain⟨ZF,fN⟩:=gX (lg nw (hH RW.2));rw[<-fN]at t1 t2;obtain⟨ZE,fO⟩:=gX (lg na (hH OL));rw[<-fO]at t3 t4;obtain⟨K0,eO⟩:=gX (ru p);obtain⟨SB,eP⟩:=gX (kI p RW.1);have dj:=(jt (jt (jt (jt (jt (jt (jt (jt cS.out bN.out) bk.out) bl.out) aX.out) aV.out) ad.out) av.out) aU.out);have dk:=(jt (jt (jt (jt aX.out aV.out) ad.out) av.out) aU.out);have dm:=(jt (jt (jt aV.out ad.out) av.out) aU.out);have dI:∀V,aR al.heap.size al V->iD V V.heap.size p bG bH bI bJ bK bL:=fun V hV=>(eo.out.on dj).on hV
  have fP:∀V,aR al.heap.size al V->iD V V.heap.size RW.1 a3 bO a2 bP cY cZ:=fun V hV=>(cH.out.on dk).on hV
  have fQ:∀V,aR al.heap.size al V->iD V V.heap.size RW.1 c9 da db dc dd de:=fun V hV=>(fE.out.on dm).on hV
  have dJ:∀V,aR al.heap.size al V->iD V V.heap.size p Ah hc Aw wc Ap pc:=fun V hV=>eY.out V (dY.out.trans (hV.mono dY.out.size))
  have C1:aQ (∀V,aR al.heap.size al V->aw prog 16 #[ah Y2] V fun e w'=>e=ao (ae aj K0)/\aR V.heap.size V w'):=gW fun V hV=>by rw[bM.out,eO];exact fZ.out V p bG bH bI bJ bK bL (dI V hV)
  have C2:aQ (∀V,aR al.heap.size al V->aw prog 23 #[ah X] V fun e w'=>e=ao (ae aj K0)/\aR V.heap.size V w'):=gW fun V hV=>by rw[dw.out,eO];exact JG V p Ah hc Aw wc Ap pc (dJ V hV)
  have C3:aQ (∀V,aR al.heap.size al V->aw prog 24 #[ah Y2,ah Y7] V fun e w'=>e=ao (ai SB)/\aR V.heap.size V w'):=gW fun V hV=>by rw[bM.out,ck.out,eP];exact fa.out V p RW.1 bG bH bI bJ bK bL a3 bO a2 bP cY cZ (dI V hV) (fP V hV)
  have C4:aQ (∀V,aR al.heap.size al V->aw prog 22 #[ah X,ah Y8] V fun e w'=>e=ao (ai SB)/\aR V.heap.size V w'):=gW fun V hV=>by rw[dw.out,dU.out,eP];exact v7 V p RW.1 Ah hc Aw wc Ap pc c9 da db dc dd de (dJ V hV) (fQ V hV)
  have C5:aQ (∀V,aR al.heap.size al V->aw prog 24 #[ah Y2,ah X] V fun e w'=>e=ao (ai true)/\aR V.heap.size V w'):=gW fun V hV=>by
   have h1:=fa.out V p p bG bH bI bJ bK bL Ah hc Aw wc Ap pc (dI V hV) (dJ V hV);rw[wE]at h1;rw[bM.out,dw.out];exact h1
  clear fN fO eO eP dj dk dm dI fP fQ dJ;go_wp2;clear t1 t2 t3 t4 fK fL fM;refine tt (nM [fun v _=>v=ah Y2,fun v _=>v=ae aj K0,fun v _=>v=ah X,fun v _=>v=ae aj K0,fun v _=>v=ai true,fun v _=>v=ai true,fun v _=>v=ah Y2,fun v _=>v=ah Y7,fun v _=>v=ai SB,fun v _=>v=ah X,fun v _=>v=ah Y8,fun v _=>v=ai SB,fun v _=>v=ai true,fun v _=>v=ai true,fun v _=>v=ai true,fun v _=>v=ah Y2,fun v _=>v=ah X,fun v _=>v=ai true,fun v _=>v=ai true,fun v _=>v=ai true]) al ix (by kernel_rfl) (by kernel_rfl) ?_ ?_
  case refine_1=>
   refine ia.cons (fun aa wv hb ha hS Kk Qq hK=>nN (ic rfl) _ _ rfl (w2.heap.size) 0 ((ha 7 (by kernel_rfl)).trans rfl) Y2.toList _ (p9 ((aT.out).below hb aT.out.lt)) underlying32 rfl (by rw[Array.length_toList,a8.out];exact iF) (ij rfl) hK) ?_;refine ia.cons (fun aa wv hb ha hS Kk Qq hK=>mq (ic rfl) 16 _ _ rfl (enters_of func16 (by kernel_rfl) rfl) #[ah Y2] (by simp[(show aa.eval (.tmp 107)=ah Y2 from(hS 0 107 (by kernel_rfl) rfl).here)]) (C1.out wv hb) (fun ee w' ⟨h1,h2⟩=>⟨_,h1,h2,ij rfl⟩) hK) ?_;refine ia.cons (fun aa wv hb ha hS Kk Qq hK=>nN (ic rfl) _ _ rfl (w.heap.size) 0 ((ha 3 (by kernel_rfl)).trans rfl) X.toList _ (p9 ((aS.out).below hb aS.out.lt)) underlying32 rfl (by rw[Array.length_toList,bF.out];exact iF) (ij rfl) hK) ?_;refine ia.cons (fun aa wv hb ha hS Kk Qq hK=>mq (ic rfl) 23 _ _ rfl (enters_of func23 (by kernel_rfl) rfl) #[ah X] (by simp[(show aa.eval (.tmp 109)=ah X from(hS 2 109 (by kernel_rfl) rfl).here)]) (C2.out wv hb) (fun ee w' ⟨h1,h2⟩=>⟨_,h1,h2,ij rfl⟩) hK) ?_;refine ia.cons (fun aa wv hb ha hS Kk Qq hK=>qD (ic rfl) _ _ _ _ _ rfl _ _ _ (hS 1 108 (by kernel_rfl) rfl).here (hS 3 110 (by kernel_rfl) rfl).here (JU ..) (JV ..) (ij rfl) hK) ?_;refine ia.cons (fun aa wv hb ha hS Kk Qq hK=>iS (ic rfl) _ rfl (hS 4 111 (by kernel_rfl) rfl) hK) ?_;refine ia.cons (fun aa wv hb ha hS Kk Qq hK=>nN (p7 5 true rfl 112 rfl (hS 5 112 (by kernel_rfl) rfl).here) _ _ rfl (w2.heap.size) 0 ((ha 7 (by kernel_rfl)).trans rfl) Y2.toList _ (p9 ((aT.out).below hb aT.out.lt)) underlying32 rfl (by rw[Array.length_toList,a8.out];exact iF) (ij rfl) hK) ?_;refine ia.cons (fun aa wv hb ha hS Kk Qq hK=>nN (p7 5 true rfl 112 rfl (hS 5 112 (by kernel_rfl) rfl).here) _ _ rfl (w7.heap.size) 0 ((ha 13 (by kernel_rfl)).trans rfl) Y7.toList _ (p9 ((a1.out).below hb a1.out.lt)) underlying32 rfl (by rw[Array.length_toList,cj.out];exact iF) (ij rfl) hK) ?_;refine ia.cons (fun aa wv hb ha hS Kk Qq hK=>mq (p7 5 true rfl 112 rfl (hS 5 112 (by kernel_rfl) rfl).here) 24 _ _ rfl (enters_of func24 (by kernel_rfl) rfl) #[ah Y2,ah Y7] (by simp[(show aa.eval (.tmp 113)=ah Y2 from(hS 6 113 (by kernel_rfl) rfl).here),(show aa.eval (.tmp 114)=ah Y7 from(hS 7 114 (by kernel_rfl) rfl).here)]) (C3.out wv hb) (fun ee w' ⟨h1,h2⟩=>⟨_,h1,h2,ij rfl⟩) hK) ?_;refine ia.cons (fun aa wv hb ha hS Kk Qq hK=>nN (p7 5 true rfl 112 rfl (hS 5 112 (by kernel_rfl) rfl).here) _ _ rfl (w.heap.size) 0 ((ha 3 (by kernel_rfl)).trans rfl) X.toList _ (p9 ((aS.out).below hb aS.out.lt)) underlying32 rfl (by rw[Array.length_toList,bF.out];exact iF) (ij rfl) hK) ?_;refine ia.cons (fun aa wv hb ha hS Kk Qq hK=>nN (p7 5 true rfl 112 rfl (hS 5 112 (by kernel_rfl) rfl).here) _ _ rfl (w8.heap.size) 0 ((ha 16 (by kernel_rfl)).trans rfl) Y8.toList _ (p9 ((bY.out).below hb bY.out.lt)) underlying32 rfl (by rw[Array.length_toList,cq.out];exact iF) (ij rfl) hK) ?_;refine ia.cons (fun aa wv hb ha hS Kk Qq hK=>mq (p7 5 true rfl 112 rfl (hS 5 112 (by kernel_rfl) rfl).here) 22 _ _ rfl (enters_of func22 (by kernel_rfl) rfl) #[ah X,ah Y8] (by simp[(show aa.eval (.tmp 116)=ah X from(hS 9 116 (by kernel_rfl) rfl).here),(show aa.eval (.tmp 117)=ah Y8 from(hS 10 117 (by kernel_rfl) rfl).here)]) (C4.out wv hb) (fun ee w' ⟨h1,h2⟩=>⟨_,h1,h2,ij rfl⟩) hK) ?_;refine ia.cons (fun aa wv hb ha hS Kk Qq hK=>qD (p7 5 true rfl 112 rfl (hS 5 112 (by kernel_rfl) rfl).here) _ _ _ _ _ rfl _ _ _ (hS 8 115 (by kernel_rfl) rfl).here (hS 11 118 (by kernel_rfl) rfl).here (Pc ..) (Pd ..) (ij rfl) hK) ?_;refine ia.cons (fun aa wv hb ha hS Kk Qq hK=>DC (ic rfl) _ _ _ rfl true (hS 5 112 (by kernel_rfl) rfl).here (hS 12 119 (by kernel_rfl) rfl) hK) ?_;refine ia.cons (fun aa wv hb ha hS Kk Qq hK=>iS (ic rfl) _ rfl (hS 13 120 (by kernel_rfl) rfl) hK) ?_
   refine ia.cons (fun aa wv hb ha hS Kk Qq hK=>nN (p7 14 true rfl 121 rfl (hS 14 121 (by kernel_rfl) rfl).here) _ _ rfl (w2.heap.size) 0 ((ha 7 (by kernel_rfl)).trans rfl) Y2.toList _ (p9 ((aT.out).below hb aT.out.lt)) underlying32 rfl (by rw[Array.length_toList,a8.out];exact iF) (ij rfl) hK) ?_;refine ia.cons (fun aa wv hb ha hS Kk Qq hK=>nN (p7 14 true rfl 121 rfl (hS 14 121 (by kernel_rfl) rfl).here) _ _ rfl (w.heap.size) 0 ((ha 3 (by kernel_rfl)).trans rfl) X.toList _ (p9 ((aS.out).below hb aS.out.lt)) underlying32 rfl (by rw[Array.length_toList,bF.out];exact iF) (ij rfl) hK) ?_;refine ia.cons (fun aa wv hb ha hS Kk Qq hK=>mq (p7 14 true rfl 121 rfl (hS 14 121 (by kernel_rfl) rfl).here) 24 _ _ rfl (enters_of func24 (by kernel_rfl) rfl) #[ah Y2,ah X] (by simp[(show aa.eval (.tmp 122)=ah Y2 from(hS 15 122 (by kernel_rfl) rfl).here),(show aa.eval (.tmp 123)=ah X from(hS 16 123 (by kernel_rfl) rfl).here)]) (C5.out wv hb) (fun ee w' ⟨h1,h2⟩=>⟨_,h1,h2,ij rfl⟩) hK) ?_;refine ia.cons (fun aa wv hb ha hS Kk Qq hK=>DC (ic rfl) _ _ _ rfl true (hS 14 121 (by kernel_rfl) rfl).here (hS 17 124 (by kernel_rfl) rfl) hK) ?_;refine ia.cons (fun aa wv hb ha hS Kk Qq hK=>tu (ic rfl) _ rfl (hS 18 125 (by kernel_rfl) rfl) hK) ?_;exact ia.nil
  intro vals dK cD hv;have fR:vals 24=ai true:=(hv 19 24 rfl).here;have dn:=(jt (jt (jt (jt (jt bl.out aX.out) aV.out) ad.out) av.out) aU.out);have eQ:aQ (aR W6.heap.size W6 dK):=gW (jt dn cD);have b2:=jt (jt (jt (jt (jt aX.out aV.out) ad.out) av.out) aU.out) cD;have eR:aQ (lO dK W6.heap.size a3 hx):=gW (by rw[ej.out];exact fy.out.below b2 gY);have eS:aQ (lO dK W6.heap.size a2 hu):=gW (by rw[ek.out];exact fz.out.below b2 gY);have dp:aQ (gZ dK w7.heap.size Y7 32):=gW (a1.out.below cD a1.out.lt);have gE:aQ (Y7[4]?=some (af a3 hx bO)):=gW (by rw[ck.out,ej.out];rfl);have gF:aQ (Y7[5]?=some (af a2 hu bP)):=gW (by rw[ck.out,ek.out];rfl);have gU:hx<=9223372036854775807:=by have h1:=cH.out.hist.2.2.1;have h2:=cH.out.hist.2.2.2;unfold maxLen at h2;rw[ej.out];omega
  have gV:hu<=9223372036854775807:=by have h1:=cH.out.wait.2.2.1;have h2:=cH.out.wait.2.2.2;unfold maxLen at h2;rw[ek.out];omega
  have gG:aQ (∀V,aR W2.heap.size W2 V->aw prog 22 #[ah Y2,ah X] V fun e w'=>e=ao (ai true)/\aR V.heap.size V w'):=gW fun V hV=>by
   have h1:=v7 V p p bG bH bI bJ bK bL Ah hc Aw wc Ap pc (eo.out.on hV) (eY.out V (bZ.out.trans (hV.mono bZ.out.size)));rw[wE,<-bM.out,<-dw.out]at h1;exact h1
  clear dn b2 cD hv;simp only[List.map_cons,List.map_nil,P5,Act.put,List.setIfInBounds_toArray,List.set_cons_zero,List.set_cons_succ,fR];clear fR;go_wp2;go_loopw [25] (fun jv wr=>∃j:Nat,j<=hx/\jv=ae aj (j:Int)/\aQ (aR W6.heap.size W6 wr)/\aQ (lO wr W6.heap.size a3 hx)/\aQ (lO wr W6.heap.size a2 hu)/\aQ (gZ wr w7.heap.size Y7 32)) (fun jv _=>hx-(intOf jv).toNat)
  case atStart=>exact⟨0,Nat.zero_le _,rfl,eQ,eR,eS,dp⟩
  case round=>
   obtain⟨j,hj,rfl,HB,eT,cJ,bD⟩:=hrel;have kp:wr.cell? ⟨w7.heap.size,4,none⟩=some (af a3 hx bO):=bD.out.cell.trans gE.out;by_cases dL:j<hx
   ·have cE:(j:Int)<(hx:Int):=by omega
    obtain⟨g,o,cur,F',dq,hg,hh,hF,dr⟩:=eT.out (by omega);rw[dq]at kp;have c1:wr.cell? ⟨g,o+j,none⟩=some (ae .u8 (F' j:Int)):=by rw[cell_of_row wr g _ _ _ (0,0) hh];exact dr j dL
    have f1:wr.frozen? ⟨g,o+j,none⟩=false:=aO wr g _ _ _ hh;have n7:=Ef hh bD.out (by rfl);have eU:=hF j;obtain⟨u,dt⟩:=gX (F' j);rw[<-dt]at c1 eU;obtain⟨x,eV⟩:=gX ((u+1)%256);have gH:IntKind.u8.wrap ((u:Int)+1)=(x:Int):=by rw[IntKind.wrap_u8];omega
    have cK:x<256:=by omega
    have S1:aQ (lO (wr.drew.setCell ⟨g,o+j,none⟩ (ae .u8 (x:Int))) W6.heap.size a3 hx):=gW (lO.any (w:=wr.drew) eT.out g (o+j) x cK);have S2:aQ (lO (wr.drew.setCell ⟨g,o+j,none⟩ (ae .u8 (x:Int))) W6.heap.size a2 hu):=gW (lO.any (w:=wr.drew) cJ.out g (o+j) x cK);have S3:aQ (aR W6.heap.size W6 (wr.drew.setCell ⟨g,o+j,none⟩ (ae .u8 (x:Int)))):=gW (HB.out.drew.setCell (p:=⟨g,o+j,none⟩) hg (ae .u8 (x:Int)));have S4:aQ (gZ (wr.drew.setCell ⟨g,o+j,none⟩ (ae .u8 (x:Int))) w7.heap.size Y7 32):=gW (gZ.other (w:=wr.drew) bD.out n7 _);have kd:wr.drew.cell? ⟨w7.heap.size,4,none⟩=some (af (some ⟨g,o,none⟩) hx bO):=kp;have cd:wr.drew.cell? ⟨g,o+j,none⟩=some (ae .u8 (u:Int)):=c1;have fd:wr.drew.frozen? ⟨g,o+j,none⟩=false:=f1;clear dt eV hh dr hF n7 dq cK;go_wp2;go_region;all_goals(
     go_wp2;go_roundw
     case rel=>exact⟨j+1,by omega,by go_num,S3,S1,S2,S4⟩
     case measure=>simp[intOf];omega)
   ·obtain rfl:j=hx:=by omega
    have cE:¬(j:Int)<(j:Int):=by omega
    go_wp2;clear kp cE dL;go_loopw [26] (fun jv wr=>∃j:Nat,j<=hu/\jv=ae aj (j:Int)/\aQ (aR W6.heap.size W6 wr)/\aQ (lO wr W6.heap.size a2 hu)/\aQ (gZ wr w7.heap.size Y7 32)) (fun jv _=>hu-(intOf jv).toNat)
    case atStart=>exact⟨0,Nat.zero_le _,rfl,HB,cJ,bD⟩
    case round=>
     clear HB eT cJ bD;obtain⟨j,hj,rfl,HB,cJ,bD⟩:=hrel;have kp:wr.cell? ⟨w7.heap.size,5,none⟩=some (af a2 hu bP):=bD.out.cell.trans gF.out;by_cases dL:j<hu
     ·have cE:(j:Int)<(hu:Int):=by omega
      obtain⟨g,o,cur,F',dq,hg,hh,hF,dr⟩:=cJ.out (by omega);rw[dq]at kp;have c1:wr.cell? ⟨g,o+j,none⟩=some (ae .u8 (F' j:Int)):=by rw[cell_of_row wr g _ _ _ (0,0) hh];exact dr j dL
      have f1:wr.frozen? ⟨g,o+j,none⟩=false:=aO wr g _ _ _ hh;have n7:=Ef hh bD.out (by rfl);have eU:=hF j;obtain⟨u,dt⟩:=gX (F' j);rw[<-dt]at c1 eU;obtain⟨x,eV⟩:=gX ((u+1)%256);have gH:IntKind.u8.wrap ((u:Int)+1)=(x:Int):=by rw[IntKind.wrap_u8];omega
      have cK:x<256:=by omega
      have S2:aQ (lO (wr.drew.setCell ⟨g,o+j,none⟩ (ae .u8 (x:Int))) W6.heap.size a2 hu):=gW (lO.any (w:=wr.drew) cJ.out g (o+j) x cK);have S3:aQ (aR W6.heap.size W6 (wr.drew.setCell ⟨g,o+j,none⟩ (ae .u8 (x:Int)))):=gW (HB.out.drew.setCell (p:=⟨g,o+j,none⟩) hg (ae .u8 (x:Int)));have S4:aQ (gZ (wr.drew.setCell ⟨g,o+j,none⟩ (ae .u8 (x:Int))) w7.heap.size Y7 32):=gW (gZ.other (w:=wr.drew) bD.out n7 _);have kd:wr.drew.cell? ⟨w7.heap.size,5,none⟩=some (af (some ⟨g,o,none⟩) hu bP):=kp;have cd:wr.drew.cell? ⟨g,o+j,none⟩=some (ae .u8 (u:Int)):=c1;have fd:wr.drew.frozen? ⟨g,o+j,none⟩=false:=f1;clear dt eV hh dr hF n7 dq cK;go_wp2;go_region;all_goals(
       go_wp2;go_roundw
       case rel=>exact⟨j+1,by omega,by go_num,S3,S2,S4⟩
       case measure=>simp[intOf];omega)
     ·obtain rfl:j=hu:=by omega
      have cE:¬(j:Int)<(j:Int):=by omega
      have fS:=gW (aY.out.below HB.out aY.out.lt);have fT:=gW (a6.out.below HB.out a6.out.lt);have dZ:=jt (jt (jt cS.out bN.out) bk.out) HB.out;have gI:=gW (gG.out wr dZ);have fU:=gW (dC.out.trans (HB.out.mono dC.out.size));have gJ:=gW ((cX.out.below HB.out gY).more HB.out.size);clear dZ;go_wp2_with (first
       |(refine tz (by rfl) _ _ rfl (w2.heap.size) rfl _ Y2 (0,0) _ fS.out underlying32 rfl (by rw[a8.out];exact iF) ?_)
       |(refine tz (by rfl) _ _ rfl (w.heap.size) rfl _ X (0,0) _ fT.out underlying32 rfl (by rw[bF.out];exact iF) ?_)
       |fail)
      refine gI.out.mono ?_;rintro e gK ⟨rfl,du⟩;have t5:=nW (gJ.out.below du gY).1 c3;have eW:=fU.out.trans (du.mono fU.out.size);have t6:=nW (dx.out gK eW).1 c;rw[<-eZ.out]at t6;obtain⟨ZB,fV⟩:=gX (lg bn (hH b));rw[<-fV]at t5 t6;have fW:=gW eW;clear du eW fV;go_wp2;go_ret;exact⟨rfl,fW.out⟩
theorem Pf(p:iz)(Ah:Option au)(hc:Nat)(Aw:Option au)(wc:Nat)(Ap:Option au)(pc:Nat):prog.built 62 [(0,ah (iA p Ah hc Aw wc Ap pc))]=some (jZ p Ah hc Aw wc Ap pc none 0 0):=by kernel_rfl
def trN(a b c:Nat):Nat->Nat
 |0=>a
 |1=>b
 |_=>c
def zO(f g h:Nat->Nat):Nat->Nat->Nat
 |0=>f
 |1=>g
 |_=>h
theorem F6(a b c:Nat):Qd (trN a b c) 3=a+b+c:=by simp[Qd,trN]
theorem Pg(x y z:List Nat):oL (trN x.length y.length z.length) (zO (hH x) (hH y) (hH z)) 3=hH (x++(y++z)):=by
 funext j;rw[oO];show cat (cat (cat (fun _=>0) 0 (hH x)) (0+x.length) (hH y)) (0+x.length+y.length) (hH z) j=cat (hH x) x.length (hH (y++z)) j
 unfold cat;rw[show hH (y++z) (j-x.length)=cat (hH y) y.length (hH z) (j-x.length)from oO y z _];unfold cat;by_cases h1:j<x.length
 ·rw[if_pos (by omega),if_pos (by omega),if_neg (by omega),if_pos h1];rfl
 ·by_cases h2:j-x.length<y.length
  ·rw[if_pos (by omega),if_neg (by omega),if_neg h1];show hH y (j-(0+x.length))=(if j-x.length<y.length then hH y (j-x.length)else _)
   rw[if_pos h2,Nat.zero_add]
  ·rw[if_neg (by omega),if_neg h1];show hH z (j-(0+x.length+y.length))=(if j-x.length<y.length then _ else hH z (j-x.length-y.length))
   rw[if_neg h2,show j-(0+x.length+y.length)=j-x.length-y.length by omega]
theorem F7(w:aq)(p:iz)(Ah:Option au)(hc:Nat)(Aw:Option au)(wc:Nat)(Ap:Option au)(pc:Nat)(hp:iD w w.heap.size p Ah hc Aw wc Ap pc)(Ab:Option au)(bc:Nat)(b:List Nat)(hb:ib w w.heap.size Ab b.length bc (hH b))(h1:p.hist.length<=1000000)(h2:p.wait.length<=1000000)(h3:b.length<=1000000):
  aw prog 28 #[ah (iA p Ah hc Aw wc Ap pc),af Ab b.length bc] w fun e w'=>∃g bq br bt bu,e=ao (ag (some ⟨g,0,none⟩))/\iT w' w.heap.size g {p with wait:=p.wait++b} [] bq br bt bu Ap pc none 0/\aR w.heap.size w w':=by
 obtain⟨h,hh⟩:=gX (w.heap.size)
 obtain⟨X,hX⟩:=gX (iA p Ah hc Aw wc Ap pc)
 obtain⟨Y,hY⟩:=gX (jZ p Ah hc Aw wc Ap pc none 0 0)
 have a4:=Pf p Ah hc Aw wc Ap pc
 rw[<-hX,<-hY]at a4
 obtain⟨hn,av⟩:=gX (p.hist.length)
 obtain⟨wn,aT⟩:=gX (p.wait.length)
 obtain⟨bn,aV⟩:=gX (b.length)
 have a1:X=#[ae aj p.s,ae aj p.h,ae aj p.m,ai p.z,af Ah hn hc,af Aw wn wc,af Ap p.ie.length pc,ae aj p.k,ai p.iH]:=by rw[hX,av,aT];rfl
 have a5:Y=#[ae aj p.s,ae aj p.h,ae aj p.m,ai p.z,af Ah hn hc,af Aw wn wc,af Ap p.ie.length pc,ae aj p.k,ai p.iH,af none 0 0]:=by rw[hY,av,aT];rfl
 rw[<-hX]
 obtain⟨W1,aW⟩:=gX (w.alloc (ak X 32))
 obtain⟨W2,aU⟩:=gX (W1.alloc (ak Y 62))
 have s1:W1.heap.size=h+1:=by rw[aW,World.size_alloc,hh]
 have b1:aR h w W1:=by rw[aW,hh];exact ix.alloc gY _
 have b2:aR h w W2:=by rw[aU];exact b1.alloc (by rw[s1];omega) _
 have x1:gZ W1 h X 32:=by rw[aW,hh];exact gZ.new w _ _
 have x2:gZ W2 h X 32:=by rw[aU];exact x1.old _
 have y2:gZ W2 (h+1) Y 62:=by rw[aU,<-s1];exact gZ.new W1 _ _
 have s2:W2.heap.size=h+2:=by rw[aU,World.size_alloc,s1]
 obtain⟨W3,aS⟩:=gX (W2.alloc (ak #[af Ah hn hc,af Aw wn wc,af Ab bn bc] 22))
 have s3:W3.heap.size=h+3:=by rw[aS,World.size_alloc,s2]
 have b3:aR h w W3:=by rw[aS];exact b2.alloc (by rw[s2];omega) _
 have x3:gZ W3 h X 32:=by rw[aS];exact x2.old _
 have y3:gZ W3 (h+1) Y 62:=by rw[aS];exact y2.old _
 have z3:gZ W3 (h+2) #[af Ah hn hc,af Aw wn wc,af Ab bn bc] 22:=by rw[aS,<-s2];exact gZ.new W2 _ _
 have rd:∀{V:aq},aR h w V->∀{A:Option au} {n c:Nat} {f:Nat->Nat},ib w w.heap.size A n c f->ib V V.heap.size A n c f:=fun{V} hV {A n c f} r=>(r.below hV (by omega)).more (by have:=hV.size;omega)
 have aX:Qu W3 W3.heap.size (some ⟨h+2,0,none⟩) 3 (trN p.hist.length p.wait.length b.length) (zO (hH p.hist) (hH p.wait) (hH b)):=fun _=>by
  refine⟨h+2,0,rfl,by omega,fun i hi=>?_⟩;rcases i with _|_|_|i
  ·have r:=rd b3 hp.hist;exact⟨Ah,hc,by rw[z3.cell,av];rfl,r.1,r.2.1⟩
  ·have r:=rd b3 hp.wait;exact⟨Aw,wc,by rw[z3.cell,aT];rfl,r.1,r.2.1⟩
  ·have r:=rd b3 hb;exact⟨Ab,bc,by rw[z3.cell,aV];rfl,r.1,r.2.1⟩
  ·omega
 have a8:∀i j,zO (hH p.hist) (hH p.wait) (hH b) i j<256:=fun i j=>by
  rcases i with _|_|i
  ·exact hp.hist.1.1 j
  ·exact hp.wait.1.1 j
  ·exact hb.1.1 j
 have a2:=Ii W3 (some ⟨h+2,0,none⟩) 3 3 (trN p.hist.length p.wait.length b.length) _ a8 aX (by omega) (by rw[F6];omega)
 rw[F6,Pg]at a2
 rw[<-av,<-aT,<-aV]at a2
 have a3:aQ (∀(V:aq) (A A2:Option au) (c:Nat),aR W3.heap.size W3 V->ib V V.heap.size A (hn+wn+bn) c (hH (p.hist++(p.wait++b)))->(if c=hn then A else A.map (·.add hn))=A2->iT ((V.setCell ⟨h+1,4,none⟩ (af A hn c)).setCell ⟨h+1,5,none⟩ (af A2 (hn+wn+bn-hn) (c-hn))) h (h+1) {p with wait:=p.wait++b} [] A c A2 (c-hn) Ap pc none 0):=gW fun V A A2 c hV r hA2=>by
  have bz:aR h w V:=b3.trans (hV.mono (by omega));have yV:=y3.below hV y3.lt;have hl:(p.wait++b).length=hn+wn+bn-hn:=by rw[List.length_append,<-aT,<-aV];omega
  have e0:(({p with wait:=p.wait++b}:iz).hist++({p with wait:=p.wait++b}:iz).wait)=p.hist++(p.wait++b):=rfl;have nn:∀(A:Option au) (n:Nat),jw A n (af none ([]:List Nat).length 0):=fun A n b o _ _ hx=>by simp[Value.ownBlock]at hx
  have sz:((V.setCell ⟨h+1,4,none⟩ (af A hn c)).setCell ⟨h+1,5,none⟩ (af A2 (hn+wn+bn-hn) (c-hn))).heap.size=V.heap.size:=by simp[World.setCell]
  have k:∀{A':Option au} {n' c':Nat} {f:Nat->Nat},ib V V.heap.size A' n' c' f->ib ((V.setCell ⟨h+1,4,none⟩ (af A hn c)).setCell ⟨h+1,5,none⟩ (af A2 (hn+wn+bn-hn) (c-hn))) ((V.setCell ⟨h+1,4,none⟩ (af A hn c)).setCell ⟨h+1,5,none⟩ (af A2 (hn+wn+bn-hn) (c-hn))).heap.size A' n' c' f:=fun{A' n' c' f} r=>by
   rw[sz];exact r.off (hY▸yV) (wH _ _ _ _ _ _ _ _ _ _) fun j hj=>(Below.heap_setCell _ _ _ j hj).trans (Below.heap_setCell V _ _ j hj)
  refine⟨?_,by omega,?_,?_,?_,World.ownsRow_nil _ _ _ _,(fun x hx=>by cases hx),nn _ _,nn _ _,nn _ _⟩
  ·have a:=(yV.set 4 (af A hn c)).set 5 (af A2 (hn+wn+bn-hn) (c-hn));rw[a5]at a;unfold jZ;show gZ _ _ #[_,_,_,_,af A p.hist.length c,af A2 (p.wait++b).length (c-hn),_,_,_,_] _
   rw[hl,<-av];exact a
  ·rw[e0];show ib _ _ A (p.hist.length+(p.wait++b).length) c _
   rw[hl,<-av,show hn+(hn+wn+bn-hn)=hn+wn+bn by omega];exact k r
  ·show ib _ _ A2 (p.wait++b).length (c-hn) (hH (p.wait++b))
   rw[hl];have:=r.from (q:=hn) (by omega) hA2
   rw[show(p.hist++(p.wait++b)).drop hn=p.wait++b by rw[av];exact List.drop_left ..]at this;exact k this
  ·show ib _ _ Ap p.ie.length pc (hH p.ie)
   exact k (rd bz hp.ie)
 have a9:=gW aW;have bA:=gW aU;have bB:=gW aS;have bC:=gW a2;have bD:=gW x1;have bE:aQ (X.size=9):=gW (by rw[hX];rfl);have bF:=gW a4;have HH:=gW hh;have bG:=gW a1;have bd:=gW a5
 have bf:=gW x3;have bg:=gW y3;have bj:=gW b3;have bk:=gW s3;have bH:=gW s1;have bI:=gW s2
 have c4:W2.cell? ⟨h,4,none⟩=some (af Ah hn hc):=by rw[x2.cell,a1];rfl
 have c5:W2.cell? ⟨h,5,none⟩=some (af Aw wn wc):=by rw[x2.cell,a1];rfl
 rw[<-aV]
 clear hp hb h1 h2 h3 aW aU aS hX hY av aT aV a2 a8 aX rd x1 x2 y2 x3 y3 z3 s1 s2 s3 b1 b2 b3 a4 hh a1 a5
 go_enter func28,ntmps28
 go_wp2_with (first
  |(rw[<-a9.out,<-HH.out])
  |(rw[<-a9.out])
  |(refine aE rfl _ _ rfl h rfl _ X (0,0) _ bD.out underlying32 rfl (by rw[bE.out];exact iF) ?_)
  |(refine aD rfl 62 #[(0,.tmp 7)] rfl (some 8) rfl Y ?_ ?_;focus(simpa[Act.eval,Act.put]using bF.out))
  |(rw[<-bA.out])
  |(rw[<-bB.out])
  |fail)
 rw[bI.out]
 refine bC.out.mono ?_
 rintro e w4 ⟨A,c,rfl,rA,aY,-⟩
 rw[bH.out]
 have x4:=bf.out.below aY bf.out.lt
 have y4:=bg.out.below aY bg.out.lt
 have q4:w4.cell? ⟨h,4,none⟩=some (af Ah hn hc):=by rw[x4.cell,bG.out];rfl
 have d4:w4.cell? ⟨h+1,4,none⟩=some (af Ah hn hc):=by rw[y4.cell,bd.out];rfl
 have d5:w4.cell? ⟨h+1,5,none⟩=some (af Aw wn wc):=by rw[y4.cell,bd.out];rfl
 have f4:w4.frozen? ⟨h+1,4,none⟩=false:=y4.free
 have f5:w4.frozen? ⟨h+1,5,none⟩=false:=y4.free
 have bJ:=rA.2.2.1
 have bM:(hn:Int)<=(c:Int):=by omega
 have bK:(hn:Int)<=((hn+wn+bn:Nat):Int):=by omega
 obtain⟨T,hT⟩:=gX (hn+wn+bn)
 obtain⟨A2,hA2⟩:∃A2,(if c=hn then A else A.map (·.add hn))=A2:=⟨_,rfl⟩
 have bl:=gW (a3.out w4 A A2 c aY rA hA2)
 rw[<-hT]at bK bJ⊢
 have HT:=gW hT;have bm:=gW hA2;have bp:=gW aY;have bL:=gW rA
 clear x4 y4 hT hA2 aY rA a3
 rcases A with _|ad
 ·obtain rfl:c=0:=bL.out.2.1 rfl;obtain rfl:T=0:=by omega
  obtain rfl:hn=0:=by omega
  obtain rfl:A2=none:=by rw[<-bm.out];rfl
  obtain⟨W5,al⟩:=gX ((w4.setCell ⟨h+1,4,none⟩ (af none 0 0)).setCell ⟨h+1,5,none⟩ (af none 0 (0)));have hf:=bl.out;rw[<-HT.out,<-al]at hf;have aZ:aR h w W5:=by rw[al];exact kh (kh (bj.out.trans (bp.out.mono (by have:=bk.out;omega))) (by omega) _ _) (by omega) _ _
  have HF:=gW (hf.below ix.drew);have a6:=gW aZ.drew;have a7:=gW al
  clear hf aZ al;go_wp2_with fail
  go_region;all_goals(
   rw[<-a7.out];go_wp2;go_ret;exact⟨h+1,none,0,none,0,rfl,by rw[<-HH.out];exact HF.out,by rw[<-HH.out];exact a6.out⟩)
 ·have hA3:(if c=hn then(some ad:Option au)else some (ad.add hn))=A2:=bm.out;obtain⟨W5,al⟩:=gX ((w4.setCell ⟨h+1,4,none⟩ (af (some ad) hn c)).setCell ⟨h+1,5,none⟩ (af A2 (T-hn) (c-hn)));have hf:=bl.out;rw[<-HT.out,<-al]at hf;have aZ:aR h w W5:=by rw[al];exact kh (kh (bj.out.trans (bp.out.mono (by have:=bk.out;omega))) (by omega) _ _) (by omega) _ _
  have HF:=gW (hf.below ix.drew);have a6:=gW aZ.drew;have a7:=gW al
  clear hf aZ al;go_wp2_with fail
  go_region;all_goals(
   rw[<-a7.out];go_wp2;go_ret;exact⟨h+1,(some ad),c,A2,c-hn,rfl,by rw[<-HH.out];exact HF.out,by rw[<-HH.out];exact a6.out⟩)
structure F8 (l:List aA) (T:Nat->ax->Prop) (a0:Act) (W0 W1:aq) (s:Nat) (ig:Array Bool) (a:Act) (w:aq):Prop where
 size:ig.size=l.length
 tmps:a.tmps.size=a0.tmps.size
 defers:a.defers=a0.defers
 off:∀t,(∀j d,ig.getD j false=true->(l[j]?).bind (·.dst)=some d->d≠t)->a.tmps[t]?=a0.tmps[t]?
 told:∀j d,ig.getD j false=true->(l[j]?).bind (·.dst)=some d->T j (a.eval (.tmp d))
 closed:∀j oj,l[j]?=some oj->ig.getD j false=true->∀e∈oj.after,Region.binds .any e=true->ig.getD e.on false=true
 world:w=if ig.getD s false=true then W1 else W0
def xi(P:az)(l:List aA)(T:Nat->ax->Prop)(a0:Act)(W0 W1:aq)(s k:Nat)(o:aA):Prop:=
 ∀(a:Act) (w:aq),(w=W0\/(w=W1/\k≠s/\Region.waitsFor .any l.toArray s k=false))->(∀t,oA l t=true->a.eval (.tmp t)=a0.eval (.tmp t))->(∀j d,Region.waitsFor .any l.toArray k j=true->(l[j]?).bind (·.dst)=some d->T j (a.eval (.tmp d)))->
  ∀(K:Act->aq->Prop) (Q:Exit->Act->aq->Prop),(∀v,T k v->K (a.put o.dst v) (if k=s then W1 else w))->if Region.wanted o (aM l.toArray a.tmps)=true then Oper.wp P o a w K Q else K (a.put o.dst undef) w
def lW(P:az)(l:List aA)(T:Nat->ax->Prop)(a0:Act)(W0 W1:aq)(s:Nat):Nat->List aA->Prop
 |_,[]=>True
 |k,o::r=>xi P l T a0 W0 W1 s k o/\lW P l T a0 W0 W1 s (k+1) r
theorem lW.get{P:az}{l:List aA}{T:Nat->ax->Prop}{a0:Act}{W0 W1:aq}{s:Nat}:∀{r:List aA} {k:Nat},lW P l T a0 W0 W1 s k r->∀{j:Nat} {o:aA},r[j]?=some o->xi P l T a0 W0 W1 s (k+j) o
 |[],_,_,_,_,h=>by cases h
 |_::_,k,hA,0,_,h=>by cases h;exact hA.1
 |_::r,k,hA,j+1,o,h=>by
  have:=lW.get (r:=r) hA.2 (j:=j) (by simpa using h);rw[show k+1+j=k+(j+1) by omega]at this;exact this
theorem Ph{P:az}{Q:Exit->Act->aq->Prop}{a0:Act}{W0 W1:aq}{l:List aA}{T:Nat->ax->Prop}{s:Nat}(hs:s<l.length)(hB:Qj l a0.tmps.size=true)(aW:lW P l T a0 W0 W1 s 0 l)
  (aV:∀ig a w,F8 l T a0 W0 W1 s ig a w->(∀i,i<l.length->ig.getD i false=true)->Q .normal a w):
  ∀(f:Nat) (ig:Array Bool) (a:Act) (w:aq),((List.range l.length).filter fun i=> !ig.getD i false).length=f->F8 l T a0 W0 W1 s ig a w->wpAny P .any l.toArray Q f ig a w:=by
 have a1:=hB
 simp only[Qj,Bool.and_eq_true,decide_eq_true_eq]at a1
 obtain⟨⟨a9,bd⟩,a2⟩:=a1
 have a3:∀(ig:Array Bool),ig.size=l.length->Region.ready .any l.toArray ig=[]->∀i,i<l.length->ig.getD i false=true:=fun ig bl hr i=>by
  induction i using Nat.strongRecOn with
  |_ i ih=>
   intro hi;cases hu:ig.getD i false with
   |true=>rfl
   |false=>
    exfalso;have h1:=List.all_eq_true.1 a2 i (List.mem_range.2 hi);have bf:l[i]?=some l[i]:=List.getElem?_eq_getElem hi;simp only[bf]at h1;have:i∈Region.ready .any l.toArray ig:=mem_ready.2 ⟨getD_in (by omega) hu,l[i],by simp[hi],fun e he hb=>by
     have h2:=Array.all_eq_true_iff_forall_mem.1 h1 e he;simp only[hb,Bool.not_true,Bool.false_or,decide_eq_true_eq]at h2;exact ih e.on h2 (by omega)⟩
    rw[hr]at this;cases this
 intro f
 induction f with
 |zero=>
  intro ig a w hf inv;have a4:∀i,i<l.length->ig.getD i false=true:=fun i hi=>by
   have h0:=List.length_eq_zero_iff.1 hf;have h1:=List.filter_eq_nil_iff.1 h0 i (List.mem_range.2 hi);simpa using h1
  refine⟨?_,aV ig a w inv a4⟩;apply List.eq_nil_iff_forall_not_mem.2;intro i hi;obtain⟨h0,o,ho,_⟩:=mem_ready.1 hi;have av:i<l.length:=by have:=(Array.getElem?_eq_some_iff.1 ho).1;simpa using this
  have h1:=a4 i av;rw[getD_both h0]at h1;cases h1
 |succ f ih=>
  intro ig a w hf inv;refine⟨fun h0=>aV ig a w inv (a3 ig inv.size h0),fun k hk=>?_⟩;obtain⟨h0,o,ho,al⟩:=mem_ready.1 hk;have ad:l[k]?=some o:=by simpa using ho
  have av:k<l.length:=(List.getElem?_eq_some_iff.1 ad).1;have bg:xi P l T a0 W0 W1 s k o:=by have:=aW.get ad;rwa[Nat.zero_add]at this
  have aX:∀t,oA l t=true->a.eval (.tmp t)=a0.eval (.tmp t):=fun t ht=>by
   show a.tmps.getD t undef=a0.tmps.getD t undef
   rw[Array.getD_eq_getD_getElem?,Array.getD_eq_getD_getElem?,inv.off t (fun _ _ _ hd=>su ht hd)]
  have aT:∀j d,Region.waitsFor .any l.toArray k j=true->(l[j]?).bind (·.dst)=some d->T j (a.eval (.tmp d)):=fun j d hw hd=>by
   obtain⟨ok,a5,e,he,hb,aY⟩:=Region.waitsFor_spec hw;rw[ho]at a5;cases a5;exact inv.told j d (by have:=al e he hb;rwa[aY]at this) hd
  have a6:∀d,o.dst=some d->d<a.tmps.size:=fun d hd=>by
   have h1:=List.all_eq_true.1 bd o (List.mem_of_getElem? ad);simp only[hd,decide_eq_true_eq]at h1;rw[inv.tmps];exact h1
  have a7:w=W0\/(w=W1/\k≠s/\Region.waitsFor .any l.toArray s k=false):=by
   cases aS:ig.getD s false with
   |false=>left;have:=inv.world;rw[aS]at this;simpa using this
   |true=>
    right;refine⟨by have:=inv.world;rw[aS]at this;simpa using this,fun e=>?_,?_⟩
    ·subst e;rw[getD_both h0]at aS;cases aS
    ·cases hw:Region.waitsFor .any l.toArray s k with
     |false=>rfl
     |true=>
      exfalso;obtain⟨os,bj,e,he,hb,aY⟩:=Region.waitsFor_spec hw;have:=inv.closed s os (by simpa using bj) aS e he hb;rw[aY,getD_both h0]at this;cases this
  have aZ:=bg a w a7 aX aT (wpAny P .any l.toArray Q f (ig.setIfInBounds k true)) Q (fun v hv=>by
   refine ih _ _ _ ?_ ⟨by simp[inv.size],?_,?_,fun t ht=>?_,fun j d hl hd=>?_,fun j oj hj hl e he hb=>?_,?_⟩
   ·have bk:((List.range l.length).filter fun i=> !(ig.setIfInBounds k true).getD i false)=((List.range l.length).filter fun i=> !ig.getD i false).erase k:=by
     rw[List.Nodup.erase_eq_filter (List.nodup_range.filter _),List.filter_filter];apply List.filter_congr;intro x hx;by_cases e:x=k
     ·subst e;have:x<ig.size:=by rw[inv.size];exact av
      simp[this]
     ·rw[getD_set_ne false (Ne.symm e)];simp[e]
    rw[bk,List.length_erase_of_mem (List.mem_filter.2 ⟨List.mem_range.2 av,by rw[getD_both h0];rfl⟩),hf];rfl
   ·unfold Act.put;cases o.dst<;>simp[inv.tmps]
   ·unfold Act.put;cases o.dst<;>exact inv.defers
   ·rw[<-inv.off t (fun j d hl hd=>ht j d (getD_set_true hl) hd)];unfold Act.put;cases hd:o.dst with
    |none=>rfl
    |some d=>
     have e:d≠t:=ht k d (by have:k<ig.size:=(by rw[inv.size];exact av);simp[this]) (by rw[ad];simpa using hd);simp[Array.getElem?_setIfInBounds_ne e]
   ·by_cases e:j=k
    ·subst e;rw[ad]at hd;have aU:o.dst=some d:=by simpa using hd
     have a8:=a6 d aU;have he:(a.put o.dst v).eval (.tmp d)=v:=by rw[aU];simp[Act.put,Act.eval,a8]
     rw[he];exact hv
    ·rw[getD_set_ne false (Ne.symm e)]at hl;have h1:=inv.told j d hl hd;have he:(a.put o.dst v).eval (.tmp d)=a.eval (.tmp d):=Act.eval_put fun d' aU hx=>by
      cases hx
      cases hj:l[j]? with
      |none=>rw[hj]at hd;cases hd
      |some y=>
       rw[hj]at hd;exact e (sx a9 hj ad (by simpa using hd) aU)
     rw[he];exact h1
   ·by_cases e':j=k
    ·subst e';rw[ad]at hj;cases hj;exact getD_set_true (al e he hb)
    ·rw[getD_set_ne false (Ne.symm e')]at hl;exact getD_set_true (inv.closed j oj hj hl e he hb)
   ·by_cases e:k=s
    ·subst e;have:k<ig.size:=by rw[inv.size];exact av
     rw[if_pos rfl];simp[this]
    ·rw[if_neg e,getD_set_ne false e];exact inv.world)
  unfold wpOp;simp only[ho];split at aZ
  ·rename_i hw;rw[if_pos hw];exact .inl aZ
  ·rename_i hw;rw[if_neg hw];exact aZ
theorem Pj{P:az}{id:Nat}{Q:Exit->Act->aq->Prop}{a0:Act}{w0:aq}{l:List aA}(s:Nat)(T:Nat->ax->Prop)(W1:aq)(hm:P.follows .mixedOrders=true)(hs:(decide (s<l.length)&&Qj l a0.tmps.size)=true)
  (al:lW P l T a0 w0.drew W1 s 0 l)
  (av:∀(vals:Tmp->ax),(∀j d,(l[j]?).bind (·.dst)=some d->T j (vals d))->Q .normal (P5 (l.map (·.dst)) vals a0) W1):(Code.region id l.toArray true).wp P Q a0 w0:=by
 simp only[Bool.and_eq_true,decide_eq_true_eq]at hs
 obtain⟨aS,hB⟩:=hs
 refine wp_region_any hm ?_
 have ad:∀i,(Array.replicate l.toArray.size false).getD i false=false:=fun i=>getD_replicate_false _ _
 refine Ph (T:=T) aS hB al (fun ig a w inv aT=>?_) l.toArray.size _ _ _ ?_ ⟨by simp,rfl,rfl,fun _ _=>rfl,(fun j d h _=>by rw[ad]at h;cases h),(fun j oj _ h=>by rw[ad]at h;cases h),by rw[ad];rfl⟩
 ·have ha:a=P5 (l.map (·.dst)) (fun d=>a.eval (.tmp d)) a0:=by
   have ht:a.tmps=(P5 (l.map (·.dst)) (fun d=>a.eval (.tmp d)) a0).tmps:=by
    apply Array.ext_getElem?;intro t;by_cases ht:some t∈l.map (·.dst)
    ·obtain⟨o,ho,hd⟩:=List.mem_map.1 ht;simp only[Qj,Bool.and_eq_true,decide_eq_true_eq]at hB;have h1:=List.all_eq_true.1 hB.1.2 o ho;simp only[hd,decide_eq_true_eq]at h1;rw[sr _ _ _ t (.inl ht) h1];have h2:t<a.tmps.size:=by rw[inv.tmps];exact h1
     simp[Act.eval,h2]
    ·rw[ss _ _ _ t ht];refine inv.off t (fun j d _ hd e=>ht ?_);cases hj:l[j]? with
     |none=>rw[hj]at hd;cases hd
     |some y=>
      rw[hj]at hd;exact List.mem_map.2 ⟨y,List.mem_of_getElem? hj,by rw[<-e];simpa using hd⟩
   have aU:a.defers=(P5 (l.map (·.dst)) (fun d=>a.eval (.tmp d)) a0).defers:=by rw[sn];exact inv.defers
   cases a with
   |mk t df=>
    generalize hp:P5 (l.map (·.dst)) (fun d=>(Act.mk t df).eval (.tmp d)) a0=p at*;cases p with
    |mk t2 aV=>simp only at ht aU;rw[ht,aU]
  have hw:=inv.world;rw[if_pos (aT s aS)]at hw;rw[ha,hw];refine av _ fun j d hd=>?_
  refine inv.told j d (aT j ?_) hd;cases hj:l[j]? with
  |none=>rw[hj]at hd;cases hd
  |some _=>exact(List.getElem?_eq_some_iff.1 hj).1
 ·rw[List.filter_eq_self.2 (fun i _=>by rw[ad];rfl)];simp
theorem qm{P:az}{l:List aA}{o:aA}{a:Act}{w W1:aq}{s k:Nat}{T:ax->Prop}{K:Act->aq->Prop}{Q:Exit->Act->aq->Prop}{E:Prop}(ad:k≠s)(hw:Region.wanted o (aM l.toArray a.tmps)=true)(v:ax)
  (hr:(execOp a.eval o).run P w=.ok (.value v) w) (hK:∀v,T v->K (a.put o.dst v) (if k=s then W1 else w)) (hT:T v):if Region.wanted o (aM l.toArray a.tmps)=true then Oper.wp P o a w K Q else E:=by
 rw[if_pos hw]
 unfold Oper.wp
 rw[hr]
 have:=hK v hT
 rw[if_neg ad]at this
 exact this
theorem Pk{P:az}{l:List aA}{o:aA}{a:Act}{w W1:aq}{s:Nat}{T:ax->Prop}{K:Act->aq->Prop}{Q:Exit->Act->aq->Prop}{E:Prop}(hw:Region.wanted o (aM l.toArray a.tmps)=true)(_:o.dst=none)
  (hr:(execOp a.eval o).run P w=.ok .skip W1) (hK:∀v,T v->K (a.put o.dst v) (if s=s then W1 else w)) (hT:T undef):if Region.wanted o (aM l.toArray a.tmps)=true then Oper.wp P o a w K Q else E:=by
 rw[if_pos hw]
 unfold Oper.wp
 rw[hr]
 have:=hK undef hT
 rw[if_pos rfl]at this
 exact this
theorem lW.nil{P:az}{l:List aA}{T:Nat->ax->Prop}{a0:Act}{W0 W1:aq}{s k:Nat}:lW P l T a0 W0 W1 s k []:=trivial
theorem lW.cons{P:az}{l:List aA}{T:Nat->ax->Prop}{a0:Act}{W0 W1:aq}{s k:Nat}{o:aA}{r:List aA}(h:xi P l T a0 W0 W1 s k o)(hr:lW P l T a0 W0 W1 s (k+1) r):lW P l T a0 W0 W1 s k (o::r):=⟨h,hr⟩
def Pl(L:List (ax->Prop))(k:Nat):ax->Prop:=(L[k]?).getD fun _=>True
theorem l5.zP{cs:Array ax}(h:l5 cs)(i:Nat)(A:Option au)(n c:Nat):l5 (cs.setIfInBounds i (af A n c)):=fun j x e=>by
 by_cases hj:i=j
 ·subst hj;rcases Nat.lt_or_ge i cs.size with hi|hi
  ·simp[hi]at e
  ·rw[Array.getElem?_eq_none (by simpa using hi)]at e;cases e
 ·rw[Array.getElem?_setIfInBounds_ne hj]at e;exact h j x e
theorem Pm{w:aq}{base n c:Nat}{A:Option au}{xs:List ax}(h:w.ownsRow base 5 1 (af A n c) n xs)(h0:0<n):∃(g o:Nat) (cur:Array ax),A=some ⟨g,o,none⟩/\base<=g/\w.heap[g]?=some (ak cur 5 (0,0)):=by
 rcases h.2 with⟨_,hv⟩|⟨g,cap,cur,hv,hg,hh,_⟩
 ·omega
 ·injection hv with h1 h2 h3
  exact⟨g,0,cur,h1,hg,hh⟩
theorem Pn(w:aq)(B g:Nat)(p:iz)(out:List Nat)(Ah:Option au)(hc:Nat)(Aw:Option au)(wc:Nat)(Ap:Option au)(pc:Nat)(Ao:Option au)(oc:Nat)(U:iT w B g p out Ah hc Aw wc Ap pc Ao oc)(a7:p.hist.length<=2000000)(a8:p.wait.length<=2000000)(a9:p.ie.length<=2000000):
  aw prog 49 #[ag (some ⟨g,0,none⟩)] w fun e w'=>∃A1 c1 A2 c2 A3 c3,e=ao (.tuple #[ah (iA p A1 c1 A2 c2 A3 c3),af Ao out.length oc,ae aj 0])/\iD w' w'.heap.size p A1 c1 A2 c2 A3 c3/\ib w' w'.heap.size Ao out.length oc (hH out)/\aR B w w'/\my w' B A1 p.hist.length/\my w' B A2 p.wait.length:=by
 obtain⟨h,hh⟩:=gX (w.heap.size)
 obtain⟨K,hk⟩:∃K:Int,p.k=K:=⟨_,rfl⟩
 obtain⟨Z,hZ⟩:=gX (iA (iR 0 0 0 false) none 0 none 0 none 0)
 have hz:=(zero_of_info oP).1
 rw[<-hZ]at hz
 obtain⟨W1,aV⟩:=gX (w.alloc (ak Z 32))
 have b1:aR h w W1:=by rw[aV,hh];exact ix.alloc gY _
 have z1:gZ W1 h Z 32:=by rw[aV,hh];exact gZ.new w _ _
 have U1:=U.below (hh▸b1)
 have bC:g<h:=by rw[hh];exact U.lt
 have CL:∀{A:Option au} {n c:Nat} {f:Nat->Nat} (V:aq),h<=V.heap.size->ib V V.heap.size A n c f->n<=2000000->aw prog 63 #[af A n c] V fun e w'=>∃A' c',e=ao (af A' n c')/\w'.ownsRow h 5 1 (af A' n c') n (iw n f)/\aR V.heap.size V w':=fun{A n c f} V hV r hn=>
  (En V A n c f r hn).mono fun e w' ⟨A',c',h1,h2,h3⟩=>⟨A',c',h1,sR h2 hV,h3⟩
 have aY:h<W1.heap.size:=z1.lt
 have CH:aQ (∀V,aR W1.heap.size W1 V->aw prog 63 #[af Ah p.hist.length hc] V fun e w'=>∃A' c',e=ao (af A' p.hist.length c')/\w'.ownsRow h 5 1 (af A' p.hist.length c') p.hist.length (iw p.hist.length (hH p.hist))/\aR V.heap.size V w'):=gW fun V hV=>CL V (by have:=hV.size;omega) (U1.below hV).hist a7
 have CW:aQ (∀V,aR W1.heap.size W1 V->aw prog 63 #[af Aw p.wait.length wc] V fun e w'=>∃A' c',e=ao (af A' p.wait.length c')/\w'.ownsRow h 5 1 (af A' p.wait.length c') p.wait.length (iw p.wait.length (hH p.wait))/\aR V.heap.size V w'):=gW fun V hV=>CL V (by have:=hV.size;omega) (U1.below hV).wait a8
 have CP:aQ (∀V,aR W1.heap.size W1 V->aw prog 63 #[af Ap p.ie.length pc] V fun e w'=>∃A' c',e=ao (af A' p.ie.length c')/\w'.ownsRow h 5 1 (af A' p.ie.length c') p.ie.length (iw p.ie.length (hH p.ie))/\aR V.heap.size V w'):=gW fun V hV=>CL V (by have:=hV.size;omega) (U1.below hV).ie a9
 obtain⟨hn,aS⟩:=gX (p.hist.length)
 obtain⟨wn,aT⟩:=gX (p.wait.length)
 obtain⟨pn,av⟩:=gX (p.ie.length)
 obtain⟨on,aW⟩:=gX (out.length)
 have eX:jZ p Ah hc Aw wc Ap pc Ao out.length oc=#[ae aj p.s,ae aj p.h,ae aj p.m,ai p.z,af Ah hn hc,af Aw wn wc,af Ap pn pc,ae aj K,ai p.iH,(af Ao on oc)]:=by
  unfold jZ;rw[<-aS,<-aT,<-av,hk,<-aW]
 have hx:=U1.box
 rw[eX]at hx
 rw[<-aS]at CH;rw[<-aT]at CW;rw[<-av]at CP
 have bd:aQ (∀(V:aq) (A1:Option au) (c1:Nat) (A2:Option au) (c2:Nat) (A3:Option au) (c3:Nat),aR W1.heap.size W1 V->V.ownsRow h 5 1 (af A1 hn c1) hn (iw hn (hH p.hist))->V.ownsRow h 5 1 (af A2 wn c2) wn (iw wn (hH p.wait))->V.ownsRow h 5 1 (af A3 pn c3) pn (iw pn (hH p.ie))->True):=gW fun _ _ _ _ _ _ _ _ _ _ _=>trivial
 have HX:=gW hx;have bD:=gW aV;have HH:=gW hh;have bf:=gW z1;have a1:=gW aY;have bE:=gW b1;have bF:=gW U1;have al:=gW (And.intro U.le bC);have bg:=gW aS;have bj:=gW aT;have bk:=gW av;have bG:=gW aW;have bH:=gW hk;have bl:=gW hZ;have a2:aQ (l5 #[ae aj p.s,ae aj p.h,ae aj p.m,ai p.z,af Ah hn hc,af Aw wn wc,af Ap pn pc,ae aj K,ai p.iH,af Ao on oc]):=gW (eX▸wH _ _ _ _ _ _ _ _ _ _);have a3:=gW (And.intro (kE U.hist) (And.intro (kE U.wait) (kE U.ie)))
 rw[<-aS,<-aT,<-aW]
 clear aS aT av aW U aV b1 z1 U1 CL aY hx eX hZ hk a7 a8 a9 hh bd
 go_enter func49,ntmps49
 go_wp2_with (first|(rw[<-bD.out,<-HH.out])|fail)
 refine FW 25 [1,2] (nM [fun v _=>v=ag (some ⟨g,0,none⟩),fun v _=>v=ag (some ⟨g,0,none⟩),fun v _=>v=ag (some ⟨g,0,none⟩),fun v _=>v=ag (some ⟨g,0,none⟩),fun v _=>v=ag (some ⟨g,0,none⟩),fun v _=>v=ag (some ⟨g,0,none⟩),fun v _=>v=ag (some ⟨g,4,none⟩),fun v _=>v=af Ah hn hc,fun v W=>∃A' c',v=af A' hn c'/\W.ownsRow h 5 1 (af A' hn c') hn (iw hn (hH p.hist)),fun v _=>v=ag (some ⟨g,0,none⟩),fun v _=>v=ag (some ⟨g,0,none⟩),fun v _=>v=ag (some ⟨g,0,none⟩),fun v _=>v=ag (some ⟨g,5,none⟩),fun v _=>v=af Aw wn wc,fun v W=>∃A' c',v=af A' wn c'/\W.ownsRow h 5 1 (af A' wn c') wn (iw wn (hH p.wait)),fun v _=>v=ag (some ⟨g,0,none⟩),fun v _=>v=ag (some ⟨g,0,none⟩),fun v _=>v=ag (some ⟨g,0,none⟩),fun v _=>v=ag (some ⟨g,6,none⟩),fun v _=>v=ag (some ⟨g,6,none⟩),fun v _=>v=af Ap pn pc,fun v W=>∃A' c',v=af A' pn c'/\W.ownsRow h 5 1 (af A' pn c') pn (iw pn (hH p.ie)),fun v _=>v=ag (some ⟨g,0,none⟩),fun v _=>v=ag (some ⟨g,0,none⟩),fun v _=>v=ag (some ⟨g,4,none⟩)]) W1 ix (by kernel_rfl) (by kernel_rfl) (List.forall_mem_cons.2 ⟨⟨_,_,rfl,rfl,rfl,(fun _ _ _ _ h=>h),fun aa wv hb ha hS=>⟨_,xg _ rfl _ ((ha 0 (by kernel_rfl)).trans rfl),ij rfl⟩⟩,(List.forall_mem_cons.2 ⟨⟨_,_,rfl,rfl,rfl,(fun _ _ _ _ h=>h),fun aa wv hb ha hS=>⟨_,xg _ rfl _ ((ha 0 (by kernel_rfl)).trans rfl),ij rfl⟩⟩,(fun _ h=>by cases h)⟩)⟩) ?_ ?_
 case refine_1=>
  simp only[List.take_succ_cons,List.take_zero];refine ia.cons (fun aa wv hb ha hS Kk Qq hK=>iS (ic rfl) _ rfl (ij ((ha 0 (by kernel_rfl)).trans rfl)) hK) ?_;refine ia.cons (fun aa wv hb ha hS Kk Qq hK=>iS (ic rfl) _ rfl (ij ((ha 0 (by kernel_rfl)).trans rfl)) hK) ?_;refine ia.cons (fun aa wv hb ha hS Kk Qq hK=>iS (ic rfl) _ rfl (ij ((ha 0 (by kernel_rfl)).trans rfl)) hK) ?_;refine ia.cons (fun aa wv hb ha hS Kk Qq hK=>iS (ic rfl) _ rfl (ij ((ha 0 (by kernel_rfl)).trans rfl)) hK) ?_;refine ia.cons (fun aa wv hb ha hS Kk Qq hK=>lU (ic rfl) _ rfl _ (hS 3 8 (by kernel_rfl) rfl).here (ij rfl) hK) ?_;refine ia.cons (fun aa wv hb ha hS Kk Qq hK=>iL (ic rfl) _ _ _ rfl _ (ag (some ⟨g,0,none⟩)) (hS 4 9 (by kernel_rfl) rfl).here (by go_simp) (ij rfl) hK) ?_;refine ia.cons (fun aa wv hb ha hS Kk Qq hK=>iL (ic rfl) _ _ _ rfl _ (ag (some ⟨g,4,none⟩)) (hS 5 10 (by kernel_rfl) rfl).here (by go_simp) (ij rfl) hK) ?_;refine ia.cons (fun aa wv hb ha hS Kk Qq hK=>lu (ic rfl) _ _ rfl _ (af Ah hn hc) (hS 6 11 (by kernel_rfl) rfl).here (by have hc:wv.cell? ⟨g,4,none⟩=some (af Ah hn hc):=(HX.out.below hb HX.out.lt).cell.trans rfl;go_simp) (ij rfl) hK) ?_;refine ia.cons (fun aa wv hb ha hS Kk Qq hK=>mq (ic rfl) 63 _ _ rfl (enters_of func63 (by kernel_rfl) rfl) #[af Ah hn hc] (by simp[(show aa.eval (.tmp 12)=af Ah hn hc from(hS 7 12 (by kernel_rfl) rfl).here)]) (CH.out wv hb) (fun ee w' ⟨A',c',h1,h2,h3⟩=>⟨_,h1,h3,fun W hW=>⟨_,_,rfl,qz h2 hW⟩⟩) hK) ?_;refine ia.cons (fun aa wv hb ha hS Kk Qq hK=>iS (ic rfl) _ rfl (ij ((ha 0 (by kernel_rfl)).trans rfl)) hK) ?_;refine ia.cons (fun aa wv hb ha hS Kk Qq hK=>lU (ic rfl) _ rfl _ (hS 9 14 (by kernel_rfl) rfl).here (ij rfl) hK) ?_;refine ia.cons (fun aa wv hb ha hS Kk Qq hK=>iL (ic rfl) _ _ _ rfl _ (ag (some ⟨g,0,none⟩)) (hS 10 15 (by kernel_rfl) rfl).here (by go_simp) (ij rfl) hK) ?_;refine ia.cons (fun aa wv hb ha hS Kk Qq hK=>iL (ic rfl) _ _ _ rfl _ (ag (some ⟨g,5,none⟩)) (hS 11 16 (by kernel_rfl) rfl).here (by go_simp) (ij rfl) hK) ?_;refine ia.cons (fun aa wv hb ha hS Kk Qq hK=>lu (ic rfl) _ _ rfl _ (af Aw wn wc) (hS 12 17 (by kernel_rfl) rfl).here (by have hc:wv.cell? ⟨g,5,none⟩=some (af Aw wn wc):=(HX.out.below hb HX.out.lt).cell.trans rfl;go_simp) (ij rfl) hK) ?_;refine ia.cons (fun aa wv hb ha hS Kk Qq hK=>mq (ic rfl) 63 _ _ rfl (enters_of func63 (by kernel_rfl) rfl) #[af Aw wn wc] (by simp[(show aa.eval (.tmp 18)=af Aw wn wc from(hS 13 18 (by kernel_rfl) rfl).here)]) (CW.out wv hb) (fun ee w' ⟨A',c',h1,h2,h3⟩=>⟨_,h1,h3,fun W hW=>⟨_,_,rfl,qz h2 hW⟩⟩) hK) ?_;refine ia.cons (fun aa wv hb ha hS Kk Qq hK=>iS (ic rfl) _ rfl (ij ((ha 0 (by kernel_rfl)).trans rfl)) hK) ?_;refine ia.cons (fun aa wv hb ha hS Kk Qq hK=>lU (ic rfl) _ rfl _ (hS 15 20 (by kernel_rfl) rfl).here (ij rfl) hK) ?_;refine ia.cons (fun aa wv hb ha hS Kk Qq hK=>iL (ic rfl) _ _ _ rfl _ (ag (some ⟨g,0,none⟩)) (hS 16 21 (by kernel_rfl) rfl).here (by go_simp) (ij rfl) hK) ?_;refine ia.cons (fun aa wv hb ha hS Kk Qq hK=>iL (ic rfl) _ _ _ rfl _ (ag (some ⟨g,6,none⟩)) (hS 17 22 (by kernel_rfl) rfl).here (by go_simp) (ij rfl) hK) ?_;refine ia.cons (fun aa wv hb ha hS Kk Qq hK=>iL (ic rfl) _ _ _ rfl _ (ag (some ⟨g,6,none⟩)) (hS 18 23 (by kernel_rfl) rfl).here (by go_simp) (ij rfl) hK) ?_;refine ia.cons (fun aa wv hb ha hS Kk Qq hK=>lu (ic rfl) _ _ rfl _ (af Ap pn pc) (hS 19 24 (by kernel_rfl) rfl).here (by have hc:wv.cell? ⟨g,6,none⟩=some (af Ap pn pc):=(HX.out.below hb HX.out.lt).cell.trans rfl;go_simp) (ij rfl) hK) ?_;refine ia.cons (fun aa wv hb ha hS Kk Qq hK=>mq (ic rfl) 63 _ _ rfl (enters_of func63 (by kernel_rfl) rfl) #[af Ap pn pc] (by simp[(show aa.eval (.tmp 25)=af Ap pn pc from(hS 20 25 (by kernel_rfl) rfl).here)]) (CP.out wv hb) (fun ee w' ⟨A',c',h1,h2,h3⟩=>⟨_,h1,h3,fun W hW=>⟨_,_,rfl,qz h2 hW⟩⟩) hK) ?_;refine ia.cons (fun aa wv hb ha hS Kk Qq hK=>lU (ic rfl) _ rfl _ (hS 0 5 (by kernel_rfl) rfl).here (ij rfl) hK) ?_
  refine ia.cons (fun aa wv hb ha hS Kk Qq hK=>iL (ic rfl) _ _ _ rfl _ (ag (some ⟨g,0,none⟩)) (hS 22 27 (by kernel_rfl) rfl).here (by go_simp) (ij rfl) hK) ?_;refine ia.cons (fun aa wv hb ha hS Kk Qq hK=>iL (ic rfl) _ _ _ rfl _ (ag (some ⟨g,4,none⟩)) (hS 23 28 (by kernel_rfl) rfl).here (by go_simp) (ij rfl) hK) ?_;exact ia.nil
 intro vals w5 hb hv
 obtain⟨A1,c1,bm,o1⟩:=(hv 8 13 rfl).here
 obtain⟨A2,c2,bn,o2⟩:=(hv 14 19 rfl).here
 obtain⟨A3,c3,bp,o3⟩:=(hv 21 26 rfl).here
 have e6:vals 6=ag (some ⟨g,0,none⟩):=(hv 1 6 rfl).here
 have e7:vals 7=ag (some ⟨g,0,none⟩):=(hv 2 7 rfl).here
 have bq:vals 29=ag (some ⟨g,4,none⟩):=(hv 24 29 rfl).here
 have x5:=HX.out.below hb HX.out.lt
 have s4:w5.cell? ⟨g,4,none⟩=some (af Ah hn hc):=x5.cell.trans rfl
 have s5:w5.cell? ⟨g,5,none⟩=some (af Aw wn wc):=x5.cell.trans rfl
 have s6:w5.cell? ⟨g,6,none⟩=some (af Ap pn pc):=x5.cell.trans rfl
 have f4:w5.frozen? ⟨g,4,none⟩=false:=x5.free
 have f5:w5.frozen? ⟨g,5,none⟩=false:=x5.free
 have f6:w5.frozen? ⟨g,6,none⟩=false:=x5.free
 obtain⟨W6,ad⟩:=gX (((w5.setCell ⟨g,4,none⟩ (af A1 hn c1)).setCell ⟨g,5,none⟩ (af A2 wn c2)).setCell ⟨g,6,none⟩ (af A3 pn c3))
 have a4:aQ (gZ W6 g #[ae aj p.s,ae aj p.h,ae aj p.m,ai p.z,af A1 hn c1,af A2 wn c2,af A3 pn c3,ae aj K,ai p.iH,(af Ao on oc)] 62):=gW (by rw[ad];exact((x5.set 4 _).set 5 _).set 6 _)
 obtain⟨YP,aU⟩:=gX (iA p A1 c1 A2 c2 A3 c3)
 have br:YP=#[ae aj p.s,ae aj p.h,ae aj p.m,ai p.z,af A1 hn c1,af A2 wn c2,af A3 pn c3,ae aj K,ai p.iH]:=by rw[aU,bg.out,bj.out,bk.out,<-bH.out];rfl
 have aX:aQ (YP.size=9):=gW (by rw[aU];rfl)
 have bI:aQ (YP.all (·.oneCell')=true):=gW (by rw[aU];exact kW ..)
 have bJ:aQ (Z.size=YP.size):=gW (by rw[aX.out,bl.out];rfl)
 have bK:aQ (∀V,gZ V g #[ae aj p.s,ae aj p.h,ae aj p.m,ai p.z,af A1 hn c1,af A2 wn c2,af A3 pn c3,ae aj K,ai p.iH,af Ao on oc] 62->V.rangeAt g 0 YP.toList):=gW fun V hx i v hv=>by
  rw[hx.cell,Nat.zero_add];rw[br]at hv;rcases i with _|_|_|_|_|_|_|_|_|i<;>first|(simp at hv;done)|simpa using hv
 have bL:=a4.out
 have bt:gZ W6 h Z 32:=by
  rw[ad];exact(((bf.out.below hb a1.out).other (by show h≠g;omega) _).other (by show h≠g;omega) _).other (by show h≠g;omega) _
 have a5:aQ (gZ W6.drew h Z 32):=gW bt
 obtain⟨W8,bM⟩:=gX ((W6.drew).setRow h YP)
 have bN:aQ (gZ ((W6.drew).setRow h YP) h YP 32):=gW (a5.out.row YP)
 have a6:=bF.out.below hb
 have bu:aR B w w5:=(bE.out.mono (by have:=al.out;omega)).trans (hb.mono (by have:=al.out;have:=a1.out;omega))
 have aZ:ib w5 w5.heap.size Ao on oc (hH out):=by have:=ib.iI a6.own (kH a6.bo);rwa[<-bG.out]at this
 have key:∀{A:Option au} {n c:Nat} {L:List Nat},ib w5 w5.heap.size A n c (hH L)->ib ((W6.drew).setRow h YP) ((W6.drew).setRow h YP).heap.size A n c (hH L):=fun{A n c L} r=>by
  have bO:W6.heap.size=w5.heap.size:=by rw[ad];simp[World.setCell]
  have r6:ib W6 W6.heap.size A n c (hH L):=by
   rw[bO,ad];have k1:=r.qG x5 a2.out 4 (af A1 hn c1);have k2:=k1.qG (x5.set 4 _) (a2.out.zP 4 _ _ _) 5 (af A2 wn c2);exact k2.qG ((x5.set 4 _).set 5 _) ((a2.out.zP 4 _ _ _).zP 5 _ _ _) 6 (af A3 pn c3)
  have r7:=r6.drew.rC a5.out (by rw[bl.out];exact qa _ _ _ _ _ _ _) YP;rw[size_setRow];exact r7
 have ql:aR B w ((W6.drew).setRow h YP):=mf (Below.drew (by rw[ad];exact kh (kh (kh bu al.out.1 _ _) al.out.1 _ _) al.out.1 _ _)) (by have:=al.out;omega) _
 have nb:∀{A:Option au} {n c:Nat} {L:List Nat},w5.ownsRow h 5 1 (af A n c) n (iw n (hH L))->my ((W6.drew).setRow h YP) B A n:=fun{A n c L} o h0=>by
  obtain⟨gg,o',cur,e1,e2,e3⟩:=Pm o h0;refine⟨gg,o',cur,e1,by have:=al.out;omega,?_⟩;have n1:gg≠h:=fun e=>by
   have h1:=bf.out.below hb a1.out;have h2:w5.heap[gg]?=some (ak Z 32 (0,0)):=by rw[e];exact h1
   rw[e3]at h2;injection h2 with h2
   injection h2 with _ h3 _
   exact absurd h3 (by decide)
  rw[aL _ _ _ _ n1];show W6.heap[gg]?=_
  rw[ad];have n2:gg≠g:=by omega
  exact((Below.heap_setCell _ _ _ gg n2).trans ((Below.heap_setCell _ _ _ gg n2).trans (Below.heap_setCell _ _ _ gg n2))).trans e3
 have bz:aQ (∃A1 c1 A2 c2 A3 c3,Ending.returned (.tuple #[ah YP,af Ao on oc,ae aj 0])=ao (.tuple #[ah (iA p A1 c1 A2 c2 A3 c3),af Ao on oc,ae aj 0])/\iD ((W6.drew).setRow h YP) ((W6.drew).setRow h YP).heap.size p A1 c1 A2 c2 A3 c3/\ib ((W6.drew).setRow h YP) ((W6.drew).setRow h YP).heap.size Ao on oc (hH out)/\aR B w ((W6.drew).setRow h YP)/\my ((W6.drew).setRow h YP) B A1 hn/\my ((W6.drew).setRow h YP) B A2 wn):=gW (by
  have q1:=key (ib.iI o1 (kH a3.out.1));have q2:=key (ib.iI o2 (kH a3.out.2.1));have q3:=key (ib.iI o3 (kH a3.out.2.2))
  refine⟨A1,c1,A2,c2,A3,c3,by rw[aU],⟨?_,?_,?_⟩,key aZ,ql,nb o1,nb o2⟩
  ·rw[<-bg.out];exact q1
  ·rw[<-bj.out];exact q2
  ·rw[<-bk.out];exact q3)
 have bP:=gW ad
 clear x5 hb hv ad br aU bL bt bM W8 a6 bu aZ key ql nb o1 o2 o3
 simp only[List.take_succ_cons,List.take_zero,List.drop_succ_cons,List.drop_zero,List.map_cons,List.map_nil,P5,Act.put,List.setIfInBounds_toArray,List.set_cons_zero,List.set_cons_succ,e6,e7,bm,bn,bp,bq]
 clear e6 e7 bm bn bp bq
 go_wp2_with (first|(rw[<-bP.out])|fail)
 have bA:aQ (gZ (W6.drew) g #[ae aj p.s,ae aj p.h,ae aj p.m,ai p.z,af A1 hn c1,af A2 wn c2,af A3 pn c3,ae aj K,ai p.iH,af Ao on oc] 62):=gW a4.out
 have bB:aQ (gZ ((W6.drew).setRow h YP) g #[ae aj p.s,ae aj p.h,ae aj p.m,ai p.z,af A1 hn c1,af A2 wn c2,af A3 pn c3,ae aj K,ai p.iH,af Ao on oc] 62):=gW (gZ.ub a4.out (by omega) _)
 refine Pj 8 (Pl [fun v=>v=ag (some ⟨g,0,none⟩),fun v=>v=ag (some ⟨g,0,none⟩),fun v=>v=ag (some ⟨g,0,none⟩),fun v=>v=ah YP,fun v=>v=ag (some ⟨g,0,none⟩),fun v=>v=ag (some ⟨g,0,none⟩),fun v=>v=ag (some ⟨g,9,none⟩),fun v=>v=af Ao on oc,fun v=>v=undef,fun v=>v=af Ao on oc,fun v=>v=ae aj 0]) ((W6.drew).setRow h YP) (by kernel_rfl) (by kernel_rfl) ?_ ?_
 case refine_1=>
  refine lW.cons (fun aa wv hw ha hS Kk Qq hK=>qm (k:=0) (s:=8) (by decide) (ic rfl) (ag (some ⟨g,0,none⟩)) (by have e:=(show aa.eval (.tmp 0)=ag (some ⟨g,0,none⟩)from((ha 0 (by kernel_rfl)).trans rfl));unfold execOp;simp only[e];rfl) hK rfl) ?_;refine lW.cons (fun aa wv hw ha hS Kk Qq hK=>qm (k:=1) (s:=8) (by decide) (ic rfl) (ag (some ⟨g,0,none⟩)) (by have e:=(show aa.eval (.tmp 37)=ag (some ⟨g,0,none⟩)from hS 0 37 (by kernel_rfl) rfl);unfold execOp;simp only[e];rfl) hK rfl) ?_;refine lW.cons (fun aa wv hw ha hS Kk Qq hK=>qm (k:=2) (s:=8) (by decide) (ic rfl) (ag (some ⟨g,0,none⟩)) (by have e:=(show aa.eval (.tmp 38)=ag (some ⟨g,0,none⟩)from hS 1 38 (by kernel_rfl) rfl);unfold execOp;simp only[e];go_simp) hK rfl) ?_;refine lW.cons (fun aa wv hw ha hS Kk Qq hK=>qm (k:=3) (s:=8) (by decide) (ic rfl) (ah YP) (by have e:=(show aa.eval (.tmp 39)=ag (some ⟨g,0,none⟩)from hS 2 39 (by kernel_rfl) rfl);have hx:gZ wv g #[ae aj p.s,ae aj p.h,ae aj p.m,ai p.z,af A1 hn c1,af A2 wn c2,af A3 pn c3,ae aj K,ai p.iH,af Ao on oc] 62:=by {rcases hw with hw|⟨hw,_,_⟩<;>first|(rw[hw];exact bA.out)|(rw[hw];exact bB.out)};have hl:=run_loadVar_mid (P:=prog) wv g 0 32 YP.toList _ (bK.out wv hx) underlying32 rfl (by rw[Array.length_toList,aX.out];exact iF);unfold execOp;simp only[e,Instr.loadAt,Instr.sureAddr,Sem.run_bind,Sem.run_pure,Result.andThen_ok,hl]) hK rfl) ?_;refine lW.cons (fun aa wv hw ha hS Kk Qq hK=>qm (k:=4) (s:=8) (by decide) (ic rfl) (ag (some ⟨g,0,none⟩)) (by have e:=(show aa.eval (.tmp 0)=ag (some ⟨g,0,none⟩)from((ha 0 (by kernel_rfl)).trans rfl));unfold execOp;simp only[e];rfl) hK rfl) ?_;refine lW.cons (fun aa wv hw ha hS Kk Qq hK=>qm (k:=5) (s:=8) (by decide) (ic rfl) (ag (some ⟨g,0,none⟩)) (by have e:=(show aa.eval (.tmp 41)=ag (some ⟨g,0,none⟩)from hS 4 41 (by kernel_rfl) rfl);unfold execOp;simp only[e];rfl) hK rfl) ?_;refine lW.cons (fun aa wv hw ha hS Kk Qq hK=>qm (k:=6) (s:=8) (by decide) (ic rfl) (ag (some ⟨g,9,none⟩)) (by have e:=(show aa.eval (.tmp 42)=ag (some ⟨g,0,none⟩)from hS 5 42 (by kernel_rfl) rfl);unfold execOp;simp only[e];go_simp) hK rfl) ?_;refine lW.cons (fun aa wv hw ha hS Kk Qq hK=>qm (k:=7) (s:=8) (by decide) (ic rfl) (af Ao on oc) (by have e:=(show aa.eval (.tmp 43)=ag (some ⟨g,9,none⟩)from hS 6 43 (by kernel_rfl) rfl);have hx:gZ wv g #[ae aj p.s,ae aj p.h,ae aj p.m,ai p.z,af A1 hn c1,af A2 wn c2,af A3 pn c3,ae aj K,ai p.iH,af Ao on oc] 62:=by {rcases hw with hw|⟨hw,_,_⟩<;>first|(rw[hw];exact bA.out)|(rw[hw];exact bB.out)};have hc:wv.cell? ⟨g,9,none⟩=some (af Ao on oc):=hx.cell.trans rfl;unfold execOp;simp only[e];go_simp) hK rfl) ?_;refine lW.cons (fun aa wv hw ha hS Kk Qq hK=>Pk (s:=8) (ic rfl) rfl (by have e1:=(show aa.eval (.tmp 2)=ag (some ⟨h,0,none⟩)from((ha 2 (by kernel_rfl)).trans rfl));have e2:=(show aa.eval (.tmp 40)=ah YP from hS 3 40 (by kernel_rfl) rfl);have bQ:wv=W6.drew:=by {rcases hw with hw|⟨_,hw,_⟩<;>first|exact hw|exact absurd rfl hw};subst bQ;have bR:=run_storeVar_row (P:=prog) (W6.drew) h 32 32 Z YP a5.out (by rw[aX.out];exact iF) bJ.out bI.out;unfold execOp;simp only[e1,e2,Instr.storeAt,Instr.sureAddr,Sem.run_bind,Sem.run_pure,Result.andThen_ok,bR]) hK rfl) ?_;refine lW.cons (fun aa wv hw ha hS Kk Qq hK=>qm (k:=9) (s:=8) (by decide) (ic rfl) (af Ao on oc) (by have e:=(show aa.eval (.tmp 44)=af Ao on oc from hS 7 44 (by kernel_rfl) rfl);unfold execOp;simp only[e];rfl) hK rfl) ?_;refine lW.cons (fun aa wv hw ha hS Kk Qq hK=>qm (k:=10) (s:=8) (by decide) (ic rfl) (ae aj 0) (by unfold execOp;rfl) hK rfl) ?_;exact lW.nil
 intro vals hv
 have e3:vals 3=af Ao on oc:=hv 9 3 rfl
 have e4:vals 4=ae aj 0:=hv 10 4 rfl
 clear hv
 simp only[List.map_cons,List.map_nil,P5,Act.put,List.setIfInBounds_toArray,List.set_cons_zero,List.set_cons_succ,e3,e4]
 clear e3 e4
 go_wp2
 refine aK (rD rfl _ _ h YP aX.out rfl bN.out) rfl ?_
 exact bz.out
theorem Po(P:az)(t:TypeId)(x y:Int)(h:y<=x)(w:aq):(binOp .geq t (ae aj x) (ae aj y)).run P w=.ok (ai true) w:=by
 simp[binOp,Op.intCmp,go_sem];omega
theorem Pp(P:az)(t:TypeId)(x y:Int)(h:¬y<=x)(w:aq):(binOp .geq t (ae aj x) (ae aj y)).run P w=.ok (ai false) w:=by
 simp[binOp,Op.intCmp,go_sem];omega
def zQ:ax->Nat
 |af _ n _=>n
 |_=>0
theorem F9(w:aq)(B g:Nat)(p:iz)(out:List Nat)(Ah:Option au)(hc:Nat)(Aw:Option au)(wc:Nat)(Ap:Option au)(pc:Nat)(Ao:Option au)(oc:Nat)(U:iT w B g p out Ah hc Aw wc Ap pc Ao oc)(gd:lS p)(hb:p.wait.length<=1000000)(a5:out.length+10*p.wait.length<=80000000):
  aw prog 29 #[ag (some ⟨g,0,none⟩)] w fun e w'=>e=ao (.tuple #[])/\(∃br bt bu bz bA bB bC bD,iT w' B g (P4 p.wait.length p p.wait).1 (out++(P4 p.wait.length p p.wait).2) br bt bu bz bA bB bC bD)/\kD (P4 p.wait.length p p.wait).1/\aR B w w':=by
 have hs:=lr gd.ks
 obtain⟨M,hM⟩:∃M:Nat,p.m=(M:Int):=⟨p.m.toNat,by omega⟩
 obtain⟨N,hN⟩:=gX (p.wait.length)
 obtain⟨F,hF⟩:=gX (P4 N p p.wait)
 have a6:kD F.1:=by
  have h1:=(yy N {p with wait:=[]} p.wait (by omega) gd.empty gd.bw).1;rw[ua]at h1;rw[hF];exact h1
 rw[<-hN,<-hF]
 have HU:=gW U;have al:=gW gd;have a7:=gW hF;have HM:=gW hM;have HN:=gW hN;have bE:=gW a6;have aV:=gW a5;have bF:=gW hb
 have bR:N<=1000000:=by omega
 have bS:1<=M:=by omega
 have bG:M<=65535:=by omega
 clear U gd hF hM hN a6 a5 hb hs
 go_enter func29,ntmps29
 go_wp2_with fail
 go_loopw [] (fun wr=>∃(q:iz) (o:List Nat) (Ah:Option au) (hc:Nat) (Aw:Option au) (wc:Nat) (Ap:Option au) (pc:Nat) (Ao:Option au) (oc:Nat),aQ (iT wr B g q o Ah hc Aw wc Ap pc Ao oc)/\aQ (lS q)/\aQ (q.m=(M:Int))/\aQ (q.wait.length<=N)/\aQ (o.length+10*q.wait.length<=80000000)/\aQ ((P4 N q q.wait).1=F.1/\o++(P4 N q q.wait).2=out++F.2)/\aQ (aR B w wr)) (fun wr=>zQ ((wr.cell? ⟨g,5,none⟩).getD (ae aj 0)))
 case atStart=>exact⟨p,out,Ah,hc,Aw,wc,Ap,pc,Ao,oc,HU,al,HM,gW (by have:=HN.out;omega),aV,gW (by rw[a7.out];exact⟨rfl,rfl⟩),gW ix⟩
 case round=>
  clear HU al a7 HM aV bF HN;obtain⟨q,o,Ah,hc,Aw,wc,Ap,pc,Ao,oc,HU,al,HM,a1,aV,a8,HB⟩:=hrel;obtain⟨hn,aY⟩:=gX (q.hist.length);obtain⟨wn,ad⟩:=gX (q.wait.length);obtain⟨pn,aW⟩:=gX (q.ie.length);obtain⟨on,aZ⟩:=gX (o.length);have hx:=HU.out.box;have eX:jZ q Ah hc Aw wc Ap pc Ao o.length oc=#[ae aj q.s,ae aj q.h,ae aj (M:Int),ai q.z,af Ah hn hc,af Aw wn wc,af Ap pn pc,ae aj q.k,ai q.iH,(af Ao on oc)]:=by
   unfold jZ;rw[<-aY,<-ad,<-aW,HM.out,<-aZ]
  rw[eX]at hx;have HX:=gW hx;have a9:=gW HU.out.le;have bd:zQ ((wr.cell? ⟨g,5,none⟩).getD (ae aj 0))=wn:=by rw[show wr.cell? ⟨g,5,none⟩=some (af Aw wn wc)from hx.cell.trans rfl];rfl
  have bH:=gW bd;clear hx eX bd;by_cases aT:M<=wn
  ·have GE:aQ (∀V:aq,(binOp .geq 3 (ae aj (wn:Int)) (ae aj (M:Int))).run prog V=.ok (ai true) V):=gW fun V=>Po _ _ _ _ (by omega) V
   have aU:q.m.toNat=M:=by rw[HM.out];exact Int.toNat_natCast _
   have av:=Lr (p:=q) (N:=N) al.out.ks a1.out (by rw[aU,<-ad];exact aT);rw[aU]at av;obtain⟨r,hr⟩:=gX (mB q (kr q (q.wait.take M)) M (jq q (q.wait.take M)) false);have bf:lS r.1:=by rw[hr];exact Eg al.out _ _ _ _
   have bg:r.2.length<=6+M:=by
    have:=Lu al.out (raw:=q.wait.take M) (n:=M) rfl;rw[<-hr,List.length_take]at this;omega
   have a2:r.1.wait=q.wait.drop M:=by rw[hr];rfl
   have bj:r.1.m=q.m:=by rw[hr];rfl
   rw[<-hr,<-a2]at av;have bk:r.1.wait.length=wn-M:=by rw[a2,List.length_drop,<-ad]
   have aS:=fun V (hV:aR wr.heap.size wr V)=>FY V B g q o Ah hc Aw wc Ap pc Ao oc (HU.out.below hV) al.out M (by rw[<-ad];exact aT) bG (by have:=a1.out;omega) (by have:=aV.out;omega) false
   rw[<-hr]at aS;have bI:=gW aS;have a3:=gW av;have bJ:=gW bf;have bK:=gW bg;have bl:=gW bk;have bL:=gW bj
   have bm:=gW aT;have bT:=gW aY;have bn:=gW ad;have bU:=gW aZ
   clear aS av bf bg bk bj a2 hr aU aT aY ad aW aZ;go_wp2_with fail
   refine tt (nM [fun v _=>v=ag (some ⟨g,0,none⟩),fun v _=>v=ag (some ⟨g,0,none⟩),fun v _=>v=ag (some ⟨g,0,none⟩),fun v _=>v=ag (some ⟨g,5,none⟩),fun v _=>v=af Aw wn wc,fun v _=>v=ae aj (wn:Int),fun v _=>v=ag (some ⟨g,0,none⟩),fun v _=>v=ag (some ⟨g,0,none⟩),fun v _=>v=ag (some ⟨g,0,none⟩),fun v _=>v=ag (some ⟨g,0,none⟩),fun v _=>v=ag (some ⟨g,2,none⟩),fun v _=>v=ae aj (M:Int),fun v _=>v=ai true]) wr ix (by kernel_rfl) (by kernel_rfl) ?_ ?_
   case refine_1=>
    refine ia.cons (fun aa wv hb ha hS Kk Qq hK=>iS (ic rfl) _ rfl (ij ((ha 0 (by kernel_rfl)).trans rfl)) hK) ?_;refine ia.cons (fun aa wv hb ha hS Kk Qq hK=>lU (ic rfl) _ rfl _ (hS 0 2 (by kernel_rfl) rfl).here (ij rfl) hK) ?_;refine ia.cons (fun aa wv hb ha hS Kk Qq hK=>iL (ic rfl) _ _ _ rfl _ (ag (some ⟨g,0,none⟩)) (hS 1 3 (by kernel_rfl) rfl).here (by go_simp) (ij rfl) hK) ?_;refine ia.cons (fun aa wv hb ha hS Kk Qq hK=>iL (ic rfl) _ _ _ rfl _ (ag (some ⟨g,5,none⟩)) (hS 2 4 (by kernel_rfl) rfl).here (by go_simp) (ij rfl) hK) ?_;refine ia.cons (fun aa wv hb ha hS Kk Qq hK=>lu (ic rfl) _ _ rfl _ (af Aw wn wc) (hS 3 5 (by kernel_rfl) rfl).here (by have hc:wv.cell? ⟨g,5,none⟩=some (af Aw wn wc):=(HX.out.below hb HX.out.lt).cell.trans rfl;go_simp) (ij rfl) hK) ?_;refine ia.cons (fun aa wv hb ha hS Kk Qq hK=>uw (ic rfl) _ _ rfl Aw wn wc (hS 4 6 (by kernel_rfl) rfl).here underlying22 (ij rfl) hK) ?_;refine ia.cons (fun aa wv hb ha hS Kk Qq hK=>iS (ic rfl) _ rfl (ij ((ha 0 (by kernel_rfl)).trans rfl)) hK) ?_;refine ia.cons (fun aa wv hb ha hS Kk Qq hK=>lU (ic rfl) _ rfl _ (hS 6 8 (by kernel_rfl) rfl).here (ij rfl) hK) ?_;refine ia.cons (fun aa wv hb ha hS Kk Qq hK=>iL (ic rfl) _ _ _ rfl _ (ag (some ⟨g,0,none⟩)) (hS 7 9 (by kernel_rfl) rfl).here (by go_simp) (ij rfl) hK) ?_;refine ia.cons (fun aa wv hb ha hS Kk Qq hK=>iL (ic rfl) _ _ _ rfl _ (ag (some ⟨g,0,none⟩)) (hS 8 10 (by kernel_rfl) rfl).here (by go_simp) (ij rfl) hK) ?_;refine ia.cons (fun aa wv hb ha hS Kk Qq hK=>iL (ic rfl) _ _ _ rfl _ (ag (some ⟨g,2,none⟩)) (hS 9 11 (by kernel_rfl) rfl).here (by go_simp) (ij rfl) hK) ?_;refine ia.cons (fun aa wv hb ha hS Kk Qq hK=>lu (ic rfl) _ _ rfl _ (ae aj (M:Int)) (hS 10 12 (by kernel_rfl) rfl).here (by have hc:wv.cell? ⟨g,2,none⟩=some (ae aj (M:Int)):=(HX.out.below hb HX.out.lt).cell.trans rfl;go_simp) (ij rfl) hK) ?_;refine ia.cons (fun aa wv hb ha hS Kk Qq hK=>qD (ic rfl) _ _ _ _ _ rfl _ _ (ai true) (hS 5 7 (by kernel_rfl) rfl).here (hS 11 13 (by kernel_rfl) rfl).here (sy _ _ _ _ _ _ _ (by decide) (by decide) _) (GE.out wv) (ij rfl) hK) ?_;exact ia.nil
   intro vals w5 hb hv;have aX:vals 14=ai true:=(hv 12 14 rfl).here;have x5:=HX.out.below hb HX.out.lt;have s2:w5.cell? ⟨g,2,none⟩=some (ae aj (M:Int)):=x5.cell.trans rfl;have a4:=gW (HB.out.trans (hb.mono (by have:=a9.out;have:=HU.out.lt;omega)));have bM:=gW (bI.out w5 hb);clear x5 hb hv;simp only[List.map_cons,List.map_nil,P5,Act.put,List.setIfInBounds_toArray,List.set_cons_zero,List.set_cons_succ,aX];clear aX;go_wp2_with fail
   refine bM.out.mono ?_;rintro e w6 ⟨rfl,⟨A1,k1,A2,k2,A3,k3,A4,k4,U6⟩,bp⟩;have bq:zQ ((w6.cell? ⟨g,5,none⟩).getD (ae aj 0))=r.1.wait.length:=by rw[show w6.cell? ⟨g,5,none⟩=some (af A2 r.1.wait.length k2)from U6.box.cell.trans rfl];rfl
   have bN:=gW bq;have bO:=gW U6;have bP:=gW (a4.out.trans bp)
   clear U6 bp bq s2;go_wp2;go_roundw
   case rel=>
    have h1:=a3.out;have h2:=a8.out;have h3:=bl.out;have h4:=bK.out;have h5:=aV.out;have h6:=a1.out;have h7:=bn.out;have h8:=bm.out
    refine⟨r.1,o++r.2,A1,k1,A2,k2,A3,k3,A4,k4,bO,bJ,gW (bL.out.trans HM.out),gW (by omega),gW (by rw[List.length_append];omega),gW ?_,bP⟩;rw[h1]at h2;exact⟨h2.1,by rw[List.append_assoc];exact h2.2⟩
   case measure=>
    have h8:=bm.out;rw[bN.out,bH.out,bl.out];omega
  ·have GE:aQ (∀V:aq,(binOp .geq 3 (ae aj (wn:Int)) (ae aj (M:Int))).run prog V=.ok (ai false) V):=gW fun V=>Pp _ _ _ _ (by omega) V
   have aU:q.m.toNat=M:=by rw[HM.out];exact Int.toNat_natCast _
   have av:=Ls (p:=q) (N:=N) (by rw[aU,<-ad];exact aT);have a3:=gW av;clear av aU aT aY ad aW aZ;go_wp2_with fail
   refine tt (nM [fun v _=>v=ag (some ⟨g,0,none⟩),fun v _=>v=ag (some ⟨g,0,none⟩),fun v _=>v=ag (some ⟨g,0,none⟩),fun v _=>v=ag (some ⟨g,5,none⟩),fun v _=>v=af Aw wn wc,fun v _=>v=ae aj (wn:Int),fun v _=>v=ag (some ⟨g,0,none⟩),fun v _=>v=ag (some ⟨g,0,none⟩),fun v _=>v=ag (some ⟨g,0,none⟩),fun v _=>v=ag (some ⟨g,0,none⟩),fun v _=>v=ag (some ⟨g,2,none⟩),fun v _=>v=ae aj (M:Int),fun v _=>v=ai false]) wr ix (by kernel_rfl) (by kernel_rfl) ?_ ?_
   case refine_1=>
    refine ia.cons (fun aa wv hb ha hS Kk Qq hK=>iS (ic rfl) _ rfl (ij ((ha 0 (by kernel_rfl)).trans rfl)) hK) ?_;refine ia.cons (fun aa wv hb ha hS Kk Qq hK=>lU (ic rfl) _ rfl _ (hS 0 2 (by kernel_rfl) rfl).here (ij rfl) hK) ?_;refine ia.cons (fun aa wv hb ha hS Kk Qq hK=>iL (ic rfl) _ _ _ rfl _ (ag (some ⟨g,0,none⟩)) (hS 1 3 (by kernel_rfl) rfl).here (by go_simp) (ij rfl) hK) ?_;refine ia.cons (fun aa wv hb ha hS Kk Qq hK=>iL (ic rfl) _ _ _ rfl _ (ag (some ⟨g,5,none⟩)) (hS 2 4 (by kernel_rfl) rfl).here (by go_simp) (ij rfl) hK) ?_;refine ia.cons (fun aa wv hb ha hS Kk Qq hK=>lu (ic rfl) _ _ rfl _ (af Aw wn wc) (hS 3 5 (by kernel_rfl) rfl).here (by have hc:wv.cell? ⟨g,5,none⟩=some (af Aw wn wc):=(HX.out.below hb HX.out.lt).cell.trans rfl;go_simp) (ij rfl) hK) ?_;refine ia.cons (fun aa wv hb ha hS Kk Qq hK=>uw (ic rfl) _ _ rfl Aw wn wc (hS 4 6 (by kernel_rfl) rfl).here underlying22 (ij rfl) hK) ?_;refine ia.cons (fun aa wv hb ha hS Kk Qq hK=>iS (ic rfl) _ rfl (ij ((ha 0 (by kernel_rfl)).trans rfl)) hK) ?_;refine ia.cons (fun aa wv hb ha hS Kk Qq hK=>lU (ic rfl) _ rfl _ (hS 6 8 (by kernel_rfl) rfl).here (ij rfl) hK) ?_;refine ia.cons (fun aa wv hb ha hS Kk Qq hK=>iL (ic rfl) _ _ _ rfl _ (ag (some ⟨g,0,none⟩)) (hS 7 9 (by kernel_rfl) rfl).here (by go_simp) (ij rfl) hK) ?_;refine ia.cons (fun aa wv hb ha hS Kk Qq hK=>iL (ic rfl) _ _ _ rfl _ (ag (some ⟨g,0,none⟩)) (hS 8 10 (by kernel_rfl) rfl).here (by go_simp) (ij rfl) hK) ?_;refine ia.cons (fun aa wv hb ha hS Kk Qq hK=>iL (ic rfl) _ _ _ rfl _ (ag (some ⟨g,2,none⟩)) (hS 9 11 (by kernel_rfl) rfl).here (by go_simp) (ij rfl) hK) ?_;refine ia.cons (fun aa wv hb ha hS Kk Qq hK=>lu (ic rfl) _ _ rfl _ (ae aj (M:Int)) (hS 10 12 (by kernel_rfl) rfl).here (by have hc:wv.cell? ⟨g,2,none⟩=some (ae aj (M:Int)):=(HX.out.below hb HX.out.lt).cell.trans rfl;go_simp) (ij rfl) hK) ?_;refine ia.cons (fun aa wv hb ha hS Kk Qq hK=>qD (ic rfl) _ _ _ _ _ rfl _ _ (ai false) (hS 5 7 (by kernel_rfl) rfl).here (hS 11 13 (by kernel_rfl) rfl).here (sy _ _ _ _ _ _ _ (by decide) (by decide) _) (GE.out wv) (ij rfl) hK) ?_;exact ia.nil
   intro vals w5 hb hv;have aX:vals 14=ai false:=(hv 12 14 rfl).here;have U5:=HU.out.below hb;have a4:=gW (HB.out.trans (hb.mono (by have:=a9.out;have:=HU.out.lt;omega)));have bQ:=gW U5;clear hb hv U5;simp only[List.map_cons,List.map_nil,P5,Act.put,List.setIfInBounds_toArray,List.set_cons_zero,List.set_cons_succ,aX];clear aX;go_wp2;go_end0;have h2:=a8.out;rw[a3.out]at h2;refine⟨rfl,⟨Ah,hc,Aw,wc,Ap,pc,Ao,oc,?_⟩,bE.out,a4.out⟩;rw[<-h2.1,<-h2.2,List.append_nil];exact bQ.out
theorem Pq(w:aq)(B g:Nat)(p:iz)(out:List Nat)(Ah:Option au)(hc:Nat)(Aw:Option au)(wc:Nat)(Ap:Option au)(pc:Nat)(Ao:Option au)(oc:Nat)(U:iT w B g p out Ah hc Aw wc Ap pc Ao oc)(gd:lS p)(hb:p.wait.length<=65535)(a8:out.length<=80000000):
  aw prog 30 #[ag (some ⟨g,0,none⟩)] w fun e w'=>e=ao (.tuple #[])/\(∃bn bp bq br bt bu bz bA,iT w' B g (jR p).1 (out++(jR p).2) bn bp bq br bt bu bz bA)/\aR B w w':=by
 have ad:=FY w B g p out Ah hc Aw wc Ap pc Ao oc U gd p.wait.length gY hb (by omega) (by omega) true
 rw[List.take_length]at ad
 obtain⟨q,hq⟩:=gX (mB p (kr p p.wait) p.wait.length (jq p p.wait) true)
 have aX:=Lv q hq
 have a9:lS q.1:=by rw[hq];exact Eg gd _ _ _ _
 have bd:q.2.length<=4000000:=by
  have t:=vK gd.ks gd.bh gd.bw;have hle:=vX (k:=p.k.toNat) (kind:=kr p p.wait) (raw:=p.wait) (l:=jq p p.wait) (last:=true) (vM _ _) (by have:=gd.k7;omega) hb gd.bw (by omega) t.2;have e:q.2=(ke p.ie p.k.toNat (kr p p.wait) p.wait (jq p p.wait) true).1.take ((ke p.ie p.k.toNat (kr p p.wait) p.wait (jq p p.wait) true).2/8):=by
   rw[hq];unfold mB;rw[List.take_length];rfl
  rw[e,List.length_take];have bN:(ke p.ie p.k.toNat (kr p p.wait) p.wait (jq p p.wait) true).2<=4320007:=hle;omega
 rw[<-hq]at ad
 rw[aX]
 obtain⟨wn,aZ⟩:=gX (p.wait.length)
 have c5:w.cell? ⟨g,5,none⟩=some (af Aw wn wc):=by rw[aZ];exact U.box.cell.trans rfl
 rw[<-aZ]at ad
 have bB:=gW ad;have av:=gW a9;have bC:=gW a8;have bD:=gW bd;have aU:=gW U.le
 clear U gd hb a8 ad hq aX a9 bd aZ
 go_enter func30,ntmps30
 go_wp2_with fail
 refine bB.out.mono ?_
 rintro e w2 ⟨rfl,⟨A1,k1,A2,k2,A3,k3,A4,k4,U2⟩,bf⟩
 obtain⟨pn,aS⟩:=gX (q.1.ie.length)
 obtain⟨K,hk⟩:∃K:Nat,q.1.k=(K:Int):=⟨q.1.k.toNat,by have:=av.out.k0;omega⟩
 have a1:=U2.ie
 have a2:=FX av.out
 have hz:=vJ q.1.ie
 have bE:pn=(K+7)/8:=by rw[aS,av.out.len,hk,Int.toNat_natCast]
 have bP:K<=7:=by have:=av.out.k7;omega
 have bO:pn<=1:=by omega
 rw[<-aS,hk]at a2
 rw[<-aS]at a1 hz
 have a3:=I4 w2 A3 pn k3 (hH q.1.ie) K a1.1 (by unfold ko;rw[if_pos a2])
 rw[hz]at a3
 have bg:=U2.box
 have bj:aQ (w2.rangeAt g 6 [af A3 pn k3,ae aj (K:Int)]):=gW (mg bg 6 _ (fun i hi=>by
  rcases i with _|_|i
  ·rw[aS];rfl
  ·rw[<-hk];rfl
  ·simp at hi;omega))
 have bF:=gW a3;have a4:=gW U2;have bG:=gW bf;have al:=gW aS;have HK:=gW hk;have bH:=gW (kE U2.ie)
 clear a3 U2 bf a1 a2 hz bE aS hk bg c5
 go_wp2_with (first
  |(refine wpList_load_mid rfl _ _ rfl g 6 rfl [af A3 pn k3,ae aj (K:Int)] _ bj.out underlying30 rfl (ou _ _) ?_)
  |fail)
 refine bF.out.mono ?_
 rintro e w3 ⟨gn,rfl,bI,a5,aY⟩
 have U3:=a4.out.below a5
 have aT:=U3.box
 have s6:w3.cell? ⟨g,6,none⟩=some (af A3 pn k3):=by rw[al.out];exact aT.cell.trans rfl
 have s7:w3.cell? ⟨g,7,none⟩=some (ae aj (K:Int)):=by rw[<-HK.out];exact aT.cell.trans rfl
 have f6:w3.frozen? ⟨g,6,none⟩=false:=aT.free
 have f7:w3.frozen? ⟨g,7,none⟩=false:=aT.free
 obtain⟨W4,aV⟩:=gX ((w3.setCell ⟨g,6,none⟩ (af (some ⟨gn,0,none⟩) pn pn)).setCell ⟨g,7,none⟩ (ae aj ((8*pn:Nat):Int)))
 have bk:ib w3 w3.heap.size (some ⟨gn,0,none⟩) pn pn (hH q.1.ie):=⟨Row.rd aY (kH bH.out),(fun h=>by cases h),Nat.le_refl _,by unfold maxLen;omega⟩
 have nn:jw (some ⟨gn,0,none⟩) pn (af A4 (out++q.2).length k4):=fun b o h0 e hx=>by
  injection e with e
  injection e with e1 _ _
  have h2:=(oD a4.out.own b hx).2;omega
 have U4:iT W4 B g {q.1 with k:=((8*pn:Nat):Int)} (out++q.2) A1 k1 A2 k2 (some ⟨gn,0,none⟩) pn A4 k4:=by
  rw[aV];refine U3.wI (p':={q.1 with k:=((8*pn:Nat):Int)}) 6 7 _ _ (by unfold jZ;simp only[<-al.out];rfl) U3.row U3.wait ?_ U3.nr U3.nw ?_
  ·show ib w3 _ _ q.1.ie.length pn _;rw[<-al.out];exact bk
  ·show jw _ q.1.ie.length _;rw[<-al.out];exact nn
 have a6:=Es W4 B g {q.1 with k:=((8*pn:Nat):Int)} (out++q.2) A1 k1 A2 k2 (some ⟨gn,0,none⟩) pn A4 k4 U4 (8*pn) rfl (by have:=al.out;have:=av.out.len;have:=av.out.k7;omega) (by show 8*pn/8<=q.1.ie.length;have:=al.out;omega) (by have:=bC.out;have:=bD.out;rw[List.length_append];omega)
 rw[show 8*pn/8=pn by omega,show 8*pn%8=0 by omega]at a6
 rw[show((8*pn:Nat):Int)=8*(pn:Int) by omega]at aV
 have HG:=gW a6;have bl:=gW aV
 have bJ:aQ (aR B w W4):=gW (by rw[bl.out];exact kh (kh (bG.out.trans (a5.mono (by have:=aU.out;have:=a4.out.lt;omega))) aU.out _ _) aU.out _ _)
 clear a6 aV U4 nn bk aT U3 a5 aY bI bj
 go_wp2_with (first|(rw[<-bl.out])|fail)
 refine HG.out.mono ?_
 rintro e w5 ⟨rfl,⟨A5,k5,A6,k6,U5⟩,bm⟩
 have ed:({q.1 with k:=((8*pn:Nat):Int)}:iz).ie.drop pn=[]:=by show q.1.ie.drop pn=[];rw[al.out,List.drop_length]
 have et:({q.1 with k:=((8*pn:Nat):Int)}:iz).ie.take pn=q.1.ie:=by show q.1.ie.take pn=_;rw[al.out,List.take_length]
 rw[ed,et]at U5
 have a7:=U5.box
 have t8:w5.cell? ⟨g,8,none⟩=some (ai q.1.iH):=a7.cell.trans rfl
 have f8:w5.frozen? ⟨g,8,none⟩=false:=a7.free
 obtain⟨W6,aW⟩:=gX (w5.setCell ⟨g,8,none⟩ (ai true))
 have U6:iT W6 B g {q.1 with ie:=[],k:=0,iH:=true} ((out++q.2)++q.1.ie) A1 k1 A2 k2 A5 k5 A6 k6:=by
  rw[aW];exact U5.LO (p':={q.1 with ie:=[],k:=0,iH:=true}) 8 _ (by unfold jZ;rfl) U5.row U5.wait U5.ie U5.nr U5.nw U5.np
 rw[List.append_assoc]at U6
 have bK:=gW U6;have bL:=gW aW
 have bM:aQ (aR B w W6):=gW (by rw[aW];exact kh (bJ.out.trans bm) aU.out _ _)
 clear U6 U5 aW bm ed et a7 s6 s7 f6 f7
 go_wp2_with (rw[<-bL.out])
 go_end0
 exact⟨rfl,⟨_,_,_,_,_,_,_,_,bK.out⟩,bM.out⟩
theorem Pr(bE:we)(w:aq)(p:iz)(Ah:Option au)(hc:Nat)(Aw:Option au)(wc:Nat)(Ap:Option au)(pc:Nat)(hp:iD w w.heap.size p Ah hc Aw wc Ap pc)(h1:p.hist.length<=1000000)(h2:p.wait.length<=1000000)(Ab:Option au)(bc:Nat)(b:List Nat)(hb:ib w w.heap.size Ab b.length bc (hH b))(h3:b.length<=1000000):
  aw prog 32 #[ah (iA p Ah hc Aw wc Ap pc),af Ab b.length bc,.func (.func 29) #[] #[]] w fun e w'=>tv w w' e (pj (nt p b.length) (jB p b)) (nt p b.length):=by
 obtain⟨h,hh⟩:=gX (w.heap.size)
 obtain⟨X,hX⟩:=gX (iA p Ah hc Aw wc Ap pc)
 rw[<-hX]
 obtain⟨Z,hZ⟩:=gX (iA (iR 0 0 0 false) none 0 none 0 none 0)
 have hz:=(zero_of_info oP).1
 have bj:=vO
 rw[<-hZ]at hz bj
 obtain⟨W1,aZ⟩:=gX ((w.alloc (ak X 32)).alloc (ak Z 32))
 have b1:aR h w W1:=by rw[aZ,hh];exact(ix.alloc gY _).alloc (by simp) _
 have x1:gZ W1 h X 32:=by rw[aZ,hh];exact(gZ.new w _ _).old _
 have z1:gZ W1 (h+1) Z 32:=by
  rw[aZ,hh];have:=gZ.new (w.alloc (ak X 32)) Z 32
  rwa[World.size_alloc]at this
 have a9:h+1<W1.heap.size:=z1.lt
 have a1:=bE W1 p Ah hc Aw wc Ap pc (hp.on (hh▸b1))
 rw[<-hX]at a1
 obtain⟨bn,bk⟩:=gX (b.length)
 obtain⟨r,hr⟩:=gX (jB p b)
 rw[<-hr,<-bk]
 have bF:X[8]?=some (ai p.iH):=by rw[hX];rfl
 have aX:=gW a1;have a6:=gW aZ;have HH:=gW hh;have a7:=gW b1;have av:=gW x1;have a8:=gW z1;have aT:=gW a9;have bS:=gW hX;have a2:aQ (X.size=9):=gW (by rw[hX];rfl);have aU:aQ (Z.size=9):=gW (by rw[hZ];rfl);have b9:=gW hZ;have bl:aQ (Z.all (·.oneCell')=true):=gW (by rw[hZ];exact kW ..);have bT:aQ (l5 Z):=gW (by rw[hZ];exact qa _ _ _ _ _ _ _)
 have HP:=gW hp;have bm:=gW bj;have bG:=gW hb;have bp:=gW bF;have bH:=gW bk;have bI:=gW hr
 have a3:aQ (∀(V:aq) (E:Int),E≠0->aR h w V->tv w V (ao (.tuple #[ah Z,af none 0 0,ae aj E])) (pj E r) E):=gW fun V E hE hV=>by
  unfold pj;rw[if_neg hE];exact⟨none,0,none,0,none,0,none,0,by rw[hZ];rfl,Dq _ _,ib.nil _ _ _ pF,hh▸hV,my.nil _ _ _,my.nil _ _ _⟩
 clear a1 aZ hh b1 x1 z1 a9 hX hZ hp bj hb bk hr bF
 cases hm:pg p with
 |false=>
  have HC:aQ (ru p=8):=gW (by unfold ru;rw[hm];rfl);have HE:aQ (nt p bn=8):=gW (by unfold nt ox;rw[hm];rfl);clear hm;go_enter func32,ntmps32
  go_wp2_with (first
   |(rw[<-a6.out,<-HH.out])
   |(refine aE rfl _ _ rfl h rfl _ X (0,0) _ av.out underlying32 rfl (by rw[a2.out];exact iF) ?_)
   |fail)
  refine aX.out.mono ?_;rintro e w2 ⟨rfl,ad⟩;have z2:=a8.out.below ad aT.out;have x2:=av.out.below ad av.out.lt;have al:=a7.out.trans (ad.mono (by have:=aT.out;omega));rw[HC.out];clear x2;obtain⟨U,hU⟩:=gX (w2.setRow (h+1) Z);have aV:aQ (gZ U (h+1) Z 32):=gW (by rw[hU];exact z2.row Z);have aW:aQ (aR h w U):=gW (by rw[hU];exact mf al (by omega) _);have HU:=gW hU;have aS:=gW z2
  clear hU ad al z2;go_wp2_with (first
   |(refine aD rfl 32 #[] rfl (some 15) rfl Z ?_ ?_;focus(simpa[Act.eval]using bm.out))
   |(refine aC rfl _ _ _ rfl rfl (h+1) Z rfl rfl 32 Z aS.out (by rw[aU.out];exact iF) rfl bl.out ?_;rw[<-HU.out]))
  refine aK (rD rfl _ _ (h+1) Z aU.out rfl aV.out) rfl ?_;rw[HE.out];exact a3.out U _ (by decide) aW.out
 |true=>
  have HC:aQ (ru p=0):=gW (by unfold ru;rw[hm];rfl);cases ho:p.iH with
  |true=>
   have HE:aQ (nt p bn=6):=gW (by unfold nt ox;rw[hm,ho];rfl);have HO:=gW ho;clear hm ho;go_enter func32,ntmps32
   go_wp2_with (first
    |(rw[<-a6.out,<-HH.out])
    |(refine aE rfl _ _ rfl h rfl _ X (0,0) _ av.out underlying32 rfl (by rw[a2.out];exact iF) ?_)
    |fail)
   refine aX.out.mono ?_;rintro e w2 ⟨rfl,ad⟩;have z2:=a8.out.below ad aT.out;have x2:=av.out.below ad av.out.lt;have al:=a7.out.trans (ad.mono (by have:=aT.out;omega));rw[HC.out];have k8:w2.cell? ⟨h,8,none⟩=some (ai true):=by rw[<-HO.out];exact x2.cell.trans bp.out
   clear x2;obtain⟨U,hU⟩:=gX (w2.setRow (h+1) Z);have aV:aQ (gZ U (h+1) Z 32):=gW (by rw[hU];exact z2.row Z);have aW:aQ (aR h w U):=gW (by rw[hU];exact mf al (by omega) _);have HU:=gW hU;have aS:=gW z2
   clear hU ad al z2;go_wp2_with (first
    |(refine aD rfl 32 #[] rfl (some 19) rfl Z ?_ ?_;focus(simpa[Act.eval]using bm.out))
    |(refine aC rfl _ _ _ rfl rfl (h+1) Z rfl rfl 32 Z aS.out (by rw[aU.out];exact iF) rfl bl.out ?_;rw[<-HU.out]))
   refine aK (rD rfl _ _ (h+1) Z aU.out rfl aV.out) rfl ?_;rw[HE.out];exact a3.out U _ (by decide) aW.out
  |false=>
   have HO:=gW ho;by_cases bd:131072<bn
   ·have HE:aQ (nt p bn=4):=gW (by unfold nt ox;rw[hm,ho];simp;omega);have d1:decide ((131072:Int)<(bn:Int))=true:=decide_eq_true (by omega);clear hm ho bd;go_enter func32,ntmps32
    go_wp2_with (first
     |(rw[<-a6.out,<-HH.out])
     |(refine aE rfl _ _ rfl h rfl _ X (0,0) _ av.out underlying32 rfl (by rw[a2.out];exact iF) ?_)
     |fail)
    refine aX.out.mono ?_;rintro e w2 ⟨rfl,ad⟩;have z2:=a8.out.below ad aT.out;have x2:=av.out.below ad av.out.lt;have al:=a7.out.trans (ad.mono (by have:=aT.out;omega));rw[HC.out];have k8:w2.cell? ⟨h,8,none⟩=some (ai false):=by rw[<-HO.out];exact x2.cell.trans bp.out
    clear x2;obtain⟨U,hU⟩:=gX (w2.setRow (h+1) Z);have aV:aQ (gZ U (h+1) Z 32):=gW (by rw[hU];exact z2.row Z);have aW:aQ (aR h w U):=gW (by rw[hU];exact mf al (by omega) _);have HU:=gW hU;have aS:=gW z2
    clear hU ad al z2;go_wp2_with (first
     |(refine aD rfl 32 #[] rfl (some 23) rfl Z ?_ ?_;focus(simpa[Act.eval]using bm.out))
     |(refine aC rfl _ _ _ rfl rfl (h+1) Z rfl rfl 32 Z aS.out (by rw[aU.out];exact iF) rfl bl.out ?_;rw[<-HU.out]))
    refine aK (rD rfl _ _ (h+1) Z aU.out rfl aV.out) rfl ?_;rw[HE.out];exact a3.out U _ (by decide) aW.out
   ·have HE:aQ (nt p bn=0):=gW (by unfold nt ox;rw[hm,ho];simp;omega);have d1:decide ((131072:Int)<(bn:Int))=false:=decide_eq_false (by omega);have gd:kD p:=Dd hm ho (kE HP.out.hist) (kE HP.out.wait) (kE HP.out.ie);have bb:=kE bG.out;have bJ:=lr gd.ks;have bK:r.1.hist.length<=2000000/\r.1.wait.length<=2000000/\r.1.ie.length<=2000000:=by
     rw[bI.out];have g2:=vN gd bb;have ca:=g2.1.hist;have cb:=g2.1.wait;have cf:=g2.1.len;have cg:=g2.1.k7;have ch:=g2.2.1;have cj:=g2.2.2.1
     exact⟨by omega,by omega,by omega⟩
    have bq:=gW bK;have bU:aQ (∀(V:aq) (g:Nat) (Ah:Option au) (hc:Nat) (Aw:Option au) (wc:Nat) (B:Nat),iT V B g {p with wait:=p.wait++b} [] Ah hc Aw wc Ap pc none 0->aw prog 29 #[ag (some ⟨g,0,none⟩)] V fun e w'=>e=ao (.tuple #[])/\(∃br bt bu bz bV bW bX bY,iT w' B g r.1 r.2 br bt bu bz bV bW bX bY)/\aR B V w'):=gW fun V g Ah hc Aw wc B UV=>by
     rw[bI.out];have gw:lS {p with wait:=p.wait++b}:=gd.w.set (fun x hx=>(List.mem_append.1 hx).elim (gd.bw x) (bb x));have hl:(p.wait++b).length<=300000:=by rw[List.length_append];have:=gd.wait;have:=bH.out;omega
     have:=F9 V B g {p with wait:=p.wait++b} [] Ah hc Aw wc Ap pc none 0 UV gw (by show(p.wait++b).length<=_;omega) (by show 0+10*(p.wait++b).length<=_;omega);refine this.mono fun e w' ⟨e1,e2,_,e4⟩=>⟨e1,?_,e4⟩
     have ew:P4 ({p with wait:=p.wait++b}:iz).wait.length {p with wait:=p.wait++b} ({p with wait:=p.wait++b}:iz).wait=jB p b:=ua _ p _ _;rw[ew,List.nil_append]at e2;exact e2
    have bZ:aQ (∀V,aR h w V->aw prog 28 #[ah X,af Ab bn bc] V fun e w'=>∃g br bt bu bz,e=ao (ag (some ⟨g,0,none⟩))/\iT w' V.heap.size g {p with wait:=p.wait++b} [] br bt bu bz Ap pc none 0/\aR V.heap.size V w'):=gW fun V hV=>by
     rw[bS.out,bH.out];rw[HH.out]at hV;exact F7 V p Ah hc Aw wc Ap pc (HP.out.on hV) Ab bc b ((bG.out.below hV gY).more hV.size) h1 h2 h3
    clear hm ho bd gd bb bJ bK h1 h2 h3;go_enter func32,ntmps32
    go_wp2_with (first
     |(rw[<-a6.out,<-HH.out])
     |(refine aE rfl _ _ rfl h rfl _ X (0,0) _ av.out underlying32 rfl (by rw[a2.out];exact iF) ?_)
     |fail)
    refine aX.out.mono ?_;rintro e w2 ⟨rfl,ad⟩;have z2:=a8.out.below ad aT.out;have x2:=av.out.below ad av.out.lt;have al:=a7.out.trans (ad.mono (by have:=aT.out;omega));rw[HC.out];have k8:w2.cell? ⟨h,8,none⟩=some (ai false):=by rw[<-HO.out];exact x2.cell.trans bp.out
    have bL:=gW (bZ.out w2 al);have b0:=gW x2;have aS:=gW z2;have b2:=gW al
    clear ad al z2 x2;go_wp2_with (first
     |(refine aE rfl _ _ rfl h rfl _ X (0,0) _ b0.out underlying32 rfl (by rw[a2.out];exact iF) ?_)
     |fail)
    refine bL.out.mono ?_;rintro e w3 ⟨g,A1,k1,A2,k2,rfl,U3,bA⟩;have bM:=gW (bU.out w3 g A1 k1 A2 k2 w2.heap.size U3);have b3:=gW (aS.out.below bA aS.out.lt);have b4:=gW bA;clear U3 bA;go_wp2_with fail
    refine bM.out.mono ?_;rintro e w4 ⟨rfl,⟨A3,k3,A4,k4,A5,k5,A6,k6,U4⟩,bB⟩;have bf:=Pn w4 w2.heap.size g r.1 r.2 A3 k3 A4 k4 A5 k5 A6 k6 U4 bq.out.1 bq.out.2.1 bq.out.2.2;have bN:=gW bf;have b5:=gW (b3.out.below bB aS.out.lt);have b6:=gW (b4.out.trans bB);clear bf U4 bB bM;go_wp2_with fail
    refine bN.out.mono ?_;rintro e w5 ⟨A7,k7,A8,bO,A9,k9,rfl,r5,bP,bC,n7,n8⟩;have z5:=b5.out.below bC aS.out.lt;have bg:=b2.out.trans ((b6.out.trans bC).mono (by have:=aS.out.lt;omega));obtain⟨Y0,a4⟩:=gX (iA r.1 A7 k7 A8 bO A9 k9);obtain⟨lo,bD⟩:=gX (r.2.length);obtain⟨wC,aY⟩:=gX (w5.setRow (h+1) Y0);have aV:aQ (gZ wC (h+1) Y0 32):=gW (by rw[aY];exact z5.row Y0);have aW:aQ (aR h w wC):=gW (by rw[aY];exact mf bg (by omega) _);have kk:∀{A:Option au} {n c:Nat} {f:Nat->Nat},ib w5 w5.heap.size A n c f->ib wC wC.heap.size A n c f:=fun{A n c f} q=>by
     rw[aY,size_setRow];exact q.rC z5 bT.out Y0
    have nn:∀{A:Option au} {n:Nat},my w5 w2.heap.size A n->my wC w.heap.size A n:=fun{A n} q h0=>by
     obtain⟨gg,o,cur,e1,e2,e3⟩:=q h0;have ck:=aS.out.lt;have cl:=HH.out;refine⟨gg,o,cur,e1,by omega,?_⟩;rw[aY,aL _ _ _ _ (by omega)];exact e3
    have bQ:aQ (tv w wC (ao (.tuple #[ah Y0,af A6 lo k6,ae aj 0])) r 0):=gW ⟨A7,k7,A8,bO,A9,k9,A6,k6,by rw[a4,bD],⟨kk r5.hist,kk r5.wait,kk r5.ie⟩,kk bP,HH.out▸aW.out,nn n7,nn n8⟩;have a5:aQ (Y0.size=9):=gW (by rw[a4];rfl);have bR:aQ (Y0.all (·.oneCell')=true):=gW (by rw[a4];exact kW ..);have b7:=gW z5;have b8:=gW aY
    rw[<-a4,<-bD];clear aY z5 bC bg r5 bP n7 n8 kk nn a4 bD bN;go_wp2_with (refine aC rfl _ _ _ rfl rfl (h+1) Y0 rfl rfl 32 Z b7.out (by rw[a5.out];exact iF) (by rw[aU.out,a5.out]) bR.out ?_;rw[<-b8.out])
    refine aK (rD rfl _ _ (h+1) Y0 a5.out rfl aV.out) rfl ?_;rw[HE.out];unfold pj;rw[if_pos rfl];exact bQ.out
theorem Ps(aZ:we):yM:=by
 intro w p Ah hc Aw wc Ap pc Ab bc b hp hb h1 h2 h3;obtain⟨h,hh⟩:=gX (w.heap.size);obtain⟨X,hX⟩:=gX (iA p Ah hc Aw wc Ap pc);rw[<-hX];obtain⟨Z,hZ⟩:=gX (iA (iR 0 0 0 false) none 0 none 0 none 0);have hz:=(zero_of_info oP).1;rw[<-hZ]at hz;obtain⟨W1,al⟩:=gX ((w.alloc (ak X 32)).alloc (ak Z 32));have b1:aR h w W1:=by rw[al,hh];exact(ix.alloc gY _).alloc (by simp) _
 have x1:gZ W1 h X 32:=by rw[al,hh];exact(gZ.new w _ _).old _
 have z1:gZ W1 (h+1) Z 32:=by
  rw[al,hh];have:=gZ.new (w.alloc (ak X 32)) Z 32
  rwa[World.size_alloc]at this
 have aU:h+1<W1.heap.size:=z1.lt;have av:=Pr aZ W1 p Ah hc Aw wc Ap pc (hp.on (hh▸b1)) h1 h2 Ab bc b ((hb.below (hh▸b1) gY).more (hh▸b1).size) h3;obtain⟨R,hR⟩:=gX (pj (nt p b.length) (jB p b));obtain⟨E,hE⟩:=gX (nt p b.length);rw[<-hR,<-hE]at av⊢;rw[<-hX]at av;obtain⟨bn,a1⟩:=gX (b.length);rw[<-a1]at av⊢;clear hb a1 h1 h2 h3;have a2:=gW av;have a7:=gW al;have HH:=gW hh;have a8:=gW b1;have a9:=gW x1;have bd:=gW z1;have aW:=gW aU;have bf:aQ (X.size=9):=gW (by rw[hX];rfl);have bg:aQ (Z.size=9):=gW (by rw[hZ];rfl);have bj:aQ (l5 Z):=gW (by rw[hZ];exact qa _ _ _ _ _ _ _)
 clear av al hh b1 x1 z1 aU hX hZ hR hE hp;go_enter func12,ntmps12
 go_wp2_with (first
  |(rw[<-a7.out,<-HH.out])
  |(refine aE rfl _ _ rfl h rfl _ X (0,0) _ a9.out underlying32 rfl (by rw[bf.out];exact iF) ?_)
  |fail)
 refine a2.out.mono ?_;rintro e w5 ⟨A7,k7,A8,a3,A9,k9,A6,k6,rfl,r5,a4,aX,n7,n8⟩;have z5:=bd.out.below aX aW.out;have aV:=a8.out.trans (aX.mono (by have:=aW.out;omega));obtain⟨Y0,aS⟩:=gX (iA R.1 A7 k7 A8 a3 A9 k9);obtain⟨lo,aY⟩:=gX (R.2.length);obtain⟨wC,ad⟩:=gX (w5.setRow (h+1) Y0);have bk:aQ (gZ wC (h+1) Y0 32):=gW (by rw[ad];exact z5.row Y0);have bl:aQ (aR h w wC):=gW (by rw[ad];exact mf aV (by omega) _);have kk:∀{A:Option au} {n c:Nat} {f:Nat->Nat},ib w5 w5.heap.size A n c f->ib wC wC.heap.size A n c f:=fun{A n c f} q=>by
  rw[ad,size_setRow];exact q.rC z5 bj.out Y0
 have nn:∀{A:Option au} {n:Nat},my w5 W1.heap.size A n->my wC w.heap.size A n:=fun{A n} q h0=>by
  obtain⟨gg,o,cur,e1,e2,e3⟩:=q h0;have bq:=aW.out;have br:=HH.out;refine⟨gg,o,cur,e1,by omega,?_⟩;rw[ad,aL _ _ _ _ (by omega)];exact e3
 have a5:aQ (tv w wC (ao (.tuple #[ah Y0,af A6 lo k6,ae aj E])) R E):=gW ⟨A7,k7,A8,a3,A9,k9,A6,k6,by rw[aS,aY],⟨kk r5.hist,kk r5.wait,kk r5.ie⟩,kk a4,HH.out▸bl.out,nn n7,nn n8⟩;have aT:aQ (Y0.size=9):=gW (by rw[aS];rfl);have a6:aQ (Y0.all (·.oneCell')=true):=gW (by rw[aS];exact kW ..);have bm:=gW z5;have bp:=gW ad
 rw[<-aS,<-aY];clear ad z5 aX aV r5 a4 n7 n8 kk nn aS aY a2;go_wp2_with (refine aC rfl _ _ _ rfl rfl (h+1) Y0 rfl rfl 32 Z bm.out (by rw[aT.out];exact iF) (by rw[bg.out,aT.out]) a6.out ?_;rw[<-bp.out])
 refine aK (rD rfl _ _ (h+1) Y0 aT.out rfl bk.out) rfl ?_;exact a5.out
theorem Pt(bm:yL):yN:=by
 intro w s hq m z Ab bc b hb h3;obtain⟨h,hh⟩:=gX (w.heap.size);obtain⟨SA,a1⟩:∃S:Array ax,S=#[ae aj s,ae aj hq,ae aj m,ai z]:=⟨_,rfl⟩;obtain⟨W1,aU⟩:=gX (w.alloc (ak SA 27));have b1:aR h w W1:=by rw[aU,hh];exact ix.alloc gY _
 have x1:gZ W1 h SA 27:=by rw[aU,hh];exact gZ.new w _ _
 have aV:=bm W1 s hq m z;rw[<-a1]at aV⊢;obtain⟨Z,hZ⟩:=gX (iA (iR 0 0 0 false) none 0 none 0 none 0);have hz:=(zero_of_info oP).1;rw[<-hZ]at hz;obtain⟨bn,a2⟩:=gX (b.length);obtain⟨E1,aW⟩:=gX (oz s hq m);rw[<-aW]at aV;have a8:aQ (SA.size=4):=gW (by rw[a1];rfl);have aX:=gW aV;have a9:=gW aU;have HH:=gW hh;have bd:=gW b1;have aY:=gW x1;have b3:=gW hZ;have bF:=gW hb;have bG:=gW a2
 have bf:aQ (Z.size=9):=gW (by rw[hZ];rfl);rw[<-a2];have bg:∀(K:Nat),True:=fun _=>trivial
 by_cases hm:iJ s hq m=false
 ·have e1:E1=8:=by rw[aW];unfold oz;rw[if_pos hm]
  have eA:mK s hq m bn=8:=by unfold mK;rw[if_pos hm]
  subst e1;rw[eA];clear aV aU hh b1 x1 hZ hb a2 aW hm eA bg a1;go_enter func9,ntmps9
  go_wp2_with (first
   |(rw[<-a9.out,<-HH.out])
   |(refine aE rfl _ _ rfl h rfl _ SA (0,0) _ aY.out underlying27 rfl (by rw[a8.out];exact oy) ?_)
   |fail)
  refine aX.out.mono ?_;rintro e w2 ⟨A1,k1,A2,k2,A3,k3,rfl,r2,al⟩;obtain⟨Y,hY⟩:=gX (iA (lE s hq m z) A1 k1 A2 k2 A3 k3);have av:aQ (Y.size=9):=gW (by rw[hY];rfl);have a3:aQ (Y.all (·.oneCell')=true):=gW (by rw[hY];exact kW ..);obtain⟨W3,ad⟩:=gX (iP w2 Z Y 32);have aZ:aQ (aR h w W3):=gW (by rw[ad];exact bd.out.trans ((al.trans ((kU _ _ _ _).mono al.size)).mono (by have:=aY.out.lt;omega)));have a4:=gW ad;rw[<-hY];clear ad al r2 hY aX;go_wp2_with (refine aC rfl _ _ _ rfl rfl w2.heap.size Y rfl rfl 32 Z (aG w2 _) (by rw[av.out];exact iF) (by rw[bf.out,av.out]) a3.out ?_;rw[show(w2.alloc (ak Z 32)).setRow w2.heap.size Y=iP w2 Z Y 32 from rfl,<-a4.out])
  refine aK (results_tmp2 rfl _ _ _) rfl ?_;exact⟨none,0,0,rfl,rfl,ib.nil _ _ _ pF,by rw[<-HH.out];exact aZ.out⟩
 ·have a5:iJ s hq m=true:=by simpa using hm
  have e1:E1=0:=by rw[aW];unfold oz;rw[if_neg hm]
  have eV:lE s hq m z=iR s hq m z:=by unfold lE;rw[if_neg hm]
  subst e1;by_cases aS:131072<bn
  ·have eA:mK s hq m bn=4:=by unfold mK;rw[if_neg hm,if_pos aS]
   have d1:decide ((131072:Int)<(bn:Int))=true:=decide_eq_true (by omega);rw[eA];clear aV aU hh b1 x1 hZ hb a2 aW hm eA bg a1 a5 eV aS;go_enter func9,ntmps9
   go_wp2_with (first
    |(rw[<-a9.out,<-HH.out])
    |(refine aE rfl _ _ rfl h rfl _ SA (0,0) _ aY.out underlying27 rfl (by rw[a8.out];exact oy) ?_)
    |fail)
   refine aX.out.mono ?_;rintro e w2 ⟨A1,k1,A2,k2,A3,k3,rfl,r2,al⟩;obtain⟨Y,hY⟩:=gX (iA (lE s hq m z) A1 k1 A2 k2 A3 k3);have av:aQ (Y.size=9):=gW (by rw[hY];rfl);have a3:aQ (Y.all (·.oneCell')=true):=gW (by rw[hY];exact kW ..);obtain⟨W3,ad⟩:=gX (iP w2 Z Y 32);have aZ:aQ (aR h w W3):=gW (by rw[ad];exact bd.out.trans ((al.trans ((kU _ _ _ _).mono al.size)).mono (by have:=aY.out.lt;omega)));have a4:=gW ad;rw[<-hY];clear ad al r2 hY aX;go_wp2_with (refine aC rfl _ _ _ rfl rfl w2.heap.size Y rfl rfl 32 Z (aG w2 _) (by rw[av.out];exact iF) (by rw[bf.out,av.out]) a3.out ?_;rw[show(w2.alloc (ak Z 32)).setRow w2.heap.size Y=iP w2 Z Y 32 from rfl,<-a4.out])
   refine aK (results_tmp2 rfl _ _ _) rfl ?_;exact⟨none,0,0,rfl,rfl,ib.nil _ _ _ pF,by rw[<-HH.out];exact aZ.out⟩
  ·have eA:mK s hq m bn=0:=by unfold mK;rw[if_neg hm,if_neg aS]
   have d1:decide ((131072:Int)<(bn:Int))=false:=decide_eq_false (by omega);rw[eA,if_pos rfl];have bb:=kE hb;have gb:=Dn z a5;obtain⟨r,hr⟩:=gX (jB (iR s hq m z) b);have bp:qC s hq m z b=r.2++(jR r.1).2:=by rw[hr];rfl
   have g2:=vN gb bb;rw[<-hr]at g2;have bq:r.2.length<=1000000:=by
    obtain⟨_,_,_,_,_,B,q1,q2⟩:=g2;have b4:=lr a5;have e1:(iR s hq m z).wait.length=0:=rfl;have e2:(iR s hq m z).k.toNat=0:=rfl;have e3:(iR s hq m z).m=m:=rfl;rw[e1,e3]at q1;rw[e2,e3]at q2;have q3:B<=B*m.toNat:=Nat.le_mul_of_pos_right _ (by omega);obtain⟨BM,bH⟩:=gX (B*m.toNat);rw[<-bH]at q1 q2 q3;omega
   have br:r.1.wait.length<=65535:=by have h5:=g2.1.wait;have h6:=g2.2.1;have h7:=lr a5;have e3:(iR s hq m z).m=m:=rfl;rw[e3]at h6;omega
   rw[bp];have HG:=gW g2.1;have bI:=gW bq;have bJ:=gW br
   have bK:aQ (∀(V:aq) (g:Nat) (Ah:Option au) (hc:Nat) (Aw:Option au) (wc:Nat) (B:Nat) (Ap:Option au) (pc:Nat),iT V B g {iR s hq m z with wait:=(iR s hq m z).wait++b} [] Ah hc Aw wc Ap pc none 0->aw prog 29 #[ag (some ⟨g,0,none⟩)] V fun e w'=>e=ao (.tuple #[])/\(∃bL bM bN bO bP bQ bR bS,iT w' B g r.1 r.2 bL bM bN bO bP bQ bR bS)/\aR B V w'):=gW fun V g Ah hc Aw wc B Ap pc UV=>by
    rw[hr];have gw:lS {iR s hq m z with wait:=(iR s hq m z).wait++b}:=gb.w.set (fun x hx=>(List.mem_append.1 hx).elim (gb.bw x) (bb x));have hl:((iR s hq m z).wait++b).length<=300000:=by rw[List.length_append];show 0+b.length<=_;omega
    have:=F9 V B g {iR s hq m z with wait:=(iR s hq m z).wait++b} [] Ah hc Aw wc Ap pc none 0 UV gw (by show((iR s hq m z).wait++b).length<=_;omega) (by show 0+10*((iR s hq m z).wait++b).length<=_;omega);refine this.mono fun e w' ⟨e1,e2,_,e4⟩=>⟨e1,?_,e4⟩
    have ew:P4 ({iR s hq m z with wait:=(iR s hq m z).wait++b}:iz).wait.length {iR s hq m z with wait:=(iR s hq m z).wait++b} ({iR s hq m z with wait:=(iR s hq m z).wait++b}:iz).wait=jB (iR s hq m z) b:=ua _ (iR s hq m z) _ _;rw[ew,List.nil_append]at e2;exact e2
   have bT:=gW eV;clear aV aU hh b1 x1 hZ hb a2 aW hm eA bg a1 a5 eV aS bb gb hr bp g2 bq br;go_enter func9,ntmps9
   go_wp2_with (first
    |(rw[<-a9.out,<-HH.out])
    |(refine aE rfl _ _ rfl h rfl _ SA (0,0) _ aY.out underlying27 rfl (by rw[a8.out];exact oy) ?_)
    |fail)
   refine aX.out.mono ?_;rintro e w2 ⟨A1,k1,A2,k2,A3,k3,rfl,r2,al⟩;rw[bT.out]at r2⊢;obtain⟨Y,hY⟩:=gX (iA (iR s hq m z) A1 k1 A2 k2 A3 k3);have av:aQ (Y.size=9):=gW (by rw[hY];rfl);have a3:aQ (Y.all (·.oneCell')=true):=gW (by rw[hY];exact kW ..);obtain⟨W3,ad⟩:=gX (iP w2 Z Y 32);have aT:aR w2.heap.size w2 W3:=by rw[ad];exact kU _ _ _ _
   have a6:aR h w W3:=bd.out.trans ((al.trans (aT.mono al.size)).mono (by have:=aY.out.lt;omega));obtain⟨h6,bj⟩:=gX (w2.heap.size);have bU:aQ (gZ W3 h6 Y 32):=gW (by rw[ad,bj];exact lq _ _ _ _);have r3:=(r2.below aT gY).more aT.size;have bt:ib W3 W3.heap.size Ab b.length bc (hH b):=by
    have:=a6;rw[HH.out]at this;exact(bF.out.below this gY).more this.size
   have bk:=F7 W3 (iR s hq m z) A1 k1 A2 k2 A3 k3 r3 Ab bc b bt (by show 0<=_;omega) (by show 0<=_;omega) h3;rw[<-hY,<-bG.out]at bk;have aZ:=gW a6;have a4:=gW ad;have bu:=gW bk;have bV:=gW bj
   rw[<-hY];clear ad al r2 hY aX aT a6 r3 bt bk bj h3;go_wp2_with (first
    |(refine aC rfl _ _ _ rfl rfl w2.heap.size Y rfl rfl 32 Z (aG w2 _) (by rw[av.out];exact iF) (by rw[bf.out,av.out]) a3.out ?_;rw[show(w2.alloc (ak Z 32)).setRow w2.heap.size Y=iP w2 Z Y 32 from rfl,<-a4.out,<-bV.out])
    |(refine aE rfl _ _ rfl h6 rfl _ Y (0,0) _ bU.out underlying32 rfl (by rw[av.out];exact iF) ?_)
    |fail)
   refine bu.out.mono ?_;rintro e w4 ⟨g,A4,k4,A5,k5,rfl,U4,bz⟩;have bA:=gW (bK.out w4 g A4 k4 A5 k5 W3.heap.size A3 k3 U4);have bW:=gW bz;clear U4 bz bu;go_wp2_with fail
   refine bA.out.mono ?_;rintro e w5 ⟨rfl,⟨A6,k6,A7,k7,A8,k8,A9,k9,U5⟩,bB⟩;have bC:=Pq w5 W3.heap.size g r.1 r.2 A6 k6 A7 k7 A8 k8 A9 k9 U5 HG.out.w bJ.out (by have:=bI.out;omega);have bD:=gW bC;have bX:=gW (bW.out.trans bB)
   clear bC U5 bB bA;go_wp2_with fail
   refine bD.out.mono ?_;rintro e w6 ⟨rfl,⟨B6,j6,B7,j7,B8,j8,B9,j9,U6⟩,bE⟩;have c9:w6.cell? ⟨g,9,none⟩=some (af B9 (r.2++(jR r.1).2).length j9):=U6.box.cell.trans rfl;have a7:ib w6 w6.heap.size B9 (r.2++(jR r.1).2).length j9 (hH (r.2++(jR r.1).2)):=ib.iI U6.own (kH U6.bo);obtain⟨O,hO⟩:=gX (r.2++(jR r.1).2);rw[<-hO]at c9 a7;obtain⟨on,bl⟩:=gX (O.length);rw[<-bl]at c9 a7;have bY:=gW a7;have bZ:=gW (aZ.out.trans ((bX.out.trans bE).mono (by have:=aZ.out.size;have:=HH.out;omega)))
   have b0:=gW hO;have b2:=gW bl
   clear U6 bE a7 bD hO bl;go_wp2;refine aK (results_tmp2 rfl _ _ _) rfl ?_;rw[<-b0.out];exact⟨B9,on,j9,rfl,b2.out,bY.out,by rw[<-HH.out];exact bZ.out⟩
end Go.Proofs.YtokpcpjnihinfaaGreat
