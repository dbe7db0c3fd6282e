/-
  Words and walks.
-/
import Derived.Test.YtgokdgcmkcmjeaaGreatqkaa
import Derived.Test.YtgokdgcmkcmjeaaGreatqkal
set_option maxRecDepth 100000
set_option maxHeartbeats 16000000
namespace Go.Proofs.YtgokdgcmkcmjeaaGreat
open Value renaming int → ae, slice → af, pointer → ag, agg → ai
open IntKind renaming i64 → ak
open Go renaming Addr → aw, wpList_store_rowTo → aD, wpList_buildTo → aE, setRow_heap → aJ, bodyPost_ret → aL, setRow_other → aM
open Go.RowKit renaming Hid → aR
open _root_.Go.Proofs.Tryz
open Go.RowKit
theorem RH:(fJ (fun _=>0) (af none 0 0)).all (·.oneCell')=true:=l7 _ _ rfl
theorem RI:prog.built 26 []=some (fJ (fun _=>0) (af none 0 0)):=by kernel_rfl
theorem RJ(w:World)(p:Nat)(A:Option aw)(l c:Nat)(g:Nat->Nat)(s:Rz)(h:fx w p A l c s)(S:Nat->Prop)(hS:S p)(dF:∀j,S j->j<w.heap.size)(hg:jN S w A l g)(hl:l<=1000000)(hs:s.1<=8*l)(hlen:(ji g l s).2.2=0->(jB g l s).length=gK g l s+iD g l s):
  Calls prog 55 #[ag (some ⟨p,0,none⟩)] w fun e w'=>∃u1 u2,e=.returned (.tuple #[ai (fJ (qH g l s) u1),ai (fJ (qI g l s) u2)])/\
   fx w' p A l c (pA g l s)/\iz w' w.heap.size u1 (qJ g l s)/\iz w' w.heap.size u2 (qK g l s)/\Fr (At p) w w':=by
 have hp:=h.lt
 obtain⟨k,hk⟩:=fb (w.heap.size)
 obtain⟨Z,hZ⟩:=fb (fJ (fun _=>0) (af none 0 0))
 obtain⟨W1,cB⟩:=fb ((w.alloc (.cells Z 26)).alloc (.cells Z 26))
 have cO:Below k w W1:=by rw[cB,hk];exact(fz.alloc fe _).alloc (by simp) _
 have dG:W1.heap.size=k+2:=by rw[cB,hk];simp
 have z1:fg W1 k Z 26:=by rw[cB,hk];exact(fg.new w _ _).old _
 have y1:fg W1 (k+1) Z 26:=by rw[cB,hk];have:=fg.new (w.alloc (.cells Z 26)) Z 26;rwa[World.size_alloc]at this
 have dH:=fa (fg.below h cO (by omega):fx W1 p A l c s)
 have dI:=fa (Fr.of (S:=At p) (hk▸cO))
 have en:∀u:World,(zeroValue 26).run prog u=.ok (ai Z) u:=by rw[hZ];exact(zero_of_info xZ).1
 have aX:aR (Z.size=17):=fa (by rw[hZ,jl])
 have cC:aR (Z.all (·.oneCell')=true):=fa (by rw[hZ];exact RH)
 have cD:aR (prog.built 26 []=some Z):=fa (by rw[hZ];exact RI)
 have dh:=fa hZ
 have eg:=fa cB;have HK:=fa hk;have eo:=fa dG;have dJ:=fa z1;have dK:=fa y1;have ep:=fa hg
 have HP:aR (p<k):=fa (by omega)
 have a3:aR (S p/\∀j,S j->j<k):=fa ⟨hS,by rw[hk];exact dF⟩
 have bY:aR (∀j,At p j->S j):=fa fun j (e:j=p)=>e▸hS
 have ad:aR (¬At p k/\¬At p (k+1)):=fa ⟨by show¬k=p;omega,by show¬k+1=p;omega⟩
 have n1:gK g l s=fT g l 5 s+257:=rfl
 have n2:qF l s=fR l 5 s:=rfl
 have n3:iD g l s=fT g l 5 (qF l s)+1:=rfl
 have n4:qG l s=fR l 5 (qF l s):=rfl
 have n5:oM g l s=fT g l 4 (qG l s)+4:=rfl
 have n6:nJ g l s=ig (fR l 4 (qG l s)) (decide (gK g l s<=286/\iD g l s<=30)) 132:=rfl
 have i4:=IP (g:=g) (s:=s) hs
 have i5:=Cf (g:=g) (s:=s) hs
 have i1:(qF l s).1<=8*l:=ld hs
 have i2:(qG l s).1<=8*l:=ld (ld hs)
 have i3:(fR l 4 (qG l s)).1<=8*l:=ld i2
 have b1:fT g l 5 s<32:=mF g l 5 s
 have b2:fT g l 5 (qF l s)<32:=mF g l 5 _
 have b3:fT g l 4 (qG l s)<16:=mF g l 4 _
 have n7:nK g l s=ig (hH (ky g l (nJ g l s) (oM g l s)) 19 7 (shS l (nJ g l s) (oM g l s))) (decide (2<=(((gZ (ky g l (nJ g l s) (oM g l s)) 19 7).length:Nat):Int))) 132:=rfl
 have n8:mh g l s=ky g l (nJ g l s) (oM g l s):=rfl
 have n9:ji g l s=lnS (fG 19 (mh g l s)) g l (gK g l s+iD g l s) (gK g l s+iD g l s) 0 [] (nK g l s):=rfl
 have cw:jB g l s=(nh (ji g l s).1 ((gK g l s+iD g l s:Nat):Int)).2:=rfl
 have cx:pA g l s=if(ji g l s).2.2≠0 then(ji g l s).2 else hH (fc ((jB g l s).drop (gK g l s))) (iD g l s) 15 (hH (fc (jB g l s)) (gK g l s) 15 (ig (ji g l s).2 (decide (0<fc (jB g l s) 256)) 132)):=rfl
 have cE:qH g l s=if(ji g l s).2.2≠0 then fun _=>0 else ib (fc (jB g l s)) (gK g l s) 15:=rfl
 have cy:qI g l s=if(ji g l s).2.2≠0 then fun _=>0 else ib (fc ((jB g l s).drop (gK g l s))) (iD g l s) 15:=rfl
 have cH:qJ g l s=if(ji g l s).2.2≠0 then[]else gZ (fc (jB g l s)) (gK g l s) 15:=rfl
 have cz:qK g l s=if(ji g l s).2.2≠0 then[]else gZ (fc ((jB g l s).drop (gK g l s))) (iD g l s) 15:=rfl
 have dc:(nK g l s).2=0->fD (mh g l s) 19 7=0:=RG
 obtain⟨G1,di⟩:=fb (qH g l s)
 obtain⟨G2,dj⟩:=fb (qI g l s)
 obtain⟨Y1,dk⟩:=fb (qJ g l s)
 obtain⟨Y2,dm⟩:=fb (qK g l s)
 obtain⟨S9,dn⟩:=fb (pA g l s)
 rw[<-di,<-dj,<-dk,<-dm,<-dn]
 rw[<-di]at cE;rw[<-dj]at cy;rw[<-dk]at cH;rw[<-dm]at cz;rw[<-dn]at cx
 obtain⟨O,hO⟩:=fb (jB g l s)
 rw[<-hO]at cw cx cE cy cH cz hlen
 obtain⟨R,hR⟩:=fb (ji g l s)
 rw[<-hR]at n9 cw cx cE cy cH cz hlen
 obtain⟨HH,dL⟩:=fb (mh g l s)
 rw[<-dL]at n8 n9 dc
 rw[<-n8]at n7
 obtain⟨s5,dM⟩:=fb (nK g l s)
 rw[<-dM]at n7 n9 dc i5
 obtain⟨s4,dN⟩:=fb (nJ g l s)
 rw[<-dN]at n6 n7 n8 i4
 obtain⟨c0,bt⟩:=fb (oM g l s)
 rw[<-bt]at n5 n7 n8
 obtain⟨s2,dO⟩:=fb (qG l s)
 rw[<-dO]at n4 n5 n6 i2 i3 b3
 obtain⟨f0,dP⟩:=fb (iD g l s)
 rw[<-dP]at n3 n6 n9 cw cx cy cz hlen
 obtain⟨q1,dQ⟩:=fb (qF l s)
 rw[<-dQ]at n2 n3 n4 i1 b2
 obtain⟨l0,dR⟩:=fb (gK g l s)
 rw[<-dR]at n1 n6 n9 cw cx cE cy cH cz hlen
 clear di dj dk dm dn hO hR dL dM dN bt dO dP dQ dR
 obtain⟨x1,dp⟩:=fb (fT g l 5 s)
 obtain⟨x2,dq⟩:=fb (fT g l 5 q1)
 obtain⟨x3,dr⟩:=fb (fT g l 4 s2)
 rw[<-dp]at n1 b1;rw[<-dq]at n3 b2;rw[<-dr]at n5 b3
 obtain⟨q3,dt⟩:=fb (fR l 4 s2)
 rw[<-dt]at n6 i3
 have e1:(257:Int)+(x1:Int)=(l0:Int):=by omega
 have e2:(1:Int)+(x2:Int)=(f0:Int):=by omega
 have e3:(4:Int)+(x3:Int)=(c0:Int):=by omega
 obtain⟨m,hm⟩:=fb (l0+f0)
 rw[<-hm]at n9 cw hlen
 have e4:(l0:Int)+(f0:Int)=(m:Int):=by omega
 have cP:c0<=19:=by omega
 have cA:m<=400:=by omega
 have eh:257<=l0:=by omega
 have er:1<=f0:=by omega
 have ei:l0<=288:=by omega
 have ek:f0<=32:=by omega
 have N6:=fa n6;have N7:=fa n7.symm;have N8:=fa n8;have N9:=fa n9.symm;have du:=fa cw.symm;have cI:=fa cx;have cJ:=fa cE;have cK:=fa cy;have cL:=fa cH;have cM:=fa cz;have cQ:=fa hlen;have dv:=fa dc;have HM:=fa hm
 have dw:=fa (qw W1 p A l c g s dH.out (hg.fr (Fr.of (hk▸cO))).1 hl hs 5 5 rfl (by omega))
 rw[<-dp,<-n2]at dw
 have dx:=fa fun V (r:fx V p A l c q1) (q:jN S V A l g)=>qw V p A l c g q1 r q.1 hl i1 5 5 rfl (by omega)
 rw[<-dq,<-n4]at dx
 have dy:=fa fun V (r:fx V p A l c s2) (q:jN S V A l g)=>qw V p A l c g s2 r q.1 hl i2 4 4 rfl (by omega)
 rw[<-dr,<-dt]at dy
 have dS:=fa (hg.fr (Fr.of (hk▸cO)))
 clear h hg hZ cB hk cO dG z1 y1 hp hS dF n1 n2 n3 n4 n5 n6 n7 n8 n9 cw cx cE cy cH cz hlen dc dp dq dr dt b1 b2 b3 hm hs i1 i2
 go_enter func55,ntmps55
 go_wp2_with (first|(rw[<-eg.out,<-HK.out])|fail)
 refine dw.out.mono ?_
 rintro e w2 ⟨rfl,r2,f2⟩
 have dT:=fa (dI.out.trans f2);have dz:=fa (dS.out.fr (f2.mono bY.out));have dU:=fa (dJ.out.fr f2 ad.out.1);have dV:=fa (dK.out.fr f2 ad.out.2)
 have dW:=fa (dx.out w2 r2 dz.out)
 clear r2 f2 dw dx dS dJ dK dI dH
 go_wp2_with fail
 refine dW.out.mono ?_
 rintro e w3 ⟨rfl,r3,f3⟩
 have dX:=fa (dT.out.trans f3);have dA:=fa (dz.out.fr (f3.mono bY.out));have dY:=fa (dU.out.fr f3 ad.out.1);have dZ:=fa (dV.out.fr f3 ad.out.2)
 have ea:=fa (dy.out w3 r3 dA.out)
 clear r3 f3 dW dy dz dU dV dT
 go_wp2_with fail
 refine ea.out.mono ?_
 rintro e w4 ⟨rfl,r4,f4⟩
 have dB:=fa (dX.out.trans f4);have dC:=fa (dA.out.fr (f4.mono bY.out));have dD:=fa (dY.out.fr f4 ad.out.1);have dE:=fa (dZ.out.fr f4 ad.out.2)
 have cN:=fa fun b=>nE w4 p A l c q3 r4 b 132
 clear r4 f4 ea dA dY dZ dX
 have dd:aR ((l0<=286/\f0<=30/\decide (l0<=286/\f0<=30)=true)\/(l0<=286/\¬f0<=30/\decide (l0<=286/\f0<=30)=false)\/(¬l0<=286/\decide (l0<=286/\f0<=30)=false)):=fa (by
  by_cases a1:l0<=286
  ·by_cases a2:f0<=30
   ·exact .inl ⟨a1,a2,decide_eq_true ⟨a1,a2⟩⟩
   ·exact .inr (.inl ⟨a1,a2,decide_eq_false fun h=>a2 h.2⟩)
  ·exact .inr (.inr ⟨a1,decide_eq_false fun h=>a1 h.1⟩))
 rcases dd.out with⟨a1,a2,bZ⟩|⟨a1,a2,bZ⟩|⟨a1,bZ⟩
 ·have d1:decide ((l0:Int)<=286)=true:=kP (by omega);have eb:decide (l0<=286)=true:=kc a1;have d2:decide ((f0:Int)<=30)=true:=kP (by omega);have ej:decide (f0<=30)=true:=kc a2;clear a1 a2;go_wp2_with fail
  refine(cN.out _).mono ?_;rintro e w5 ⟨rfl,r5,f5⟩;rw[<-bZ,<-N6.out]at r5;have b4:=fa (dB.out.trans f5);have bu:=fa (dC.out.fr (f5.mono bY.out));have b5:=fa (dD.out.fr f5 ad.out.1);have a4:=fa (dE.out.fr f5 ad.out.2)
  have aY:k+2<=w5.heap.size:=a4.out.lt;have bx:=fa (BZ w5 p A l c g s4 r5 S a3.out.1 (fun j hj=>by have:=a3.out.2 j hj;omega) bu.out hl i4 c0 cP);rw[<-N8.out,N7.out]at bx;clear r5 f5 cN aY dd bZ;go_wp2_with fail
  refine bx.out.mono ?_;rintro e w6 ⟨u,rfl,r6,o6,f6⟩;have bz:=fa (b4.out.trans f6);have bA:=fa (bu.out.fr (f6.mono bY.out));have bB:=fa (b5.out.fr f6 ad.out.1);have aZ:=fa (a4.out.fr f6 ad.out.2)
  have aY:k+2<=w5.heap.size:=a4.out.lt;have aU:k+2<=w6.heap.size:=aZ.out.lt;have al:=fa (VM w6 p A l c g s5 r6 S a3.out.1 (fun j hj=>by have:=a3.out.2 j hj;omega) bA.out hl i5 (fG 19 HH) (ib HH 19 7) u o6.one (fun e=>⟨gZ HH 19 7,pb.gD o6 (fun j hj=>by have:=a3.out.2 j hj;omega),vu (dv.out e)⟩) m cA);rw[N9.out,du.out]at al;clear r6 o6 f6 bx aY aU bu b5 a4 b4;go_wp2_with fail
  refine al.out.mono ?_;rintro e w7 ⟨A',n',c',rfl,bC,av,bD,r7,f7⟩;have bE:=fa (bz.out.trans f7);have a5:=fa (bB.out.fr f7 ad.out.1);have bF:=fa (aZ.out.fr f7 ad.out.2)
  have aU:k+2<=w6.heap.size:=aZ.out.lt;obtain⟨ss,aT⟩:=fb (R.2);obtain⟨sa,se⟩:=ss;rw[<-aT]at r7;have k2:w7.cell? ⟨p,2,none⟩=some (ae ak se):=fx.e r7;by_cases he:se=0
  ·have bG:R.2.2=0:=by rw[<-aT];exact he
   have ah:¬R.2.2≠0:=fun h=>h bG
   have aV:=fa (cI.out.trans (if_neg ah));have bH:=fa (cJ.out.trans (if_neg ah));have bI:=fa (cK.out.trans (if_neg ah));have bJ:=fa (cL.out.trans (if_neg ah));have bK:=fa (cM.out.trans (if_neg ah))
   rw[<-aT]at aV;have hlen:=cQ.out bG;obtain rfl:n'=m:=bC.trans hlen;have cR:=HM.out;obtain⟨b0,o0,cur,cS,cT,b6⟩:=bD (by omega);subst cS;obtain⟨ec,ed,e0,cU,bt⟩:=av.1.2 (by omega);cases e0
   have a8:=bt 256 (by omega);have a9:=av.2.2.1;have b7:=av.2.2.2;have cV:=av.1.1 256;obtain⟨x,hx⟩:=fb (fc O 256);rw[<-hx]at a8 cV aV;have de:(256:Int)<(n':Int):=by omega
   have bL:(se==0)=true:=by rw[he];rfl
   have b8:(se !=0)=false:=by simp[bne,bL]
   have b9:=fa fun b=>nE w7 p A l c (sa,se) r7 b 132
   have ca:aR (jN (At p) w7 (some ⟨b0,o0,none⟩) n' (fc O)):=fa ⟨av.1,fun b o _ e (hb:b=p)=>by
    injection e with e;injection e with q1 _ _
    have:=HP.out;omega⟩
   have bf:=fa a9;have ef:=fa b7
   subst he;clear bG ah hlen bC av bD r7 f7 aT al cT cU bt a9 b7 hx b6 cur aU cR bA bB aZ bz;go_wp2_with fail
   refine(b9.out _).mono ?_;rintro e w8 ⟨rfl,r8,f8⟩;have cb:fx w8 p A l c (ig (sa,0) (decide (0<x)) 132):=by simpa using r8
   have cf:=fa (bE.out.trans f8);have bM:=fa (a5.out.fr f8 ad.out.1);have bN:=fa (bF.out.fr f8 ad.out.2);have cg:=fa (ca.out.fr f8)
   have bO:=fa cb;clear r8 cb f8 b9 bE a5 bF ca k2 a8;go_wp2_with fail
   obtain⟨V,hV⟩:=fb (w8.drew);have aW:Below w8.heap.size w8 V:=by rw[hV];exact(Below.refl _ w8).drew
   have ch:=fa (cf.out.on aW);have cj:=fa (bM.out.below aW bM.out.lt);have bP:=fa (bN.out.below aW bN.out.lt);have a6:=fa (cg.out.fr (Fr.of aW))
   have ck:=fa (fg.below bO.out aW bO.out.lt:fx V p A l c (ig (sa,0) (decide (0<x)) 132));have cl:=fa (qA V p A l c _ ck.out (some ⟨b0,o0,none⟩) l0 c' (fc O) ⟨a6.out.1.1,fun h0=>by obtain⟨b,o,e,hb,hc⟩:=a6.out.1.2 (by omega);exact⟨b,o,e,hb,fun j hj=>hc j (by have:=HM.out;omega)⟩⟩ (by omega) 15);have bg:l0<=c':=by have:=bf.out;have:=HM.out;omega
   have bj:l0<=n':=by have:=HM.out;omega
   obtain⟨A2,hA2⟩:∃A2,(if c'=l0 then(some ⟨b0,o0,none⟩:Option aw)else(some (⟨b0,o0,none⟩:aw)).map (·.add l0))=A2:=⟨_,rfl⟩;have cm:A2=some ⟨b0,o0+l0,none⟩:=by rw[<-hA2,if_neg (by have:=bf.out;have:=HM.out;omega)];show some (Addr.add ⟨b0,o0,none⟩ l0)=_;unfold Addr.add;rw[if_neg (by omega)]
   subst cm;have bl:n'-l0=f0:=by have:=HM.out;omega
   refine wp_region_any (by kernel_rfl) ?_;change wpAny _ _ _ _ _ _ _ (World.drew _);rw[<-hV];have cW:=fa hA2;have cn:=fa bl;have cX:=fa bg;have al:=fa bj
   clear hV aW bO cf bM bN cg hA2 bl bg bj;refine kf 0 (ag (some ⟨p,0,none⟩)) (by kernel_rfl) (by kernel_rfl) rfl rfl 46 rfl (fun _ _ _ h=>h) (by kernel_rfl) (lU _ rfl _ rfl) ?_;simp only[Act.put,List.setIfInBounds_toArray,List.set_cons_zero,List.set_cons_succ];refine kf 1 (af (some ⟨b0,o0,none⟩) n' c') (by kernel_rfl) (by kernel_rfl) rfl rfl 47 rfl (fun _ _ _ h=>h) (by kernel_rfl) (lU _ rfl _ rfl) ?_;simp only[Act.put,List.setIfInBounds_toArray,List.set_cons_zero,List.set_cons_succ];refine kf 2 (ae ak (l0:Int)) (by kernel_rfl) (by kernel_rfl) rfl rfl 48 rfl (fun _ _ _ h=>h) (by kernel_rfl) (lU _ rfl _ rfl) ?_;simp only[Act.put,List.setIfInBounds_toArray,List.set_cons_zero,List.set_cons_succ];refine kf 3 (af (some ⟨b0,o0,none⟩) l0 c') (by kernel_rfl) (by kernel_rfl) rfl rfl 49 rfl (fun _ _ _ h=>h) (by kernel_rfl) (uq _ _ none (some _) rfl _ _ none (some (ae ak (l0:Int))) rfl rfl rfl (uo _ _ _ _ cX.out)) ?_;simp only[Act.put,List.setIfInBounds_toArray,List.set_cons_zero,List.set_cons_succ];refine kf 5 (ag (some ⟨p,0,none⟩)) (by kernel_rfl) (by kernel_rfl) rfl rfl 51 rfl (fun _ _ _ h=>h) (by kernel_rfl) (lU _ rfl _ rfl) ?_;simp only[Act.put,List.setIfInBounds_toArray,List.set_cons_zero,List.set_cons_succ];refine kf 6 (af (some ⟨b0,o0,none⟩) n' c') (by kernel_rfl) (by kernel_rfl) rfl rfl 52 rfl (fun _ _ _ h=>h) (by kernel_rfl) (lU _ rfl _ rfl) ?_;simp only[Act.put,List.setIfInBounds_toArray,List.set_cons_zero,List.set_cons_succ];refine kf 7 (ae ak (l0:Int)) (by kernel_rfl) (by kernel_rfl) rfl rfl 53 rfl (fun _ _ _ h=>h) (by kernel_rfl) (lU _ rfl _ rfl) ?_;simp only[Act.put,List.setIfInBounds_toArray,List.set_cons_zero,List.set_cons_succ];refine kf 8 (af (some ⟨b0,o0+l0,none⟩) (n'-l0) (c'-l0)) (by kernel_rfl) (by kernel_rfl) rfl rfl 54 rfl (fun _ _ _ h=>h) (by kernel_rfl) (uq _ _ (some _) none rfl _ _ (some (ae ak (l0:Int))) none rfl rfl rfl (um _ _ _ _ _ al.out cW.out)) ?_;simp only[Act.put,List.setIfInBounds_toArray,List.set_cons_zero,List.set_cons_succ];refine wpAny_ready (rs:=[4]) (by kernel_rfl) (by simp) ?_;refine AllReady.cons rfl (fun K hK=>?_) AllReady.nil;refine qu rfl 95 _ _ rfl (enters_of func95 (by kernel_rfl) rfl) #[ag (some ⟨p,0,none⟩),af (some ⟨b0,o0,none⟩) l0 c',ae ak 15] (by simp[Act.eval]) cl.out ?_;rintro e w9 ⟨u1,rfl,r9,o9,f9⟩;refine⟨_,rfl,hK _ _ ?_⟩;clear hK K;have cp:=fa (ch.out.trans f9);have cq:=fa (cj.out.fr f9 ad.out.1);have bQ:=fa (bP.out.fr f9 ad.out.2)
   have cr:=fa (qA w9 p A l c _ r9 (some ⟨b0,o0+l0,none⟩) (n'-l0) (c'-l0) (fc (O.drop l0)) (Cg (a6.out.fr f9).1 al.out) (by omega) 15);have bR:k+2<=V.heap.size:=bP.out.lt;obtain⟨X,hX⟩:=fb (fJ (ib (fc O) l0 15) u1);rw[<-hX];have bS:aR (X.size=17):=fa (by rw[hX,jl]);have cY:aR (X.all (·.oneCell')=true):=fa (by rw[hX];exact l7 _ _ o9.one);have cZ:=fa hX;have ct:=fa o9;have c7:=fa bR
   clear r9 o9 f9 hX cl a6 ch cj bP bR ck;simp only[Act.put,List.setIfInBounds_toArray];refine wpAny_ready (rs:=[9]) (by kernel_rfl) (by simp) ?_;refine AllReady.cons rfl (fun K hK=>?_) AllReady.nil;refine qu rfl 95 _ _ rfl (enters_of func95 (by kernel_rfl) rfl) #[ag (some ⟨p,0,none⟩),af (some ⟨b0,o0+l0,none⟩) (n'-l0) (c'-l0),ae ak 15] (by simp[Act.eval]) cr.out ?_;rintro e bT ⟨u2,rfl,bU,a7,f10⟩;refine⟨_,rfl,hK _ _ ?_⟩;clear hK K;have bR:=c7.out;have c8:=HP.out
   rw[cn.out]at bU a7;obtain⟨Y,hY⟩:=fb (fJ (ib (fc (O.drop l0)) (n'-l0) 15) u2);rw[<-hY];rw[cn.out]at hY;have bV:aR (Y.size=17):=fa (by rw[hY,jl]);have c9:aR (Y.all (·.oneCell')=true):=fa (by rw[hY];exact l7 _ _ a7.one);have dg:k+2<=w9.heap.size:=bQ.out.lt;have da:=fa hY;have bn:=fa (cq.out.fr f10 ad.out.1);have bq:aR (fg (bT.setRow k X) (k+1) Z 26):=fa ((bQ.out.fr f10 ad.out.2).gV (by omega) _);have bW:=fa (ct.out.fr f10 (fun j (e:j=p)=>by omega));have bX:=fa a7;have cu:=fa bU;have cv:=fa (cp.out.trans f10)
   clear bU a7 f10 hY cr cq bQ ct cp;simp only[Act.put];refine wpAny_ready (rs:=[10]) (by kernel_rfl) (by simp) ?_;refine AllReady.cons rfl (fun K hK=>?_) AllReady.nil;refine tv rfl 26 _ _ rfl rfl k X rfl rfl 26 Z bn.out (jT bS.out) (by rw[aX.out,bS.out]) cY.out ?_;refine hK _ _ ?_;clear hK K;refine wpAny_ready (rs:=[11]) (by kernel_rfl) (by simp) ?_;refine AllReady.cons rfl (fun K hK=>?_) AllReady.nil;refine tv rfl 26 _ _ rfl rfl (k+1) Y rfl rfl 26 Z bq.out (jT bV.out) (by rw[aX.out,bV.out]) c9.out ?_;refine hK _ _ ?_;clear hK K;refine wpAny_done (by kernel_rfl) ?_ _;simp only[List.getElem_toArray,List.getElem_cons_zero,List.getElem_cons_succ,List.setIfInBounds_toArray,List.set_cons_zero,List.set_cons_succ];go_wp2;refine aL (v:=.tuple #[ai X,ai Y]) (sJ rfl _ _ k (k+1) X Y bS.out bV.out rfl rfl (fg.gV (show fg (bT.setRow k X) k X 26 from aJ _ _ _ _ _ _ bn.out) (by omega) _) (aJ _ _ _ _ _ _ bq.out)) rfl ⟨u1,u2,by rw[cZ.out,da.out,bH.out,bI.out],?_,?_,?_,?_⟩
   ·rw[aV.out];exact fg.gV (fg.gV cu.out (by omega) _) (by omega) _
   ·rw[<-HK.out,bJ.out];exact lZ (iB bW.out fun j hj=>(aM _ _ _ _ (by have:=(gP bW.out j hj).1;omega)).trans (aM _ _ _ _ (by have:=(gP bW.out j hj).1;omega))) (by omega)
   ·rw[<-HK.out,bK.out];exact lZ (iB bX.out fun j hj=>(aM _ _ _ _ (by have:=(gP bX.out j hj).1;omega)).trans (aM _ _ _ _ (by have:=(gP bX.out j hj).1;omega))) (by omega)
   ·exact(cv.out.from (Fr.row bT k X) fun j hj=>.inr (by rw[<-HK.out];exact Nat.le_of_eq hj.symm)).from (Fr.row _ (k+1) Y) fun j hj=>.inr (by rw[<-HK.out];have:j=k+1:=hj;omega)
  ·have ah:R.2.2≠0:=by rw[<-aT];exact he
   have aV:=fa (cI.out.trans (if_pos ah));have bH:=fa (cJ.out.trans (if_pos ah));have bI:=fa (cK.out.trans (if_pos ah));have bJ:=fa (cL.out.trans (if_pos ah));have bK:=fa (cM.out.trans (if_pos ah))
   rw[<-aT]at aV;have bL:(se==0)=false:=beq_eq_false_iff_ne.2 he;have b8:(se !=0)=true:=by simp[bne,bL]
   have db:=fa r7;have br:aR (fg (w7.setRow k Z) (k+1) Z 26):=fa (bF.out.gV (by omega) _);clear ah bC av bD r7 f7 aT al aU he bA bB aZ bz;go_wp2_with (first
    |(refine aE rfl 26 #[] rfl (some 38) rfl Z ?_ ?_;focus(simpa[Act.eval]using cD.out))
    |(refine aE rfl 26 #[] rfl (some 39) rfl Z ?_ ?_;focus(simpa[Act.eval]using cD.out))
    |(refine aD rfl _ _ _ rfl rfl k Z rfl rfl 26 Z a5.out (jT aX.out) rfl cC.out ?_)
    |(refine aD rfl _ _ _ rfl rfl (k+1) Z rfl rfl 26 Z br.out (jT aX.out) rfl cC.out ?_)
    |fail)
   have c8:=HP.out;refine aL (v:=.tuple #[ai Z,ai Z]) (sJ rfl _ _ k (k+1) Z Z aX.out aX.out rfl rfl (fg.gV (show fg (w7.setRow k Z) k Z 26 from aJ _ _ _ _ _ _ a5.out) (by omega) _) (aJ _ _ _ _ _ _ br.out)) rfl ⟨af none 0 0,af none 0 0,by rw[bH.out,bI.out,dh.out],?_,?_,?_,?_⟩
   ·rw[aV.out];exact fg.gV (fg.gV db.out (by omega) _) (by omega) _
   ·rw[bJ.out];exact World.ownsRow_nil ..
   ·rw[bK.out];exact World.ownsRow_nil ..
   ·exact(bE.out.from (Fr.row w7 k Z) fun j hj=>.inr (by rw[<-HK.out];exact Nat.le_of_eq hj.symm)).from (Fr.row _ (k+1) Z) fun j hj=>.inr (by rw[<-HK.out];have:j=k+1:=hj;omega)
 ·have d1:decide ((l0:Int)<=286)=true:=kP (by omega);have eb:decide (l0<=286)=true:=kc a1;have d2:decide ((f0:Int)<=30)=false:=lq (by omega);have ej:decide (f0<=30)=false:=jd a2;clear a1 a2;go_wp2_with fail
  refine(cN.out _).mono ?_;rintro e w5 ⟨rfl,r5,f5⟩;rw[<-bZ,<-N6.out]at r5;have b4:=fa (dB.out.trans f5);have bu:=fa (dC.out.fr (f5.mono bY.out));have b5:=fa (dD.out.fr f5 ad.out.1);have a4:=fa (dE.out.fr f5 ad.out.2)
  have aY:k+2<=w5.heap.size:=a4.out.lt;have bx:=fa (BZ w5 p A l c g s4 r5 S a3.out.1 (fun j hj=>by have:=a3.out.2 j hj;omega) bu.out hl i4 c0 cP);rw[<-N8.out,N7.out]at bx;clear r5 f5 cN aY dd bZ;go_wp2_with fail
  refine bx.out.mono ?_;rintro e w6 ⟨u,rfl,r6,o6,f6⟩;have bz:=fa (b4.out.trans f6);have bA:=fa (bu.out.fr (f6.mono bY.out));have bB:=fa (b5.out.fr f6 ad.out.1);have aZ:=fa (a4.out.fr f6 ad.out.2)
  have aY:k+2<=w5.heap.size:=a4.out.lt;have aU:k+2<=w6.heap.size:=aZ.out.lt;have al:=fa (VM w6 p A l c g s5 r6 S a3.out.1 (fun j hj=>by have:=a3.out.2 j hj;omega) bA.out hl i5 (fG 19 HH) (ib HH 19 7) u o6.one (fun e=>⟨gZ HH 19 7,pb.gD o6 (fun j hj=>by have:=a3.out.2 j hj;omega),vu (dv.out e)⟩) m cA);rw[N9.out,du.out]at al;clear r6 o6 f6 bx aY aU bu b5 a4 b4;go_wp2_with fail
  refine al.out.mono ?_;rintro e w7 ⟨A',n',c',rfl,bC,av,bD,r7,f7⟩;have bE:=fa (bz.out.trans f7);have a5:=fa (bB.out.fr f7 ad.out.1);have bF:=fa (aZ.out.fr f7 ad.out.2)
  have aU:k+2<=w6.heap.size:=aZ.out.lt;obtain⟨ss,aT⟩:=fb (R.2);obtain⟨sa,se⟩:=ss;rw[<-aT]at r7;have k2:w7.cell? ⟨p,2,none⟩=some (ae ak se):=fx.e r7;by_cases he:se=0
  ·have bG:R.2.2=0:=by rw[<-aT];exact he
   have ah:¬R.2.2≠0:=fun h=>h bG
   have aV:=fa (cI.out.trans (if_neg ah));have bH:=fa (cJ.out.trans (if_neg ah));have bI:=fa (cK.out.trans (if_neg ah));have bJ:=fa (cL.out.trans (if_neg ah));have bK:=fa (cM.out.trans (if_neg ah))
   rw[<-aT]at aV;have hlen:=cQ.out bG;obtain rfl:n'=m:=bC.trans hlen;have cR:=HM.out;obtain⟨b0,o0,cur,cS,cT,b6⟩:=bD (by omega);subst cS;obtain⟨ec,ed,e0,cU,bt⟩:=av.1.2 (by omega);cases e0
   have a8:=bt 256 (by omega);have a9:=av.2.2.1;have b7:=av.2.2.2;have cV:=av.1.1 256;obtain⟨x,hx⟩:=fb (fc O 256);rw[<-hx]at a8 cV aV;have de:(256:Int)<(n':Int):=by omega
   have bL:(se==0)=true:=by rw[he];rfl
   have b8:(se !=0)=false:=by simp[bne,bL]
   have b9:=fa fun b=>nE w7 p A l c (sa,se) r7 b 132
   have ca:aR (jN (At p) w7 (some ⟨b0,o0,none⟩) n' (fc O)):=fa ⟨av.1,fun b o _ e (hb:b=p)=>by
    injection e with e;injection e with q1 _ _
    have:=HP.out;omega⟩
   have bf:=fa a9;have ef:=fa b7
   subst he;clear bG ah hlen bC av bD r7 f7 aT al cT cU bt a9 b7 hx b6 cur aU cR bA bB aZ bz;go_wp2_with fail
   refine(b9.out _).mono ?_;rintro e w8 ⟨rfl,r8,f8⟩;have cb:fx w8 p A l c (ig (sa,0) (decide (0<x)) 132):=by simpa using r8
   have cf:=fa (bE.out.trans f8);have bM:=fa (a5.out.fr f8 ad.out.1);have bN:=fa (bF.out.fr f8 ad.out.2);have cg:=fa (ca.out.fr f8)
   have bO:=fa cb;clear r8 cb f8 b9 bE a5 bF ca k2 a8;go_wp2_with fail
   obtain⟨V,hV⟩:=fb (w8.drew);have aW:Below w8.heap.size w8 V:=by rw[hV];exact(Below.refl _ w8).drew
   have ch:=fa (cf.out.on aW);have cj:=fa (bM.out.below aW bM.out.lt);have bP:=fa (bN.out.below aW bN.out.lt);have a6:=fa (cg.out.fr (Fr.of aW))
   have ck:=fa (fg.below bO.out aW bO.out.lt:fx V p A l c (ig (sa,0) (decide (0<x)) 132));have cl:=fa (qA V p A l c _ ck.out (some ⟨b0,o0,none⟩) l0 c' (fc O) ⟨a6.out.1.1,fun h0=>by obtain⟨b,o,e,hb,hc⟩:=a6.out.1.2 (by omega);exact⟨b,o,e,hb,fun j hj=>hc j (by have:=HM.out;omega)⟩⟩ (by omega) 15);have bg:l0<=c':=by have:=bf.out;have:=HM.out;omega
   have bj:l0<=n':=by have:=HM.out;omega
   obtain⟨A2,hA2⟩:∃A2,(if c'=l0 then(some ⟨b0,o0,none⟩:Option aw)else(some (⟨b0,o0,none⟩:aw)).map (·.add l0))=A2:=⟨_,rfl⟩;have cm:A2=some ⟨b0,o0+l0,none⟩:=by rw[<-hA2,if_neg (by have:=bf.out;have:=HM.out;omega)];show some (Addr.add ⟨b0,o0,none⟩ l0)=_;unfold Addr.add;rw[if_neg (by omega)]
   subst cm;have bl:n'-l0=f0:=by have:=HM.out;omega
   refine wp_region_any (by kernel_rfl) ?_;change wpAny _ _ _ _ _ _ _ (World.drew _);rw[<-hV];have cW:=fa hA2;have cn:=fa bl;have cX:=fa bg;have al:=fa bj
   clear hV aW bO cf bM bN cg hA2 bl bg bj;refine kf 0 (ag (some ⟨p,0,none⟩)) (by kernel_rfl) (by kernel_rfl) rfl rfl 46 rfl (fun _ _ _ h=>h) (by kernel_rfl) (lU _ rfl _ rfl) ?_;simp only[Act.put,List.setIfInBounds_toArray,List.set_cons_zero,List.set_cons_succ];refine kf 1 (af (some ⟨b0,o0,none⟩) n' c') (by kernel_rfl) (by kernel_rfl) rfl rfl 47 rfl (fun _ _ _ h=>h) (by kernel_rfl) (lU _ rfl _ rfl) ?_;simp only[Act.put,List.setIfInBounds_toArray,List.set_cons_zero,List.set_cons_succ];refine kf 2 (ae ak (l0:Int)) (by kernel_rfl) (by kernel_rfl) rfl rfl 48 rfl (fun _ _ _ h=>h) (by kernel_rfl) (lU _ rfl _ rfl) ?_;simp only[Act.put,List.setIfInBounds_toArray,List.set_cons_zero,List.set_cons_succ];refine kf 3 (af (some ⟨b0,o0,none⟩) l0 c') (by kernel_rfl) (by kernel_rfl) rfl rfl 49 rfl (fun _ _ _ h=>h) (by kernel_rfl) (uq _ _ none (some _) rfl _ _ none (some (ae ak (l0:Int))) rfl rfl rfl (uo _ _ _ _ cX.out)) ?_;simp only[Act.put,List.setIfInBounds_toArray,List.set_cons_zero,List.set_cons_succ];refine kf 5 (ag (some ⟨p,0,none⟩)) (by kernel_rfl) (by kernel_rfl) rfl rfl 51 rfl (fun _ _ _ h=>h) (by kernel_rfl) (lU _ rfl _ rfl) ?_;simp only[Act.put,List.setIfInBounds_toArray,List.set_cons_zero,List.set_cons_succ];refine kf 6 (af (some ⟨b0,o0,none⟩) n' c') (by kernel_rfl) (by kernel_rfl) rfl rfl 52 rfl (fun _ _ _ h=>h) (by kernel_rfl) (lU _ rfl _ rfl) ?_;simp only[Act.put,List.setIfInBounds_toArray,List.set_cons_zero,List.set_cons_succ];refine kf 7 (ae ak (l0:Int)) (by kernel_rfl) (by kernel_rfl) rfl rfl 53 rfl (fun _ _ _ h=>h) (by kernel_rfl) (lU _ rfl _ rfl) ?_;simp only[Act.put,List.setIfInBounds_toArray,List.set_cons_zero,List.set_cons_succ];refine kf 8 (af (some ⟨b0,o0+l0,none⟩) (n'-l0) (c'-l0)) (by kernel_rfl) (by kernel_rfl) rfl rfl 54 rfl (fun _ _ _ h=>h) (by kernel_rfl) (uq _ _ (some _) none rfl _ _ (some (ae ak (l0:Int))) none rfl rfl rfl (um _ _ _ _ _ al.out cW.out)) ?_;simp only[Act.put,List.setIfInBounds_toArray,List.set_cons_zero,List.set_cons_succ];refine wpAny_ready (rs:=[4]) (by kernel_rfl) (by simp) ?_;refine AllReady.cons rfl (fun K hK=>?_) AllReady.nil;refine qu rfl 95 _ _ rfl (enters_of func95 (by kernel_rfl) rfl) #[ag (some ⟨p,0,none⟩),af (some ⟨b0,o0,none⟩) l0 c',ae ak 15] (by simp[Act.eval]) cl.out ?_;rintro e w9 ⟨u1,rfl,r9,o9,f9⟩;refine⟨_,rfl,hK _ _ ?_⟩;clear hK K;have cp:=fa (ch.out.trans f9);have cq:=fa (cj.out.fr f9 ad.out.1);have bQ:=fa (bP.out.fr f9 ad.out.2)
   have cr:=fa (qA w9 p A l c _ r9 (some ⟨b0,o0+l0,none⟩) (n'-l0) (c'-l0) (fc (O.drop l0)) (Cg (a6.out.fr f9).1 al.out) (by omega) 15);have bR:k+2<=V.heap.size:=bP.out.lt;obtain⟨X,hX⟩:=fb (fJ (ib (fc O) l0 15) u1);rw[<-hX];have bS:aR (X.size=17):=fa (by rw[hX,jl]);have cY:aR (X.all (·.oneCell')=true):=fa (by rw[hX];exact l7 _ _ o9.one);have cZ:=fa hX;have ct:=fa o9;have c7:=fa bR
   clear r9 o9 f9 hX cl a6 ch cj bP bR ck;simp only[Act.put,List.setIfInBounds_toArray];refine wpAny_ready (rs:=[9]) (by kernel_rfl) (by simp) ?_;refine AllReady.cons rfl (fun K hK=>?_) AllReady.nil;refine qu rfl 95 _ _ rfl (enters_of func95 (by kernel_rfl) rfl) #[ag (some ⟨p,0,none⟩),af (some ⟨b0,o0+l0,none⟩) (n'-l0) (c'-l0),ae ak 15] (by simp[Act.eval]) cr.out ?_;rintro e bT ⟨u2,rfl,bU,a7,f10⟩;refine⟨_,rfl,hK _ _ ?_⟩;clear hK K;have bR:=c7.out;have c8:=HP.out
   rw[cn.out]at bU a7;obtain⟨Y,hY⟩:=fb (fJ (ib (fc (O.drop l0)) (n'-l0) 15) u2);rw[<-hY];rw[cn.out]at hY;have bV:aR (Y.size=17):=fa (by rw[hY,jl]);have c9:aR (Y.all (·.oneCell')=true):=fa (by rw[hY];exact l7 _ _ a7.one);have dg:k+2<=w9.heap.size:=bQ.out.lt;have da:=fa hY;have bn:=fa (cq.out.fr f10 ad.out.1);have bq:aR (fg (bT.setRow k X) (k+1) Z 26):=fa ((bQ.out.fr f10 ad.out.2).gV (by omega) _);have bW:=fa (ct.out.fr f10 (fun j (e:j=p)=>by omega));have bX:=fa a7;have cu:=fa bU;have cv:=fa (cp.out.trans f10)
   clear bU a7 f10 hY cr cq bQ ct cp;simp only[Act.put];refine wpAny_ready (rs:=[10]) (by kernel_rfl) (by simp) ?_;refine AllReady.cons rfl (fun K hK=>?_) AllReady.nil;refine tv rfl 26 _ _ rfl rfl k X rfl rfl 26 Z bn.out (jT bS.out) (by rw[aX.out,bS.out]) cY.out ?_;refine hK _ _ ?_;clear hK K;refine wpAny_ready (rs:=[11]) (by kernel_rfl) (by simp) ?_;refine AllReady.cons rfl (fun K hK=>?_) AllReady.nil;refine tv rfl 26 _ _ rfl rfl (k+1) Y rfl rfl 26 Z bq.out (jT bV.out) (by rw[aX.out,bV.out]) c9.out ?_;refine hK _ _ ?_;clear hK K;refine wpAny_done (by kernel_rfl) ?_ _;simp only[List.getElem_toArray,List.getElem_cons_zero,List.getElem_cons_succ,List.setIfInBounds_toArray,List.set_cons_zero,List.set_cons_succ];go_wp2;refine aL (v:=.tuple #[ai X,ai Y]) (sJ rfl _ _ k (k+1) X Y bS.out bV.out rfl rfl (fg.gV (show fg (bT.setRow k X) k X 26 from aJ _ _ _ _ _ _ bn.out) (by omega) _) (aJ _ _ _ _ _ _ bq.out)) rfl ⟨u1,u2,by rw[cZ.out,da.out,bH.out,bI.out],?_,?_,?_,?_⟩
   ·rw[aV.out];exact fg.gV (fg.gV cu.out (by omega) _) (by omega) _
   ·rw[<-HK.out,bJ.out];exact lZ (iB bW.out fun j hj=>(aM _ _ _ _ (by have:=(gP bW.out j hj).1;omega)).trans (aM _ _ _ _ (by have:=(gP bW.out j hj).1;omega))) (by omega)
   ·rw[<-HK.out,bK.out];exact lZ (iB bX.out fun j hj=>(aM _ _ _ _ (by have:=(gP bX.out j hj).1;omega)).trans (aM _ _ _ _ (by have:=(gP bX.out j hj).1;omega))) (by omega)
   ·exact(cv.out.from (Fr.row bT k X) fun j hj=>.inr (by rw[<-HK.out];exact Nat.le_of_eq hj.symm)).from (Fr.row _ (k+1) Y) fun j hj=>.inr (by rw[<-HK.out];have:j=k+1:=hj;omega)
  ·have ah:R.2.2≠0:=by rw[<-aT];exact he
   have aV:=fa (cI.out.trans (if_pos ah));have bH:=fa (cJ.out.trans (if_pos ah));have bI:=fa (cK.out.trans (if_pos ah));have bJ:=fa (cL.out.trans (if_pos ah));have bK:=fa (cM.out.trans (if_pos ah))
   rw[<-aT]at aV;have bL:(se==0)=false:=beq_eq_false_iff_ne.2 he;have b8:(se !=0)=true:=by simp[bne,bL]
   have db:=fa r7;have br:aR (fg (w7.setRow k Z) (k+1) Z 26):=fa (bF.out.gV (by omega) _);clear ah bC av bD r7 f7 aT al aU he bA bB aZ bz;go_wp2_with (first
    |(refine aE rfl 26 #[] rfl (some 38) rfl Z ?_ ?_;focus(simpa[Act.eval]using cD.out))
    |(refine aE rfl 26 #[] rfl (some 39) rfl Z ?_ ?_;focus(simpa[Act.eval]using cD.out))
    |(refine aD rfl _ _ _ rfl rfl k Z rfl rfl 26 Z a5.out (jT aX.out) rfl cC.out ?_)
    |(refine aD rfl _ _ _ rfl rfl (k+1) Z rfl rfl 26 Z br.out (jT aX.out) rfl cC.out ?_)
    |fail)
   have c8:=HP.out;refine aL (v:=.tuple #[ai Z,ai Z]) (sJ rfl _ _ k (k+1) Z Z aX.out aX.out rfl rfl (fg.gV (show fg (w7.setRow k Z) k Z 26 from aJ _ _ _ _ _ _ a5.out) (by omega) _) (aJ _ _ _ _ _ _ br.out)) rfl ⟨af none 0 0,af none 0 0,by rw[bH.out,bI.out,dh.out],?_,?_,?_,?_⟩
   ·rw[aV.out];exact fg.gV (fg.gV db.out (by omega) _) (by omega) _
   ·rw[bJ.out];exact World.ownsRow_nil ..
   ·rw[bK.out];exact World.ownsRow_nil ..
   ·exact(bE.out.from (Fr.row w7 k Z) fun j hj=>.inr (by rw[<-HK.out];exact Nat.le_of_eq hj.symm)).from (Fr.row _ (k+1) Z) fun j hj=>.inr (by rw[<-HK.out];have:j=k+1:=hj;omega)
 ·have d1:decide ((l0:Int)<=286)=false:=lq (by omega);have eb:decide (l0<=286)=false:=jd a1;clear a1;go_wp2_with fail
  refine(cN.out _).mono ?_;rintro e w5 ⟨rfl,r5,f5⟩;rw[<-bZ,<-N6.out]at r5;have b4:=fa (dB.out.trans f5);have bu:=fa (dC.out.fr (f5.mono bY.out));have b5:=fa (dD.out.fr f5 ad.out.1);have a4:=fa (dE.out.fr f5 ad.out.2)
  have aY:k+2<=w5.heap.size:=a4.out.lt;have bx:=fa (BZ w5 p A l c g s4 r5 S a3.out.1 (fun j hj=>by have:=a3.out.2 j hj;omega) bu.out hl i4 c0 cP);rw[<-N8.out,N7.out]at bx;clear r5 f5 cN aY dd bZ;go_wp2_with fail
  refine bx.out.mono ?_;rintro e w6 ⟨u,rfl,r6,o6,f6⟩;have bz:=fa (b4.out.trans f6);have bA:=fa (bu.out.fr (f6.mono bY.out));have bB:=fa (b5.out.fr f6 ad.out.1);have aZ:=fa (a4.out.fr f6 ad.out.2)
  have aY:k+2<=w5.heap.size:=a4.out.lt;have aU:k+2<=w6.heap.size:=aZ.out.lt;have al:=fa (VM w6 p A l c g s5 r6 S a3.out.1 (fun j hj=>by have:=a3.out.2 j hj;omega) bA.out hl i5 (fG 19 HH) (ib HH 19 7) u o6.one (fun e=>⟨gZ HH 19 7,pb.gD o6 (fun j hj=>by have:=a3.out.2 j hj;omega),vu (dv.out e)⟩) m cA);rw[N9.out,du.out]at al;clear r6 o6 f6 bx aY aU bu b5 a4 b4;go_wp2_with fail
  refine al.out.mono ?_;rintro e w7 ⟨A',n',c',rfl,bC,av,bD,r7,f7⟩;have bE:=fa (bz.out.trans f7);have a5:=fa (bB.out.fr f7 ad.out.1);have bF:=fa (aZ.out.fr f7 ad.out.2)
  have aU:k+2<=w6.heap.size:=aZ.out.lt;obtain⟨ss,aT⟩:=fb (R.2);obtain⟨sa,se⟩:=ss;rw[<-aT]at r7;have k2:w7.cell? ⟨p,2,none⟩=some (ae ak se):=fx.e r7;by_cases he:se=0
  ·have bG:R.2.2=0:=by rw[<-aT];exact he
   have ah:¬R.2.2≠0:=fun h=>h bG
   have aV:=fa (cI.out.trans (if_neg ah));have bH:=fa (cJ.out.trans (if_neg ah));have bI:=fa (cK.out.trans (if_neg ah));have bJ:=fa (cL.out.trans (if_neg ah));have bK:=fa (cM.out.trans (if_neg ah))
   rw[<-aT]at aV;have hlen:=cQ.out bG;obtain rfl:n'=m:=bC.trans hlen;have cR:=HM.out;obtain⟨b0,o0,cur,cS,cT,b6⟩:=bD (by omega);subst cS;obtain⟨ec,ed,e0,cU,bt⟩:=av.1.2 (by omega);cases e0
   have a8:=bt 256 (by omega);have a9:=av.2.2.1;have b7:=av.2.2.2;have cV:=av.1.1 256;obtain⟨x,hx⟩:=fb (fc O 256);rw[<-hx]at a8 cV aV;have de:(256:Int)<(n':Int):=by omega
   have bL:(se==0)=true:=by rw[he];rfl
   have b8:(se !=0)=false:=by simp[bne,bL]
   have b9:=fa fun b=>nE w7 p A l c (sa,se) r7 b 132
   have ca:aR (jN (At p) w7 (some ⟨b0,o0,none⟩) n' (fc O)):=fa ⟨av.1,fun b o _ e (hb:b=p)=>by
    injection e with e;injection e with q1 _ _
    have:=HP.out;omega⟩
   have bf:=fa a9;have ef:=fa b7
   subst he;clear bG ah hlen bC av bD r7 f7 aT al cT cU bt a9 b7 hx b6 cur aU cR bA bB aZ bz;go_wp2_with fail
   refine(b9.out _).mono ?_;rintro e w8 ⟨rfl,r8,f8⟩;have cb:fx w8 p A l c (ig (sa,0) (decide (0<x)) 132):=by simpa using r8
   have cf:=fa (bE.out.trans f8);have bM:=fa (a5.out.fr f8 ad.out.1);have bN:=fa (bF.out.fr f8 ad.out.2);have cg:=fa (ca.out.fr f8)
   have bO:=fa cb;clear r8 cb f8 b9 bE a5 bF ca k2 a8;go_wp2_with fail
   obtain⟨V,hV⟩:=fb (w8.drew);have aW:Below w8.heap.size w8 V:=by rw[hV];exact(Below.refl _ w8).drew
   have ch:=fa (cf.out.on aW);have cj:=fa (bM.out.below aW bM.out.lt);have bP:=fa (bN.out.below aW bN.out.lt);have a6:=fa (cg.out.fr (Fr.of aW))
   have ck:=fa (fg.below bO.out aW bO.out.lt:fx V p A l c (ig (sa,0) (decide (0<x)) 132));have cl:=fa (qA V p A l c _ ck.out (some ⟨b0,o0,none⟩) l0 c' (fc O) ⟨a6.out.1.1,fun h0=>by obtain⟨b,o,e,hb,hc⟩:=a6.out.1.2 (by omega);exact⟨b,o,e,hb,fun j hj=>hc j (by have:=HM.out;omega)⟩⟩ (by omega) 15);have bg:l0<=c':=by have:=bf.out;have:=HM.out;omega
   have bj:l0<=n':=by have:=HM.out;omega
   obtain⟨A2,hA2⟩:∃A2,(if c'=l0 then(some ⟨b0,o0,none⟩:Option aw)else(some (⟨b0,o0,none⟩:aw)).map (·.add l0))=A2:=⟨_,rfl⟩;have cm:A2=some ⟨b0,o0+l0,none⟩:=by rw[<-hA2,if_neg (by have:=bf.out;have:=HM.out;omega)];show some (Addr.add ⟨b0,o0,none⟩ l0)=_;unfold Addr.add;rw[if_neg (by omega)]
   subst cm;have bl:n'-l0=f0:=by have:=HM.out;omega
   refine wp_region_any (by kernel_rfl) ?_;change wpAny _ _ _ _ _ _ _ (World.drew _);rw[<-hV];have cW:=fa hA2;have cn:=fa bl;have cX:=fa bg;have al:=fa bj
   clear hV aW bO cf bM bN cg hA2 bl bg bj;refine kf 0 (ag (some ⟨p,0,none⟩)) (by kernel_rfl) (by kernel_rfl) rfl rfl 46 rfl (fun _ _ _ h=>h) (by kernel_rfl) (lU _ rfl _ rfl) ?_;simp only[Act.put,List.setIfInBounds_toArray,List.set_cons_zero,List.set_cons_succ];refine kf 1 (af (some ⟨b0,o0,none⟩) n' c') (by kernel_rfl) (by kernel_rfl) rfl rfl 47 rfl (fun _ _ _ h=>h) (by kernel_rfl) (lU _ rfl _ rfl) ?_;simp only[Act.put,List.setIfInBounds_toArray,List.set_cons_zero,List.set_cons_succ];refine kf 2 (ae ak (l0:Int)) (by kernel_rfl) (by kernel_rfl) rfl rfl 48 rfl (fun _ _ _ h=>h) (by kernel_rfl) (lU _ rfl _ rfl) ?_;simp only[Act.put,List.setIfInBounds_toArray,List.set_cons_zero,List.set_cons_succ];refine kf 3 (af (some ⟨b0,o0,none⟩) l0 c') (by kernel_rfl) (by kernel_rfl) rfl rfl 49 rfl (fun _ _ _ h=>h) (by kernel_rfl) (uq _ _ none (some _) rfl _ _ none (some (ae ak (l0:Int))) rfl rfl rfl (uo _ _ _ _ cX.out)) ?_;simp only[Act.put,List.setIfInBounds_toArray,List.set_cons_zero,List.set_cons_succ];refine kf 5 (ag (some ⟨p,0,none⟩)) (by kernel_rfl) (by kernel_rfl) rfl rfl 51 rfl (fun _ _ _ h=>h) (by kernel_rfl) (lU _ rfl _ rfl) ?_;simp only[Act.put,List.setIfInBounds_toArray,List.set_cons_zero,List.set_cons_succ];refine kf 6 (af (some ⟨b0,o0,none⟩) n' c') (by kernel_rfl) (by kernel_rfl) rfl rfl 52 rfl (fun _ _ _ h=>h) (by kernel_rfl) (lU _ rfl _ rfl) ?_;simp only[Act.put,List.setIfInBounds_toArray,List.set_cons_zero,List.set_cons_succ];refine kf 7 (ae ak (l0:Int)) (by kernel_rfl) (by kernel_rfl) rfl rfl 53 rfl (fun _ _ _ h=>h) (by kernel_rfl) (lU _ rfl _ rfl) ?_;simp only[Act.put,List.setIfInBounds_toArray,List.set_cons_zero,List.set_cons_succ];refine kf 8 (af (some ⟨b0,o0+l0,none⟩) (n'-l0) (c'-l0)) (by kernel_rfl) (by kernel_rfl) rfl rfl 54 rfl (fun _ _ _ h=>h) (by kernel_rfl) (uq _ _ (some _) none rfl _ _ (some (ae ak (l0:Int))) none rfl rfl rfl (um _ _ _ _ _ al.out cW.out)) ?_;simp only[Act.put,List.setIfInBounds_toArray,List.set_cons_zero,List.set_cons_succ];refine wpAny_ready (rs:=[4]) (by kernel_rfl) (by simp) ?_;refine AllReady.cons rfl (fun K hK=>?_) AllReady.nil;refine qu rfl 95 _ _ rfl (enters_of func95 (by kernel_rfl) rfl) #[ag (some ⟨p,0,none⟩),af (some ⟨b0,o0,none⟩) l0 c',ae ak 15] (by simp[Act.eval]) cl.out ?_;rintro e w9 ⟨u1,rfl,r9,o9,f9⟩;refine⟨_,rfl,hK _ _ ?_⟩;clear hK K;have cp:=fa (ch.out.trans f9);have cq:=fa (cj.out.fr f9 ad.out.1);have bQ:=fa (bP.out.fr f9 ad.out.2)
   have cr:=fa (qA w9 p A l c _ r9 (some ⟨b0,o0+l0,none⟩) (n'-l0) (c'-l0) (fc (O.drop l0)) (Cg (a6.out.fr f9).1 al.out) (by omega) 15);have bR:k+2<=V.heap.size:=bP.out.lt;obtain⟨X,hX⟩:=fb (fJ (ib (fc O) l0 15) u1);rw[<-hX];have bS:aR (X.size=17):=fa (by rw[hX,jl]);have cY:aR (X.all (·.oneCell')=true):=fa (by rw[hX];exact l7 _ _ o9.one);have cZ:=fa hX;have ct:=fa o9;have c7:=fa bR
   clear r9 o9 f9 hX cl a6 ch cj bP bR ck;simp only[Act.put,List.setIfInBounds_toArray];refine wpAny_ready (rs:=[9]) (by kernel_rfl) (by simp) ?_;refine AllReady.cons rfl (fun K hK=>?_) AllReady.nil;refine qu rfl 95 _ _ rfl (enters_of func95 (by kernel_rfl) rfl) #[ag (some ⟨p,0,none⟩),af (some ⟨b0,o0+l0,none⟩) (n'-l0) (c'-l0),ae ak 15] (by simp[Act.eval]) cr.out ?_;rintro e bT ⟨u2,rfl,bU,a7,f10⟩;refine⟨_,rfl,hK _ _ ?_⟩;clear hK K;have bR:=c7.out;have c8:=HP.out
   rw[cn.out]at bU a7;obtain⟨Y,hY⟩:=fb (fJ (ib (fc (O.drop l0)) (n'-l0) 15) u2);rw[<-hY];rw[cn.out]at hY;have bV:aR (Y.size=17):=fa (by rw[hY,jl]);have c9:aR (Y.all (·.oneCell')=true):=fa (by rw[hY];exact l7 _ _ a7.one);have dg:k+2<=w9.heap.size:=bQ.out.lt;have da:=fa hY;have bn:=fa (cq.out.fr f10 ad.out.1);have bq:aR (fg (bT.setRow k X) (k+1) Z 26):=fa ((bQ.out.fr f10 ad.out.2).gV (by omega) _);have bW:=fa (ct.out.fr f10 (fun j (e:j=p)=>by omega));have bX:=fa a7;have cu:=fa bU;have cv:=fa (cp.out.trans f10)
   clear bU a7 f10 hY cr cq bQ ct cp;simp only[Act.put];refine wpAny_ready (rs:=[10]) (by kernel_rfl) (by simp) ?_;refine AllReady.cons rfl (fun K hK=>?_) AllReady.nil;refine tv rfl 26 _ _ rfl rfl k X rfl rfl 26 Z bn.out (jT bS.out) (by rw[aX.out,bS.out]) cY.out ?_;refine hK _ _ ?_;clear hK K;refine wpAny_ready (rs:=[11]) (by kernel_rfl) (by simp) ?_;refine AllReady.cons rfl (fun K hK=>?_) AllReady.nil;refine tv rfl 26 _ _ rfl rfl (k+1) Y rfl rfl 26 Z bq.out (jT bV.out) (by rw[aX.out,bV.out]) c9.out ?_;refine hK _ _ ?_;clear hK K;refine wpAny_done (by kernel_rfl) ?_ _;simp only[List.getElem_toArray,List.getElem_cons_zero,List.getElem_cons_succ,List.setIfInBounds_toArray,List.set_cons_zero,List.set_cons_succ];go_wp2;refine aL (v:=.tuple #[ai X,ai Y]) (sJ rfl _ _ k (k+1) X Y bS.out bV.out rfl rfl (fg.gV (show fg (bT.setRow k X) k X 26 from aJ _ _ _ _ _ _ bn.out) (by omega) _) (aJ _ _ _ _ _ _ bq.out)) rfl ⟨u1,u2,by rw[cZ.out,da.out,bH.out,bI.out],?_,?_,?_,?_⟩
   ·rw[aV.out];exact fg.gV (fg.gV cu.out (by omega) _) (by omega) _
   ·rw[<-HK.out,bJ.out];exact lZ (iB bW.out fun j hj=>(aM _ _ _ _ (by have:=(gP bW.out j hj).1;omega)).trans (aM _ _ _ _ (by have:=(gP bW.out j hj).1;omega))) (by omega)
   ·rw[<-HK.out,bK.out];exact lZ (iB bX.out fun j hj=>(aM _ _ _ _ (by have:=(gP bX.out j hj).1;omega)).trans (aM _ _ _ _ (by have:=(gP bX.out j hj).1;omega))) (by omega)
   ·exact(cv.out.from (Fr.row bT k X) fun j hj=>.inr (by rw[<-HK.out];exact Nat.le_of_eq hj.symm)).from (Fr.row _ (k+1) Y) fun j hj=>.inr (by rw[<-HK.out];have:j=k+1:=hj;omega)
  ·have ah:R.2.2≠0:=by rw[<-aT];exact he
   have aV:=fa (cI.out.trans (if_pos ah));have bH:=fa (cJ.out.trans (if_pos ah));have bI:=fa (cK.out.trans (if_pos ah));have bJ:=fa (cL.out.trans (if_pos ah));have bK:=fa (cM.out.trans (if_pos ah))
   rw[<-aT]at aV;have bL:(se==0)=false:=beq_eq_false_iff_ne.2 he;have b8:(se !=0)=true:=by simp[bne,bL]
   have db:=fa r7;have br:aR (fg (w7.setRow k Z) (k+1) Z 26):=fa (bF.out.gV (by omega) _);clear ah bC av bD r7 f7 aT al aU he bA bB aZ bz;go_wp2_with (first
    |(refine aE rfl 26 #[] rfl (some 38) rfl Z ?_ ?_;focus(simpa[Act.eval]using cD.out))
    |(refine aE rfl 26 #[] rfl (some 39) rfl Z ?_ ?_;focus(simpa[Act.eval]using cD.out))
    |(refine aD rfl _ _ _ rfl rfl k Z rfl rfl 26 Z a5.out (jT aX.out) rfl cC.out ?_)
    |(refine aD rfl _ _ _ rfl rfl (k+1) Z rfl rfl 26 Z br.out (jT aX.out) rfl cC.out ?_)
    |fail)
   have c8:=HP.out;refine aL (v:=.tuple #[ai Z,ai Z]) (sJ rfl _ _ k (k+1) Z Z aX.out aX.out rfl rfl (fg.gV (show fg (w7.setRow k Z) k Z 26 from aJ _ _ _ _ _ _ a5.out) (by omega) _) (aJ _ _ _ _ _ _ br.out)) rfl ⟨af none 0 0,af none 0 0,by rw[bH.out,bI.out,dh.out],?_,?_,?_,?_⟩
   ·rw[aV.out];exact fg.gV (fg.gV db.out (by omega) _) (by omega) _
   ·rw[bJ.out];exact World.ownsRow_nil ..
   ·rw[bK.out];exact World.ownsRow_nil ..
   ·exact(bE.out.from (Fr.row w7 k Z) fun j hj=>.inr (by rw[<-HK.out];exact Nat.le_of_eq hj.symm)).from (Fr.row _ (k+1) Z) fun j hj=>.inr (by rw[<-HK.out];have:j=k+1:=hj;omega)
end Go.Proofs.YtgokdgcmkcmjeaaGreat
