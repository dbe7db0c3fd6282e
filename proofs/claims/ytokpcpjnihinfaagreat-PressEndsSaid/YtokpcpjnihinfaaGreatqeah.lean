/-
  Words and walks.
-/
import Derived.Test.YtokpcpjnihinfaaGreatqeaa
import Derived.Test.YtokpcpjnihinfaaGreatqeab
import Derived.Test.YtokpcpjnihinfaaGreatqeaf
import Derived.Test.YtokpcpjnihinfaaGreatqeag
set_option maxRecDepth 100000
set_option maxHeartbeats 16000000
namespace Go.Proofs.YtokpcpjnihinfaaGreat
open Value renaming int → ae, slice → af, pointer → ag, agg → ah, bool → ai
open IntKind renaming i64 → aj
open Obj renaming cells → ak
open Ending renaming returned → ao
open Go renaming World → aq, Addr → au, Calls → aw, Value → ax, heap_alloc_new → aG, cell_of_row → aH, madeCells → aJ, bodyPost_ret → aK, heap_setCell_same → aN, frozen_of_row → aO
open Go.RowKit renaming intOf → aP, Hid → aQ, Below → aR
open _root_.Go.Proofs.Tryz
open Go.RowKit Go.ChangeShapes Go.WideShapes Go.ChangeAt Go.Joins
theorem yO{t:gA}(h:gS t=true)(hx:t.x<256):p9 t:=by
 unfold gS at h;simp only[decide_eq_true_eq]at h;exact⟨hx,by omega,by omega⟩
theorem D7(w:aq)(B g:Nat)(p:gF)(out:List Nat)(Ah:Option au)(hc:Nat)(Aw:Option au)(wc:Nat)(Ap:Option au)(pc:Nat)(Ao:Option au)(oc:Nat)(U:gQ w B g p out Ah hc Aw wc Ap pc Ao oc)(K:Nat)(hk:p.k=(K:Int))(n:Nat)(hn:n<=p.wait.length)(hb:p.hist.length+p.wait.length<=2000000):
  aw prog 65 #[ag (some ⟨g,0,none⟩),ae aj (n:Int)] w fun e w'=>e=ao (af Ah (p.hist.length+n) hc)/\aR w.heap.size w w':=by
 have aT:=hn
 clear hn
 obtain⟨hn,al⟩:=fY (p.hist.length)
 obtain⟨wn,av⟩:=fY (p.wait.length)
 obtain⟨pn,ad⟩:=fY (p.gm.length)
 obtain⟨on,aS⟩:=fY (out.length)
 have eX:jB p Ah hc Aw wc Ap pc Ao out.length oc=#[ae aj p.s,ae aj p.h,ae aj p.m,ai p.z,af Ah hn hc,af Aw wn wc,af Ap pn pc,ae aj (K:Int),ai p.gO,(af Ao on oc)]:=by
  unfold jB;rw[<-al,<-av,<-ad,hk,<-aS]
 have hx:=U.box
 rw[eX]at hx
 have aU:=U.row.2.2.1
 have aV:aQ (∀V:aq,(binOp .add 3 (ae aj (hn:Int)) (ae aj (n:Int))).run prog V=.ok (ae aj ((hn+n:Nat):Int)) V):=fX fun V=>Lz _ _ _ _ (by omega) V
 have RT:aQ (∀V:aq,(Instr.sliceAt 22 (af Ah hn hc) none (some (ae aj ((hn+n:Nat):Int))) none).run prog V=.ok (af Ah (hn+n) hc) V):=fX fun V=>vm Ah hn hc (hn+n) (by omega) V
 have HX:=fX hx
 rw[<-al]
 clear U hk aT hb al av ad aS eX hx aU
 go_enter func65,ntmps65
 go_wp2
 refine rN (mG [fun v _=>v=ag (some ⟨g,0,none⟩),fun v _=>v=ag (some ⟨g,0,none⟩),fun v _=>v=ag (some ⟨g,0,none⟩),fun v _=>v=ag (some ⟨g,4,none⟩),fun v _=>v=af Ah hn hc,fun v _=>v=ag (some ⟨g,0,none⟩),fun v _=>v=ag (some ⟨g,0,none⟩),fun v _=>v=ag (some ⟨g,0,none⟩),fun v _=>v=ag (some ⟨g,4,none⟩),fun v _=>v=af Ah hn hc,fun v _=>v=ae aj (hn:Int),fun v _=>v=ae aj (n:Int),fun v _=>v=ae aj ((hn+n:Nat):Int),fun v _=>v=af Ah (hn+n) hc,fun v _=>v=af Ah (hn+n) hc]) w gC (by kernel_rfl) (by kernel_rfl) ?_ ?_
 case refine_1=>
  refine gl.cons (fun aa wv hb ha hS Kk Qq hK=>gY (gp rfl) _ rfl (gx ((ha 0 (by kernel_rfl)).trans rfl)) hK) ?_;refine gl.cons (fun aa wv hb ha hS Kk Qq hK=>lG (gp rfl) _ rfl _ (hS 0 5 (by kernel_rfl) rfl).here (gx rfl) hK) ?_;refine gl.cons (fun aa wv hb ha hS Kk Qq hK=>gZ (gp rfl) _ _ _ rfl _ (ag (some ⟨g,0,none⟩)) (hS 1 6 (by kernel_rfl) rfl).here (by go_simp) (gx rfl) hK) ?_;refine gl.cons (fun aa wv hb ha hS Kk Qq hK=>gZ (gp rfl) _ _ _ rfl _ (ag (some ⟨g,4,none⟩)) (hS 2 7 (by kernel_rfl) rfl).here (by go_simp) (gx rfl) hK) ?_;refine gl.cons (fun aa wv hb ha hS Kk Qq hK=>la (gp rfl) _ _ rfl _ (af Ah hn hc) (hS 3 8 (by kernel_rfl) rfl).here (by have hc:=jd (HX.out.below hb HX.out.lt);go_simp) (gx rfl) hK) ?_;refine gl.cons (fun aa wv hb ha hS Kk Qq hK=>gY (gp rfl) _ rfl (gx ((ha 0 (by kernel_rfl)).trans rfl)) hK) ?_;refine gl.cons (fun aa wv hb ha hS Kk Qq hK=>lG (gp rfl) _ rfl _ (hS 5 10 (by kernel_rfl) rfl).here (gx rfl) hK) ?_;refine gl.cons (fun aa wv hb ha hS Kk Qq hK=>gZ (gp rfl) _ _ _ rfl _ (ag (some ⟨g,0,none⟩)) (hS 6 11 (by kernel_rfl) rfl).here (by go_simp) (gx rfl) hK) ?_;refine gl.cons (fun aa wv hb ha hS Kk Qq hK=>gZ (gp rfl) _ _ _ rfl _ (ag (some ⟨g,4,none⟩)) (hS 7 12 (by kernel_rfl) rfl).here (by go_simp) (gx rfl) hK) ?_;refine gl.cons (fun aa wv hb ha hS Kk Qq hK=>la (gp rfl) _ _ rfl _ (af Ah hn hc) (hS 8 13 (by kernel_rfl) rfl).here (by have hc:=jd (HX.out.below hb HX.out.lt);go_simp) (gx rfl) hK) ?_;refine gl.cons (fun aa wv hb ha hS Kk Qq hK=>yG (gp rfl) _ _ rfl Ah hn hc (hS 9 14 (by kernel_rfl) rfl).here underlying22 (gx rfl) hK) ?_;refine gl.cons (fun aa wv hb ha hS Kk Qq hK=>gY (gp rfl) _ rfl (gx ((ha 1 (by kernel_rfl)).trans rfl)) hK) ?_;refine gl.cons (fun aa wv hb ha hS Kk Qq hK=>rO (gp rfl) _ _ _ _ _ rfl _ _ (ae aj ((hn+n:Nat):Int)) (hS 10 15 (by kernel_rfl) rfl).here (hS 11 16 (by kernel_rfl) rfl).here (rP _ _ _ _ _ _ _ (by decide) (by decide) _) (aV.out wv) (gx rfl) hK) ?_;refine gl.cons (fun aa wv hb ha hS Kk Qq hK=>qI (gp rfl) _ _ _ _ _ rfl (af Ah hn hc) (af Ah (hn+n) hc) none (some (ae aj ((hn+n:Nat):Int))) none (hS 4 9 (by kernel_rfl) rfl).here rfl (congrArg some (hS 12 17 (by kernel_rfl) rfl).here) rfl (RT.out wv) (gx rfl) hK) ?_;refine gl.cons (fun aa wv hb ha hS Kk Qq hK=>qH (gp rfl) _ rfl (hS 13 18 (by kernel_rfl) rfl) hK) ?_;exact gl.nil
 intro vals w5 hb hv
 have e4:vals 4=af Ah (hn+n) hc:=(hv 14 4 rfl).here
 have HB:=fX hb
 clear hb hv
 simp only[List.map_cons,List.map_nil,Pv,Act.put,List.setIfInBounds_toArray,List.set_cons_zero,List.set_cons_succ,e4]
 clear e4
 go_wp2
 go_ret
 exact⟨rfl,HB.out⟩
theorem pM(s h m:Int)(z:Bool):(prog.info? 27).map (·.size)=some ([ae aj s,ae aj h,ae aj m,ai z]:List ax).length:=by kernel_rfl
theorem D8(w:aq)(B g:Nat)(p:gF)(out:List Nat)(Ah:Option au)(hc:Nat)(Aw:Option au)(wc:Nat)(Ap:Option au)(pc:Nat)(Ao:Option au)(oc:Nat)(U:gQ w B g p out Ah hc Aw wc Ap pc Ao oc)(gd:kP p)(n:Nat)(aS:n<=p.wait.length)(aV:n<=65535)(hb:p.wait.length<=1000000):
  aw prog 50 #[ag (some ⟨g,0,none⟩),ae aj (n:Int)] w fun e w'=>∃A' n' c',e=ao (af A' n' c')/\iL w' w'.heap.size A' n' c' (iy p (p.wait.take n))/\aR w.heap.size w w':=by
 obtain⟨K,hk⟩:∃K:Nat,p.k=(K:Int):=⟨p.k.toNat,by have:=gd.k0;omega⟩
 have hs:=mj gd.jY
 have hh:=gd.hist
 obtain⟨TL,al⟩:=fY (iy p (p.wait.take n))
 rw[<-al]
 have TX:aQ (∀V,aR w.heap.size w V->aw prog 65 #[ag (some ⟨g,0,none⟩),ae aj (n:Int)] V fun e w'=>e=ao (af Ah (p.hist.length+n) hc)/\aR V.heap.size V w'):=fX fun V hV=>D7 V B g p out Ah hc Aw wc Ap pc Ao oc (U.below hV) K hk n aS (by omega)
 have hlen:(p.hist++p.wait.take n).length=p.hist.length+n:=by rw[List.length_append,List.length_take,Nat.min_eq_left aS]
 have CT:aQ (∀V,aR w.heap.size w V->aw prog 64 #[af Ah (p.hist.length+n) hc,ae aj (p.hist.length:Int),ah #[ae aj p.s,ae aj p.h,ae aj p.m,ai p.z]] V fun e w'=>∃A' n' c',e=ao (.tuple #[af A' n' c',ae aj 0])/\iL w' w'.heap.size A' n' c' TL/\aR V.heap.size V w'):=fX fun V hV=>by
  have hr:=(U.below hV).row;have bb:jo (p.hist++p.wait.take n):=fun x hx=>(List.mem_append.1 hx).elim (gd.bh x) (qM gd.bw n x)
  have aW:gu V V.heap.size Ah (p.hist.length+n) hc (gj (p.hist++p.wait.take n)):=by
   refine⟨⟨ky bb,fun h0=>?_⟩,hr.2.1,by have:=hr.2.2.1;omega,hr.2.2.2⟩;obtain⟨b,o,e1,e2,e3⟩:=hr.1.2 (by omega);refine⟨b,o,e1,e2,fun j hj=>?_⟩;rw[e3 j (by omega),pY,pY];unfold cat;by_cases h:j<p.hist.length
   ·rw[if_pos h,if_pos h]
   ·rw[if_neg h,if_neg h,rH p.wait (show j-p.hist.length<n by omega)]
  have h1:=L7 V Ah (p.hist.length+n) hc (gj (p.hist++p.wait.take n)) (p.hist.length:Int) p.s p.h p.m p.z aW (by omega) (by omega);have hE:rR (p.hist.length+n) (p.hist.length:Int) p.s p.h p.m=0:=by
   unfold rR;rw[gd.jY,if_neg (by simp),if_neg (by omega),if_pos (by omega)]
  have hV:tK (gj (p.hist++p.wait.take n)) (p.hist.length+n) (p.hist.length:Int) p.s p.h p.m p.z=TL:=by
   unfold tK;rw[hE,if_pos rfl,al,Int.toNat_natCast];unfold iy;rw[hlen]
  rw[hE,hV]at h1;exact h1
 obtain⟨hn,av⟩:=fY (p.hist.length)
 obtain⟨wn,aT⟩:=fY (p.wait.length)
 obtain⟨pn,ad⟩:=fY (p.gm.length)
 obtain⟨on,aU⟩:=fY (out.length)
 rw[<-av]at TX CT
 have eX:jB p Ah hc Aw wc Ap pc Ao out.length oc=#[ae aj p.s,ae aj p.h,ae aj p.m,ai p.z,af Ah hn hc,af Aw wn wc,af Ap pn pc,ae aj (K:Int),ai p.gO,(af Ao on oc)]:=by
  unfold jB;rw[<-av,<-aT,<-ad,hk,<-aU]
 have hx:=U.box
 rw[eX]at hx
 have HX:=fX hx
 clear U hk hb av aT ad aU eX hx gd hs hh hlen al aV
 go_enter func50,ntmps50
 go_wp2_with fail
 refine rN (mG [fun v _=>v=ag (some ⟨g,0,none⟩),fun v _=>v=ae aj (n:Int),fun v _=>v=af Ah (hn+n) hc,fun v _=>v=ag (some ⟨g,0,none⟩),fun v _=>v=ag (some ⟨g,0,none⟩),fun v _=>v=ag (some ⟨g,0,none⟩),fun v _=>v=ag (some ⟨g,4,none⟩),fun v _=>v=af Ah hn hc,fun v _=>v=ae aj (hn:Int),fun v _=>v=ag (some ⟨g,0,none⟩),fun v _=>v=ag (some ⟨g,0,none⟩),fun v _=>v=ag (some ⟨g,0,none⟩),fun v _=>v=ag (some ⟨g,0,none⟩),fun v _=>v=ah #[ae aj p.s,ae aj p.h,ae aj p.m,ai p.z],fun v W=>∃A' n' c',v=.tuple #[af A' n' c',ae aj 0]/\iL W W.heap.size A' n' c' TL,fun v W=>∃A' n' c',v=.tuple #[af A' n' c',ae aj 0]/\iL W W.heap.size A' n' c' TL,fun v W=>∃A' n' c',v=af A' n' c'/\iL W W.heap.size A' n' c' TL,fun v _=>v=ae aj 0,fun v W=>∃A' n' c',v=af A' n' c'/\iL W W.heap.size A' n' c' TL,fun v _=>v=ae aj 0]) w gC (by kernel_rfl) (by kernel_rfl) ?_ ?_
 case refine_1=>
  refine gl.cons (fun aa wv hb ha hS Kk Qq hK=>gY (gp rfl) _ rfl (gx ((ha 0 (by kernel_rfl)).trans rfl)) hK) ?_;refine gl.cons (fun aa wv hb ha hS Kk Qq hK=>gY (gp rfl) _ rfl (gx ((ha 1 (by kernel_rfl)).trans rfl)) hK) ?_;refine gl.cons (fun aa wv hb ha hS Kk Qq hK=>lZ (gp rfl) 65 _ _ rfl (enters_of func65 (by kernel_rfl) rfl) #[ag (some ⟨g,0,none⟩),ae aj (n:Int)] (by simp[(show aa.eval (.tmp 8)=ag (some ⟨g,0,none⟩)from(hS 0 8 (by kernel_rfl) rfl).here),(show aa.eval (.tmp 9)=ae aj (n:Int)from(hS 1 9 (by kernel_rfl) rfl).here)]) (TX.out wv hb) (fun ee w' ⟨h1,h2⟩=>⟨_,h1,h2,gx rfl⟩) hK) ?_;refine gl.cons (fun aa wv hb ha hS Kk Qq hK=>gY (gp rfl) _ rfl (gx ((ha 0 (by kernel_rfl)).trans rfl)) hK) ?_;refine gl.cons (fun aa wv hb ha hS Kk Qq hK=>lG (gp rfl) _ rfl _ (hS 3 11 (by kernel_rfl) rfl).here (gx rfl) hK) ?_;refine gl.cons (fun aa wv hb ha hS Kk Qq hK=>gZ (gp rfl) _ _ _ rfl _ (ag (some ⟨g,0,none⟩)) (hS 4 12 (by kernel_rfl) rfl).here (by go_simp) (gx rfl) hK) ?_;refine gl.cons (fun aa wv hb ha hS Kk Qq hK=>gZ (gp rfl) _ _ _ rfl _ (ag (some ⟨g,4,none⟩)) (hS 5 13 (by kernel_rfl) rfl).here (by go_simp) (gx rfl) hK) ?_;refine gl.cons (fun aa wv hb ha hS Kk Qq hK=>la (gp rfl) _ _ rfl _ (af Ah hn hc) (hS 6 14 (by kernel_rfl) rfl).here (by have hc:=jd (HX.out.below hb HX.out.lt);go_simp) (gx rfl) hK) ?_;refine gl.cons (fun aa wv hb ha hS Kk Qq hK=>yG (gp rfl) _ _ rfl Ah hn hc (hS 7 15 (by kernel_rfl) rfl).here underlying22 (gx rfl) hK) ?_;refine gl.cons (fun aa wv hb ha hS Kk Qq hK=>gY (gp rfl) _ rfl (gx ((ha 0 (by kernel_rfl)).trans rfl)) hK) ?_;refine gl.cons (fun aa wv hb ha hS Kk Qq hK=>lG (gp rfl) _ rfl _ (hS 9 17 (by kernel_rfl) rfl).here (gx rfl) hK) ?_;refine gl.cons (fun aa wv hb ha hS Kk Qq hK=>gZ (gp rfl) _ _ _ rfl _ (ag (some ⟨g,0,none⟩)) (hS 10 18 (by kernel_rfl) rfl).here (by go_simp) (gx rfl) hK) ?_;refine gl.cons (fun aa wv hb ha hS Kk Qq hK=>gZ (gp rfl) _ _ _ rfl _ (ag (some ⟨g,0,none⟩)) (hS 11 19 (by kernel_rfl) rfl).here (by go_simp) (gx rfl) hK) ?_;refine gl.cons (fun aa wv hb ha hS Kk Qq hK=>oD (gp rfl) _ _ rfl g 0 (hS 12 20 (by kernel_rfl) rfl).here [ae aj p.s,ae aj p.h,ae aj p.m,ai p.z] _ (kH (HX.out.below hb HX.out.lt) 0 [ae aj p.s,ae aj p.h,ae aj p.m,ai p.z] (fun i hi=>by rcases i with _|_|_|_|i<;>first|rfl|(simp at hi;omega))) underlying27 rfl (pM ..) (gx rfl) hK) ?_;refine gl.cons (fun aa wv hb ha hS Kk Qq hK=>lZ (gp rfl) 64 _ _ rfl (enters_of func64 (by kernel_rfl) rfl) #[af Ah (hn+n) hc,ae aj (hn:Int),ah #[ae aj p.s,ae aj p.h,ae aj p.m,ai p.z]] (by simp[(show aa.eval (.tmp 10)=af Ah (hn+n) hc from(hS 2 10 (by kernel_rfl) rfl).here),(show aa.eval (.tmp 16)=ae aj (hn:Int)from(hS 8 16 (by kernel_rfl) rfl).here),(show aa.eval (.tmp 21)=ah #[ae aj p.s,ae aj p.h,ae aj p.m,ai p.z]from(hS 13 21 (by kernel_rfl) rfl).here)]) (CT.out wv hb) (fun ee w' ⟨A',n',c',h1,h2,h3⟩=>⟨_,h1,h3,fun W hW=>⟨_,_,_,rfl,(h2.below hW fZ).more hW.size⟩⟩) hK) ?_;refine gl.cons (fun aa wv hb ha hS Kk Qq hK=>gY (gp rfl) _ rfl (hS 14 22 (by kernel_rfl) rfl) hK) ?_;refine gl.cons (fun aa wv hb ha hS Kk Qq hK=>by have hs:=hS 15 7 (by kernel_rfl) rfl;obtain⟨a1,a2,a3,e1,r1⟩:=hs.here;exact px (gp rfl) _ _ rfl _ _ e1 (by go_simp) (fun W hW=>⟨_,_,_,rfl,(r1.below hW fZ).more hW.size⟩) hK) ?_;refine gl.cons (fun aa wv hb ha hS Kk Qq hK=>by have hs:=hS 15 7 (by kernel_rfl) rfl;obtain⟨a1,a2,a3,e1,r1⟩:=hs.here;exact px (gp rfl) _ _ rfl _ _ e1 (by go_simp) (gx rfl) hK) ?_;refine gl.cons (fun aa wv hb ha hS Kk Qq hK=>qH (gp rfl) _ rfl (hS 16 23 (by kernel_rfl) rfl) hK) ?_;refine gl.cons (fun aa wv hb ha hS Kk Qq hK=>qH (gp rfl) _ rfl (hS 17 24 (by kernel_rfl) rfl) hK) ?_;exact gl.nil
 intro vals w5 hb hv
 obtain⟨A',n',c',e5,r5⟩:=(hv 18 5 rfl).here
 have HB:=fX hb;have HR:=fX r5
 clear hb hv r5
 simp only[List.map_cons,List.map_nil,Pv,Act.put,List.setIfInBounds_toArray,List.set_cons_zero,List.set_cons_succ,e5]
 clear e5
 go_wp2
 go_ret
 exact⟨A',n',c',rfl,HR.out,HB.out⟩
theorem L8(w:aq)(n:Nat)(hn:n<=1000000000000):
  aw prog 60 #[af none 0 0,ae aj (n:Int)] w fun e w'=>∃A c,e=ao (af A 0 c)/\w'.ownsRow w.heap.size 5 1 (af A 0 c) 0 []/\aR w.heap.size w w':=by
 rcases Nat.eq_zero_or_pos n with h0|h0
 ·subst h0;go_enter func60,ntmps60
  go_wp2;go_ret;exact⟨none,0,rfl,World.ownsRow_nil _ _ _ _,Below.refl _ _⟩
 ·obtain⟨i0,hi,aS,aW,aT⟩:=info_parts oM;have ad:=Lib.run_append_nil_zeros (P:=prog) w 22 3 22 5 i0 (ae .u8 0) aj aj underlying22 underlying3 hi aS n h0 (by omega) (by omega) (by rw[aT];omega);have aX:=grownCap_ge w n 0 5;have hle:=grownCap_le_maxLen w n 0 5 (by unfold maxLen;omega);obtain⟨c,hc⟩:=fY (grownCap w n 0 5);rw[<-hc]at ad aX hle;obtain⟨Z,hZ⟩:=fY ((Builtin.zeroCells (Value.int .u8 0).cells n++Builtin.zeroCells (Value.int .u8 0).cells (c-n)));rw[<-hZ]at ad;have aU:Z.size=c*1:=by rw[hZ];simp[size_zeroCells,Value.cells];omega
  have al:=World.ownsRow_made (base:=w.heap.size) (e:=5) (size:=1) w.drew Z c fZ hle aU;have av:aR w.heap.size w (w.drew.alloc (ak Z 5)):=(Below.refl w.heap.size w).drew.alloc fZ _;obtain⟨w1,aV⟩:=fY (w.drew.alloc (ak Z 5));rw[<-aV]at ad al av;have HR:=fX ad;have HO:=fX al;have HB:=fX av
  unfold maxLen at hle;clear ad al av hZ aU aV hc hi aS aW aT;have hp:(0:Int)<(n:Int):=by omega
  go_enter func60,ntmps60
  go_wp2_with (at_builtin;refine Lib.wpList_append_run _ rfl _ _ _ _ rfl _ _ rfl rfl _ _ HR.out ?_)
  go_ret;exact⟨_,_,rfl,HO.out,HB.out⟩
theorem D9(w:aq)(A:Option au)(k c:Nat)(n:Nat->Nat)(f:Nat->Nat->Nat)(hf:∀i j,f i j<256)(hr:P5 w w.heap.size A k n f)(hk:k<=1000000)(hs:PG n k<=1000000000):
  aw prog 45 #[af A k c] w fun e w'=>∃A' c',e=ao (af A' (PG n k) c')/\w'.ownsRow w.heap.size 5 1 (af A' (PG n k) c') (PG n k) (gD (PG n k) (nO n f k))/\aR w.heap.size w w':=by
 have HR:=fX hr;have HF:=fX hf;have HS:=fX hs
 obtain⟨N,hN⟩:=fY (PG n k)
 rw[<-hN]at hs⊢
 have HN:=fX hN
 clear hr hf hN
 go_enter func45,ntmps45
 go_wp2_with fail
 go_loopw [3,11] (fun s i wr=>∃j q:Nat,j<=k/\i=ae aj (j:Int)/\s=ae aj (q:Int)/\aQ (q=PG n j)/\w=wr) (fun _ i _=>k-(aP i).toNat)
 case atStart=>exact⟨0,0,Nat.zero_le _,rfl,rfl,fX rfl,rfl⟩
 case round=>
  obtain⟨j,q,hj,rfl,rfl,HQ,rfl⟩:=hrel;by_cases aZ:j<k
  ·have aV:(j:Int)<(k:Int):=by omega
   obtain⟨b,o,rfl,hb,al⟩:=HR.out (by omega);obtain⟨Ai,ci,c1,_,_⟩:=al j aZ;have ad:PG n (j+1)=q+n j:=by rw[HQ.out];rfl
   have av:=uG n (show j+1<=k by omega);have aS:=HS.out;obtain⟨m,hm⟩:=fY (n j);rw[<-hm]at c1 ad;have a5:q+m<=1000000000:=by omega
   have a6:¬((q:Int)+(m:Int)<0):=by omega
   have aT:=fX ad;clear al ad av aS hm;go_wp2;go_roundw
   case rel=>exact⟨j+1,q+m,by omega,by go_num,by go_num,fX aT.out.symm,trivial⟩
   case measure=>simp[aP];omega
  ·obtain rfl:j=k:=by omega
   have aV:¬(j:Int)<(j:Int):=by omega
   have a1:q=N:=by rw[HQ.out,HN.out]
   subst a1;go_wp2_with fail
   refine(L8 _ q (by omega)).mono ?_;rintro e w1 ⟨A1,c1,rfl,aW,aX⟩;have a2:=fX aW;have a3:=fX aX
   clear aW aX;go_wp2_with fail
   go_loopw [6,27] (fun s i wr=>∃(t p:Nat) (At:Option au) (ct:Nat),t<=j/\i=ae aj (t:Int)/\s=af At p ct/\aQ (p=PG n t)/\aQ (wr.ownsRow w.heap.size 5 1 (af At p ct) p (gD p (nO n f t)))/\aQ (aR w.heap.size w wr)) (fun _ i _=>j-(aP i).toNat)
   case atStart=>exact⟨0,0,A1,c1,Nat.zero_le _,rfl,rfl,fX rfl,a2,a3⟩
   case round=>
    obtain⟨t,p,At,ct,ht,rfl,rfl,HP,HO,HB⟩:=hrel;by_cases aY:t<j
    ·have aU:(t:Int)<(j:Int):=by omega
     obtain⟨b,o,rfl,hb,al⟩:=(HR.out.below HB.out fZ) (by omega);obtain⟨Ai,ci,k1,k2,k3⟩:=al t aY;have ad:PG n (t+1)=p+n t:=by rw[HP.out];rfl
     have av:=uG n (show t+1<=j by omega);have aS:=HS.out;obtain⟨A',c',w',r1,r2,r3⟩:=sd wr w.heap.size _ (af At p ct) p _ HO.out Ai (n t) ci (f t) k2 (by omega) 22 k3 HB.out.size;obtain⟨m,hm⟩:=fY (n t);rw[<-hm]at k1 r1 r2 ad;have e1:cat (nO n f t) p (f t)=nO n f (t+1):=by funext x;rw[HP.out];rfl
     rw[e1]at r2;have aT:=fX ad;have R1:=fX r1;have R2:=fX r2;have R3:=fX (HB.out.trans r3)
     clear al ad av aS r1 r2 r3 k2 k3 hm e1;go_wp2_with (at_builtin;refine wpList_append_run rfl (.tmp 31) (.tmp 32) 22 rfl (af At p ct) (af Ai m ci) (af A' (p+m) c') w' rfl rfl R1.out ?_)
     go_roundw
     case rel=>exact⟨t+1,p+m,A',c',by omega,by go_num,rfl,fX aT.out.symm,R2,R3⟩
     case measure=>simp[aP];omega
    ·obtain rfl:t=j:=by omega
     have aU:¬(t:Int)<(t:Int):=by omega
     have a4:p=q:=by rw[HP.out,HN.out]
     subst a4;go_wp2;go_ret;exact⟨At,ct,rfl,HO.out,HB.out⟩
theorem yP(c:Nat)(hc:c<4294967296):bits .and .u64 (c:Int) 4294967295=(c:Int):=by
 have h:=Qk c 4294967295 (by omega) (by omega);have e:c&&&4294967295=c%4294967296:=Nat.and_two_pow_sub_one_eq_mod c 32;rw[e,Nat.mod_eq_of_lt hc]at h;exact h
theorem L9(w:aq)(c:Nat)(hc:c<=1000000):aw prog 179 #[ae .u64 1,ae .u64 (c:Int)] w fun e w'=>e=ao (.tuple #[ae .u64 0,ae .u64 (c:Int)])/\w=w':=by
 have h1:bits .and .u64 1 4294967295=(1:Int):=yP 1 (by omega);have h2:=yP c (by omega);have h3:(c:Int)/4294967296=0:=by omega
 have h0:bits .and .u64 0 4294967295=(0:Int):=yP 0 (by omega);go_enter func179,ntmps179
 go_wp2;go_ret2;exact⟨rfl,rfl⟩
theorem mul_one(w:aq)(c:Nat)(hc:c<=1000000):aw prog 167 #[ae .u64 1,ae .u64 (c:Int)] w fun e w'=>e=ao (.tuple #[ae .u64 0,ae .u64 (c:Int)])/\w=w':=by
 have H:=fX (L9 w c hc);go_enter func167,ntmps167
 go_wp2_with fail
 refine H.out.mono ?_;rintro e w1 ⟨rfl,rfl⟩;go_wp2;go_ret2;exact⟨rfl,rfl⟩
theorem Ma:Kt:=by
 intro w;have hz:=(zero_of_info uJ).1;have f1:=BO;obtain⟨T,hT⟩:∃T:Nat->Int,T=fun i=>(jD i:Int):=⟨_,rfl⟩
 obtain⟨Z,hZ⟩:∃Z:Nat->Int,Z=fun _=>0:=⟨_,rfl⟩
 rw[<-hT]at f1⊢;rw[<-hZ]at hz;have F1:=fX f1;have K0:aQ ((w.alloc (ak (gw Z 19) 193)).heap[w.heap.size]?=some (ak (gw Z 19) 193 (0,0))):=fX (aG w _);clear hT hZ f1;go_enter func159,ntmps159
 go_wp2_with (first
  |(refine wpList_buildFlatArrTo rfl 193 3 19 _ rfl aj [16,17,18,0,8,7,9,6,10,5,11,4,12,3,13,2,14,1,15] (some 1) rfl underlying193 (by kernel_rfl) (by kernel_rfl) rfl ?_;rw[F1.out])
  |(refine wpList_store_rowTo rfl _ _ _ rfl rfl w.heap.size (gw T 19) rfl rfl 193 (gw Z 19) K0.out (tp _) (by rw[ij,ij]) (ke _ _) ?_)
  |fail)
 refine aK (v:=ah (gw T 19)) ?_ rfl ⟨rfl,ln (gC.alloc fZ _) fZ _⟩;exact results_cell_row rfl _ _ w.heap.size _ _ (0,0) _ rfl (setRow_heap _ _ _ _ _ _ K0.out) underlying193 rfl (tp _)
theorem Mb(n:Nat)(h:n<=1000000000):∀u:aq,(Instr.makeSlice 22 (ae aj (n:Int)) (ae aj (n:Int))).run prog u=
   .ok (af (some ⟨u.heap.size,0,none⟩) n n) (u.alloc (ak (aJ #[ae .u8 0] n) 5)):=fun u=>by
 obtain⟨i0,hi,ad,al,av⟩:=info_parts oM
 have h:=run_make (P:=prog) u 22 5 i0 _ underlying22 hi ad aj aj (n:Int) (n:Int) (by omega) (by omega) (by rw[av];omega) (by omega)
 rw[Int.toNat_natCast,al,Nat.mul_one]at h
 exact h
def mK(v t j:Nat):Nat:=if j<t then v else 0
theorem Ea(c t m v:Nat)(h:t+m<=c):splice (gD c (mK v t)) t (gD m (fun _=>v))=gD c (mK v (t+m)):=by
 apply List.ext_getElem?;intro j;have hl:(gD m (fun _=>v)).length=m:=by simp[gD]
 have ad:(gD c (mK v t)).length=c:=by simp[gD]
 simp only[splice,List.getElem?_append,List.length_take,hl,ad,lH,List.getElem?_take,List.getElem?_drop,mK,Nat.min_eq_left (show t<=c by omega)];by_cases h1:j<t
 ·simp[h1,show j<t+m by omega]
 ·by_cases h2:j<t+m
  ·simp[h1,h2,show j-t<m by omega,show j<c by omega]
  ·simp[h1,h2,show¬j-t<m by omega];rw[show t+m+(j-t-m)=j by omega];simp[h1]
theorem Mc(c v:Nat):(aJ #[ae .u8 0] c)=(gD c (mK v 0)).toArray:=by
 have h:=toList_madeCells_one (Value.int .u8 0) c;have e:gD c (mK v 0)=List.replicate c (Value.int .u8 0):=by
  apply List.ext_getElem?;intro j;rw[lH,List.getElem?_replicate];simp[mK]
 rw[e,<-h]
theorem Eb{w:aq}{b o m v:Nat}(h:∀j,j<m->w.cell? ⟨b,o+j,none⟩=some (ae .u8 (v:Int))):∀(j:Nat) (u:ax),(gD m (fun _=>v))[j]?=some u->w.cell? ((⟨b,o,none⟩:au).add j)=some u:=by
 intro j u hu;rw[lH]at hu;by_cases hj:j<m
 ·rw[if_pos hj]at hu;injection hu with hu
  subst hu;have e:(⟨b,o,none⟩:au).add j=⟨b,o+j,none⟩:=by unfold Addr.add;split<;>simp_all
  rw[e];exact h j hj
 ·rw[if_neg hj]at hu;cases hu
theorem Md(w:aq)(b v c:Nat)(_:v<256)(aV:1<=c)(hc:c<=1000)(hb:b<w.heap.size)(hx:w.cell? ⟨b,0,none⟩=some (ae .u8 (v:Int))):
  aw prog 151 #[af (some ⟨b,0,none⟩) 1 1,ae aj (c:Int)] w fun e w'=>e=ao (af (some ⟨w.heap.size,0,none⟩) c c)/\w'.ownsRow w.heap.size 5 1 (af (some ⟨w.heap.size,0,none⟩) c c) c (gD c (fun _=>v))/\aR w.heap.size w w':=by
 have HM:=fX (mul_one w c (by omega))
 obtain⟨h,hh⟩:=fY (w.heap.size)
 obtain⟨W1,av⟩:=fY (w.alloc (ak (aJ #[ae .u8 0] c) 5))
 have aT:aR h w W1:=by rw[av,hh];exact gC.alloc fZ _
 have h1:W1.heap[h]?=some (ak (gD c (mK v 0)).toArray 5 (0,0)):=by
  rw[av,hh,aG,Mc c v]
 have aW:W1.cell? ⟨b,0,none⟩=some (ae .u8 (v:Int)):=(aT.cell (p:=⟨b,0,none⟩) (by rw[hh];exact hb)).trans hx
 have bm:¬(c:Int)<0:=by omega
 have a6:=Mb c (by omega)
 have aS:=fX av;have HH:=fX hh;have aX:=fX aT;have H1:=fX h1;have aY:=fX aW
 clear av aT h1 aW hx hh
 go_enter func151,ntmps151
 go_wp2_with fail
 refine HM.out.mono ?_
 rintro e w2 ⟨rfl,rfl⟩
 have a7:=HH.out
 go_wp2_with (with_reducible refine wpList_copy_splice rfl (.tmp 31) (.tmp 32) 22 22 rfl 5 underlying22 xg _ _ _ _ _ _ rfl rfl h 0 (gD c (mK v 0)) 5 ?c1 (gD 1 (fun _=>v)) ?c2 ?c3 ?c4 (sc 1 _) h W1 ?c5 fZ ?c6)
 case c1=>rw[<-aS.out];exact H1.out
 case c2=>simp only[gD,List.length_map,List.length_range];exact(Nat.min_eq_left aV).symm
 case c3=>
  intro _;refine⟨by rw[HH.out],_,rfl,Eb fun j hj=>?_⟩;obtain rfl:j=0:=by omega
  rw[<-aS.out];exact aY.out
 case c4=>simp[gD];omega
 case c5=>rw[<-aS.out];exact Below.refl _ _
 case c6=>
  rw[<-HH.out];intro w3 aZ a1;have hs:=Ea c 0 1 v (by omega);rw[Nat.zero_add]at hs;have a8:aQ (w3.heap[h]?=some (ak (gD c (mK v 1)).toArray 5 (0,0))):=fX (by rw[<-hs];exact aZ.out);have a9:=fX (aX.out.trans a1);have ad:(((gD 1 fun _=>v).length:Nat):Int)=1:=by simp[gD]
  rw[ad];clear aZ a1 hs ad a6 a7 aS H1 aY aX;go_wp2;go_loopw [8] (fun nv wr=>∃t:Nat,1<=t/\t<=c/\nv=ae aj (t:Int)/\aQ (wr.heap[h]?=some (ak (gD c (mK v t)).toArray 5 (0,0)))/\aQ (aR h w wr)) (fun nv _=>c-(aP nv).toNat)
  case atStart=>exact⟨1,Nat.le_refl _,aV,rfl,a8,a9⟩
  case round=>
   obtain⟨t,bd,bn,rfl,HG,HB⟩:=hrel;by_cases bp:t<c
   ·have a2:(t:Int)<(c:Int):=by omega
    obtain⟨m,hm⟩:=fY (Nat.min t (c-t));have bq:m<=t:=by rw[hm];exact Nat.min_le_left _ _
    have a3:t+m<=c:=by have:m<=c-t:=(by rw[hm];exact Nat.min_le_right _ _);omega
    have br:0<m:=by rw[hm];exact Nat.lt_min.2 ⟨bd,by omega⟩
    have bf:=fX hm;clear hm;go_wp2;have t0:¬(t:Int)<0:=by omega
    have t1:¬(c:Int)<(t:Int):=by omega
    have t2:(t:Int)<=(c:Int):=by omega
    refine uM 6 wr.heap.size wr gC (by kernel_rfl) (by kernel_rfl) (.tmp 8) (ae aj (t:Int)) rfl (some 38) rfl rfl rfl rfl (by kernel_rfl) (fun _ _ _ h=>h) ?_;simp only[List.take_succ_cons,List.take_zero,List.drop_succ_cons,List.drop_zero,Act.put,List.setIfInBounds_toArray,List.set_cons_zero,List.set_cons_succ];repeat go_big_quiet_step (fail)
    refine wpQuiet_nil ?_;rintro V ⟨⟨V,hV⟩,rfl⟩;have bg:V.heap[h]?=some (ak (gD c (mK v t)).toArray 5 (0,0)):=(hV.block h (Array.getElem?_eq_some_iff.1 HG.out).1).trans HG.out;have aU:=fX bg;have bj:=fX (HB.out.trans (hV.mono (by have:=HB.out.size;rw[HH.out];exact this)))
    go_wp2_with (with_reducible refine wpList_copy_splice rfl (.tmp 41) (.tmp 44) 22 22 rfl 5 underlying22 xg _ _ _ _ _ _ rfl rfl h t (gD c (mK v t)) 5 aU.out (gD m (fun _=>v)) ?c1 ?c2 ?c3 (sc m _) h w ?c4 fZ ?c5)
    case c1=>simp only[gD,List.length_map,List.length_range];exact bf.out
    case c2=>
     intro _;first
      |(refine⟨rfl,_,rfl,Eb fun j hj=>?_⟩
        rw[aH V h (0+j) _ _ (0,0) aU.out,List.getElem?_toArray,lH,if_pos (by omega)]
        unfold mK;rw[if_pos (by omega)])
      |(intro j u hu
        rw[lH]at hu
        by_cases hj:j<m
        ·rw[if_pos hj]at hu;injection hu with hu
         rw[aH V h j _ _ (0,0) aU.out,List.getElem?_toArray,lH,if_pos (by omega),<-hu];unfold mK;rw[if_pos (by omega)]
        ·rw[if_neg hj]at hu;cases hu)
    case c3=>simp only[gD,List.length_map,List.length_range];omega
    case c4=>exact bj.out
    case c5=>
     intro w5 a4 a5;have al:=a4.out;rw[Ea c t m v a3]at al;have bk:=fX al;have bl:=fX a5
     have ad:(gD m fun _=>v).length=m:=by simp[gD]
     rw[ad];clear a4 al a5 ad;go_wp2;go_roundw
     case rel=>exact⟨t+m,by omega,a3,by go_num,bk,bl⟩
     case measure=>simp[aP];omega
   ·obtain rfl:t=c:=by omega
    have a2:¬(t:Int)<(t:Int):=by omega
    go_wp2;go_ret;rw[<-HH.out];refine⟨rfl,⟨by simp[gD],.inr ⟨h,t,_,rfl,Nat.le_refl _,HG.out,Nat.le_refl _,by unfold maxLen;omega,by simp[gD],?_⟩⟩,HB.out⟩;rw[Nat.mul_one,List.take_of_length_le (by simp[gD])];exact sy fun j hj=>by unfold mK;rw[if_pos hj]
theorem tT(w:aq)(v c:Nat)(hv:v<256)(ad:1<=c)(hc:c<=1000):
  aw prog 130 #[ae .u8 (v:Int),ae aj (c:Int)] w fun e w'=>∃A' c',e=ao (af A' c c')/\w'.ownsRow w.heap.size 5 1 (af A' c c') c (gD c (fun _=>v))/\aR w.heap.size w w':=by
 have hr:=Md (w.alloc (ak #[ae .u8 (v:Int)] 5)) w.heap.size v c hv ad hc (by simp) ((aH _ _ 0 _ _ (0,0) (aG w _)).trans rfl)
 have HB:=fX ((Below.refl w.heap.size w).alloc fZ (ak #[ae .u8 (v:Int)] 5))
 have HR:=fX hr
 clear hr
 go_enter func130,ntmps130
 go_wp2_with fail
 refine HR.out.mono ?_
 rintro e w1 ⟨rfl,ho,hb⟩
 have HO:=fX (by simpa using qC ho (show w.heap.size<=(w.alloc (ak #[ae .u8 (v:Int)] 5)).heap.size by simp):w1.ownsRow w.heap.size 5 1 (af (some ⟨w.heap.size+1,0,none⟩) c c) c (gD c (fun _=>v)));have al:=fX (HB.out.trans (hb.mono (by simp)))
 clear ho hb
 go_wp2
 go_ret
 exact⟨_,_,rfl,HO.out,al.out⟩
def PZ:Nat->Nat
 |0=>144
 |1=>112
 |2=>24
 |_=>8
def vQ:Nat->Nat
 |0=>8
 |1=>9
 |2=>7
 |_=>8
theorem Ec:PG PZ 4=288:=by rfl
theorem Me(j:Nat)(hj:j<288):nO PZ (fun i _=>vQ i) 4 j=jG j:=by
 have s1:PG PZ 1=144:=rfl;have s2:PG PZ 2=256:=rfl;have s3:PG PZ 3=280:=rfl;show cat (cat (cat (cat (fun _=>0) 0 (fun _=>8)) (PG PZ 1) (fun _=>9)) (PG PZ 2) (fun _=>7)) (PG PZ 3) (fun _=>8) j=jG j
 rw[s1,s2,s3];unfold cat jG;split
 ·split
  ·split
   ·rw[if_neg (by omega),if_neg (by omega),if_neg (by omega)]
   ·rw[if_neg (by omega),if_pos (by omega)]
  ·rw[if_pos (by omega)]
 ·rw[if_neg (by omega),if_neg (by omega)]
theorem Ed:Ku:=by
 intro w;go_enter func107,ntmps107
 go_wp2_with fail
 refine(tT w 8 144 (by omega) (by omega) (by omega)).mono ?_;rintro e w1 ⟨A1,c1,rfl,o1,b1⟩;have O1:=fX o1;have B1:=fX b1
 clear o1 b1;go_wp2_with fail
 refine(tT w1 9 112 (by omega) (by omega) (by omega)).mono ?_;rintro e w2 ⟨A2,c2,rfl,o2,b2⟩;have aY:=fX (lF O1.out b2);have O2:=fX o2;have B2:=fX (B1.out.trans (b2.mono B1.out.size))
 clear o2 b2 O1;go_wp2_with fail
 refine(tT w2 7 24 (by omega) (by omega) (by omega)).mono ?_;rintro e w3 ⟨A3,c3,rfl,o3,b3⟩;have aZ:=fX (lF aY.out b3);have a1:=fX (lF O2.out b3);have O3:=fX o3;have B3:=fX (B2.out.trans (b3.mono B2.out.size))
 clear o3 b3 aY O2;go_wp2_with fail
 refine(tT w3 8 8 (by omega) (by omega) (by omega)).mono ?_;rintro e w4 ⟨A4,c4,rfl,o4,b4⟩;have aV:=fX (lF aZ.out b4);have aW:=fX (lF a1.out b4);have aX:=fX (lF O3.out b4);have O4:=fX o4;have B4:=fX (B3.out.trans (b4.mono B3.out.size))
 clear o4 b4 aZ a1 O3;obtain⟨W5,aT⟩:=fY (w4.alloc (ak #[af A1 144 c1,af A2 112 c2,af A3 24 c3,af A4 8 c4] 22));have b5:aR w4.heap.size w4 W5:=by rw[aT];exact gC.alloc fZ _
 have ad:W5.heap[w4.heap.size]?=some (ak #[af A1 144 c1,af A2 112 c2,af A3 24 c3,af A4 8 c4] 22 (0,0)):=by rw[aT];exact aG w4 _
 have al:∀{A:Option au} {c n v base:Nat},v<256->w4.ownsRow base 5 1 (af A n c) n (gD n (fun _=>v))->gE W5 W5.heap.size A n (fun _=>v)/\(A=none->c=0):=fun hv ho=>by
  have:=gu.gR (lF ho b5) (fun _=>hv);exact⟨this.1,this.2.1⟩
 have av:P5 W5 W5.heap.size (some ⟨w4.heap.size,0,none⟩) 4 PZ (fun i _=>vQ i):=fun _=>by
  refine⟨w4.heap.size,0,rfl,(Array.getElem?_eq_some_iff.1 ad).1,fun i hi=>?_⟩;rcases i with _|_|_|_|i
  ·exact⟨A1,c1,(aH W5 _ 0 _ _ (0,0) ad).trans rfl,(al (by omega) aV.out).1,(al (by omega) aV.out).2⟩
  ·exact⟨A2,c2,(aH W5 _ 1 _ _ (0,0) ad).trans rfl,(al (by omega) aW.out).1,(al (by omega) aW.out).2⟩
  ·exact⟨A3,c3,(aH W5 _ 2 _ _ (0,0) ad).trans rfl,(al (by omega) aX.out).1,(al (by omega) aX.out).2⟩
  ·exact⟨A4,c4,(aH W5 _ 3 _ _ (0,0) ad).trans rfl,(al (by omega) O4.out).1,(al (by omega) O4.out).2⟩
  ·omega
 have aS:=D9 W5 (some ⟨w4.heap.size,0,none⟩) 4 4 PZ (fun i _=>vQ i) (fun i _=>by unfold vQ;split<;>omega) av (by omega) (by rw[Ec];omega);rw[Ec,sy Me]at aS;have aU:=fX aS;have a2:=fX aT;have B5:=fX (B4.out.trans (b5.mono B4.out.size))
 clear aS aT av al ad b5 aV aW aX O4 B1 B2 B3 B4;go_wp2_with (first|rw[<-a2.out]|fail)
 refine aU.out.mono ?_;rintro e w6 ⟨Aa,ca,rfl,oa,b6⟩;have OA:=fX (qC oa B5.out.size);have B6:=fX (B5.out.trans (b6.mono B5.out.size))
 clear oa b6 aU;go_wp2_with fail
 refine(tT w6 5 32 (by omega) (by omega) (by omega)).mono ?_;rintro e w7 ⟨Ab,cb,rfl,ob,b7⟩;have a3:=fX (lF OA.out b7);have OB:=fX ob;have B7:=fX (B6.out.trans (b7.mono B6.out.size))
 clear ob b7;go_wp2;go_ret2;refine⟨Aa,ca,Ab,cb,rfl,a3.out,qC OB.out B6.out.size,fun g h1 h2=>?_,B7.out⟩;have k1:=(oH OA.out g h1).2;have k2:=(oH OB.out g h2).1;omega
def Ah(F:Nat->Nat)(x y:Nat):Prop:=F x<F y\/(F x=F y/\x<y)
theorem Ah.tr{F:Nat->Nat}{x y z:Nat}(h:Ah F x y)(g:Ah F y z):Ah F x z:=by unfold Ah at*;omega
def Rs(F f:Nat->Nat)(a b:Nat):Prop:=∀i j,a<=i->i<j->j<b->Ah F (f i) (f j)
def St(F f:Nat->Nat)(N:Nat):Prop:=∀i j,i<j->j<N->F (f i)=F (f j)->f i<f j
def Py(f g:Nat->Nat)(a b:Nat):Prop:=
 (∀t,¬(a<=t/\t<b)->g t=f t)/\(∀t,a<=t->t<b->∃s,a<=s/\s<b/\g t=f s)/\(∀s,a<=s->s<b->∃t,a<=t/\t<b/\g t=f s)
theorem Py.refl(f:Nat->Nat)(a b:Nat):Py f f a b:=⟨fun _ _=>rfl,fun t h1 h2=>⟨t,h1,h2,rfl⟩,fun t h1 h2=>⟨t,h1,h2,rfl⟩⟩
theorem Py.trans{f g h:Nat->Nat}{a b:Nat}(p:Py f g a b)(q:Py g h a b):Py f h a b:=by
 refine⟨fun t ht=>(q.1 t ht).trans (p.1 t ht),fun t h1 h2=>?_,fun s h1 h2=>?_⟩
 ·obtain⟨u,u1,u2,e⟩:=q.2.1 t h1 h2;obtain⟨v,v1,v2,e2⟩:=p.2.1 u u1 u2;exact⟨v,v1,v2,e.trans e2⟩
 ·obtain⟨u,u1,u2,e⟩:=p.2.2 s h1 h2;obtain⟨v,v1,v2,e2⟩:=q.2.2 u u1 u2;exact⟨v,v1,v2,e2.trans e⟩
theorem Py.wide{f g:Nat->Nat}{a b a' b':Nat}(p:Py f g a b)(ha:a'<=a)(hb:b<=b'):Py f g a' b':=by
 refine⟨fun t ht=>p.1 t (by omega),fun t h1 h2=>?_,fun s h1 h2=>?_⟩
 ·by_cases h:a<=t/\t<b
  ·obtain⟨u,u1,u2,e⟩:=p.2.1 t h.1 h.2;exact⟨u,by omega,by omega,e⟩
  ·exact⟨t,h1,h2,p.1 t h⟩
 ·by_cases h:a<=s/\s<b
  ·obtain⟨u,u1,u2,e⟩:=p.2.2 s h.1 h.2;exact⟨u,by omega,by omega,e⟩
  ·exact⟨s,h1,h2,p.1 s h⟩
theorem Py.lt{f g:Nat->Nat}{a b N M:Nat}(p:Py f g a b)(hb:b<=N)(h:∀t,t<N->f t<M):∀t,t<N->g t<M:=fun t ht=>by
 by_cases g:a<=t/\t<b
 ·obtain⟨u,u1,u2,e⟩:=p.2.1 t g.1 g.2;rw[e];exact h u (by omega)
 ·rw[p.1 t g];exact h t ht
theorem St.keep{F f g:Nat->Nat}{a b N:Nat}(h:St F f N)(p:Py f g a b)(hr:Rs F g a b)(hb:b<=N):St F g N:=fun i j al hj e=>by
 by_cases hi:a<=i/\i<b
 ·by_cases ad:a<=j/\j<b
  ·have:=hr i j hi.1 al ad.2;unfold Ah at this;omega
  ·obtain⟨s,s1,s2,e2⟩:=p.2.1 i hi.1 hi.2;have e3:=p.1 j ad;rw[e2,e3]at e⊢;exact h s j (by omega) hj e
 ·have e2:=p.1 i hi;by_cases ad:a<=j/\j<b
  ·obtain⟨s,s1,s2,e3⟩:=p.2.1 j ad.1 ad.2;rw[e2,e3]at e⊢;exact h i s (by omega) (by omega) e
  ·have e3:=p.1 j ad;rw[e2,e3]at e⊢;exact h i j al hj e
theorem Rs.part{F f:Nat->Nat}{a b a' b':Nat}(h:Rs F f a b)(ha:a<=a')(hb:b'<=b):Rs F f a' b':=fun i j h1 h2 h3=>h i j (by omega) h2 (by omega)
theorem Rs.keep{F f g:Nat->Nat}{a b c d:Nat}(h:Rs F f c d)(p:Py f g a b)(hd:d<=a\/b<=c):Rs F g c d:=fun i j h1 h2 h3=>by
 rw[p.1 i (by omega),p.1 j (by omega)];exact h i j h1 h2 h3
theorem Rs.one{F f:Nat->Nat}{a b:Nat}(h:b<=a+1):Rs F f a b:=fun i j h1 h2 h3=>by omega
theorem yQ{F f:Nat->Nat}{N i j:Nat}(h:St F f N)(ad:i<j)(hj:j<N)(e:F (f i)<=F (f j)):Ah F (f i) (f j):=by
 rcases Nat.lt_or_ge (F (f i)) (F (f j))with g|g
 ·exact .inl g
 ·have e2:F (f i)=F (f j):=by omega
  exact .inr ⟨e2,h i j ad hj e2⟩
theorem Ee{F f:Nat->Nat}{a m b N:Nat}(hs:St F f N)(hb:b<=N)(h1:Rs F f a m)(h2:Rs F f m b)(hc:a<m->m<b->F (f (m-1))<=F (f m)):Rs F f a b:=fun i j hi ad hj=>by
 by_cases g1:j<m
 ·exact h1 i j hi ad g1
 ·by_cases g2:m<=i
  ·exact h2 i j g2 ad hj
  ·apply yQ hs ad (by omega);have h3:=hc (by omega) (by omega);have h4:F (f i)<=F (f (m-1)):=by
    by_cases e:i=m-1
    ·rw[e];exact Nat.le_refl _
    ·have:=h1 i (m-1) hi (by omega) (by omega);unfold Ah at this;omega
   have h5:F (f m)<=F (f j):=by
    by_cases e:j=m
    ·rw[e];exact Nat.le_refl _
    ·have:=h2 m j fZ (by omega) hj;unfold Ah at this;omega
   omega
def sw(f:Nat->Nat)(i j t:Nat):Nat:=if t=j then f i else if t=i then f j else f t
theorem Mf{f:Nat->Nat}{a b i j:Nat}(hi:a<=i/\i<b)(hj:a<=j/\j<b):Py f (sw f i j) a b:=by
 refine⟨fun t ht=>?_,fun t h1 h2=>?_,fun t h1 h2=>?_⟩
 ·unfold sw;rw[if_neg (by omega),if_neg (by omega)]
 ·by_cases e:t=j
  ·exact⟨i,hi.1,hi.2,by unfold sw;rw[if_pos e]⟩
  ·by_cases e2:t=i
   ·exact⟨j,hj.1,hj.2,by unfold sw;rw[if_neg e,if_pos e2]⟩
   ·exact⟨t,h1,h2,by unfold sw;rw[if_neg e,if_neg e2]⟩
 ·by_cases e:t=j
  ·by_cases e2:i=j
   ·exact⟨t,h1,h2,by unfold sw;rw[if_pos e,e2,e]⟩
   ·exact⟨i,hi.1,hi.2,by unfold sw;rw[if_neg e2,if_pos rfl,e]⟩
  ·by_cases e2:t=i
   ·exact⟨j,hj.1,hj.2,by unfold sw;rw[if_pos rfl,e2]⟩
   ·exact⟨t,h1,h2,by unfold sw;rw[if_neg e,if_neg e2]⟩
theorem vR(f:Nat->Nat)(j:Nat):sw f (j+1) j j=f (j+1):=by unfold sw;rw[if_pos rfl]
theorem sY(f:Nat->Nat)(j:Nat):sw f (j+1) j (j+1)=f j:=by unfold sw;rw[if_neg (by omega),if_pos rfl]
theorem qP(f:Nat->Nat){i j t:Nat}(h1:t≠j)(h2:t≠i):sw f i j t=f t:=by unfold sw;rw[if_neg h1,if_neg h2]
theorem St.sw{F f:Nat->Nat}{N j:Nat}(h:St F f N)(hj:j+1<N)(al:F (f (j+1))<F (f j)):St F (sw f (j+1) j) N:=fun i k ad hk e=>by
 by_cases i1:i=j
 ·subst i1;by_cases k1:k=i+1
  ·subst k1;rw[vR,sY]at e;omega
  ·rw[vR,qP f (by omega) (by omega)]at e⊢;exact h (i+1) k (by omega) hk e
 ·by_cases i2:i=j+1
  ·subst i2;rw[sY,qP f (by omega) (by omega)]at e⊢;exact h j k (by omega) hk e
  ·rw[qP f i1 i2]at e⊢;by_cases k1:k=j
   ·subst k1;rw[vR]at e⊢;exact h i (k+1) (by omega) hj e
   ·by_cases k2:k=j+1
    ·subst k2;rw[sY]at e⊢;exact h i j (by omega) (by omega) e
    ·rw[qP f k1 k2]at e⊢;exact h i k ad hk e
structure qd (F f:Nat->Nat) (a i j:Nat):Prop where
 ord:∀s t,a<=s->s<t->t<=i->s≠j->t≠j->Ah F (f s) (f t)
 up:∀t,j<t->t<=i->Ah F (f j) (f t)
theorem qd.start{F f:Nat->Nat}{a i:Nat}(h:Rs F f a i):qd F f a i i:=
 ⟨fun s t h1 h2 h3 _ h5=>h s t h1 h2 (by omega),fun t h1 h2=>by omega⟩
theorem qd.step{F f:Nat->Nat}{a i j:Nat}(h:qd F f a i (j+1))(hj:a<=j)(al:j+1<=i)(ad:F (f (j+1))<F (f j)):qd F (Go.Proofs.YtokpcpjnihinfaaGreat.sw f (j+1) j) a i j:=by
 refine⟨fun s t h1 h2 h3 h4 h5=>?_,fun t h1 h2=>?_⟩
 ·by_cases s1:s=j+1
  ·subst s1;rw[sY,qP f (by omega) (by omega)];exact h.ord j t hj (by omega) h3 (by omega) (by omega)
  ·rw[qP f h4 s1];by_cases t1:t=j+1
   ·subst t1;rw[sY];exact h.ord s j h1 (by omega) (by omega) (by omega) (by omega)
   ·rw[qP f h5 t1];exact h.ord s t h1 h2 h3 s1 t1
 ·rw[vR];by_cases t1:t=j+1
  ·subst t1;rw[sY];exact .inl ad
  ·rw[qP f (by omega) t1];exact h.up t (by omega) h2
theorem qd.stop{F f:Nat->Nat}{a i j N:Nat}(h:qd F f a i j)(hs:St F f N)(hj:a<=j)(ad:j<=i)(hi:i<N)(hc:j<=a\/¬F (f j)<F (f (j-1))):Rs F f a (i+1):=fun s t h1 h2 h3=>by
 by_cases s1:s=j
 ·subst s1;exact h.up t h2 (by omega)
 ·by_cases t1:t=j
  ·subst t1;have hn:¬F (f t)<F (f (t-1)):=by
    rcases hc with g|g
    ·omega
    ·exact g
   have hl:Ah F (f (t-1)) (f t):=yQ hs (by omega) (by omega) (by omega);by_cases s2:s=t-1
   ·rw[s2];exact hl
   ·exact(h.ord s (t-1) h1 (by omega) (by omega) s1 (by omega)).tr hl
  ·exact h.ord s t h1 h2 (by omega) s1 t1
def src(s m e t:Nat):Nat:=if s<=t/\t<e then(if t<s+(e-m)then t+(m-s)else t-(e-m))else t
def ik(f:Nat->Nat)(s m e t:Nat):Nat:=f (src s m e t)
def mr(f:Nat->Nat)(a b n t:Nat):Nat:=if a<=t/\t<a+n then f (t-a+b)else if b<=t/\t<b+n then f (t-b+a)else f t
theorem Mg(f:Nat->Nat)(a b:Nat):mr f a b 0=f:=by
 funext t;unfold mr;rw[if_neg (by omega),if_neg (by omega)]
theorem Mh(f:Nat->Nat){a b n i:Nat}(h:a+n<=b)(hi:i<n):sw (mr f a b i) (a+i) (b+i)=mr f a b (i+1):=by
 funext t;unfold sw mr;repeat' split
 all_goals first|rfl|(exfalso;omega)|(congr 1;omega)
theorem Mi(f:Nat->Nat){m i j:Nat}(h:j<i)(hi:i<=m)(hj:0<j):ik (mr f (m-i) m j) (m-(i-j)) m (m+j)=ik f (m-i) m (m+j):=by
 funext t;unfold ik mr src;repeat' split
 all_goals first|rfl|(exfalso;omega)|(congr 1;omega)
theorem Mj(f:Nat->Nat){m i j:Nat}(h:i<j)(hi:i<=m)(h0:0<i):ik (mr f (m-i) (m+j-i) i) (m-i) m (m+(j-i))=ik f (m-i) m (m+j):=by
 funext t;unfold ik mr src;repeat' split
 all_goals first|rfl|(exfalso;omega)|(congr 1;omega)
theorem Mk(f:Nat->Nat){m i:Nat}(hi:i<=m):mr f (m-i) m i=ik f (m-i) m (m+i):=by
 funext t;unfold ik mr src;repeat' split
 all_goals first|rfl|(exfalso;omega)|(congr 1;omega)
theorem yR(f:Nat->Nat){s m e:Nat}(h1:s<=m)(h2:m<=e)(h:s=m\/m=e):ik f s m e=f:=by
 funext t;unfold ik src;repeat' split
 all_goals first|rfl|(exfalso;omega)|(congr 1;omega)
theorem yT(f:Nat->Nat){s m e:Nat}(h1:s<=m)(h2:m<=e):Py f (ik f s m e) s e:=by
 refine⟨fun t ht=>?_,fun t g1 g2=>?_,fun t g1 g2=>?_⟩
 ·unfold ik src;rw[if_neg ht]
 ·refine⟨src s m e t,?_,?_,rfl⟩
  ·unfold src;rw[if_pos ⟨g1,g2⟩];split<;>omega
  ·unfold src;rw[if_pos ⟨g1,g2⟩];split<;>omega
 ·by_cases g:t<m
  ·refine⟨t+(e-m),by omega,by omega,?_⟩;unfold ik src;rw[if_pos (by omega),if_neg (by omega)];congr 1;omega
  ·refine⟨t-(m-s),by omega,by omega,?_⟩;unfold ik src;rw[if_pos (by omega),if_pos (by omega)];congr 1;omega
theorem Rs.le{F f:Nat->Nat}{a b i j:Nat}(h:Rs F f a b)(h1:a<=i)(h2:i<=j)(h3:j<b):F (f i)<=F (f j):=by
 by_cases e:i=j
 ·rw[e];exact Nat.le_refl _
 ·have:=h i j h1 (by omega) h3;unfold Ah at this;omega
theorem vS{s m e t:Nat}(h1:s<=t)(h2:t<s+(e-m))(h3:s<=m)(h4:m<=e):src s m e t=t+(m-s):=by
 unfold src;rw[if_pos (by omega),if_pos h2]
theorem tU{s m e t:Nat}(h1:s+(e-m)<=t)(h2:t<e)(_:s<=m)(_:m<=e):src s m e t=t-(e-m):=by
 unfold src;rw[if_pos (by omega),if_neg (by omega)]
theorem qe{s m e t:Nat}(h1:t<s\/e<=t):src s m e t=t:=by
 unfold src;rw[if_neg (by omega)]
def Lo(F g:Nat->Nat)(a m b:Nat):Prop:=∀i j,a<=i->i<m->m<=j->j<b->Ah F (g i) (g j)
section
variable {F f:Nat->Nat} {a s m e b N:Nat}
theorem Ef(r1:Rs F f a m)(r2:Rs F f m b)(has:a<=s)(ad:e<=b)(hx:s<m->m<e->F (f (e-1))<F (f s)){i j:Nat}(h1:m<=i)(h2:i<e)(h3:s<=j)(h4:j<m):F (f i)<F (f j):=by
 have g1:=r2.le (i:=i) (j:=e-1) h1 (by omega) (by omega);have g2:=r1.le (i:=s) (j:=j) has h3 h4;have:=hx (by omega) (by omega);omega
theorem yU(hs:St F f N)(hb:b<=N)(r1:Rs F f a m)(r2:Rs F f m b)(has:a<=s)(al:s<=m)(av:m<=e)(ad:e<=b)(hx:s<m->m<e->F (f (e-1))<F (f s)):St F (ik f s m e) N:=fun i k aS hk eq=>by
 have key:src s m e i<src s m e k/\src s m e k<N\/(m<=src s m e i/\src s m e i<e/\s<=src s m e k/\src s m e k<m):=by
  unfold src;split
  ·split
   ·split
    ·split<;>omega
    ·omega
   ·split
    ·split<;>omega
    ·omega
  ·split
   ·split<;>omega
   ·omega
 rcases key with⟨h1,h2⟩|⟨h1,h2,h3,h4⟩
 ·exact hs _ _ h1 h2 eq
 ·have:=Ef r1 r2 has ad hx h1 h2 h3 h4;unfold ik at eq;omega
theorem Eg(r1:Rs F f a m)(ad:s<=m):Rs F (ik f s m e) a s:=fun i j h1 h2 h3=>by
 unfold ik;rw[qe (by omega),qe (by omega)];exact r1 i j h1 h2 (by omega)
theorem yW(r2:Rs F f m b)(ad:s<=m)(al:m<=e)(av:e<=b):Rs F (ik f s m e) s (s+(e-m)):=fun i j h1 h2 h3=>by
 unfold ik;rw[vS h1 (by omega) ad al,vS (by omega) h3 ad al];exact r2 _ _ (by omega) (by omega) (by omega)
theorem yY(r1:Rs F f a m)(has:a<=s)(ad:s<=m)(al:m<=e):Rs F (ik f s m e) (s+(e-m)) e:=fun i j h1 h2 h3=>by
 unfold ik;rw[tU h1 (by omega) ad al,tU (by omega) h3 ad al];exact r1 _ _ (by omega) (by omega) (by omega)
theorem Eh(r2:Rs F f m b)(ad:m<=e):Rs F (ik f s m e) e b:=fun i j h1 h2 h3=>by
 unfold ik;rw[qe (by omega),qe (by omega)];exact r2 i j (by omega) h2 h3
theorem yZ(hs:St F f N)(hb:b<=N)(r1:Rs F f a m)(r2:Rs F f m b)(has:a<=s)(al:s<=m)(ad:m<=e)(av:e<=b)(hx:s<m->m<e->F (f (e-1))<F (f s))(hy:a<s->e<b->F (f (s-1))<=F (f e)):
  Lo F (ik f s m e) a (s+(e-m)) b:=fun i j h1 h2 h3 h4=>by
 unfold ik
 by_cases g1:i<s
 ·rw[qe (.inl g1)];by_cases g2:j<e
  ·rw[tU h3 g2 al ad];exact r1 _ _ h1 (by omega) (by omega)
  ·rw[qe (.inr (by omega))];have q1:=r1.le (i:=i) (j:=s-1) h1 (by omega) (by omega);have q2:=r2.le (i:=e) (j:=j) ad (by omega) h4;have:=hy (by omega) (by omega);exact yQ hs (by omega) (by omega) (by omega)
 ·rw[vS (by omega) h2 al ad];by_cases g2:j<e
  ·rw[tU h3 g2 al ad];exact .inl (Ef r1 r2 has av hx (by omega) (by omega) (by omega) (by omega))
  ·rw[qe (.inr (by omega))];exact r2 _ _ (by omega) (by omega) h4
end
theorem vT{F g g1 g2:Nat->Nat}{a m b:Nat}(p:Py g g1 a m)(r1:Rs F g1 a m)(q:Py g1 g2 m b)(r2:Rs F g2 m b)(hl:Lo F g a m b):Rs F g2 a b:=fun i j h1 h2 h3=>by
 by_cases ad:j<m
 ·rw[q.1 i (by omega),q.1 j (by omega)];exact r1 i j h1 h2 ad
 ·by_cases al:m<=i
  ·exact r2 i j al h2 h3
  ·obtain⟨s,s1,s2,e1⟩:=p.2.1 i h1 (by omega);obtain⟨u,u1,u2,e2⟩:=q.2.1 j (by omega) h3;rw[q.1 i (by omega),e1,e2,p.1 u (by omega)];exact hl s u s1 s2 u1 u2
theorem Ml{F f:Nat->Nat}{a i b N:Nat}(hs:St F f N)(hb:b<=N)(r2:Rs F f (a+1) b)(ad:a+1<=i)(al:i<=b)(hl:i=a+1\/F (f (i-1))<F (f a))(hr:i=b\/¬F (f i)<F (f a)):
  Rs F (ik f a (a+1) i) a b/\Py f (ik f a (a+1) i) a b:=by
 have r1:Rs F f a (a+1):=Rs.one fZ
 have hx:a<a+1->a+1<i->F (f (i-1))<F (f a):=fun _ h=>by rcases hl with g|g<;>omega
 have av:=yU (s:=a) (e:=i) hs hb r1 r2 fZ (by omega) ad al hx
 have q2:=yW (s:=a) (e:=i) r2 (by omega) ad al
 have q3:=yY (s:=a) (e:=i) r1 fZ (by omega) ad
 have q4:=Eh (s:=a) (e:=i) r2 ad
 have aS:a+(i-(a+1))+1=i:=by omega
 have q5:Rs F (ik f a (a+1) i) (a+(i-(a+1))) b:=Ee (m:=i) av hb q3 q4 (fun _ aT=>by
  unfold ik;rw[tU (by omega) (by omega) (by omega) ad,qe (.inr fZ),show i-1-(i-(a+1))=a by omega];rcases hr with g|g<;>omega)
 refine⟨vT (Py.refl _ _ _) q2 (Py.refl _ _ _) q5 ?_,(yT f (by omega) ad).wide fZ al⟩
 exact yZ hs hb r1 r2 fZ (by omega) ad al hx (fun h=>by omega)
theorem Mm{F f:Nat->Nat}{a i m N:Nat}(hs:St F f N)(hb:m+1<=N)(r1:Rs F f a m)(al:a<=i)(ad:i<=m)(hl:i=a\/¬F (f m)<F (f (i-1)))(hr:i=m\/F (f m)<F (f i)):
  Rs F (ik f i m (m+1)) a (m+1)/\Py f (ik f i m (m+1)) a (m+1):=by
 have r2:Rs F f m (m+1):=Rs.one fZ
 have hx:i<m->m<m+1->F (f (m+1-1))<F (f i):=fun h _=>by rw[Nat.add_sub_cancel];rcases hr with g|g<;>omega
 have av:=yU (s:=i) (e:=m+1) hs hb r1 r2 al ad (by omega) fZ hx
 have q1:=Eg (s:=i) (e:=m+1) r1 ad
 have q2:=yW (s:=i) (e:=m+1) r2 ad (by omega) fZ
 have q3:=yY (s:=i) (e:=m+1) r1 al ad (by omega)
 have q5:Rs F (ik f i m (m+1)) a (i+(m+1-m)):=Ee (m:=i) av (by omega) q1 q2 (fun aS _=>by
  unfold ik;rw[qe (.inl (by omega)),vS fZ (by omega) ad (by omega),show i+(m-i)=m by omega];rcases hl with g|g<;>omega)
 refine⟨vT (Py.refl _ _ _) q5 (Py.refl _ _ _) q3 ?_,(yT f ad (by omega)).wide al fZ⟩
 exact yZ hs hb r1 r2 al ad (by omega) fZ hx (fun _ h=>by omega)
def Ch(F f:Nat->Nat)(S N:Nat):Prop:=∀k,Rs F f (k*S) (min (k*S+S) N)
theorem y8{k l S:Nat}(h:k<l):k*S+S<=l*S:=by
 rw[<-Nat.succ_mul];exact Nat.mul_le_mul_right _ h
theorem Ch.whole{F f:Nat->Nat}{S N:Nat}(h:Ch F f S N)(hS:N<=S):Rs F f 0 N:=by
 have:=h 0;rw[Nat.zero_mul,show min (0+S) N=N by omega]at this;exact this
theorem y9{F f:Nat->Nat}{S A N k:Nat}(hA:A=k*S)(h1:∀l,l<k->Rs F f (l*S) (l*S+S))(h2:Rs F f A N)(hN:N<A+S):Ch F f S N:=fun l=>by
 rcases Nat.lt_trichotomy l k with h|h|h
 ·exact(h1 l h).part fZ (Nat.min_le_left _ _)
 ·subst h;rw[<-hA];exact h2.part fZ (Nat.min_le_right _ _)
 ·have:=y8 (S:=S) h;exact Rs.one (by omega)
theorem Ei{F:Nat->Nat}{x:Nat}{l:List Nat}(h:oN F (x::l)):x∉l:=fun hx=>by
 have:=oe.1 (h.1 x hx);omega
theorem Ej{F:Nat->Nat}:∀(l l':List Nat),oN F l->oN F l'->(∀x,x∈l↔x∈l')->l=l'
 |[],[],_,_,_=>rfl
 |[],y::l',_,_,h=>absurd ((h y).2 (by simp)) (by simp)
 |x::l,[],_,_,h=>absurd ((h x).1 (by simp)) (by simp)
 |x::l,y::l',h1,h2,h=>by
  have e:x=y:=by
   rcases List.mem_cons.1 ((h x).1 (by simp))with g|g
   ·exact g
   ·rcases List.mem_cons.1 ((h y).2 (by simp))with k|k
    ·exact k.symm
    ·have a1:=oe.1 (h2.1 x g);have a2:=oe.1 (h1.1 y k);omega
  subst e;rw[Ej l l' h1.2 h2.2 (fun z=>?_)];constructor
  ·intro hz;rcases List.mem_cons.1 ((h z).1 (by simp[hz]))with g|g
   ·subst g;exact absurd hz (Ei h1)
   ·exact g
  ·intro hz;rcases List.mem_cons.1 ((h z).2 (by simp[hz]))with g|g
   ·subst g;exact absurd hz (Ei h2)
   ·exact g
theorem Ek{F f:Nat->Nat}:∀(n a:Nat),Rs F f a (a+n)->oN F ((List.range' a n).map f)
 |0,_,_=>trivial
 |n+1,a,h=>by
  refine⟨fun x hx=>?_,Ek n (a+1) (h.part (by omega) (by omega))⟩;simp only[List.mem_map,List.mem_range'_1]at hx;obtain⟨t,ht,rfl⟩:=hx;have:=h a t fZ (by omega) (by omega);exact oe.2 this
theorem Mn{F f:Nat->Nat}{n M:Nat}(h:Rs F f 0 n)(hm:∀x,(x<M/\0<F x)↔∃t,t<n/\f t=x):(List.range n).map f=Pt F M:=by
 rw[List.range_eq_range'];refine Ej _ _ (Ek n 0 (by simpa using h)) (qW F M) fun x=>?_
 rw[qV,hm x];simp only[List.mem_map,List.mem_range'_1];constructor
 ·rintro⟨t,ht,rfl⟩;exact⟨t,by omega,rfl⟩
 ·rintro⟨t,ht,rfl⟩;exact⟨t,⟨by omega,by omega⟩,rfl⟩
def gW(w:aq)(g n:Nat)(f:Nat->Nat):Prop:=∃cur:Array ax,w.heap[g]?=some (ak cur 3 (0,0))/\∀j,j<n->cur[j]?=some (ae aj (f j:Int))
theorem gW.lt{w:aq}{g n:Nat}{f:Nat->Nat}(h:gW w g n f):g<w.heap.size:=by
 obtain⟨cur,h1,_⟩:=h;exact(Array.getElem?_eq_some_iff.1 h1).1
theorem gW.cell{w:aq}{g n:Nat}{f:Nat->Nat}(h:gW w g n f){j:Nat}(hj:j<n):w.cell? ⟨g,j,none⟩=some (ae aj (f j:Int)):=by
 obtain⟨cur,h1,h2⟩:=h;rw[aH w g j _ _ (0,0) h1];exact h2 j hj
theorem gW.frozen{w:aq}{g n:Nat}{f:Nat->Nat}(h:gW w g n f)(j:Nat):w.frozen? ⟨g,j,none⟩=false:=by
 obtain⟨cur,h1,_⟩:=h;exact aO w g j _ _ h1
theorem gW.set{w:aq}{g n:Nat}{f:Nat->Nat}(h:gW w g n f)(i x:Nat):gW (w.setCell ⟨g,i,none⟩ (ae aj (x:Int))) g n (gL f i x):=by
 obtain⟨cur,h1,h2⟩:=h;refine⟨cur.setIfInBounds i (ae aj (x:Int)),aN w g i cur _ _ h1,fun j hj=>?_⟩;rw[Array.getElem?_setIfInBounds,gL];have hs:j<cur.size:=by
  rcases Nat.lt_or_ge j cur.size with h|h
  ·exact h
  ·have:=h2 j hj;rw[Array.getElem?_eq_none h]at this;cases this
 by_cases e:i=j
 ·subst e;simp[hs]
 ·have e':¬j=i:=fun h=>e h.symm
  simp[e,e',h2 j hj]
theorem gW.drew{w:aq}{g n:Nat}{f:Nat->Nat}(h:gW w g n f):gW w.drew g n f:=h
theorem gW.drewN{w:aq}{g n:Nat}{f:Nat->Nat}(h:gW w g n f)(q:Nat):gW (w.drewN q) g n f:=h
theorem gW.ext{w:aq}{g n:Nat}{f f':Nat->Nat}(h:gW w g n f)(e:∀j,j<n->f j=f' j):gW w g n f':=by
 obtain⟨cur,h1,h2⟩:=h;exact⟨cur,h1,fun j hj=>by rw[h2 j hj,e j hj]⟩
theorem gW.swap{w:aq}{g n:Nat}{f:Nat->Nat}(h:gW w g n f)(i j:Nat):gW ((w.setCell ⟨g,i,none⟩ (ae aj (f j:Int))).setCell ⟨g,j,none⟩ (ae aj (f i:Int))) g n (sw f i j):=by
 refine((h.set i (f j)).set j (f i)).ext fun t _=>?_
 unfold gL sw;rfl
theorem gW.two{w:aq}{g n:Nat}{f:Nat->Nat}(h:gW w g n f)(i j:Nat)(hj:j<n)(x:Nat):(w.setCell ⟨g,i,none⟩ (ae aj (x:Int))).cell? ⟨g,j,none⟩=some (ae aj (gL f i x j:Int)):=(h.set i x).cell hj
def oI(x y:Int):Int:=if x<y then-1 else if y<x then 1 else 0
theorem Mp{x y:Int}:oI x y<0↔x<y:=by unfold oI;split<;>(try split)<;>omega
theorem vU(w:aq)(x:Int):aw prog 181 #[ae aj x] w fun e w'=>e=ao (ai false)/\w'=w:=by
 go_enter func181,ntmps181
 go_wp2;go_ret;exact⟨by simp,rfl⟩
theorem Mq(w:aq)(x y:Int):aw prog 170 #[ae aj x,ae aj y] w fun e w'=>e=ao (ae aj (oI x y))/\w'=w:=by
 obtain⟨r,hr⟩:=fY (oI x y);rw[<-hr];have hn:=vU;unfold oI at hr;go_enter func170,ntmps170
 by_cases h1:x<y
 ·rw[if_pos h1]at hr;subst hr;go_wp2_with (go_at_call 181;refine(vU _ _).mono ?_;rintro e w1 ⟨rfl,rfl⟩)
  go_ret;exact⟨rfl,rfl⟩
 ·rw[if_neg h1]at hr;by_cases h2:y<x
  ·rw[if_pos h2]at hr;subst hr;go_wp2_with (go_at_call 181;refine(vU _ _).mono ?_;rintro e w1 ⟨rfl,rfl⟩)
   go_ret;exact⟨rfl,rfl⟩
  ·rw[if_neg h2]at hr;subst hr;go_wp2_with (go_at_call 181;refine(vU _ _).mono ?_;rintro e w1 ⟨rfl,rfl⟩)
   go_ret;exact⟨rfl,rfl⟩
def mv(w:aq)(B b:Nat)(l:List Int):Prop:=B<b/\(∃A c,w.cell? ⟨B,0,none⟩=some (af A l.length c)/\jq w b A l)
theorem mv.below{w w':aq}{B b:Nat}{l:List Int}(h:mv w B b l)(hb:aR b w w'):mv w' B b l:=by
 obtain⟨h1,A,c,h2,h3⟩:=h;exact⟨h1,A,c,by rw[hb.cell (p:=⟨B,0,none⟩) h1];exact h2,h3.below hb fZ⟩
theorem Mr(w:aq)(B b:Nat)(l:List Int)(h:mv w B b l)(_hl:l.length<=400)(x y:Nat)(hx:x<l.length)(hy:y<l.length):
  aw prog 169 #[ae aj (x:Int),ae aj (y:Int),ag (some ⟨B,0,none⟩)] w fun e w'=>e=ao (ae aj (oI (l.getD x 0) (l.getD y 0)))/\∃q,w'=w.drewN q:=by
 obtain⟨h1,A,c,h2,h3⟩:=h
 obtain⟨ba,o,rfl,ad,hc⟩:=h3.at hx
 have c1:=hc x hx
 have c2:=hc y hy
 obtain⟨u,hu⟩:=fY (l.getD x 0)
 obtain⟨v,hv⟩:=fY (l.getD y 0)
 rw[<-hu]at c1⊢
 rw[<-hv]at c2⊢
 have hk:=Mq
 obtain⟨N,hN⟩:=fY (l.length)
 rw[<-hN]at h2 _hl hx hy
 have HK:=fX hk
 clear hk hc hN hu hv h3
 go_enter func169,ntmps169
 go_wp2_with fail
 go_quiet ((go_at_call 170;exact Calls.quiet_of_same (HK.out _ _ _)))
 go_wp2_with fail
 go_ret
 exact⟨rfl,nq,rfl⟩
theorem zc(w:aq)(g N c:Nat)(f:Nat->Nat)(hr:gW w g N f)(a b n:Nat)(aV:a+n<=b)(hb:b+n<=N)(hN:N<=400)(fv:ax):
  aw prog 190 #[af (some ⟨g,0,none⟩) N c,ae aj (a:Int),ae aj (b:Int),ae aj (n:Int),fv] w fun e w'=>e=ao (.tuple #[])/\aR g w w'/\gW w' g N (mr f a b n):=by
 have HR:=fX hr
 clear hr
 go_enter func190,ntmps190
 go_wp2
 go_loopw [10] (fun i wr=>∃k:Nat,k<=n/\i=ae aj (k:Int)/\aR g w wr/\gW wr g N (mr f a b k)) (fun i _=>n-(aP i).toNat)
 case atStart=>exact⟨0,Nat.zero_le _,rfl,Below.refl _ _,by rw[Mg];exact HR.out⟩
 case round=>
  obtain⟨k,hk,rfl,av,ad⟩:=hrel;by_cases aW:k<n
  ·have aT:(k:Int)<(n:Int):=by omega
   have HB:=fX av;have al:=fX ad
   obtain⟨p,hp⟩:=fY (a+k);obtain⟨q,hq⟩:=fY (b+k);have aX:p<N:=by omega
   have aU:q<N:=by omega
   have c1:=ad.cell aX;have c2:=ad.cell aU;have f1:=ad.frozen p;have f2:=ad.frozen q;have c3:=ad.two p q aU (mr f a b k q);have e1:(a:Int)+(k:Int)=(p:Int):=by omega
   have e2:(b:Int)+(k:Int)=(q:Int):=by omega
   have aS:=al.out.swap p q;obtain⟨x,hx⟩:=fY (mr f a b k p);obtain⟨y,hy⟩:=fY (mr f a b k q);obtain⟨z,hz⟩:=fY (gL (mr f a b k) p y q);rw[<-hx,<-hy]at aS;rw[<-hy,<-hz]at c3;rw[<-hx]at c1;rw[<-hy]at c2;have aY:=fX aS;have HP:=fX hp;have HQ:=fX hq
   clear aS av ad hx hy hz hp hq;go_wp2_with fail
   go_region;go_wp2;go_roundw
   case rel=>
    refine⟨k+1,by omega,by go_num,((HB.out.setCell (p:=⟨g,p,none⟩) fZ _).setCell (p:=⟨g,q,none⟩) fZ _).drew,?_⟩;have h:=aY.out.drew;rw[HP.out,HQ.out,Mh f aV aW]at h;rw[HP.out,HQ.out];exact h
   case measure=>simp[aP];omega
  ·obtain rfl:k=n:=by omega
   have aT:¬(k:Int)<(k:Int):=by omega
   have HB:=fX av;have al:=fX ad
   clear av ad;go_wp2;go_end0;exact⟨rfl,HB.out,al.out⟩
theorem Ms(w:aq)(g N c:Nat)(f:Nat->Nat)(hr:gW w g N f)(a m b:Nat)(ham:a<m)(a4:m<b)(hb:b<=N)(hN:N<=400)(fv:ax):
  aw prog 189 #[af (some ⟨g,0,none⟩) N c,ae aj (a:Int),ae aj (m:Int),ae aj (b:Int),fv] w fun e w'=>e=ao (.tuple #[])/\aR g w w'/\gW w' g N (ik f a m b):=by
 have HR:=fX hr
 clear hr
 go_enter func189,ntmps189
 go_wp2
 go_loopw [10,11] (fun vi vj wr=>∃(i j:Nat) (h:Nat->Nat),0<i/\0<j/\i<=m/\m+j<=N/\vi=ae aj (i:Int)/\vj=ae aj (j:Int)/\aR g w wr/\gW wr g N h/\aQ (ik h (m-i) m (m+j)=ik f a m b)) (fun vi vj _=>(aP vi).toNat+(aP vj).toNat)
 case atStart=>exact⟨m-a,b-m,f,by omega,by omega,by omega,by omega,kJ (by omega),kJ (by omega),Below.refl _ _,HR.out,fX (by rw[show m-(m-a)=a by omega,show m+(b-m)=b by omega])⟩
 case round=>
  obtain⟨i,j,h,aX,aY,aV,a2,rfl,rfl,aZ,aW,HE⟩:=hrel;have HB:=fX aZ;have av:=fX aW
  obtain⟨p,hp⟩:=fY (m-i);have e1:(m:Int)-(i:Int)=(p:Int):=by omega
  clear aZ aW;rcases Nat.lt_trichotomy i j with aS|aS|aS
  ·have a1:((i:Int)==(j:Int))=false:=by simp;omega
   have a3:¬(j:Int)<(i:Int):=by omega
   obtain⟨q,hq⟩:=fY (m+j-i);have e2:(m:Int)+(j:Int)-(i:Int)=(q:Int):=by omega
   have HP:=fX hp;have HQ:=fX hq
   clear hp hq;go_wp2_with (go_at_call 190;refine(zc _ g N c h av.out p q i (by have:=HP.out;have:=HQ.out;omega) (by have:=HQ.out;omega) hN fv).mono ?_;rintro e w1 ⟨rfl,al,ad⟩;have aT:=fX al;have aU:=fX ad;clear al ad)
   go_roundw
   case rel=>
    refine⟨i,j-i,_,aX,by omega,aV,by omega,rfl,kJ (by omega),HB.out.trans aT.out,aU.out,fX ?_⟩;rw[HP.out,HQ.out,Mj h aS aV aX];exact HE.out
   case measure=>simp[aP];omega
  ·subst aS;have a1:((i:Int)==(i:Int))=true:=by simp
   have HP:=fX hp;clear hp;go_wp2_with (go_at_call 190;refine(zc _ g N c h av.out p m i (by have:=HP.out;omega) (by omega) hN fv).mono ?_;rintro e w1 ⟨rfl,al,ad⟩;have aT:=fX al;have aU:=fX ad;clear al ad)
   go_end0;refine⟨rfl,HB.out.trans aT.out,?_⟩;have ad:=aU.out;rw[HP.out,Mk h aV,HE.out]at ad;exact ad
  ·have a1:((i:Int)==(j:Int))=false:=by simp;omega
   have a3:(j:Int)<(i:Int):=by omega
   have HP:=fX hp;clear hp;go_wp2_with (go_at_call 190;refine(zc _ g N c h av.out p m j (by have:=HP.out;omega) (by omega) hN fv).mono ?_;rintro e w1 ⟨rfl,al,ad⟩;have aT:=fX al;have aU:=fX ad;clear al ad)
   go_roundw
   case rel=>
    refine⟨i-j,j,_,by omega,aY,by omega,a2,kJ (by omega),rfl,HB.out.trans aT.out,aU.out,fX ?_⟩;rw[HP.out,Mi h aS aV aY];exact HE.out
   case measure=>simp[aP];omega
structure oU (l:List Int):Prop where
 len:l.length<=400
 pos:∀j,j<l.length->0<=l.getD j 0
theorem oU.cmp{l:List Int}(h:oU l){x y:Nat}(hx:x<l.length)(hy:y<l.length):oI (l.getD x 0) (l.getD y 0)<0↔gB l x<gB l y:=by
 rw[Mp];have h1:=h.pos x hx;have h2:=h.pos y hy;unfold gB;omega
theorem mv.drewN{w:aq}{B b:Nat}{l:List Int}(h:mv w B b l)(q:Nat):mv (w.drewN q) B b l:=h
theorem oV(g:Nat)(w:aq)(q:Nat):aR g w (w.drewN q):=by
 induction q with
 |zero=>exact Below.refl g w
 |succ q ih=>exact ih.drew
theorem vV(w:aq)(B b:Nat)(l:List Int)(h:mv w B b l)(hl:l.length<=400)(x y:Nat)(hx:x<l.length)(hy:y<l.length)(q:Nat):
  aw prog 169 #[ae aj (x:Int),ae aj (y:Int),ag (some ⟨B,0,none⟩)] (w.drewN q) fun e w'=>e=ao (ae aj (oI (l.getD x 0) (l.getD y 0)))/\∃m,w'=(w.drewN q).drewN m:=
 Mr _ B b l (h.drewN q) hl x y hx hy
theorem El(w:aq)(g N c:Nat)(f:Nat->Nat)(hr:gW w g N f)(B:Nat)(l:List Int)(hC:mv w B g l)(hF:oU l)(hM:∀t,t<N->f t<l.length)(hS:St (gB l) f N)(a b:Nat)(bk:a<=b)(hb:b<=N)(hN:N<=400):
  aw prog 186 #[af (some ⟨g,0,none⟩) N c,ae aj (a:Int),ae aj (b:Int),.func (.func 169) #[] #[ag (some ⟨B,0,none⟩)]] w fun e w'=>e=ao (.tuple #[])/\aR g w w'/\∃f',gW w' g N f'/\Py f f' a b/\Rs (gB l) f' a b:=by
 have HR:=fX hr;have HC:=fX hC;have HM:=fX hM;have HS:=fX hS;have HF:=fX hF
 clear hr hC hM hS hF
 go_enter func186,ntmps186
 go_wp2
 go_loopw [8] (fun vi wr=>∃(i:Nat) (h:Nat->Nat),a+1<=i/\(i<=b\/i=a+1)/\vi=ae aj (i:Int)/\aR g w wr/\gW wr g N h/\aQ (Py f h a b/\St (gB l) h N/\Rs (gB l) h a (min i b))) (fun vi _=>N+1-(aP vi).toNat)
 case atStart=>exact⟨a+1,f,by omega,by omega,kJ (by omega),Below.refl _ _,HR.out,fX ⟨Py.refl _ _ _,HS.out,Rs.one (by omega)⟩⟩
 case round=>
  obtain⟨i,h,bl,bm,rfl,al,ad,HI⟩:=hrel;by_cases aX:i<b
  ·have a4:(i:Int)<(b:Int):=by omega
   have HB:=fX al;have av:=fX ad
   clear al ad;go_wp2;go_loopw [9] (fun vj wq=>∃(j:Nat) (k:Nat->Nat),a<=j/\j<=i/\vj=ae aj (j:Int)/\aR g w wq/\gW wq g N k/\aQ (Py f k a b/\St (gB l) k N/\qd (gB l) k a i j)) (fun vj _=>(aP vj).toNat)
   case atStart=>exact⟨i,h,by omega,Nat.le_refl _,rfl,HB.out,av.out,fX ⟨HI.out.1,HI.out.2.1,qd.start (by have:=HI.out.2.2;rwa[show min i b=i by omega]at this)⟩⟩
   case round=>
    obtain⟨j,k,a1,a5,rfl,al,ad,HK⟩:=hrel;by_cases bn:a<j
    ·have a6:decide ((a:Int)<(j:Int))=true:=by simp;omega
     have a2:(a:Int)<(j:Int):=by omega
     obtain⟨p,hp⟩:=fY (j-1);have e1:(j:Int)-1=(p:Int):=by omega
     have aW:p<N:=by omega
     have aY:j<N:=by omega
     have aV:=HK.out.1.lt hb HM.out;have aS:=fX (vV wr B g l (HC.out.below al) HF.out.len (k j) (k p) (aV j aY) (aV p aW));have aT:=HF.out.cmp (aV j aY) (aV p aW);have c1:=ad.cell aY;have c2:=ad.cell aW;have HB:=fX al;have av:=fX ad
     obtain⟨r,hr⟩:=fY (oI (l.getD (k j) 0) (l.getD (k p) 0));rw[<-hr]at aS aT;have aU:=ad.drew.swap j p;by_cases aZ:r<0
     ·have hd:decide (r<0)=true:=by simp;omega
      have a9:=fX (aT.1 aZ);have HP:=fX hp;clear al ad hr aT aV hp aU;obtain⟨x,hx⟩:=fY (k j);obtain⟨y,hy⟩:=fY (k p);rw[<-hx]at c1 aS;rw[<-hy]at c2 aS;have HX:=fX hx;have HY:=fX hy
      clear hx hy;go_wp2_with fail
      go_quiet ((go_at_call 169;exact Calls.quiet_of (aS.out _)))
      go_wp2_with fail
      obtain⟨wq,a7⟩:=fY (wr.drewN nq);have ad:=av.out.drewN nq;have al:aR g w (wr.drewN nq):=(HB.out.trans (Below.refl g wr)).trans (oV g wr nq);rw[<-a7]at ad al⊢;have c1:=ad.cell aY;have c2:=ad.cell aW;have f1:=ad.frozen j;have f2:=ad.frozen p;have aU:=ad.swap j p;have c3:=ad.two j p aW (k p);rw[<-HX.out]at c1 aU;rw[<-HY.out]at c2 c3 aU;obtain⟨z,hz⟩:=fY (gL k j y p);rw[<-hz]at c3;have bd:=fX al;have bf:=fX aU
      clear ad al aU hz a7 aS av HB;go_region;go_wp2;go_roundw
      case rel=>
       have bg:=HK.out.2.1;have a8:=HK.out.2.2;have a3:p+1=j:=by have:=HP.out;omega
       have aX:=a9.out;rw[<-a3]at a8 aX;refine⟨p,sw k j p,by omega,by omega,rfl,((bd.out.setCell (p:=⟨g,j,none⟩) fZ _).setCell (p:=⟨g,p,none⟩) fZ _).drew,bf.out.drew,fX ⟨HK.out.1.trans (Mf ⟨a1,by omega⟩ ⟨by omega,by omega⟩),?_,?_⟩⟩
       ·rw[<-a3];exact bg.sw (by omega) aX
       ·rw[<-a3];exact a8.step (by omega) (by omega) aX
      case measure=>simp[aP];omega
     ·have hd:decide (r<0)=false:=by simp;omega
      have bj:=fX (fun q=>aZ (aT.2 q));have HP:=fX hp;clear al ad hr aT aV hp aU;obtain⟨x,hx⟩:=fY (k j);obtain⟨y,hy⟩:=fY (k p);rw[<-hx]at c1 aS;rw[<-hy]at c2 aS;clear hx hy;go_wp2_with fail
      go_quiet ((go_at_call 169;exact Calls.quiet_of (aS.out _)))
      go_wp2_with fail
      go_roundw
      case rel=>
       refine⟨i+1,k,by omega,by omega,by go_num,HB.out.trans (oV g wr nq),av.out.drewN nq,fX ⟨HK.out.1,HK.out.2.1,?_⟩⟩;rw[show min (i+1) b=i+1 by omega];exact HK.out.2.2.stop HK.out.2.1 a1 a5 (by omega) (.inr (by have h:=bj.out;rw[HP.out]at h;exact h))
      case measure=>simp[aP];omega
    ·have a6:decide ((a:Int)<(j:Int))=false:=by simp;omega
     have a2:¬(a:Int)<(j:Int):=by omega
     have HB:=fX al;have av:=fX ad
     clear al ad;go_wp2_with fail
     go_quiet (fail)
     go_wp2_with fail
     go_roundw
     case rel=>
      refine⟨i+1,k,by omega,by omega,by go_num,HB.out.trans (oV g wr _),av.out.drewN _,fX ⟨HK.out.1,HK.out.2.1,?_⟩⟩;rw[show min (i+1) b=i+1 by omega];exact HK.out.2.2.stop HK.out.2.1 a1 a5 (by omega) (.inl (by omega))
     case measure=>simp[aP];omega
  ·have a4:¬(i:Int)<(b:Int):=by omega
   have HB:=fX al;have av:=fX ad
   clear al ad;go_wp2;go_end0;refine⟨rfl,HB.out,h,av.out,HI.out.1,?_⟩;have:=HI.out.2.2;by_cases e:i=b
   ·rwa[show min i b=b by omega]at this
   ·exact Rs.one (by omega)
def Em(l:List Int)(B g N c d:Nat):Prop:=∀(w:aq) (f:Nat->Nat) (a m b:Nat),b-a<=d->a<m->m<b->b<=N->gW w g N f->mv w B g l->(∀t,t<N->f t<l.length)->St (gB l) f N->Rs (gB l) f a m->Rs (gB l) f m b->
 aw prog 187 #[af (some ⟨g,0,none⟩) N c,ae aj (a:Int),ae aj (m:Int),ae aj (b:Int),.func (.func 169) #[] #[ag (some ⟨B,0,none⟩)]] w fun e w'=>e=ao (.tuple #[])/\aR g w w'/\∃f',gW w' g N f'/\Py f f' a b/\Rs (gB l) f' a b
theorem Mt(f:Nat->Nat){a k:Nat}(h:a<=k):sw (ik f a (a+1) (k+1)) k (k+1)=ik f a (a+1) (k+1+1):=by
 funext t;unfold sw ik src;repeat' split
 all_goals first|rfl|(exfalso;omega)|(congr 1;omega)
theorem Mu(f:Nat->Nat){k m:Nat}(h:k+1<=m):sw (ik f (k+1) m (m+1)) (k+1) k=ik f k m (m+1):=by
 funext t;unfold sw ik src;repeat' split
 all_goals first|rfl|(exfalso;omega)|(congr 1;omega)
theorem Mv(l:List Int)(B g N c:Nat)(hF:oU l)(hN:N<=400)(w:aq)(f:Nat->Nat)(a b:Nat)(bm:a+1<b)(hb:b<=N)(hr:gW w g N f)(hC:mv w B g l)(hM:∀t,t<N->f t<l.length)(hS:St (gB l) f N)(h2:Rs (gB l) f (a+1) b):
  aw prog 187 #[af (some ⟨g,0,none⟩) N c,ae aj (a:Int),ae aj ((a+1:Nat):Int),ae aj (b:Int),.func (.func 169) #[] #[ag (some ⟨B,0,none⟩)]] w fun e w'=>e=ao (.tuple #[])/\aR g w w'/\∃f',gW w' g N f'/\Py f f' a b/\Rs (gB l) f' a b:=by
 obtain⟨m,hm⟩:=fY (a+1)
 rw[<-hm]
 have bk:((m:Int)-(a:Int)==1)=true:=by simp;omega
 have HR:=fX hr;have HC:=fX hC;have HM:=fX hM;have HS:=fX hS;have HF:=fX hF;have H2:=fX h2;have a3:=fX hm
 have bn:m<b:=by omega
 have aX:a<N:=by omega
 clear hr hC hM hS hF h2
 clear hm
 go_enter func187,ntmps187
 go_wp2
 go_loopw [10,11] (fun vi vj wr=>∃(i j:Nat),m<=i/\i<=j/\j<=b/\vi=ae aj (i:Int)/\vj=ae aj (j:Int)/\aR g w wr/\gW wr g N f/\aQ ((i=m\/gB l (f (i-1))<gB l (f a))/\(j=b\/¬gB l (f j)<gB l (f a)))) (fun vi vj _=>(aP vj).toNat-(aP vi).toNat)
 case atStart=>exact⟨m,b,Nat.le_refl _,by omega,Nat.le_refl _,rfl,rfl,Below.refl _ _,HR.out,fX ⟨.inl rfl,.inl rfl⟩⟩
 case round=>
  obtain⟨i,j,a7,bp,a4,rfl,rfl,al,ad,HI⟩:=hrel;by_cases bq:i<j
  ·have a5:(i:Int)<(j:Int):=by omega
   obtain⟨h,hh⟩:=fY ((i+j)/2);have eh:((i:Int)+(j:Int))/2=(h:Int):=by omega
   have a8:i<=h:=by omega
   have br:h<j:=by omega
   have aY:h<N:=by omega
   have aT:=fX (vV wr B g l (HC.out.below al) HF.out.len (f h) (f a) (HM.out h aY) (HM.out a aX));have av:=HF.out.cmp (HM.out h aY) (HM.out a aX);have c1:=ad.cell aY;have c2:=ad.cell aX;have HB:=fX al;have aS:=fX ad
   obtain⟨r,hr⟩:=fY (oI (l.getD (f h) 0) (l.getD (f a) 0));rw[<-hr]at aT av;obtain⟨x,hx⟩:=fY (f h);obtain⟨y,hy⟩:=fY (f a);rw[<-hx]at c1 aT;rw[<-hy]at c2 aT;by_cases aV:r<0
   ·have hd:decide (r<0)=true:=by simp;omega
    have a9:=fX (av.1 aV);clear al ad hr av hh hx hy;go_wp2_with fail
    go_quiet ((go_at_call 169;exact Calls.quiet_of (aT.out _)))
    go_wp2_with fail
    go_roundw
    case rel=>exact⟨h+1,j,by omega,by omega,a4,by go_num,rfl,HB.out.trans (oV g wr nq),aS.out.drewN nq,fX ⟨.inr (by rw[Nat.add_sub_cancel];exact a9.out),HI.out.2⟩⟩
    case measure=>simp[aP];omega
   ·have hd:decide (r<0)=false:=by simp;omega
    have bd:=fX (fun q=>aV (av.2 q));clear al ad hr av hh hx hy;go_wp2_with fail
    go_quiet ((go_at_call 169;exact Calls.quiet_of (aT.out _)))
    go_wp2_with fail
    go_roundw
    case rel=>exact⟨i,h,a7,a8,by omega,rfl,rfl,HB.out.trans (oV g wr nq),aS.out.drewN nq,fX ⟨HI.out.1,.inr bd.out⟩⟩
    case measure=>simp[aP];omega
  ·obtain rfl:i=j:=by omega
   have a5:¬(i:Int)<(i:Int):=by omega
   have HB:=fX al;have aS:=fX ad
   clear al ad;go_wp2;go_loopw [13] (fun vk wq=>∃k:Nat,a<=k/\k+1<=i/\vk=ae aj (k:Int)/\aR g w wq/\gW wq g N (ik f a (a+1) (k+1))) (fun vk _=>i-(aP vk).toNat)
   case atStart=>exact⟨a,Nat.le_refl _,by have:=a3.out;omega,rfl,HB.out,by rw[yR f (by omega) fZ (.inr rfl)];exact aS.out⟩
   case round=>
    obtain⟨k,bf,bt,rfl,al,ad⟩:=hrel;by_cases bl:k+1<i
    ·have aZ:(k:Int)<(i:Int)-1:=by omega
     obtain⟨p,hp⟩:=fY (k+1);have e1:(k:Int)+1=(p:Int):=by omega
     have bg:k<N:=by omega
     have a6:p<N:=by omega
     have c1:=ad.cell bg;have c2:=ad.cell a6;have f1:=ad.frozen k;have f2:=ad.frozen p;have aU:=ad.swap k p;obtain⟨x,hx⟩:=fY (ik f a (a+1) (k+1) k);obtain⟨y,hy⟩:=fY (ik f a (a+1) (k+1) p);have c3:=ad.two k p a6 y;obtain⟨z,hz⟩:=fY (gL (ik f a (a+1) (k+1)) k y p);rw[<-hz]at c3;rw[<-hx]at c1 aU;rw[<-hy]at c2 aU;have a1:=fX al;have bj:=fX aU;have HP:=fX hp
     clear al ad aU hz hx hy hp;go_wp2_with fail
     go_region;go_wp2;go_roundw
     case rel=>
      have h:=bj.out.drew;rw[HP.out,Mt f bf]at h;exact⟨k+1,by omega,by omega,by have:=HP.out;go_num,by
       rw[HP.out];exact((a1.out.setCell (p:=⟨g,k,none⟩) fZ _).setCell (p:=⟨g,k+1,none⟩) fZ _).drew,by rw[HP.out];exact h⟩
     case measure=>have:=HP.out;simp[aP];omega
    ·have aZ:¬(k:Int)<(i:Int)-1:=by omega
     have a1:=fX al;have a2:=fX ad
     clear al ad;go_wp2;refine aK (results_none rfl _ _ _) rfl ?_;have hk:k+1=i:=by omega
     have hm:=a3.out;have aW:=Ml HS.out hb H2.out (i:=i) (by omega) a4 (by have h:=HI.out.1;rw[hm]at h;exact h) HI.out.2;exact⟨rfl,a1.out,_,by have h:=a2.out;rw[hk]at h;exact h,aW.2,aW.1⟩
theorem Mw(l:List Int)(B g N c:Nat)(hF:oU l)(hN:N<=400)(w:aq)(f:Nat->Nat)(a m:Nat)(ham:a+1<m)(hb:m+1<=N)(hr:gW w g N f)(hC:mv w B g l)(hM:∀t,t<N->f t<l.length)(hS:St (gB l) f N)(h1:Rs (gB l) f a m):
  aw prog 187 #[af (some ⟨g,0,none⟩) N c,ae aj (a:Int),ae aj (m:Int),ae aj ((m+1:Nat):Int),.func (.func 169) #[] #[ag (some ⟨B,0,none⟩)]] w fun e w'=>e=ao (.tuple #[])/\aR g w w'/\∃f',gW w' g N f'/\Py f f' a (m+1)/\Rs (gB l) f' a (m+1):=by
 obtain⟨b,hm⟩:=fY (m+1)
 rw[<-hm]
 have bk:((m:Int)-(a:Int)==1)=false:=by simp;omega
 have bn:b<=N:=by omega
 have bl:((b:Int)-(m:Int)==1)=true:=by simp;omega
 have HR:=fX hr;have HC:=fX hC;have HM:=fX hM;have HS:=fX hS;have HF:=fX hF;have H1:=fX h1;have a8:=fX hm
 have aX:m<N:=by omega
 have bp:m<b:=by omega
 clear hr hC hM hS hF h1
 clear hm
 go_enter func187,ntmps187
 go_wp2
 go_loopw [14,15] (fun vi vj wr=>∃(i j:Nat),a<=i/\i<=j/\j<=m/\vi=ae aj (i:Int)/\vj=ae aj (j:Int)/\aR g w wr/\gW wr g N f/\aQ ((i=a\/¬gB l (f m)<gB l (f (i-1)))/\(j=m\/gB l (f m)<gB l (f j)))) (fun vi vj _=>(aP vj).toNat-(aP vi).toNat)
 case atStart=>exact⟨a,m,Nat.le_refl _,by omega,Nat.le_refl _,rfl,rfl,Below.refl _ _,HR.out,fX ⟨.inl rfl,.inl rfl⟩⟩
 case round=>
  obtain⟨i,j,a4,bq,aY,rfl,rfl,al,ad,HI⟩:=hrel;by_cases br:i<j
  ·have a5:(i:Int)<(j:Int):=by omega
   obtain⟨h,hh⟩:=fY ((i+j)/2);have eh:((i:Int)+(j:Int))/2=(h:Int):=by omega
   have a9:i<=h:=by omega
   have bt:h<j:=by omega
   have aZ:h<N:=by omega
   have aT:=fX (vV wr B g l (HC.out.below al) HF.out.len (f m) (f h) (HM.out m aX) (HM.out h aZ));have av:=HF.out.cmp (HM.out m aX) (HM.out h aZ);have c1:=ad.cell aZ;have c2:=ad.cell aX;have HB:=fX al;have aS:=fX ad
   obtain⟨r,hr⟩:=fY (oI (l.getD (f m) 0) (l.getD (f h) 0));rw[<-hr]at aT av;obtain⟨x,hx⟩:=fY (f h);obtain⟨y,hy⟩:=fY (f m);rw[<-hx]at c1 aT;rw[<-hy]at c2 aT;by_cases aV:r<0
   ·have hd:decide (r<0)=true:=by simp;omega
    have bd:=fX (av.1 aV);clear al ad hr av hh hx hy;go_wp2_with fail
    go_quiet ((go_at_call 169;exact Calls.quiet_of (aT.out _)))
    go_wp2_with fail
    go_roundw
    case rel=>exact⟨i,h,a4,a9,by omega,rfl,rfl,HB.out.trans (oV g wr nq),aS.out.drewN nq,fX ⟨HI.out.1,.inr bd.out⟩⟩
    case measure=>simp[aP];omega
   ·have hd:decide (r<0)=false:=by simp;omega
    have bf:=fX (fun q=>aV (av.2 q));clear al ad hr av hh hx hy;go_wp2_with fail
    go_quiet ((go_at_call 169;exact Calls.quiet_of (aT.out _)))
    go_wp2_with fail
    go_roundw
    case rel=>exact⟨h+1,j,by omega,by omega,aY,by go_num,rfl,HB.out.trans (oV g wr nq),aS.out.drewN nq,fX ⟨.inr (by rw[Nat.add_sub_cancel];exact bf.out),HI.out.2⟩⟩
    case measure=>simp[aP];omega
  ·obtain rfl:i=j:=by omega
   have a5:¬(i:Int)<(i:Int):=by omega
   have HB:=fX al;have aS:=fX ad
   clear al ad;go_wp2;go_loopw [17] (fun vk wq=>∃k:Nat,i<=k/\k<=m/\vk=ae aj (k:Int)/\aR g w wq/\gW wq g N (ik f k m (m+1))) (fun vk _=>(aP vk).toNat)
   case atStart=>exact⟨m,aY,Nat.le_refl _,rfl,HB.out,by rw[yR f fZ (by omega) (.inl rfl)];exact aS.out⟩
   case round=>
    obtain⟨k,bu,bx,rfl,al,ad⟩:=hrel;by_cases bm:i<k
    ·have a1:(i:Int)<(k:Int):=by omega
     obtain⟨p,hp⟩:=fY (k-1);have e1:(k:Int)-1=(p:Int):=by omega
     have bg:k<N:=by omega
     have a6:p<N:=by omega
     have c1:=ad.cell bg;have c2:=ad.cell a6;have f1:=ad.frozen k;have f2:=ad.frozen p;have aU:=ad.swap k p;obtain⟨x,hx⟩:=fY (ik f k m (m+1) k);obtain⟨y,hy⟩:=fY (ik f k m (m+1) p);have c3:=ad.two k p a6 y;obtain⟨z,hz⟩:=fY (gL (ik f k m (m+1)) k y p);rw[<-hz]at c3;rw[<-hx]at c1 aU;rw[<-hy]at c2 aU;have a2:=fX al;have bj:=fX aU;have HP:=fX hp
     clear al ad aU hz hx hy hp;go_wp2_with fail
     go_region;go_wp2;go_roundw
     case rel=>
      have h:=bj.out.drew;have a7:k=p+1:=by have:=HP.out;omega
      rw[a7,Mu f (by omega)]at h;exact⟨p,by omega,by omega,rfl,((a2.out.setCell (p:=⟨g,k,none⟩) fZ _).setCell (p:=⟨g,p,none⟩) fZ _).drew,by rw[a7];exact h⟩
     case measure=>have:=HP.out;simp[aP];omega
    ·have a1:¬(i:Int)<(k:Int):=by omega
     have a2:=fX al;have a3:=fX ad
     clear al ad;go_wp2;refine aK (results_none rfl _ _ _) rfl ?_;obtain rfl:k=i:=by omega
     have hm:=a8.out;subst hm;have aW:=Mm HS.out hb H1.out (i:=k) a4 aY HI.out.1 HI.out.2;exact⟨rfl,a2.out,_,a3.out,aW.2,aW.1⟩
structure Mx (a m b n mid s0 r0:Nat):Prop where
 h1:a<=s0
 h2:s0<=r0
 h3:r0<=m
 h4:r0<=mid
 h5:n-s0<=b
 h6:s0=a\/n-s0=b
 h7:r0=m\/n-r0=m
 h8:n=mid+m
theorem My(l:List Int)(B g N c d:Nat)(hF:oU l)(hN:N<=400)(IH:Em l B g N c d)(w:aq)(f:Nat->Nat)(a m b:Nat)(hd:b-a<=d+1)(ham:a+2<=m)(b6:m+2<=b)(hb:b<=N)(hr:gW w g N f)(hC:mv w B g l)(hM:∀t,t<N->f t<l.length)(hS:St (gB l) f N)(h1:Rs (gB l) f a m)(h2:Rs (gB l) f m b):
  aw prog 187 #[af (some ⟨g,0,none⟩) N c,ae aj (a:Int),ae aj (m:Int),ae aj (b:Int),.func (.func 169) #[] #[ag (some ⟨B,0,none⟩)]] w fun e w'=>e=ao (.tuple #[])/\aR g w w'/\∃f',gW w' g N f'/\Py f f' a b/\Rs (gB l) f' a b:=by
 have b0:((m:Int)-(a:Int)==1)=false:=by simp;omega
 have b1:((b:Int)-(m:Int)==1)=false:=by simp;omega
 obtain⟨mid,bq⟩:=fY ((a+b)/2)
 have b2:((a:Int)+(b:Int))/2=(mid:Int):=by omega
 obtain⟨n,hn⟩:=fY (mid+m)
 have en:(mid:Int)+(m:Int)=(n:Int):=by omega
 obtain⟨p,hp⟩:=fY (n-1)
 have ep:(n:Int)-1=(p:Int):=by omega
 have b3:a+1<mid:=by omega
 have bO:mid<b:=by omega
 have b4:m<b:=by omega
 have bP:n<=800:=by omega
 have HR:=fX hr;have HC:=fX hC;have HM:=fX hM;have HS:=fX hS;have HF:=fX hF;have H1:=fX h1;have H2:=fX h2;have bB:=fX IH
 clear hr hC hM hS hF h1 h2 IH
 obtain⟨s0,r0,ad,a3⟩:∃s0 r0:Nat,((mid<m/\s0=n-b/\r0=mid)\/(m<=mid/\s0=a/\r0=m))/\aQ (Mx a m b n mid s0 r0):=by
  by_cases g:mid<m
  ·exact⟨n-b,mid,.inl ⟨g,rfl,rfl⟩,fX ⟨by omega,by omega,by omega,by omega,by omega,by omega,by omega,hn⟩⟩
  ·exact⟨a,m,.inr ⟨by omega,rfl,rfl⟩,fX ⟨by omega,by omega,by omega,by omega,by omega,by omega,by omega,hn⟩⟩
 have b7:s0<=m:=by have:=a3.out;have h1:=this.h2;have h2:=this.h3;omega
 have b8:r0<=m:=a3.out.h3
 have b5:=fX bq;have HN:=fX hn;have HP:=fX hp
 clear bq hn hp
 go_enter func187,ntmps187
 go_upto_if 140 with fail
 go_cut [20,21] (fun vs vr wx=>vs=ae aj (s0:Int)/\vr=ae aj (r0:Int)/\wx=w)
 case first=>
  as_aux_lemma=>
  rcases ad with⟨g1,g2,g3⟩|⟨g1,g2,g3⟩
  ·have aV:(mid:Int)<(m:Int):=by omega
   have aY:(n:Int)-(b:Int)=(s0:Int):=by have:=HN.out;omega
   subst g3;clear g2;go_wp2_with fail
   go_meet;exact⟨rfl,rfl,rfl⟩
  ·have aV:¬(mid:Int)<(m:Int):=by omega
   subst g2;subst g3;go_wp2_with fail
   go_meet;exact⟨rfl,rfl,rfl⟩
 case rest=>
  obtain⟨rfl,rfl,rfl⟩:=hcut;obtain⟨wa,rfl⟩:∃wa:aq,wa=wc:=⟨_,rfl⟩;clear ad;go_wp2;go_loopw [20,21] (fun vi vj wr=>∃(i j:Nat),s0<=i/\i<=j/\j<=r0/\vi=ae aj (i:Int)/\vj=ae aj (j:Int)/\aR g wa wr/\gW wr g N f/\aQ ((i=s0\/¬gB l (f (p-(i-1)))<gB l (f (i-1)))/\(j=r0\/gB l (f (p-j))<gB l (f j)))) (fun vi vj _=>(aP vj).toNat-(aP vi).toNat)
  case atStart=>exact⟨s0,r0,Nat.le_refl _,a3.out.h2,Nat.le_refl _,rfl,rfl,Below.refl _ _,HR.out,fX ⟨.inl rfl,.inl rfl⟩⟩
  case round=>
   obtain⟨i,j,bQ,b9,bR,rfl,rfl,aZ,al,HI⟩:=hrel;by_cases ca:i<j
   ·have bC:(i:Int)<(j:Int):=by omega
    as_aux_lemma=>
    obtain⟨h,hh⟩:=fY ((i+j)/2);have eh:((i:Int)+(j:Int))/2=(h:Int):=by omega
    have bS:i<=h:=by omega
    have cb:h<j:=by omega
    have bt:h<N:=by omega
    obtain⟨q,hq⟩:=fY (p-h);have bu:h<=p/\q<N:=by
     have h1:=a3.out;have h2:=h1.h1;have h3:=h1.h3;have h4:=h1.h4;have h5:=h1.h5;have h8:=h1.h8
     have:=HP.out;omega
    have bx:q<N:=bu.2;have eq:(p:Int)-(h:Int)=(q:Int):=by omega
    have a4:=fX (vV wr B g l (HC.out.below aZ) HF.out.len (f q) (f h) (HM.out q bx) (HM.out h bt));have av:=HF.out.cmp (HM.out q bx) (HM.out h bt);have c1:=al.cell bt;have c2:=al.cell bx;have HB:=fX aZ;have aS:=fX al
    obtain⟨r,hr⟩:=fY (oI (l.getD (f q) 0) (l.getD (f h) 0));rw[<-hr]at a4 av;rw[hq]at av;obtain⟨x,hx⟩:=fY (f h);obtain⟨y,hy⟩:=fY (f q);rw[<-hx]at c1 a4;rw[<-hy]at c2 a4;by_cases br:r<0
    ·have hd:decide (r<0)=true:=by simp;omega
     have bT:=fX (av.1 br);clear aZ al hr av hh hx hy hq bu;go_wp2_with fail
     go_quiet ((go_at_call 169;exact Calls.quiet_of (a4.out _)))
     go_wp2_with fail
     go_roundw
     case rel=>exact⟨i,h,bQ,bS,by omega,rfl,rfl,HB.out.trans (oV g wr nq),aS.out.drewN nq,fX ⟨HI.out.1,.inr bT.out⟩⟩
     case measure=>simp[aP];omega
    ·have hd:decide (r<0)=false:=by simp;omega
     have bU:=fX (fun q=>br (av.2 q));clear aZ al hr av hh hx hy hq bu;go_wp2_with fail
     go_quiet ((go_at_call 169;exact Calls.quiet_of (a4.out _)))
     go_wp2_with fail
     go_roundw
     case rel=>exact⟨h+1,j,by omega,by omega,bR,by go_num,rfl,HB.out.trans (oV g wr nq),aS.out.drewN nq,fX ⟨.inr (by rw[Nat.add_sub_cancel];exact bU.out),HI.out.2⟩⟩
     case measure=>simp[aP];omega
   ·obtain rfl:i=j:=by omega
    have bC:¬(i:Int)<(i:Int):=by omega
    obtain⟨e,he⟩:=fY (n-i);have ad:=a3.out;have q1:=ad.h1;have q2:=ad.h2;have q3:=ad.h3;have q4:=ad.h4;have q5:=ad.h5;have q6:=ad.h6;have q7:=ad.h7;have q8:=ad.h8
    have hp:=HP.out;have ee:(n:Int)-(i:Int)=(e:Int):=by omega
    have bz:i+(e-m)=mid:=by omega
    have aW:m<=e:=by omega
    have a5:e<=b:=by omega
    have a6:a<=i:=by omega
    have aX:i<=m:=by omega
    have bV:i<=mid:=by omega
    have bD:mid<=e:=by omega
    have hx:i<m->m<e->gB l (f (e-1))<gB l (f i):=fun g1 g2=>by
     rcases HI.out.2 with g|g
     ·omega
     ·rw[show p-i=e-1 by omega]at g;exact g
    have hy:a<i->e<b->gB l (f (i-1))<=gB l (f e):=fun g1 g2=>by
     rcases HI.out.1 with g|g
     ·omega
     ·rw[show p-(i-1)=e by omega]at g;omega
    have bA:=fX (yU HS.out hb H1.out H2.out a6 aX aW a5 hx);have aT:=fX (yT f aX aW);have R1:=fX (Eg (e:=e) H1.out aX);have R2:=fX (yW H2.out aX aW a5);have R3:=fX (yY H1.out a6 aX aW);have R4:=fX (Eh (s:=i) H2.out aW);have bm:=fX (yZ HS.out hb H1.out H2.out a6 aX aW a5 hx hy);rw[bz]at R2 R3 bm;have HB:=fX aZ;have aS:=fX al
    clear aZ al hx hy he ad q1 q2 q3 q4 q5 q6 q7 q8 hp;go_upto_region 39 with fail
    go_cut [185] (fun v wx=>v=ai (decide (i<m/\m<e))/\wx=wr)
    case first=>
     as_aux_lemma=>
     by_cases g1:i<m
     ·have aV:decide ((i:Int)<(m:Int))=true:=by simp;omega
      have a7:(i:Int)<(m:Int):=by omega
      by_cases g2:m<e
      ·have aY:decide ((m:Int)<(e:Int))=true:=by simp;omega
       have a8:(m:Int)<(e:Int):=by omega
       go_wp2_with fail
       go_meet;exact⟨congrArg Value.bool (decide_eq_true ⟨g1,g2⟩).symm,rfl⟩
      ·have aY:decide ((m:Int)<(e:Int))=false:=by simp;omega
       have a8:¬(m:Int)<(e:Int):=by omega
       go_wp2_with fail
       go_meet;exact⟨congrArg Value.bool (decide_eq_false (fun h=>g2 h.2)).symm,rfl⟩
     ·have aV:decide ((i:Int)<(m:Int))=false:=by simp;omega
      have a7:¬(i:Int)<(m:Int):=by omega
      go_wp2_with fail
      go_meet;exact⟨congrArg Value.bool (decide_eq_false (fun h=>g1 h.1)).symm,rfl⟩
    case rest=>
     as_aux_lemma=>
     obtain⟨rfl,rfl⟩:=hcut;obtain⟨wb,rfl⟩:∃wb:aq,wb=wc:=⟨_,rfl⟩;go_upto_if 185 with fail
     go_cut [] (fun wx=>aR g wa wx/\gW wx g N (ik f i m e))
     case first=>
      as_aux_lemma=>
      by_cases hg:i<m/\m<e
      ·have hd:decide (i<m/\m<e)=true:=decide_eq_true hg;go_wp2_with (go_at_call 189;refine(Ms _ g N c f aS.out i m e hg.1 hg.2 (by omega) hN (.func (.func 169) #[] #[ag (some ⟨B,0,none⟩)])).mono ?_;rintro _ w1 ⟨rfl,a9,bd⟩;have bf:=fX a9;have bg:=fX bd;clear a9 bd)
       go_meet;exact⟨HB.out.trans bf.out,bg.out⟩
      ·have hd:decide (i<m/\m<e)=false:=decide_eq_false hg;go_wp2_with fail
       go_meet;exact⟨HB.out,by rw[yR f aX aW (by omega)];exact aS.out⟩
     case rest=>
      as_aux_lemma=>
      obtain⟨a9,bd⟩:=hcut;obtain⟨w1,rfl⟩:∃w1:aq,w1=wc:=⟨_,rfl⟩;have bf:=fX a9;have bg:=fX bd
      obtain⟨f1,bE⟩:=fY (ik f i m e);rw[<-bE]at bg bA aT R1 R2 R3 R4 bm;have bF:=fX (aT.out.lt (by omega) HM.out);clear a9 bd bE HB aS;go_upto_region 41 with fail
      go_cut [199] (fun v wx=>v=ai (decide (a<i/\i<mid))/\wx=w1)
      case first=>
       as_aux_lemma=>
       by_cases g1:a<i
       ·have aV:decide ((a:Int)<(i:Int))=true:=by simp;omega
        have a7:(a:Int)<(i:Int):=by omega
        by_cases g2:i<mid
        ·have aY:decide ((i:Int)<(mid:Int))=true:=by simp;omega
         have a8:(i:Int)<(mid:Int):=by omega
         go_wp2_with fail
         go_meet;exact⟨congrArg Value.bool (decide_eq_true ⟨g1,g2⟩).symm,rfl⟩
        ·have aY:decide ((i:Int)<(mid:Int))=false:=by simp;omega
         have a8:¬(i:Int)<(mid:Int):=by omega
         go_wp2_with fail
         go_meet;exact⟨congrArg Value.bool (decide_eq_false (fun h=>g2 h.2)).symm,rfl⟩
       ·have aV:decide ((a:Int)<(i:Int))=false:=by simp;omega
        have a7:¬(a:Int)<(i:Int):=by omega
        go_wp2_with fail
        go_meet;exact⟨congrArg Value.bool (decide_eq_false (fun h=>g1 h.1)).symm,rfl⟩
      case rest=>
       as_aux_lemma=>
       obtain⟨rfl,rfl⟩:=hcut;obtain⟨w1,rfl⟩:∃w1:aq,w1=wc:=⟨_,rfl⟩;go_upto_if 199 with fail
       go_cut [] (fun wx=>aR g wa wx/\∃f2,gW wx g N f2/\Py f1 f2 a mid/\Rs (gB l) f2 a mid)
       case first=>
        as_aux_lemma=>
        by_cases hg:a<i/\i<mid
        ·have hd:decide (a<i/\i<mid)=true:=decide_eq_true hg;go_wp2_with (go_at_call 187;refine(bB.out _ f1 a i mid (by omega) hg.1 hg.2 (by omega) bg.out (HC.out.below bf.out) bF.out bA.out R1.out R2.out).mono ?_;rintro _ w2 ⟨rfl,bj,f2,bk,aU,a1⟩;have bl:=fX bj;have bn:=fX bk;have a2:=fX aU;have bp:=fX a1;clear bj bk aU a1)
         go_meet;exact⟨bf.out.trans bl.out,f2,bn.out,a2.out,bp.out⟩
        ·have hd:decide (a<i/\i<mid)=false:=decide_eq_false hg;go_wp2_with fail
         go_meet;refine⟨bf.out,f1,bg.out,Py.refl _ _ _,?_⟩;by_cases e1:a=i
         ·rw[e1];exact R2.out
         ·have e2:i=mid:=by omega
          rw[<-e2];exact R1.out
       case rest=>
        as_aux_lemma=>
        obtain⟨bj,f2,bk,aU,a1⟩:=hcut;obtain⟨w2,rfl⟩:∃w2:aq,w2=wc:=⟨_,rfl⟩;have bl:=fX bj;have bn:=fX bk;have a2:=fX aU;have bp:=fX a1
        have bW:=fX (aU.lt (by omega) bF.out);have bG:=fX (bA.out.keep aU a1 (by omega));have bH:=fX (R3.out.keep aU (.inr fZ));have bI:=fX (R4.out.keep aU (.inr bD));clear bj bk aU a1;go_upto_region 43 with fail
        go_cut [213] (fun v wx=>v=ai (decide (mid<e/\e<b))/\wx=w2)
        case first=>
         as_aux_lemma=>
         by_cases g1:mid<e
         ·have aV:decide ((mid:Int)<(e:Int))=true:=by simp;omega
          have a7:(mid:Int)<(e:Int):=by omega
          by_cases g2:e<b
          ·have aY:decide ((e:Int)<(b:Int))=true:=by simp;omega
           have a8:(e:Int)<(b:Int):=by omega
           go_wp2_with fail
           go_meet;exact⟨congrArg Value.bool (decide_eq_true ⟨g1,g2⟩).symm,rfl⟩
          ·have aY:decide ((e:Int)<(b:Int))=false:=by simp;omega
           have a8:¬(e:Int)<(b:Int):=by omega
           go_wp2_with fail
           go_meet;exact⟨congrArg Value.bool (decide_eq_false (fun h=>g2 h.2)).symm,rfl⟩
         ·have aV:decide ((mid:Int)<(e:Int))=false:=by simp;omega
          have a7:¬(mid:Int)<(e:Int):=by omega
          go_wp2_with fail
          go_meet;exact⟨congrArg Value.bool (decide_eq_false (fun h=>g1 h.1)).symm,rfl⟩
        case rest=>
         as_aux_lemma=>
         obtain⟨rfl,rfl⟩:=hcut;obtain⟨w2,rfl⟩:∃w2:aq,w2=wc:=⟨_,rfl⟩;by_cases hg:mid<e/\e<b
         ·have hd:decide (mid<e/\e<b)=true:=decide_eq_true hg;go_wp2_with (go_at_call 187;refine(bB.out _ f2 mid e b (by omega) hg.1 hg.2 (by omega) bn.out (HC.out.below bl.out) bW.out bG.out bH.out bI.out).mono ?_;rintro _ w3 ⟨rfl,bJ,f3,bK,bL,bM⟩;have bX:=fX bJ;have bY:=fX bK;have bN:=fX bL;have bZ:=fX bM;clear bJ bK bL bM)
          go_end0;exact⟨rfl,bl.out.trans bX.out,f3,bY.out,(((aT.out.wide a6 a5).trans (a2.out.wide fZ (by omega))).trans (bN.out.wide (by omega) fZ)),vT a2.out bp.out bN.out bZ.out bm.out⟩
         ·have hd:decide (mid<e/\e<b)=false:=decide_eq_false hg;go_wp2_with fail
          go_end0;refine⟨rfl,bl.out,f2,bn.out,((aT.out.wide a6 a5).trans (a2.out.wide fZ (by omega))),vT a2.out bp.out (Py.refl _ _ _) ?_ bm.out⟩;by_cases e1:mid=e
          ·rw[e1];exact bI.out
          ·have e2:e=b:=by omega
           rw[<-e2];exact bH.out
theorem En(l:List Int)(B g N c:Nat)(hF:oU l)(hN:N<=400):∀d,Em l B g N c d
 |0=>fun w f a m b hd ham ad=>by omega
 |d+1=>fun w f a m b hd ham ad hb hr hC hM hS h1 h2=>by
  by_cases e1:m=a+1
  ·subst e1;exact Mv l B g N c hF hN w f a b ad hb hr hC hM hS h2
  ·by_cases e2:b=m+1
   ·subst e2;exact Mw l B g N c hF hN w f a m (by omega) hb hr hC hM hS h1
   ·exact My l B g N c d hF hN (En l B g N c hF hN d) w f a m b hd (by omega) (by omega) hb hr hC hM hS h1 h2
theorem Eo(l:List Int)(B g N c:Nat)(hF:oU l)(hN:N<=400)(w:aq)(f:Nat->Nat)(a m b:Nat)(ham:a<m)(ad:m<b)(hb:b<=N)(hr:gW w g N f)(hC:mv w B g l)(hM:∀t,t<N->f t<l.length)(hS:St (gB l) f N)(h1:Rs (gB l) f a m)(h2:Rs (gB l) f m b):
  aw prog 187 #[af (some ⟨g,0,none⟩) N c,ae aj (a:Int),ae aj (m:Int),ae aj (b:Int),.func (.func 169) #[] #[ag (some ⟨B,0,none⟩)]] w fun e w'=>e=ao (.tuple #[])/\aR g w w'/\∃f',gW w' g N f'/\Py f f' a b/\Rs (gB l) f' a b:=
 En l B g N c hF hN (b-a) w f a m b fZ ham ad hb hr hC hM hS h1 h2
theorem Mz(w:aq)(g N c:Nat)(f:Nat->Nat)(hr:gW w g N f)(B:Nat)(l:List Int)(hC:mv w B g l)(hF:oU l)(hM:∀t,t<N->f t<l.length)(hS:St (gB l) f N)(hN:N<=400):
  aw prog 180 #[af (some ⟨g,0,none⟩) N c,ae aj (N:Int),.func (.func 169) #[] #[ag (some ⟨B,0,none⟩)]] w fun e w'=>e=ao (.tuple #[])/\aR g w w'/\∃f',gW w' g N f'/\Py f f' 0 N/\Rs (gB l) f' 0 N:=by
 have HR:=fX hr;have HC:=fX hC;have HM:=fX hM;have HS:=fX hS;have HF:=fX hF
 clear hr hC hM hS hF
 go_enter func180,ntmps180
 go_wp2
 go_loopw [7,8] (fun va vb wr=>∃(A E:Nat) (h:Nat->Nat),A<=N/\E=A+20/\va=ae aj (A:Int)/\vb=ae aj (E:Int)/\aR g w wr/\gW wr g N h/\aQ (∃k,A=k*20/\Py f h 0 N/\St (gB l) h N/\∀u,u<k->Rs (gB l) h (u*20) (u*20+20))) (fun va _ _=>N-(aP va).toNat)
 case atStart=>exact⟨0,20,f,Nat.zero_le _,rfl,rfl,rfl,Below.refl _ _,HR.out,fX ⟨0,rfl,Py.refl _ _ _,HS.out,fun u hu=>absurd hu (by omega)⟩⟩
 case round=>
  obtain⟨A,E,h,a4,hE,rfl,rfl,aX,av,HI⟩:=hrel;have HB:=fX aX;have ad:=fX av;have HE:=fX hE
  clear aX av;by_cases a2:E<=N
  ·have a1:(E:Int)<=(N:Int):=by omega
   have bf:A<=E:=by omega
   clear hE;go_wp2_with (go_at_call 186;refine(El _ g N c h ad.out B l (HC.out.below HB.out) HF.out (by obtain⟨k,q1,q2,q3,q4⟩:=HI.out;exact q2.lt fZ HM.out) (by obtain⟨k,q1,q2,q3,q4⟩:=HI.out;exact q3) A E bf a2 hN).mono ?_;rintro e w1 ⟨rfl,aT,f1,aU,aV,aW⟩;have aY:=fX aT;have aZ:=fX aU;have al:=fX aV;have aS:=fX aW;clear aT aU aV aW)
   go_roundw
   case rel=>
    refine⟨E,E+20,f1,a2,rfl,rfl,by go_num,HB.out.trans aY.out,aZ.out,fX ?_⟩;obtain⟨k,q1,q2,q3,q4⟩:=HI.out;have hE:=HE.out;refine⟨k+1,by omega,q2.trans (al.out.wide (Nat.zero_le _) a2),q3.keep al.out aS.out a2,fun u hu=>?_⟩;by_cases e:u=k
    ·subst e;rw[<-q1,<-hE];exact aS.out
    ·exact(q4 u (by omega)).keep al.out (.inl (by omega))
   case measure=>have:=HE.out;simp[aP];omega
  ·have a1:¬(E:Int)<=(N:Int):=by omega
   clear hE;go_wp2_with (go_at_call 186;refine(El _ g N c h ad.out B l (HC.out.below HB.out) HF.out (by obtain⟨k,q1,q2,q3,q4⟩:=HI.out;exact q2.lt fZ HM.out) (by obtain⟨k,q1,q2,q3,q4⟩:=HI.out;exact q3) A N a4 fZ hN).mono ?_;rintro e w1 ⟨rfl,aT,f1,aU,aV,aW⟩;have aY:=fX aT;have aZ:=fX aU;have al:=fX aV;have aS:=fX aW;clear aT aU aV aW)
   have HP:aQ (Py f f1 0 N/\St (gB l) f1 N/\Ch (gB l) f1 20 N):=by
    obtain⟨k,q1,q2,q3,q4⟩:=HI.out;have hE:=HE.out;exact⟨q2.trans (al.out.wide (Nat.zero_le _) fZ),q3.keep al.out aS.out fZ,y9 q1 (fun u hu=>(q4 u hu).keep al.out (.inl (by omega))) aS.out (by omega)⟩
   have a6:=fX (HB.out.trans aY.out);clear HB ad HI al aS aY HE a1 a2 a4;go_loopw [6,7,8,9] (fun vs _ _ _ wr=>∃(S:Nat) (h:Nat->Nat),0<S/\S<=800/\vs=ae aj (S:Int)/\aR g w wr/\gW wr g N h/\aQ (Py f h 0 N/\St (gB l) h N/\Ch (gB l) h S N)) (fun vs _ _ _ _=>N-(aP vs).toNat)
   case atStart=>exact⟨20,f1,by omega,by omega,rfl,a6.out,aZ.out,HP⟩
   case round=>
    clear HP aZ a6;obtain⟨S,h,bk,bl,rfl,aX,av,HI⟩:=hrel;have HB:=fX aX;have ad:=fX av
    clear aX av;by_cases a2:S<N
    ·have a1:(S:Int)<(N:Int):=by omega
     obtain⟨D,hD⟩:=fY (2*S);have eD:2*(S:Int)=(D:Int):=by omega
     have bm:(S:Int)*2=(D:Int):=by omega
     have a7:D<=800:=by omega
     have HD:=fX hD;clear hD;go_wp2;go_loopw [7,8] (fun va vb wq=>∃(A E:Nat) (k:Nat->Nat),A<=N/\E<=1600/\va=ae aj (A:Int)/\vb=ae aj (E:Int)/\aR g w wq/\gW wq g N k/\aQ (E=A+D/\∃n,A=n*D/\Py f k 0 N/\St (gB l) k N/\(∀u,u<n->Rs (gB l) k (u*D) (u*D+D))/\∀u,2*n<=u->Rs (gB l) k (u*S) (min (u*S+S) N))) (fun va _ _=>N-(aP va).toNat)
     case atStart=>exact⟨0,D,h,Nat.zero_le _,by omega,rfl,rfl,HB.out,ad.out,fX ⟨by omega,0,by simp,HI.out.1,HI.out.2.1,fun u hu=>absurd hu (by omega),fun u _=>HI.out.2.2 u⟩⟩
     case round=>
      clear HI HB ad;obtain⟨A,E,k,a4,bn,rfl,rfl,aX,av,HI⟩:=hrel;have HB:=fX aX;have ad:=fX av
      clear aX av;obtain⟨M,hM⟩:=fY (A+S);have eM:(A:Int)+(S:Int)=(M:Int):=by omega
      have a8:A<M:=by omega
      have a5:=fX hM;have a3:aQ (∀n,A=n*D->∀(q:Nat->Nat),(∀u,2*n<=u->Rs (gB l) q (u*S) (min (u*S+S) N))->Rs (gB l) q A (min M N)/\Rs (gB l) q M (min (M+S) N)):=fun n hn q hq=>by
       have e1:2*n*S=A:=by rw[hn,HD.out,Nat.mul_comm 2 n,Nat.mul_assoc]
       have h1:=hq (2*n) fZ;have h2:=hq (2*n+1) (by omega);rw[Nat.add_mul,Nat.one_mul,e1]at h2;rw[e1]at h1;rw[hM];exact⟨h1,h2⟩
      clear hM;by_cases hle:E<=N
      ·have a9:(E:Int)<=(N:Int):=by omega
       have bg:M<E:=by have:=HI.out.1;have:=a5.out;have:=HD.out;omega
       go_wp2_with (go_at_call 187;refine(Eo l B g N c HF.out hN _ k A M E a8 bg hle ad.out (HC.out.below HB.out) (by obtain⟨_,n,q1,q2,q3,q4,q5⟩:=HI.out;exact q2.lt fZ HM.out) (by obtain⟨_,n,q1,q2,q3,q4,q5⟩:=HI.out;exact q3)
        (by obtain⟨_,n,q1,q2,q3,q4,q5⟩:=HI.out;exact(a3.out n q1 k q5).1.part fZ (by omega)) (by obtain⟨q0,n,q1,q2,q3,q4,q5⟩:=HI.out;exact(a3.out n q1 k q5).2.part fZ (by have:=a5.out;have:=HD.out;omega))).mono ?_;rintro e w1 ⟨rfl,aT,f1,aU,aV,aW⟩;have aY:=fX aT;have aZ:=fX aU;have al:=fX aV;have aS:=fX aW;clear aT aU aV aW)
       go_roundw
       case rel=>
        refine⟨E,E+D,f1,hle,by omega,rfl,by go_num,HB.out.trans aY.out,aZ.out,fX ⟨rfl,?_⟩⟩;obtain⟨q0,n,q1,q2,q3,q4,q5⟩:=HI.out;have bp:(n+1)*D=n*D+D:=by rw[Nat.add_mul,Nat.one_mul]
        refine⟨n+1,by omega,q2.trans (al.out.wide (Nat.zero_le _) hle),q3.keep al.out aS.out hle,fun u hu=>?_,fun u hu=>(q5 u (by omega)).keep al.out (.inr ?_)⟩
        ·by_cases e:u=n
         ·subst e;rw[<-q1,<-q0];exact aS.out
         ·exact(q4 u (by omega)).keep al.out (.inl (by have:=y8 (S:=D) (show u<n by omega);omega))
        ·have h1:(2*(n+1))*S<=u*S:=Nat.mul_le_mul_right _ hu;have h2:(2*(n+1))*S=(n+1)*D:=by rw[HD.out,Nat.mul_comm 2 (n+1),Nat.mul_assoc]
         omega
       case measure=>have:=HI.out.1;simp[aP];omega
      ·have a9:¬(E:Int)<=(N:Int):=by omega
       by_cases bj:M<N
       ·have bd:(M:Int)<(N:Int):=by omega
        go_wp2_with (go_at_call 187;refine(Eo l B g N c HF.out hN _ k A M N a8 bj fZ ad.out (HC.out.below HB.out) (by obtain⟨_,n,q1,q2,q3,q4,q5⟩:=HI.out;exact q2.lt fZ HM.out) (by obtain⟨_,n,q1,q2,q3,q4,q5⟩:=HI.out;exact q3)
         (by obtain⟨_,n,q1,q2,q3,q4,q5⟩:=HI.out;exact(a3.out n q1 k q5).1.part fZ (by omega)) (by obtain⟨q0,n,q1,q2,q3,q4,q5⟩:=HI.out;exact(a3.out n q1 k q5).2.part fZ (by have:=a5.out;have:=HD.out;omega))).mono ?_;rintro e w1 ⟨rfl,aT,f1,aU,aV,aW⟩;have aY:=fX aT;have aZ:=fX aU;have al:=fX aV;have aS:=fX aW;clear aT aU aV aW)
        go_roundw
        case rel=>
         refine⟨D,f1,by have:=HD.out;omega,a7,by go_num,HB.out.trans aY.out,aZ.out,fX ?_⟩;obtain⟨q0,n,q1,q2,q3,q4,q5⟩:=HI.out;exact⟨q2.trans (al.out.wide (Nat.zero_le _) fZ),q3.keep al.out aS.out fZ,y9 q1 (fun u hu=>(q4 u hu).keep al.out (.inl (by have:=y8 (S:=D) hu;omega))) aS.out (by omega)⟩
        case measure=>have:=HD.out;simp[aP];omega
       ·have bd:¬(M:Int)<(N:Int):=by omega
        go_wp2;go_roundw
        case rel=>
         refine⟨D,k,by have:=HD.out;omega,a7,by go_num,HB.out,ad.out,fX ?_⟩;obtain⟨q0,n,q1,q2,q3,q4,q5⟩:=HI.out;exact⟨q2,q3,y9 q1 q4 ((a3.out n q1 k q5).1.part fZ (by omega)) (by omega)⟩
        case measure=>have:=HD.out;simp[aP];omega
    ·have a1:¬(S:Int)<(N:Int):=by omega
     go_wp2;go_end0;exact⟨rfl,HB.out,h,ad.out,HI.out.1,HI.out.2.2.whole (by omega)⟩
theorem MA(w:aq)(g N c:Nat)(f:Nat->Nat)(hr:gW w g N f)(B:Nat)(l:List Int)(hC:mv w B g l)(hF:oU l)(hM:∀t,t<N->f t<l.length)(hS:St (gB l) f N)(hN:N<=400):
  aw prog 168 #[af (some ⟨g,0,none⟩) N c,.func (.func 169) #[] #[ag (some ⟨B,0,none⟩)]] w fun e w'=>e=ao (.tuple #[])/\aR g w w'/\∃f',gW w' g N f'/\Py f f' 0 N/\Rs (gB l) f' 0 N:=by
 have h:=Mz w g N c f hr B l hC hF hM hS hN
 have H:=fX h
 clear h hr hC hF hM hS
 go_enter func168,ntmps168
 go_wp2_with (go_at_call 180;refine H.out.mono ?_;rintro e w1 ⟨rfl,h1⟩;have H1:=fX h1;clear h1)
 go_end0
 exact⟨rfl,H1.out⟩
def PB(F:Nat->Nat):Nat->List Nat
 |0=>[]
 |k+1=>if 0<F k then PB F k++[k]else PB F k
theorem tV(F:Nat->Nat)(x:Nat):∀k,x∈PB F k↔x<k/\0<F x
 |0=>by simp[PB]
 |k+1=>by
  simp only[PB];split
  ·rename_i h;rw[List.mem_append,tV F x k,List.mem_singleton];constructor
   ·rintro(h1|rfl)
    ·exact⟨by omega,h1.2⟩
    ·exact⟨by omega,h⟩
   ·rintro⟨h1,h2⟩;by_cases e:x=k
    ·exact .inr e
    ·exact .inl ⟨by omega,h2⟩
  ·rename_i h;rw[tV F x k];constructor
   ·rintro⟨h1,h2⟩;exact⟨by omega,h2⟩
   ·rintro⟨h1,h2⟩;refine⟨?_,h2⟩;by_cases e:x=k
    ·subst e;exact absurd h2 h
    ·omega
theorem tW(F:Nat->Nat):∀k,(PB F k).length=nI F k
 |0=>rfl
 |k+1=>by
  simp only[PB,nI];split
  ·rw[List.length_append,tW F k];rfl
  ·rw[tW F k];rfl
theorem Ep{l:List Nat}{x i:Nat}:(l++[x]).getD i 0=if i<l.length then l.getD i 0 else if i=l.length then x else 0:=by
 rw[List.getD_eq_getElem?_getD,List.getElem?_append];split
 ·rw[List.getD_eq_getElem?_getD]
 ·split
  ·rename_i h;subst h;simp
  ·rename_i h1 h2;have:1<=i-l.length:=by omega
   rw[List.getElem?_eq_none (by simp;omega)];rfl
theorem zd(F:Nat->Nat):∀k,∀i j,i<j->j<(PB F k).length->(PB F k).getD i 0<(PB F k).getD j 0
 |0,i,j,_,h=>absurd h (by simp[PB])
 |k+1,i,j,ad,hj=>by
  simp only[PB]at hj⊢;split at hj
  ·rename_i h;rw[if_pos h,Ep,Ep];rw[List.length_append,List.length_singleton]at hj;rw[if_pos (by omega)];by_cases g:j<(PB F k).length
   ·rw[if_pos g];exact zd F k i j ad g
   ·rw[if_neg g,if_pos (by omega)];have hm:(PB F k).getD i 0∈PB F k:=by
     rw[List.getD_eq_getElem?_getD,List.getElem?_eq_getElem (show i<(PB F k).length by omega)];exact List.getElem_mem _
    exact((tV F _ k).1 hm).1
  ·rename_i h;rw[if_neg h];exact zd F k i j ad hj
theorem MB{F f:Nat->Nat}{M n:Nat}(hn:n=nI F M)(hs:Py (fun t=>(PB F M).getD t 0) f 0 n)(hr:Rs F f 0 n):(List.range n).map f=Pt F M:=by
 refine Mn hr fun x=>?_
 rw[<-tV F x M];have hl:=tW F M;constructor
 ·intro hx;obtain⟨i,hi,rfl⟩:=List.getElem_of_mem hx;obtain⟨t,_,h2,h3⟩:=hs.2.2 i (Nat.zero_le _) (by omega);refine⟨t,h2,h3.trans ?_⟩;show(PB F M).getD i 0=_
  rw[List.getD_eq_getElem?_getD,List.getElem?_eq_getElem hi];rfl
 ·rintro⟨t,ht,rfl⟩;obtain⟨i,_,h2,h3⟩:=hs.2.1 t (Nat.zero_le _) ht;rw[h3];show(PB F M).getD i 0∈_
  rw[List.getD_eq_getElem?_getD,List.getElem?_eq_getElem (show i<(PB F M).length by omega)];exact List.getElem_mem _
theorem gW.MC{w:aq}{g n:Nat}{f:Nat->Nat}(h:gW w g n f){L:List Nat}(hL:(List.range n).map f=L):jq w w.heap.size (some ⟨g,0,none⟩) (iN L):=by
 subst hL;refine⟨by simp[jg,iN],fun _=>⟨g,0,rfl,h.lt,fun j u hu=>?_⟩⟩;rw[uh]at hu;by_cases hj:j<n
 ·simp[iN,hj]at hu;rw[Nat.zero_add,<-hu];exact h.cell hj
 ·simp[iN,hj]at hu
theorem gW.gR{w:aq}{base n c:Nat}{A:Option au}{L:List Nat}(h:w.ownsRow base 3 1 (af A n c) n (jg (iN L)))(hn:0<n):∃g,A=some ⟨g,0,none⟩/\base<=g/\gW w g n (fun t=>L.getD t 0):=by
 rcases h.2 with⟨_,h0⟩|⟨g,cap,cur,hv,hg,hh,_,_,_,ht⟩
 ·omega
 ·injection hv with hA _ _
  have hl:(jg (iN L)).length=n*1:=h.1;refine⟨g,hA,hg,cur,hh,fun j hj=>?_⟩;have ad:j<L.length:=by simp[jg,iN]at hl;omega
  have h1:=uh (iN L) j;rw[<-ht,List.getElem?_take]at h1;rw[if_pos (by omega)]at h1;have h2:(iN L)[j]?=some ((L.getD j 0:Nat):Int):=by
   unfold iN;rw[List.getElem?_map,List.getElem?_eq_getElem ad,List.getD_eq_getElem?_getD,List.getElem?_eq_getElem ad];rfl
  rw[h2]at h1;simpa using h1
theorem Er(w:aq)(A:Option au)(c:Nat)(fv:ax):
  aw prog 186 #[af A 0 c,ae aj 0,ae aj 0,fv] w fun e w'=>e=ao (.tuple #[])/\w'=w:=by
 go_enter func186,ntmps186
 go_wp2
 go_loopw [8] (fun vi wr=>vi=ae aj 1/\wr=w) (fun _ _=>0)
 case atStart=>exact⟨rfl,rfl⟩
 case round=>
  obtain⟨rfl,rfl⟩:=hrel;go_wp2;go_end0;exact⟨rfl,rfl⟩
theorem MD(w:aq)(A:Option au)(c:Nat)(fv:ax):
  aw prog 180 #[af A 0 c,ae aj 0,fv] w fun e w'=>e=ao (.tuple #[])/\w'=w:=by
 have hi:=Er
 go_enter func180,ntmps180
 go_wp2
 go_loopw [7,8] (fun va vb wr=>va=ae aj 0/\vb=ae aj 20/\wr=w) (fun _ _ _=>0)
 case atStart=>exact⟨rfl,rfl,rfl⟩
 case round=>
  obtain⟨rfl,rfl,rfl⟩:=hrel;go_wp2_with (go_at_call 186;refine(Er _ A c fv).mono ?_;rintro e w1 ⟨rfl,rfl⟩)
  go_loopw [6] (fun va wq=>va=ae aj 20/\wq=w1) (fun _ _=>0)
  case atStart=>exact⟨rfl,rfl⟩
  case round=>
   obtain⟨rfl,rfl⟩:=hrel;go_wp2;go_end0;exact⟨rfl,rfl⟩
theorem ME(w:aq)(A:Option au)(c:Nat)(fv:ax):
  aw prog 168 #[af A 0 c,fv] w fun e w'=>e=ao (.tuple #[])/\w'=w:=by
 have h:=MD w A c fv
 have H:=fX h
 clear h
 go_enter func168,ntmps168
 go_wp2_with (go_at_call 180;refine H.out.mono ?_;rintro e w1 ⟨rfl,rfl⟩)
 go_end0
 exact⟨rfl,rfl⟩
theorem MF(w:aq)(A:Option au)(c:Nat)(l:List Int)(hr:jq w w.heap.size A l)(hF:oU l)(hb:∀j,j<l.length->-9223372036854775808<=l.getD j 0/\l.getD j 0<=9223372036854775807):
  aw prog 153 #[af A l.length c] w fun e w'=>∃A' c',e=ao (af A' (nI (gB l) l.length) c')/\aR w.heap.size w w'/\jq w' w'.heap.size A' (iN (Pt (gB l) l.length)):=by
 have HR:=fX hr
 have bk:=fX hb
 have HF:=fX hF
 have hn:=hF.len
 clear hr hb hF
 obtain⟨n,aW⟩:=fY (l.length)
 rw[<-aW]at hn⊢
 have HN:=fX aW
 obtain⟨F,aX⟩:=fY (gB l)
 rw[<-aX]
 have a1:=fX aX
 obtain⟨m,hm⟩:=fY (nI F n)
 obtain⟨I,hI⟩:=fY (Pt F n)
 rw[<-hm,<-hI]
 have HM:=fX hm
 have HI:=fX hI
 clear hm hI
 obtain⟨u,hu⟩:=fY (w.alloc (ak #[af A n c] 185))
 have a2:u.heap.size=w.heap.size+1:=by rw[hu];simp
 have aU:u.cell? ⟨w.heap.size,0,none⟩=some (af A n c):=by rw[hu];simp
 have a3:aR w.heap.size w u:=by rw[hu];exact(Below.refl _ w).alloc fZ _
 have bl:=fX a3;have bm:=fX aU;have bn:=fX a2;have HU:=fX hu
 clear a3 aW aX
 clear aU a2 hu
 go_enter func153,ntmps153
 go_wp2
 rw[<-HU.out]
 go_loopw [3,8] (fun o i wr=>∃(k:Nat) (Ao:Option au) (co:Nat),k<=n/\i=ae aj (k:Int)/\o=af Ao (PB F k).length co/\
  wr.ownsRow (w.heap.size+1) 3 1 (af Ao (PB F k).length co) (PB F k).length (jg (iN (PB F k)))/\aR (w.heap.size+1) u wr) (fun _ i _=>n-(aP i).toNat)
 case atStart=>exact⟨0,none,0,Nat.zero_le _,rfl,rfl,World.ownsRow_nil u _ _ 1,Below.refl _ _⟩
 case round=>
  obtain⟨k,Ao,co,hk,rfl,rfl,ad,al⟩:=hrel;have av:aR w.heap.size w wr:=bl.out.trans (al.mono (Nat.le_succ _));by_cases aY:k<n
  ·have a4:(k:Int)<(n:Int):=by omega
   obtain⟨b,o,rfl,bB,hc⟩:=(HR.out.below av fZ).at (k:=k) (by rw[<-HN.out];exact aY);have aZ:=hc k (by rw[<-HN.out];exact aY);obtain⟨x,hx⟩:=fY (l.getD k 0);rw[<-hx]at aZ;have bp:=bk.out k (by rw[<-HN.out];exact aY);rw[<-hx]at bp;have a5:F k=x.toNat:=by rw[a1.out];unfold gB;rw[<-hx]
   have a6:(PB F k).length<=n:=by rw[tW];exact Nat.le_trans (oO F k) hk
   clear hc hx av;by_cases g:0<x
   ·have HE:=fX (show PB F (k+1)=PB F k++[k] by simp only[PB];rw[if_pos (by omega)]);obtain⟨Aa,ca,wa,r1,o1,b1⟩:=FV wr (w.heap.size+1) Ao _ co _ ad (k:Int) (by omega) (by have h:=al.size;rw[bn.out]at h;exact h);have R1:=fX r1;have aS:=fX (al.trans (b1.mono fZ))
    have O1:=fX o1;clear ad al a5 r1 o1 b1;obtain⟨L,hL⟩:=fY (PB F k);rw[<-hL]at HE R1 O1 a6⊢;clear hL;go_wp2_with (at_builtin;refine wpList_append_run rfl (.tmp 15) (.tmp 17) 185 rfl (af Ao L.length co) (af (some ⟨wr.heap.size,0,none⟩) 1 1) (af Aa (L.length+1) ca) wa rfl rfl R1.out ?_)
    go_roundw
    case rel=>
     have e:(L++[k]).length=L.length+1:=by simp
     have e2:iN (L++[k])=iN L++[(k:Int)]:=by simp[iN]
     refine⟨k+1,Aa,ca,by omega,by go_num,by rw[HE.out,e],?_,aS.out⟩;rw[HE.out,e,e2];exact O1.out
    case measure=>simp[aP];omega
   ·have HE:=fX (show PB F (k+1)=PB F k by simp only[PB];rw[if_neg (by omega)]);have HO:=fX ad;have aS:=fX al
    clear ad al a5;go_wp2;go_roundw
    case rel=>
     refine⟨k+1,Ao,co,by omega,by go_num,by rw[HE.out],?_,aS.out⟩;rw[HE.out];exact HO.out
    case measure=>simp[aP];omega
  ·obtain rfl:k=n:=by omega
   have a4:¬(k:Int)<(k:Int):=by omega
   have aS:=fX al;have a7:=fX av
   have aT:(PB F k).length=m:=(tW F k).trans HM.out.symm;by_cases h0:m=0
   ·subst h0;have a8:PB F k=[]:=List.length_eq_zero_iff.1 aT;have bq:I=[]:=List.length_eq_zero_iff.1 (by rw[HI.out,lQ];exact HM.out.symm);subst bq;rw[a8];have hs:=ME wr Ao co (.func (.func 169) #[] #[ag (some ⟨w.heap.size,0,none⟩)]);have HS:=fX hs;clear ad al av aT a8 hs;simp only[List.length_nil];go_wp2_with (go_at_call 168;refine HS.out.mono ?_;rintro e w1 ⟨rfl,rfl⟩)
    go_ret;exact⟨Ao,co,rfl,a7.out,gX.none_ _ _ _ _⟩
   ·rw[aT]at ad⊢;obtain⟨g,rfl,hg,aV⟩:=gW.gR ad (by omega);have bC:m<=k:=by rw[HM.out];exact oO F k
    have hC:mv wr w.heap.size g l:=⟨by omega,A,c,by rw[al.cell (p:=⟨w.heap.size,0,none⟩) (Nat.lt_succ_self _),bm.out,HN.out],((HR.out.below av fZ).more (by omega))⟩;have hs:=MA wr g m co _ aV w.heap.size l hC HF.out
     (fun t ht=>by
      have a9:(PB F k).getD t 0∈PB F k:=by rw[List.getD_eq_getElem?_getD,List.getElem?_eq_getElem (show t<(PB F k).length by omega)];exact List.getElem_mem _
      have:=((tV F _ k).1 a9).1;rw[<-HN.out];exact this)
     (fun i j br hj _=>zd F k i j br (by omega)) (by omega)
    have HS:=fX hs;have bt:=fX hg
    rw[<-a1.out]at HS;clear ad al av aT hs hC aV hg;go_wp2_with (go_at_call 168;refine HS.out.mono ?_;rintro e w1 ⟨rfl,bd,f',bf,bg,bj⟩;have bu:=fX bd;have bx:=fX bf;have bz:=fX bg;have bA:=fX bj;clear bd bf bg bj)
    go_ret;exact⟨_,co,rfl,a7.out.trans (bu.out.mono (Nat.le_trans (Nat.le_succ _) bt.out)),bx.out.MC ((MB HM.out bz.out bA.out).trans HI.out.symm)⟩
def mL(W:Nat->Nat)(Z:Nat->Int)(j:Nat):Int:=if j%2=0 then(W (j/2):Int)else Z (j/2)
theorem tX(W:Nat->Nat)(Z:Nat->Int)(t:Nat):mL W Z (t*2)=(W t:Int):=by
 unfold mL;rw[if_pos (by omega),show t*2/2=t by omega]
theorem vW(W:Nat->Nat)(Z:Nat->Int)(t:Nat):mL W Z (t*2+1)=Z t:=by
 unfold mL;rw[if_neg (by omega),show(t*2+1)/2=t by omega]
theorem Es{W W':Nat->Nat}{Z Z':Nat->Int}{m:Nat}(h:∀t,t<m->W t=W' t/\Z t=Z' t):∀j,j<m*2->mL W Z j=mL W' Z' j:=fun j hj=>by
 have:=h (j/2) (by omega);unfold mL;rw[this.1,this.2]
def kQ(m:Nat)(W:Nat->Nat)(Z:Nat->Int):List ax:=(List.range (m*2)).map fun j=>ae aj (mL W Z j)
theorem tY(m:Nat)(W:Nat->Nat)(Z:Nat->Int)(j:Nat):(kQ m W Z)[j]?=if j<m*2 then some (ae aj (mL W Z j))else none:=by
 unfold kQ;by_cases h:j<m*2<;>simp[h]
theorem Et(m:Nat)(W:Nat->Nat)(Z:Nat->Int):∀u∈kQ m W Z,u.oneCell'=true:=by
 intro u hu;simp only[kQ,List.mem_map]at hu;obtain⟨j,_,rfl⟩:=hu;rfl
theorem Eu(m:Nat)(W:Nat->Nat)(Z:Nat->Int):(kQ m W Z).length=m*2:=by simp[kQ]
def j6(w:aq)(lo B:Nat)(A:Option au)(m:Nat)(W:Nat->Nat)(Z:Nat->Int):Prop:=
 0<m->∃b o,A=some ⟨b,o,none⟩/\lo<=b/\b<B/\∀j,j<m*2->w.cell? ⟨b,o+j,none⟩=some (ae aj (mL W Z j))
theorem j6.below{w w':aq}{lo B B' m:Nat}{A:Option au}{W:Nat->Nat}{Z:Nat->Int}(h:j6 w lo B A m W Z)(hb:aR B' w w')(hB:B<=B'):j6 w' lo B A m W Z:=fun hm=>by
 obtain⟨b,o,h1,h2,h3,h4⟩:=h hm;exact⟨b,o,h1,h2,h3,fun j hj=>by rw[hb.cell (p:=⟨b,o+j,none⟩) (by show b<B';omega)];exact h4 j hj⟩
theorem j6.more{w:aq}{lo ad B B' m:Nat}{A:Option au}{W:Nat->Nat}{Z:Nat->Int}(h:j6 w lo B A m W Z)(hl:ad<=lo)(hB:B<=B'):j6 w ad B' A m W Z:=fun hm=>by
 obtain⟨b,o,h1,h2,h3,h4⟩:=h hm;exact⟨b,o,h1,by omega,by omega,h4⟩
theorem j6.ext{w:aq}{lo B m:Nat}{A:Option au}{W W':Nat->Nat}{Z Z':Nat->Int}(h:j6 w lo B A m W Z)(e:∀t,t<m->W t=W' t/\Z t=Z' t):j6 w lo B A m W' Z':=fun hm=>by
 obtain⟨b,o,h1,h2,h3,h4⟩:=h hm;exact⟨b,o,h1,h2,h3,fun j hj=>by rw[h4 j hj,Es e j hj]⟩
theorem j6.src{w:aq}{lo B m:Nat}{A:Option au}{W:Nat->Nat}{Z:Nat->Int}(h:j6 w lo B A m W Z):gX w B 2 A m (kQ m W Z):=by
 refine⟨Eu m W Z,fun hm=>?_⟩;obtain⟨b,o,h1,_,h3,h4⟩:=h hm;refine⟨b,o,h1,h3,fun j u hu=>?_⟩;rw[tY]at hu;by_cases hj:j<m*2
 ·rw[if_pos hj]at hu;injection hu with hu;rw[<-hu];exact h4 j hj
 ·rw[if_neg hj]at hu;cases hu
def lC(e:TypeId)(w:aq)(g M:Nat)(v:Nat->Int):Prop:=∃cur:Array ax,w.heap[g]?=some (ak cur e (0,0))/\∀j,j<M->cur[j]?=some (ae aj (v j))
section
variable {e:TypeId} {w w':aq} {g M:Nat} {v v':Nat->Int}
theorem lC.lt(h:lC e w g M v):g<w.heap.size:=by
 obtain⟨cur,h1,_⟩:=h;exact(Array.getElem?_eq_some_iff.1 h1).1
theorem lC.cell(h:lC e w g M v){j:Nat}(hj:j<M):w.cell? ⟨g,j,none⟩=some (ae aj (v j)):=by
 obtain⟨cur,h1,h2⟩:=h;rw[aH w g j _ _ (0,0) h1];exact h2 j hj
theorem lC.frozen(h:lC e w g M v)(j:Nat):w.frozen? ⟨g,j,none⟩=false:=by
 obtain⟨cur,h1,_⟩:=h;exact aO w g j _ _ h1
theorem lC.set(h:lC e w g M v)(i:Nat)(x:Int):lC e (w.setCell ⟨g,i,none⟩ (ae aj x)) g M (fun j=>if j=i then x else v j):=by
 obtain⟨cur,h1,h2⟩:=h;refine⟨cur.setIfInBounds i (ae aj x),aN w g i cur _ _ h1,fun j hj=>?_⟩;rw[Array.getElem?_setIfInBounds];have hs:j<cur.size:=by
  rcases Nat.lt_or_ge j cur.size with h|h
  ·exact h
  ·have:=h2 j hj;rw[Array.getElem?_eq_none h]at this;cases this
 by_cases e:i=j
 ·subst e;simp[hs]
 ·have e':¬j=i:=fun h=>e h.symm
  simp[e,e',h2 j hj]
theorem lC.drew(h:lC e w g M v):lC e w.drew g M v:=h
theorem lC.ext(h:lC e w g M v)(h2:∀j,j<M->v j=v' j):lC e w g M v':=by
 obtain⟨cur,h1,h3⟩:=h;exact⟨cur,h1,fun j hj=>by rw[h3 j hj,h2 j hj]⟩
end
theorem lC.Ev{e:TypeId}{w:aq}{g m:Nat}{W:Nat->Nat}{Z:Nat->Int}(h:lC e w g (m*2) (mL W Z)){lo:Nat}(ad:lo<=g):j6 w lo w.heap.size (some ⟨g,0,none⟩) m W Z:=
 fun _=>⟨g,0,rfl,ad,h.lt,fun j hj=>by rw[Nat.zero_add];exact h.cell hj⟩
theorem tZ:(prog.info? 255).map (fun i=>(i.zero,i.size,i.bytes))=some (some (ah #[ae aj 0,ae aj 0]),2,16):=by kernel_rfl
theorem Ew(n:Nat)(h:n<=2000):∀u:aq,(Instr.makeSlice 233 (ae aj (n:Int)) (ae aj (n:Int))).run prog u=
   .ok (af (some ⟨u.heap.size,0,none⟩) n n) (u.alloc (ak (aJ #[ae aj 0,ae aj 0] (n*2)) 255)):=fun u=>by
 obtain⟨i0,hi,ad,al,av⟩:=info_parts tZ
 have h:=run_make (P:=prog) u 233 255 i0 _ underlying233 hi ad aj aj (n:Int) (n:Int) (by omega) (Int.le_refl _) (by rw[av];omega) (by omega)
 rw[Int.toNat_natCast]at h
 rw[al]at h
 exact h
theorem Ex(w:aq)(n:Nat):lC 255 (w.alloc (ak (aJ #[ae aj 0,ae aj 0] (n*2)) 255)) w.heap.size (n*2) (fun _=>0):=by
 refine⟨_,aG w _,fun j hj=>?_⟩;unfold aJ;have e1:j%2=0\/j%2=1:=by omega
 rcases e1 with e1|e1<;>simp[hj,e1]
def PY(t:Nat)(W:Nat->Nat)(Z:Nat->Int)(j:Nat):Int:=if j<t*2 then mL W Z j else 0
theorem Ey(t:Nat)(W:Nat->Nat)(Z:Nat->Int):(fun j=>if j=t*2+1 then Z t else(fun j=>if j=t*2 then(W t:Int)else PY t W Z j) j)=PY (t+1) W Z:=by
 funext j;show(if j=t*2+1 then Z t else if j=t*2 then(W t:Int)else PY t W Z j)=_
 unfold PY;by_cases h1:j=t*2+1
 ·rw[if_pos h1,if_pos (by omega),h1,vW]
 ·rw[if_neg h1];by_cases h2:j=t*2
  ·rw[if_pos h2,if_pos (by omega),h2,tX]
  ·rw[if_neg h2];by_cases h3:j<t*2
   ·rw[if_pos h3,if_pos (by omega)]
   ·rw[if_neg h3,if_neg (by omega)]
theorem Ez(W:Nat->Nat)(Z:Nat->Int):(fun _=>0)=PY 0 W Z:=by
 funext j;unfold PY;rw[if_neg (by omega)]
theorem MG(w:aq)(A:Option au)(c:Nat)(l:List Int)(hr:jq w w.heap.size A l)(A2:Option au)(c2:Nat)(L:List Nat)(aZ:jq w w.heap.size A2 (iN L))(hL:∀j,j<L.length->L.getD j 0<l.length)(N n:Nat)(hN:N=l.length)(hn:n=L.length)(hl:n<=400)
  (hb:∀j,j<l.length->0<=l.getD j 0/\l.getD j 0<=1073741824):
  aw prog 156 #[af A N c,af A2 n c2] w fun e w'=>∃A' c',e=ao (af A' n c')/\aR w.heap.size w w'/\n<=c'/\(A'=none->c'=0)/\j6 w' w.heap.size w'.heap.size A' n (fun t=>gB l (L.getD t 0)) (fun t=>((L.getD t 0:Nat):Int)):=by
 have HR:=fX hr;have bf:=fX aZ;have bg:=fX hb;have bj:=fX hL;have HN:=fX hN;have aU:=fX hn
 obtain⟨W,hW⟩:∃W:Nat->Nat,W=fun t=>gB l (L.getD t 0):=⟨_,rfl⟩
 obtain⟨Z,hZ⟩:∃Z:Nat->Int,Z=fun t=>((L.getD t 0:Nat):Int):=⟨_,rfl⟩
 rw[<-hW,<-hZ]
 have HW:=fX hW;have HZ:=fX hZ
 have bk:=Ew n (by omega)
 have al:=Ex w n
 rw[Ez W Z]at al
 have aV:aR w.heap.size w (w.alloc (ak (aJ #[ae aj 0,ae aj 0] (n*2)) 255)):=(Below.refl _ w).alloc fZ _
 obtain⟨u,hu⟩:=fY (w.alloc (ak (aJ #[ae aj 0,ae aj 0] (n*2)) 255))
 rw[<-hu]at al aV
 have HU:=fX hu;have bl:=fX aV;have aW:=fX al
 clear hr aZ hb hL hN hn hW hZ hu al aV
 go_enter func156,ntmps156
 go_wp2
 rw[<-HU.out]
 clear bk
 go_loopw [13] (fun i wr=>∃t:Nat,t<=n/\i=ae aj (t:Int)/\aR w.heap.size w wr/\lC 255 wr w.heap.size (n*2) (PY t W Z)) (fun i _=>n-(aP i).toNat)
 case atStart=>exact⟨0,Nat.zero_le _,rfl,bl.out,aW.out⟩
 case round=>
  obtain⟨t,ht,rfl,av,ad⟩:=hrel;by_cases aX:t<n
  ·have a1:(t:Int)<(n:Int):=by omega
   obtain⟨b2,o2,rfl,bn,a2⟩:=(bf.out.below av fZ).at (k:=t) (by rw[nM,<-aU.out];exact aX);have a3:=a2 t (by rw[nM,<-aU.out];exact aX);rw[qX]at a3;have aS:=bj.out t (by rw[<-aU.out];exact aX);obtain⟨s,hs⟩:=fY (L.getD t 0);rw[<-hs]at a3 aS;obtain⟨b1,o1,rfl,bp,a4⟩:=(HR.out.below av fZ).at (k:=s) aS;have c1:=a4 s aS;have hx:=bg.out s aS;have aY:l.getD s 0=(W t:Int):=by rw[HW.out];show _=(((l.getD (L.getD t 0) 0).toNat:Nat):Int);rw[<-hs];omega
   have a5:(s:Int)=Z t:=by rw[HZ.out,hs]
   obtain⟨x,a6⟩:=fY (l.getD s 0);rw[<-a6]at c1 hx aY;have bm:s<N:=by rw[HN.out];exact aS
   have f1:=ad.frozen (t*2);have f2:=ad.frozen (t*2+1);have g1:=ad.cell (show t*2<n*2 by omega);have g2:=(ad.set (t*2) x).cell (show t*2+1<n*2 by omega);have aT:=(ad.set (t*2) x).set (t*2+1) (s:Int);have a7:=fX aT;have HB:=fX av;have a8:=fX aY;have a9:=fX a5
   clear a4 a2 ad aT av hs aY a5 a6 aS;go_wp2;go_roundw
   case rel=>
    refine⟨t+1,by omega,by go_num,(HB.out.setCell (p:=⟨w.heap.size,t*2,none⟩) fZ _).setCell (p:=⟨w.heap.size,t*2+1,none⟩) fZ _,?_⟩;have h:=a7.out;rw[a8.out,a9.out,Ey]at h;rw[a8.out,a9.out];exact h
   case measure=>simp[aP];omega
  ·obtain rfl:t=n:=by omega
   have a1:¬(t:Int)<(t:Int):=by omega
   have bd:=fX ad;have HB:=fX av
   clear ad av;go_wp2;go_ret;exact⟨some ⟨w.heap.size,0,none⟩,t,rfl,HB.out,Nat.le_refl _,(fun h=>by cases h),(lC.ext bd.out (fun j hj=>by unfold PY;rw[if_pos hj])).Ev fZ⟩
theorem MH(w:aq)(lo:Nat)(A:Option au)(c m:Nat)(W:Nat->Nat)(Z:Nat->Int)(hr:j6 w lo w.heap.size A m W Z)(hm:m<=1000)(hb:∀j,j<m->W j<=70368744177664):
  aw prog 173 #[af A m c] w fun e w'=>∃A' c',e=ao (af A' (m/2) c')/\aR w.heap.size w w'/\m/2<=c'/\(A'=none->c'=0)/\j6 w' w.heap.size w'.heap.size A' (m/2) (iw W) (fun _=> -1):=by
 have HR:=fX hr;have aW:=fX hb
 obtain⟨n,hn⟩:=fY (m/2)
 have en:(m:Int)/2=(n:Int):=by omega
 have a7:2*n<=m:=by omega
 rw[<-hn]
 obtain⟨P,hP⟩:∃P:Nat->Nat,P=iw W:=⟨_,rfl⟩
 obtain⟨Y,hY⟩:∃Y:Nat->Int,Y=fun _=> -1:=⟨_,rfl⟩
 rw[<-hP,<-hY]
 have HP:=fX hP;have HY:=fX hY
 have a5:=Ew n (by omega)
 have al:=Ex w n
 rw[Ez P Y]at al
 have aT:aR w.heap.size w (w.alloc (ak (aJ #[ae aj 0,ae aj 0] (n*2)) 255)):=(Below.refl _ w).alloc fZ _
 obtain⟨u,hu⟩:=fY (w.alloc (ak (aJ #[ae aj 0,ae aj 0] (n*2)) 255))
 rw[<-hu]at al aT
 have HU:=fX hu;have a6:=fX aT;have aU:=fX al
 clear hr hb hP hY hu al aT hn
 go_enter func173,ntmps173
 go_wp2
 rw[<-HU.out]
 clear a5
 go_loopw [11] (fun i wr=>∃t:Nat,t<=n/\i=ae aj (t:Int)/\aR w.heap.size w wr/\lC 255 wr w.heap.size (n*2) (PY t P Y)) (fun i _=>n-(aP i).toNat)
 case atStart=>exact⟨0,Nat.zero_le _,rfl,a6.out,aU.out⟩
 case round=>
  obtain⟨t,ht,rfl,av,ad⟩:=hrel;by_cases a8:t<n
  ·have aX:(t:Int)<(n:Int):=by omega
   obtain⟨b1,o1,rfl,_,a9,aV⟩:=(HR.out.below av fZ) (by omega);obtain⟨p,hp⟩:=fY (2*t);have ep:2*(t:Int)=(p:Int):=by omega
   have c1:=aV (p*2) (by omega);have c2:=aV ((p+1)*2) (by omega);rw[tX]at c1 c2;have bd:p+1<m:=by omega
   have hx:=aW.out p (by omega);have hy:=aW.out (p+1) (by omega);have hs:P t=W p+W (p+1):=by rw[HP.out];unfold iw;rw[hp]
   obtain⟨x,aY⟩:=fY (W p);obtain⟨y,aZ⟩:=fY (W (p+1));rw[<-aY]at c1 hx hs;rw[<-aZ]at c2 hy hs;have bf:wr.cell? ⟨b1,o1+p*2,none⟩=some (ae aj (x:Int)):=c1;have f1:=ad.frozen (t*2);have f2:=ad.frozen (t*2+1);have g1:=ad.cell (show t*2<n*2 by omega);have g2:=(ad.set (t*2) ((x:Int)+(y:Int))).cell (show t*2+1<n*2 by omega);have aS:=(ad.set (t*2) ((x:Int)+(y:Int))).set (t*2+1) (-1);obtain⟨z1,a1⟩:=fY (PY t P Y (t*2));rw[<-a1]at g1;obtain⟨z2,a2⟩:∃z2:Int,z2=(if t*2+1=t*2 then((x:Int)+(y:Int))else PY t P Y (t*2+1)):=⟨_,rfl⟩;rw[<-a2]at g2;have a3:=fX aS;have HB:=fX av;have HS:=fX hs
   clear aV ad aS av hs aY aZ hp c1 a1 a2;go_wp2;go_region;go_wp2;go_roundw
   case rel=>
    refine⟨t+1,by omega,by go_num,((HB.out.setCell (p:=⟨w.heap.size,t*2,none⟩) fZ _).setCell (p:=⟨w.heap.size,t*2+1,none⟩) fZ _).drew,?_⟩;have h:=a3.out.drew;have e1:(x:Int)+(y:Int)=(P t:Int):=by have:=HS.out;omega
    have e2:(-1:Int)=Y t:=by rw[HY.out]
    rw[e1,e2,Ey]at h;rw[e1,e2];exact h
   case measure=>simp[aP];omega
  ·obtain rfl:t=n:=by omega
   have aX:¬(t:Int)<(t:Int):=by omega
   have a4:=fX ad;have HB:=fX av
   clear ad av;go_wp2;go_ret;exact⟨some ⟨w.heap.size,0,none⟩,t,rfl,HB.out,Nat.le_refl _,(fun h=>by cases h),(lC.ext a4.out (fun j hj=>by unfold PY;rw[if_pos hj])).Ev fZ⟩
end Go.Proofs.YtokpcpjnihinfaaGreat
