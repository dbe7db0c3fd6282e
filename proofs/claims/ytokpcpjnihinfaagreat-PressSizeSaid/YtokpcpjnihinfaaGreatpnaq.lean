/-
  Words and walks.
-/
import Derived.StillTailTactics
import Derived.IntWalk
import Derived.Laws.StructEq
import Derived.BigQuiet
import Derived.Test.YtokpcpjnihinfaaGreatpnaa
import Derived.Test.YtokpcpjnihinfaaGreatpnab
import Derived.Test.YtokpcpjnihinfaaGreatpnac
import Derived.Test.YtokpcpjnihinfaaGreatpnaj
import Derived.Test.YtokpcpjnihinfaaGreatpnap
set_option maxRecDepth 100000
set_option maxHeartbeats 16000000
namespace Go.Proofs.YtokpcpjnihinfaaGreat
open Go.RowKit Go.ChangeShapes Go.WideShapes Go.ChangeAt Go.Joins
theorem newB_own{w:World}{base n c:Nat}{A:Option Addr}{xs:List Value}(h:w.ownsRow base 5 1 (.slice A n c) n xs):NewB w base A n:=fun h0=>by
 rcases h.2 with⟨_,h1⟩|⟨g,cap,cur,hv,hg,hh,_⟩
 ·omega
 ·injection hv with hv;exact⟨g,0,cur,hv,hg,hh⟩
theorem rowpen_any(w:World)(S:Nat→Prop)(B g:Nat)(f:Nat→Nat)(K:Nat)(h:RowAt w S B g f K)(hK:K≤16000000):
  Calls Tryz.prog 88 #[.pointer (some ⟨g,0,none⟩)] w fun e w'=>∃A' c' L,L=(K+7)/8∧e=.returned (.agg #[.slice A' L c',.int .i64 (K:Int)])∧w'.ownsRow B 5 1 (.slice A' L c') L (bytesL L f)∧Below B w w':=by
 obtain⟨W1,hW1⟩:∃W,W=w.alloc (.cells #[.slice none 0 0,.int .i64 0] 30):=⟨_,rfl⟩
 obtain⟨x,hx⟩:∃x,x=w.heap.size:=⟨_,rfl⟩
 have b1:Below w.heap.size w W1:=by rw[hW1];exact(Below.refl _ _).alloc (Nat.le_refl _) _
 have x1:W1.heap[x]?=some (.cells #[.slice none 0 0,.int .i64 0] 30 (0,0)):=by rw[hW1,hx];exact heap_alloc_new w _
 have r1:=h.after b1
 have hgx:g<x:=by rw[hx];exact h.lt
 have hBx:B≤x:=by rw[hx];exact h.size
 have hs1:x<W1.heap.size:=(Array.getElem?_eq_some_iff.1 x1).1
 have b1':=b1.mono h.size
 have bd:Below W1.heap.size W1 W1.drew:=(Below.refl _ _).drew
 have hcl:=h.1
 clear h
 obtain⟨_,A,c,hq⟩:=r1
 obtain⟨z0,z1,z2,e0,e1,e2⟩:=hq.cells
 have r1:RowAt W1 S B g f K:=⟨hcl,A,c,hq⟩
 have hbt:=fun(V:World) (hV:Below W1.heap.size W1 V)=>rowbits_any V S B g f K (r1.after hV) hK
 obtain⟨L,hL⟩:∃L,L=K/8:=⟨_,rfl⟩
 obtain⟨q,hqq⟩:∃q,q=K%8:=⟨_,rfl⟩
 obtain⟨R,hR⟩:∃R,R=f L:=⟨_,rfl⟩
 rw[←hL,←hR,←hqq]at hq
 rw[←hL]at z0;rw[←hL,←hR]at z1;rw[←hqq]at z2
 have hLb:L≤2000000:=by omega
 have hq8:q<8:=by omega
 have hRb:R<256:=by rw[hR];exact hcl.1 L
 have HBT:=Lib.hid hbt;have HQ:=Lib.hid hq;have HL:=Lib.hid hL;have HQQ:=Lib.hid hqq;have HR:=Lib.hid hR;have HX1:=Lib.hid x1;have HB1:=Lib.hid b1';have HW1:=Lib.hid hW1;have HX:=Lib.hid hx;have HCL:=Lib.hid hcl
 have hgs:g<W1.heap.size:=by omega
 clear hbt hq hL hqq hR x1 b1' b1 hW1 hx r1 hcl
 go_enter Tryz.func88,Tryz.ntmps88
 go_wp2_with (first|rw[←HW1.out,←HX.out]|fail)
 go_cut [3] (fun v3 wx=>∃X,v3=.pointer (some ⟨X,0,none⟩)∧wx.heap[X]?=some (.cells #[.slice A L c,.int .i64 (K:Int)] 30 (0,0))∧W1.heap.size≤X∧Below W1.heap.size W1 wx)
 case first=>
  go_region_law ((refine step_call rfl 87 _ _ rfl (enters_of Tryz.func87 (by kernel_rfl) rfl) (#[.pointer (some ⟨g,0,none⟩)]) (by simp[Act.put,Act.eval,List.setIfInBounds_toArray,List.set_cons_zero,List.set_cons_succ]) (HBT.out _ (by first|exact bd|exact bd.alloc (Nat.le_refl _) _|exact((Below.refl W1.heap.size W1).alloc (Nat.le_refl _) _).drew)) ?_;rintro e w6 ⟨rfl,rfl⟩;refine⟨_,rfl,?_⟩))
  all_goals(
   go_wp2_with fail
   go_meet
   exact⟨_,rfl,heap_alloc_new W1 _,Nat.le_refl _,((Below.refl _ _).alloc (Nat.le_refl _) _).drew.drew⟩)
 case rest=>
  obtain⟨X,rfl,hx,hX2,hb⟩:=hcut
  obtain⟨wx,rfl⟩:∃wx:World,wx=wc:=⟨_,rfl⟩
  have hqx:=HQ.out.after hb
  have hx1:=(hb.block x hs1).trans HX1.out
  have hxX:x<X:=by omega
  have hgX:g<X:=by omega
  have hXs:X<wx.heap.size:=(Array.getElem?_eq_some_iff.1 hx).1
  have hB3:=HB1.out.trans (hb.mono (by omega))
  have hgw:g<wx.heap.size:=by omega
  clear z0 z1 z2 e0 e1 e2 bd HBT HQ HX1 HB1 hb
  obtain⟨z0,z1,z2,e0,e1,e2⟩:=hqx.cells
  have hBB:=hqx.base
  have hbytes:∀(V:World),V.ownsRow B 5 1 (.slice A L c) L (bytesL L f)→V.ownsRow B 5 1 (.slice A L c) L (bytesL L f):=fun _ h=>h
  by_cases hq0:0<q
  ·have dq:decide (0<(q:Int))=true:=decY0 (by omega)
   have k0:wx.cell? ⟨X,0,none⟩=some (.slice A L c):=(cell_of_row wx X 0 _ _ (0,0) hx).trans rfl
   have m0:=frozen_of_row wx X 0 _ _ hx
   obtain⟨A',c',w',hr2,ho2,hb2,hk2,_⟩:=run_oneB_s wx.drew B A L c f hqx.drew.own R HR.out (by omega) hqx.size
   have hXo:(Value.slice A L c).ownBlock≠some X:=own_type hqx.own hx (by kernel_rfl)
   have hxw:=(hk2 X hXs hXo).trans hx
   have hgo:w'.frozen? ⟨X,0,none⟩=false:=frozen_of_row w' X 0 _ _ hxw
   have hgc:w'.cell? ⟨X,0,none⟩=some (.slice A L c):=(cell_of_row w' X 0 _ _ (0,0) hxw).trans rfl
   have hx1o:(Value.slice A L c).ownBlock≠some x:=own_type hqx.own hx1 (by kernel_rfl)
   have hx1w:=(hk2 x (by have:x<wx.heap.size:=(by omega);exact this) hx1o).trans hx1
   have hXo2:(Value.slice A' (L+1) c').ownBlock≠some X:=own_type ho2 hxw (by kernel_rfl)
   obtain⟨U,hU⟩:∃U,U=w'.setCell ⟨X,0,none⟩ (.slice A' (L+1) c'):=⟨_,rfl⟩
   have hux:U.heap[X]?=some (.cells #[.slice A' (L+1) c',.int .i64 (K:Int)] 30 (0,0)):=by rw[hU];exact(heap_setCell_same w' X 0 _ _ _ hxw).trans (by simp)
   have hug:U.heap[x]?=some (.cells #[.slice none 0 0,.int .i64 0] 30 (0,0)):=by rw[hU];exact(Below.heap_setCell w' _ _ x (by show x≠X;omega)).trans hx1w
   have huo:U.ownsRow B 5 1 (.slice A' (L+1) c') (L+1) (bytesL (L+1) f):=by rw[hU];exact own_blk ho2 fun j hj=>Below.heap_setCell w' _ _ j (fun e=>hXo2 (hj.trans (congrArg some e)))
   have hub:Below B w U:=by rw[hU];exact(hB3.drew.trans hb2).setCell (by show B≤X;omega) _
   have hox:∀j,(Value.slice A' (L+1) c').ownBlock=some j→j≠x:=fun j hj e=>own_type huo hug (by kernel_rfl) (hj.trans (congrArg some e))
   have hR8:IntKind.u8.wrap (R:Int)=(R:Int):=by rw[IntKind.wrap_u8];omega
   have hR9:(R:Int)%256=(R:Int):=by omega
   have hLL:L+1=(K+7)/8:=by have:=HL.out;have:=HQQ.out;omega
   have HRUN:=Lib.hid hr2;have HUX:=Lib.hid hux;have HUG:=Lib.hid hug;have HUO:=Lib.hid huo;have HUB:=Lib.hid hub;have HU:=Lib.hid hU;have HOX:=Lib.hid hox;have HLL:=Lib.hid hLL
   clear hr2 ho2 hb2 hk2 hXo hxw hx1o hx1w hXo2 hux hug huo hub hU hox hx hx1 hqx hB3 hbytes hX2 hLL
   go_wp2
   go_region_law ((refine step_app rfl (.tmp 17) (.tmp 23) 22 22 rfl (.slice A L c) (.slice (some ⟨wx.heap.size,0,none⟩) 1 1) rfl rfl (.slice A' (L+1) c') w' HRUN.out ?_))
   all_goals(
    rw[←HU.out]
    go_wp2_with (first
     |(refine wpList_load_row rfl _ _ rfl X rfl _ #[.slice A' (L+1) c',.int .i64 (K:Int)] (0,0) _ HUX.out Tryz.underlying30 rfl szPen2 ?_)
     |(refine wpList_store_rowTo rfl _ _ _ rfl rfl x #[.slice A' (L+1) c',.int .i64 (K:Int)] rfl rfl 30 #[.slice none 0 0,.int .i64 0] HUG.out szPen2 rfl (by simp[Value.oneCell']) ?_)
     |fail)
    refine bodyPost_ret (v:=.agg #[.slice A' (L+1) c',.int .i64 (K:Int)]) ?_ rfl ⟨A',c',L+1,HLL.out,rfl,own_blk HUO.out fun j hj=>setRow_other _ _ _ _ (HOX.out j hj),below_row8 HUB.out hBx _⟩
    exact results_cell_row rfl _ _ x _ _ (0,0) _ rfl (setRow_heap _ _ _ _ _ _ HUG.out) Tryz.underlying30 rfl szPen2)
  ·obtain rfl:q=0:=by omega
   have dq:decide (0<((0:Nat):Int))=false:=decN0 (by omega)
   have hox:∀j,(Value.slice A L c).ownBlock=some j→j≠x:=fun j hj e=>own_type hqx.own hx1 (by kernel_rfl) (hj.trans (congrArg some e))
   have hLL:L=(K+7)/8:=by have:=HL.out;have:=HQQ.out;omega
   have HUX:=Lib.hid hx;have HUG:=Lib.hid hx1;have HUO:=Lib.hid hqx.own;have HUB:=Lib.hid hB3;have HOX:=Lib.hid hox;have HLL:=Lib.hid hLL
   clear hox hx hx1 hqx hB3 hbytes hX2 hLL
   go_wp2_with (first
    |(refine wpList_load_row rfl _ _ rfl X rfl _ #[.slice A L c,.int .i64 (K:Int)] (0,0) _ HUX.out Tryz.underlying30 rfl szPen2 ?_)
    |(refine wpList_store_rowTo rfl _ _ _ rfl rfl x #[.slice A L c,.int .i64 (K:Int)] rfl rfl 30 #[.slice none 0 0,.int .i64 0] HUG.out szPen2 rfl (by simp[Value.oneCell']) ?_)
    |fail)
   refine bodyPost_ret (v:=.agg #[.slice A L c,.int .i64 (K:Int)]) ?_ rfl ⟨A,c,L,HLL.out,rfl,own_blk HUO.out fun j hj=>setRow_other _ _ _ _ (HOX.out j hj),below_row8 HUB.out hBx _⟩
   exact results_cell_row rfl _ _ x _ _ (0,0) _ rfl (setRow_heap _ _ _ _ _ _ HUG.out) Tryz.underlying30 rfl szPen2
end Go.Proofs.YtokpcpjnihinfaaGreat
namespace Go.Proofs.YtokpcpjnihinfaaGreat
open Go.RowKit
def begN(t:Nat→Nat)(k m:Nat):Nat:=if m<k then fstN t m else t m
theorem beg_step(t:Nat→Nat)(k:Nat):upd (begN t k) k (fstN t k)=begN t (k+1):=by
 funext m
 unfold upd begN
 by_cases e:m=k
 ·subst e;rw[if_pos rfl,if_pos (by omega)]
 ·rw[if_neg e]
  by_cases h:m<k
  ·rw[if_pos h,if_pos (by omega)]
  ·rw[if_neg h,if_neg (by omega)]
theorem beg_at(t:Nat→Nat)(k:Nat):begN t k k=t k:=by unfold begN;rw[if_neg (by omega)]
theorem beg_none(t:Nat→Nat):begN t 0=t:=by funext m;unfold begN;rw[if_neg (by omega)]
theorem tal_begin_any(w:World)(b:Nat)(t:Nat→Nat)(ht:∀m,t m≤1000)(h:Tal w b t):
  Calls Tryz.prog 139 #[.pointer (some ⟨b,0,none⟩)] w fun e w'=>e=.returned (.tuple #[])∧Below b w w'∧Tal w' b (fstN t):=by
 have HT:=Lib.hid ht
 rw[←beg_none t]at h
 have H0:=Lib.hid h
 clear ht h
 go_enter Tryz.func139,Tryz.ntmps139
 go_wp2
 go_loopw [2,6] (fun l i wr=>∃k:Nat,k≤16∧i=.int .i64 k∧l=.int .i64 (fstN t k:Nat)∧Tal wr b (begN t k)∧Below b w wr) (fun _ i _=>16-(intOf i).toNat)
 case atStart=>exact⟨0,by omega,rfl,rfl,H0.out,Below.refl _ _⟩
 case round=>
  obtain⟨k,hk,rfl,rfl,ht,hb⟩:=hrel
  have hm:=HT.out k
  have hbd:=fstN_in HT.out hk
  have HS:=Lib.hid (show fstN t (k+1)=2*(fstN t k+t k)from rfl)
  have HST:=Lib.hid (beg_step t k)
  obtain⟨p,hp⟩:∃p,p=fstN t k:=⟨_,rfl⟩
  have HP:=Lib.hid hp
  rw[←hp]at hbd HS HST⊢
  clear hp
  by_cases hlt:k<16
  ·have c1:=ht.cell hlt
   have f1:=ht.frozen k
   rw[beg_at]at c1
   have H1:=Lib.hid ht;have HB:=Lib.hid hb
   clear ht hb
   go_wp2
   go_quiet (fail)
   go_wp2
   go_roundw
   case rel=>
    have hset:=H1.out.set k p
    rw[HST.out]at hset
    exact⟨k+1,by omega,by go_num,val_int (by rw[HS.out];omega),hset,(below_drawN HB.out _).setCell (by simp) _⟩
   case measure=>simp[intOf];omega
  ·obtain rfl:k=16:=by omega
   have H1:=Lib.hid ht;have HB:=Lib.hid hb
   clear ht hb hlt hk
   go_wp2
   go_end0
   exact⟨rfl,HB.out,H1.out.ext fun i hi=>by unfold begN;rw[if_pos hi]⟩
theorem next_any(w:World)(b m:Nat)(t:Nat→Nat)(hm:m<16)(ht:t m<4294967296)(h:Tal w b t):
  Calls Tryz.prog 140 #[.pointer (some ⟨b,0,none⟩),.int .u8 (m:Int)] w fun e w'=>e=.returned (.agg #[.int .u32 (t m:Nat),.int .u8 (m:Int)])∧Below w.heap.size (w.setCell ⟨b,m,none⟩ (.int .i64 ((t m+1:Nat):Int))) w':=by
 have c1:=h.cell hm
 have f1:=h.frozen m
 have hlt:=h.lt
 have H:=Lib.hid h
 obtain⟨x,hx⟩:∃x,x=t m:=⟨_,rfl⟩
 rw[←hx]at c1 ht⊢
 have HX:=Lib.hid hx
 clear h hx
 go_enter Tryz.func140,Tryz.ntmps140
 go_wp2
 have g1:IntKind.i64.wrap ((x:Int)+1)=((x+1:Nat):Int):=by rw[IntWalk.i64_in _ ⟨by omega,by omega⟩];rfl
 refine wp_region_still_tail 8 (by kernel_rfl) (by kernel_rfl) ?_
 simp only[List.take_succ_cons,List.take_zero,List.drop_succ_cons,List.drop_zero]
 change wpStill _ _ (World.drew _) (fun a'=>wpList _ _ _ _ a' (World.drew _)) _ _
 have hm2:(m:Int)<16:=by omega
 have hm0:¬(m:Int)<0:=by omega
 have hm4:¬(16:Int)≤m:=by omega
 repeat still_step
 refine wpStill_nil ?_
 clear hm2 hm0 hm4
 go_wp2
 clear g1
 have hb:Below w.heap.size (w.setCell ⟨b,m,none⟩ (.int .i64 ((x:Int)+1))) (w.setCell ⟨b,m,none⟩ (.int .i64 ((x:Int)+1))):=Below.refl _ _
 have hs:(w.setCell ⟨b,m,none⟩ (.int .i64 ((x:Int)+1))).heap.size=w.heap.size:=by simp[World.setCell]
 exact bodyPost_ret (v:=.agg #[.int .u32 (x:Int),.int .u8 (m:Int)]) (by simp[results,Tryz.results140,go_sem]) rfl ⟨rfl,((hb.alloc (by omega) _).alloc (by rw[World.size_alloc];omega) _).drew⟩
end Go.Proofs.YtokpcpjnihinfaaGreat
namespace Go.Proofs.YtokpcpjnihinfaaGreat
open Go.RowKit
theorem check_any(w:World)(A:Option Addr)(n c:Nat)(f:Nat→Nat)(most:Int)(hr:RdB w w.heap.size A n f)(hn:n≤1000000):
  Calls Tryz.prog 137 #[.slice A n c,.int .i64 most] w fun e w'=>e=.returned (.int .i64 (checkE f n most))∧Below w.heap.size w w':=by
 unfold checkE
 by_cases h1:most<1∨15<most
 ·rw[if_pos h1];exact(kcheck_arg w A n c most h1).mono fun _ _ ⟨he,hw⟩=>⟨he,hw▸Below.refl _ _⟩
 ·rw[if_neg h1]
  by_cases h2:320<n
  ·rw[if_pos h2];exact(kcheck_many w A n c most (by omega) (by omega) h2).mono fun _ _ ⟨he,hw⟩=>⟨he,hw▸Below.refl _ _⟩
  ·rw[if_neg h2];exact kcheck_rest w A n c f most hr (by omega) (by omega) (by omega)
end Go.Proofs.YtokpcpjnihinfaaGreat
namespace Go.Proofs.YtokpcpjnihinfaaGreat
open Go.RowKit
def preX(f:Nat→Nat)(n k j:Nat):Nat:=if j<k then codeB f n j else 0
def preLc(f:Nat→Nat)(k j:Nat):Nat:=if j<k then f j else 0
theorem pre_step(f:Nat→Nat)(n k:Nat):upd (preX f n k) k (codeB f n k)=preX f n (k+1)∧upd (preLc f k) k (f k)=preLc f (k+1):=by
 constructor
 ·funext j
  unfold upd preX
  by_cases e:j=k
  ·subst e;rw[if_pos rfl,if_pos (by omega)]
  ·rw[if_neg e]
   by_cases h:j<k
   ·rw[if_pos h,if_pos (by omega)]
   ·rw[if_neg h,if_neg (by omega)]
 ·funext j
  unfold upd preLc
  by_cases e:j=k
  ·subst e;rw[if_pos rfl,if_pos (by omega)]
  ·rw[if_neg e]
   by_cases h:j<k
   ·rw[if_pos h,if_pos (by omega)]
   ·rw[if_neg h,if_neg (by omega)]
theorem pre_skip{f:Nat→Nat}{k:Nat}(n:Nat)(h:f k=0):preX f n k=preX f n (k+1)∧preLc f k=preLc f (k+1):=by
 have hc:codeB f n k=0:=by unfold codeB;rw[if_pos h]
 constructor
 ·funext j
  unfold preX
  by_cases e:j=k
  ·subst e;rw[if_neg (by omega),if_pos (by omega),hc]
  ·by_cases h:j<k
   ·rw[if_pos h,if_pos (by omega)]
   ·rw[if_neg h,if_neg (by omega)]
 ·funext j
  unfold preLc
  by_cases e:j=k
  ·subst e;rw[if_neg (by omega),if_pos (by omega),h]
  ·by_cases h:j<k
   ·rw[if_pos h,if_pos (by omega)]
   ·rw[if_neg h,if_neg (by omega)]
theorem codes_any(w:World)(A:Option Addr)(n c:Nat)(f:Nat→Nat)(most:Int)(hr:RdB w w.heap.size A n f)(hn:n≤1000000):
  Calls Tryz.prog 110 #[.slice A n c,.int .i64 most] w fun e w'=>∃A' c',e=.returned (.tuple #[.slice A' (lenC f n most) c',.int .i64 (checkE f n most)])∧Below w.heap.size w w'∧OutC w.heap.size w' A' (lenC f n most) (codeX f n most) f:=by
 have HR:=Lib.hid hr
 clear hr
 have hcr:=check_any w A n c f most HR.out hn
 by_cases h0:checkE f n most=0
 ·obtain⟨_,h15,hn3,hb,ha,_⟩:=check_ok h0
  have H15:=Lib.hid (show∀j,j<n→f j≤15 from fun j hj=>by have:=hb j hj;omega)
  have HA:=Lib.hid ha
  have H0:=Lib.hid h0
  have hl:lenC f n most=n:=by unfold lenC;rw[if_pos h0]
  rw[h0]at hcr
  have HCR:=Lib.hid hcr
  rw[hl,h0]
  obtain⟨i0,hi,hz0,hz1,hz2⟩:=info_parts infoCode
  have hmk:∀u:World,(Instr.makeSlice 137 (.int .i64 (n:Int)) (.int .i64 (n:Int))).run Tryz.prog u=
    .ok (.slice (some ⟨u.heap.size,0,none⟩) n n) (u.alloc (.cells (madeCells #[.int .u32 0,.int .u8 0] (n*2)) 176)):=fun u=>by
   have h:=run_make (P:=Tryz.prog) u 137 176 i0 (.agg #[.int .u32 0,.int .u8 0]) Tryz.underlying137 hi hz0 .i64 .i64 (n:Int) (n:Int) (by omega) (Int.le_refl _) (by rw[hz2];omega) (by omega)
   rw[Int.toNat_natCast]at h
   simpa[hz1,Value.cells]using h
  have hz:=(zero_of_info infoTal).1
  clear hcr hb ha hl h0 hi hz0 hz1 hz2
  go_enter Tryz.func110,Tryz.ntmps110
  go_wp2_with fail
  refine HCR.out.mono ?_
  rintro e w1 ⟨rfl,hb⟩
  have HB:=Lib.hid hb
  have HR1:=Lib.hid ((HR.out.below hb (Nat.le_refl _)).more hb.size)
  clear hb
  go_wp2_with fail
  refine(count_any w1 A n c f HR1.out hn H15.out).mono ?_
  rintro e w2 ⟨rfl,hb⟩
  have HB2:=Lib.hid (HB.out.trans (hb.mono HB.out.size))
  have HR2:=Lib.hid ((HR1.out.below hb (Nat.le_refl _)).more hb.size)
  clear hb
  have ht0:Tal (w2.alloc (.cells (talA zeroN) 211)) w2.heap.size zeroN:=heap_alloc_new w2 _
  have HT0:=Lib.hid ht0
  clear ht0
  go_wp2_with (refine wpList_store_rowT rfl _ _ _ rfl w2.heap.size (talA fun m=>tcN f m n) rfl rfl _ (talA zeroN) HT0.out (by rw[talA_size];exact szTal) (by rw[talA_size,talA_size]) (talA_one _) ?_)
  have ht1:=HT0.out.setRow (h:=fun m=>tcN f m n)
  have hb3:=below_setRowT ((HB2.out.alloc HB2.out.size (.cells (talA zeroN) 211))) (g:=w2.heap.size) HB2.out.size (talA fun m=>tcN f m n)
  have hr3:=(HR2.out.below (below_setRowT ((Below.refl w2.heap.size w2).alloc (Nat.le_refl _) (.cells (talA zeroN) 211)) (g:=w2.heap.size) (Nat.le_refl _) (talA fun m=>tcN f m n)) (Nat.le_refl _))
  have hsz:=HB2.out.size
  obtain⟨b,hbe⟩:∃b,b=w2.heap.size:=⟨_,rfl⟩
  rw[←hbe]at ht1 hb3 hr3 hsz⊢
  generalize (w2.alloc (.cells (talA zeroN) 211)).setRow b (talA fun m=>tcN f m n)=w3 at ht1 hb3 hr3⊢
  have HT1:=Lib.hid ht1
  have HB3:=Lib.hid hb3
  have HR3:=Lib.hid hr3
  clear ht1 hb3 hr3 hbe HT0
  refine(tal_begin_any w3 b _ (fun m=>Nat.le_trans (cntN_le f m n) (by omega)) HT1.out).mono ?_
  rintro e w4 ⟨rfl,hb,ht⟩
  rw[nxt_none]at ht
  have HB4:=Lib.hid (HB3.out.trans (hb.mono hsz))
  have HR4:=Lib.hid (HR3.out.below hb (Nat.le_refl _))
  have HT4:=Lib.hid ht
  have hblt:=ht.lt
  clear hb ht
  go_wp2
  clear hmk
  go_loopw [25] (fun i wr=>∃k:Nat,k≤n∧i=.int .i64 k∧RowC wr w4.heap.size n (preX f n k) (preLc f k)∧Tal wr b (nxtN f n k)∧RdB wr b A n f∧Below w.heap.size w wr) (fun i _=>n-(intOf i).toNat)
  case atStart=>
   refine⟨0,Nat.zero_le _,rfl,(rowC_made w4 n).ext (fun j _=>?_) (fun j _=>?_),HT4.out.alloc _,HR4.out.below ((Below.refl w4.heap.size w4).alloc (Nat.le_refl _) _) (by omega),HB4.out.alloc HB4.out.size _⟩
   ·unfold preX;rw[if_neg (by omega)];rfl
   ·unfold preLc;rw[if_neg (by omega)];rfl
  case round=>
   obtain⟨k,hk,rfl,hrow,ht,hr,hb⟩:=hrel
   by_cases hlt:k<n
   ·have hf:=H15.out k hlt
    obtain⟨ab,o,hA,_,hc⟩:=hr.2 (by omega)
    have hcell:=hc k hlt
    clear hc
    have hw4:=hrow.lt
    have HROW:=Lib.hid hrow;have HT:=Lib.hid ht;have HB:=Lib.hid hb;have HRR:=Lib.hid hr
    clear hrow ht hb hr
    subst hA
    by_cases hp:0<f k
    ·have hx:=codeB_lt H0.out k hlt
     have hcx:=nxt_code (n:=n) hp hf
     have hf1:=HROW.out.frozen (k*2)
     have hf2:=HROW.out.frozen (k*2+1)
     have hc1:=(HROW.out.cell hlt).1
     have hc2:=(HROW.out.cell hlt).2
     rw[hcx]at hx
     have HCX:=Lib.hid hcx
     clear hcx hf1 hf2 hc1 hc2
     go_wp2_with fail
     refine(next_any _ b (f k) _ (by omega) hx HT.out).mono ?_
     rintro e wn ⟨rfl,hbn⟩
     have hs0:(wr.setCell ⟨b,f k,none⟩ (.int .i64 ((nxtN f n k (f k)+1:Nat):Int))).heap.size=wr.heap.size:=by simp[World.setCell]
     have hbx:Below b wr wn:=((Below.refl b wr).setCell (Nat.le_refl _) _).trans (hbn.mono (by omega))
     have hrow1:=(HROW.out.other (p:=⟨b,f k,none⟩) (by show w4.heap.size≠b;omega) (.int .i64 ((nxtN f n k (f k)+1:Nat):Int))).below hbn hw4
     have ht1:=(HT.out.set (f k) (nxtN f n k (f k)+1)).below hbn (by omega)
     rw[nxt_step hp]at ht1
     have HROW1:=Lib.hid hrow1;have HT1:=Lib.hid ht1
     have HRR1:=Lib.hid (HRR.out.below hbx (Nat.le_refl _))
     have HB1:=Lib.hid (HB.out.trans (hbx.mono hsz))
     have hwn:=hrow1.lt
     have hc1:=(hrow1.cell hlt).1
     have hc2:=(hrow1.cell hlt).2
     have hf1:=hrow1.frozen (k*2)
     have hf2:=hrow1.frozen (k*2+1)
     clear hbn hbx hrow1 ht1 hs0 hcell
     obtain⟨x,hxe⟩:∃x,x=nxtN f n k (f k):=⟨_,rfl⟩
     rw[←hxe]at HCX hx⊢
     have HXE:=Lib.hid hxe
     clear hxe
     go_wp2
     go_roundw
     case rel=>
      have hset:=HROW1.out.set k x (f k)
      rw[←HCX.out,(pre_step f n k).1,(pre_step f n k).2]at hset
      refine⟨k+1,by omega,by go_num,?_,(HT1.out.other (by show b≠w4.heap.size;omega) _).other (by show b≠w4.heap.size;omega) _,HRR1.out.below (((Below.refl b wn).setCell (by show b≤w4.heap.size;omega) _).setCell (by show b≤w4.heap.size;omega) _) (Nat.le_refl _),(HB1.out.setCell (by show w.heap.size≤w4.heap.size;omega) _).setCell (by show w.heap.size≤w4.heap.size;omega) _⟩
      rw[←HCX.out];exact hset
     case measure=>simp[intOf];omega
    ·have hz0:f k=0:=by omega
     have hno:decide (0<((f k:Nat):Int))=false:=by simp;omega
     have HS:=Lib.hid (nxt_skip (n:=n) hz0)
     have HP:=Lib.hid (pre_skip n hz0)
     clear hz0
     go_wp2
     go_roundw
     case rel=>
      refine⟨k+1,by omega,by go_num,?_,?_,HRR.out,HB.out⟩
      ·rw[←HP.out.1,←HP.out.2];exact HROW.out
      ·rw[←HS.out];exact HT.out
     case measure=>simp[intOf];omega
   ·obtain rfl:k=n:=by omega
    have HROW:=Lib.hid hrow;have HB:=Lib.hid hb
    clear hrow ht hb hr hlt hk
    go_wp2
    go_ret2
    refine⟨_,_,rfl,HB.out,.inr ⟨_,rfl,by omega,HROW.out.ext (fun j hj=>?_) (fun j hj=>?_)⟩⟩
    ·rw[codeX_in H0.out j hj];unfold preX;rw[if_pos hj]
    ·unfold preLc;rw[if_pos hj]
 ·have hl:lenC f n most=0:=by unfold lenC;rw[if_neg h0]
  have hne:(checkE f n most !=0)=true:=by simpa using h0
  rw[hl]
  obtain⟨E,hE⟩:∃E,E=checkE f n most:=⟨_,rfl⟩
  rw[←hE]at hcr hne⊢
  have HCR:=Lib.hid hcr
  clear hcr h0 hl hE
  go_enter Tryz.func110,Tryz.ntmps110
  go_wp2_with fail
  refine HCR.out.mono ?_
  rintro e w' ⟨rfl,hb⟩
  have HB:=Lib.hid hb
  clear hb
  go_wp2
  go_ret2
  exact⟨_,_,rfl,HB.out,.inl rfl⟩
end Go.Proofs.YtokpcpjnihinfaaGreat
namespace Go.Proofs.YtokpcpjnihinfaaGreat
open Go.RowKit Go.ChangeShapes Go.WideShapes Go.ChangeAt Go.Joins
theorem all_cut{f:Nat→Nat}{n:Nat}:∀N,n≤N→(∀i,n≤i→i<N→f i=0)→allN f N=allN f n∧usedN f N=usedN f n
 |0,h,_=>by rw[show n=0 by omega];exact⟨rfl,rfl⟩
 |N+1,h,hz=>by
  rcases Nat.eq_or_lt_of_le h with e|e
  ·rw[e];exact⟨rfl,rfl⟩
  ·obtain⟨h1,h2⟩:=all_cut N (by omega) fun i a b=>hz i a (by omega)
   have h0:=hz N (by omega) (by omega)
   simp only[allN,usedN]
   rw[h1,h2,h0,if_neg (by omega),if_neg (by omega)]
   exact⟨rfl,rfl⟩
theorem check_cut{f:Nat→Nat}{n N:Nat}{most most':Int}(h:checkE f N most=0)(hn:n≤N)(hz:∀i,n≤i→i<N→f i=0)(hm:most≤most')(hm2:most'≤15):checkE f n most'=0:=by
 obtain⟨h1,h2,h3,h4,h5,h6⟩:=check_ok h
 obtain⟨e1,e2⟩:=all_cut N hn hz
 unfold checkE
 rw[if_neg (by omega),if_neg (by omega),if_neg]
 ·unfold endE
  rw[←e1,←e2,if_neg (by omega),if_pos h6]
 ·unfold bigB
  rw[decide_eq_true_eq]
  rintro⟨j,hj,hb⟩
  have:=h4 j (by omega)
  omega
theorem cutN_out{f:Nat→Nat}{least N i:Nat}(h1:cutN f least N≤i)(h2:i<N):f i=0:=by
 rcases Nat.eq_zero_or_pos (f i)with h|h
 ·exact h
 ·have:=cutN_in f least N i h2 (by omega);omega
theorem lenM_check{c:Nat→Nat}{n most:Nat}(h1:1≤most)(h2:most≤15)(hn:n≤320)(hn2:n≤2^most)(hc:∀i,c i≤1073741824):checkE (lenM c n most) n (most:Int)=0:=by
 have h:=(out_may (ask_frq h1 h2 hn hn2 hc)).2.1
 rw[frqL_length]at h
 exact h
theorem lnA_check(l:List Tok)(hl:l.length≤1000000):checkE (lnA l) (nA l) 15=0:=by
 obtain⟨_,_,_,_,a1,a2,_⟩:=dyn_ok l hl
 have h:=lenM_check (c:=cntA l) (n:=286) (most:=15) (by omega) (by omega) (by omega) (by decide) (fun i=>by have:=cntA_le l i;omega)
 exact check_cut h a2 (fun i h1 h2=>cutN_out h1 h2) (by omega) (by omega)
theorem lnB_check(l:List Tok)(hl:l.length≤1000000):checkE (lnB l) (nB l) 15=0:=by
 obtain⟨_,_,_,_,_,_,b1,b2,_⟩:=dyn_ok l hl
 have h:=lenM_check (c:=cntB l) (n:=30) (most:=15) (by omega) (by omega) (by omega) (by decide) (fun i=>by have:=cntB_le l i;omega)
 exact check_cut h b2 (fun i h1 h2=>cutN_out h1 h2) (by omega) (by omega)
theorem lnR_check(l:List Tok)(hl:l.length≤1000000):checkE (lnR l) 19 15=0:=by
 have h:=lenM_check (c:=cntR (runD l)) (n:=19) (most:=7) (by omega) (by omega) (by omega) (by decide) (fun i=>by have:=cntR_le (runD l) i;have:=(run_ok l hl).2;omega)
 exact check_cut h (Nat.le_refl _) (fun i h1 h2=>absurd h1 (by omega)) (by omega) (by omega)
theorem fixA_check:checkE fixA 288 15=0:=by decide+kernel
theorem fixB_check:checkE fixB 32 15=0:=by decide+kernel
theorem codes11_any(w:World)(A:Option Addr)(n c:Nat)(f:Nat→Nat)(hr:RdB w w.heap.size A n f)(h0:0<n)(hn:n≤1000000)(hf:checkE f n 15=0):
  Calls Tryz.prog 85 #[.slice A n c] w fun e w'=>∃g c',e=.returned (.slice (some ⟨g,0,none⟩) n c')∧w.heap.size≤g∧RowC w' g n (codeB f n) f∧Below w.heap.size w w':=by
 have hc:=codes_any w A n c f 15 hr hn
 rw[show lenC f n 15=n by unfold lenC;rw[if_pos hf],hf]at hc
 have HC:=Lib.hid hc
 have HF:=Lib.hid hf
 clear hc hr hf
 go_enter Tryz.func85,Tryz.ntmps85
 go_wp2_with fail
 refine HC.out.mono ?_
 rintro e w1 ⟨A',c',rfl,hb,ho⟩
 rcases ho with rfl|⟨g,rfl,hg,hrc⟩
 ·omega
 have HRC:=Lib.hid (hrc.ext (x':=codeB f n) (l':=f) (fun j hj=>codeX_in HF.out j hj) (fun _ _=>rfl));have HB:=Lib.hid hb
 clear hb hrc
 go_wp2
 go_ret
 exact⟨g,c',rfl,hg,HRC.out,HB.out⟩
theorem code_fits{F:Nat→Nat}{n i:Nat}(h:checkE F n 15=0)(hi:i<n):codeB F n i<2^F i∧F i≤15:=by
 obtain⟨_,_,_,h4,h5,_⟩:=check_ok h
 exact⟨fits_code hi (fun j hj=>by have:=h4 j hj;omega) h5,by have:=h4 i hi;omega⟩
theorem of11_any(w:World)(g n c:Nat)(F:Nat→Nat)(i:Nat)(hr:RowC w g n (codeB F n) F)(hF:checkE F n 15=0)(hi:i<n)(_hn:n≤1000000):
  Calls Tryz.prog 86 #[.slice (some ⟨g,0,none⟩) n c,.int .i64 (i:Int)] w fun e w'=>e=.returned (.agg (numC (codP F n i)).toArray)∧Below w.heap.size w w':=by
 obtain⟨h1,h2⟩:=code_fits hF hi
 obtain⟨c0,c1⟩:=hr.cell hi
 obtain⟨X,hX⟩:∃X,X=codeB F n i:=⟨_,rfl⟩
 obtain⟨Y,hY⟩:∃Y,Y=F i:=⟨_,rfl⟩
 have hcp:codP F n i=(turnN X Y,Y):=by unfold codP;rw[hX,hY]
 rw[hcp]
 rw[←hX]at h1 c0
 rw[←hY]at h1 h2 c1
 have hX32:X<4294967296:=by
  have e:(2:Nat)^Y≤2^15:=Nat.pow_le_pow_right (by omega) h2
  have e2:(2:Nat)^15=32768:=rfl
  omega
 obtain⟨Z,hZ⟩:∃Z,Z=turnN X Y:=⟨_,rfl⟩
 have htn:=fun V:World=>turn_ok X Y V hX32 (by omega) (fitsB_nat.2 ⟨by omega,h1⟩)
 rw[←hZ]at htn⊢
 obtain⟨W1,hW1⟩:∃W,W=w.alloc (.cells #[.int .u32 0,.int .i64 0] 169):=⟨_,rfl⟩
 obtain⟨h,hh⟩:∃h,h=w.heap.size:=⟨_,rfl⟩
 obtain⟨W2,hW2⟩:∃W,W=mkV W1 #[.int .u32 0,.int .u8 0] #[.int .u32 (X:Int),.int .u8 (Y:Int)] 176:=⟨_,rfl⟩
 have b1:Below h w W1:=by rw[hW1,hh];exact(Below.refl _ _).alloc (Nat.le_refl _) _
 have x1:W1.heap[h]?=some (.cells #[.int .u32 0,.int .i64 0] 169 (0,0)):=by rw[hW1,hh];exact heap_alloc_new w _
 have s1:W1.heap.size=h+1:=by rw[hW1,hh];simp
 have b2:Below W1.heap.size W1 W2:=by rw[hW2];exact mkV_below _ _ _ _
 have r2:W2.heap[W1.heap.size]?=some (.cells #[.int .u32 (X:Int),.int .u8 (Y:Int)] 176 (0,0)):=by rw[hW2];exact mkV_row W1 _ _ _
 have x2:=(b2.block h (by omega)).trans x1
 have y0:W2.cell? ⟨W1.heap.size,0,none⟩=some (.int .u32 (X:Int)):=(cell_of_row W2 _ 0 _ _ (0,0) r2).trans rfl
 have y1:W2.cell? ⟨W1.heap.size,1,none⟩=some (.int .u8 (Y:Int)):=(cell_of_row W2 _ 1 _ _ (0,0) r2).trans rfl
 have hrg:W1.rangeAt g (i*2) [.int .u32 (X:Int),.int .u8 (Y:Int)]:=by
  have hgl:g<h:=by rw[hh];exact hr.lt
  intro j v hv
  rw[b1.cell (p:=⟨g,i*2+j,none⟩) hgl]
  rcases j with _|_|j
  ·simp at hv;subst hv;exact c0
  ·simp at hv;subst hv;exact c1
  ·simp at hv
 have HRG:=Lib.hid hrg;have HTN:=Lib.hid htn;have HW1:=Lib.hid hW1;have HH:=Lib.hid hh;have HW2:=Lib.hid hW2;have HB:=Lib.hid (b1.trans (b2.mono (by omega)));have X2:=Lib.hid x2;have HS1:=Lib.hid s1
 have hili:(i:Int)<(n:Int):=by omega
 clear hrg htn hW1 hh hW2 b1 b2 x1 x2 s1 r2 hr hF hX hY hZ hcp h1 c0 c1
 go_enter Tryz.func86,Tryz.ntmps86
 go_wp2_with (first
  |(rw[←HW1.out,←HH.out])
  |(refine wpList_load_mid rfl _ _ rfl g (i*2) rfl [.int .u32 (X:Int),.int .u8 (Y:Int)] _ HRG.out Tryz.underlying176 rfl (szCodeL _ _) ?_)
  |(refine wpList_store_rowTo rfl _ _ _ rfl rfl W1.heap.size #[.int .u32 (X:Int),.int .u8 (Y:Int)] rfl rfl 176 #[.int .u32 0,.int .u8 0] (heap_alloc_new W1 _) (szCodeL _ _) rfl (by simp[Value.oneCell']) ?_;change wpList _ _ _ _ _ (mkV W1 #[.int .u32 0,.int .u8 0] #[.int .u32 (X:Int),.int .u8 (Y:Int)] 176);rw[←HW2.out])
  |fail)
 refine(HTN.out W2).mono ?_
 rintro e w3 ⟨rfl,rfl⟩
 go_wp2_with (first
  |(refine wpList_buildTo rfl 169 #[(0,.tmp 21),(1,.tmp 24)] rfl (some 25) rfl #[.int .u32 (Z:Int),.int .i64 (Y:Int)] ?_ ?_;focus(simpa[Act.eval]using built_numP (Z:Int) (Y:Int)))
  |(refine wpList_store_rowTo rfl _ _ _ rfl rfl h #[.int .u32 (Z:Int),.int .i64 (Y:Int)] rfl rfl 169 #[.int .u32 0,.int .i64 0] X2.out (szNumP (Z,Y)) rfl (numA_one (Z,Y)) ?_)
  |fail)
 refine bodyPost_ret (v:=.agg #[.int .u32 (Z:Int),.int .i64 (Y:Int)]) ?_ rfl ⟨rfl,by rw[←HH.out];exact below_row8 HB.out (Nat.le_refl _) _⟩
 exact results_cell_row rfl _ _ h _ _ (0,0) _ rfl (setRow_heap _ _ _ _ _ _ X2.out) Tryz.underlying169 rfl (szNumP (Z,Y))
end Go.Proofs.YtokpcpjnihinfaaGreat
namespace Go.Proofs.YtokpcpjnihinfaaGreat
open Go.RowKit Go.ChangeShapes Go.WideShapes Go.ChangeAt Go.Joins
theorem lbits10_any(w:World)(s:Int):Calls Tryz.prog 160 #[.int .i64 s] w fun e w'=>e=.returned (.tuple #[.int .i64 (bitV s),.int .i64 (bitE s)])∧w=w':=by
 by_cases y0:s<0
 ·skip
  have e1:bitV s=0:=by unfold bitV;rw[if_neg (by omega)]
  have e2:bitE s=2:=by unfold bitE;rw[if_neg (by omega)]
  rw[e1,e2]
  have d0:decide (s<0)=true:=decY0 y0
  clear e1 e2 y0
  go_enter Tryz.func160,Tryz.ntmps160
  go_wp2
  go_ret2
  exact⟨rfl,rfl⟩
 have d0:decide (s<0)=false:=decN0 y0
 by_cases y1:19≤s
 ·skip
  have e1:bitV s=0:=by unfold bitV;rw[if_neg (by omega)]
  have e2:bitE s=2:=by unfold bitE;rw[if_neg (by omega)]
  rw[e1,e2]
  have d1:decide (19≤s)=true:=decY0 y1
  clear e1 e2 y0 y1
  go_enter Tryz.func160,Tryz.ntmps160
  go_wp2
  go_ret2
  exact⟨rfl,rfl⟩
 have d1:decide (19≤s)=false:=decN0 y1
 by_cases y16:s=16
 ·skip
  have e1:bitV s=2:=by unfold bitV bitsR;rw[if_pos (by omega),if_pos y16];rfl
  have e2:bitE s=0:=by unfold bitE;rw[if_pos (by omega)]
  rw[e1,e2]
  have d16:(s==16)=true:=by simp[y16]
  clear e1 e2 y0 y1 y16
  go_enter Tryz.func160,Tryz.ntmps160
  go_wp2
  go_ret2
  exact⟨rfl,rfl⟩
 have d16:(s==16)=false:=by simp[y16]
 by_cases y17:s=17
 ·skip
  have e1:bitV s=3:=by unfold bitV bitsR;rw[if_pos (by omega),if_neg y16,if_pos y17];rfl
  have e2:bitE s=0:=by unfold bitE;rw[if_pos (by omega)]
  rw[e1,e2]
  have d17:(s==17)=true:=by simp[y17]
  clear e1 e2 y0 y1 y16 y17
  go_enter Tryz.func160,Tryz.ntmps160
  go_wp2
  go_ret2
  exact⟨rfl,rfl⟩
 have d17:(s==17)=false:=by simp[y17]
 by_cases y18:s=18
 ·skip
  have e1:bitV s=7:=by unfold bitV bitsR;rw[if_pos (by omega),if_neg y16,if_neg y17,if_pos y18];rfl
  have e2:bitE s=0:=by unfold bitE;rw[if_pos (by omega)]
  rw[e1,e2]
  have d18:(s==18)=true:=by simp[y18]
  clear e1 e2 y0 y1 y16 y17 y18
  go_enter Tryz.func160,Tryz.ntmps160
  go_wp2
  go_ret2
  exact⟨rfl,rfl⟩
 have d18:(s==18)=false:=by simp[y18]
 have e1:bitV s=0:=by unfold bitV bitsR;rw[if_pos (by omega),if_neg y16,if_neg y17,if_neg y18];rfl
 have e2:bitE s=0:=by unfold bitE;rw[if_pos (by omega)]
 rw[e1,e2]
 skip
 clear e1 e2 y0 y1 y16 y17 y18
 go_enter Tryz.func160,Tryz.ntmps160
 go_wp2
 go_ret2
 exact⟨rfl,rfl⟩
theorem below_drewN{B:Nat}{a w:World}(h:Below B a w)(n:Nat):Below B a (w.drewN n):=⟨h.os,h.tape,h.output,h.size,h.block⟩
end Go.Proofs.YtokpcpjnihinfaaGreat
namespace Go.Proofs.YtokpcpjnihinfaaGreat
open Go.RowKit Go.ChangeShapes Go.WideShapes Go.ChangeAt Go.Joins
theorem same10_any(w:World)(K B:Nat)(A:Option Addr)(n c:Nat)(f:Nat→Nat)(a:Nat)(hk:w.cell? ⟨K,0,none⟩=some (.slice A n c))(hr:RdB w B A n f)(ha:a<n)(hn:n≤1000000):
  Calls Tryz.prog 157 #[.int .i64 (a:Int),.pointer (some ⟨K,0,none⟩)] w fun e w'=>e=.returned (.int .i64 ((ldsU f n a:Nat):Int))∧DrU w w':=by
 obtain⟨L,hL⟩:∃L,L=ldsU f n a:=⟨_,rfl⟩
 rw[←hL]
 have hL2:L=1+leadN (f a) (dropU f n (a+1)):=by rw[hL];unfold ldsU;omega
 have HR:=Lib.hid hr;have HL:=Lib.hid hL2;have HKC:=Lib.hid hk
 clear hr hL hL2 hk
 go_enter Tryz.func157,Tryz.ntmps157
 go_wp2
 go_loopw [4] (fun kv wr=>∃k:Nat,1≤k∧a+k≤n∧kv=.int .i64 (k:Int)∧Hid (L=k+leadN (f a) (dropU f n (a+k)))∧Hid (DrU w wr)) (fun kv _=>n-(intOf kv).toNat)
 case atStart=>exact⟨1,Nat.le_refl _,by omega,rfl,HL,Lib.hid (DrU.refl w)⟩
 case round=>
  obtain⟨k,hk1,hkn,rfl,HK,HD⟩:=hrel
  have e2:(a:Int)+(k:Int)=((a+k:Nat):Int):=by omega
  have ck:wr.cell? ⟨K,0,none⟩=some (.slice A n c):=by obtain⟨t,rfl⟩:=HD.out;exact HKC.out
  obtain⟨Q,hQ⟩:∃Q,Q=a+k:=⟨_,rfl⟩
  rw[←hQ]at e2
  by_cases hlt:Q<n
  ·obtain⟨b,o,rfl,_,hc⟩:=(HD.out.rd HR.out).2 (by omega)
   have c1:=hc a (by omega)
   have c2:=hc Q hlt
   have hQn:(Q:Int)<(n:Int):=by omega
   have hQd:decide ((Q:Int)<(n:Int))=true:=by simp;omega
   have hQd2:decide (Q<n)=true:=by simp;omega
   have han:(a:Int)<(n:Int):=by omega
   have hQ0:(0:Int)≤(Q:Int):=by omega
   have ha0:(0:Int)≤(a:Int):=by omega
   clear hc
   by_cases he:f Q=f a
   ·have hee:((f Q:Int)==(f a:Int))=true:=by simp[he]
    have hst:=lead_go (f:=f) (n:=n) (a:=a+k) (x:=f a) (by omega) (by rw[←hQ];exact he)
    have HST:Hid (L=(k+1)+leadN (f a) (dropU f n (a+(k+1)))):=Lib.hid (by have:=HK.out;rw[hst]at this;rw[←Nat.add_assoc];omega)
    have hfin:a+(k+1)≤n:=by omega
    obtain⟨x,hx⟩:∃x,x=f a:=⟨_,rfl⟩
    obtain⟨y,hy⟩:∃y,y=f Q:=⟨_,rfl⟩
    rw[←hx]at c1 hee
    rw[←hy]at c2 hee
    clear hst hQ he hx hy
    go_wp2
    go_quiet (fail)
    go_wp2
    go_roundw
    case rel=>exact⟨k+1,by omega,hfin,by go_num,HST,Lib.hid (HD.out.more _)⟩
    case measure=>simp[intOf];omega
   ·have hee:((f Q:Int)==(f a:Int))=false:=by simp;omega
    have hst:=lead_stop (f:=f) (n:=n) (a:=a+k) (x:=f a) (.inr (by rw[←hQ];exact he))
    have HST:Hid (L=k):=Lib.hid (by have:=HK.out;rw[hst]at this;omega)
    obtain⟨x,hx⟩:∃x,x=f a:=⟨_,rfl⟩
    obtain⟨y,hy⟩:∃y,y=f Q:=⟨_,rfl⟩
    rw[←hx]at c1 hee
    rw[←hy]at c2 hee
    clear hst hQ he hx hy
    go_wp2
    go_quiet (fail)
    go_wp2
    go_ret
    exact⟨(by rw[HST.out];rfl),HD.out.more _⟩
  ·have hQd:decide ((Q:Int)<(n:Int))=false:=by simp;omega
   have hQd2:decide (Q<n)=false:=by simp;omega
   have hQ0:(0:Int)≤(Q:Int):=by omega
   have hst:=lead_stop (f:=f) (n:=n) (a:=a+k) (x:=f a) (.inl (by omega))
   have HST:Hid (L=k):=Lib.hid (by have:=HK.out;rw[hst]at this;omega)
   have hQb:Q≤1000000:=by omega
   have hQw:IntKind.i64.wrap (Q:Int)=(Q:Int):=by rw[IntKind.wrap_i64];omega
   clear hst hQ
   go_wp2
   go_quiet (fail)
   go_wp2
   go_ret
   exact⟨(by rw[HST.out];rfl),HD.out.more _⟩
theorem next10_any(w:World)(prev:Option Nat)(x L:Nat)(kn:Bool)(hk:kn=decide (prev=some x))(hx:x<256)(h1:1≤L)(h2:L≤1000000):
  Calls Tryz.prog 158 #[.int .u8 (x:Int),.bool kn,.int .i64 (L:Int)] w fun e w'=>e=.returned (.tuple #[.agg #[.int .i64 (fstR prev x L).1.1,.int .i64 (fstR prev x L).1.2],.int .i64 ((fstR prev x L).2:Nat)])∧Below w.heap.size w w':=by
 obtain⟨R,hR⟩:∃R,R=fstR prev x L:=⟨_,rfl⟩
 rw[←hR]
 unfold fstR at hR
 obtain⟨W1,hW1⟩:∃W1,W1=w.alloc (.cells #[.int .i64 0,.int .i64 0] 192):=⟨_,rfl⟩
 have hb1:Below w.heap.size w W1:=by rw[hW1];exact(Below.refl _ _).alloc (Nat.le_refl _) _
 obtain⟨h,hh⟩:∃h,h=w.heap.size:=⟨_,rfl⟩
 have hrow:W1.heap[h]?=some (.cells #[.int .i64 0,.int .i64 0] 192 (0,0)):=by rw[hW1,hh];exact heap_alloc_new w _
 have HROW:=Lib.hid hrow;have HB1:=Lib.hid hb1;have HH:=Lib.hid hh;have HW1:=Lib.hid hW1;have HR:=Lib.hid hR;have HKN:=Lib.hid hk
 clear hrow hb1 hW1 hR hh hk
 by_cases l3:L<3
 ·have d3:decide ((L:Int)<3)=true:=by simp;omega
  have d3':decide (L<3)=true:=by simp;omega
  have hres:R=(((x:Int),0),1):=by rw[HR.out,if_neg (by omega),if_neg (by omega),if_neg (by omega)]
  subst hres
  clear l3 HR
  go_enter Tryz.func158,Tryz.ntmps158
  go_wp2_with (first
   |(rw[←HW1.out,←HH.out];refine wpList_buildTo rfl 192 #[(0,.tmp 19)] rfl (some 20) rfl #[.int .i64 (x:Int),.int .i64 0] ?_ ?_;focus(simpa[Act.eval]using built_run1 (x:Int)))
   |(refine wpList_buildTo rfl 192 #[(0,.tmp 19)] rfl (some 20) rfl #[.int .i64 (x:Int),.int .i64 0] ?_ ?_;focus(simpa[Act.eval]using built_run1 (x:Int)))
   |(refine wpList_store_rowTo rfl _ _ _ rfl rfl h #[.int .i64 (x:Int),.int .i64 0] rfl rfl 192 #[.int .i64 0,.int .i64 0] HROW.out szRun rfl (oneU _ _) ?_))
  refine bodyPost_ret ((cell_run rfl _ _ h _ rfl rfl (setRow_heap _ _ _ _ _ _ HROW.out)).trans rfl) rfl ⟨rfl,?_⟩
  exact below_rowU HB1.out (by rw[HH.out];exact Nat.le_refl _) _
 have d3:decide ((L:Int)<3)=false:=by simp;omega
 have d3':decide (L<3)=false:=by simp;omega
 by_cases x0:x=0
 ·have dx:((x:Int) !=0)=false:=by simp[x0]
  by_cases l10:L≤10
  ·have d10:decide ((L:Int)≤10)=true:=by simp;omega
   have d10':decide (L≤10)=true:=by simp;omega
   obtain⟨u,hu⟩:∃u,u=L-3:=⟨_,rfl⟩
   have eu:(L:Int)-3=(u:Int):=by omega
   have hres:R=((17,(u:Int)),L):=by rw[HR.out,if_neg (by omega),if_pos ⟨x0,by omega⟩,←hu]
   subst hres
   clear x0 hu HR
   go_enter Tryz.func158,Tryz.ntmps158
   go_wp2_with (first
    |(rw[←HW1.out,←HH.out];refine wpList_buildTo rfl 192 #[(0,.const (.int .i64 17)),(1,.tmp 32)] rfl (some 33) rfl #[.int .i64 17,.int .i64 (u:Int)] ?_ ?_;focus(simpa[Act.eval]using built_run 17 (u:Int)))
    |(refine wpList_buildTo rfl 192 #[(0,.const (.int .i64 17)),(1,.tmp 32)] rfl (some 33) rfl #[.int .i64 17,.int .i64 (u:Int)] ?_ ?_;focus(simpa[Act.eval]using built_run 17 (u:Int)))
    |(refine wpList_store_rowTo rfl _ _ _ rfl rfl h #[.int .i64 17,.int .i64 (u:Int)] rfl rfl 192 #[.int .i64 0,.int .i64 0] HROW.out szRun rfl (oneU _ _) ?_))
   refine bodyPost_ret ((cell_run rfl _ _ h _ rfl rfl (setRow_heap _ _ _ _ _ _ HROW.out)).trans rfl) rfl ⟨rfl,?_⟩
   exact below_rowU HB1.out (by rw[HH.out];exact Nat.le_refl _) _
  have d10:decide ((L:Int)≤10)=false:=by simp;omega
  have d10':decide (L≤10)=false:=by simp;omega
  by_cases l138:138<L
  ·have dd:(138:Int)<(L:Int):=by omega
   have hres:R=((18,127),138):=by rw[HR.out,if_pos ⟨x0,by omega⟩,show min L 138=138 by omega];rfl
   subst hres
   clear x0 HR
   go_enter Tryz.func158,Tryz.ntmps158
   go_wp2_with (first
    |(rw[←HW1.out,←HH.out];refine wpList_buildTo rfl 192 #[(0,.const (.int .i64 18)),(1,.tmp 39)] rfl (some 40) rfl #[.int .i64 18,.int .i64 127] ?_ ?_;focus(simpa[Act.eval]using built_run 18 127))
    |(refine wpList_buildTo rfl 192 #[(0,.const (.int .i64 18)),(1,.tmp 39)] rfl (some 40) rfl #[.int .i64 18,.int .i64 127] ?_ ?_;focus(simpa[Act.eval]using built_run 18 127))
    |(refine wpList_store_rowTo rfl _ _ _ rfl rfl h #[.int .i64 18,.int .i64 127] rfl rfl 192 #[.int .i64 0,.int .i64 0] HROW.out szRun rfl (oneU _ _) ?_))
   refine bodyPost_ret ((cell_run rfl _ _ h _ rfl rfl (setRow_heap _ _ _ _ _ _ HROW.out)).trans rfl) rfl ⟨rfl,?_⟩
   exact below_rowU HB1.out (by rw[HH.out];exact Nat.le_refl _) _
  ·have dd:¬(138:Int)<(L:Int):=by omega
   obtain⟨u1,hu1⟩:∃u,u=L-10:=⟨_,rfl⟩
   have eu1:(L:Int)-10=(u1:Int):=by omega
   obtain⟨u,hu⟩:∃u,u=L-11:=⟨_,rfl⟩
   have eu:(u1:Int)-1=(u:Int):=by omega
   have hres:R=((18,(u:Int)),L):=by rw[HR.out,if_pos ⟨x0,by omega⟩,show min L 138=L by omega,←hu]
   subst hres
   clear x0 hu hu1 HR
   go_enter Tryz.func158,Tryz.ntmps158
   go_wp2_with (first
    |(rw[←HW1.out,←HH.out];refine wpList_buildTo rfl 192 #[(0,.const (.int .i64 18)),(1,.tmp 39)] rfl (some 40) rfl #[.int .i64 18,.int .i64 (u:Int)] ?_ ?_;focus(simpa[Act.eval]using built_run 18 (u:Int)))
    |(refine wpList_buildTo rfl 192 #[(0,.const (.int .i64 18)),(1,.tmp 39)] rfl (some 40) rfl #[.int .i64 18,.int .i64 (u:Int)] ?_ ?_;focus(simpa[Act.eval]using built_run 18 (u:Int)))
    |(refine wpList_store_rowTo rfl _ _ _ rfl rfl h #[.int .i64 18,.int .i64 (u:Int)] rfl rfl 192 #[.int .i64 0,.int .i64 0] HROW.out szRun rfl (oneU _ _) ?_))
   refine bodyPost_ret ((cell_run rfl _ _ h _ rfl rfl (setRow_heap _ _ _ _ _ _ HROW.out)).trans rfl) rfl ⟨rfl,?_⟩
   exact below_rowU HB1.out (by rw[HH.out];exact Nat.le_refl _) _
 have dx:((x:Int) !=0)=true:=by simp;omega
 by_cases hkn:prev=some x
 ·obtain rfl:kn=true:=by rw[HKN.out];exact decY0 hkn
  by_cases l6:6<L
  ·have dd:(6:Int)<(L:Int):=by omega
   have hres:R=((16,3),6):=by rw[HR.out,if_neg (by omega),if_neg (by omega),if_pos ⟨x0,hkn,by omega⟩,show min L 6=6 by omega];rfl
   subst hres
   clear x0 HR hkn HKN
   go_enter Tryz.func158,Tryz.ntmps158
   go_wp2_with (first
    |(rw[←HW1.out,←HH.out];refine wpList_buildTo rfl 192 #[(0,.const (.int .i64 16)),(1,.tmp 26)] rfl (some 27) rfl #[.int .i64 16,.int .i64 3] ?_ ?_;focus(simpa[Act.eval]using built_run 16 3))
    |(refine wpList_buildTo rfl 192 #[(0,.const (.int .i64 16)),(1,.tmp 26)] rfl (some 27) rfl #[.int .i64 16,.int .i64 3] ?_ ?_;focus(simpa[Act.eval]using built_run 16 3))
    |(refine wpList_store_rowTo rfl _ _ _ rfl rfl h #[.int .i64 16,.int .i64 3] rfl rfl 192 #[.int .i64 0,.int .i64 0] HROW.out szRun rfl (oneU _ _) ?_))
   refine bodyPost_ret ((cell_run rfl _ _ h _ rfl rfl (setRow_heap _ _ _ _ _ _ HROW.out)).trans rfl) rfl ⟨rfl,?_⟩
   exact below_rowU HB1.out (by rw[HH.out];exact Nat.le_refl _) _
  ·have dd:¬(6:Int)<(L:Int):=by omega
   obtain⟨u,hu⟩:∃u,u=L-3:=⟨_,rfl⟩
   have eu:(L:Int)-3=(u:Int):=by omega
   have hres:R=((16,(u:Int)),L):=by rw[HR.out,if_neg (by omega),if_neg (by omega),if_pos ⟨x0,hkn,by omega⟩,show min L 6=L by omega,←hu]
   subst hres
   clear x0 hu HR hkn HKN
   go_enter Tryz.func158,Tryz.ntmps158
   go_wp2_with (first
    |(rw[←HW1.out,←HH.out];refine wpList_buildTo rfl 192 #[(0,.const (.int .i64 16)),(1,.tmp 26)] rfl (some 27) rfl #[.int .i64 16,.int .i64 (u:Int)] ?_ ?_;focus(simpa[Act.eval]using built_run 16 (u:Int)))
    |(refine wpList_buildTo rfl 192 #[(0,.const (.int .i64 16)),(1,.tmp 26)] rfl (some 27) rfl #[.int .i64 16,.int .i64 (u:Int)] ?_ ?_;focus(simpa[Act.eval]using built_run 16 (u:Int)))
    |(refine wpList_store_rowTo rfl _ _ _ rfl rfl h #[.int .i64 16,.int .i64 (u:Int)] rfl rfl 192 #[.int .i64 0,.int .i64 0] HROW.out szRun rfl (oneU _ _) ?_))
   refine bodyPost_ret ((cell_run rfl _ _ h _ rfl rfl (setRow_heap _ _ _ _ _ _ HROW.out)).trans rfl) rfl ⟨rfl,?_⟩
   exact below_rowU HB1.out (by rw[HH.out];exact Nat.le_refl _) _
 obtain rfl:kn=false:=by rw[HKN.out];exact decN0 hkn
 have hres:R=(((x:Int),0),1):=by rw[HR.out,if_neg (by omega),if_neg (by omega),if_neg (fun q=>hkn q.2.1)]
 subst hres
 clear x0 HR hkn HKN
 go_enter Tryz.func158,Tryz.ntmps158
 go_wp2_with (first
  |(rw[←HW1.out,←HH.out];refine wpList_buildTo rfl 192 #[(0,.tmp 19)] rfl (some 20) rfl #[.int .i64 (x:Int),.int .i64 0] ?_ ?_;focus(simpa[Act.eval]using built_run1 (x:Int)))
  |(refine wpList_buildTo rfl 192 #[(0,.tmp 19)] rfl (some 20) rfl #[.int .i64 (x:Int),.int .i64 0] ?_ ?_;focus(simpa[Act.eval]using built_run1 (x:Int)))
  |(refine wpList_store_rowTo rfl _ _ _ rfl rfl h #[.int .i64 (x:Int),.int .i64 0] rfl rfl 192 #[.int .i64 0,.int .i64 0] HROW.out szRun rfl (oneU _ _) ?_))
 refine bodyPost_ret ((cell_run rfl _ _ h _ rfl rfl (setRow_heap _ _ _ _ _ _ HROW.out)).trans rfl) rfl ⟨rfl,?_⟩
 exact below_rowU HB1.out (by rw[HH.out];exact Nat.le_refl _) _
end Go.Proofs.YtokpcpjnihinfaaGreat
namespace Go.Proofs.YtokpcpjnihinfaaGreat
open Go.RowKit
theorem step_callv{ops:Array Oper}{o:Oper}{a:Act}{w:World}{K:Act→World→Prop}{Q:Exit→Act→World→Prop}{E:Prop}(hgd:o.guard=none)(f:FuncId)(cap:Array Value)(x:Operand)(xs:Array Operand)(ts:Array TypeId)
  (ho:o.op=.call {callee:=.value x,args:=xs,argTypes:=ts}) (hv:a.eval x=.func (.func f) #[] cap) (eg:∀args w,(callFunc f args).run Tryz.prog w=.ok (.enter f args) w) (args:Array Value) (hx:xs.map a.eval++cap=args) {R:Ending→World→Prop} (hc:Calls Tryz.prog f args w R)
  (h:∀e w',R e w'→∃v,e=.returned v∧K (a.put o.dst v) w'):
  if Region.wanted o (yielded ops a.tmps)=true then Oper.wp Tryz.prog o a w K Q else E:=by
 have hw:Region.wanted o (yielded ops a.tmps)=true:=by simp[Region.wanted,hgd]
 rw[if_pos hw]
 unfold Oper.wp
 have hall:∀ρ:Operand→Value,ρ x=.func (.func f) #[] cap→xs.map ρ++cap=args→(execOp ρ o).run Tryz.prog w=.ok (.enter f args) w:=by
  intro ρ h1 h2
  simp[execOp,ho,resolve,invoke,h1,h2,go_sem,eg,Deferred.ofValue]
 rw[hall _ hv hx]
 refine hc.mono fun e w' hr=>?_
 obtain⟨v,rfl,hk⟩:=h e w' hr
 exact hk
structure BoxW (w:World) (X:Nat) (x y:Value):Prop where
 lt:X<w.heap.size
 c0:w.cell? ⟨X,0,none⟩=some x
 c1:w.cell? ⟨X,1,none⟩=some y
 f0:w.frozen? ⟨X,0,none⟩=false
 f1:w.frozen? ⟨X,1,none⟩=false
theorem BoxW.new(U:World)(x y:Value)(t:TypeId):BoxW (U.alloc (.cells #[x,y] t)) U.heap.size x y:=by
 have hn:=heap_alloc_new U (.cells #[x,y] t)
 refine⟨by simp,?_,?_,?_,?_⟩
 ·exact(cell_of_row (U.alloc (.cells #[x,y] t)) _ 0 _ t (0,0) hn).trans rfl
 ·exact(cell_of_row (U.alloc (.cells #[x,y] t)) _ 1 _ t (0,0) hn).trans rfl
 ·exact frozen_of_row (U.alloc (.cells #[x,y] t)) _ 0 _ _ hn
 ·exact frozen_of_row (U.alloc (.cells #[x,y] t)) _ 1 _ _ hn
theorem BoxW.below{w w':World}{X B:Nat}{x y:Value}(h:BoxW w X x y)(hb:Below B w w')(hB:X<B):BoxW w' X x y:=
 ⟨Nat.lt_of_lt_of_le h.lt hb.size,(hb.cell (p:=⟨X,0,none⟩) hB).trans h.c0,(hb.cell (p:=⟨X,1,none⟩) hB).trans h.c1,(hb.frozen (p:=⟨X,0,none⟩) hB).trans h.f0,(hb.frozen (p:=⟨X,1,none⟩) hB).trans h.f1⟩
theorem BoxW.set{w:World}{X:Nat}{x y:Value}(h:BoxW w X x y)(p q:Value):BoxW ((w.setCell ⟨X,0,none⟩ p).setCell ⟨X,1,none⟩ q) X p q:=by
 obtain⟨h1,h2⟩:=box_set2 (p:=p) (q:=q) h.c0 h.c1
 refine⟨by have:=h.lt;simpa[World.setCell]using this,h1,h2,?_,?_⟩
 ·simpa using h.f0
 ·simpa using h.f1
end Go.Proofs.YtokpcpjnihinfaaGreat
