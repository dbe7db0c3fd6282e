/-
  Words and walks.
-/
import Derived.StillTailTactics
import Derived.IntWalk
import Derived.Test.YtgokdgcmkcmjeaaGreatpbab
import Derived.Test.YtgokdgcmkcmjeaaGreatpbad
import Derived.Test.YtgokdgcmkcmjeaaGreatpbae
import Derived.Test.YtgokdgcmkcmjeaaGreatpbaj
import Derived.Test.YtgokdgcmkcmjeaaGreatpbbe
import Derived.Test.YtgokdgcmkcmjeaaGreatpbbg
set_option maxRecDepth 100000
set_option maxHeartbeats 16000000
namespace Go.Proofs.YtgokdgcmkcmjeaaGreat
open Go.RowKit Go.ChangeShapes Go.WideShapes Go.ChangeAt Go.Joins
theorem newB_own{w:World}{base n c:Nat}{A:Option Addr}{xs:List Value}(h:w.ownsRow base 5 1 (.slice A n c) n xs):NewB w base A n:=fun h0=>by
 rcases h.2 with⟨_,h1⟩|⟨g,cap,cur,hv,hg,hh,_⟩
 ·omega
 ·injection hv with hv;exact⟨g,0,cur,hv,hg,hh⟩
theorem rowpen_any(w:World)(S:Nat→Prop)(B g:Nat)(f:Nat→Nat)(K:Nat)(h:RowAt w S B g f K)(hK:K≤16000000):
  Calls Tryz.prog 51 #[.pointer (some ⟨g,0,none⟩)] w fun e w'=>∃A' c' L,L=(K+7)/8∧e=.returned (.agg #[.slice A' L c',.int .i64 (K:Int)])∧w'.ownsRow B 5 1 (.slice A' L c') L (bytesL L f)∧Below B w w':=by
 obtain⟨W1,hW1⟩:∃W,W=w.alloc (.cells #[.slice none 0 0,.int .i64 0] 62):=⟨_,rfl⟩
 obtain⟨x,hx⟩:∃x,x=w.heap.size:=⟨_,rfl⟩
 have b1:Below w.heap.size w W1:=by rw[hW1];exact(Below.refl _ _).alloc (Nat.le_refl _) _
 have x1:W1.heap[x]?=some (.cells #[.slice none 0 0,.int .i64 0] 62 (0,0)):=by rw[hW1,hx];exact heap_alloc_new w _
 have r1:=h.after b1
 have hgx:g<x:=by rw[hx];exact h.lt
 have hBx:B≤x:=by rw[hx];exact h.size
 have hs1:x<W1.heap.size:=(Array.getElem?_eq_some_iff.1 x1).1
 have b1':=b1.mono h.size
 have bd:Below W1.heap.size W1 W1.drew:=(Below.refl _ _).drew
 have hcl:=h.1
 clear h
 obtain⟨_,A,c,hq⟩:=r1
 obtain⟨z0,z1,z2,e0,e1,e2⟩:=hq.cells
 have r1:RowAt W1 S B g f K:=⟨hcl,A,c,hq⟩
 have hbt:=fun(V:World) (hV:Below W1.heap.size W1 V)=>rowbits_any V S B g f K (r1.after hV) hK
 obtain⟨L,hL⟩:∃L,L=K/8:=⟨_,rfl⟩
 obtain⟨q,hqq⟩:∃q,q=K%8:=⟨_,rfl⟩
 obtain⟨R,hR⟩:∃R,R=f L:=⟨_,rfl⟩
 rw[←hL,←hR,←hqq]at hq
 rw[←hL]at z0;rw[←hL,←hR]at z1;rw[←hqq]at z2
 have hLb:L≤2000000:=by omega
 have hq8:q<8:=by omega
 have hRb:R<256:=by rw[hR];exact hcl.1 L
 have HBT:=Lib.hid hbt;have HQ:=Lib.hid hq;have HL:=Lib.hid hL;have HQQ:=Lib.hid hqq;have HR:=Lib.hid hR;have HX1:=Lib.hid x1;have HB1:=Lib.hid b1';have HW1:=Lib.hid hW1;have HX:=Lib.hid hx;have HCL:=Lib.hid hcl
 have hgs:g<W1.heap.size:=by omega
 clear hbt hq hL hqq hR x1 b1' b1 hW1 hx r1 hcl
 go_enter Tryz.func51,Tryz.ntmps51
 go_wp2_with (first|rw[←HW1.out,←HX.out]|fail)
 go_cut [3] (fun v3 wx=>∃X,v3=.pointer (some ⟨X,0,none⟩)∧wx.heap[X]?=some (.cells #[.slice A L c,.int .i64 (K:Int)] 62 (0,0))∧W1.heap.size≤X∧Below W1.heap.size W1 wx)
 case first=>
  go_region_law ((refine step_call rfl 50 _ _ rfl (enters_of Tryz.func50 (by kernel_rfl) rfl) (#[.pointer (some ⟨g,0,none⟩)]) (by simp[Act.put,Act.eval,List.setIfInBounds_toArray,List.set_cons_zero,List.set_cons_succ]) (HBT.out _ (by first|exact bd|exact bd.alloc (Nat.le_refl _) _|exact((Below.refl W1.heap.size W1).alloc (Nat.le_refl _) _).drew)) ?_;rintro e w6 ⟨rfl,rfl⟩;refine⟨_,rfl,?_⟩))
  all_goals(
   go_wp2_with fail
   go_meet
   exact⟨_,rfl,heap_alloc_new W1 _,Nat.le_refl _,((Below.refl _ _).alloc (Nat.le_refl _) _).drew.drew⟩)
 case rest=>
  obtain⟨X,rfl,hx,hX2,hb⟩:=hcut
  obtain⟨wx,rfl⟩:∃wx:World,wx=wc:=⟨_,rfl⟩
  have hqx:=HQ.out.after hb
  have hx1:=(hb.block x hs1).trans HX1.out
  have hxX:x<X:=by omega
  have hgX:g<X:=by omega
  have hXs:X<wx.heap.size:=(Array.getElem?_eq_some_iff.1 hx).1
  have hB3:=HB1.out.trans (hb.mono (by omega))
  have hgw:g<wx.heap.size:=by omega
  clear z0 z1 z2 e0 e1 e2 bd HBT HQ HX1 HB1 hb
  obtain⟨z0,z1,z2,e0,e1,e2⟩:=hqx.cells
  have hBB:=hqx.base
  have hbytes:∀(V:World),V.ownsRow B 5 1 (.slice A L c) L (bytesL L f)→V.ownsRow B 5 1 (.slice A L c) L (bytesL L f):=fun _ h=>h
  by_cases hq0:0<q
  ·have dq:decide (0<(q:Int))=true:=decY0 (by omega)
   have k0:wx.cell? ⟨X,0,none⟩=some (.slice A L c):=(cell_of_row wx X 0 _ _ (0,0) hx).trans rfl
   have m0:=frozen_of_row wx X 0 _ _ hx
   obtain⟨A',c',w',hr2,ho2,hb2,hk2,_⟩:=run_oneB_s wx.drew B A L c f hqx.drew.own R HR.out (by omega) hqx.size
   have hXo:(Value.slice A L c).ownBlock≠some X:=own_type hqx.own hx (by kernel_rfl)
   have hxw:=(hk2 X hXs hXo).trans hx
   have hgo:w'.frozen? ⟨X,0,none⟩=false:=frozen_of_row w' X 0 _ _ hxw
   have hgc:w'.cell? ⟨X,0,none⟩=some (.slice A L c):=(cell_of_row w' X 0 _ _ (0,0) hxw).trans rfl
   have hx1o:(Value.slice A L c).ownBlock≠some x:=own_type hqx.own hx1 (by kernel_rfl)
   have hx1w:=(hk2 x (by have:x<wx.heap.size:=(by omega);exact this) hx1o).trans hx1
   have hXo2:(Value.slice A' (L+1) c').ownBlock≠some X:=own_type ho2 hxw (by kernel_rfl)
   obtain⟨U,hU⟩:∃U,U=w'.setCell ⟨X,0,none⟩ (.slice A' (L+1) c'):=⟨_,rfl⟩
   have hux:U.heap[X]?=some (.cells #[.slice A' (L+1) c',.int .i64 (K:Int)] 62 (0,0)):=by rw[hU];exact(heap_setCell_same w' X 0 _ _ _ hxw).trans (by simp)
   have hug:U.heap[x]?=some (.cells #[.slice none 0 0,.int .i64 0] 62 (0,0)):=by rw[hU];exact(Below.heap_setCell w' _ _ x (by show x≠X;omega)).trans hx1w
   have huo:U.ownsRow B 5 1 (.slice A' (L+1) c') (L+1) (bytesL (L+1) f):=by rw[hU];exact own_blk ho2 fun j hj=>Below.heap_setCell w' _ _ j (fun e=>hXo2 (hj.trans (congrArg some e)))
   have hub:Below B w U:=by rw[hU];exact(hB3.drew.trans hb2).setCell (by show B≤X;omega) _
   have hox:∀j,(Value.slice A' (L+1) c').ownBlock=some j→j≠x:=fun j hj e=>own_type huo hug (by kernel_rfl) (hj.trans (congrArg some e))
   have hR8:IntKind.u8.wrap (R:Int)=(R:Int):=by rw[IntKind.wrap_u8];omega
   have hR9:(R:Int)%256=(R:Int):=by omega
   have hLL:L+1=(K+7)/8:=by have:=HL.out;have:=HQQ.out;omega
   have HRUN:=Lib.hid hr2;have HUX:=Lib.hid hux;have HUG:=Lib.hid hug;have HUO:=Lib.hid huo;have HUB:=Lib.hid hub;have HU:=Lib.hid hU;have HOX:=Lib.hid hox;have HLL:=Lib.hid hLL
   clear hr2 ho2 hb2 hk2 hXo hxw hx1o hx1w hXo2 hux hug huo hub hU hox hx hx1 hqx hB3 hbytes hX2 hLL
   go_wp2
   go_region_law ((refine step_app rfl (.tmp 17) (.tmp 23) 22 22 rfl (.slice A L c) (.slice (some ⟨wx.heap.size,0,none⟩) 1 1) rfl rfl (.slice A' (L+1) c') w' HRUN.out ?_))
   all_goals(
    rw[←HU.out]
    go_wp2_with (first
     |(refine wpList_load_row rfl _ _ rfl X rfl _ #[.slice A' (L+1) c',.int .i64 (K:Int)] (0,0) _ HUX.out Tryz.underlying62 rfl szPen2 ?_)
     |(refine wpList_store_rowTo rfl _ _ _ rfl rfl x #[.slice A' (L+1) c',.int .i64 (K:Int)] rfl rfl 62 #[.slice none 0 0,.int .i64 0] HUG.out szPen2 rfl (by simp[Value.oneCell']) ?_)
     |fail)
    refine bodyPost_ret (v:=.agg #[.slice A' (L+1) c',.int .i64 (K:Int)]) ?_ rfl ⟨A',c',L+1,HLL.out,rfl,own_blk HUO.out fun j hj=>setRow_other _ _ _ _ (HOX.out j hj),below_row8 HUB.out hBx _⟩
    exact results_cell_row rfl _ _ x _ _ (0,0) _ rfl (setRow_heap _ _ _ _ _ _ HUG.out) Tryz.underlying62 rfl szPen2)
  ·obtain rfl:q=0:=by omega
   have dq:decide (0<((0:Nat):Int))=false:=decN0 (by omega)
   have hox:∀j,(Value.slice A L c).ownBlock=some j→j≠x:=fun j hj e=>own_type hqx.own hx1 (by kernel_rfl) (hj.trans (congrArg some e))
   have hLL:L=(K+7)/8:=by have:=HL.out;have:=HQQ.out;omega
   have HUX:=Lib.hid hx;have HUG:=Lib.hid hx1;have HUO:=Lib.hid hqx.own;have HUB:=Lib.hid hB3;have HOX:=Lib.hid hox;have HLL:=Lib.hid hLL
   clear hox hx hx1 hqx hB3 hbytes hX2 hLL
   go_wp2_with (first
    |(refine wpList_load_row rfl _ _ rfl X rfl _ #[.slice A L c,.int .i64 (K:Int)] (0,0) _ HUX.out Tryz.underlying62 rfl szPen2 ?_)
    |(refine wpList_store_rowTo rfl _ _ _ rfl rfl x #[.slice A L c,.int .i64 (K:Int)] rfl rfl 62 #[.slice none 0 0,.int .i64 0] HUG.out szPen2 rfl (by simp[Value.oneCell']) ?_)
    |fail)
   refine bodyPost_ret (v:=.agg #[.slice A L c,.int .i64 (K:Int)]) ?_ rfl ⟨A,c,L,HLL.out,rfl,own_blk HUO.out fun j hj=>setRow_other _ _ _ _ (HOX.out j hj),below_row8 HUB.out hBx _⟩
   exact results_cell_row rfl _ _ x _ _ (0,0) _ rfl (setRow_heap _ _ _ _ _ _ HUG.out) Tryz.underlying62 rfl szPen2
end Go.Proofs.YtgokdgcmkcmjeaaGreat
namespace Go.Proofs.YtgokdgcmkcmjeaaGreat
open Go.RowKit
def begN(t:Nat→Nat)(k m:Nat):Nat:=if m<k then fstN t m else t m
theorem beg_step(t:Nat→Nat)(k:Nat):upd (begN t k) k (fstN t k)=begN t (k+1):=by
 funext m
 unfold upd begN
 by_cases e:m=k
 ·subst e;rw[if_pos rfl,if_pos (by omega)]
 ·rw[if_neg e]
  by_cases h:m<k
  ·rw[if_pos h,if_pos (by omega)]
  ·rw[if_neg h,if_neg (by omega)]
theorem beg_at(t:Nat→Nat)(k:Nat):begN t k k=t k:=by unfold begN;rw[if_neg (by omega)]
theorem beg_none(t:Nat→Nat):begN t 0=t:=by funext m;unfold begN;rw[if_neg (by omega)]
theorem tal_begin_any(w:World)(b:Nat)(t:Nat→Nat)(ht:∀m,t m≤1000)(h:Tal w b t):
  Calls Tryz.prog 132 #[.pointer (some ⟨b,0,none⟩)] w fun e w'=>e=.returned (.tuple #[])∧Below b w w'∧Tal w' b (fstN t):=by
 have HT:=Lib.hid ht
 rw[←beg_none t]at h
 have H0:=Lib.hid h
 clear ht h
 go_enter Tryz.func132,Tryz.ntmps132
 go_wp2
 go_loopw [2,6] (fun l i wr=>∃k:Nat,k≤16∧i=.int .i64 k∧l=.int .i64 (fstN t k:Nat)∧Tal wr b (begN t k)∧Below b w wr) (fun _ i _=>16-(intOf i).toNat)
 case atStart=>exact⟨0,by omega,rfl,rfl,H0.out,Below.refl _ _⟩
 case round=>
  obtain⟨k,hk,rfl,rfl,ht,hb⟩:=hrel
  have hm:=HT.out k
  have hbd:=fstN_in HT.out hk
  have HS:=Lib.hid (show fstN t (k+1)=2*(fstN t k+t k)from rfl)
  have HST:=Lib.hid (beg_step t k)
  obtain⟨p,hp⟩:∃p,p=fstN t k:=⟨_,rfl⟩
  have HP:=Lib.hid hp
  rw[←hp]at hbd HS HST⊢
  clear hp
  by_cases hlt:k<16
  ·have c1:=ht.cell hlt
   have f1:=ht.frozen k
   rw[beg_at]at c1
   have H1:=Lib.hid ht;have HB:=Lib.hid hb
   clear ht hb
   go_wp2
   go_quiet (fail)
   go_wp2
   go_roundw
   case rel=>
    have hset:=H1.out.set k p
    rw[HST.out]at hset
    exact⟨k+1,by omega,by go_num,val_int (by rw[HS.out];omega),hset,(below_drawN HB.out _).setCell (by simp) _⟩
   case measure=>simp[intOf];omega
  ·obtain rfl:k=16:=by omega
   have H1:=Lib.hid ht;have HB:=Lib.hid hb
   clear ht hb hlt hk
   go_wp2
   go_end0
   exact⟨rfl,HB.out,H1.out.ext fun i hi=>by unfold begN;rw[if_pos hi]⟩
theorem next_any(w:World)(b m:Nat)(t:Nat→Nat)(hm:m<16)(ht:t m<4294967296)(h:Tal w b t):
  Calls Tryz.prog 133 #[.pointer (some ⟨b,0,none⟩),.int .u8 (m:Int)] w fun e w'=>e=.returned (.agg #[.int .u32 (t m:Nat),.int .u8 (m:Int)])∧Below w.heap.size (w.setCell ⟨b,m,none⟩ (.int .i64 ((t m+1:Nat):Int))) w':=by
 have c1:=h.cell hm
 have f1:=h.frozen m
 have hlt:=h.lt
 have H:=Lib.hid h
 obtain⟨x,hx⟩:∃x,x=t m:=⟨_,rfl⟩
 rw[←hx]at c1 ht⊢
 have HX:=Lib.hid hx
 clear h hx
 go_enter Tryz.func133,Tryz.ntmps133
 go_wp2
 have g1:IntKind.i64.wrap ((x:Int)+1)=((x+1:Nat):Int):=by rw[IntWalk.i64_in _ ⟨by omega,by omega⟩];rfl
 refine wp_region_still_tail 8 (by kernel_rfl) (by kernel_rfl) ?_
 simp only[List.take_succ_cons,List.take_zero,List.drop_succ_cons,List.drop_zero]
 change wpStill _ _ (World.drew _) (fun a'=>wpList _ _ _ _ a' (World.drew _)) _ _
 have hm2:(m:Int)<16:=by omega
 have hm0:¬(m:Int)<0:=by omega
 have hm4:¬(16:Int)≤m:=by omega
 repeat still_step
 refine wpStill_nil ?_
 clear hm2 hm0 hm4
 go_wp2
 clear g1
 have hb:Below w.heap.size (w.setCell ⟨b,m,none⟩ (.int .i64 ((x:Int)+1))) (w.setCell ⟨b,m,none⟩ (.int .i64 ((x:Int)+1))):=Below.refl _ _
 have hs:(w.setCell ⟨b,m,none⟩ (.int .i64 ((x:Int)+1))).heap.size=w.heap.size:=by simp[World.setCell]
 exact bodyPost_ret (v:=.agg #[.int .u32 (x:Int),.int .u8 (m:Int)]) (by simp[results,Tryz.results133,go_sem]) rfl ⟨rfl,((hb.alloc (by omega) _).alloc (by rw[World.size_alloc];omega) _).drew⟩
end Go.Proofs.YtgokdgcmkcmjeaaGreat
namespace Go.Proofs.YtgokdgcmkcmjeaaGreat
open Go.RowKit
def preX(f:Nat→Nat)(n k j:Nat):Nat:=if j<k then codeB f n j else 0
def preLc(f:Nat→Nat)(k j:Nat):Nat:=if j<k then f j else 0
theorem pre_step(f:Nat→Nat)(n k:Nat):upd (preX f n k) k (codeB f n k)=preX f n (k+1)∧upd (preLc f k) k (f k)=preLc f (k+1):=by
 constructor
 ·funext j
  unfold upd preX
  by_cases e:j=k
  ·subst e;rw[if_pos rfl,if_pos (by omega)]
  ·rw[if_neg e]
   by_cases h:j<k
   ·rw[if_pos h,if_pos (by omega)]
   ·rw[if_neg h,if_neg (by omega)]
 ·funext j
  unfold upd preLc
  by_cases e:j=k
  ·subst e;rw[if_pos rfl,if_pos (by omega)]
  ·rw[if_neg e]
   by_cases h:j<k
   ·rw[if_pos h,if_pos (by omega)]
   ·rw[if_neg h,if_neg (by omega)]
theorem pre_skip{f:Nat→Nat}{k:Nat}(n:Nat)(h:f k=0):preX f n k=preX f n (k+1)∧preLc f k=preLc f (k+1):=by
 have hc:codeB f n k=0:=by unfold codeB;rw[if_pos h]
 constructor
 ·funext j
  unfold preX
  by_cases e:j=k
  ·subst e;rw[if_neg (by omega),if_pos (by omega),hc]
  ·by_cases h:j<k
   ·rw[if_pos h,if_pos (by omega)]
   ·rw[if_neg h,if_neg (by omega)]
 ·funext j
  unfold preLc
  by_cases e:j=k
  ·subst e;rw[if_neg (by omega),if_pos (by omega),h]
  ·by_cases h:j<k
   ·rw[if_pos h,if_pos (by omega)]
   ·rw[if_neg h,if_neg (by omega)]
theorem codes_any(w:World)(A:Option Addr)(n c:Nat)(f:Nat→Nat)(most:Int)(hr:RdB w w.heap.size A n f)(hn:n≤1000000):
  Calls Tryz.prog 92 #[.slice A n c,.int .i64 most] w fun e w'=>∃A' c',e=.returned (.tuple #[.slice A' (lenC f n most) c',.int .i64 (checkE f n most)])∧Below w.heap.size w w'∧OutC w.heap.size w' A' (lenC f n most) (codeX f n most) f:=by
 have HR:=Lib.hid hr
 clear hr
 have hcr:=check_any w A n c f most HR.out hn
 by_cases h0:checkE f n most=0
 ·obtain⟨_,h15,hn3,hb,ha,_⟩:=check_ok h0
  have H15:=Lib.hid (show∀j,j<n→f j≤15 from fun j hj=>by have:=hb j hj;omega)
  have HA:=Lib.hid ha
  have H0:=Lib.hid h0
  have hl:lenC f n most=n:=by unfold lenC;rw[if_pos h0]
  rw[h0]at hcr
  have HCR:=Lib.hid hcr
  rw[hl,h0]
  obtain⟨i0,hi,hz0,hz1,hz2⟩:=info_parts infoCode
  have hmk:∀u:World,(Instr.makeSlice 107 (.int .i64 (n:Int)) (.int .i64 (n:Int))).run Tryz.prog u=
    .ok (.slice (some ⟨u.heap.size,0,none⟩) n n) (u.alloc (.cells (madeCells #[.int .u32 0,.int .u8 0] (n*2)) 159)):=fun u=>by
   have h:=run_make (P:=Tryz.prog) u 107 159 i0 (.agg #[.int .u32 0,.int .u8 0]) Tryz.underlying107 hi hz0 .i64 .i64 (n:Int) (n:Int) (by omega) (Int.le_refl _) (by rw[hz2];omega) (by omega)
   rw[Int.toNat_natCast]at h
   simpa[hz1,Value.cells]using h
  have hz:=(zero_of_info infoTal).1
  clear hcr hb ha hl h0 hi hz0 hz1 hz2
  go_enter Tryz.func92,Tryz.ntmps92
  go_wp2_with fail
  refine HCR.out.mono ?_
  rintro e w1 ⟨rfl,hb⟩
  have HB:=Lib.hid hb
  have HR1:=Lib.hid ((HR.out.below hb (Nat.le_refl _)).more hb.size)
  clear hb
  go_wp2_with fail
  refine(count_any w1 A n c f HR1.out hn H15.out).mono ?_
  rintro e w2 ⟨rfl,hb⟩
  have HB2:=Lib.hid (HB.out.trans (hb.mono HB.out.size))
  have HR2:=Lib.hid ((HR1.out.below hb (Nat.le_refl _)).more hb.size)
  clear hb
  have ht0:Tal (w2.alloc (.cells (talA zeroN) 200)) w2.heap.size zeroN:=heap_alloc_new w2 _
  have HT0:=Lib.hid ht0
  clear ht0
  go_wp2_with (refine wpList_store_rowT rfl _ _ _ rfl w2.heap.size (talA fun m=>tcN f m n) rfl rfl _ (talA zeroN) HT0.out (by rw[talA_size];exact szTal) (by rw[talA_size,talA_size]) (talA_one _) ?_)
  have ht1:=HT0.out.setRow (h:=fun m=>tcN f m n)
  have hb3:=below_setRowT ((HB2.out.alloc HB2.out.size (.cells (talA zeroN) 200))) (g:=w2.heap.size) HB2.out.size (talA fun m=>tcN f m n)
  have hr3:=(HR2.out.below (below_setRowT ((Below.refl w2.heap.size w2).alloc (Nat.le_refl _) (.cells (talA zeroN) 200)) (g:=w2.heap.size) (Nat.le_refl _) (talA fun m=>tcN f m n)) (Nat.le_refl _))
  have hsz:=HB2.out.size
  obtain⟨b,hbe⟩:∃b,b=w2.heap.size:=⟨_,rfl⟩
  rw[←hbe]at ht1 hb3 hr3 hsz⊢
  generalize (w2.alloc (.cells (talA zeroN) 200)).setRow b (talA fun m=>tcN f m n)=w3 at ht1 hb3 hr3⊢
  have HT1:=Lib.hid ht1
  have HB3:=Lib.hid hb3
  have HR3:=Lib.hid hr3
  clear ht1 hb3 hr3 hbe HT0
  refine(tal_begin_any w3 b _ (fun m=>Nat.le_trans (cntN_le f m n) (by omega)) HT1.out).mono ?_
  rintro e w4 ⟨rfl,hb,ht⟩
  rw[nxt_none]at ht
  have HB4:=Lib.hid (HB3.out.trans (hb.mono hsz))
  have HR4:=Lib.hid (HR3.out.below hb (Nat.le_refl _))
  have HT4:=Lib.hid ht
  have hblt:=ht.lt
  clear hb ht
  go_wp2
  clear hmk
  go_loopw [25] (fun i wr=>∃k:Nat,k≤n∧i=.int .i64 k∧RowC wr w4.heap.size n (preX f n k) (preLc f k)∧Tal wr b (nxtN f n k)∧RdB wr b A n f∧Below w.heap.size w wr) (fun i _=>n-(intOf i).toNat)
  case atStart=>
   refine⟨0,Nat.zero_le _,rfl,(rowC_made w4 n).ext (fun j _=>?_) (fun j _=>?_),HT4.out.alloc _,HR4.out.below ((Below.refl w4.heap.size w4).alloc (Nat.le_refl _) _) (by omega),HB4.out.alloc HB4.out.size _⟩
   ·unfold preX;rw[if_neg (by omega)];rfl
   ·unfold preLc;rw[if_neg (by omega)];rfl
  case round=>
   obtain⟨k,hk,rfl,hrow,ht,hr,hb⟩:=hrel
   by_cases hlt:k<n
   ·have hf:=H15.out k hlt
    obtain⟨ab,o,hA,_,hc⟩:=hr.2 (by omega)
    have hcell:=hc k hlt
    clear hc
    have hw4:=hrow.lt
    have HROW:=Lib.hid hrow;have HT:=Lib.hid ht;have HB:=Lib.hid hb;have HRR:=Lib.hid hr
    clear hrow ht hb hr
    subst hA
    by_cases hp:0<f k
    ·have hx:=codeB_lt H0.out k hlt
     have hcx:=nxt_code (n:=n) hp hf
     have hf1:=HROW.out.frozen (k*2)
     have hf2:=HROW.out.frozen (k*2+1)
     have hc1:=(HROW.out.cell hlt).1
     have hc2:=(HROW.out.cell hlt).2
     rw[hcx]at hx
     have HCX:=Lib.hid hcx
     clear hcx hf1 hf2 hc1 hc2
     go_wp2_with fail
     refine(next_any _ b (f k) _ (by omega) hx HT.out).mono ?_
     rintro e wn ⟨rfl,hbn⟩
     have hs0:(wr.setCell ⟨b,f k,none⟩ (.int .i64 ((nxtN f n k (f k)+1:Nat):Int))).heap.size=wr.heap.size:=by simp[World.setCell]
     have hbx:Below b wr wn:=((Below.refl b wr).setCell (Nat.le_refl _) _).trans (hbn.mono (by omega))
     have hrow1:=(HROW.out.other (p:=⟨b,f k,none⟩) (by show w4.heap.size≠b;omega) (.int .i64 ((nxtN f n k (f k)+1:Nat):Int))).below hbn hw4
     have ht1:=(HT.out.set (f k) (nxtN f n k (f k)+1)).below hbn (by omega)
     rw[nxt_step hp]at ht1
     have HROW1:=Lib.hid hrow1;have HT1:=Lib.hid ht1
     have HRR1:=Lib.hid (HRR.out.below hbx (Nat.le_refl _))
     have HB1:=Lib.hid (HB.out.trans (hbx.mono hsz))
     have hwn:=hrow1.lt
     have hc1:=(hrow1.cell hlt).1
     have hc2:=(hrow1.cell hlt).2
     have hf1:=hrow1.frozen (k*2)
     have hf2:=hrow1.frozen (k*2+1)
     clear hbn hbx hrow1 ht1 hs0 hcell
     obtain⟨x,hxe⟩:∃x,x=nxtN f n k (f k):=⟨_,rfl⟩
     rw[←hxe]at HCX hx⊢
     have HXE:=Lib.hid hxe
     clear hxe
     go_wp2
     go_roundw
     case rel=>
      have hset:=HROW1.out.set k x (f k)
      rw[←HCX.out,(pre_step f n k).1,(pre_step f n k).2]at hset
      refine⟨k+1,by omega,by go_num,?_,(HT1.out.other (by show b≠w4.heap.size;omega) _).other (by show b≠w4.heap.size;omega) _,HRR1.out.below (((Below.refl b wn).setCell (by show b≤w4.heap.size;omega) _).setCell (by show b≤w4.heap.size;omega) _) (Nat.le_refl _),(HB1.out.setCell (by show w.heap.size≤w4.heap.size;omega) _).setCell (by show w.heap.size≤w4.heap.size;omega) _⟩
      rw[←HCX.out];exact hset
     case measure=>simp[intOf];omega
    ·have hz0:f k=0:=by omega
     have hno:decide (0<((f k:Nat):Int))=false:=by simp;omega
     have HS:=Lib.hid (nxt_skip (n:=n) hz0)
     have HP:=Lib.hid (pre_skip n hz0)
     clear hz0
     go_wp2
     go_roundw
     case rel=>
      refine⟨k+1,by omega,by go_num,?_,?_,HRR.out,HB.out⟩
      ·rw[←HP.out.1,←HP.out.2];exact HROW.out
      ·rw[←HS.out];exact HT.out
     case measure=>simp[intOf];omega
   ·obtain rfl:k=n:=by omega
    have HROW:=Lib.hid hrow;have HB:=Lib.hid hb
    clear hrow ht hb hr hlt hk
    go_wp2
    go_ret2
    refine⟨_,_,rfl,HB.out,.inr ⟨_,rfl,by omega,HROW.out.ext (fun j hj=>?_) (fun j hj=>?_)⟩⟩
    ·rw[codeX_in H0.out j hj];unfold preX;rw[if_pos hj]
    ·unfold preLc;rw[if_pos hj]
 ·have hl:lenC f n most=0:=by unfold lenC;rw[if_neg h0]
  have hne:(checkE f n most !=0)=true:=by simpa using h0
  rw[hl]
  obtain⟨E,hE⟩:∃E,E=checkE f n most:=⟨_,rfl⟩
  rw[←hE]at hcr hne⊢
  have HCR:=Lib.hid hcr
  clear hcr h0 hl hE
  go_enter Tryz.func92,Tryz.ntmps92
  go_wp2_with fail
  refine HCR.out.mono ?_
  rintro e w' ⟨rfl,hb⟩
  have HB:=Lib.hid hb
  clear hb
  go_wp2
  go_ret2
  exact⟨_,_,rfl,HB.out,.inl rfl⟩
end Go.Proofs.YtgokdgcmkcmjeaaGreat
namespace Go.Proofs.YtgokdgcmkcmjeaaGreat
open Go.RowKit Go.ChangeShapes Go.WideShapes Go.ChangeAt Go.Joins
theorem all_cut{f:Nat→Nat}{n:Nat}:∀N,n≤N→(∀i,n≤i→i<N→f i=0)→allN f N=allN f n∧usedN f N=usedN f n
 |0,h,_=>by rw[show n=0 by omega];exact⟨rfl,rfl⟩
 |N+1,h,hz=>by
  rcases Nat.eq_or_lt_of_le h with e|e
  ·rw[e];exact⟨rfl,rfl⟩
  ·obtain⟨h1,h2⟩:=all_cut N (by omega) fun i a b=>hz i a (by omega)
   have h0:=hz N (by omega) (by omega)
   simp only[allN,usedN]
   rw[h1,h2,h0,if_neg (by omega),if_neg (by omega)]
   exact⟨rfl,rfl⟩
theorem check_cut{f:Nat→Nat}{n N:Nat}{most most':Int}(h:checkE f N most=0)(hn:n≤N)(hz:∀i,n≤i→i<N→f i=0)(hm:most≤most')(hm2:most'≤15):checkE f n most'=0:=by
 obtain⟨h1,h2,h3,h4,h5,h6⟩:=check_ok h
 obtain⟨e1,e2⟩:=all_cut N hn hz
 unfold checkE
 rw[if_neg (by omega),if_neg (by omega),if_neg]
 ·unfold endE
  rw[←e1,←e2,if_neg (by omega),if_pos h6]
 ·unfold bigB
  rw[decide_eq_true_eq]
  rintro⟨j,hj,hb⟩
  have:=h4 j (by omega)
  omega
theorem cutN_out{f:Nat→Nat}{least N i:Nat}(h1:cutN f least N≤i)(h2:i<N):f i=0:=by
 rcases Nat.eq_zero_or_pos (f i)with h|h
 ·exact h
 ·have:=cutN_in f least N i h2 (by omega);omega
theorem lenM_check{c:Nat→Nat}{n most:Nat}(h1:1≤most)(h2:most≤15)(hn:n≤320)(hn2:n≤2^most)(hc:∀i,c i≤1073741824):checkE (lenM c n most) n (most:Int)=0:=by
 have h:=(out_may (ask_frq h1 h2 hn hn2 hc)).2.1
 rw[frqL_length]at h
 exact h
theorem lnA_check(l:List Tok)(hl:l.length≤1000000):checkE (lnA l) (nA l) 15=0:=by
 obtain⟨_,_,_,_,a1,a2,_⟩:=dyn_ok l hl
 have h:=lenM_check (c:=cntA l) (n:=286) (most:=15) (by omega) (by omega) (by omega) (by decide) (fun i=>by have:=cntA_le l i;omega)
 exact check_cut h a2 (fun i h1 h2=>cutN_out h1 h2) (by omega) (by omega)
theorem lnB_check(l:List Tok)(hl:l.length≤1000000):checkE (lnB l) (nB l) 15=0:=by
 obtain⟨_,_,_,_,_,_,b1,b2,_⟩:=dyn_ok l hl
 have h:=lenM_check (c:=cntB l) (n:=30) (most:=15) (by omega) (by omega) (by omega) (by decide) (fun i=>by have:=cntB_le l i;omega)
 exact check_cut h b2 (fun i h1 h2=>cutN_out h1 h2) (by omega) (by omega)
theorem lnR_check(l:List Tok)(hl:l.length≤1000000):checkE (lnR l) 19 15=0:=by
 have h:=lenM_check (c:=cntR (runD l)) (n:=19) (most:=7) (by omega) (by omega) (by omega) (by decide) (fun i=>by have:=cntR_le (runD l) i;have:=(run_ok l hl).2;omega)
 exact check_cut h (Nat.le_refl _) (fun i h1 h2=>absurd h1 (by omega)) (by omega) (by omega)
theorem fixA_check:checkE fixA 288 15=0:=by decide+kernel
theorem fixB_check:checkE fixB 32 15=0:=by decide+kernel
theorem codes11_any(w:World)(A:Option Addr)(n c:Nat)(f:Nat→Nat)(hr:RdB w w.heap.size A n f)(h0:0<n)(hn:n≤1000000)(hf:checkE f n 15=0):
  Calls Tryz.prog 48 #[.slice A n c] w fun e w'=>∃g c',e=.returned (.slice (some ⟨g,0,none⟩) n c')∧w.heap.size≤g∧RowC w' g n (codeB f n) f∧Below w.heap.size w w':=by
 have hc:=codes_any w A n c f 15 hr hn
 rw[show lenC f n 15=n by unfold lenC;rw[if_pos hf],hf]at hc
 have HC:=Lib.hid hc
 have HF:=Lib.hid hf
 clear hc hr hf
 go_enter Tryz.func48,Tryz.ntmps48
 go_wp2_with fail
 refine HC.out.mono ?_
 rintro e w1 ⟨A',c',rfl,hb,ho⟩
 rcases ho with rfl|⟨g,rfl,hg,hrc⟩
 ·omega
 have HRC:=Lib.hid (hrc.ext (x':=codeB f n) (l':=f) (fun j hj=>codeX_in HF.out j hj) (fun _ _=>rfl));have HB:=Lib.hid hb
 clear hb hrc
 go_wp2
 go_ret
 exact⟨g,c',rfl,hg,HRC.out,HB.out⟩
theorem code_fits{F:Nat→Nat}{n i:Nat}(h:checkE F n 15=0)(hi:i<n):codeB F n i<2^F i∧F i≤15:=by
 obtain⟨_,_,_,h4,h5,_⟩:=check_ok h
 exact⟨fits_code hi (fun j hj=>by have:=h4 j hj;omega) h5,by have:=h4 i hi;omega⟩
theorem of11_any(w:World)(g n c:Nat)(F:Nat→Nat)(i:Nat)(hr:RowC w g n (codeB F n) F)(hF:checkE F n 15=0)(hi:i<n)(_hn:n≤1000000):
  Calls Tryz.prog 49 #[.slice (some ⟨g,0,none⟩) n c,.int .i64 (i:Int)] w fun e w'=>e=.returned (.agg (numC (codP F n i)).toArray)∧Below w.heap.size w w':=by
 obtain⟨h1,h2⟩:=code_fits hF hi
 obtain⟨c0,c1⟩:=hr.cell hi
 obtain⟨X,hX⟩:∃X,X=codeB F n i:=⟨_,rfl⟩
 obtain⟨Y,hY⟩:∃Y,Y=F i:=⟨_,rfl⟩
 have hcp:codP F n i=(turnN X Y,Y):=by unfold codP;rw[hX,hY]
 rw[hcp]
 rw[←hX]at h1 c0
 rw[←hY]at h1 h2 c1
 have hX32:X<4294967296:=by
  have e:(2:Nat)^Y≤2^15:=Nat.pow_le_pow_right (by omega) h2
  have e2:(2:Nat)^15=32768:=rfl
  omega
 obtain⟨Z,hZ⟩:∃Z,Z=turnN X Y:=⟨_,rfl⟩
 have htn:=fun V:World=>turn_ok X Y V hX32 (by omega) (fitsB_nat.2 ⟨by omega,h1⟩)
 rw[←hZ]at htn⊢
 obtain⟨W1,hW1⟩:∃W,W=w.alloc (.cells #[.int .u32 0,.int .i64 0] 146):=⟨_,rfl⟩
 obtain⟨h,hh⟩:∃h,h=w.heap.size:=⟨_,rfl⟩
 obtain⟨W2,hW2⟩:∃W,W=mkV W1 #[.int .u32 0,.int .u8 0] #[.int .u32 (X:Int),.int .u8 (Y:Int)] 159:=⟨_,rfl⟩
 have b1:Below h w W1:=by rw[hW1,hh];exact(Below.refl _ _).alloc (Nat.le_refl _) _
 have x1:W1.heap[h]?=some (.cells #[.int .u32 0,.int .i64 0] 146 (0,0)):=by rw[hW1,hh];exact heap_alloc_new w _
 have s1:W1.heap.size=h+1:=by rw[hW1,hh];simp
 have b2:Below W1.heap.size W1 W2:=by rw[hW2];exact mkV_below _ _ _ _
 have r2:W2.heap[W1.heap.size]?=some (.cells #[.int .u32 (X:Int),.int .u8 (Y:Int)] 159 (0,0)):=by rw[hW2];exact mkV_row W1 _ _ _
 have x2:=(b2.block h (by omega)).trans x1
 have y0:W2.cell? ⟨W1.heap.size,0,none⟩=some (.int .u32 (X:Int)):=(cell_of_row W2 _ 0 _ _ (0,0) r2).trans rfl
 have y1:W2.cell? ⟨W1.heap.size,1,none⟩=some (.int .u8 (Y:Int)):=(cell_of_row W2 _ 1 _ _ (0,0) r2).trans rfl
 have hrg:W1.rangeAt g (i*2) [.int .u32 (X:Int),.int .u8 (Y:Int)]:=by
  have hgl:g<h:=by rw[hh];exact hr.lt
  intro j v hv
  rw[b1.cell (p:=⟨g,i*2+j,none⟩) hgl]
  rcases j with _|_|j
  ·simp at hv;subst hv;exact c0
  ·simp at hv;subst hv;exact c1
  ·simp at hv
 have HRG:=Lib.hid hrg;have HTN:=Lib.hid htn;have HW1:=Lib.hid hW1;have HH:=Lib.hid hh;have HW2:=Lib.hid hW2;have HB:=Lib.hid (b1.trans (b2.mono (by omega)));have X2:=Lib.hid x2;have HS1:=Lib.hid s1
 have hili:(i:Int)<(n:Int):=by omega
 clear hrg htn hW1 hh hW2 b1 b2 x1 x2 s1 r2 hr hF hX hY hZ hcp h1 c0 c1
 go_enter Tryz.func49,Tryz.ntmps49
 go_wp2_with (first
  |(rw[←HW1.out,←HH.out])
  |(refine wpList_load_mid rfl _ _ rfl g (i*2) rfl [.int .u32 (X:Int),.int .u8 (Y:Int)] _ HRG.out Tryz.underlying159 rfl (szCodeL _ _) ?_)
  |(refine wpList_store_rowTo rfl _ _ _ rfl rfl W1.heap.size #[.int .u32 (X:Int),.int .u8 (Y:Int)] rfl rfl 159 #[.int .u32 0,.int .u8 0] (heap_alloc_new W1 _) (szCodeL _ _) rfl (by simp[Value.oneCell']) ?_;change wpList _ _ _ _ _ (mkV W1 #[.int .u32 0,.int .u8 0] #[.int .u32 (X:Int),.int .u8 (Y:Int)] 159);rw[←HW2.out])
  |fail)
 refine(HTN.out W2).mono ?_
 rintro e w3 ⟨rfl,rfl⟩
 go_wp2_with (first
  |(refine wpList_buildTo rfl 146 #[(0,.tmp 21),(1,.tmp 24)] rfl (some 25) rfl #[.int .u32 (Z:Int),.int .i64 (Y:Int)] ?_ ?_;focus(simpa[Act.eval]using built_numP (Z:Int) (Y:Int)))
  |(refine wpList_store_rowTo rfl _ _ _ rfl rfl h #[.int .u32 (Z:Int),.int .i64 (Y:Int)] rfl rfl 146 #[.int .u32 0,.int .i64 0] X2.out (szNumP (Z,Y)) rfl (numA_one (Z,Y)) ?_)
  |fail)
 refine bodyPost_ret (v:=.agg #[.int .u32 (Z:Int),.int .i64 (Y:Int)]) ?_ rfl ⟨rfl,by rw[←HH.out];exact below_row8 HB.out (Nat.le_refl _) _⟩
 exact results_cell_row rfl _ _ h _ _ (0,0) _ rfl (setRow_heap _ _ _ _ _ _ X2.out) Tryz.underlying146 rfl (szNumP (Z,Y))
end Go.Proofs.YtgokdgcmkcmjeaaGreat
namespace Go.Proofs.YtgokdgcmkcmjeaaGreat
theorem pt_h13{m:Nat}(h:0<m):pt m≤16384:=by
 unfold pt
 have h1:(2:Nat)^1≤2^m:=Nat.pow_le_pow_right (by omega) h
 exact Nat.le_trans (Nat.div_le_div_left h1 (by omega)) (by decide)
theorem all_used(f:Nat→Nat):∀n,allN f n≤16384*usedN f n
 |0=>Nat.le_refl _
 |n+1=>by
  have:=all_used f n
  unfold allN usedN
  split
  ·rename_i h;have:=pt_h13 h;omega
  ·omega
theorem two_whole{f:Nat→Nat}{n:Nat}{most:Int}(h:checkE f n most=0):2≤(((grS f n most).length:Nat):Int)↔allN f n=32768:=by
 obtain⟨h1,h2,h3,h4,h5,h6⟩:=check_ok h
 have e:(grS f n most).length=usedN f n:=by
  unfold grS
  rw[if_pos h,natsI_length,symL_length,usedN_sum f n (fun j hj=>by have:=h4 j hj;omega)]
 rw[e]
 have:=all_used f n
 constructor
 ·intro h7;rcases h6 with h6|h6|h6<;>omega
 ·intro h7;omega
def Made(n:Nat)(l:List (Int×Int))(out:List Nat):Prop:=∀c,strR n (l++c) []=strR n c out
theorem made_nil(n:Nat):Made n [] []:=fun _=>rfl
theorem made_on{n:Nat}{l:List (Int×Int)}{out:List Nat}{y x:Nat}(h:Made n l out)(hy:y≤18)(hx:x<2^bitsR (y:Int))(h2:¬(((y:Int)=16∧out=[])∨n<out.length+timesR (y:Int) (x:Int))):
  Made n (l++[((y:Int),(x:Int))]) (out++List.replicate (timesR (y:Int) (x:Int)) (valR (y:Int) out)):=fun c=>by
 rw[List.append_assoc,h]
 show strR n (((y:Int),(x:Int))::c) out=_
 rw[strR,if_neg (by have:((2:Nat)^bitsR (y:Int):Nat)=(2:Nat)^bitsR (y:Int):=rfl;omega),if_neg h2]
theorem made_end{n:Nat}{l:List (Int×Int)}{out:List Nat}(h:Made n l out)(hl:out.length=n)(hn:n≤320):strO l (n:Int)=(0,out):=by
 unfold strO
 rw[if_neg (by omega),Int.toNat_natCast]
 have:=h []
 rw[List.append_nil]at this
 rw[this,strR,if_pos hl]
theorem ruE_err{F g:Nat→Nat}{L n made:Nat}{s:Rz}(h:(ruS F g L s).2≠0):ruE F g L n made s=ruS F g L s:=by unfold ruE;rw[wantS_err h,wantS_err h]
theorem lnS_made{F g:Nat→Nat}{L n:Nat}(hF:∀j,19≤j→F j=0):∀k made l s out,Made n l out→out.length=made→made≤n→s.1≤8*L→(lnS F g L n k made l s).2.2=0→n≤k+made→∃out',Made n (lnS F g L n k made l s).1 out'∧out'.length=n
 |0,made,l,s,out,hm,hl,hn,_,_,hk=>⟨out,hm,by omega⟩
 |k+1,made,l,s,out,hm,hl,hn,hs,he,hk=>by
  by_cases h0:made<n∧s.2=0
  ·rw[lnS_on h0]at he⊢
   obtain⟨a,e⟩:=s
   obtain⟨h1,rfl⟩:made<n∧e=0:=h0
   by_cases hE:(ruE F g L n made (a,0)).2=0
   ·have w1:=wantS_ok (by decide) hE
    have w2:=wantS_ok (by decide) w1.1
    have hy:ruY F g L (a,0)≤18:=by
     show(if(0:Int)≠0 then 0 else if(readR F 320 g L a 17 0).2.2≠0 then 0 else(readR F 320 g L a 17 0).1)≤18
     rw[if_neg (fun h=>h rfl)]
     split
     ·omega
     ·rename_i h2
      have hz:(readR F 320 g L a 17 0).2.2=0:=by omega
      obtain⟨kk,e1,e2,e3⟩:=read_found 17 0 hz
      have h3:=of_decide_eq_true e3
      rcases Nat.lt_or_ge (readR F 320 g L a 17 0).1 19 with h4|h4
      ·omega
      ·have:=hF _ h4;omega
    have hx:ruX F g L (a,0)<2^bitsR (ruY F g L (a,0):Int):=tkV_lt _ _ _ _
    have hno:¬(((ruY F g L (a,0):Int)=16∧out=[])∨n<out.length+timesR (ruY F g L (a,0):Int) (ruX F g L (a,0):Int)):=by
     have q1:=of_decide_eq_true w1.2
     have q2:=of_decide_eq_true w2.2
     have q3:ruT F g L (a,0)=timesR (ruY F g L (a,0):Int) (ruX F g L (a,0):Int):=rfl
     rintro(⟨r1,r2⟩|r1)
     ·subst r2
      simp at hl
      rcases q2 with q2|q2<;>omega
     ·omega
    have q1:=of_decide_eq_true w1.2
    have q3:ruT F g L (a,0)=timesR (ruY F g L (a,0):Int) (ruX F g L (a,0):Int):=rfl
    have q4:=(timesR_in (y:=ruY F g L (a,0)) (ruX_lt F g L (a,0))).1
    refine lnS_made hF k _ _ _ _ (made_on hm hy hx hno) ?_ q1 (ruE_in hs) he (by omega)
    rw[List.length_append,List.length_replicate,hl,q3]
   ·rw[lnS_end (fun h=>hE h.2)]at he
    exact absurd he hE
  ·rw[lnS_end h0]at he⊢
   have:¬made<n:=fun h=>h0 ⟨h,he⟩
   exact⟨out,hm,by omega⟩
theorem dy_len(g:Nat→Nat)(L:Nat)(s:Rz)(hs:s.1≤8*L)(h:(dyR g L s).2.2=0):(dyO g L s).length=dyL g L s+dyF g L s∧(strO (dyR g L s).1 ((dyL g L s+dyF g L s:Nat):Int)).1=0:=by
 have b1:tkV g L 5 s<32:=tkV_lt g L 5 s
 have b2:tkV g L 5 (dyS1 L s)<32:=tkV_lt g L 5 _
 have h320:dyL g L s+dyF g L s≤320:=by unfold dyL dyF;omega
 obtain⟨out,h1,h2⟩:=lnS_made (F:=extF 19 (dyH g L s)) (g:=g) (L:=L) (n:=dyL g L s+dyF g L s) (fun j hj=>extF_out _ hj) (dyL g L s+dyF g L s) 0 [] (dyS5 g L s) [] (made_nil _) rfl (Nat.zero_le _) (dyS5_in hs) h (by omega)
 have h3:=made_end h1 h2 h320
 have h4:dyO g L s=(strO (lnS (extF 19 (dyH g L s)) g L (dyL g L s+dyF g L s) (dyL g L s+dyF g L s) 0 [] (dyS5 g L s)).1 ((dyL g L s+dyF g L s:Nat):Int)).2:=rfl
 have h5:dyR g L s=lnS (extF 19 (dyH g L s)) g L (dyL g L s+dyF g L s) (dyL g L s+dyF g L s) 0 [] (dyS5 g L s):=rfl
 rw[h4,h5,h3]
 exact⟨h2,rfl⟩
theorem lnS_is{F g:Nat→Nat}{L n:Nat}:∀k made l a out,Made n l out→out.length=made→made≤n→a≤8*L→n≤k+made→
  ((lenR F g L n k a out).2.2=0→(lnS (extF 19 F) g L n k made l (a,0)).2=((lenR F g L n k a out).2.1,0)∧Made n (lnS (extF 19 F) g L n k made l (a,0)).1 (lenR F g L n k a out).1∧(lenR F g L n k a out).1.length=n)∧
  ((lenR F g L n k a out).2.2≠0→(lnS (extF 19 F) g L n k made l (a,0)).2.2=(lenR F g L n k a out).2.2)
 |0,made,l,a,out,hm,hl,hn,ha,hk=>⟨fun _=>⟨rfl,hm,by show out.length=n;omega⟩,fun h=>absurd rfl h⟩
 |k+1,made,l,a,out,hm,hl,hn,ha,hk=>by
  rw[lenR_s]
  by_cases h0:n≤out.length
  ·rw[if_pos h0,lnS_end (fun h=>by omega)]
   exact⟨fun _=>⟨rfl,hm,by show out.length=n;omega⟩,fun h=>absurd rfl h⟩
  ·rw[if_neg h0,lnS_on ⟨by omega,rfl⟩]
   have hrd:=ext_read (f:=F) (n:=19) (by omega) g L a 17 0
   have hri:=read_in (F:=F) (N:=19) (g:=g) ha
   have y0:ruY (extF 19 F) g L (a,0)=syV (readR F 19 g L a 17 0) (a,0):=by unfold ruY;rw[hrd]
   have s0:ruS1 (extF 19 F) g L (a,0)=syS (readR F 19 g L a 17 0) (a,0):=by unfold ruS1;rw[hrd]
   have x0:ruX (extF 19 F) g L (a,0)=tkV g L (bitsR (ruY (extF 19 F) g L (a,0):Int)) (ruS1 (extF 19 F) g L (a,0)):=rfl
   have e0:ruS (extF 19 F) g L (a,0)=tkS L (bitsR (ruY (extF 19 F) g L (a,0):Int)) (ruS1 (extF 19 F) g L (a,0)):=rfl
   have t0:ruT (extF 19 F) g L (a,0)=timesR (ruY (extF 19 F) g L (a,0):Int) (ruX (extF 19 F) g L (a,0):Int):=rfl
   have ee:ruE (extF 19 F) g L n made (a,0)=wantS (wantS (ruS (extF 19 F) g L (a,0)) (decide (0<made∨ruY (extF 19 F) g L (a,0)≠16)) 132) (decide (made+ruT (extF 19 F) g L (a,0)≤n)) 132:=rfl
   generalize readR F 19 g L a 17 0=r at y0 s0 hri⊢
   unfold lenG
   by_cases h1:r.2.2≠0
   ·rw[if_pos h1]
    refine⟨fun h=>absurd h h1,fun _=>?_⟩
    have e1:ruS1 (extF 19 F) g L (a,0)=(a,r.2.2):=by rw[s0];unfold syS;rw[if_neg (fun h=>h rfl),if_pos h1]
    have e2:ruS (extF 19 F) g L (a,0)=(a,r.2.2):=by rw[e0,e1];exact tkS_err h1
    have e3:ruE (extF 19 F) g L n made (a,0)=(a,r.2.2):=by rw[ruE_err (by rw[e2];exact h1),e2]
    rw[e3,lnS_end (s:=(a,r.2.2)) (fun h=>h1 h.2)]
   ·rw[if_neg h1]
    obtain⟨r1,r2,r3⟩:=hri (by omega)
    have yy:ruY (extF 19 F) g L (a,0)=r.1:=by rw[y0];unfold syV;rw[if_neg (fun h=>h rfl),if_neg h1]
    have ss:ruS1 (extF 19 F) g L (a,0)=(r.2.1,0):=by rw[s0];unfold syS;rw[if_neg (fun h=>h rfl),if_neg h1]
    rw[yy,ss,tkS_ok]at e0
    rw[yy,ss,tkV_ok]at x0
    rw[yy]at t0 ee⊢
    by_cases h2:8*L<r.2.1+bitsR (r.1:Int)
    ·rw[if_pos h2]
     rw[if_pos h2]at e0
     refine⟨fun h=>absurd h (by decide),fun _=>?_⟩
     have e3:ruE (extF 19 F) g L n made (a,0)=(r.2.1,10):=by rw[ruE_err (by rw[e0];exact(show(10:Int)≠0 by decide)),e0]
     rw[e3,lnS_end (s:=(r.2.1,10)) (fun h=>absurd h.2 (show¬(10:Int)=0 by decide))]
    ·rw[if_neg h2]
     rw[if_neg h2]at e0 x0
     rw[x0]at t0⊢
     rw[e0,t0]at ee
     rw[t0]
     by_cases h3:((r.1:Int)=16∧out=[])∨n<out.length+timesR (r.1:Int) ((numN g r.2.1 (bitsR (r.1:Int)):Nat):Int)
     ·rw[if_pos h3]
      refine⟨fun h=>absurd h (by decide),fun _=>?_⟩
      have e3:(ruE (extF 19 F) g L n made (a,0)).2=132:=by
       rw[ee]
       by_cases c1:0<made∨r.1≠16
       ·have c2:¬made+timesR (r.1:Int) ((numN g r.2.1 (bitsR (r.1:Int)):Nat):Int)≤n:=by
         rcases h3 with⟨q1,q2⟩|q
         ·subst q2;simp at hl;rcases c1 with c1|c1<;>omega
         ·omega
        rw[decide_eq_true c1,decide_eq_false c2]
        rfl
       ·rw[decide_eq_false c1]
        have:(wantS (r.2.1+bitsR (r.1:Int),0) false 132:Rz)=(r.2.1+bitsR (r.1:Int),132):=rfl
        rw[this,wantS_err (s:=(r.2.1+bitsR (r.1:Int),132)) (show(132:Int)≠0 by decide)]
      rw[lnS_end (fun h=>by rw[e3]at h;exact absurd h.2 (by decide))]
      exact e3
     ·rw[if_neg h3]
      have c1:0<made∨r.1≠16:=by
       rcases Nat.eq_zero_or_pos made with z|z
       ·right;intro e
        exact h3 (.inl ⟨by omega,List.length_eq_zero_iff.1 (by omega)⟩)
       ·exact .inl z
      have c2:made+timesR (r.1:Int) ((numN g r.2.1 (bitsR (r.1:Int)):Nat):Int)≤n:=by
       rcases Nat.lt_or_ge n (made+timesR (r.1:Int) ((numN g r.2.1 (bitsR (r.1:Int)):Nat):Int))with z|z
       ·exact absurd (.inr (by omega)) h3
       ·exact z
      have e3:ruE (extF 19 F) g L n made (a,0)=(r.2.1+bitsR (r.1:Int),0):=by rw[ee,decide_eq_true c1,decide_eq_true c2];rfl
      rw[e3]
      have hx7:numN g r.2.1 (bitsR (r.1:Int))<2^bitsR (r.1:Int):=numN_lt _ _ _
      have hx8:numN g r.2.1 (bitsR (r.1:Int))<128:=by
       have h2:(2:Nat)^(bitsR (r.1:Int))≤2^7:=Nat.pow_le_pow_right (by omega) (bitsR_le _)
       have h3:(2:Nat)^7=128:=rfl
       omega
      have q4:=(timesR_in (y:=r.1) hx8).1
      exact lnS_is k _ _ _ _ (made_on hm (by omega) hx7 h3) (by rw[List.length_append,List.length_replicate,hl]) c2 (by omega) (by omega)
theorem sizS_err{g:Nat→Nat}{L:Nat}{s:Rz}(h:s.2≠0):(sizS g L s).2=s.2:=by
 have h1:(alS s).2≠0:=h
 unfold sizS
 rw[tkS_err h1,tkS_err h1,wantS_err h1];rfl
theorem siz_is{g:Nat→Nat}{L a:Nat}{last:Bool}(_ha:a≤8*L):
  ((stoR last g L ((a+7)/8*8)).2.2=0→sizS g L (a,0)=((stoR last g L ((a+7)/8*8)).2.1,0)∧sizV g L (a,0)=(stoR last g L ((a+7)/8*8)).1.left)∧((stoR last g L ((a+7)/8*8)).2.2≠0→(sizS g L (a,0)).2=(stoR last g L ((a+7)/8*8)).2.2):=by
 have e1:sizV g L (a,0)=tkV g L 16 ((a+7)/8*8,0):=rfl
 have e2:sizS g L (a,0)=wantS (tkS L 16 (tkS L 16 ((a+7)/8*8,0))) (decide ((tkV g L 16 (tkS L 16 ((a+7)/8*8,0)):Int)=65535-(sizV g L (a,0):Int))) 131:=rfl
 generalize (a+7)/8*8=b at e1 e2⊢
 unfold stoR
 by_cases h1:8*L<b+32
 ·rw[if_pos h1]
  refine⟨fun h=>absurd h (by decide),fun _=>?_⟩
  have:(tkS L 16 (tkS L 16 (b,0))).2=10:=by
   rw[tkS_ok]
   by_cases h2:8*L<b+16
   ·rw[if_pos h2,tkS_err (s:=(b,10)) (show(10:Int)≠0 by decide)]
   ·rw[if_neg h2,tkS_ok,if_pos (by omega)]
  rw[e2,wantS_err (by rw[this];decide)]
  exact this
 ·rw[if_neg h1]
  have q1:tkS L 16 (b,0)=(b+16,0):=by rw[tkS_ok,if_neg (by omega)]
  have q2:tkS L 16 (b+16,0)=(b+32,0):=by rw[tkS_ok,if_neg (by omega)]
  have q3:tkV g L 16 (b,0)=numN g b 16:=by rw[tkV_ok,if_neg (by omega)]
  have q4:tkV g L 16 (b+16,0)=numN g (b+16) 16:=by rw[tkV_ok,if_neg (by omega)]
  rw[e1,q3]at e2⊢
  rw[q1,q2,q4]at e2
  have hs:numN g b 32=numN g b 16+2^16*numN g (b+16) 16:=numN_add g b 16 16
  have l1:numN g b 16<65536:=numN_lt g b 16
  have l2:numN g (b+16) 16<65536:=numN_lt g (b+16) 16
  have h16:(2:Nat)^16=65536:=by decide
  rw[h16]at hs
  rw[hs]
  have m1:(numN g b 16+65536*numN g (b+16) 16)%65536=numN g b 16:=by omega
  have m2:(numN g b 16+65536*numN g (b+16) 16)/65536=numN g (b+16) 16:=by omega
  unfold stoV
  rw[m1,m2]
  by_cases h3:numN g b 16+numN g (b+16) 16≠65535
  ·rw[if_pos h3]
   refine⟨fun h=>absurd h (by decide),fun _=>?_⟩
   rw[e2,decide_eq_false (by omega)];rfl
  ·rw[if_neg h3]
   refine⟨fun _=>⟨?_,rfl⟩,fun h=>absurd rfl h⟩
   rw[e2,decide_eq_true (by omega)];rfl
theorem shS_ok{L a:Nat}:∀k,a+3*k≤8*L→shS L (a,0) k=(a+3*k,0)
 |0,_=>rfl
 |k+1,h=>by unfold shS;rw[shS_ok k (by omega),tkS_ok,if_neg (by omega)];exact Prod.ext (by show a+3*k+3=a+3*(k+1);omega) rfl
theorem shS_bad{L a:Nat}(ha:a≤8*L):∀k,8*L<a+3*k→(shS L (a,0) k).2=10
 |0,h=>by omega
 |k+1,h=>by
  unfold shS
  by_cases h1:8*L<a+3*k
  ·rw[tkS_err (by rw[shS_bad ha k h1];decide)];exact shS_bad ha k h1
  ·rw[shS_ok k (by omega),tkS_ok,if_pos (by omega)]
theorem shG_ok{g:Nat→Nat}{L a:Nat}:∀k,a+3*k≤8*L→shG g L (a,0) k=shR g a k
 |0,_=>rfl
 |k+1,h=>by
  unfold shG shR
  rw[shS_ok k (by omega),shG_ok k (by omega),tkV_ok,if_neg (by omega)]
theorem keepS_0(a:Nat)(x:Int):keepS (a,0) x=(a,x):=if_pos rfl
theorem gwS_err{F:Nat→Nat}{n:Nat}{most:Int}{s:Rz}(h:s.2≠0):gwS F n most s=s:=wantS_err h _ _
theorem dy_is{g:Nat→Nat}{L a:Nat}{last:Bool}(ha:a≤8*L):
  ((dynR last g L a).2.2=0→dyS9 g L (a,0)=((dynR last g L a).2.1,0)∧(dynR last g L a).1.kind=2∧(dynR last g L a).1.last=last∧(dynR last g L a).1.left=0∧
   dyG1 g L (a,0)=grC (dynR last g L a).1.F (dynR last g L a).1.n 15∧dyG2 g L (a,0)=grC (dynR last g L a).1.G (dynR last g L a).1.m 15∧dyY1 g L (a,0)=grS (dynR last g L a).1.F (dynR last g L a).1.n 15∧dyY2 g L (a,0)=grS (dynR last g L a).1.G (dynR last g L a).1.m 15∧
   checkE (dynR last g L a).1.F (dynR last g L a).1.n 15=0∧checkE (dynR last g L a).1.G (dynR last g L a).1.m 15=0)∧
  ((dynR last g L a).2.2≠0→(dyS9 g L (a,0)).2=(dynR last g L a).2.2):=by
 have hdl:=dy_len g L (a,0) ha
 have e9:dyS9 g L (a,0)=if(dyR g L (a,0)).2.2≠0 then(dyR g L (a,0)).2 else gwS (lst ((dyO g L (a,0)).drop (dyL g L (a,0)))) (dyF g L (a,0)) 15 (gwS (lst (dyO g L (a,0))) (dyL g L (a,0)) 15 (wantS (dyR g L (a,0)).2 (decide (0<lst (dyO g L (a,0)) 256)) 132)):=rfl
 have eR:dyR g L (a,0)=lnS (extF 19 (dyH g L (a,0))) g L (dyL g L (a,0)+dyF g L (a,0)) (dyL g L (a,0)+dyF g L (a,0)) 0 [] (dyS5 g L (a,0)):=rfl
 have eO:dyO g L (a,0)=(strO (dyR g L (a,0)).1 ((dyL g L (a,0)+dyF g L (a,0):Nat):Int)).2:=rfl
 have e5:dyS5 g L (a,0)=wantS (gwS (dyH g L (a,0)) 19 7 (shS L (dyS4 g L (a,0)) (dyC g L (a,0)))) (decide (2≤(((grS (dyH g L (a,0)) 19 7).length:Nat):Int))) 132:=rfl
 have eH:dyH g L (a,0)=shG g L (dyS4 g L (a,0)) (dyC g L (a,0)):=rfl
 have e4:dyS4 g L (a,0)=wantS (tkS L 4 (tkS L 5 (tkS L 5 (a,0)))) (decide (dyL g L (a,0)≤286∧dyF g L (a,0)≤30)) 132:=rfl
 have eC:dyC g L (a,0)=tkV g L 4 (tkS L 5 (tkS L 5 (a,0)))+4:=rfl
 have eF:dyF g L (a,0)=tkV g L 5 (tkS L 5 (a,0))+1:=rfl
 have eL:dyL g L (a,0)=tkV g L 5 (a,0)+257:=rfl
 have g1:dyG1 g L (a,0)=if(dyR g L (a,0)).2.2≠0 then fun _=>0 else grC (lst (dyO g L (a,0))) (dyL g L (a,0)) 15:=rfl
 have g2:dyG2 g L (a,0)=if(dyR g L (a,0)).2.2≠0 then fun _=>0 else grC (lst ((dyO g L (a,0)).drop (dyL g L (a,0)))) (dyF g L (a,0)) 15:=rfl
 have g3:dyY1 g L (a,0)=if(dyR g L (a,0)).2.2≠0 then[]else grS (lst (dyO g L (a,0))) (dyL g L (a,0)) 15:=rfl
 have g4:dyY2 g L (a,0)=if(dyR g L (a,0)).2.2≠0 then[]else grS (lst ((dyO g L (a,0)).drop (dyL g L (a,0)))) (dyF g L (a,0)) 15:=rfl
 generalize dyG1 g L (a,0)=G1 at g1⊢
 generalize dyG2 g L (a,0)=G2 at g2⊢
 generalize dyY1 g L (a,0)=Y1 at g3⊢
 generalize dyY2 g L (a,0)=Y2 at g4⊢
 generalize dyS9 g L (a,0)=S9 at e9⊢
 generalize dyO g L (a,0)=O at eO hdl e9 g1 g2 g3 g4
 generalize dyR g L (a,0)=R at eR eO hdl e9 g1 g2 g3 g4
 generalize dyS5 g L (a,0)=s5 at e5 eR
 generalize dyH g L (a,0)=H at eH e5 eR
 generalize dyS4 g L (a,0)=s4 at e4 eH e5
 generalize dyC g L (a,0)=C at eC eH e5
 generalize dyF g L (a,0)=f0 at eF e4 eR eO hdl e9 g1 g2 g3 g4
 generalize dyL g L (a,0)=l0 at eL e4 eR eO hdl e9 g1 g2 g3 g4
 have err5:s5.2≠0→S9.2=s5.2:=fun h=>by
  have:R=([],s5):=by rw[eR,lnS_end (fun q=>h q.2)]
  rw[e9,this,if_pos h]
 have err4:s4.2≠0→S9.2=s4.2:=fun h=>by
  have hsh:∀k,shS L s4 k=s4:=fun k=>by
   induction k with
   |zero=>rfl
   |succ k ih=>unfold shS;rw[ih,tkS_err h]
  have:s5=s4:=by rw[e5,hsh,gwS_err h,wantS_err h]
  rw[err5 (by rw[this];exact h),this]
 unfold dynR
 by_cases h0:8*L<a+14
 ·rw[if_pos h0]
  refine⟨fun h=>absurd h (by decide),fun _=>?_⟩
  have ht:(tkS L 4 (tkS L 5 (tkS L 5 (a,0)))).2=10:=by
   rw[tkS_ok]
   by_cases h1:8*L<a+5
   ·rw[if_pos h1,tkS_err (s:=(a,10)) (show(10:Int)≠0 by decide),tkS_err (s:=(a,10)) (show(10:Int)≠0 by decide)]
   ·rw[if_neg h1,tkS_ok]
    by_cases h2:8*L<a+5+5
    ·rw[if_pos h2,tkS_err (s:=(a+5,10)) (show(10:Int)≠0 by decide)]
    ·rw[if_neg h2,tkS_ok,if_pos (by omega)]
  have:s4.2=10:=by rw[e4,wantS_err (by rw[ht];decide)];exact ht
  rw[err4 (by rw[this];decide),this]
 ·rw[if_neg h0]
  have t1:tkS L 5 (a,0)=(a+5,0):=by rw[tkS_ok,if_neg (by omega)]
  have t2:tkS L 5 (a+5,0)=(a+10,0):=by rw[tkS_ok,if_neg (by omega)]
  have t3:tkS L 4 (a+10,0)=(a+14,0):=by rw[tkS_ok,if_neg (by omega)]
  rw[t1,t2,t3]at e4
  rw[t1,t2,tkV_ok,if_neg (by omega)]at eC
  rw[t1,tkV_ok,if_neg (by omega)]at eF
  rw[tkV_ok,if_neg (by omega)]at eL
  have s1:numN g a 14=numN g a 5+2^5*numN g (a+5) 9:=numN_add g a 5 9
  have s2:numN g (a+5) 9=numN g (a+5) 5+2^5*numN g (a+5+5) 4:=numN_add g (a+5) 5 4
  rw[show a+5+5=a+10 by omega]at s2
  have b1:numN g a 5<32:=numN_lt g a 5
  have b2:numN g (a+5) 5<32:=numN_lt g (a+5) 5
  have b3:numN g (a+10) 4<16:=numN_lt g (a+10) 4
  have h5:(2:Nat)^5=32:=by decide
  rw[h5]at s1 s2
  have v1:numN g a 14%32+257=l0:=by omega
  have v2:numN g a 14/32%32+1=f0:=by omega
  have v3:numN g a 14/1024+4=C:=by omega
  unfold dynV
  rw[v1,v2,v3]
  by_cases h1:286<l0∨30<f0
  ·rw[if_pos h1]
   refine⟨fun h=>absurd h (by decide),fun _=>?_⟩
   have:s4.2=132:=by rw[e4,decide_eq_false (by omega)];rfl
   rw[err4 (by rw[this];decide),this]
  ·rw[if_neg h1]
   rw[decide_eq_true (show l0≤286∧f0≤30 by omega)]at e4
   have e4':s4=(a+14,0):=e4
   subst e4'
   by_cases h2:8*L<a+14+3*C
   ·rw[if_pos h2]
    refine⟨fun h=>absurd h (by decide),fun _=>?_⟩
    have hb:=shS_bad (L:=L) (a:=a+14) (by omega) C h2
    have:s5.2=10:=by rw[e5,gwS_err (by rw[hb];decide),wantS_err (by rw[hb];decide)];exact hb
    rw[err5 (by rw[this];decide),this]
   ·rw[if_neg h2]
    rw[shS_ok C (by omega)]at e5
    rw[shG_ok C (by omega)]at eH
    rw[←eH]
    unfold dynS
    by_cases h3:checkE H 19 7≠0∨allN H 19≠32768
    ·rw[if_pos h3]
     refine⟨fun h=>absurd h (by decide),fun _=>?_⟩
     have:s5.2=132:=by
      rw[e5]
      by_cases c1:checkE H 19 7=0
      ·have c2:¬2≤(((grS H 19 7).length:Nat):Int):=fun h=>by rcases h3 with h3|h3;exact h3 c1;exact h3 ((two_whole c1).1 h)
       have:gwS H 19 7 (a+14+3*C,0)=(a+14+3*C,0):=by unfold gwS;rw[decide_eq_true c1];rfl
       rw[this,decide_eq_false c2];rfl
      ·have:gwS H 19 7 (a+14+3*C,0)=(a+14+3*C,132):=by unfold gwS;rw[decide_eq_false c1];rfl
       rw[this,wantS_err (s:=(a+14+3*C,132)) (show(132:Int)≠0 by decide)]
     rw[err5 (by rw[this];decide),this]
    ·rw[if_neg h3]
     have c1:checkE H 19 7=0:=by omega
     have c2:=(two_whole c1).2 (by omega)
     have e5':s5=(a+14+3*C,0):=by
      rw[e5];unfold gwS;rw[decide_eq_true c1,decide_eq_true c2];rfl
     rw[e5']at eR
     obtain⟨k1,k2⟩:=lnS_is (F:=H) (g:=g) (L:=L) (n:=l0+f0) (l0+f0) 0 [] (a+14+3*C) [] (made_nil _) rfl (Nat.zero_le _) (by omega) (by omega)
     rw[←eR]at k1 k2
     generalize lenR H g L (l0+f0) (l0+f0) (a+14+3*C) []=T at k1 k2⊢
     unfold dynL
     by_cases h4:T.2.2≠0
     ·rw[if_pos h4]
      refine⟨fun h=>absurd h h4,fun _=>?_⟩
      have:=k2 h4
      rw[e9,if_pos (by rw[this];exact h4)]
      exact this
     ·rw[if_neg h4]
      obtain⟨j1,j2,j3⟩:=k1 (by omega)
      have hR0:¬R.2.2≠0:=by rw[j1];exact fun h=>h rfl
      rw[if_neg hR0]at e9 g1 g2 g3 g4
      have hO:O=T.1:=by rw[eO,made_end j2 j3 (by omega)]
      rw[hO]at e9 g1 g2 g3 g4
      rw[j1]at e9
      unfold dynQ
      by_cases h5:lst T.1 256=0∨checkE (lst T.1) l0 15≠0∨checkE (lst (T.1.drop l0)) f0 15≠0
      ·rw[if_pos h5]
       refine⟨fun h=>absurd h (by decide),fun _=>?_⟩
       rw[e9]
       by_cases d1:0<lst T.1 256
       ·rw[decide_eq_true d1]
        show(gwS _ _ _ (gwS _ _ _ (T.2.1,0))).2=132
        by_cases d2:checkE (lst T.1) l0 15=0
        ·have:gwS (lst T.1) l0 15 (T.2.1,0)=(T.2.1,0):=by unfold gwS;rw[decide_eq_true d2];rfl
         rw[this];unfold gwS
         rw[decide_eq_false (by rcases h5 with h5|h5|h5;omega;exact absurd d2 h5;exact h5)];rfl
        ·have:gwS (lst T.1) l0 15 (T.2.1,0)=(T.2.1,132):=by unfold gwS;rw[decide_eq_false d2];rfl
         rw[this,gwS_err (s:=(T.2.1,132)) (show(132:Int)≠0 by decide)]
       ·rw[decide_eq_false d1]
        show(gwS _ _ _ (gwS _ _ _ (T.2.1,132))).2=132
        rw[gwS_err (s:=(T.2.1,132)) (show(132:Int)≠0 by decide),gwS_err (s:=(T.2.1,132)) (show(132:Int)≠0 by decide)]
      ·rw[if_neg h5]
       have d1:0<lst T.1 256:=by omega
       have d2:checkE (lst T.1) l0 15=0:=by omega
       have d3:checkE (lst (T.1.drop l0)) f0 15=0:=by omega
       refine⟨fun _=>⟨?_,rfl,rfl,rfl,g1,g2,g3,g4,d2,d3⟩,fun h=>absurd rfl h⟩
       rw[e9,decide_eq_true d1]
       unfold gwS
       rw[decide_eq_true d2,decide_eq_true d3];rfl
theorem head_is{g:Nat→Nat}{L a:Nat}(_ha:a≤8*L):
  ((begR g L a).2.2=0→hdS g L (a,0)=((begR g L a).2.1,0)∧hdK g L (a,0)=(begR g L a).1.kind∧hdB g L (a,0)=(begR g L a).1.last∧hdL g L (a,0)=(begR g L a).1.left∧(begR g L a).1.kind≤2∧(begR g L a).1.left≤65535∧
   ((begR g L a).1.kind=0→hdC1 g L (a,0)=(fun _=>0)∧hdC2 g L (a,0)=(fun _=>0)∧hdY1 g L (a,0)=[]∧hdY2 g L (a,0)=[])∧
   ((begR g L a).1.kind≠0→(begR g L a).1.left=0∧hdC1 g L (a,0)=grC (begR g L a).1.F (begR g L a).1.n 15∧hdC2 g L (a,0)=grC (begR g L a).1.G (begR g L a).1.m 15∧hdY1 g L (a,0)=grS (begR g L a).1.F (begR g L a).1.n 15∧hdY2 g L (a,0)=grS (begR g L a).1.G (begR g L a).1.m 15∧
    checkE (begR g L a).1.F (begR g L a).1.n 15=0∧checkE (begR g L a).1.G (begR g L a).1.m 15=0))∧
  ((begR g L a).2.2≠0→(hdS g L (a,0)).2=(begR g L a).2.2):=by
 have eK:hdK g L (a,0)=tkV g L 2 (tkS L 1 (a,0)):=rfl
 have eQ:hdQ L (a,0)=tkS L 2 (tkS L 1 (a,0)):=rfl
 have eB:hdB g L (a,0)=(((tkV g L 1 (a,0):Nat):Int)==1):=rfl
 have eL:hdL g L (a,0)=if hdK g L (a,0)=0 then sizV g L (hdQ L (a,0))else 0:=rfl
 have eS:hdS g L (a,0)=if hdK g L (a,0)=0 then sizS g L (hdQ L (a,0))else if hdK g L (a,0)=1 then gwS fixB 32 15 (gwS fixA 288 15 (hdQ L (a,0)))else if hdK g L (a,0)=2 then dyS9 g L (hdQ L (a,0))else keepS (hdQ L (a,0)) 130:=rfl
 have f1:hdC1 g L (a,0)=if hdK g L (a,0)=1 then grC fixA 288 15 else if hdK g L (a,0)=2 then dyG1 g L (hdQ L (a,0))else fun _=>0:=rfl
 have f2:hdC2 g L (a,0)=if hdK g L (a,0)=1 then grC fixB 32 15 else if hdK g L (a,0)=2 then dyG2 g L (hdQ L (a,0))else fun _=>0:=rfl
 have f3:hdY1 g L (a,0)=if hdK g L (a,0)=1 then grS fixA 288 15 else if hdK g L (a,0)=2 then dyY1 g L (hdQ L (a,0))else[]:=rfl
 have f4:hdY2 g L (a,0)=if hdK g L (a,0)=1 then grS fixB 32 15 else if hdK g L (a,0)=2 then dyY2 g L (hdQ L (a,0))else[]:=rfl
 generalize hdC1 g L (a,0)=C1 at f1⊢
 generalize hdC2 g L (a,0)=C2 at f2⊢
 generalize hdY1 g L (a,0)=Y1 at f3⊢
 generalize hdY2 g L (a,0)=Y2 at f4⊢
 generalize hdS g L (a,0)=S at eS⊢
 generalize hdL g L (a,0)=l0 at eL⊢
 generalize hdB g L (a,0)=lb at eB⊢
 generalize hdQ L (a,0)=q at eQ eS eL f1 f2 f3 f4
 generalize hdK g L (a,0)=kd at eK eS eL f1 f2 f3 f4⊢
 unfold begR
 by_cases h0:8*L<a+3
 ·rw[if_pos h0]
  refine⟨fun h=>absurd h (by decide),fun _=>?_⟩
  have hq:q.2=10∧kd=0:=by
   rw[eQ,eK,tkS_ok]
   by_cases h1:8*L<a+1
   ·rw[if_pos h1,tkS_err (s:=(a,10)) (show(10:Int)≠0 by decide),tkV_err (s:=(a,10)) (show(10:Int)≠0 by decide)]
    exact⟨rfl,rfl⟩
   ·rw[if_neg h1,tkS_ok,tkV_ok,if_pos (by omega),if_pos (by omega)]
    exact⟨rfl,rfl⟩
  rw[eS,if_pos hq.2,sizS_err (by rw[hq.1];decide)]
  exact hq.1
 ·rw[if_neg h0]
  have t1:tkS L 1 (a,0)=(a+1,0):=by rw[tkS_ok,if_neg (by omega)]
  have t2:tkS L 2 (a+1,0)=(a+3,0):=by rw[tkS_ok,if_neg (by omega)]
  rw[t1,t2]at eQ
  rw[t1,tkV_ok,if_neg (by omega)]at eK
  rw[tkV_ok,if_neg (by omega)]at eB
  subst eQ
  have s1:numN g a 3=numN g a 1+2^1*numN g (a+1) 2:=numN_add g a 1 2
  have b1:numN g a 1<2:=numN_lt g a 1
  have b2:numN g (a+1) 2<4:=numN_lt g (a+1) 2
  have h2:(2:Nat)^1=2:=rfl
  rw[h2]at s1
  have v1:numN g a 3/2=kd:=by omega
  have v2:decide (numN g a 3%2=1)=lb:=by
   rw[eB]
   show _=decide ((numN g a 1:Int)=1)
   exact decide_eq_decide.2 (by omega)
  unfold begW
  rw[v1,v2]
  by_cases k3:kd=3
  ·rw[if_pos k3]
   refine⟨fun h=>absurd h (by decide),fun _=>?_⟩
   rw[eS,if_neg (by omega),if_neg (by omega),if_neg (by omega),keepS_0]
  ·rw[if_neg k3]
   by_cases k2:kd=2
   ·rw[if_pos k2]
    rw[if_neg (by omega),if_neg (by omega),if_pos k2]at eS
    rw[if_neg (by omega)]at eL
    rw[if_neg (by omega),if_pos k2]at f1 f2 f3 f4
    obtain⟨d1,d2⟩:=dy_is (g:=g) (L:=L) (a:=a+3) (last:=lb) (by omega)
    rw[←eS,←f1,←f2,←f3,←f4]at d1
    rw[←eS]at d2
    refine⟨fun h=>?_,d2⟩
    obtain⟨c1,c2,c3,c4,c5,c6,c7,c8,c9,c10⟩:=d1 h
    exact⟨c1,by omega,c3.symm,by omega,by omega,by omega,fun h=>by omega,fun _=>⟨c4,c5,c6,c7,c8,c9,c10⟩⟩
   ·rw[if_neg k2]
    by_cases k1:kd=1
    ·rw[if_pos k1]
     rw[if_neg (by omega),if_pos k1]at eS
     rw[if_neg (by omega)]at eL
     rw[if_pos k1]at f1 f2 f3 f4
     refine⟨fun _=>?_,fun h=>absurd rfl h⟩
     have hS:S=(a+3,0):=by
      rw[eS];unfold gwS;rw[decide_eq_true fixA_check,decide_eq_true fixB_check];rfl
     exact⟨hS,k1,rfl,eL,by show 1≤2;omega,by show 0≤65535;omega,fun h=>absurd h (by show¬1=0;omega),fun _=>⟨rfl,f1,f2,f3,f4,fixA_check,fixB_check⟩⟩
    ·rw[if_neg k1]
     have k0:kd=0:=by omega
     rw[if_pos k0]at eS eL
     rw[if_neg (by omega),if_neg (by omega)]at f1 f2 f3 f4
     obtain⟨d1,d2⟩:=siz_is (g:=g) (L:=L) (a:=a+3) (last:=lb) (by omega)
     rw[←eS,←eL]at d1
     rw[←eS]at d2
     refine⟨fun h=>?_,d2⟩
     obtain⟨c1,c2⟩:=d1 h
     have hk:(stoR lb g L ((a+3+7)/8*8)).1.kind=0∧(stoR lb g L ((a+3+7)/8*8)).1.last=lb∧(stoR lb g L ((a+3+7)/8*8)).1.left≤65535:=by
      unfold stoR at h⊢
      split at h
      ·exact absurd h (by decide)
      ·rename_i h3
       rw[if_neg h3]
       unfold stoV at h⊢
       split at h
       ·exact absurd h (by decide)
       ·rename_i h4
        rw[if_neg h4]
        refine⟨rfl,rfl,?_⟩
        show numN g ((a+3+7)/8*8) 32%65536≤65535
        omega
     exact⟨c1,by omega,hk.2.1.symm,c2,by omega,hk.2.2,fun _=>⟨f1,f2,f3,f4⟩,fun h=>absurd hk.1 h⟩
end Go.Proofs.YtgokdgcmkcmjeaaGreat
