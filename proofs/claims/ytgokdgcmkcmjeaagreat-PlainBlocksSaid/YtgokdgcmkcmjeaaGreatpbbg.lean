/-
  Words and walks.
-/
import Derived.Test.YtgokdgcmkcmjeaaGreatpbbf
set_option maxRecDepth 100000
set_option maxHeartbeats 16000000
namespace Go.Proofs.YtgokdgcmkcmjeaaGreat
open Go.RowKit Go.ChangeShapes Go.WideShapes Go.ChangeAt Go.Joins
theorem szRow(a b c:Value):(Tryz.prog.info? 99).map (·.size)=some #[a,b,c].size:=by kernel_rfl
theorem set3_row{w:World}{b:Nat}{a0 a1 a2:Value}{t:TypeId}(hz:w.heap[b]?=some (.cells #[a0,a1,a2] t (0,0)))(x y z:Value):(((w.setCell ⟨b,0,none⟩ x).setCell ⟨b,1,none⟩ y).setCell ⟨b,2,none⟩ z).heap[b]?=some (.cells #[x,y,z] t (0,0)):=by
 have h1:=heap_setCell_same w b 0 _ _ x hz
 have h2:=heap_setCell_same _ b 1 _ _ y h1
 have h3:=heap_setCell_same _ b 2 _ _ z h2
 rw[h3];simp
theorem own_set3{w:World}{base sz n b:Nat}{e:TypeId}{v:Value}{xs:List Value}(h:w.ownsRow base e sz v n xs)(hb:b<base)(x y z:Value):(((w.setCell ⟨b,0,none⟩ x).setCell ⟨b,1,none⟩ y).setCell ⟨b,2,none⟩ z).ownsRow base e sz v n xs:=by
 have hne:∀j,v.ownBlock=some j→j≠b:=fun j hj=>by have:=(own_blk_lt h j hj).1;omega
 exact own_blk (own_blk (own_blk h fun j hj=>Below.heap_setCell _ _ _ j (hne j hj)) fun j hj=>Below.heap_setCell _ _ _ j (hne j hj)) fun j hj=>Below.heap_setCell _ _ _ j (hne j hj)
theorem behind11_any(w:World)(A:Option Addr)(n c:Nat)(f:Nat→Nat)(k:Nat)(hr:ByR w w.heap.size A n c f)(hk:k≤8388608)(hn:n=(k+7)/8):
  Calls Tryz.prog 44 #[.agg #[.slice A n c,.int .i64 (k:Int)]] w fun e w'=>∃A' c',e=.returned (.agg #[.slice A' (k/8) c',.int .u64 ((zext n f (k/8):Nat):Int),.int .i64 ((k%8:Nat):Int)])∧w'.ownsRow w.heap.size 5 1 (.slice A' (k/8) c') (k/8) (bytesL (k/8) (zext n f))∧Below w.heap.size w w':=by
 obtain⟨L,hL⟩:∃L,L=k/8:=⟨_,rfl⟩
 obtain⟨q,hq⟩:∃q,q=k%8:=⟨_,rfl⟩
 obtain⟨W1,hW1⟩:∃W,W=w.alloc (.cells #[.slice A n c,.int .i64 (k:Int)] 62):=⟨_,rfl⟩
 obtain⟨h,hh⟩:∃h,h=w.heap.size:=⟨_,rfl⟩
 obtain⟨W2,hW2⟩:∃W,W=W1.alloc (.cells #[.slice none 0 0,.int .u64 0,.int .i64 0] 99):=⟨_,rfl⟩
 have h1:W1.heap[h]?=some (.cells #[.slice A n c,.int .i64 (k:Int)] 62 (0,0)):=by rw[hW1,hh];exact heap_alloc_new w _
 have s1:W1.heap.size=h+1:=by rw[hW1,hh];simp
 have b12:Below W1.heap.size W1 W2:=by rw[hW2];exact(Below.refl _ _).alloc (Nat.le_refl _) _
 have b1:Below h w W1:=by rw[hW1,hh];exact(Below.refl _ _).alloc (Nat.le_refl _) _
 have b2:Below h w W2:=b1.trans (b12.mono (by omega))
 have s2:W2.heap.size=h+2:=by rw[hW2];simp[s1]
 have h2:W2.heap[h]?=some (.cells #[.slice A n c,.int .i64 (k:Int)] 62 (0,0)):=(b12.block h (by omega)).trans h1
 have g2:W2.heap[h+1]?=some (.cells #[.slice none 0 0,.int .u64 0,.int .i64 0] 99 (0,0)):=by rw[hW2,←s1];exact heap_alloc_new W1 _
 rw[←hL,←hq,←hh]
 rw[←hh]at hr
 have HR0:=Lib.hid hr
 have hr2:=(hr.below b2 (Nat.le_refl _)).more (show h≤W2.heap.size by omega)
 have p0:W2.cell? ⟨h,0,none⟩=some (.slice A n c):=(cell_of_row W2 _ 0 _ _ (0,0) h2).trans rfl
 have p1:W2.cell? ⟨h,1,none⟩=some (.int .i64 (k:Int)):=(cell_of_row W2 _ 1 _ _ (0,0) h2).trans rfl
 have hLn:L≤n:=by omega
 have hnc:=hr.2.2.1
 have hcl:=fun(V:World) (hV:Below W2.heap.size W2 V)=>clone8_any V A L c f ⟨((hr2.below hV (Nat.le_refl _)).more hV.size).1.part hLn,hr2.2.1,by omega,hr2.2.2.2⟩ (by omega)
 have hkq:(k:Int)/8=(L:Int):=by omega
 have hkq2:(k:Int).tdiv 8=(L:Int):=by rw[Int.tdiv_eq_ediv_of_nonneg (by omega)];omega
 have hkm:(k:Int)%8=(q:Int):=by omega
 have hkm2:(k:Int).tmod 8=(q:Int):=by rw[Int.tmod_eq_emod_of_nonneg (by omega)];omega
 have hLc:L≤c:=by omega
 have hLc2:¬(c:Int)<(L:Int):=by omega
 have hs2:h<W2.heap.size:=by omega
 have hX:(W2.alloc (.cells #[.slice none 0 0,.int .u64 0,.int .i64 0] 99)).heap[h+2]?=some (.cells #[.slice none 0 0,.int .u64 0,.int .i64 0] 99 (0,0)):=by rw[←s2];exact heap_alloc_new W2 _
 have HCL:=Lib.hid hcl;have HR:=Lib.hid hr2;have HW1:=Lib.hid hW1;have HW2:=Lib.hid hW2;have HH:=Lib.hid hh;have HB2:=Lib.hid b2;have G2:=Lib.hid g2;have HL:=Lib.hid hL;have HQ:=Lib.hid hq;have HN:=Lib.hid hn;have HS1:=Lib.hid s1
 have bd:Below W2.heap.size W2 W2.drew:=(Below.refl _ _).drew
 clear hcl hr hr2 hW1 hW2 hh h1 h2 g2 b12 b1 b2 hL hq hn s1
 go_enter Tryz.func44,Tryz.ntmps44
 go_wp2_with (first|rw[←HW1.out,←HH.out,←HW2.out]|fail)
 go_cut [4] (fun v4 wx=>∃X A' c',v4=.pointer (some ⟨X,0,none⟩)∧wx.heap[X]?=some (.cells #[.slice A' L c',.int .u64 0,.int .i64 (q:Int)] 99 (0,0))∧wx.ownsRow W2.heap.size 5 1 (.slice A' L c') L (bytesL L f)∧W2.heap.size≤X∧Below W2.heap.size W2 wx)
 case first=>
  go_region_law ((refine step_call rfl 84 _ _ rfl (enters_of Tryz.func84 (by kernel_rfl) rfl) (#[.slice A L c]) (by simp[Act.put,Act.eval,List.setIfInBounds_toArray,List.set_cons_zero,List.set_cons_succ]) (HCL.out _ (by first|assumption|exact bd.alloc (Nat.le_refl _) _|exact((Below.refl W2.heap.size W2).alloc (Nat.le_refl _) _).drew)) ?_;rintro e w6 ⟨A',c',rfl,ho6,hb6⟩;(first|(have p1':=(hb6.cell (p:=⟨h,1,none⟩) (by first|exact hs2|(simp;omega))).trans p1)|(have p1':=(hb6.cell (p:=⟨h,1,none⟩) (by first|exact hs2|(simp;omega))).trans (((Below.refl W2.heap.size W2).alloc (Nat.le_refl _) _).cell (p:=⟨h,1,none⟩) hs2|>.trans p1))|skip);(first|(have hz:=(hb6.block (h+2) (by simp;omega)).trans hX;have hz0:=(cell_of_row w6 (h+2) 0 _ _ (0,0) hz).trans rfl;have hz1:=(cell_of_row w6 (h+2) 1 _ _ (0,0) hz).trans rfl;have hz2:=(cell_of_row w6 (h+2) 2 _ _ (0,0) hz).trans rfl;have hy0:=frozen_of_row w6 (h+2) 0 _ _ hz;have hy1:=frozen_of_row w6 (h+2) 1 _ _ hz;have hy2:=frozen_of_row w6 (h+2) 2 _ _ hz)|skip);have hw6:h<w6.heap.size:=(by have:=hb6.size;simp at this;omega);refine⟨_,rfl,?_⟩))
  all_goals(
   go_wp2_with fail
   go_meet
   first
    |(refine⟨w6.heap.size,A',c',rfl,?_⟩
      have k1:=ho6.alloc (.cells #[.slice A' L c',.int .u64 0,.int .i64 (q:Int)] 99)
      have k2:=(hb6.mono (show W2.heap.size≤_ by simp)).alloc hb6.size (.cells #[.slice A' L c',.int .u64 0,.int .i64 (q:Int)] 99)
      refine⟨heap_alloc_new w6 _,ownsRow_base k1 (by simp),hb6.size,bd.trans k2⟩)
    |(refine⟨h+2,A',c',rfl,?_⟩
      have k1:=own_set3 (b:=h+2) ho6 (by simp;omega) (.slice A' L c') (.int .u64 0) (.int .i64 (q:Int))
      have k2:=(((hb6.mono (show W2.heap.size≤_ by simp)).setCell (p:=⟨h+2,0,none⟩) (by show W2.heap.size≤h+2;omega) (.slice A' L c')).setCell (p:=⟨h+2,1,none⟩) (by show W2.heap.size≤h+2;omega) (.int .u64 0)).setCell (p:=⟨h+2,2,none⟩) (by show W2.heap.size≤h+2;omega) (.int .i64 (q:Int))
      refine⟨set3_row hz _ _ _,ownsRow_base k1 (by simp),by omega,?_⟩
      exact(((Below.refl W2.heap.size W2).alloc (Nat.le_refl _) _).drew).trans k2))
 case rest=>
  obtain⟨X,A',c',rfl,hx,ho,hX2,hb⟩:=hcut
  obtain⟨wx,rfl⟩:∃wx:World,wx=wc:=⟨_,rfl⟩
  have hlt2:h+1<wx.heap.size:=by have:=hb.size;omega
  have e0:=(cell_of_row wx X 0 _ _ (0,0) hx).trans rfl
  have e2:wx.cell? ⟨X,2,none⟩=some (.int .i64 (q:Int)):=(cell_of_row wx X 2 _ _ (0,0) hx).trans rfl
  have f1:=frozen_of_row wx X 1 _ _ hx
  have e1:wx.cell? ⟨X,1,none⟩=some (.int .u64 0):=(cell_of_row wx X 1 _ _ (0,0) hx).trans rfl
  have p0':wx.cell? ⟨h,0,none⟩=some (.slice A n c):=(hb.cell (p:=⟨h,0,none⟩) hs2).trans p0
  have g2:=(hb.block (h+1) (by omega)).trans G2.out
  have HX2:=Lib.hid hX2
  have hXh:h+2≤X:=by omega
  have hext:zext n f L=if 0<q then f L else 0:=by
   unfold zext
   have h1:=HL.out;have h2:=HQ.out;have h3:=HN.out
   by_cases h0:0<q
   ·rw[if_pos h0,if_pos (by omega)]
   ·rw[if_neg h0,if_neg (by omega)]
  have hown:∀{V:World},V.ownsRow W2.heap.size 5 1 (.slice A' L c') L (bytesL L f)→V.ownsRow h 5 1 (.slice A' L c') L (bytesL L (zext n f)):=fun{V} hV=>by
   have h1:=ownsRow_base hV (show h≤W2.heap.size by omega)
   rwa[bytesL_ext (g:=zext n f) (fun j hj=>by unfold zext;rw[if_pos (by omega)])]at h1
  have HOWN:=Lib.hid ho;have HEX:=Lib.hid hext;have HWN:Hid (∀V:World,V.ownsRow W2.heap.size 5 1 (.slice A' L c') L (bytesL L f)→V.ownsRow h 5 1 (.slice A' L c') L (bytesL L (zext n f))):=Lib.hid fun V hV=>hown hV;have HBX:=Lib.hid (HB2.out.trans (hb.mono (by omega)));have HX:=Lib.hid hx;have HG2:=Lib.hid g2
  clear hX2 ho hext hown hb hx g2 p0 p1 bd e0
  by_cases hq0:0<q
  ·have dq:decide (0<(q:Int))=true:=decY0 (by omega)
   have hLlt:L<n:=by have:=HL.out;have:=HQ.out;have:=HN.out;omega
   have hLi:(L:Int)<(n:Int):=by omega
   obtain⟨b,o,rfl,hbl,hc⟩:=HR0.out.1.2 (by omega)
   have kb:=(HBX.out.cell (p:=⟨b,o+L,none⟩) hbl).trans (hc L hLlt)
   have hz0:zext n f L=f L:=by rw[HEX.out,if_pos hq0]
   obtain⟨y,hy⟩:∃y,y=f L:=⟨_,rfl⟩
   have hyb:y<256:=by rw[hy];exact HR0.out.1.1 L
   rw[←hy]at kb hz0
   obtain⟨U,hU⟩:∃U,U=wx.setCell ⟨X,1,none⟩ (.int .u64 (y:Int)):=⟨_,rfl⟩
   have hux:U.heap[X]?=some (.cells #[.slice A' L c',.int .u64 (y:Int),.int .i64 (q:Int)] 99 (0,0)):=by rw[hU];exact(heap_setCell_same wx X 1 _ _ _ HX.out).trans (by simp)
   have hug:U.heap[h+1]?=some (.cells #[.slice none 0 0,.int .u64 0,.int .i64 0] 99 (0,0)):=by rw[hU];exact(Below.heap_setCell wx _ _ (h+1) (by show h+1≠X;omega)).trans HG2.out
   have huo:U.ownsRow h 5 1 (.slice A' L c') L (bytesL L (zext n f)):=by rw[hU];exact HWN.out _ (own_blk HOWN.out fun j hj=>Below.heap_setCell wx _ _ j (own_type HOWN.out HX.out (by kernel_rfl)<|hj.trans<|congrArg some ·))
   have hub:Below h w U:=by rw[hU];exact HBX.out.setCell (by show h≤X;omega) _
   have hne:∀j,(Value.slice A' L c').ownBlock=some j→j≠h+1:=fun j hj=>by have:=(own_blk_lt HOWN.out j hj).1;omega
   have HUX:=Lib.hid hux;have HUG:=Lib.hid hug;have HUO:=Lib.hid huo;have HUB:=Lib.hid hub;have HU:=Lib.hid hU;have HZ0:=Lib.hid hz0;have HNE:=Lib.hid hne
   clear hux hug huo hub hU hz0 hy hc hne
   go_wp2_with (first
    |(refine wpList_load_row rfl _ _ rfl X rfl _ #[.slice A' L c',.int .u64 (y:Int),.int .i64 (q:Int)] (0,0) _ (by rw[←HU.out];exact HUX.out) Tryz.underlying99 rfl (szRow _ _ _) ?_;rw[←HU.out])
    |(refine wpList_store_rowTo rfl _ _ _ rfl rfl (h+1) #[.slice A' L c',.int .u64 (y:Int),.int .i64 (q:Int)] rfl rfl 99 #[.slice none 0 0,.int .u64 0,.int .i64 0] HUG.out (szRow _ _ _) rfl (by simp[Value.oneCell']) ?_)
    |fail)
   rw[HZ0.out]
   refine bodyPost_ret (v:=.agg #[.slice A' L c',.int .u64 (y:Int),.int .i64 (q:Int)]) ?_ rfl ⟨A',c',rfl,own_blk HUO.out fun j hj=>setRow_other _ _ _ _ (HNE.out j hj),below_row8 HUB.out (by omega) _⟩
   exact results_cell_row rfl _ _ (h+1) _ _ (0,0) _ rfl (setRow_heap _ _ _ _ _ _ HUG.out) Tryz.underlying99 rfl (szRow _ _ _)
  ·obtain rfl:q=0:=by omega
   have dq:decide (0<((0:Nat):Int))=false:=decN0 (by omega)
   have hz0:zext n f L=0:=by rw[HEX.out,if_neg (by omega)]
   have hne:∀j,(Value.slice A' L c').ownBlock=some j→j≠h+1:=fun j hj=>by have:=(own_blk_lt HOWN.out j hj).1;omega
   have HZ0:=Lib.hid hz0;have HNE:=Lib.hid hne
   clear hz0 hne
   go_wp2_with (first
    |(refine wpList_load_row rfl _ _ rfl X rfl _ #[.slice A' L c',.int .u64 0,.int .i64 ((0:Nat):Int)] (0,0) _ HX.out Tryz.underlying99 rfl (szRow _ _ _) ?_)
    |(refine wpList_store_rowTo rfl _ _ _ rfl rfl (h+1) #[.slice A' L c',.int .u64 0,.int .i64 ((0:Nat):Int)] rfl rfl 99 #[.slice none 0 0,.int .u64 0,.int .i64 0] HG2.out (szRow _ _ _) rfl (by simp[Value.oneCell']) ?_)
    |fail)
   rw[HZ0.out]
   refine bodyPost_ret (v:=.agg #[.slice A' L c',.int .u64 0,.int .i64 ((0:Nat):Int)]) ?_ rfl ⟨A',c',rfl,own_blk (HWN.out _ HOWN.out) fun j hj=>setRow_other _ _ _ _ (HNE.out j hj),below_row8 HBX.out (by omega) _⟩
   exact results_cell_row rfl _ _ (h+1) _ _ (0,0) _ rfl (setRow_heap _ _ _ _ _ _ HG2.out) Tryz.underlying99 rfl (szRow _ _ _)
end Go.Proofs.YtgokdgcmkcmjeaaGreat
