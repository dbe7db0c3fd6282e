/-
  Words and walks.
-/
import Derived.Laws.CopyOwn
import Derived.Lib.AppendZeros
import Derived.Deep.RegionLaw
import Derived.BigQuiet
import Derived.BigRegion
import Derived.Test.YtgokdgcmkcmjeaaGreatpbaa
import Derived.Test.YtgokdgcmkcmjeaaGreatpbab
import Derived.Test.YtgokdgcmkcmjeaaGreatpbad
import Derived.Test.YtgokdgcmkcmjeaaGreatpbas
import Derived.Test.YtgokdgcmkcmjeaaGreatpbaw
set_option maxRecDepth 100000
set_option maxHeartbeats 16000000
namespace Go.Proofs.YtgokdgcmkcmjeaaGreat
open Go.RowKit Go.ChangeShapes Go.WideShapes Go.ChangeAt Go.Joins
theorem and32(c:Nat)(hc:c<4294967296):bits .and .u64 (c:Int) 4294967295=(c:Int):=by
 have h:=u64_and c 4294967295 (by omega) (by omega)
 have e:c&&&4294967295=c%4294967296:=Nat.and_two_pow_sub_one_eq_mod c 32
 rw[e,Nat.mod_eq_of_lt hc]at h
 exact h
theorem mul64_one(w:World)(c:Nat)(hc:c≤1000000):Calls Tryz.prog 193 #[.int .u64 1,.int .u64 (c:Int)] w fun e w'=>e=.returned (.tuple #[.int .u64 0,.int .u64 (c:Int)])∧w=w':=by
 have h1:bits .and .u64 1 4294967295=(1:Int):=and32 1 (by omega)
 have h2:=and32 c (by omega)
 have h3:(c:Int)/4294967296=0:=by omega
 have h0:bits .and .u64 0 4294967295=(0:Int):=and32 0 (by omega)
 go_enter Tryz.func193,Tryz.ntmps193
 go_wp2
 go_ret2
 exact⟨rfl,rfl⟩
theorem mul_one(w:World)(c:Nat)(hc:c≤1000000):Calls Tryz.prog 180 #[.int .u64 1,.int .u64 (c:Int)] w fun e w'=>e=.returned (.tuple #[.int .u64 0,.int .u64 (c:Int)])∧w=w':=by
 have H:=Lib.hid (mul64_one w c hc)
 go_enter Tryz.func180,Tryz.ntmps180
 go_wp2_with fail
 refine H.out.mono ?_
 rintro e w1 ⟨rfl,rfl⟩
 go_wp2
 go_ret2
 exact⟨rfl,rfl⟩
theorem order_con:OrderCon:=by
 intro w
 have hz:=(zero_of_info infoOrd).1
 have f1:=flatOrd
 obtain⟨T,hT⟩:∃T:Nat→Int,T=fun i=>(ordN i:Int):=⟨_,rfl⟩
 obtain⟨Z,hZ⟩:∃Z:Nat→Int,Z=fun _=>0:=⟨_,rfl⟩
 rw[←hT]at f1⊢
 rw[←hZ]at hz
 have F1:=Lib.hid f1
 have K0:Hid ((w.alloc (.cells (tblA Z 19) 213)).heap[w.heap.size]?=some (.cells (tblA Z 19) 213 (0,0))):=Lib.hid (heap_alloc_new w _)
 clear hT hZ f1
 go_enter Tryz.func140,Tryz.ntmps140
 go_wp2_with (first
  |(refine wpList_buildFlatArrTo rfl 213 3 19 _ rfl .i64 [16,17,18,0,8,7,9,6,10,5,11,4,12,3,13,2,14,1,15] (some 1) rfl Tryz.underlying213 (by kernel_rfl) (by kernel_rfl) rfl ?_;rw[F1.out])
  |(refine wpList_store_rowTo rfl _ _ _ rfl rfl w.heap.size (tblA T 19) rfl rfl 213 (tblA Z 19) K0.out (szO19 _) (by rw[tblA_size,tblA_size]) (tblA_one _ _) ?_)
  |fail)
 refine bodyPost_ret (v:=.agg (tblA T 19)) ?_ rfl ⟨rfl,below_row9 ((Below.refl _ _).alloc (Nat.le_refl _) _) (Nat.le_refl _) _⟩
 exact results_cell_row rfl _ _ w.heap.size _ _ (0,0) _ rfl (setRow_heap _ _ _ _ _ _ K0.out) Tryz.underlying213 rfl (szO19 _)
theorem make_lenU(n:Nat)(h:n≤1000000000):∀u:World,(Instr.makeSlice 22 (.int .i64 (n:Int)) (.int .i64 (n:Int))).run Tryz.prog u=
   .ok (.slice (some ⟨u.heap.size,0,none⟩) n n) (u.alloc (.cells (madeCells #[.int .u8 0] n) 5)):=fun u=>by
 obtain⟨i0,hi,hz0,hz1,hz2⟩:=info_parts infoU8
 have h:=run_make (P:=Tryz.prog) u 22 5 i0 _ Tryz.underlying22 hi hz0 .i64 .i64 (n:Int) (n:Int) (by omega) (by omega) (by rw[hz2];omega) (by omega)
 rw[Int.toNat_natCast,hz1,Nat.mul_one]at h
 exact h
def repF(v t j:Nat):Nat:=if j<t then v else 0
theorem splice_rep(c t m v:Nat)(h:t+m≤c):splice (bytesL c (repF v t)) t (bytesL m (fun _=>v))=bytesL c (repF v (t+m)):=by
 apply List.ext_getElem?
 intro j
 have hl:(bytesL m (fun _=>v)).length=m:=by simp[bytesL]
 have hl2:(bytesL c (repF v t)).length=c:=by simp[bytesL]
 simp only[splice,List.getElem?_append,List.length_take,hl,hl2,bytesL_get,List.getElem?_take,List.getElem?_drop,repF,Nat.min_eq_left (show t≤c by omega)]
 by_cases h1:j<t
 ·simp[h1,show j<t+m by omega]
 ·by_cases h2:j<t+m
  ·simp[h1,h2,show j-t<m by omega,show j<c by omega]
  ·simp[h1,h2,show¬j-t<m by omega]
   rw[show t+m+(j-t-m)=j by omega]
   simp[h1]
theorem rep_made(c v:Nat):(madeCells #[.int .u8 0] c)=(bytesL c (repF v 0)).toArray:=by
 have h:=toList_madeCells_one (Value.int .u8 0) c
 have e:bytesL c (repF v 0)=List.replicate c (Value.int .u8 0):=by
  apply List.ext_getElem?
  intro j
  rw[bytesL_get,List.getElem?_replicate]
  simp[repF]
 rw[e,←h]
theorem rep_src{w:World}{b o m v:Nat}(h:∀j,j<m→w.cell? ⟨b,o+j,none⟩=some (.int .u8 (v:Int))):∀(j:Nat) (u:Value),(bytesL m (fun _=>v))[j]?=some u→w.cell? ((⟨b,o,none⟩:Addr).add j)=some u:=by
 intro j u hu
 rw[bytesL_get]at hu
 by_cases hj:j<m
 ·rw[if_pos hj]at hu
  injection hu with hu
  subst hu
  have e:(⟨b,o,none⟩:Addr).add j=⟨b,o+j,none⟩:=by unfold Addr.add;split<;>simp_all
  rw[e];exact h j hj
 ·rw[if_neg hj]at hu;cases hu
theorem repeat_any(w:World)(b v c:Nat)(_hv:v<256)(hc1:1≤c)(hc:c≤1000)(hb:b<w.heap.size)(hx:w.cell? ⟨b,0,none⟩=some (.int .u8 (v:Int))):
  Calls Tryz.prog 165 #[.slice (some ⟨b,0,none⟩) 1 1,.int .i64 (c:Int)] w fun e w'=>e=.returned (.slice (some ⟨w.heap.size,0,none⟩) c c)∧w'.ownsRow w.heap.size 5 1 (.slice (some ⟨w.heap.size,0,none⟩) c c) c (bytesL c (fun _=>v))∧Below w.heap.size w w':=by
 have HM:=Lib.hid (mul_one w c (by omega))
 obtain⟨h,hh⟩:∃h,h=w.heap.size:=⟨_,rfl⟩
 obtain⟨W1,hW1⟩:∃W,W=w.alloc (.cells (madeCells #[.int .u8 0] c) 5):=⟨_,rfl⟩
 have hb1:Below h w W1:=by rw[hW1,hh];exact(Below.refl _ _).alloc (Nat.le_refl _) _
 have h1:W1.heap[h]?=some (.cells (bytesL c (repF v 0)).toArray 5 (0,0)):=by
  rw[hW1,hh,heap_alloc_new,rep_made c v]
 have hx1:W1.cell? ⟨b,0,none⟩=some (.int .u8 (v:Int)):=(hb1.cell (p:=⟨b,0,none⟩) (by rw[hh];exact hb)).trans hx
 have hc0:¬(c:Int)<0:=by omega
 have hmk:=make_lenU c (by omega)
 have HW1:=Lib.hid hW1;have HH:=Lib.hid hh;have HB1:=Lib.hid hb1;have H1:=Lib.hid h1;have HX1:=Lib.hid hx1
 clear hW1 hb1 h1 hx1 hx hh
 go_enter Tryz.func165,Tryz.ntmps165
 go_wp2_with fail
 refine HM.out.mono ?_
 rintro e w2 ⟨rfl,rfl⟩
 have hh2:=HH.out
 go_wp2_with (with_reducible refine wpList_copy_splice rfl (.tmp 31) (.tmp 32) 22 22 rfl 5 Tryz.underlying22 sz5 _ _ _ _ _ _ rfl rfl h 0 (bytesL c (repF v 0)) 5 ?c1 (bytesL 1 (fun _=>v)) ?c2 ?c3 ?c4 (bytesL_one 1 _) h W1 ?c5 (Nat.le_refl _) ?c6)
 case c1=>rw[←HW1.out];exact H1.out
 case c2=>simp only[bytesL,List.length_map,List.length_range];exact(Nat.min_eq_left hc1).symm
 case c3=>
  intro _
  refine⟨by rw[HH.out],_,rfl,rep_src fun j hj=>?_⟩
  obtain rfl:j=0:=by omega
  rw[←HW1.out];exact HX1.out
 case c4=>simp[bytesL];omega
 case c5=>rw[←HW1.out];exact Below.refl _ _
 case c6=>
  rw[←HH.out]
  intro w3 hg3 hb3
  have hs:=splice_rep c 0 1 v (by omega)
  rw[Nat.zero_add]at hs
  have HG3:Hid (w3.heap[h]?=some (.cells (bytesL c (repF v 1)).toArray 5 (0,0))):=Lib.hid (by rw[←hs];exact hg3.out)
  have HB3:=Lib.hid (HB1.out.trans hb3)
  have hl1:(((bytesL 1 fun _=>v).length:Nat):Int)=1:=by simp[bytesL]
  rw[hl1]
  clear hg3 hb3 hs hl1 hmk hh2 HW1 H1 HX1 HB1
  go_wp2
  go_loopw [8] (fun nv wr=>∃t:Nat,1≤t∧t≤c∧nv=.int .i64 (t:Int)∧Hid (wr.heap[h]?=some (.cells (bytesL c (repF v t)).toArray 5 (0,0)))∧Hid (Below h w wr)) (fun nv _=>c-(intOf nv).toNat)
  case atStart=>exact⟨1,Nat.le_refl _,hc1,rfl,HG3,HB3⟩
  case round=>
   obtain⟨t,ht1,htc,rfl,HG,HB⟩:=hrel
   by_cases hlt:t<c
   ·have hlti:(t:Int)<(c:Int):=by omega
    obtain⟨m,hm⟩:∃m,m=Nat.min t (c-t):=⟨_,rfl⟩
    have hm1:m≤t:=by rw[hm];exact Nat.min_le_left _ _
    have hm2:t+m≤c:=by have:m≤c-t:=(by rw[hm];exact Nat.min_le_right _ _);omega
    have hm3:0<m:=by rw[hm];exact Nat.lt_min.2 ⟨ht1,by omega⟩
    have HMM:=Lib.hid hm
    clear hm
    go_wp2
    have t0:¬(t:Int)<0:=by omega
    have t1:¬(c:Int)<(t:Int):=by omega
    have t2:(t:Int)≤(c:Int):=by omega
    refine wp_split_after1 6 wr.heap.size wr (Below.refl _ _) (by kernel_rfl) (by kernel_rfl) (.tmp 8) (.int .i64 (t:Int)) rfl (some 38) rfl rfl rfl rfl (by kernel_rfl) (fun _ _ _ h=>h) ?_
    simp only[List.take_succ_cons,List.take_zero,List.drop_succ_cons,List.drop_zero,Act.put,List.setIfInBounds_toArray,List.set_cons_zero,List.set_cons_succ]
    repeat go_big_quiet_step (fail)
    refine wpQuiet_nil ?_
    rintro V ⟨⟨V,hV⟩,rfl⟩
    have hgV:V.heap[h]?=some (.cells (bytesL c (repF v t)).toArray 5 (0,0)):=(hV.block h (Array.getElem?_eq_some_iff.1 HG.out).1).trans HG.out
    have HGV:=Lib.hid hgV;have HBV:=Lib.hid (HB.out.trans (hV.mono (by have:=HB.out.size;rw[HH.out];exact this)))
    go_wp2_with (with_reducible refine wpList_copy_splice rfl (.tmp 41) (.tmp 44) 22 22 rfl 5 Tryz.underlying22 sz5 _ _ _ _ _ _ rfl rfl h t (bytesL c (repF v t)) 5 HGV.out (bytesL m (fun _=>v)) ?c1 ?c2 ?c3 (bytesL_one m _) h w ?c4 (Nat.le_refl _) ?c5)
    case c1=>simp only[bytesL,List.length_map,List.length_range];exact HMM.out
    case c2=>
     intro _
     first
      |(refine⟨rfl,_,rfl,rep_src fun j hj=>?_⟩
        rw[cell_of_row V h (0+j) _ _ (0,0) HGV.out,List.getElem?_toArray,bytesL_get,if_pos (by omega)]
        unfold repF;rw[if_pos (by omega)])
      |(intro j u hu
        rw[bytesL_get]at hu
        by_cases hj:j<m
        ·rw[if_pos hj]at hu
         injection hu with hu
         rw[cell_of_row V h j _ _ (0,0) HGV.out,List.getElem?_toArray,bytesL_get,if_pos (by omega),←hu]
         unfold repF;rw[if_pos (by omega)]
        ·rw[if_neg hj]at hu;cases hu)
    case c3=>simp only[bytesL,List.length_map,List.length_range];omega
    case c4=>exact HBV.out
    case c5=>
     intro w5 hg5 hb5
     have hg5':=hg5.out
     rw[splice_rep c t m v hm2]at hg5'
     have HG5:=Lib.hid hg5';have HB5:=Lib.hid hb5
     have hl1:(bytesL m fun _=>v).length=m:=by simp[bytesL]
     rw[hl1]
     clear hg5 hg5' hb5 hl1
     go_wp2
     go_roundw
     case rel=>exact⟨t+m,by omega,hm2,by go_num,HG5,HB5⟩
     case measure=>simp[intOf];omega
   ·obtain rfl:t=c:=by omega
    have hlti:¬(t:Int)<(t:Int):=by omega
    go_wp2
    go_ret
    rw[←HH.out]
    refine⟨rfl,⟨by simp[bytesL],.inr ⟨h,t,_,rfl,Nat.le_refl _,HG.out,Nat.le_refl _,by unfold maxLen;omega,by simp[bytesL],?_⟩⟩,HB.out⟩
    rw[Nat.mul_one,List.take_of_length_le (by simp[bytesL])]
    exact bytesL_ext fun j hj=>by unfold repF;rw[if_pos hj]
theorem times_any(w:World)(v c:Nat)(hv:v<256)(hc1:1≤c)(hc:c≤1000):
  Calls Tryz.prog 123 #[.int .u8 (v:Int),.int .i64 (c:Int)] w fun e w'=>∃A' c',e=.returned (.slice A' c c')∧w'.ownsRow w.heap.size 5 1 (.slice A' c c') c (bytesL c (fun _=>v))∧Below w.heap.size w w':=by
 have hr:=repeat_any (w.alloc (.cells #[.int .u8 (v:Int)] 5)) w.heap.size v c hv hc1 hc (by simp) ((cell_of_row _ _ 0 _ _ (0,0) (heap_alloc_new w _)).trans rfl)
 have HB:=Lib.hid ((Below.refl w.heap.size w).alloc (Nat.le_refl _) (.cells #[.int .u8 (v:Int)] 5))
 have HR:=Lib.hid hr
 clear hr
 go_enter Tryz.func123,Tryz.ntmps123
 go_wp2_with fail
 refine HR.out.mono ?_
 rintro e w1 ⟨rfl,ho,hb⟩
 have HO:=Lib.hid (by simpa using ownsRow_base ho (show w.heap.size≤(w.alloc (.cells #[.int .u8 (v:Int)] 5)).heap.size by simp):w1.ownsRow w.heap.size 5 1 (.slice (some ⟨w.heap.size+1,0,none⟩) c c) c (bytesL c (fun _=>v)));have HB1:=Lib.hid (HB.out.trans (hb.mono (by simp)))
 clear ho hb
 go_wp2
 go_ret
 exact⟨_,_,rfl,HO.out,HB1.out⟩
def fixN:Nat→Nat
 |0=>144
 |1=>112
 |2=>24
 |_=>8
def fixV:Nat→Nat
 |0=>8
 |1=>9
 |2=>7
 |_=>8
theorem fix_sum:sumU fixN 4=288:=by rfl
theorem fix_cat(j:Nat)(hj:j<288):catU fixN (fun i _=>fixV i) 4 j=fixA j:=by
 have s1:sumU fixN 1=144:=rfl
 have s2:sumU fixN 2=256:=rfl
 have s3:sumU fixN 3=280:=rfl
 show cat (cat (cat (cat (fun _=>0) 0 (fun _=>8)) (sumU fixN 1) (fun _=>9)) (sumU fixN 2) (fun _=>7)) (sumU fixN 3) (fun _=>8) j=fixA j
 rw[s1,s2,s3]
 unfold cat fixA
 split
 ·split
  ·split
   ·rw[if_neg (by omega),if_neg (by omega),if_neg (by omega)]
   ·rw[if_neg (by omega),if_pos (by omega)]
  ·rw[if_pos (by omega)]
 ·rw[if_neg (by omega),if_neg (by omega)]
theorem fixed_con:FixedCon:=by
 intro w
 go_enter Tryz.func87,Tryz.ntmps87
 go_wp2_with fail
 refine(times_any w 8 144 (by omega) (by omega) (by omega)).mono ?_
 rintro e w1 ⟨A1,c1,rfl,o1,b1⟩
 have O1:=Lib.hid o1;have B1:=Lib.hid b1
 clear o1 b1
 go_wp2_with fail
 refine(times_any w1 9 112 (by omega) (by omega) (by omega)).mono ?_
 rintro e w2 ⟨A2,c2,rfl,o2,b2⟩
 have O12:=Lib.hid (own_keepG O1.out b2);have O2:=Lib.hid o2;have B2:=Lib.hid (B1.out.trans (b2.mono B1.out.size))
 clear o2 b2 O1
 go_wp2_with fail
 refine(times_any w2 7 24 (by omega) (by omega) (by omega)).mono ?_
 rintro e w3 ⟨A3,c3,rfl,o3,b3⟩
 have O13:=Lib.hid (own_keepG O12.out b3);have O23:=Lib.hid (own_keepG O2.out b3);have O3:=Lib.hid o3;have B3:=Lib.hid (B2.out.trans (b3.mono B2.out.size))
 clear o3 b3 O12 O2
 go_wp2_with fail
 refine(times_any w3 8 8 (by omega) (by omega) (by omega)).mono ?_
 rintro e w4 ⟨A4,c4,rfl,o4,b4⟩
 have O14:=Lib.hid (own_keepG O13.out b4);have O24:=Lib.hid (own_keepG O23.out b4);have O34:=Lib.hid (own_keepG O3.out b4);have O4:=Lib.hid o4;have B4:=Lib.hid (B3.out.trans (b4.mono B3.out.size))
 clear o4 b4 O13 O23 O3
 obtain⟨W5,hW5⟩:∃W,W=w4.alloc (.cells #[.slice A1 144 c1,.slice A2 112 c2,.slice A3 24 c3,.slice A4 8 c4] 22):=⟨_,rfl⟩
 have b5:Below w4.heap.size w4 W5:=by rw[hW5];exact(Below.refl _ _).alloc (Nat.le_refl _) _
 have hnew:W5.heap[w4.heap.size]?=some (.cells #[.slice A1 144 c1,.slice A2 112 c2,.slice A3 24 c3,.slice A4 8 c4] 22 (0,0)):=by rw[hW5];exact heap_alloc_new w4 _
 have hrd:∀{A:Option Addr} {c n v base:Nat},v<256→w4.ownsRow base 5 1 (.slice A n c) n (bytesL n (fun _=>v))→RdB W5 W5.heap.size A n (fun _=>v)∧(A=none→c=0):=fun hv ho=>by
  have:=ByR.of_own (own_keepG ho b5) (fun _=>hv)
  exact⟨this.1,this.2.1⟩
 have hrows:RowsB W5 W5.heap.size (some ⟨w4.heap.size,0,none⟩) 4 fixN (fun i _=>fixV i):=fun _=>by
  refine⟨w4.heap.size,0,rfl,(Array.getElem?_eq_some_iff.1 hnew).1,fun i hi=>?_⟩
  rcases i with _|_|_|_|i
  ·exact⟨A1,c1,(cell_of_row W5 _ 0 _ _ (0,0) hnew).trans rfl,(hrd (by omega) O14.out).1,(hrd (by omega) O14.out).2⟩
  ·exact⟨A2,c2,(cell_of_row W5 _ 1 _ _ (0,0) hnew).trans rfl,(hrd (by omega) O24.out).1,(hrd (by omega) O24.out).2⟩
  ·exact⟨A3,c3,(cell_of_row W5 _ 2 _ _ (0,0) hnew).trans rfl,(hrd (by omega) O34.out).1,(hrd (by omega) O34.out).2⟩
  ·exact⟨A4,c4,(cell_of_row W5 _ 3 _ _ (0,0) hnew).trans rfl,(hrd (by omega) O4.out).1,(hrd (by omega) O4.out).2⟩
  ·omega
 have hcon:=concatu_any W5 (some ⟨w4.heap.size,0,none⟩) 4 4 fixN (fun i _=>fixV i) (fun i _=>by unfold fixV;split<;>omega) hrows (by omega) (by rw[fix_sum];omega)
 rw[fix_sum,bytesL_ext fix_cat]at hcon
 have HCON:=Lib.hid hcon;have HW5:=Lib.hid hW5;have B5:=Lib.hid (B4.out.trans (b5.mono B4.out.size))
 clear hcon hW5 hrows hrd hnew b5 O14 O24 O34 O4 B1 B2 B3 B4
 go_wp2_with (first|rw[←HW5.out]|fail)
 refine HCON.out.mono ?_
 rintro e w6 ⟨Aa,ca,rfl,oa,b6⟩
 have OA:=Lib.hid (ownsRow_base oa B5.out.size);have B6:=Lib.hid (B5.out.trans (b6.mono B5.out.size))
 clear oa b6 HCON
 go_wp2_with fail
 refine(times_any w6 5 32 (by omega) (by omega) (by omega)).mono ?_
 rintro e w7 ⟨Ab,cb,rfl,ob,b7⟩
 have OA7:=Lib.hid (own_keepG OA.out b7);have OB:=Lib.hid ob;have B7:=Lib.hid (B6.out.trans (b7.mono B6.out.size))
 clear ob b7
 go_wp2
 go_ret2
 refine⟨Aa,ca,Ab,cb,rfl,OA7.out,ownsRow_base OB.out B6.out.size,fun g h1 h2=>?_,B7.out⟩
 have k1:=(own_blk_lt OA.out g h1).2
 have k2:=(own_blk_lt OB.out g h2).1
 omega
end Go.Proofs.YtgokdgcmkcmjeaaGreat
namespace Go.Proofs.YtgokdgcmkcmjeaaGreat
def Ah(F:Nat→Nat)(x y:Nat):Prop:=F x<F y∨(F x=F y∧x<y)
theorem Ah.tr{F:Nat→Nat}{x y z:Nat}(h:Ah F x y)(g:Ah F y z):Ah F x z:=by unfold Ah at*;omega
def Rs(F f:Nat→Nat)(a b:Nat):Prop:=∀i j,a≤i→i<j→j<b→Ah F (f i) (f j)
def St(F f:Nat→Nat)(N:Nat):Prop:=∀i j,i<j→j<N→F (f i)=F (f j)→f i<f j
def Same(f g:Nat→Nat)(a b:Nat):Prop:=
 (∀t,¬(a≤t∧t<b)→g t=f t)∧(∀t,a≤t→t<b→∃s,a≤s∧s<b∧g t=f s)∧(∀s,a≤s→s<b→∃t,a≤t∧t<b∧g t=f s)
theorem Same.refl(f:Nat→Nat)(a b:Nat):Same f f a b:=⟨fun _ _=>rfl,fun t h1 h2=>⟨t,h1,h2,rfl⟩,fun t h1 h2=>⟨t,h1,h2,rfl⟩⟩
theorem Same.trans{f g h:Nat→Nat}{a b:Nat}(p:Same f g a b)(q:Same g h a b):Same f h a b:=by
 refine⟨fun t ht=>(q.1 t ht).trans (p.1 t ht),fun t h1 h2=>?_,fun s h1 h2=>?_⟩
 ·obtain⟨u,u1,u2,e⟩:=q.2.1 t h1 h2
  obtain⟨v,v1,v2,e2⟩:=p.2.1 u u1 u2
  exact⟨v,v1,v2,e.trans e2⟩
 ·obtain⟨u,u1,u2,e⟩:=p.2.2 s h1 h2
  obtain⟨v,v1,v2,e2⟩:=q.2.2 u u1 u2
  exact⟨v,v1,v2,e2.trans e⟩
theorem Same.wide{f g:Nat→Nat}{a b a' b':Nat}(p:Same f g a b)(ha:a'≤a)(hb:b≤b'):Same f g a' b':=by
 refine⟨fun t ht=>p.1 t (by omega),fun t h1 h2=>?_,fun s h1 h2=>?_⟩
 ·by_cases h:a≤t∧t<b
  ·obtain⟨u,u1,u2,e⟩:=p.2.1 t h.1 h.2
   exact⟨u,by omega,by omega,e⟩
  ·exact⟨t,h1,h2,p.1 t h⟩
 ·by_cases h:a≤s∧s<b
  ·obtain⟨u,u1,u2,e⟩:=p.2.2 s h.1 h.2
   exact⟨u,by omega,by omega,e⟩
  ·exact⟨s,h1,h2,p.1 s h⟩
theorem Same.lt{f g:Nat→Nat}{a b N M:Nat}(p:Same f g a b)(hb:b≤N)(h:∀t,t<N→f t<M):∀t,t<N→g t<M:=fun t ht=>by
 by_cases g:a≤t∧t<b
 ·obtain⟨u,u1,u2,e⟩:=p.2.1 t g.1 g.2
  rw[e];exact h u (by omega)
 ·rw[p.1 t g];exact h t ht
theorem St.keep{F f g:Nat→Nat}{a b N:Nat}(h:St F f N)(p:Same f g a b)(hr:Rs F g a b)(hb:b≤N):St F g N:=fun i j hij hj e=>by
 by_cases hi:a≤i∧i<b
 ·by_cases hj2:a≤j∧j<b
  ·have:=hr i j hi.1 hij hj2.2
   unfold Ah at this;omega
  ·obtain⟨s,s1,s2,e2⟩:=p.2.1 i hi.1 hi.2
   have e3:=p.1 j hj2
   rw[e2,e3]at e⊢
   exact h s j (by omega) hj e
 ·have e2:=p.1 i hi
  by_cases hj2:a≤j∧j<b
  ·obtain⟨s,s1,s2,e3⟩:=p.2.1 j hj2.1 hj2.2
   rw[e2,e3]at e⊢
   exact h i s (by omega) (by omega) e
  ·have e3:=p.1 j hj2
   rw[e2,e3]at e⊢
   exact h i j hij hj e
theorem Rs.part{F f:Nat→Nat}{a b a' b':Nat}(h:Rs F f a b)(ha:a≤a')(hb:b'≤b):Rs F f a' b':=fun i j h1 h2 h3=>h i j (by omega) h2 (by omega)
theorem Rs.keep{F f g:Nat→Nat}{a b c d:Nat}(h:Rs F f c d)(p:Same f g a b)(hd:d≤a∨b≤c):Rs F g c d:=fun i j h1 h2 h3=>by
 rw[p.1 i (by omega),p.1 j (by omega)]
 exact h i j h1 h2 h3
theorem Rs.one{F f:Nat→Nat}{a b:Nat}(h:b≤a+1):Rs F f a b:=fun i j h1 h2 h3=>by omega
theorem ah_of{F f:Nat→Nat}{N i j:Nat}(h:St F f N)(hij:i<j)(hj:j<N)(e:F (f i)≤F (f j)):Ah F (f i) (f j):=by
 rcases Nat.lt_or_ge (F (f i)) (F (f j))with g|g
 ·exact .inl g
 ·have e2:F (f i)=F (f j):=by omega
  exact .inr ⟨e2,h i j hij hj e2⟩
theorem rs_join{F f:Nat→Nat}{a m b N:Nat}(hs:St F f N)(hb:b≤N)(h1:Rs F f a m)(h2:Rs F f m b)(hc:a<m→m<b→F (f (m-1))≤F (f m)):Rs F f a b:=fun i j hi hij hj=>by
 by_cases g1:j<m
 ·exact h1 i j hi hij g1
 ·by_cases g2:m≤i
  ·exact h2 i j g2 hij hj
  ·apply ah_of hs hij (by omega)
   have h3:=hc (by omega) (by omega)
   have h4:F (f i)≤F (f (m-1)):=by
    by_cases e:i=m-1
    ·rw[e];exact Nat.le_refl _
    ·have:=h1 i (m-1) hi (by omega) (by omega)
     unfold Ah at this;omega
   have h5:F (f m)≤F (f j):=by
    by_cases e:j=m
    ·rw[e];exact Nat.le_refl _
    ·have:=h2 m j (Nat.le_refl _) (by omega) hj
     unfold Ah at this;omega
   omega
def sw(f:Nat→Nat)(i j t:Nat):Nat:=if t=j then f i else if t=i then f j else f t
theorem same_sw{f:Nat→Nat}{a b i j:Nat}(hi:a≤i∧i<b)(hj:a≤j∧j<b):Same f (sw f i j) a b:=by
 refine⟨fun t ht=>?_,fun t h1 h2=>?_,fun t h1 h2=>?_⟩
 ·unfold sw;rw[if_neg (by omega),if_neg (by omega)]
 ·by_cases e:t=j
  ·exact⟨i,hi.1,hi.2,by unfold sw;rw[if_pos e]⟩
  ·by_cases e2:t=i
   ·exact⟨j,hj.1,hj.2,by unfold sw;rw[if_neg e,if_pos e2]⟩
   ·exact⟨t,h1,h2,by unfold sw;rw[if_neg e,if_neg e2]⟩
 ·by_cases e:t=j
  ·by_cases e2:i=j
   ·exact⟨t,h1,h2,by unfold sw;rw[if_pos e,e2,e]⟩
   ·exact⟨i,hi.1,hi.2,by unfold sw;rw[if_neg e2,if_pos rfl,e]⟩
  ·by_cases e2:t=i
   ·exact⟨j,hj.1,hj.2,by unfold sw;rw[if_pos rfl,e2]⟩
   ·exact⟨t,h1,h2,by unfold sw;rw[if_neg e,if_neg e2]⟩
theorem sw_a(f:Nat→Nat)(j:Nat):sw f (j+1) j j=f (j+1):=by unfold sw;rw[if_pos rfl]
theorem sw_b(f:Nat→Nat)(j:Nat):sw f (j+1) j (j+1)=f j:=by unfold sw;rw[if_neg (by omega),if_pos rfl]
theorem sw_c(f:Nat→Nat){i j t:Nat}(h1:t≠j)(h2:t≠i):sw f i j t=f t:=by unfold sw;rw[if_neg h1,if_neg h2]
theorem St.sw{F f:Nat→Nat}{N j:Nat}(h:St F f N)(hj:j+1<N)(hlt:F (f (j+1))<F (f j)):St F (sw f (j+1) j) N:=fun i k hik hk e=>by
 by_cases i1:i=j
 ·subst i1
  by_cases k1:k=i+1
  ·subst k1;rw[sw_a,sw_b]at e;omega
  ·rw[sw_a,sw_c f (by omega) (by omega)]at e⊢
   exact h (i+1) k (by omega) hk e
 ·by_cases i2:i=j+1
  ·subst i2
   rw[sw_b,sw_c f (by omega) (by omega)]at e⊢
   exact h j k (by omega) hk e
  ·rw[sw_c f i1 i2]at e⊢
   by_cases k1:k=j
   ·subst k1;rw[sw_a]at e⊢
    exact h i (k+1) (by omega) hj e
   ·by_cases k2:k=j+1
    ·subst k2;rw[sw_b]at e⊢
     exact h i j (by omega) (by omega) e
    ·rw[sw_c f k1 k2]at e⊢
     exact h i k hik hk e
structure InsI (F f:Nat→Nat) (a i j:Nat):Prop where
 ord:∀s t,a≤s→s<t→t≤i→s≠j→t≠j→Ah F (f s) (f t)
 up:∀t,j<t→t≤i→Ah F (f j) (f t)
theorem InsI.start{F f:Nat→Nat}{a i:Nat}(h:Rs F f a i):InsI F f a i i:=
 ⟨fun s t h1 h2 h3 _ h5=>h s t h1 h2 (by omega),fun t h1 h2=>by omega⟩
theorem InsI.step{F f:Nat→Nat}{a i j:Nat}(h:InsI F f a i (j+1))(hj:a≤j)(hji:j+1≤i)(hlt:F (f (j+1))<F (f j)):InsI F (Go.Proofs.YtgokdgcmkcmjeaaGreat.sw f (j+1) j) a i j:=by
 refine⟨fun s t h1 h2 h3 h4 h5=>?_,fun t h1 h2=>?_⟩
 ·by_cases s1:s=j+1
  ·subst s1
   rw[sw_b,sw_c f (by omega) (by omega)]
   exact h.ord j t hj (by omega) h3 (by omega) (by omega)
  ·rw[sw_c f h4 s1]
   by_cases t1:t=j+1
   ·subst t1
    rw[sw_b]
    exact h.ord s j h1 (by omega) (by omega) (by omega) (by omega)
   ·rw[sw_c f h5 t1]
    exact h.ord s t h1 h2 h3 s1 t1
 ·rw[sw_a]
  by_cases t1:t=j+1
  ·subst t1;rw[sw_b];exact .inl hlt
  ·rw[sw_c f (by omega) t1]
   exact h.up t (by omega) h2
theorem InsI.stop{F f:Nat→Nat}{a i j N:Nat}(h:InsI F f a i j)(hs:St F f N)(hj:a≤j)(hji:j≤i)(hi:i<N)(hc:j≤a∨¬F (f j)<F (f (j-1))):Rs F f a (i+1):=fun s t h1 h2 h3=>by
 by_cases s1:s=j
 ·subst s1;exact h.up t h2 (by omega)
 ·by_cases t1:t=j
  ·subst t1
   have hn:¬F (f t)<F (f (t-1)):=by
    rcases hc with g|g
    ·omega
    ·exact g
   have hl:Ah F (f (t-1)) (f t):=ah_of hs (by omega) (by omega) (by omega)
   by_cases s2:s=t-1
   ·rw[s2];exact hl
   ·exact(h.ord s (t-1) h1 (by omega) (by omega) s1 (by omega)).tr hl
  ·exact h.ord s t h1 h2 (by omega) s1 t1
def src(s m e t:Nat):Nat:=if s≤t∧t<e then(if t<s+(e-m)then t+(m-s)else t-(e-m))else t
def rotF(f:Nat→Nat)(s m e t:Nat):Nat:=f (src s m e t)
def swF(f:Nat→Nat)(a b n t:Nat):Nat:=if a≤t∧t<a+n then f (t-a+b)else if b≤t∧t<b+n then f (t-b+a)else f t
theorem sw_start(f:Nat→Nat)(a b:Nat):swF f a b 0=f:=by
 funext t;unfold swF;rw[if_neg (by omega),if_neg (by omega)]
theorem sw_step(f:Nat→Nat){a b n i:Nat}(h:a+n≤b)(hi:i<n):sw (swF f a b i) (a+i) (b+i)=swF f a b (i+1):=by
 funext t
 unfold sw swF
 repeat' split
 all_goals first|rfl|(exfalso;omega)|(congr 1;omega)
theorem rot_gt(f:Nat→Nat){m i j:Nat}(h:j<i)(hi:i≤m)(hj:0<j):rotF (swF f (m-i) m j) (m-(i-j)) m (m+j)=rotF f (m-i) m (m+j):=by
 funext t
 unfold rotF swF src
 repeat' split
 all_goals first|rfl|(exfalso;omega)|(congr 1;omega)
theorem rot_lt(f:Nat→Nat){m i j:Nat}(h:i<j)(hi:i≤m)(h0:0<i):rotF (swF f (m-i) (m+j-i) i) (m-i) m (m+(j-i))=rotF f (m-i) m (m+j):=by
 funext t
 unfold rotF swF src
 repeat' split
 all_goals first|rfl|(exfalso;omega)|(congr 1;omega)
theorem rot_eq(f:Nat→Nat){m i:Nat}(hi:i≤m):swF f (m-i) m i=rotF f (m-i) m (m+i):=by
 funext t
 unfold rotF swF src
 repeat' split
 all_goals first|rfl|(exfalso;omega)|(congr 1;omega)
theorem rot_none(f:Nat→Nat){s m e:Nat}(h1:s≤m)(h2:m≤e)(h:s=m∨m=e):rotF f s m e=f:=by
 funext t
 unfold rotF src
 repeat' split
 all_goals first|rfl|(exfalso;omega)|(congr 1;omega)
theorem same_rot(f:Nat→Nat){s m e:Nat}(h1:s≤m)(h2:m≤e):Same f (rotF f s m e) s e:=by
 refine⟨fun t ht=>?_,fun t g1 g2=>?_,fun t g1 g2=>?_⟩
 ·unfold rotF src;rw[if_neg ht]
 ·refine⟨src s m e t,?_,?_,rfl⟩
  ·unfold src;rw[if_pos ⟨g1,g2⟩];split<;>omega
  ·unfold src;rw[if_pos ⟨g1,g2⟩];split<;>omega
 ·by_cases g:t<m
  ·refine⟨t+(e-m),by omega,by omega,?_⟩
   unfold rotF src;rw[if_pos (by omega),if_neg (by omega)];congr 1;omega
  ·refine⟨t-(m-s),by omega,by omega,?_⟩
   unfold rotF src;rw[if_pos (by omega),if_pos (by omega)];congr 1;omega
theorem Rs.le{F f:Nat→Nat}{a b i j:Nat}(h:Rs F f a b)(h1:a≤i)(h2:i≤j)(h3:j<b):F (f i)≤F (f j):=by
 by_cases e:i=j
 ·rw[e];exact Nat.le_refl _
 ·have:=h i j h1 (by omega) h3
  unfold Ah at this;omega
theorem src_a{s m e t:Nat}(h1:s≤t)(h2:t<s+(e-m))(h3:s≤m)(h4:m≤e):src s m e t=t+(m-s):=by
 unfold src;rw[if_pos (by omega),if_pos h2]
theorem src_b{s m e t:Nat}(h1:s+(e-m)≤t)(h2:t<e)(_h3:s≤m)(_h4:m≤e):src s m e t=t-(e-m):=by
 unfold src;rw[if_pos (by omega),if_neg (by omega)]
theorem src_c{s m e t:Nat}(h1:t<s∨e≤t):src s m e t=t:=by
 unfold src;rw[if_neg (by omega)]
def Lo(F g:Nat→Nat)(a m b:Nat):Prop:=∀i j,a≤i→i<m→m≤j→j<b→Ah F (g i) (g j)
section
variable {F f:Nat→Nat} {a s m e b N:Nat}
theorem rot_strict(r1:Rs F f a m)(r2:Rs F f m b)(has:a≤s)(heb:e≤b)(hx:s<m→m<e→F (f (e-1))<F (f s)){i j:Nat}(h1:m≤i)(h2:i<e)(h3:s≤j)(h4:j<m):F (f i)<F (f j):=by
 have g1:=r2.le (i:=i) (j:=e-1) h1 (by omega) (by omega)
 have g2:=r1.le (i:=s) (j:=j) has h3 h4
 have:=hx (by omega) (by omega)
 omega
theorem rot_st(hs:St F f N)(hb:b≤N)(r1:Rs F f a m)(r2:Rs F f m b)(has:a≤s)(hsm:s≤m)(hme:m≤e)(heb:e≤b)(hx:s<m→m<e→F (f (e-1))<F (f s)):St F (rotF f s m e) N:=fun i k hik hk eq=>by
 have key:src s m e i<src s m e k∧src s m e k<N∨(m≤src s m e i∧src s m e i<e∧s≤src s m e k∧src s m e k<m):=by
  unfold src
  split
  ·split
   ·split
    ·split<;>omega
    ·omega
   ·split
    ·split<;>omega
    ·omega
  ·split
   ·split<;>omega
   ·omega
 rcases key with⟨h1,h2⟩|⟨h1,h2,h3,h4⟩
 ·exact hs _ _ h1 h2 eq
 ·have:=rot_strict r1 r2 has heb hx h1 h2 h3 h4
  unfold rotF at eq;omega
theorem rot_rs1(r1:Rs F f a m)(hsm:s≤m):Rs F (rotF f s m e) a s:=fun i j h1 h2 h3=>by
 unfold rotF;rw[src_c (by omega),src_c (by omega)];exact r1 i j h1 h2 (by omega)
theorem rot_rs2(r2:Rs F f m b)(hsm:s≤m)(hme:m≤e)(heb:e≤b):Rs F (rotF f s m e) s (s+(e-m)):=fun i j h1 h2 h3=>by
 unfold rotF;rw[src_a h1 (by omega) hsm hme,src_a (by omega) h3 hsm hme];exact r2 _ _ (by omega) (by omega) (by omega)
theorem rot_rs3(r1:Rs F f a m)(has:a≤s)(hsm:s≤m)(hme:m≤e):Rs F (rotF f s m e) (s+(e-m)) e:=fun i j h1 h2 h3=>by
 unfold rotF;rw[src_b h1 (by omega) hsm hme,src_b (by omega) h3 hsm hme];exact r1 _ _ (by omega) (by omega) (by omega)
theorem rot_rs4(r2:Rs F f m b)(hme:m≤e):Rs F (rotF f s m e) e b:=fun i j h1 h2 h3=>by
 unfold rotF;rw[src_c (by omega),src_c (by omega)];exact r2 i j (by omega) h2 h3
theorem rot_lo(hs:St F f N)(hb:b≤N)(r1:Rs F f a m)(r2:Rs F f m b)(has:a≤s)(hsm:s≤m)(hme:m≤e)(heb:e≤b)(hx:s<m→m<e→F (f (e-1))<F (f s))(hy:a<s→e<b→F (f (s-1))≤F (f e)):
  Lo F (rotF f s m e) a (s+(e-m)) b:=fun i j h1 h2 h3 h4=>by
 unfold rotF
 by_cases g1:i<s
 ·rw[src_c (.inl g1)]
  by_cases g2:j<e
  ·rw[src_b h3 g2 hsm hme]
   exact r1 _ _ h1 (by omega) (by omega)
  ·rw[src_c (.inr (by omega))]
   have q1:=r1.le (i:=i) (j:=s-1) h1 (by omega) (by omega)
   have q2:=r2.le (i:=e) (j:=j) hme (by omega) h4
   have:=hy (by omega) (by omega)
   exact ah_of hs (by omega) (by omega) (by omega)
 ·rw[src_a (by omega) h2 hsm hme]
  by_cases g2:j<e
  ·rw[src_b h3 g2 hsm hme]
   exact .inl (rot_strict r1 r2 has heb hx (by omega) (by omega) (by omega) (by omega))
  ·rw[src_c (.inr (by omega))]
   exact r2 _ _ (by omega) (by omega) h4
end
theorem lo_join{F g g1 g2:Nat→Nat}{a m b:Nat}(p:Same g g1 a m)(r1:Rs F g1 a m)(q:Same g1 g2 m b)(r2:Rs F g2 m b)(hl:Lo F g a m b):Rs F g2 a b:=fun i j h1 h2 h3=>by
 by_cases g1':j<m
 ·rw[q.1 i (by omega),q.1 j (by omega)];exact r1 i j h1 h2 g1'
 ·by_cases g2':m≤i
  ·exact r2 i j g2' h2 h3
  ·obtain⟨s,s1,s2,e1⟩:=p.2.1 i h1 (by omega)
   obtain⟨u,u1,u2,e2⟩:=q.2.1 j (by omega) h3
   rw[q.1 i (by omega),e1,e2,p.1 u (by omega)]
   exact hl s u s1 s2 u1 u2
theorem merge_first{F f:Nat→Nat}{a i b N:Nat}(hs:St F f N)(hb:b≤N)(r2:Rs F f (a+1) b)(hi1:a+1≤i)(hi2:i≤b)(hl:i=a+1∨F (f (i-1))<F (f a))(hr:i=b∨¬F (f i)<F (f a)):
  Rs F (rotF f a (a+1) i) a b∧Same f (rotF f a (a+1) i) a b:=by
 have r1:Rs F f a (a+1):=Rs.one (Nat.le_refl _)
 have hx:a<a+1→a+1<i→F (f (i-1))<F (f a):=fun _ h=>by rcases hl with g|g<;>omega
 have hst:=rot_st (s:=a) (e:=i) hs hb r1 r2 (Nat.le_refl _) (by omega) hi1 hi2 hx
 have q2:=rot_rs2 (s:=a) (e:=i) r2 (by omega) hi1 hi2
 have q3:=rot_rs3 (s:=a) (e:=i) r1 (Nat.le_refl _) (by omega) hi1
 have q4:=rot_rs4 (s:=a) (e:=i) r2 hi1
 have hmid:a+(i-(a+1))+1=i:=by omega
 have q5:Rs F (rotF f a (a+1) i) (a+(i-(a+1))) b:=rs_join (m:=i) hst hb q3 q4 (fun _ hib=>by
  unfold rotF
  rw[src_b (by omega) (by omega) (by omega) hi1,src_c (.inr (Nat.le_refl _)),show i-1-(i-(a+1))=a by omega]
  rcases hr with g|g<;>omega)
 refine⟨lo_join (Same.refl _ _ _) q2 (Same.refl _ _ _) q5 ?_,(same_rot f (by omega) hi1).wide (Nat.le_refl _) hi2⟩
 exact rot_lo hs hb r1 r2 (Nat.le_refl _) (by omega) hi1 hi2 hx (fun h=>by omega)
theorem merge_last{F f:Nat→Nat}{a i m N:Nat}(hs:St F f N)(hb:m+1≤N)(r1:Rs F f a m)(hi1:a≤i)(hi2:i≤m)(hl:i=a∨¬F (f m)<F (f (i-1)))(hr:i=m∨F (f m)<F (f i)):
  Rs F (rotF f i m (m+1)) a (m+1)∧Same f (rotF f i m (m+1)) a (m+1):=by
 have r2:Rs F f m (m+1):=Rs.one (Nat.le_refl _)
 have hx:i<m→m<m+1→F (f (m+1-1))<F (f i):=fun h _=>by rw[Nat.add_sub_cancel];rcases hr with g|g<;>omega
 have hst:=rot_st (s:=i) (e:=m+1) hs hb r1 r2 hi1 hi2 (by omega) (Nat.le_refl _) hx
 have q1:=rot_rs1 (s:=i) (e:=m+1) r1 hi2
 have q2:=rot_rs2 (s:=i) (e:=m+1) r2 hi2 (by omega) (Nat.le_refl _)
 have q3:=rot_rs3 (s:=i) (e:=m+1) r1 hi1 hi2 (by omega)
 have q5:Rs F (rotF f i m (m+1)) a (i+(m+1-m)):=rs_join (m:=i) hst (by omega) q1 q2 (fun hai _=>by
  unfold rotF
  rw[src_c (.inl (by omega)),src_a (Nat.le_refl _) (by omega) hi2 (by omega),show i+(m-i)=m by omega]
  rcases hl with g|g<;>omega)
 refine⟨lo_join (Same.refl _ _ _) q5 (Same.refl _ _ _) q3 ?_,(same_rot f hi2 (by omega)).wide hi1 (Nat.le_refl _)⟩
 exact rot_lo hs hb r1 r2 hi1 hi2 (by omega) (Nat.le_refl _) hx (fun _ h=>by omega)
def Ch(F f:Nat→Nat)(S N:Nat):Prop:=∀k,Rs F f (k*S) (min (k*S+S) N)
theorem mul_step{k l S:Nat}(h:k<l):k*S+S≤l*S:=by
 rw[←Nat.succ_mul];exact Nat.mul_le_mul_right _ h
theorem Ch.whole{F f:Nat→Nat}{S N:Nat}(h:Ch F f S N)(hS:N≤S):Rs F f 0 N:=by
 have:=h 0
 rw[Nat.zero_mul,show min (0+S) N=N by omega]at this
 exact this
theorem ch_pass{F f:Nat→Nat}{S A N k:Nat}(hA:A=k*S)(h1:∀l,l<k→Rs F f (l*S) (l*S+S))(h2:Rs F f A N)(hN:N<A+S):Ch F f S N:=fun l=>by
 rcases Nat.lt_trichotomy l k with h|h|h
 ·exact(h1 l h).part (Nat.le_refl _) (Nat.min_le_left _ _)
 ·subst h;rw[←hA];exact h2.part (Nat.le_refl _) (Nat.min_le_right _ _)
 ·have:=mul_step (S:=S) h
  exact Rs.one (by omega)
theorem order_tail{F:Nat→Nat}{x:Nat}{l:List Nat}(h:InOrder F (x::l)):x∉l:=fun hx=>by
 have:=ahead_iff.1 (h.1 x hx);omega
theorem order_same{F:Nat→Nat}:∀(l l':List Nat),InOrder F l→InOrder F l'→(∀x,x∈l↔x∈l')→l=l'
 |[],[],_,_,_=>rfl
 |[],y::l',_,_,h=>absurd ((h y).2 (by simp)) (by simp)
 |x::l,[],_,_,h=>absurd ((h x).1 (by simp)) (by simp)
 |x::l,y::l',h1,h2,h=>by
  have e:x=y:=by
   rcases List.mem_cons.1 ((h x).1 (by simp))with g|g
   ·exact g
   ·rcases List.mem_cons.1 ((h y).2 (by simp))with k|k
    ·exact k.symm
    ·have a1:=ahead_iff.1 (h2.1 x g)
     have a2:=ahead_iff.1 (h1.1 y k)
     omega
  subst e
  rw[order_same l l' h1.2 h2.2 (fun z=>?_)]
  constructor
  ·intro hz
   rcases List.mem_cons.1 ((h z).1 (by simp[hz]))with g|g
   ·subst g;exact absurd hz (order_tail h1)
   ·exact g
  ·intro hz
   rcases List.mem_cons.1 ((h z).2 (by simp[hz]))with g|g
   ·subst g;exact absurd hz (order_tail h2)
   ·exact g
theorem range_order{F f:Nat→Nat}:∀(n a:Nat),Rs F f a (a+n)→InOrder F ((List.range' a n).map f)
 |0,_,_=>trivial
 |n+1,a,h=>by
  refine⟨fun x hx=>?_,range_order n (a+1) (h.part (by omega) (by omega))⟩
  simp only[List.mem_map,List.mem_range'_1]at hx
  obtain⟨t,ht,rfl⟩:=hx
  have:=h a t (Nat.le_refl _) (by omega) (by omega)
  exact ahead_iff.2 this
theorem order_items{F f:Nat→Nat}{n M:Nat}(h:Rs F f 0 n)(hm:∀x,(x<M∧0<F x)↔∃t,t<n∧f t=x):(List.range n).map f=itemsL F M:=by
 rw[List.range_eq_range']
 refine order_same _ _ (range_order n 0 (by simpa using h)) (items_order F M) fun x=>?_
 rw[items_mem,hm x]
 simp only[List.mem_map,List.mem_range'_1]
 constructor
 ·rintro⟨t,ht,rfl⟩;exact⟨t,by omega,rfl⟩
 ·rintro⟨t,ht,rfl⟩;exact⟨t,⟨by omega,by omega⟩,rfl⟩
end Go.Proofs.YtgokdgcmkcmjeaaGreat
namespace Go.Proofs.YtgokdgcmkcmjeaaGreat
open Go.RowKit
def RowZ(w:World)(g n:Nat)(f:Nat→Nat):Prop:=∃cur:Array Value,w.heap[g]?=some (.cells cur 3 (0,0))∧∀j,j<n→cur[j]?=some (.int .i64 (f j:Int))
theorem RowZ.lt{w:World}{g n:Nat}{f:Nat→Nat}(h:RowZ w g n f):g<w.heap.size:=by
 obtain⟨cur,h1,_⟩:=h;exact(Array.getElem?_eq_some_iff.1 h1).1
theorem RowZ.cell{w:World}{g n:Nat}{f:Nat→Nat}(h:RowZ w g n f){j:Nat}(hj:j<n):w.cell? ⟨g,j,none⟩=some (.int .i64 (f j:Int)):=by
 obtain⟨cur,h1,h2⟩:=h
 rw[cell_of_row w g j _ _ (0,0) h1];exact h2 j hj
theorem RowZ.frozen{w:World}{g n:Nat}{f:Nat→Nat}(h:RowZ w g n f)(j:Nat):w.frozen? ⟨g,j,none⟩=false:=by
 obtain⟨cur,h1,_⟩:=h;exact frozen_of_row w g j _ _ h1
theorem RowZ.set{w:World}{g n:Nat}{f:Nat→Nat}(h:RowZ w g n f)(i x:Nat):RowZ (w.setCell ⟨g,i,none⟩ (.int .i64 (x:Int))) g n (upd f i x):=by
 obtain⟨cur,h1,h2⟩:=h
 refine⟨cur.setIfInBounds i (.int .i64 (x:Int)),heap_setCell_same w g i cur _ _ h1,fun j hj=>?_⟩
 rw[Array.getElem?_setIfInBounds,upd]
 have hs:j<cur.size:=by
  rcases Nat.lt_or_ge j cur.size with h|h
  ·exact h
  ·have:=h2 j hj;rw[Array.getElem?_eq_none h]at this;cases this
 by_cases e:i=j
 ·subst e;simp[hs]
 ·have e':¬j=i:=fun h=>e h.symm
  simp[e,e',h2 j hj]
theorem RowZ.drew{w:World}{g n:Nat}{f:Nat→Nat}(h:RowZ w g n f):RowZ w.drew g n f:=h
theorem RowZ.drewN{w:World}{g n:Nat}{f:Nat→Nat}(h:RowZ w g n f)(q:Nat):RowZ (w.drewN q) g n f:=h
theorem RowZ.ext{w:World}{g n:Nat}{f f':Nat→Nat}(h:RowZ w g n f)(e:∀j,j<n→f j=f' j):RowZ w g n f':=by
 obtain⟨cur,h1,h2⟩:=h;exact⟨cur,h1,fun j hj=>by rw[h2 j hj,e j hj]⟩
theorem RowZ.swap{w:World}{g n:Nat}{f:Nat→Nat}(h:RowZ w g n f)(i j:Nat):RowZ ((w.setCell ⟨g,i,none⟩ (.int .i64 (f j:Int))).setCell ⟨g,j,none⟩ (.int .i64 (f i:Int))) g n (sw f i j):=by
 refine((h.set i (f j)).set j (f i)).ext fun t _=>?_
 unfold upd sw
 rfl
theorem RowZ.two{w:World}{g n:Nat}{f:Nat→Nat}(h:RowZ w g n f)(i j:Nat)(hj:j<n)(x:Nat):(w.setCell ⟨g,i,none⟩ (.int .i64 (x:Int))).cell? ⟨g,j,none⟩=some (.int .i64 (upd f i x j:Int)):=(h.set i x).cell hj
def cmpI(x y:Int):Int:=if x<y then-1 else if y<x then 1 else 0
theorem cmpI_neg{x y:Int}:cmpI x y<0↔x<y:=by unfold cmpI;split<;>(try split)<;>omega
theorem nan_any(w:World)(x:Int):Calls Tryz.prog 195 #[.int .i64 x] w fun e w'=>e=.returned (.bool false)∧w'=w:=by
 go_enter Tryz.func195,Tryz.ntmps195
 go_wp2
 go_ret
 exact⟨by simp,rfl⟩
theorem compare_any(w:World)(x y:Int):Calls Tryz.prog 183 #[.int .i64 x,.int .i64 y] w fun e w'=>e=.returned (.int .i64 (cmpI x y))∧w'=w:=by
 obtain⟨r,hr⟩:∃r,r=cmpI x y:=⟨_,rfl⟩
 rw[←hr]
 have hn:=nan_any
 unfold cmpI at hr
 go_enter Tryz.func183,Tryz.ntmps183
 by_cases h1:x<y
 ·rw[if_pos h1]at hr
  subst hr
  go_wp2_with (go_at_call 195;refine(nan_any _ _).mono ?_;rintro e w1 ⟨rfl,rfl⟩)
  go_ret
  exact⟨rfl,rfl⟩
 ·rw[if_neg h1]at hr
  by_cases h2:y<x
  ·rw[if_pos h2]at hr
   subst hr
   go_wp2_with (go_at_call 195;refine(nan_any _ _).mono ?_;rintro e w1 ⟨rfl,rfl⟩)
   go_ret
   exact⟨rfl,rfl⟩
  ·rw[if_neg h2]at hr
   subst hr
   go_wp2_with (go_at_call 195;refine(nan_any _ _).mono ?_;rintro e w1 ⟨rfl,rfl⟩)
   go_ret
   exact⟨rfl,rfl⟩
def CmpF(w:World)(B b:Nat)(l:List Int):Prop:=B<b∧(∃A c,w.cell? ⟨B,0,none⟩=some (.slice A l.length c)∧RdI w b A l)
theorem CmpF.below{w w':World}{B b:Nat}{l:List Int}(h:CmpF w B b l)(hb:Below b w w'):CmpF w' B b l:=by
 obtain⟨h1,A,c,h2,h3⟩:=h
 exact⟨h1,A,c,by rw[hb.cell (p:=⟨B,0,none⟩) h1];exact h2,h3.below hb (Nat.le_refl _)⟩
theorem clos_any(w:World)(B b:Nat)(l:List Int)(h:CmpF w B b l)(_hl:l.length≤400)(x y:Nat)(hx:x<l.length)(hy:y<l.length):
  Calls Tryz.prog 182 #[.int .i64 (x:Int),.int .i64 (y:Int),.pointer (some ⟨B,0,none⟩)] w fun e w'=>e=.returned (.int .i64 (cmpI (l.getD x 0) (l.getD y 0)))∧∃q,w'=w.drewN q:=by
 obtain⟨h1,A,c,h2,h3⟩:=h
 obtain⟨ba,o,rfl,hlt,hc⟩:=h3.at hx
 have c1:=hc x hx
 have c2:=hc y hy
 obtain⟨u,hu⟩:∃u,u=l.getD x 0:=⟨_,rfl⟩
 obtain⟨v,hv⟩:∃v,v=l.getD y 0:=⟨_,rfl⟩
 rw[←hu]at c1⊢
 rw[←hv]at c2⊢
 have hk:=compare_any
 obtain⟨N,hN⟩:∃N,N=l.length:=⟨_,rfl⟩
 rw[←hN]at h2 _hl hx hy
 have HK:=Lib.hid hk
 clear hk hc hN hu hv h3
 go_enter Tryz.func182,Tryz.ntmps182
 go_wp2_with fail
 go_quiet ((go_at_call 183;exact Calls.quiet_of_same (HK.out _ _ _)))
 go_wp2_with fail
 go_ret
 exact⟨rfl,nq,rfl⟩
end Go.Proofs.YtgokdgcmkcmjeaaGreat
namespace Go.Proofs.YtgokdgcmkcmjeaaGreat
open Go.RowKit
theorem swap_any(w:World)(g N c:Nat)(f:Nat→Nat)(hr:RowZ w g N f)(a b n:Nat)(hab:a+n≤b)(hb:b+n≤N)(hN:N≤400)(fv:Value):
  Calls Tryz.prog 203 #[.slice (some ⟨g,0,none⟩) N c,.int .i64 (a:Int),.int .i64 (b:Int),.int .i64 (n:Int),fv] w fun e w'=>e=.returned (.tuple #[])∧Below g w w'∧RowZ w' g N (swF f a b n):=by
 have HR:=Lib.hid hr
 clear hr
 go_enter Tryz.func203,Tryz.ntmps203
 go_wp2
 go_loopw [10] (fun i wr=>∃k:Nat,k≤n∧i=.int .i64 (k:Int)∧Below g w wr∧RowZ wr g N (swF f a b k)) (fun i _=>n-(intOf i).toNat)
 case atStart=>exact⟨0,Nat.zero_le _,rfl,Below.refl _ _,by rw[sw_start];exact HR.out⟩
 case round=>
  obtain⟨k,hk,rfl,hbl,hrow⟩:=hrel
  by_cases hlt:k<n
  ·have hlti:(k:Int)<(n:Int):=by omega
   have HB:=Lib.hid hbl;have HROW:=Lib.hid hrow
   obtain⟨p,hp⟩:∃p,p=a+k:=⟨_,rfl⟩
   obtain⟨q,hq⟩:∃q,q=b+k:=⟨_,rfl⟩
   have hpN:p<N:=by omega
   have hqN:q<N:=by omega
   have c1:=hrow.cell hpN
   have c2:=hrow.cell hqN
   have f1:=hrow.frozen p
   have f2:=hrow.frozen q
   have c3:=hrow.two p q hqN (swF f a b k q)
   have e1:(a:Int)+(k:Int)=(p:Int):=by omega
   have e2:(b:Int)+(k:Int)=(q:Int):=by omega
   have hsw:=HROW.out.swap p q
   obtain⟨x,hx⟩:∃x,x=swF f a b k p:=⟨_,rfl⟩
   obtain⟨y,hy⟩:∃y,y=swF f a b k q:=⟨_,rfl⟩
   obtain⟨z,hz⟩:∃z,z=upd (swF f a b k) p y q:=⟨_,rfl⟩
   rw[←hx,←hy]at hsw
   rw[←hy,←hz]at c3
   rw[←hx]at c1
   rw[←hy]at c2
   have HSW:=Lib.hid hsw
   have HP:=Lib.hid hp;have HQ:=Lib.hid hq
   clear hsw hbl hrow hx hy hz hp hq
   go_wp2_with fail
   go_region
   go_wp2
   go_roundw
   case rel=>
    refine⟨k+1,by omega,by go_num,((HB.out.setCell (p:=⟨g,p,none⟩) (Nat.le_refl _) _).setCell (p:=⟨g,q,none⟩) (Nat.le_refl _) _).drew,?_⟩
    have h:=HSW.out.drew
    rw[HP.out,HQ.out,sw_step f hab hlt]at h
    rw[HP.out,HQ.out]
    exact h
   case measure=>simp[intOf];omega
  ·obtain rfl:k=n:=by omega
   have hlti:¬(k:Int)<(k:Int):=by omega
   have HB:=Lib.hid hbl;have HROW:=Lib.hid hrow
   clear hbl hrow
   go_wp2
   go_end0
   exact⟨rfl,HB.out,HROW.out⟩
theorem rotate_any(w:World)(g N c:Nat)(f:Nat→Nat)(hr:RowZ w g N f)(a m b:Nat)(ham:a<m)(hmb:m<b)(hb:b≤N)(hN:N≤400)(fv:Value):
  Calls Tryz.prog 201 #[.slice (some ⟨g,0,none⟩) N c,.int .i64 (a:Int),.int .i64 (m:Int),.int .i64 (b:Int),fv] w fun e w'=>e=.returned (.tuple #[])∧Below g w w'∧RowZ w' g N (rotF f a m b):=by
 have HR:=Lib.hid hr
 clear hr
 go_enter Tryz.func201,Tryz.ntmps201
 go_wp2
 go_loopw [10,11] (fun vi vj wr=>∃(i j:Nat) (h:Nat→Nat),0<i∧0<j∧i≤m∧m+j≤N∧vi=.int .i64 (i:Int)∧vj=.int .i64 (j:Int)∧Below g w wr∧RowZ wr g N h∧Hid (rotF h (m-i) m (m+j)=rotF f a m b)) (fun vi vj _=>(intOf vi).toNat+(intOf vj).toNat)
 case atStart=>exact⟨m-a,b-m,f,by omega,by omega,by omega,by omega,val_int (by omega),val_int (by omega),Below.refl _ _,HR.out,Lib.hid (by rw[show m-(m-a)=a by omega,show m+(b-m)=b by omega])⟩
 case round=>
  obtain⟨i,j,h,hi0,hj0,him,hjN,rfl,rfl,hbl,hrow,HE⟩:=hrel
  have HB:=Lib.hid hbl;have HROW:=Lib.hid hrow
  obtain⟨p,hp⟩:∃p,p=m-i:=⟨_,rfl⟩
  have e1:(m:Int)-(i:Int)=(p:Int):=by omega
  clear hbl hrow
  rcases Nat.lt_trichotomy i j with hij|hij|hij
  ·have hne:((i:Int)==(j:Int))=false:=by simp;omega
   have hgt:¬(j:Int)<(i:Int):=by omega
   obtain⟨q,hq⟩:∃q,q=m+j-i:=⟨_,rfl⟩
   have e2:(m:Int)+(j:Int)-(i:Int)=(q:Int):=by omega
   have HP:=Lib.hid hp;have HQ:=Lib.hid hq
   clear hp hq
   go_wp2_with (go_at_call 203;refine(swap_any _ g N c h HROW.out p q i (by have:=HP.out;have:=HQ.out;omega) (by have:=HQ.out;omega) hN fv).mono ?_;rintro e w1 ⟨rfl,hb1,hr1⟩;have HB1:=Lib.hid hb1;have HR1:=Lib.hid hr1;clear hb1 hr1)
   go_roundw
   case rel=>
    refine⟨i,j-i,_,hi0,by omega,him,by omega,rfl,val_int (by omega),HB.out.trans HB1.out,HR1.out,Lib.hid ?_⟩
    rw[HP.out,HQ.out,rot_lt h hij him hi0];exact HE.out
   case measure=>simp[intOf];omega
  ·subst hij
   have hne:((i:Int)==(i:Int))=true:=by simp
   have HP:=Lib.hid hp
   clear hp
   go_wp2_with (go_at_call 203;refine(swap_any _ g N c h HROW.out p m i (by have:=HP.out;omega) (by omega) hN fv).mono ?_;rintro e w1 ⟨rfl,hb1,hr1⟩;have HB1:=Lib.hid hb1;have HR1:=Lib.hid hr1;clear hb1 hr1)
   go_end0
   refine⟨rfl,HB.out.trans HB1.out,?_⟩
   have hr1:=HR1.out
   rw[HP.out,rot_eq h him,HE.out]at hr1
   exact hr1
  ·have hne:((i:Int)==(j:Int))=false:=by simp;omega
   have hgt:(j:Int)<(i:Int):=by omega
   have HP:=Lib.hid hp
   clear hp
   go_wp2_with (go_at_call 203;refine(swap_any _ g N c h HROW.out p m j (by have:=HP.out;omega) (by omega) hN fv).mono ?_;rintro e w1 ⟨rfl,hb1,hr1⟩;have HB1:=Lib.hid hb1;have HR1:=Lib.hid hr1;clear hb1 hr1)
   go_roundw
   case rel=>
    refine⟨i-j,j,_,by omega,hj0,by omega,hjN,val_int (by omega),rfl,HB.out.trans HB1.out,HR1.out,Lib.hid ?_⟩
    rw[HP.out,rot_gt h hij him hj0];exact HE.out
   case measure=>simp[intOf];omega
end Go.Proofs.YtgokdgcmkcmjeaaGreat
namespace Go.Proofs.YtgokdgcmkcmjeaaGreat
open Go.RowKit
structure FrqOk (l:List Int):Prop where
 len:l.length≤400
 pos:∀j,j<l.length→0≤l.getD j 0
theorem FrqOk.cmp{l:List Int}(h:FrqOk l){x y:Nat}(hx:x<l.length)(hy:y<l.length):cmpI (l.getD x 0) (l.getD y 0)<0↔freqN l x<freqN l y:=by
 rw[cmpI_neg]
 have h1:=h.pos x hx
 have h2:=h.pos y hy
 unfold freqN
 omega
theorem CmpF.drewN{w:World}{B b:Nat}{l:List Int}(h:CmpF w B b l)(q:Nat):CmpF (w.drewN q) B b l:=h
theorem below_drewS(g:Nat)(w:World)(q:Nat):Below g w (w.drewN q):=by
 induction q with
 |zero=>exact Below.refl g w
 |succ q ih=>exact ih.drew
theorem clos_q(w:World)(B b:Nat)(l:List Int)(h:CmpF w B b l)(hl:l.length≤400)(x y:Nat)(hx:x<l.length)(hy:y<l.length)(q:Nat):
  Calls Tryz.prog 182 #[.int .i64 (x:Int),.int .i64 (y:Int),.pointer (some ⟨B,0,none⟩)] (w.drewN q) fun e w'=>e=.returned (.int .i64 (cmpI (l.getD x 0) (l.getD y 0)))∧∃m,w'=(w.drewN q).drewN m:=
 clos_any _ B b l (h.drewN q) hl x y hx hy
theorem inss_any(w:World)(g N c:Nat)(f:Nat→Nat)(hr:RowZ w g N f)(B:Nat)(l:List Int)(hC:CmpF w B g l)(hF:FrqOk l)(hM:∀t,t<N→f t<l.length)(hS:St (freqN l) f N)(a b:Nat)(hab:a≤b)(hb:b≤N)(hN:N≤400):
  Calls Tryz.prog 198 #[.slice (some ⟨g,0,none⟩) N c,.int .i64 (a:Int),.int .i64 (b:Int),.func (.func 182) #[] #[.pointer (some ⟨B,0,none⟩)]] w fun e w'=>e=.returned (.tuple #[])∧Below g w w'∧∃f',RowZ w' g N f'∧Same f f' a b∧Rs (freqN l) f' a b:=by
 have HR:=Lib.hid hr;have HC:=Lib.hid hC;have HM:=Lib.hid hM;have HS:=Lib.hid hS;have HF:=Lib.hid hF
 clear hr hC hM hS hF
 go_enter Tryz.func198,Tryz.ntmps198
 go_wp2
 go_loopw [8] (fun vi wr=>∃(i:Nat) (h:Nat→Nat),a+1≤i∧(i≤b∨i=a+1)∧vi=.int .i64 (i:Int)∧Below g w wr∧RowZ wr g N h∧Hid (Same f h a b∧St (freqN l) h N∧Rs (freqN l) h a (min i b))) (fun vi _=>N+1-(intOf vi).toNat)
 case atStart=>exact⟨a+1,f,by omega,by omega,val_int (by omega),Below.refl _ _,HR.out,Lib.hid ⟨Same.refl _ _ _,HS.out,Rs.one (by omega)⟩⟩
 case round=>
  obtain⟨i,h,hai,hib,rfl,hbl,hrow,HI⟩:=hrel
  by_cases hlt:i<b
  ·have hlti:(i:Int)<(b:Int):=by omega
   have HB:=Lib.hid hbl;have HROW:=Lib.hid hrow
   clear hbl hrow
   go_wp2
   go_loopw [9] (fun vj wq=>∃(j:Nat) (k:Nat→Nat),a≤j∧j≤i∧vj=.int .i64 (j:Int)∧Below g w wq∧RowZ wq g N k∧Hid (Same f k a b∧St (freqN l) k N∧InsI (freqN l) k a i j)) (fun vj _=>(intOf vj).toNat)
   case atStart=>exact⟨i,h,by omega,Nat.le_refl _,rfl,HB.out,HROW.out,Lib.hid ⟨HI.out.1,HI.out.2.1,InsI.start (by have:=HI.out.2.2;rwa[show min i b=i by omega]at this)⟩⟩
   case round=>
    obtain⟨j,k,haj,hji,rfl,hbl,hrow,HK⟩:=hrel
    by_cases hja:a<j
    ·have hjai:decide ((a:Int)<(j:Int))=true:=by simp;omega
     have hjai2:(a:Int)<(j:Int):=by omega
     obtain⟨p,hp⟩:∃p,p=j-1:=⟨_,rfl⟩
     have e1:(j:Int)-1=(p:Int):=by omega
     have hpN:p<N:=by omega
     have hjN:j<N:=by omega
     have hkM:=HK.out.1.lt hb HM.out
     have HCL:=Lib.hid (clos_q wr B g l (HC.out.below hbl) HF.out.len (k j) (k p) (hkM j hjN) (hkM p hpN))
     have hcmp:=HF.out.cmp (hkM j hjN) (hkM p hpN)
     have c1:=hrow.cell hjN
     have c2:=hrow.cell hpN
     have HB:=Lib.hid hbl;have HROW:=Lib.hid hrow
     obtain⟨r,hr⟩:∃r,r=cmpI (l.getD (k j) 0) (l.getD (k p) 0):=⟨_,rfl⟩
     rw[←hr]at HCL hcmp
     have hsw:=hrow.drew.swap j p
     by_cases hneg:r<0
     ·have hd:decide (r<0)=true:=by simp;omega
      have HLT:=Lib.hid (hcmp.1 hneg)
      have HP:=Lib.hid hp
      clear hbl hrow hr hcmp hkM hp hsw
      obtain⟨x,hx⟩:∃x,x=k j:=⟨_,rfl⟩
      obtain⟨y,hy⟩:∃y,y=k p:=⟨_,rfl⟩
      rw[←hx]at c1 HCL
      rw[←hy]at c2 HCL
      have HX:=Lib.hid hx;have HY:=Lib.hid hy
      clear hx hy
      go_wp2_with fail
      go_quiet ((go_at_call 182;exact Calls.quiet_of (HCL.out _)))
      go_wp2_with fail
      obtain⟨wq,hwq⟩:∃wq,wq=wr.drewN nq:=⟨_,rfl⟩
      have hrow:=HROW.out.drewN nq
      have hbl:Below g w (wr.drewN nq):=(HB.out.trans (Below.refl g wr)).trans (below_drewS g wr nq)
      rw[←hwq]at hrow hbl⊢
      have c1:=hrow.cell hjN
      have c2:=hrow.cell hpN
      have f1:=hrow.frozen j
      have f2:=hrow.frozen p
      have hsw:=hrow.swap j p
      have c3:=hrow.two j p hpN (k p)
      rw[←HX.out]at c1 hsw
      rw[←HY.out]at c2 c3 hsw
      obtain⟨z,hz⟩:∃z,z=upd k j y p:=⟨_,rfl⟩
      rw[←hz]at c3
      have HB2:=Lib.hid hbl;have HSW:=Lib.hid hsw
      clear hrow hbl hsw hz hwq HCL HROW HB
      go_region
      go_wp2
      go_roundw
      case rel=>
       have hst:=HK.out.2.1
       have hin:=HK.out.2.2
       have hpj:p+1=j:=by have:=HP.out;omega
       have hlt:=HLT.out
       rw[←hpj]at hin hlt
       refine⟨p,sw k j p,by omega,by omega,rfl,((HB2.out.setCell (p:=⟨g,j,none⟩) (Nat.le_refl _) _).setCell (p:=⟨g,p,none⟩) (Nat.le_refl _) _).drew,HSW.out.drew,Lib.hid ⟨HK.out.1.trans (same_sw ⟨haj,by omega⟩ ⟨by omega,by omega⟩),?_,?_⟩⟩
       ·rw[←hpj];exact hst.sw (by omega) hlt
       ·rw[←hpj];exact hin.step (by omega) (by omega) hlt
      case measure=>simp[intOf];omega
     ·have hd:decide (r<0)=false:=by simp;omega
      have HNL:=Lib.hid (fun q=>hneg (hcmp.2 q))
      have HP:=Lib.hid hp
      clear hbl hrow hr hcmp hkM hp hsw
      obtain⟨x,hx⟩:∃x,x=k j:=⟨_,rfl⟩
      obtain⟨y,hy⟩:∃y,y=k p:=⟨_,rfl⟩
      rw[←hx]at c1 HCL
      rw[←hy]at c2 HCL
      clear hx hy
      go_wp2_with fail
      go_quiet ((go_at_call 182;exact Calls.quiet_of (HCL.out _)))
      go_wp2_with fail
      go_roundw
      case rel=>
       refine⟨i+1,k,by omega,by omega,by go_num,HB.out.trans (below_drewS g wr nq),HROW.out.drewN nq,Lib.hid ⟨HK.out.1,HK.out.2.1,?_⟩⟩
       rw[show min (i+1) b=i+1 by omega]
       exact HK.out.2.2.stop HK.out.2.1 haj hji (by omega) (.inr (by have h:=HNL.out;rw[HP.out]at h;exact h))
      case measure=>simp[intOf];omega
    ·have hjai:decide ((a:Int)<(j:Int))=false:=by simp;omega
     have hjai2:¬(a:Int)<(j:Int):=by omega
     have HB:=Lib.hid hbl;have HROW:=Lib.hid hrow
     clear hbl hrow
     go_wp2_with fail
     go_quiet (fail)
     go_wp2_with fail
     go_roundw
     case rel=>
      refine⟨i+1,k,by omega,by omega,by go_num,HB.out.trans (below_drewS g wr _),HROW.out.drewN _,Lib.hid ⟨HK.out.1,HK.out.2.1,?_⟩⟩
      rw[show min (i+1) b=i+1 by omega]
      exact HK.out.2.2.stop HK.out.2.1 haj hji (by omega) (.inl (by omega))
     case measure=>simp[intOf];omega
  ·have hlti:¬(i:Int)<(b:Int):=by omega
   have HB:=Lib.hid hbl;have HROW:=Lib.hid hrow
   clear hbl hrow
   go_wp2
   go_end0
   refine⟨rfl,HB.out,h,HROW.out,HI.out.1,?_⟩
   have:=HI.out.2.2
   by_cases e:i=b
   ·rwa[show min i b=b by omega]at this
   ·exact Rs.one (by omega)
end Go.Proofs.YtgokdgcmkcmjeaaGreat
