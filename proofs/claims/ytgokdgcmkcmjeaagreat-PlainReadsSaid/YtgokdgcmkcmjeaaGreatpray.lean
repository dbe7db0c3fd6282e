/-
  Words and walks.
-/
import Derived.Laws.CopyOwn
import Derived.Lib.AppendZeros
import Derived.Deep.RegionLaw
import Derived.BigQuiet
import Derived.WalkKit
import Derived.ProofKit
import Derived.Lib.Hide
import Derived.BigRegion
import Derived.Deep.DeepCutAuto
import Derived.WalkMore
import Derived.Deep.MidRow
import Derived.StillTail
import Derived.Test.YtgokdgcmkcmjeaaGreatpraa
import Derived.Test.YtgokdgcmkcmjeaaGreatprab
import Derived.Test.YtgokdgcmkcmjeaaGreatprad
import Derived.Test.YtgokdgcmkcmjeaaGreatpraj
import Derived.Test.YtgokdgcmkcmjeaaGreatpral
import Derived.Test.YtgokdgcmkcmjeaaGreatprar
import Derived.Test.YtgokdgcmkcmjeaaGreatprax
set_option maxRecDepth 100000
set_option maxHeartbeats 16000000
namespace Go.Proofs.YtgokdgcmkcmjeaaGreat
open Go.RowKit Go.ChangeShapes Go.WideShapes Go.ChangeAt Go.Joins
theorem and32(c:Nat)(hc:c<4294967296):bits .and .u64 (c:Int) 4294967295=(c:Int):=by
 have h:=u64_and c 4294967295 (by omega) (by omega)
 have e:c&&&4294967295=c%4294967296:=Nat.and_two_pow_sub_one_eq_mod c 32
 rw[e,Nat.mod_eq_of_lt hc]at h
 exact h
theorem mul64_one(w:World)(c:Nat)(hc:c≤1000000):Calls Tryz.prog 193 #[.int .u64 1,.int .u64 (c:Int)] w fun e w'=>e=.returned (.tuple #[.int .u64 0,.int .u64 (c:Int)])∧w=w':=by
 have h1:bits .and .u64 1 4294967295=(1:Int):=and32 1 (by omega)
 have h2:=and32 c (by omega)
 have h3:(c:Int)/4294967296=0:=by omega
 have h0:bits .and .u64 0 4294967295=(0:Int):=and32 0 (by omega)
 go_enter Tryz.func193,Tryz.ntmps193
 go_wp2
 go_ret2
 exact⟨rfl,rfl⟩
theorem mul_one(w:World)(c:Nat)(hc:c≤1000000):Calls Tryz.prog 180 #[.int .u64 1,.int .u64 (c:Int)] w fun e w'=>e=.returned (.tuple #[.int .u64 0,.int .u64 (c:Int)])∧w=w':=by
 have H:=Lib.hid (mul64_one w c hc)
 go_enter Tryz.func180,Tryz.ntmps180
 go_wp2_with fail
 refine H.out.mono ?_
 rintro e w1 ⟨rfl,rfl⟩
 go_wp2
 go_ret2
 exact⟨rfl,rfl⟩
theorem order_con:OrderCon:=by
 intro w
 have hz:=(zero_of_info infoOrd).1
 have f1:=flatOrd
 obtain⟨T,hT⟩:∃T:Nat→Int,T=fun i=>(ordN i:Int):=⟨_,rfl⟩
 obtain⟨Z,hZ⟩:∃Z:Nat→Int,Z=fun _=>0:=⟨_,rfl⟩
 rw[←hT]at f1⊢
 rw[←hZ]at hz
 have F1:=Lib.hid f1
 have K0:Hid ((w.alloc (.cells (tblA Z 19) 213)).heap[w.heap.size]?=some (.cells (tblA Z 19) 213 (0,0))):=Lib.hid (heap_alloc_new w _)
 clear hT hZ f1
 go_enter Tryz.func140,Tryz.ntmps140
 go_wp2_with (first
  |(refine wpList_buildFlatArrTo rfl 213 3 19 _ rfl .i64 [16,17,18,0,8,7,9,6,10,5,11,4,12,3,13,2,14,1,15] (some 1) rfl Tryz.underlying213 (by kernel_rfl) (by kernel_rfl) rfl ?_;rw[F1.out])
  |(refine wpList_store_rowTo rfl _ _ _ rfl rfl w.heap.size (tblA T 19) rfl rfl 213 (tblA Z 19) K0.out (szO19 _) (by rw[tblA_size,tblA_size]) (tblA_one _ _) ?_)
  |fail)
 refine bodyPost_ret (v:=.agg (tblA T 19)) ?_ rfl ⟨rfl,below_row9 ((Below.refl _ _).alloc (Nat.le_refl _) _) (Nat.le_refl _) _⟩
 exact results_cell_row rfl _ _ w.heap.size _ _ (0,0) _ rfl (setRow_heap _ _ _ _ _ _ K0.out) Tryz.underlying213 rfl (szO19 _)
theorem make_lenU(n:Nat)(h:n≤1000000000):∀u:World,(Instr.makeSlice 22 (.int .i64 (n:Int)) (.int .i64 (n:Int))).run Tryz.prog u=
   .ok (.slice (some ⟨u.heap.size,0,none⟩) n n) (u.alloc (.cells (madeCells #[.int .u8 0] n) 5)):=fun u=>by
 obtain⟨i0,hi,hz0,hz1,hz2⟩:=info_parts infoU8
 have h:=run_make (P:=Tryz.prog) u 22 5 i0 _ Tryz.underlying22 hi hz0 .i64 .i64 (n:Int) (n:Int) (by omega) (by omega) (by rw[hz2];omega) (by omega)
 rw[Int.toNat_natCast,hz1,Nat.mul_one]at h
 exact h
def repF(v t j:Nat):Nat:=if j<t then v else 0
theorem splice_rep(c t m v:Nat)(h:t+m≤c):splice (bytesL c (repF v t)) t (bytesL m (fun _=>v))=bytesL c (repF v (t+m)):=by
 apply List.ext_getElem?
 intro j
 have hl:(bytesL m (fun _=>v)).length=m:=by simp[bytesL]
 have hl2:(bytesL c (repF v t)).length=c:=by simp[bytesL]
 simp only[splice,List.getElem?_append,List.length_take,hl,hl2,bytesL_get,List.getElem?_take,List.getElem?_drop,repF,Nat.min_eq_left (show t≤c by omega)]
 by_cases h1:j<t
 ·simp[h1,show j<t+m by omega]
 ·by_cases h2:j<t+m
  ·simp[h1,h2,show j-t<m by omega,show j<c by omega]
  ·simp[h1,h2,show¬j-t<m by omega]
   rw[show t+m+(j-t-m)=j by omega]
   simp[h1]
theorem rep_made(c v:Nat):(madeCells #[.int .u8 0] c)=(bytesL c (repF v 0)).toArray:=by
 have h:=toList_madeCells_one (Value.int .u8 0) c
 have e:bytesL c (repF v 0)=List.replicate c (Value.int .u8 0):=by
  apply List.ext_getElem?
  intro j
  rw[bytesL_get,List.getElem?_replicate]
  simp[repF]
 rw[e,←h]
theorem rep_src{w:World}{b o m v:Nat}(h:∀j,j<m→w.cell? ⟨b,o+j,none⟩=some (.int .u8 (v:Int))):∀(j:Nat) (u:Value),(bytesL m (fun _=>v))[j]?=some u→w.cell? ((⟨b,o,none⟩:Addr).add j)=some u:=by
 intro j u hu
 rw[bytesL_get]at hu
 by_cases hj:j<m
 ·rw[if_pos hj]at hu
  injection hu with hu
  subst hu
  have e:(⟨b,o,none⟩:Addr).add j=⟨b,o+j,none⟩:=by unfold Addr.add;split<;>simp_all
  rw[e];exact h j hj
 ·rw[if_neg hj]at hu;cases hu
theorem repeat_any(w:World)(b v c:Nat)(_hv:v<256)(hc1:1≤c)(hc:c≤1000)(hb:b<w.heap.size)(hx:w.cell? ⟨b,0,none⟩=some (.int .u8 (v:Int))):
  Calls Tryz.prog 165 #[.slice (some ⟨b,0,none⟩) 1 1,.int .i64 (c:Int)] w fun e w'=>e=.returned (.slice (some ⟨w.heap.size,0,none⟩) c c)∧w'.ownsRow w.heap.size 5 1 (.slice (some ⟨w.heap.size,0,none⟩) c c) c (bytesL c (fun _=>v))∧Below w.heap.size w w':=by
 have HM:=Lib.hid (mul_one w c (by omega))
 obtain⟨h,hh⟩:∃h,h=w.heap.size:=⟨_,rfl⟩
 obtain⟨W1,hW1⟩:∃W,W=w.alloc (.cells (madeCells #[.int .u8 0] c) 5):=⟨_,rfl⟩
 have hb1:Below h w W1:=by rw[hW1,hh];exact(Below.refl _ _).alloc (Nat.le_refl _) _
 have h1:W1.heap[h]?=some (.cells (bytesL c (repF v 0)).toArray 5 (0,0)):=by
  rw[hW1,hh,heap_alloc_new,rep_made c v]
 have hx1:W1.cell? ⟨b,0,none⟩=some (.int .u8 (v:Int)):=(hb1.cell (p:=⟨b,0,none⟩) (by rw[hh];exact hb)).trans hx
 have hc0:¬(c:Int)<0:=by omega
 have hmk:=make_lenU c (by omega)
 have HW1:=Lib.hid hW1;have HH:=Lib.hid hh;have HB1:=Lib.hid hb1;have H1:=Lib.hid h1;have HX1:=Lib.hid hx1
 clear hW1 hb1 h1 hx1 hx hh
 go_enter Tryz.func165,Tryz.ntmps165
 go_wp2_with fail
 refine HM.out.mono ?_
 rintro e w2 ⟨rfl,rfl⟩
 have hh2:=HH.out
 go_wp2_with (with_reducible refine wpList_copy_splice rfl (.tmp 31) (.tmp 32) 22 22 rfl 5 Tryz.underlying22 sz5 _ _ _ _ _ _ rfl rfl h 0 (bytesL c (repF v 0)) 5 ?c1 (bytesL 1 (fun _=>v)) ?c2 ?c3 ?c4 (bytesL_one 1 _) h W1 ?c5 (Nat.le_refl _) ?c6)
 case c1=>rw[←HW1.out];exact H1.out
 case c2=>simp only[bytesL,List.length_map,List.length_range];exact(Nat.min_eq_left hc1).symm
 case c3=>
  intro _
  refine⟨by rw[HH.out],_,rfl,rep_src fun j hj=>?_⟩
  obtain rfl:j=0:=by omega
  rw[←HW1.out];exact HX1.out
 case c4=>simp[bytesL];omega
 case c5=>rw[←HW1.out];exact Below.refl _ _
 case c6=>
  rw[←HH.out]
  intro w3 hg3 hb3
  have hs:=splice_rep c 0 1 v (by omega)
  rw[Nat.zero_add]at hs
  have HG3:Hid (w3.heap[h]?=some (.cells (bytesL c (repF v 1)).toArray 5 (0,0))):=Lib.hid (by rw[←hs];exact hg3.out)
  have HB3:=Lib.hid (HB1.out.trans hb3)
  have hl1:(((bytesL 1 fun _=>v).length:Nat):Int)=1:=by simp[bytesL]
  rw[hl1]
  clear hg3 hb3 hs hl1 hmk hh2 HW1 H1 HX1 HB1
  go_wp2
  go_loopw [8] (fun nv wr=>∃t:Nat,1≤t∧t≤c∧nv=.int .i64 (t:Int)∧Hid (wr.heap[h]?=some (.cells (bytesL c (repF v t)).toArray 5 (0,0)))∧Hid (Below h w wr)) (fun nv _=>c-(intOf nv).toNat)
  case atStart=>exact⟨1,Nat.le_refl _,hc1,rfl,HG3,HB3⟩
  case round=>
   obtain⟨t,ht1,htc,rfl,HG,HB⟩:=hrel
   by_cases hlt:t<c
   ·have hlti:(t:Int)<(c:Int):=by omega
    obtain⟨m,hm⟩:∃m,m=Nat.min t (c-t):=⟨_,rfl⟩
    have hm1:m≤t:=by rw[hm];exact Nat.min_le_left _ _
    have hm2:t+m≤c:=by have:m≤c-t:=(by rw[hm];exact Nat.min_le_right _ _);omega
    have hm3:0<m:=by rw[hm];exact Nat.lt_min.2 ⟨ht1,by omega⟩
    have HMM:=Lib.hid hm
    clear hm
    go_wp2
    have t0:¬(t:Int)<0:=by omega
    have t1:¬(c:Int)<(t:Int):=by omega
    have t2:(t:Int)≤(c:Int):=by omega
    refine wp_split_after1 6 wr.heap.size wr (Below.refl _ _) (by kernel_rfl) (by kernel_rfl) (.tmp 8) (.int .i64 (t:Int)) rfl (some 38) rfl rfl rfl rfl (by kernel_rfl) (fun _ _ _ h=>h) ?_
    simp only[List.take_succ_cons,List.take_zero,List.drop_succ_cons,List.drop_zero,Act.put,List.setIfInBounds_toArray,List.set_cons_zero,List.set_cons_succ]
    repeat go_big_quiet_step (fail)
    refine wpQuiet_nil ?_
    rintro V ⟨⟨V,hV⟩,rfl⟩
    have hgV:V.heap[h]?=some (.cells (bytesL c (repF v t)).toArray 5 (0,0)):=(hV.block h (Array.getElem?_eq_some_iff.1 HG.out).1).trans HG.out
    have HGV:=Lib.hid hgV;have HBV:=Lib.hid (HB.out.trans (hV.mono (by have:=HB.out.size;rw[HH.out];exact this)))
    go_wp2_with (with_reducible refine wpList_copy_splice rfl (.tmp 41) (.tmp 44) 22 22 rfl 5 Tryz.underlying22 sz5 _ _ _ _ _ _ rfl rfl h t (bytesL c (repF v t)) 5 HGV.out (bytesL m (fun _=>v)) ?c1 ?c2 ?c3 (bytesL_one m _) h w ?c4 (Nat.le_refl _) ?c5)
    case c1=>simp only[bytesL,List.length_map,List.length_range];exact HMM.out
    case c2=>
     intro _
     first
      |(refine⟨rfl,_,rfl,rep_src fun j hj=>?_⟩
        rw[cell_of_row V h (0+j) _ _ (0,0) HGV.out,List.getElem?_toArray,bytesL_get,if_pos (by omega)]
        unfold repF;rw[if_pos (by omega)])
      |(intro j u hu
        rw[bytesL_get]at hu
        by_cases hj:j<m
        ·rw[if_pos hj]at hu
         injection hu with hu
         rw[cell_of_row V h j _ _ (0,0) HGV.out,List.getElem?_toArray,bytesL_get,if_pos (by omega),←hu]
         unfold repF;rw[if_pos (by omega)]
        ·rw[if_neg hj]at hu;cases hu)
    case c3=>simp only[bytesL,List.length_map,List.length_range];omega
    case c4=>exact HBV.out
    case c5=>
     intro w5 hg5 hb5
     have hg5':=hg5.out
     rw[splice_rep c t m v hm2]at hg5'
     have HG5:=Lib.hid hg5';have HB5:=Lib.hid hb5
     have hl1:(bytesL m fun _=>v).length=m:=by simp[bytesL]
     rw[hl1]
     clear hg5 hg5' hb5 hl1
     go_wp2
     go_roundw
     case rel=>exact⟨t+m,by omega,hm2,by go_num,HG5,HB5⟩
     case measure=>simp[intOf];omega
   ·obtain rfl:t=c:=by omega
    have hlti:¬(t:Int)<(t:Int):=by omega
    go_wp2
    go_ret
    rw[←HH.out]
    refine⟨rfl,⟨by simp[bytesL],.inr ⟨h,t,_,rfl,Nat.le_refl _,HG.out,Nat.le_refl _,by unfold maxLen;omega,by simp[bytesL],?_⟩⟩,HB.out⟩
    rw[Nat.mul_one,List.take_of_length_le (by simp[bytesL])]
    exact bytesL_ext fun j hj=>by unfold repF;rw[if_pos hj]
theorem times_any(w:World)(v c:Nat)(hv:v<256)(hc1:1≤c)(hc:c≤1000):
  Calls Tryz.prog 123 #[.int .u8 (v:Int),.int .i64 (c:Int)] w fun e w'=>∃A' c',e=.returned (.slice A' c c')∧w'.ownsRow w.heap.size 5 1 (.slice A' c c') c (bytesL c (fun _=>v))∧Below w.heap.size w w':=by
 have hr:=repeat_any (w.alloc (.cells #[.int .u8 (v:Int)] 5)) w.heap.size v c hv hc1 hc (by simp) ((cell_of_row _ _ 0 _ _ (0,0) (heap_alloc_new w _)).trans rfl)
 have HB:=Lib.hid ((Below.refl w.heap.size w).alloc (Nat.le_refl _) (.cells #[.int .u8 (v:Int)] 5))
 have HR:=Lib.hid hr
 clear hr
 go_enter Tryz.func123,Tryz.ntmps123
 go_wp2_with fail
 refine HR.out.mono ?_
 rintro e w1 ⟨rfl,ho,hb⟩
 have HO:=Lib.hid (by simpa using ownsRow_base ho (show w.heap.size≤(w.alloc (.cells #[.int .u8 (v:Int)] 5)).heap.size by simp):w1.ownsRow w.heap.size 5 1 (.slice (some ⟨w.heap.size+1,0,none⟩) c c) c (bytesL c (fun _=>v)));have HB1:=Lib.hid (HB.out.trans (hb.mono (by simp)))
 clear ho hb
 go_wp2
 go_ret
 exact⟨_,_,rfl,HO.out,HB1.out⟩
def fixN:Nat→Nat
 |0=>144
 |1=>112
 |2=>24
 |_=>8
def fixV:Nat→Nat
 |0=>8
 |1=>9
 |2=>7
 |_=>8
theorem fix_sum:sumU fixN 4=288:=by rfl
theorem fix_cat(j:Nat)(hj:j<288):catU fixN (fun i _=>fixV i) 4 j=fixA j:=by
 have s1:sumU fixN 1=144:=rfl
 have s2:sumU fixN 2=256:=rfl
 have s3:sumU fixN 3=280:=rfl
 show cat (cat (cat (cat (fun _=>0) 0 (fun _=>8)) (sumU fixN 1) (fun _=>9)) (sumU fixN 2) (fun _=>7)) (sumU fixN 3) (fun _=>8) j=fixA j
 rw[s1,s2,s3]
 unfold cat fixA
 split
 ·split
  ·split
   ·rw[if_neg (by omega),if_neg (by omega),if_neg (by omega)]
   ·rw[if_neg (by omega),if_pos (by omega)]
  ·rw[if_pos (by omega)]
 ·rw[if_neg (by omega),if_neg (by omega)]
theorem fixed_con:FixedCon:=by
 intro w
 go_enter Tryz.func87,Tryz.ntmps87
 go_wp2_with fail
 refine(times_any w 8 144 (by omega) (by omega) (by omega)).mono ?_
 rintro e w1 ⟨A1,c1,rfl,o1,b1⟩
 have O1:=Lib.hid o1;have B1:=Lib.hid b1
 clear o1 b1
 go_wp2_with fail
 refine(times_any w1 9 112 (by omega) (by omega) (by omega)).mono ?_
 rintro e w2 ⟨A2,c2,rfl,o2,b2⟩
 have O12:=Lib.hid (own_keepG O1.out b2);have O2:=Lib.hid o2;have B2:=Lib.hid (B1.out.trans (b2.mono B1.out.size))
 clear o2 b2 O1
 go_wp2_with fail
 refine(times_any w2 7 24 (by omega) (by omega) (by omega)).mono ?_
 rintro e w3 ⟨A3,c3,rfl,o3,b3⟩
 have O13:=Lib.hid (own_keepG O12.out b3);have O23:=Lib.hid (own_keepG O2.out b3);have O3:=Lib.hid o3;have B3:=Lib.hid (B2.out.trans (b3.mono B2.out.size))
 clear o3 b3 O12 O2
 go_wp2_with fail
 refine(times_any w3 8 8 (by omega) (by omega) (by omega)).mono ?_
 rintro e w4 ⟨A4,c4,rfl,o4,b4⟩
 have O14:=Lib.hid (own_keepG O13.out b4);have O24:=Lib.hid (own_keepG O23.out b4);have O34:=Lib.hid (own_keepG O3.out b4);have O4:=Lib.hid o4;have B4:=Lib.hid (B3.out.trans (b4.mono B3.out.size))
 clear o4 b4 O13 O23 O3
 obtain⟨W5,hW5⟩:∃W,W=w4.alloc (.cells #[.slice A1 144 c1,.slice A2 112 c2,.slice A3 24 c3,.slice A4 8 c4] 22):=⟨_,rfl⟩
 have b5:Below w4.heap.size w4 W5:=by rw[hW5];exact(Below.refl _ _).alloc (Nat.le_refl _) _
 have hnew:W5.heap[w4.heap.size]?=some (.cells #[.slice A1 144 c1,.slice A2 112 c2,.slice A3 24 c3,.slice A4 8 c4] 22 (0,0)):=by rw[hW5];exact heap_alloc_new w4 _
 have hrd:∀{A:Option Addr} {c n v base:Nat},v<256→w4.ownsRow base 5 1 (.slice A n c) n (bytesL n (fun _=>v))→RdB W5 W5.heap.size A n (fun _=>v)∧(A=none→c=0):=fun hv ho=>by
  have:=ByR.of_own (own_keepG ho b5) (fun _=>hv)
  exact⟨this.1,this.2.1⟩
 have hrows:RowsB W5 W5.heap.size (some ⟨w4.heap.size,0,none⟩) 4 fixN (fun i _=>fixV i):=fun _=>by
  refine⟨w4.heap.size,0,rfl,(Array.getElem?_eq_some_iff.1 hnew).1,fun i hi=>?_⟩
  rcases i with _|_|_|_|i
  ·exact⟨A1,c1,(cell_of_row W5 _ 0 _ _ (0,0) hnew).trans rfl,(hrd (by omega) O14.out).1,(hrd (by omega) O14.out).2⟩
  ·exact⟨A2,c2,(cell_of_row W5 _ 1 _ _ (0,0) hnew).trans rfl,(hrd (by omega) O24.out).1,(hrd (by omega) O24.out).2⟩
  ·exact⟨A3,c3,(cell_of_row W5 _ 2 _ _ (0,0) hnew).trans rfl,(hrd (by omega) O34.out).1,(hrd (by omega) O34.out).2⟩
  ·exact⟨A4,c4,(cell_of_row W5 _ 3 _ _ (0,0) hnew).trans rfl,(hrd (by omega) O4.out).1,(hrd (by omega) O4.out).2⟩
  ·omega
 have hcon:=concatu_any W5 (some ⟨w4.heap.size,0,none⟩) 4 4 fixN (fun i _=>fixV i) (fun i _=>by unfold fixV;split<;>omega) hrows (by omega) (by rw[fix_sum];omega)
 rw[fix_sum,bytesL_ext fix_cat]at hcon
 have HCON:=Lib.hid hcon;have HW5:=Lib.hid hW5;have B5:=Lib.hid (B4.out.trans (b5.mono B4.out.size))
 clear hcon hW5 hrows hrd hnew b5 O14 O24 O34 O4 B1 B2 B3 B4
 go_wp2_with (first|rw[←HW5.out]|fail)
 refine HCON.out.mono ?_
 rintro e w6 ⟨Aa,ca,rfl,oa,b6⟩
 have OA:=Lib.hid (ownsRow_base oa B5.out.size);have B6:=Lib.hid (B5.out.trans (b6.mono B5.out.size))
 clear oa b6 HCON
 go_wp2_with fail
 refine(times_any w6 5 32 (by omega) (by omega) (by omega)).mono ?_
 rintro e w7 ⟨Ab,cb,rfl,ob,b7⟩
 have OA7:=Lib.hid (own_keepG OA.out b7);have OB:=Lib.hid ob;have B7:=Lib.hid (B6.out.trans (b7.mono B6.out.size))
 clear ob b7
 go_wp2
 go_ret2
 refine⟨Aa,ca,Ab,cb,rfl,OA7.out,ownsRow_base OB.out B6.out.size,fun g h1 h2=>?_,B7.out⟩
 have k1:=(own_blk_lt OA.out g h1).2
 have k2:=(own_blk_lt OB.out g h2).1
 omega
end Go.Proofs.YtgokdgcmkcmjeaaGreat
namespace Go.Proofs.YtgokdgcmkcmjeaaGreat
open Go.RowKit Go.ChangeShapes Go.WideShapes Go.ChangeAt Go.Joins
theorem infoShort:(Tryz.prog.info? 212).map (fun i=>(i.zero,i.size))=some (some (.agg (bytesL 19 (fun _=>0)).toArray),19):=by kernel_rfl
end Go.Proofs.YtgokdgcmkcmjeaaGreat
namespace Go.Proofs.YtgokdgcmkcmjeaaGreat
open Go.RowKit
theorem shG_lt(g:Nat→Nat)(L:Nat)(s:Rz):∀i j,shG g L s i j<256
 |0,_=>by unfold shG nof13;omega
 |i+1,j=>by
  unfold shG upd
  split
  ·have:=tkV_lt g L 3 (shS L s i);have e:(2:Nat)^3=8:=rfl;omega
  ·exact shG_lt g L s i j
theorem infoOrd13:(Tryz.prog.info? 213).map (fun i=>(i.zero,i.size))=some (some (.agg (tblA (fun _=>0) 19)),19):=by kernel_rfl
theorem szOrd13{Y:Array Value}(h:Y.size=19):(Tryz.prog.info? 213).map (·.size)=some Y.size:=by rw[h];exact(zero_of_info infoOrd13).2
def Two(a b:Nat):Nat→Prop:=fun k=>k=a∨k=b
theorem pshorts_any(w:World)(p:Nat)(A:Option Addr)(l c:Nat)(g:Nat→Nat)(s:Rz)(h:Rdr w p A l c s)(S:Nat→Prop)(hS:S p)(hSw:∀j,S j→j<w.heap.size)(hg:RdF S w A l g)(hl:l≤1000000)(hs:s.1≤8*l)(n:Nat)(hn:n≤19):
  Calls Tryz.prog 97 #[.pointer (some ⟨p,0,none⟩),.int .i64 (n:Int)] w fun e w'=>∃u,e=.returned (.agg (trA (grC (shG g l s n) 19 7) u))∧
   Rdr w' p A l c (wantS (gwS (shG g l s n) 19 7 (shS l s n)) (decide (2≤(((grS (shG g l s n) 19 7).length:Nat):Int))) 132)∧OwnS w' w.heap.size u (grS (shG g l s n) 19 7)∧Fr (At p) w w':=by
 have hp:=h.lt
 obtain⟨k,hk⟩:∃k,k=w.heap.size:=⟨_,rfl⟩
 obtain⟨Z,hZ⟩:∃Z,Z=trA (fun _=>0) (.slice none 0 0):=⟨_,rfl⟩
 obtain⟨Z2,hZ2⟩:∃Z,Z=(bytesL 19 (fun _=>0)).toArray:=⟨_,rfl⟩
 obtain⟨Z3,hZ3⟩:∃Z,Z=tblA (fun _=>0) 19:=⟨_,rfl⟩
 obtain⟨W1,hW1⟩:∃W1,W1=(w.alloc (.cells Z 26)).alloc (.cells Z2 212):=⟨_,rfl⟩
 have hb1:Below k w W1:=by rw[hW1,hk];exact((Below.refl _ _).alloc (Nat.le_refl _) _).alloc (by simp) _
 have hs1:W1.heap.size=k+2:=by rw[hW1,hk];simp
 have z1:BoxC W1 k Z 26:=by rw[hW1,hk];exact(BoxC.new w _ _).old _
 have y1:BoxC W1 (k+1) Z2 212:=by rw[hW1,hk];have:=BoxC.new (w.alloc (.cells Z 26)) Z2 212;rwa[World.size_alloc]at this
 have hr1:RowA W1 (k+1) 19 (shG g l s 0):=⟨Z2,212,y1,fun j hj=>by rw[hZ2,List.getElem?_toArray,bytesL_get,if_pos hj];rfl⟩
 have h1:Rdr W1 p A l c s:=BoxC.below h hb1 (by omega)
 have fW:∀T:Nat→Prop,Fr T w W1:=fun T=>Fr.of (hk▸hb1)
 have hzb:∀u:World,(zeroValue 26).run Tryz.prog u=.ok (.agg Z) u:=by rw[hZ];exact(zero_of_info infoTree13).1
 have hzc:∀u:World,(zeroValue 212).run Tryz.prog u=.ok (.agg Z2) u:=by rw[hZ2];exact(zero_of_info infoShort).1
 have hzd:∀u:World,(zeroValue 213).run Tryz.prog u=.ok (.agg Z3) u:=by rw[hZ3];exact(zero_of_info infoOrd13).1
 have HZS:Hid (Z.size=17):=Lib.hid (by rw[hZ,trA_size])
 have HZ3S:Hid (Z3.size=19):=Lib.hid (by rw[hZ3,tblA_size])
 obtain⟨T,hT⟩:∃T:Nat→Int,T=fun i=>(ordN i:Int):=⟨_,rfl⟩
 have hord:=order_con W1
 rw[←hT]at hord
 obtain⟨Y,hY⟩:∃Y,Y=tblA T 19:=⟨_,rfl⟩
 rw[←hY]at hord
 have HYS:Hid (Y.size=19):=Lib.hid (by rw[hY,tblA_size])
 have HYO:Hid (Y.all (·.oneCell')=true):=Lib.hid (by rw[hY];exact all_oneCell_toArray fun x hx=>by unfold tblL at hx;obtain⟨i,_,rfl⟩:=List.mem_map.1 hx;rfl)
 have HYG:Hid (∀i,i<19→Y[i]?=some (.int .i64 ((ordN i:Nat):Int))):=Lib.hid fun i hi=>by rw[hY,tblA_get T 19 i hi,hT]
 have HORD:=Lib.hid hord;have HW1:=Lib.hid hW1;have HK:=Lib.hid hk;have HS1:=Lib.hid hs1;have HZ1:=Lib.hid z1;have HR1:=Lib.hid hr1;have HD1:=Lib.hid h1;have HG0:=Lib.hid hg;have HF1:=Lib.hid (fW (At p))
 have HP:Hid (p<k):=Lib.hid (by omega)
 have HSP:Hid (S p∧∀j,S j→j<k):=Lib.hid ⟨hS,by rw[hk];exact hSw⟩
 clear h hg hZ hZ2 hZ3 hW1 hk hb1 hs1 z1 y1 hr1 h1 fW hT hord hY hp hS hSw
 go_enter Tryz.func97,Tryz.ntmps97
 go_wp2_with (first|(rw[←HW1.out,←HK.out])|fail)
 refine HORD.out.mono ?_
 rintro e w2 ⟨rfl,hb2⟩
 obtain⟨o,ho⟩:∃o,o=w2.heap.size:=⟨_,rfl⟩
 obtain⟨W3,hW3⟩:∃W,W=mkV w2 Z3 Y 213:=⟨_,rfl⟩
 have hb3:Below w2.heap.size w2 W3:=by rw[hW3];exact mkV_below _ _ _ _
 have y3:BoxC W3 o Y 213:=by rw[hW3,ho];exact mkV_row w2 Z3 Y _
 have hsz:k+2≤o:=by have:=hb2.size;rw[HS1.out]at this;rw[ho];exact this
 have hb13:Below W1.heap.size W1 W3:=hb2.trans (hb3.mono hb2.size)
 have HD3:=Lib.hid (BoxC.below HD1.out hb13 HD1.out.lt:Rdr W3 p A l c s)
 have HR3:=Lib.hid (HR1.out.below hb13 HR1.out.lt)
 have HZ3:=Lib.hid (HZ1.out.below hb13 HZ1.out.lt)
 have HF3:=Lib.hid (HF1.out.on hb13)
 have HS3:Hid (o<W3.heap.size):=Lib.hid y3.lt
 have HW3:=Lib.hid hW3;have HO:=Lib.hid ho;have HY3:=Lib.hid y3;have HOK:=Lib.hid hsz
 clear hb2 hW3 ho hb3 y3 hsz hb13 HD1 HR1 HZ1 HF1
 have hni:(n:Int)≤19:=by omega
 go_wp2_with (first
  |(refine wpList_store_rowTo rfl _ _ _ rfl rfl w2.heap.size Y rfl rfl 213 Z3 (heap_alloc_new w2 _) (szOrd13 HYS.out) (by rw[HZ3S.out,HYS.out]) HYO.out ?_;change wpList _ _ _ _ _ (mkV w2 Z3 Y 213);rw[←HW3.out,←HO.out])
  |fail)
 go_loopw [14] (fun iv wr=>∃i:Nat,i≤n∧iv=.int .i64 (i:Int)∧Hid (RowA wr (k+1) 19 (shG g l s i))∧Hid (Rdr wr p A l c (shS l s i))∧Hid (Fr (Two p (k+1)) W3 wr)) (fun iv _=>n-(intOf iv).toNat)
 case atStart=>exact⟨0,by omega,rfl,HR3,HD3,Lib.hid (Fr.refl _ _)⟩
 case round=>
  obtain⟨i,hi,rfl,HRW,HDW,HFW⟩:=hrel
  have HOW:=Lib.hid (HY3.out.fr HFW.out (by have:=HOK.out;have:=HP.out;show¬(o=p∨o=k+1);omega))
  by_cases hlt:i<n
  ·have hlti:(i:Int)<(n:Int):=by omega
   have k1:=HOW.out.cell (i:=i)
   rw[HYG.out i (by omega)]at k1
   have hol:=ord_lt i
   have hsi:shG g l s (i+1)=upd (shG g l s i) (ordN i) (tkV g l 3 (shS l s i)):=rfl
   have hss:shS l s (i+1)=tkS l 3 (shS l s i):=rfl
   obtain⟨q,hq⟩:∃q,q=ordN i:=⟨_,rfl⟩
   rw[←hq]at k1 hol hsi
   obtain⟨x,hx⟩:∃x,x=tkV g l 3 (shS l s i):=⟨_,rfl⟩
   rw[←hx]at hsi
   have hx8:x<8:=by rw[hx];exact tkV_lt _ _ _ _
   have hgw:=(HG0.out.fr ((HF3.out.mono fun j (e:j=p)=>e▸HSP.out.1).from HFW.out fun j e=>by rcases e with e|e;exact .inl (e▸HSP.out.1);exact .inr (by rw[←HK.out];omega))).1
   have HT:=Lib.hid (ptake_lit wr p A l c g _ HDW.out hgw hl (shS_in hs i) 3 3 rfl (by omega))
   rw[←hx,←hss]at HT
   have hql:(q:Int)<19:=by omega
   have HSI:=Lib.hid hsi
   clear hgw hx hq hss hsi
   go_wp2_with fail
   refine HT.out.mono ?_
   rintro e w5 ⟨rfl,r5,f5⟩
   have hkp:¬At p (k+1):=by have:=HP.out;show¬k+1=p;omega
   have hr5:RowA w5 (k+1) 19 (shG g l s i):=by obtain⟨cur,t,e,hc⟩:=HRW.out;exact⟨cur,t,(f5.block _ HRW.out.lt hkp).trans e,hc⟩
   have z1:=hr5.frozen q
   have c1:=hr5.cell hol
   have hs5:=hr5.set q x
   rw[←HSI.out]at hs5
   have HS5:=Lib.hid hs5
   have HD5:=Lib.hid r5
   have HF5:=Lib.hid (HFW.out.trans (f5.mono fun j e=>.inl e))
   clear hs5 r5 f5 hr5 hkp HT
   go_wp2
   go_roundw
   case rel=>exact⟨i+1,by omega,by go_num,HS5,Lib.hid (BoxC.other HD5.out (by have:=HP.out;show p≠k+1;omega) _),Lib.hid (HF5.out.trans ((Fr.cell _ _ _ _).mono fun j e=>.inr e))⟩
   case measure=>simp[intOf];omega
  ·obtain rfl:i=n:=by omega
   have hlti:¬(i:Int)<(i:Int):=by omega
   have hgr:=pgrow_any wr p A l c _ HDW.out (some ⟨k+1,0,none⟩) 19 19 (shG g l s i) (HRW.out.rd (shG_lt g l s i)) (by omega) 7
   obtain⟨F,hF⟩:∃F,F=shG g l s i:=⟨_,rfl⟩
   obtain⟨q,hq⟩:∃q,q=shS l s i:=⟨_,rfl⟩
   rw[←hF,←hq]at hgr
   have HGR:=Lib.hid hgr;have HFE:=Lib.hid hF;have HQ:=Lib.hid hq
   have HZW:=Lib.hid (HZ3.out.fr HFW.out (by have:=HP.out;show¬(k=p∨k=k+1);omega))
   have HFF:=Lib.hid (HF3.out.from HFW.out fun j e=>by rcases e with e|e;exact .inl e;exact .inr (by rw[←HK.out];omega):Fr (At p) w wr)
   have HKW:Hid (k+2≤wr.heap.size):=Lib.hid (by have:=HFW.out.size;have:=HOK.out;have:=HS3.out;omega)
   clear hgr hF hq HRW HDW HFW HOW
   go_wp2_with fail
   refine HGR.out.mono ?_
   rintro e w5 ⟨u,rfl,r5,o5,f5⟩
   obtain⟨X,hX⟩:∃X,X=trA (grC F 19 7) u:=⟨_,rfl⟩
   rw[←hX]
   have HXS:Hid (X.size=17):=Lib.hid (by rw[hX,trA_size])
   have HXO:Hid (X.all (·.oneCell')=true):=Lib.hid (by rw[hX];exact trA_one _ _ o5.one)
   obtain⟨A2,cap,hu,_,_,hmc,hcl⟩:=o5.rd
   obtain⟨m,hm⟩:∃m,m=(grS F 19 7).length:=⟨_,rfl⟩
   rw[←hm]at hu hmc
   have hX16:X[16]?=some (.slice A2 m cap):=by rw[hX,hu];rfl
   obtain⟨t,ht⟩:∃t,t=w5.heap.size:=⟨_,rfl⟩
   obtain⟨W6,hW6⟩:∃W,W=mkV w5 Z X 26:=⟨_,rfl⟩
   have hb6:Below w5.heap.size w5 W6:=by rw[hW6];exact mkV_below _ _ _ _
   have x6:BoxC W6 t X 26:=by rw[hW6,ht];exact mkV_row w5 Z X _
   have hcell:=x6.cell (i:=16)
   rw[hX16]at hcell
   have hkt:k+2≤t:=by have:=f5.size;have:=HKW.out;omega
   have HR6:=Lib.hid (BoxC.below r5 hb6 r5.lt:Rdr W6 p A l c (gwS F 19 7 q))
   have HO6:Hid (OwnS W6 wr.heap.size u (grS F 19 7)):=Lib.hid (own_keepG o5 hb6)
   have HZ6:=Lib.hid ((HZW.out.fr f5 (by have:=HP.out;show¬k=p;omega)).below hb6 (by omega))
   have HF6:=Lib.hid ((HFF.out.trans f5).on hb6)
   have HWA:=Lib.hid (pwant_any W6 p A l c _ HR6.out (decide (2≤(m:Int))) 132)
   have HW6:=Lib.hid hW6;have HT6:=Lib.hid ht;have HX6:=Lib.hid x6;have HXE:=Lib.hid hX;have HKT:=Lib.hid hkt;have HM:=Lib.hid hm
   clear r5 o5 f5 hX hu hX16 ht hW6 hb6 x6 hkt HGR HFF HKW hmc hcl hm
   go_wp2_with (first
    |(refine wpList_store_rowTo rfl _ _ _ rfl rfl w5.heap.size X rfl rfl 26 Z (heap_alloc_new w5 _) (szTree17 HXS.out) (by rw[HZS.out,HXS.out]) HXO.out ?_;change wpList _ _ _ _ _ (mkV w5 Z X 26);rw[←HW6.out,←HT6.out])
    |fail)
   refine HWA.out.mono ?_
   rintro e w7 ⟨rfl,r7,f7⟩
   have HX7:=Lib.hid (HX6.out.fr f7 (by have:=HP.out;have:=HKT.out;show¬t=p;omega))
   have HZ7:=Lib.hid (HZ6.out.fr f7 (by have:=HP.out;show¬k=p;omega))
   have hwk:k+1≤wr.heap.size:=by have:=HZW.out.lt;omega
   have HO7:=Lib.hid (HO6.out.fr f7 (fun j (e:j=p)=>by have:=HP.out;omega))
   have HR7:=Lib.hid r7;have HF7:=Lib.hid (HF6.out.trans f7)
   clear r7 f7 HWA HR6 HF6 HO6 HX6 HZ6 hwk
   go_wp2_with (first
    |(refine wpList_load_row rfl _ _ rfl t rfl _ X (0,0) _ HX7.out Tryz.underlying26 rfl (szTree17 HXS.out) ?_)
    |(refine wpList_store_rowTo rfl _ _ _ rfl rfl k X rfl rfl 26 Z HZ7.out (szTree17 HXS.out) (by rw[HZS.out,HXS.out]) HXO.out ?_)
    |fail)
   have hpk:p≠k:=by have:=HP.out;omega
   have hwk:k+1≤wr.heap.size:=by have:=HZW.out.lt;omega
   refine bodyPost_ret (v:=.agg X) (results_cell_row rfl _ _ k _ _ (0,0) _ rfl (setRow_heap _ _ _ _ _ _ HZ7.out) Tryz.underlying26 rfl (szTree17 HXS.out)) rfl ⟨u,by rw[HXE.out,HFE.out],?_,?_,?_⟩
   ·rw[←HFE.out,←HQ.out,←HM.out];exact BoxC.rowO HR7.out hpk _
   ·rw[←HK.out,←HFE.out];exact ownsRow_lower (own_blk HO7.out fun j hj=>setRow_other _ _ _ _ (by have:=(own_blk_lt HO7.out j hj).1;omega)) (by omega)
   ·exact HF7.out.from (Fr.row w7 k X) fun j hj=>.inr (by rw[←HK.out];exact Nat.le_of_eq hj.symm)
end Go.Proofs.YtgokdgcmkcmjeaaGreat
namespace Go.Proofs.YtgokdgcmkcmjeaaGreat
open Go.RowKit Go.ChangeShapes Go.WideShapes Go.ChangeAt Go.Joins
theorem lnS_end{F g:Nat→Nat}{L n:Nat}:∀{k made:Nat} {l:List (Int×Int)} {s:Rz},¬(made<n∧s.2=0)→lnS F g L n k made l s=(l,s)
 |0,_,_,_,_=>rfl
 |k+1,_,_,_,h=>by unfold lnS;rw[if_neg h]
theorem lnS_on{F g:Nat→Nat}{L n k made:Nat}{l:List (Int×Int)}{s:Rz}(h:made<n∧s.2=0):lnS F g L n (k+1) made l s=lnS F g L n k (made+ruT F g L s) (l++[((ruY F g L s:Int),(ruX F g L s:Int))]) (ruE F g L n made s):=by
 rw[lnS,if_pos h]
theorem timesR_in{y x:Nat}(hx:x<128):1≤timesR (y:Int) (x:Int)∧timesR (y:Int) (x:Int)≤138:=by
 unfold timesR;split
 ·omega
 ·split<;>omega
theorem ruX_lt(F g:Nat→Nat)(L:Nat)(s:Rz):ruX F g L s<128:=by
 have h:=tkV_lt g L (bitsR (ruY F g L s:Int)) (ruS1 F g L s)
 have h2:(2:Nat)^(bitsR (ruY F g L s:Int))≤2^7:=Nat.pow_le_pow_right (by omega) (bitsR_le _)
 have h3:(2:Nat)^7=128:=rfl
 have h4:ruX F g L s=tkV g L (bitsR (ruY F g L s:Int)) (ruS1 F g L s):=rfl
 omega
theorem ruS_in{F g:Nat→Nat}{L:Nat}{s:Rz}(h:s.1≤8*L):(ruS F g L s).1≤8*L:=tkS_in (syS_in h)
theorem ruE_in{F g:Nat→Nat}{L n made:Nat}{s:Rz}(h:s.1≤8*L):(ruE F g L n made s).1≤8*L:=by unfold ruE;rw[wantS_in,wantS_in];exact ruS_in h
def UpB(p B:Nat):Nat→Prop:=fun j=>j=p∨B≤j
theorem own_fr{S:Nat→Prop}{w w':World}{base sz n:Nat}{e:TypeId}{v:Value}{xs:List Value}(h:w.ownsRow base e sz v n xs)(k:Fr S w w')(hS:∀j,S j→j<base):w'.ownsRow base e sz v n xs:=
 own_blk h fun j hj=>k.block j (own_blk_lt h j hj).2 fun hs=>by have:=hS j hs;have:=(own_blk_lt h j hj).1;omega
theorem Fr.up{w w':World}{p B:Nat}(h:Below B w w'):Fr (UpB p B) w w':=⟨h.os,h.tape,h.output,h.size,fun k _ hk=>h.block k (by rcases Nat.lt_or_ge k B with x|x;exact x;exact absurd (.inr x) hk)⟩
theorem plengths_any(w:World)(p:Nat)(A:Option Addr)(l c:Nat)(g:Nat→Nat)(s:Rz)(h:Rdr w p A l c s)(S:Nat→Prop)(hS:S p)(hSw:∀j,S j→j<w.heap.size)(hg:RdF S w A l g)(hl:l≤1000000)(hs:s.1≤8*l)(F:Nat→Nat)(ct:Nat→Int)(u:Value)(hu:u.oneCell'=true)(ht:s.2=0→TrF S w F ct u)(n:Nat)(hn:n≤400):
  Calls Tryz.prog 96 #[.pointer (some ⟨p,0,none⟩),.agg (trA ct u),.int .i64 (n:Int)] w fun e w'=>∃A' n' c',e=.returned (.slice A' n' c')∧n'=(strO (lnS F g l n n 0 [] s).1 (n:Int)).2.length∧
   ByR w' w'.heap.size A' n' c' (lst (strO (lnS F g l n n 0 [] s).1 (n:Int)).2)∧NewB w' w.heap.size A' n'∧Rdr w' p A l c (lnS F g l n n 0 [] s).2∧Fr (At p) w w':=by
 have hp:=h.lt
 obtain⟨k,hk⟩:∃k,k=w.heap.size:=⟨_,rfl⟩
 obtain⟨T,hT⟩:∃T,T=trA ct u:=⟨_,rfl⟩
 rw[←hT]
 obtain⟨R,hR⟩:∃R,R=lnS F g l n n 0 [] s:=⟨_,rfl⟩
 rw[←hR]
 obtain⟨W1,hW1⟩:∃W1,W1=w.alloc (.cells T 26):=⟨_,rfl⟩
 have hb1:Below k w W1:=by rw[hW1,hk];exact(Below.refl _ _).alloc (Nat.le_refl _) _
 have hs1:W1.heap.size=k+1:=by rw[hW1,hk];simp
 have t1:BoxC W1 k T 26:=by rw[hW1,hk];exact BoxC.new w _ _
 have fW:∀T:Nat→Prop,Fr T w W1:=fun T=>Fr.of (hk▸hb1)
 have h1:Rdr W1 p A l c s:=BoxC.below h hb1 (by omega)
 have hTS:Hid (T.size=17):=Lib.hid (by rw[hT,trA_size])
 have HR:=Lib.hid hR.symm;have HW1:=Lib.hid hW1;have HK:=Lib.hid hk;have HS1:=Lib.hid hs1;have HT1:=Lib.hid t1;have HD1:=Lib.hid h1;have HG0:=Lib.hid hg;have HT0:=Lib.hid ht;have HF1:=Lib.hid (fW (At p));have HTE:=Lib.hid hT
 have HP:Hid (p<k):=Lib.hid (by omega)
 have HSP:Hid (S p∧∀j,S j→j<k):=Lib.hid ⟨hS,by rw[hk];exact hSw⟩
 have HSZ:=Lib.hid hs;have HU:=Lib.hid hu
 clear h hg hT hR hW1 hk hb1 hs1 t1 h1 fW hp hS hSw hs ht hu
 go_enter Tryz.func96,Tryz.ntmps96
 go_wp2_with (first|(rw[←HW1.out,←HK.out])|fail)
 go_loopw [7,8] (fun lv mv wr=>∃(made m:Nat) (Al:Option Addr) (cl:Nat) (pre:List (Int×Int)) (q:Rz) (fu:Nat),made≤n+200∧m≤made∧lv=.slice Al m cl∧mv=.int .i64 (made:Int)∧Hid (lnS F g l n fu made pre q=R∧n≤fu+made)∧
  Hid (wr.ownsRow (k+1) 208 2 (.slice Al m cl) m (runsL pre))∧Hid (Rdr wr p A l c q)∧Hid (q.1≤8*l∧(q.2=0→s.2=0))∧Hid (Fr (UpB p (k+1)) W1 wr)) (fun _ mv wr=>match wr.cell? ⟨p,2,none⟩with|some (.int .i64 e)=>if e=0 then(n+300)-(intOf mv).toNat else 0|_=>0)
 case atStart=>exact⟨0,0,none,0,[],s,n,by omega,by omega,rfl,rfl,Lib.hid ⟨HR.out,by omega⟩,Lib.hid (World.ownsRow_nil _ _ _ 2),HD1,Lib.hid ⟨HSZ.out,id⟩,Lib.hid (Fr.refl _ _)⟩
 case round=>
  obtain⟨made,m,Al,cl,pre,q,fu,hmade,hmm,rfl,rfl,HL,HO,HD,HQ,HF⟩:=hrel
  have k2:=HD.out.e
  have hend:=fun(hx:¬(made<n∧q.2=0))=>(lnS_end (F:=F) (g:=g) (L:=l) (k:=fu) (l:=pre) hx).symm.trans HL.out.1
  have HFW:Hid (Fr (At p) w wr):=Lib.hid (HF1.out.from HF.out fun j e=>by rcases e with e|e;exact .inl e;exact .inr (by rw[←HK.out];omega))
  by_cases hlt:made<n∧q.2=0
  ·obtain⟨qa,qe⟩:=q
   obtain⟨hm1,rfl⟩:made<n∧qe=0:=hlt
   have hlti:(made:Int)<(n:Int):=by omega
   obtain⟨fu',rfl⟩:∃f,fu=f+1:=⟨fu-1,by have:=HL.out.2;omega⟩
   have hon:=(lnS_on (F:=F) (g:=g) (L:=l) (k:=fu') (l:=pre) (s:=(qa,0)) ⟨hm1,rfl⟩).symm.trans HL.out.1
   have hs0:=HQ.out.2 rfl
   have HGW:=Lib.hid (HG0.out.fr (HFW.out.mono fun j (e:j=p)=>e▸HSP.out.1))
   have hru:=prun_any wr p A l c g (qa,0) HD.out S HSP.out.1 HGW.out hl HQ.out.1 F ct u HU.out (fun _=>(HT0.out hs0).fr (HFW.out.mono fun j (e:j=p)=>e▸HSP.out.1))
   rw[←HTE.out]at hru
   have hx7:=ruX_lt F g l (qa,0)
   have hy9:ruY F g l (qa,0)<320:=syV_lt HQ.out.1 (by omega)
   have hEE:ruE F g l n made (qa,0)=wantS (wantS (ruS F g l (qa,0)) (decide (0<made∨ruY F g l (qa,0)≠16)) 132) (decide (made+ruT F g l (qa,0)≤n)) 132:=rfl
   have hEI:(ruE F g l n made (qa,0)).1≤8*l:=ruE_in HQ.out.1
   have hTT:ruT F g l (qa,0)=timesR (ruY F g l (qa,0):Int) (ruX F g l (qa,0):Int):=rfl
   obtain⟨y,hy⟩:∃y,y=ruY F g l (qa,0):=⟨_,rfl⟩
   obtain⟨x,hx⟩:∃x,x=ruX F g l (qa,0):=⟨_,rfl⟩
   obtain⟨q2,hq2⟩:∃x,x=ruS F g l (qa,0):=⟨_,rfl⟩
   obtain⟨q3,hq3⟩:∃x,x=ruE F g l n made (qa,0):=⟨_,rfl⟩
   obtain⟨tt,htt⟩:∃x,x=ruT F g l (qa,0):=⟨_,rfl⟩
   rw[←hy,←hx,←hq2]at hru
   rw[←hy,←htt,←hq2,←hq3]at hEE
   rw[←hx]at hx7
   rw[←hy]at hy9
   rw[←htt,←hy,←hx]at hTT
   rw[←hy,←hx,←hq3,←htt]at hon
   rw[←hq3]at hEI
   have hti:=timesR_in (y:=y) hx7
   rw[←hTT]at hti
   obtain⟨md,hmd⟩:∃x,x=made+tt:=⟨_,rfl⟩
   have hmdi:(made:Int)+(tt:Int)=(md:Int):=by omega
   rw[←hmd]at hon hEE
   have htm:=fun V=>ptimes_any V y x (by omega) (by omega)
   rw[←hTT]at htm
   have HRU:=Lib.hid hru;have HON:=Lib.hid hon;have HEE:=Lib.hid hEE;have HTM:=Lib.hid htm;have HEI:=Lib.hid hEI;have HTI:=Lib.hid hti;have HMD:=Lib.hid hmd;have HS0:=Lib.hid hs0
   have HBB:Hid ((0<made∧decide (0<made∨y≠16)=true)∨(made=0∧y=16∧decide (0<made∨y≠16)=false)∨(made=0∧¬y=16∧decide (0<made∨y≠16)=true)):=Lib.hid (by
    rcases Nat.eq_zero_or_pos made with z|z
    ·by_cases y6:y=16
     ·exact .inr (.inl ⟨z,y6,decide_eq_false (by omega)⟩)
     ·exact .inr (.inr ⟨z,y6,decide_eq_true (.inr y6)⟩)
    ·exact .inl ⟨z,decide_eq_true (.inl z)⟩)
   have HL2:=Lib.hid HL.out.2;have HK2:=Lib.hid k2
   clear hru hx7 hEE hon hEI hTT hti hmd htm hy hx hq2 hq3 htt hend HQ HL hs0 HGW
   have hmd2:md≤n+200:=by have:=HTI.out;have:=HMD.out;omega
   have hmade2:made<md:=by have:=HTI.out;have:=HMD.out;omega
   go_wp2_with (first
    |(refine wpList_load_row rfl _ _ rfl k rfl _ T (0,0) _ (HT1.out.fr HF.out (by have:=HP.out;show¬(k=p∨k+1≤k);omega)) Tryz.underlying26 rfl (szTree17 hTS.out) ?_)
    |fail)
   refine HRU.out.mono ?_
   rintro e w2 ⟨rfl,r2,f2⟩
   obtain⟨Y,hY⟩:∃Y:Array Value,Y=#[.int .i64 (y:Int),.int .i64 (x:Int)]:=⟨_,rfl⟩
   have HYS:Hid (Y.size=2):=Lib.hid (by rw[hY];rfl)
   have HYO:Hid (Y.all (·.oneCell')=true):=Lib.hid (by rw[hY];simp[Value.oneCell'])
   obtain⟨t,ht⟩:∃t,t=w2.heap.size:=⟨_,rfl⟩
   obtain⟨W3,hW3⟩:∃W,W=mkV w2 #[.int .i64 0,.int .i64 0] Y 208:=⟨_,rfl⟩
   have hb3:Below w2.heap.size w2 W3:=by rw[hW3];exact mkV_below _ _ _ _
   have y3:BoxC W3 t Y 208:=by rw[hW3,ht];exact mkV_row w2 _ Y _
   have c3:W3.cell? ⟨t,0,none⟩=some (.int .i64 (y:Int)):=by rw[y3.cell,hY];rfl
   have hkw:k+1≤wr.heap.size:=by have:=HF.out.size;rw[HS1.out]at this;exact this
   have htk:k+1≤t:=by have:=f2.size;omega
   have HD3:=Lib.hid (BoxC.below r2 hb3 r2.lt:Rdr W3 p A l c q2)
   have HF3:=Lib.hid (HF.out.trans ((f2.mono fun j e=>.inl e).on hb3):Fr (UpB p (k+1)) W1 W3)
   have HO3:Hid (W3.ownsRow (k+1) 208 2 (.slice Al m cl) m (runsL pre)):=Lib.hid (own_keepU (own_fr HO.out f2 (fun j (e:j=p)=>by have:=HP.out;omega)) hb3)
   have HTW:Hid (∀cs:Array Value,W3.heap[t]?=some (.cells cs 208 (0,0))→(Value.slice Al m cl).ownBlock≠some t):=Lib.hid fun cs _ e=>by have:=(own_blk_lt (own_fr HO.out f2 (fun j (e:j=p)=>by have:=HP.out;omega)) t e).2;omega
   have HW3:=Lib.hid hW3;have HT:=Lib.hid ht;have HY3:=Lib.hid y3;have HYE:=Lib.hid hY;have HTK:=Lib.hid htk
   have HWA:=Lib.hid fun b=>pwant_any W3 p A l c q2 HD3.out b 132
   clear r2 f2 hY ht hW3 hb3 y3 hkw htk HRU HO HF HD k2
   rcases HBB.out with⟨z,hbt⟩|⟨z,z6,hbt⟩|⟨z,z6,hbt⟩
   ·have d1:decide ((0:Int)<(made:Int))=true:=decY (by omega)
    have d1':decide (0<made)=true:=decY0 z
    have hY2:=HYE
    clear z
    go_wp2_with (first
     |(rw[←hY2.out];refine wpList_store_rowTo rfl _ _ _ rfl rfl w2.heap.size Y rfl rfl 208 #[.int .i64 0,.int .i64 0] (heap_alloc_new w2 _) (szRun13 HYS.out) (by rw[HYS.out];rfl) HYO.out ?_;change wpList _ _ _ _ _ (mkV w2 #[.int .i64 0,.int .i64 0] Y 208);rw[←HW3.out,←HT.out])
     |fail)
    refine(HWA.out _).mono ?_
    rintro e w4 ⟨rfl,r4,f4⟩
    rw[←hbt]at r4
    have HD4:=Lib.hid r4;have HF4:=Lib.hid (HF3.out.trans (f4.mono fun j e=>.inl e))
    have HO4:Hid (w4.ownsRow (k+1) 208 2 (.slice Al m cl) m (runsL pre)):=Lib.hid (own_fr HO3.out f4 (fun j (e:j=p)=>by have:=HP.out;omega))
    have HY4:=Lib.hid (HY3.out.fr f4 (by have:=HP.out;have:=HTK.out;show¬t=p;omega))
    have HTMX:=Lib.hid (HTM.out w4)
    clear r4 f4 HWA HTM
    go_wp2_with (first
     |(refine wpList_load_row rfl _ _ rfl t rfl _ Y (0,0) _ HY4.out Tryz.underlying208 rfl (szRun13 HYS.out) ?_;rw[hY2.out])
     |fail)
    refine HTMX.out.mono ?_
    rintro e w5 ⟨rfl,hb5⟩
    have HD5:=Lib.hid (BoxC.below HD4.out hb5 HD4.out.lt:Rdr w5 p A l c _)
    have HF5:=Lib.hid (HF4.out.on hb5)
    have HO5:Hid (w5.ownsRow (k+1) 208 2 (.slice Al m cl) m (runsL pre)):=Lib.hid (own_keepU HO4.out hb5)
    have HY5:=Lib.hid (HY4.out.below hb5 HY4.out.lt)
    have HWB:=Lib.hid (pwant_any w5 p A l c _ HD5.out (decide (md≤n)) 132)
    rw[←HEE.out]at HWB
    clear hb5 HTMX HD4 HF4 HO4 HY4
    go_wp2_with fail
    refine HWB.out.mono ?_
    rintro e w6 ⟨rfl,r6,f6⟩
    have HD6:=Lib.hid r6;have HF6:=Lib.hid (HF5.out.trans (f6.mono fun j e=>.inl e))
    have HO6:Hid (w6.ownsRow (k+1) 208 2 (.slice Al m cl) m (runsL pre)):=Lib.hid (own_fr HO5.out f6 (fun j (e:j=p)=>by have:=HP.out;omega))
    have HY6:=Lib.hid (HY5.out.fr f6 (by have:=HP.out;have:=HTK.out;show¬t=p;omega))
    have hsz6:k+1≤w6.heap.size:=by have:=HF6.out.size;rw[HS1.out]at this;exact this
    obtain⟨A',c',w7,hrun,hown,hb7⟩:=run_oneU w6 (k+1) Al m cl pre HO6.out ((y:Int),(x:Int)) (by omega) hsz6
    have HRUN:=Lib.hid hrun;have HOWN:=Lib.hid hown;have HB7:=Lib.hid hb7
    clear r6 f6 HWB hrun hown hb7 hsz6 HO5 HY5 HD5 HF5
    go_wp2_with (first
     |(refine wpList_load_row rfl _ _ rfl t rfl _ Y (0,0) _ HY6.out Tryz.underlying208 rfl (szRun13 HYS.out) ?_;rw[hY2.out])
     |(at_builtin;refine wpList_append_run rfl (.tmp 43) (.tmp 45) 195 rfl (.slice Al m cl) (.slice (some ⟨w6.heap.size,0,none⟩) 1 1) (.slice A' (m+1) c') w7 rfl rfl HRUN.out ?_))
    have h2:w7.cell? ⟨p,2,none⟩=some (.int .i64 q3.2):=Rdr.e (BoxC.below HD6.out HB7.out (by have:=HP.out;omega):Rdr w7 p A l c q3)
    go_roundw
    case rel=>exact⟨md,m+1,A',c',pre++[((y:Int),(x:Int))],q3,fu',hmd2,by omega,rfl,by go_num,Lib.hid ⟨HON.out,by have:=HL2.out;omega⟩,HOWN,Lib.hid (BoxC.below HD6.out HB7.out (by have:=HP.out;omega)),Lib.hid ⟨HEI.out,fun _=>HS0.out⟩,Lib.hid (HF6.out.trans (Fr.up HB7.out))⟩
    case measure=>
     rw[h2,HK2.out]
     show(if q3.2=0 then n+300-(md:Int).toNat else 0)<(if(0:Int)=0 then n+300-(made:Int).toNat else 0)
     rw[if_pos rfl]
     split<;>omega
   ·have d1:decide ((0:Int)<(made:Int))=false:=decN (by omega)
    have d1':decide (0<made)=false:=decN0 (by omega)
    have d2:((y:Int)==16)=true:=by rw[z6];rfl
    have d3:((y:Int) !=16)=false:=by simp[bne,d2]
    have hY2:=HYE
    clear z6 z
    go_wp2_with (first
     |(rw[←hY2.out];refine wpList_store_rowTo rfl _ _ _ rfl rfl w2.heap.size Y rfl rfl 208 #[.int .i64 0,.int .i64 0] (heap_alloc_new w2 _) (szRun13 HYS.out) (by rw[HYS.out];rfl) HYO.out ?_;change wpList _ _ _ _ _ (mkV w2 #[.int .i64 0,.int .i64 0] Y 208);rw[←HW3.out,←HT.out])
     |fail)
    refine(HWA.out _).mono ?_
    rintro e w4 ⟨rfl,r4,f4⟩
    rw[←hbt]at r4
    have HD4:=Lib.hid r4;have HF4:=Lib.hid (HF3.out.trans (f4.mono fun j e=>.inl e))
    have HO4:Hid (w4.ownsRow (k+1) 208 2 (.slice Al m cl) m (runsL pre)):=Lib.hid (own_fr HO3.out f4 (fun j (e:j=p)=>by have:=HP.out;omega))
    have HY4:=Lib.hid (HY3.out.fr f4 (by have:=HP.out;have:=HTK.out;show¬t=p;omega))
    have HTMX:=Lib.hid (HTM.out w4)
    clear r4 f4 HWA HTM
    go_wp2_with (first
     |(refine wpList_load_row rfl _ _ rfl t rfl _ Y (0,0) _ HY4.out Tryz.underlying208 rfl (szRun13 HYS.out) ?_;rw[hY2.out])
     |fail)
    refine HTMX.out.mono ?_
    rintro e w5 ⟨rfl,hb5⟩
    have HD5:=Lib.hid (BoxC.below HD4.out hb5 HD4.out.lt:Rdr w5 p A l c _)
    have HF5:=Lib.hid (HF4.out.on hb5)
    have HO5:Hid (w5.ownsRow (k+1) 208 2 (.slice Al m cl) m (runsL pre)):=Lib.hid (own_keepU HO4.out hb5)
    have HY5:=Lib.hid (HY4.out.below hb5 HY4.out.lt)
    have HWB:=Lib.hid (pwant_any w5 p A l c _ HD5.out (decide (md≤n)) 132)
    rw[←HEE.out]at HWB
    clear hb5 HTMX HD4 HF4 HO4 HY4
    go_wp2_with fail
    refine HWB.out.mono ?_
    rintro e w6 ⟨rfl,r6,f6⟩
    have HD6:=Lib.hid r6;have HF6:=Lib.hid (HF5.out.trans (f6.mono fun j e=>.inl e))
    have HO6:Hid (w6.ownsRow (k+1) 208 2 (.slice Al m cl) m (runsL pre)):=Lib.hid (own_fr HO5.out f6 (fun j (e:j=p)=>by have:=HP.out;omega))
    have HY6:=Lib.hid (HY5.out.fr f6 (by have:=HP.out;have:=HTK.out;show¬t=p;omega))
    have hsz6:k+1≤w6.heap.size:=by have:=HF6.out.size;rw[HS1.out]at this;exact this
    obtain⟨A',c',w7,hrun,hown,hb7⟩:=run_oneU w6 (k+1) Al m cl pre HO6.out ((y:Int),(x:Int)) (by omega) hsz6
    have HRUN:=Lib.hid hrun;have HOWN:=Lib.hid hown;have HB7:=Lib.hid hb7
    clear r6 f6 HWB hrun hown hb7 hsz6 HO5 HY5 HD5 HF5
    go_wp2_with (first
     |(refine wpList_load_row rfl _ _ rfl t rfl _ Y (0,0) _ HY6.out Tryz.underlying208 rfl (szRun13 HYS.out) ?_;rw[hY2.out])
     |(at_builtin;refine wpList_append_run rfl (.tmp 43) (.tmp 45) 195 rfl (.slice Al m cl) (.slice (some ⟨w6.heap.size,0,none⟩) 1 1) (.slice A' (m+1) c') w7 rfl rfl HRUN.out ?_))
    have h2:w7.cell? ⟨p,2,none⟩=some (.int .i64 q3.2):=Rdr.e (BoxC.below HD6.out HB7.out (by have:=HP.out;omega):Rdr w7 p A l c q3)
    go_roundw
    case rel=>exact⟨md,m+1,A',c',pre++[((y:Int),(x:Int))],q3,fu',hmd2,by omega,rfl,by go_num,Lib.hid ⟨HON.out,by have:=HL2.out;omega⟩,HOWN,Lib.hid (BoxC.below HD6.out HB7.out (by have:=HP.out;omega)),Lib.hid ⟨HEI.out,fun _=>HS0.out⟩,Lib.hid (HF6.out.trans (Fr.up HB7.out))⟩
    case measure=>
     rw[h2,HK2.out]
     show(if q3.2=0 then n+300-(md:Int).toNat else 0)<(if(0:Int)=0 then n+300-(made:Int).toNat else 0)
     rw[if_pos rfl]
     split<;>omega
   ·have d1:decide ((0:Int)<(made:Int))=false:=decN (by omega)
    have d1':decide (0<made)=false:=decN0 (by omega)
    have d2:((y:Int)==16)=false:=beq_eq_false_iff_ne.2 (by omega)
    have d3:((y:Int) !=16)=true:=by simp[bne,d2]
    have hY2:=HYE
    clear z6 z
    go_wp2_with (first
     |(rw[←hY2.out];refine wpList_store_rowTo rfl _ _ _ rfl rfl w2.heap.size Y rfl rfl 208 #[.int .i64 0,.int .i64 0] (heap_alloc_new w2 _) (szRun13 HYS.out) (by rw[HYS.out];rfl) HYO.out ?_;change wpList _ _ _ _ _ (mkV w2 #[.int .i64 0,.int .i64 0] Y 208);rw[←HW3.out,←HT.out])
     |fail)
    refine(HWA.out _).mono ?_
    rintro e w4 ⟨rfl,r4,f4⟩
    rw[←hbt]at r4
    have HD4:=Lib.hid r4;have HF4:=Lib.hid (HF3.out.trans (f4.mono fun j e=>.inl e))
    have HO4:Hid (w4.ownsRow (k+1) 208 2 (.slice Al m cl) m (runsL pre)):=Lib.hid (own_fr HO3.out f4 (fun j (e:j=p)=>by have:=HP.out;omega))
    have HY4:=Lib.hid (HY3.out.fr f4 (by have:=HP.out;have:=HTK.out;show¬t=p;omega))
    have HTMX:=Lib.hid (HTM.out w4)
    clear r4 f4 HWA HTM
    go_wp2_with (first
     |(refine wpList_load_row rfl _ _ rfl t rfl _ Y (0,0) _ HY4.out Tryz.underlying208 rfl (szRun13 HYS.out) ?_;rw[hY2.out])
     |fail)
    refine HTMX.out.mono ?_
    rintro e w5 ⟨rfl,hb5⟩
    have HD5:=Lib.hid (BoxC.below HD4.out hb5 HD4.out.lt:Rdr w5 p A l c _)
    have HF5:=Lib.hid (HF4.out.on hb5)
    have HO5:Hid (w5.ownsRow (k+1) 208 2 (.slice Al m cl) m (runsL pre)):=Lib.hid (own_keepU HO4.out hb5)
    have HY5:=Lib.hid (HY4.out.below hb5 HY4.out.lt)
    have HWB:=Lib.hid (pwant_any w5 p A l c _ HD5.out (decide (md≤n)) 132)
    rw[←HEE.out]at HWB
    clear hb5 HTMX HD4 HF4 HO4 HY4
    go_wp2_with fail
    refine HWB.out.mono ?_
    rintro e w6 ⟨rfl,r6,f6⟩
    have HD6:=Lib.hid r6;have HF6:=Lib.hid (HF5.out.trans (f6.mono fun j e=>.inl e))
    have HO6:Hid (w6.ownsRow (k+1) 208 2 (.slice Al m cl) m (runsL pre)):=Lib.hid (own_fr HO5.out f6 (fun j (e:j=p)=>by have:=HP.out;omega))
    have HY6:=Lib.hid (HY5.out.fr f6 (by have:=HP.out;have:=HTK.out;show¬t=p;omega))
    have hsz6:k+1≤w6.heap.size:=by have:=HF6.out.size;rw[HS1.out]at this;exact this
    obtain⟨A',c',w7,hrun,hown,hb7⟩:=run_oneU w6 (k+1) Al m cl pre HO6.out ((y:Int),(x:Int)) (by omega) hsz6
    have HRUN:=Lib.hid hrun;have HOWN:=Lib.hid hown;have HB7:=Lib.hid hb7
    clear r6 f6 HWB hrun hown hb7 hsz6 HO5 HY5 HD5 HF5
    go_wp2_with (first
     |(refine wpList_load_row rfl _ _ rfl t rfl _ Y (0,0) _ HY6.out Tryz.underlying208 rfl (szRun13 HYS.out) ?_;rw[hY2.out])
     |(at_builtin;refine wpList_append_run rfl (.tmp 43) (.tmp 45) 195 rfl (.slice Al m cl) (.slice (some ⟨w6.heap.size,0,none⟩) 1 1) (.slice A' (m+1) c') w7 rfl rfl HRUN.out ?_))
    have h2:w7.cell? ⟨p,2,none⟩=some (.int .i64 q3.2):=Rdr.e (BoxC.below HD6.out HB7.out (by have:=HP.out;omega):Rdr w7 p A l c q3)
    go_roundw
    case rel=>exact⟨md,m+1,A',c',pre++[((y:Int),(x:Int))],q3,fu',hmd2,by omega,rfl,by go_num,Lib.hid ⟨HON.out,by have:=HL2.out;omega⟩,HOWN,Lib.hid (BoxC.below HD6.out HB7.out (by have:=HP.out;omega)),Lib.hid ⟨HEI.out,fun _=>HS0.out⟩,Lib.hid (HF6.out.trans (Fr.up HB7.out))⟩
    case measure=>
     rw[h2,HK2.out]
     show(if q3.2=0 then n+300-(md:Int).toNat else 0)<(if(0:Int)=0 then n+300-(made:Int).toNat else 0)
     rw[if_pos rfl]
     split<;>omega
  ·have hR:=hend hlt
   have hst:=RuR.of_own HO.out
   have HSTR:=Lib.hid (str10_any wr Al m cl pre (n:Int) hst (by omega) (by omega) (by omega))
   have HRE:=Lib.hid hR
   have HFF:=HFW
   clear hend hR hst HL HO HF HQ
   by_cases hm1:made<n
   ·obtain⟨qa,qe⟩:=q
    have hq0:¬qe=0:=fun e=>hlt ⟨hm1,e⟩
    have d0:(qe==0)=false:=beq_eq_false_iff_ne.2 hq0
    have hlti:(made:Int)<(n:Int):=by omega
    have k2':wr.cell? ⟨p,2,none⟩=some (.int .i64 qe):=k2
    clear hlt hq0 k2
    go_wp2_with fail
    refine HSTR.out.mono ?_
    rintro e w2 ⟨A',n',c',rfl,e1,e2,hb2,e3⟩
    have HB2:=Lib.hid hb2;have HE2:=Lib.hid e2;have HE3:=Lib.hid e3;have HE1:=Lib.hid e1
    clear hb2 e1 e2 e3
    go_wp2
    go_ret
    have hle:=HFF.out.size
    refine⟨A',n',c',rfl,by rw[←HRE.out];exact HE1.out,by rw[←HRE.out];exact HE2.out,fun h0=>?_,by rw[←HRE.out];exact BoxC.below HD.out HB2.out HD.out.lt,HFF.out.on HB2.out⟩
    obtain⟨g0,o0,cur,q1,q2,q3⟩:=HE3.out h0
    exact⟨g0,o0,cur,q1,Nat.le_trans hle q2,q3⟩
   ·have hlti:¬(made:Int)<(n:Int):=by omega
    clear hlt
    go_wp2_with fail
    refine HSTR.out.mono ?_
    rintro e w2 ⟨A',n',c',rfl,e1,e2,hb2,e3⟩
    have HB2:=Lib.hid hb2;have HE2:=Lib.hid e2;have HE3:=Lib.hid e3;have HE1:=Lib.hid e1
    clear hb2 e1 e2 e3
    go_wp2
    go_ret
    have hle:=HFF.out.size
    refine⟨A',n',c',rfl,by rw[←HRE.out];exact HE1.out,by rw[←HRE.out];exact HE2.out,fun h0=>?_,by rw[←HRE.out];exact BoxC.below HD.out HB2.out HD.out.lt,HFF.out.on HB2.out⟩
    obtain⟨g0,o0,cur,q1,q2,q3⟩:=HE3.out h0
    exact⟨g0,o0,cur,q1,Nat.le_trans hle q2,q3⟩
end Go.Proofs.YtgokdgcmkcmjeaaGreat
namespace Go.Proofs.YtgokdgcmkcmjeaaGreat
open Go.RowKit
def Up(T:Value→World→Prop)(v:Value)(w:World):Prop:=∀W,Below w.heap.size w W→T v W
theorem Up.here{T:Value→World→Prop}{v:Value}{w:World}(h:Up T v w):T v w:=h w (Below.refl _ _)
theorem Up.on{T:Value→World→Prop}{v:Value}{w w':World}(h:Up T v w)(hb:Below w.heap.size w w'):Up T v w':=fun W hW=>h W (hb.trans (hW.mono hb.size))
def putL:List (Option Tmp)→(Tmp→Value)→Act→Act
 |[],_,a=>a
 |none::r,vals,a=>putL r vals a
 |some d::r,vals,a=>putL r vals (a.put (some d) (vals d))
theorem putL_size:∀(l:List (Option Tmp)) (vals:Tmp→Value) (a:Act),(putL l vals a).tmps.size=a.tmps.size
 |[],_,_=>rfl
 |none::r,vals,a=>putL_size r vals a
 |some d::r,vals,a=>by rw[putL,putL_size r vals];simp[Act.put]
theorem putL_defers:∀(l:List (Option Tmp)) (vals:Tmp→Value) (a:Act),(putL l vals a).defers=a.defers
 |[],_,_=>rfl
 |none::r,vals,a=>putL_defers r vals a
 |some d::r,vals,a=>by rw[putL,putL_defers r vals];rfl
theorem putL_in:∀(l:List (Option Tmp)) (vals:Tmp→Value) (a:Act) (s:Tmp),(some s∈l∨a.tmps[s]?=some (vals s))→s<a.tmps.size→(putL l vals a).tmps[s]?=some (vals s)
 |[],vals,a,s,h,_=>by
  rcases h with h|h
  ·cases h
  ·exact h
 |none::r,vals,a,s,h,hs=>putL_in r vals a s (h.imp (fun h=>by simpa using h) id) hs
 |some d::r,vals,a,s,h,hs=>by
  refine putL_in r vals _ s ?_ (by simpa[Act.put]using hs)
  by_cases e:d=s
  ·right;subst e;simp[Act.put,hs]
  ·rcases h with h|h
   ·left
    rcases List.mem_cons.1 h with h|h
    ·exact absurd (Option.some.inj h).symm e
    ·exact h
   ·right;simpa[Act.put,Array.getElem?_setIfInBounds_ne e]using h
theorem putL_out:∀(l:List (Option Tmp)) (vals:Tmp→Value) (a:Act) (s:Tmp),some s∉l→(putL l vals a).tmps[s]?=a.tmps[s]?
 |[],_,_,_,_=>rfl
 |none::r,vals,a,s,h=>putL_out r vals a s (fun g=>h (List.mem_cons_of_mem _ g))
 |some d::r,vals,a,s,h=>by
  rw[putL,putL_out r vals _ s (fun g=>h (List.mem_cons_of_mem _ g))]
  have e:d≠s:=fun e=>h (by rw[e];exact List.mem_cons_self ..)
  simp[Act.put,Array.getElem?_setIfInBounds_ne e]
def tabB(l:List Oper)(n:Nat):Bool:=decide (l.filterMap (·.dst)).Nodup&&(l.all fun o=>match o.dst with|some d=>decide (d<n)|none=>true)&&((List.range l.length).all fun i=>match l[i]? with
 |some o=>o.after.all fun e=> !Region.binds .any e||decide (e.on<i)
 |none=>true)
def offB(l:List Oper)(s:Tmp):Bool:=l.all fun o=>o.dst !=some s
def TabStep(P:Program)(l:List Oper)(T:Nat→Value→World→Prop)(a0:Act)(U:World)(k:Nat)(o:Oper):Prop:=
 ∀(a:Act) (w:World),Below U.heap.size U w→(∀s,offB l s=true→a.eval (.tmp s)=a0.eval (.tmp s))→(∀j d,Region.waitsFor .any l.toArray k j=true→(l[j]?).bind (·.dst)=some d→Up (T j) (a.eval (.tmp d)) w)→
  ∀(K:Act→World→Prop) (Q:Exit→Act→World→Prop),(∀v w',Below w.heap.size w w'→Up (T k) v w'→K (a.put o.dst v) w')→if Region.wanted o (yielded l.toArray a.tmps)=true then Oper.wp P o a w K Q else K (a.put o.dst undef) w
def TabAll(P:Program)(l:List Oper)(T:Nat→Value→World→Prop)(a0:Act)(U:World):Nat→List Oper→Prop
 |_,[]=>True
 |k,o::r=>TabStep P l T a0 U k o∧TabAll P l T a0 U (k+1) r
theorem TabAll.get{P:Program}{l:List Oper}{T:Nat→Value→World→Prop}{a0:Act}{U:World}:∀{r:List Oper} {k:Nat},TabAll P l T a0 U k r→∀{j:Nat} {o:Oper},r[j]?=some o→TabStep P l T a0 U (k+j) o
 |[],_,_,_,_,h=>by cases h
 |_::_,k,hA,0,_,h=>by cases h;exact hA.1
 |_::r,k,hA,j+1,o,h=>by
  have:=TabAll.get (r:=r) hA.2 (j:=j) (by simpa using h)
  rw[show k+1+j=k+(j+1) by omega]at this
  exact this
structure TabInv (l:List Oper) (T:Nat→Value→World→Prop) (a0:Act) (U:World) (listed:Array Bool) (a:Act) (w:World):Prop where
 size:listed.size=l.length
 tmps:a.tmps.size=a0.tmps.size
 defers:a.defers=a0.defers
 below:Below U.heap.size U w
 off:∀s,(∀j d,listed.getD j false=true→(l[j]?).bind (·.dst)=some d→d≠s)→a.tmps[s]?=a0.tmps[s]?
 told:∀j d,listed.getD j false=true→(l[j]?).bind (·.dst)=some d→Up (T j) (a.eval (.tmp d)) w
theorem offB_is{l:List Oper}{s:Tmp}(h:offB l s=true){j:Nat}{d:Tmp}(hd:(l[j]?).bind (·.dst)=some d):d≠s:=fun e=>by
 cases hj:l[j]? with
 |none=>rw[hj]at hd;cases hd
 |some y=>
  rw[hj]at hd
  have h1:=List.all_eq_true.1 h y (List.mem_of_getElem? hj)
  have h2:y.dst=some d:=by simpa using hd
  rw[h2,e]at h1;simp at h1
theorem tab_dst{l:List Oper}(h:(l.filterMap (·.dst)).Nodup){i j:Nat}{x y:Oper}{d:Tmp}(hi:l[i]?=some x)(hj:l[j]?=some y)(hx:x.dst=some d)(hy:y.dst=some d):i=j:=by
 induction l generalizing i j with
 |nil=>cases hi
 |cons z r ih=>
  have hr:(r.filterMap (·.dst)).Nodup:=by
   rw[List.filterMap_cons]at h
   split at h
   ·exact h
   ·exact(List.nodup_cons.1 h).2
  have hz:∀(q:Nat) (u:Oper),r[q]?=some u→u.dst=some d→z.dst≠some d:=fun q u hq hu hzd=>by
   rw[List.filterMap_cons,hzd]at h
   exact(List.nodup_cons.1 h).1 (List.mem_filterMap.2 ⟨u,List.mem_of_getElem? hq,hu⟩)
  rcases i with _|i<;>rcases j with _|j
  ·rfl
  ·cases hi;exact absurd hx (hz j y (by simpa using hj) hy)
  ·cases hj;exact absurd hy (hz i x (by simpa using hi) hx)
  ·exact congrArg (·+1) (ih hr (by simpa using hi) (by simpa using hj))
theorem tab_any{P:Program}{Q:Exit→Act→World→Prop}{a0:Act}{U:World}{l:List Oper}{T:Nat→Value→World→Prop}(hB:tabB l a0.tmps.size=true)(hstep:TabAll P l T a0 U 0 l)
  (hend:∀listed a w,TabInv l T a0 U listed a w→(∀i,i<l.length→listed.getD i false=true)→Q .normal a w):
  ∀(f:Nat) (listed:Array Bool) (a:Act) (w:World),((List.range l.length).filter fun i=> !listed.getD i false).length=f→TabInv l T a0 U listed a w→wpAny P .any l.toArray Q f listed a w:=by
 have hB':=hB
 simp only[tabB,Bool.and_eq_true,decide_eq_true_eq]at hB'
 obtain⟨⟨hnd,hin⟩,hlow⟩:=hB'
 have hall:∀(listed:Array Bool),listed.size=l.length→Region.ready .any l.toArray listed=[]→∀i,i<l.length→listed.getD i false=true:=fun listed hsz hr i=>by
  induction i using Nat.strongRecOn with
  |_ i ih=>
   intro hi
   cases hu:listed.getD i false with
   |true=>rfl
   |false=>
    exfalso
    have h1:=List.all_eq_true.1 hlow i (List.mem_range.2 hi)
    have hoi:l[i]?=some l[i]:=List.getElem?_eq_getElem hi
    simp only[hoi]at h1
    have:i∈Region.ready .any l.toArray listed:=mem_ready.2 ⟨getD_in (by omega) hu,l[i],by simp[hi],fun e he hb=>by
     have h2:=Array.all_eq_true_iff_forall_mem.1 h1 e he
     simp only[hb,Bool.not_true,Bool.false_or,decide_eq_true_eq]at h2
     exact ih e.on h2 (by omega)⟩
    rw[hr]at this;cases this
 intro f
 induction f with
 |zero=>
  intro listed a w hf inv
  have hup:∀i,i<l.length→listed.getD i false=true:=fun i hi=>by
   have h0:=List.length_eq_zero_iff.1 hf
   have h1:=List.filter_eq_nil_iff.1 h0 i (List.mem_range.2 hi)
   simpa using h1
  refine⟨?_,hend listed a w inv hup⟩
  apply List.eq_nil_iff_forall_not_mem.2
  intro i hi
  obtain⟨h0,o,ho,_⟩:=mem_ready.1 hi
  have hlt:i<l.length:=by have:=(Array.getElem?_eq_some_iff.1 ho).1;simpa using this
  have h1:=hup i hlt
  rw[getD_both h0]at h1;cases h1
 |succ f ih=>
  intro listed a w hf inv
  refine⟨fun h0=>hend listed a w inv (hall listed inv.size h0),fun k hk=>?_⟩
  obtain⟨h0,o,ho,hafter⟩:=mem_ready.1 hk
  have hol:l[k]?=some o:=by simpa using ho
  have hlt:k<l.length:=(List.getElem?_eq_some_iff.1 hol).1
  have hst:TabStep P l T a0 U k o:=by have:=hstep.get hol;rwa[Nat.zero_add]at this
  have heval:∀s,offB l s=true→a.eval (.tmp s)=a0.eval (.tmp s):=fun s hs=>by
   show a.tmps.getD s undef=a0.tmps.getD s undef
   rw[Array.getD_eq_getD_getElem?,Array.getD_eq_getD_getElem?,inv.off s (fun _ _ _ hd=>offB_is hs hd)]
  have hfacts:∀j d,Region.waitsFor .any l.toArray k j=true→(l[j]?).bind (·.dst)=some d→Up (T j) (a.eval (.tmp d)) w:=fun j d hw hd=>by
   obtain⟨ok,hok,e,he,hb,hon⟩:=Region.waitsFor_spec hw
   rw[ho]at hok;cases hok
   exact inv.told j d (by have:=hafter e he hb;rwa[hon]at this) hd
  have hdlt:∀d,o.dst=some d→d<a.tmps.size:=fun d hd=>by
   have h1:=List.all_eq_true.1 hin o (List.mem_of_getElem? hol)
   simp only[hd,decide_eq_true_eq]at h1
   rw[inv.tmps];exact h1
  have hgo:=hst a w inv.below heval hfacts (wpAny P .any l.toArray Q f (listed.setIfInBounds k true)) Q (fun v w' hb hv=>by
   refine ih _ _ _ ?_ ⟨by simp[inv.size],?_,?_,inv.below.trans (hb.mono inv.below.size),fun s hs=>?_,fun j d hl hd=>?_⟩
   ·have hfe:((List.range l.length).filter fun i=> !(listed.setIfInBounds k true).getD i false)=((List.range l.length).filter fun i=> !listed.getD i false).erase k:=by
     rw[List.Nodup.erase_eq_filter (List.nodup_range.filter _),List.filter_filter]
     apply List.filter_congr
     intro x hx
     by_cases e:x=k
     ·subst e
      have:x<listed.size:=by rw[inv.size];exact hlt
      simp[this]
     ·rw[getD_set_ne false (Ne.symm e)];simp[e]
    rw[hfe,List.length_erase_of_mem (List.mem_filter.2 ⟨List.mem_range.2 hlt,by rw[getD_both h0];rfl⟩),hf];rfl
   ·unfold Act.put;cases o.dst<;>simp[inv.tmps]
   ·unfold Act.put;cases o.dst<;>exact inv.defers
   ·rw[←inv.off s (fun j d hl hd=>hs j d (getD_set_true hl) hd)]
    unfold Act.put
    cases hd:o.dst with
    |none=>rfl
    |some d=>
     have e:d≠s:=hs k d (by have:k<listed.size:=(by rw[inv.size];exact hlt);simp[this]) (by rw[hol];simpa using hd)
     simp[Array.getElem?_setIfInBounds_ne e]
   ·by_cases e:j=k
    ·subst e
     rw[hol]at hd
     have hd':o.dst=some d:=by simpa using hd
     have hlt2:=hdlt d hd'
     have he:(a.put o.dst v).eval (.tmp d)=v:=by rw[hd'];simp[Act.put,Act.eval,hlt2]
     rw[he];exact hv
    ·rw[getD_set_ne false (Ne.symm e)]at hl
     have h1:=inv.told j d hl hd
     have he:(a.put o.dst v).eval (.tmp d)=a.eval (.tmp d):=Act.eval_put fun d' hd' hx=>by
      cases hx
      cases hj:l[j]? with
      |none=>rw[hj]at hd;cases hd
      |some y=>
       rw[hj]at hd
       exact e (tab_dst hnd hj hol (by simpa using hd) hd')
     rw[he];exact h1.on hb)
  unfold wpOp
  simp only[ho]
  split at hgo
  ·rename_i hw;rw[if_pos hw];exact .inl hgo
  ·rename_i hw;rw[if_neg hw];exact hgo
theorem wp_region_tab{P:Program}{id:Nat}{Q:Exit→Act→World→Prop}{a0:Act}{w0:World}{l:List Oper}(T:Nat→Value→World→Prop)(U:World)(hU:Below U.heap.size U w0)(hm:P.follows .mixedOrders=true)(hB:tabB l a0.tmps.size=true)
  (hstep:TabAll P l T a0 U 0 l)
  (hend:∀(vals:Tmp→Value) (w:World),Below U.heap.size U w→(∀j d,(l[j]?).bind (·.dst)=some d→Up (T j) (vals d) w)→Q .normal (putL (l.map (·.dst)) vals a0) w):(Code.region id l.toArray true).wp P Q a0 w0:=by
 refine wp_region_any hm ?_
 have hl0:∀i,(Array.replicate l.toArray.size false).getD i false=false:=fun i=>getD_replicate_false _ _
 refine tab_any (T:=T) hB hstep (fun listed a w inv hup=>?_) l.toArray.size _ _ _ ?_ ⟨by simp,rfl,rfl,hU.drew,fun _ _=>rfl,fun j d h _=>by rw[hl0]at h;cases h⟩
 ·have ha:a=putL (l.map (·.dst)) (fun d=>a.eval (.tmp d)) a0:=by
   have ht:a.tmps=(putL (l.map (·.dst)) (fun d=>a.eval (.tmp d)) a0).tmps:=by
    apply Array.ext_getElem?
    intro s
    by_cases hs:some s∈l.map (·.dst)
    ·obtain⟨o,ho,hd⟩:=List.mem_map.1 hs
     simp only[tabB,Bool.and_eq_true,decide_eq_true_eq]at hB
     have h1:=List.all_eq_true.1 hB.1.2 o ho
     simp only[hd,decide_eq_true_eq]at h1
     rw[putL_in _ _ _ s (.inl hs) h1]
     have h2:s<a.tmps.size:=by rw[inv.tmps];exact h1
     simp[Act.eval,h2]
    ·rw[putL_out _ _ _ s hs]
     refine inv.off s (fun j d _ hd e=>hs ?_)
     cases hj:l[j]? with
     |none=>rw[hj]at hd;cases hd
     |some y=>
      rw[hj]at hd
      exact List.mem_map.2 ⟨y,List.mem_of_getElem? hj,by rw[←e];simpa using hd⟩
   have hdf:a.defers=(putL (l.map (·.dst)) (fun d=>a.eval (.tmp d)) a0).defers:=by rw[putL_defers];exact inv.defers
   cases a with
   |mk t df=>
    generalize hp:putL (l.map (·.dst)) (fun d=>(Act.mk t df).eval (.tmp d)) a0=p at*
    cases p with
    |mk t2 df2=>simp only at ht hdf;rw[ht,hdf]
  rw[ha]
  refine hend _ w inv.below fun j d hd=>?_
  refine inv.told j d (hup j ?_) hd
  cases hj:l[j]? with
  |none=>rw[hj]at hd;cases hd
  |some _=>exact(List.getElem?_eq_some_iff.1 hj).1
 ·rw[List.filter_eq_self.2 (fun i _=>by rw[hl0];rfl)];simp
theorem tab_on{l:List Oper}{o:Oper}{a:Act}(g:Nat)(b:Bool)(hg:o.guard=some (g,b))(d:Tmp)(hd:(l[g]?).bind (·.dst)=some d)(hv:a.eval (.tmp d)=.bool b):Region.wanted o (yielded l.toArray a.tmps)=true:=by
 have h1:a.tmps[d]?=some (.bool b):=by
  have h2:(a.tmps[d]?).getD undef=.bool b:=by rw[←Array.getD_eq_getD_getElem?];exact hv
  cases h3:a.tmps[d]? with
  |none=>rw[h3]at h2;cases h2
  |some x=>rw[h3]at h2;exact congrArg some h2
 have h4:((l.toArray[g]?).bind (·.dst)).bind (a.tmps[·]?)=some (.bool b):=by rw[show l.toArray[g]?=l[g]? by simp,hd];exact h1
 unfold Region.wanted yielded
 rw[hg]
 simp only[h4]
 simp
theorem tab_free{l:List Oper}{o:Oper}{a:Act}(hg:o.guard=none):Region.wanted o (yielded l.toArray a.tmps)=true:=by simp[Region.wanted,hg]
theorem tab_val{P:Program}{l:List Oper}{o:Oper}{a:Act}{w:World}{T:Value→World→Prop}{K:Act→World→Prop}{Q:Exit→Act→World→Prop}{E:Prop}(hw:Region.wanted o (yielded l.toArray a.tmps)=true)(v:Value)
  (hr:(execOp a.eval o).run P w=.ok (.value v) w) (hT:Up T v w) (hK:∀v w',Below w.heap.size w w'→Up T v w'→K (a.put o.dst v) w'):if Region.wanted o (yielded l.toArray a.tmps)=true then Oper.wp P o a w K Q else E:=by
 rw[if_pos hw]
 unfold Oper.wp
 rw[hr]
 exact hK v w (Below.refl _ _) hT
theorem tab_move{P:Program}{l:List Oper}{o:Oper}{a:Act}{w:World}{T:Value→World→Prop}{K:Act→World→Prop}{Q:Exit→Act→World→Prop}{E:Prop}(hw:Region.wanted o (yielded l.toArray a.tmps)=true)(x:Operand)(ho:o.op=.move x)
  (hT:Up T (a.eval x) w) (hK:∀v w',Below w.heap.size w w'→Up T v w'→K (a.put o.dst v) w'):if Region.wanted o (yielded l.toArray a.tmps)=true then Oper.wp P o a w K Q else E:=
 tab_val hw (a.eval x) (by simp[execOp,ho]) hT hK
theorem tab_assign{P:Program}{l:List Oper}{o:Oper}{a:Act}{w:World}{T:Value→World→Prop}{K:Act→World→Prop}{Q:Exit→Act→World→Prop}{E:Prop}(hw:Region.wanted o (yielded l.toArray a.tmps)=true)(x:Operand)(ho:o.op=.assign x)
  (hT:Up T (a.eval x) w) (hK:∀v w',Below w.heap.size w w'→Up T v w'→K (a.put o.dst v) w'):if Region.wanted o (yielded l.toArray a.tmps)=true then Oper.wp P o a w K Q else E:=
 tab_val hw (a.eval x) (by simp[execOp,ho]) hT hK
theorem tab_pick{P:Program}{l:List Oper}{o:Oper}{a:Act}{w:World}{T:Value→World→Prop}{K:Act→World→Prop}{Q:Exit→Act→World→Prop}{E:Prop}(hw:Region.wanted o (yielded l.toArray a.tmps)=true)(c x y:Operand)(ho:o.op=.pick c x y)(b:Bool)(hc:a.eval c=.bool b)
  (hT:Up T (if b then a.eval x else a.eval y) w) (hK:∀v w',Below w.heap.size w w'→Up T v w'→K (a.put o.dst v) w'):if Region.wanted o (yielded l.toArray a.tmps)=true then Oper.wp P o a w K Q else E:=
 tab_val hw (if b then a.eval x else a.eval y) (by simp only[execOp,ho,hc,asBool,Sem.run_bind,Sem.run_pure,Result.andThen_ok]) hT hK
theorem tab_convert{P:Program}{l:List Oper}{o:Oper}{a:Act}{w:World}{T:Value→World→Prop}{K:Act→World→Prop}{Q:Exit→Act→World→Prop}{E:Prop}(hw:Region.wanted o (yielded l.toArray a.tmps)=true)(s t:TypeId)(x:Operand)(ho:o.op=.convert s t x)(v:Value)(hr:(convert s t (a.eval x)).run P w=.ok v w)
  (hT:Up T v w) (hK:∀v w',Below w.heap.size w w'→Up T v w'→K (a.put o.dst v) w'):if Region.wanted o (yielded l.toArray a.tmps)=true then Oper.wp P o a w K Q else E:=
 tab_val hw v (by simp only[execOp,ho,Sem.run_bind,hr,Result.andThen_ok];rfl) hT hK
theorem tab_bin{P:Program}{l:List Oper}{o:Oper}{a:Act}{w:World}{T:Value→World→Prop}{K:Act→World→Prop}{Q:Exit→Act→World→Prop}{E:Prop}(hw:Region.wanted o (yielded l.toArray a.tmps)=true)(b:BinOp)(t t':TypeId)(x y:Operand)(ho:o.op=.binOp b t x y t')(u z v:Value)(hx:a.eval x=u)(hy:a.eval y=z)
  (hg:(eqGuard b t x y u z).run P w=.ok () w) (hr:(binOp b t u z).run P w=.ok v w)
  (hT:Up T v w) (hK:∀v w',Below w.heap.size w w'→Up T v w'→K (a.put o.dst v) w'):if Region.wanted o (yielded l.toArray a.tmps)=true then Oper.wp P o a w K Q else E:=
 tab_val hw v (by simp only[execOp,ho,hx,hy,Sem.run_bind,hg,hr,Result.andThen_ok];rfl) hT hK
theorem tab_call{l:List Oper}{o:Oper}{a:Act}{w:World}{T:Value→World→Prop}{K:Act→World→Prop}{Q:Exit→Act→World→Prop}{E:Prop}(hw:Region.wanted o (yielded l.toArray a.tmps)=true)(f:FuncId)(xs:Array Operand)(ts:Array TypeId)
  (ho:o.op=.call {callee:=.value (.func f),args:=xs,argTypes:=ts}) (eg:∀args w,(callFunc f args).run Tryz.prog w=.ok (.enter f args) w) (args:Array Value) (hx:xs.map a.eval=args) {R:Ending→World→Prop} (hc:Calls Tryz.prog f args w R)
  (h:∀e w',R e w'→∃v,e=.returned v∧Below w.heap.size w w'∧Up T v w') (hK:∀v w',Below w.heap.size w w'→Up T v w'→K (a.put o.dst v) w'):
  if Region.wanted o (yielded l.toArray a.tmps)=true then Oper.wp Tryz.prog o a w K Q else E:=
 step_call_on hw f xs ts ho eg args hx hc fun e w' hr=>by
  obtain⟨v,he,hb,hv⟩:=h e w' hr
  exact⟨v,he,hK v w' hb hv⟩
theorem TabAll.nil{P:Program}{l:List Oper}{T:Nat→Value→World→Prop}{a0:Act}{U:World}{k:Nat}:TabAll P l T a0 U k []:=trivial
theorem TabAll.cons {P:Program} {l:List Oper} {T:Nat→Value→World→Prop} {a0:Act} {U:World} {k:Nat} {o:Oper} {r:List Oper} (h:∀(a:Act) (w:World),Below U.heap.size U w→(∀s,offB l s=true→a.eval (.tmp s)=a0.eval (.tmp s))→(∀j d,Region.waitsFor .any l.toArray k j=true→(l[j]?).bind (·.dst)=some d→Up (T j) (a.eval (.tmp d)) w)→
  ∀(K:Act→World→Prop) (Q:Exit→Act→World→Prop),(∀v w',Below w.heap.size w w'→Up (T k) v w'→K (a.put o.dst v) w')→if Region.wanted o (yielded l.toArray a.tmps)=true then Oper.wp P o a w K Q else K (a.put o.dst undef) w) (hr:TabAll P l T a0 U (k+1) r):TabAll P l T a0 U k (o::r):=⟨h,hr⟩
def tabT(L:List (Value→World→Prop))(k:Nat):Value→World→Prop:=(L[k]?).getD fun _ _=>True
theorem eqg_str(P:Program)(b:BinOp)(t:TypeId)(x y:Operand)(A B:ByteArray)(w:World):(eqGuard b t x y (.string A) (.string B)).run P w=.ok () w:=by
 unfold eqGuard;simp[go_sem]
theorem eqg_int(P:Program)(b:BinOp)(t:TypeId)(x y:Operand)(k k':IntKind)(A B:Int)(w:World):(eqGuard b t x y (.int k A) (.int k' B)).run P w=.ok () w:=by
 unfold eqGuard;simp[go_sem]
theorem eql_str(P:Program)(t:TypeId)(A:ByteArray)(w:World):(binOp .eql t (.string A) (.string A)).run P w=.ok (.bool true) w:=by
 simp[binOp,Op.stringOp,go_sem]
theorem eql_int(P:Program)(t:TypeId)(k:IntKind)(A:Int)(w:World):(binOp .eql t (.int k A) (.int k A)).run P w=.ok (.bool true) w:=by
 simp[binOp,Op.intCmp,go_sem]
theorem up_eq{v x:Value}{w:World}(h:v=x):Up (fun u _=>u=x) v w:=fun _ _=>h
end Go.Proofs.YtgokdgcmkcmjeaaGreat
namespace Go.Proofs.YtgokdgcmkcmjeaaGreat
open Go.RowKit
theorem tab_load{l:List Oper}{o:Oper}{a:Act}{w:World}{T:Value→World→Prop}{K:Act→World→Prop}{Q:Exit→Act→World→Prop}{E:Prop}(hw:Region.wanted o (yielded l.toArray a.tmps)=true)(ty:TypeId)(x:Operand)(ho:o.op=.load ty x)(u v:Value)(hx:a.eval x=u)
  (hr:(Instr.loadAt ty u).run Tryz.prog w=.ok v w)
  (hT:Up T v w) (hK:∀v w',Below w.heap.size w w'→Up T v w'→K (a.put o.dst v) w'):if Region.wanted o (yielded l.toArray a.tmps)=true then Oper.wp Tryz.prog o a w K Q else E:=
 tab_val hw v (by unfold execOp;simp only[ho,hx,Sem.run_bind,hr,Result.andThen_ok];rfl) hT hK
theorem run_from(A A2:Option Addr)(L c k:Nat)(hk:k≤L)(hA:(if c=k then A else A.map (·.add k))=A2)(w:World):(Instr.sliceAt 22 (.slice A L c) (some (.int .i64 (k:Int))) none none).run Tryz.prog w=.ok (.slice A2 (L-k) (c-k)) w:=by
 obtain⟨i0,hi,hz0,hz1,hz2⟩:=info_parts infoU8
 have hs:(sizeOf 5).run Tryz.prog w=.ok 1 w:=by simp[sizeOf,typeInfo,hi,hz1,go_sem]
 rw[run_sliceAt_slice (h:=Tryz.underlying22),run_slice_l (ht:=Tryz.underlying22) (h0:=by omega) (h1:=by omega)]
 have he:Tryz.prog.elem 22=5:=by kernel_rfl
 rw[he,hs]
 simp[sliced,←hA,Result.andThen]
theorem run_to(A:Option Addr)(L c k:Nat)(hk:k≤c)(w:World):(Instr.sliceAt 22 (.slice A L c) none (some (.int .i64 (k:Int))) none).run Tryz.prog w=.ok (.slice A k c) w:=by
 obtain⟨i0,hi,hz0,hz1,hz2⟩:=info_parts infoU8
 have hs:(sizeOf 5).run Tryz.prog w=.ok 1 w:=by simp[sizeOf,typeInfo,hi,hz1,go_sem]
 rw[run_sliceAt_slice (h:=Tryz.underlying22),run_slice_h (ht:=Tryz.underlying22) (h0:=by omega) (h2:=by omega)]
 have he:Tryz.prog.elem 22=5:=by kernel_rfl
 rw[he,hs]
 have h0:(if c=0 then A else A.map fun x=>x.add 0)=A:=by
  split
  ·rfl
  ·cases A with
   |none=>rfl
   |some a=>simp[Addr.add]
 simp[sliced,Result.andThen,h0]
end Go.Proofs.YtgokdgcmkcmjeaaGreat
namespace Go.Proofs.YtgokdgcmkcmjeaaGreat
open Go.RowKit
def floatB(l:List Oper)(i0:Nat):Bool:=(List.range l.length).all fun j=>j==i0||Region.waitsFor .any l.toArray i0 j||Region.waitsFor .any l.toArray j i0||match l[i0]?,l[j]? with
 |some x,some y=>x.apart l.toArray y
 |_,_=>false
end Go.Proofs.YtgokdgcmkcmjeaaGreat
namespace Go.Proofs.YtgokdgcmkcmjeaaGreat
open Go.RowKit
theorem any_float{P:Program}{Q:Exit→Act→World→Prop}{l:List Oper}(i:Nat){o:Oper}(v:Value)(hsel:Region.noSelect l.toArray=true)(hfl:floatB l i=true)(ho:l[i]?=some o)(hg:o.guard=none)(d:Tmp)(hd:o.dst=some d){fuel:Nat}{listed:Array Bool}{a:Act}{w:World}
  (hQ:∀c a w,Q (.panic c) (a.put (some d) v) w→Q (.panic c) a w) (hr:(Region.ready .any l.toArray listed).contains i=true) (hv:∀w',(execOp a.eval o).run P w'=.ok (.value v) w')
  (h:wpAny P .any l.toArray Q fuel (listed.setIfInBounds i true) (a.put (some d) v) w):wpAny P .any l.toArray Q (fuel+1) listed a w:=by
 rw[←hd]at h hQ
 have hr':i∈Region.ready .any l.toArray listed:=by simpa using hr
 obtain⟨hu0,oi,hoi,hafter⟩:=mem_ready.1 hr'
 have ho':l.toArray[i]?=some o:=by simpa using ho
 rw[ho']at hoi;cases hoi
 refine wpAny_first (oi:=o) (v:=v) ho' (Region.noSelect_spec hsel) hQ fuel listed a w (fun j oj hj hne hun hno=>?_) hr' (.inl ⟨by simp[Region.wanted,hg],hv⟩) h
 have hjl:j<l.length:=by have:=(Array.getElem?_eq_some_iff.1 hj).1;simpa using this
 have h1:=List.all_eq_true.1 hfl j (List.mem_range.2 hjl)
 have hj2:l[j]?=some oj:=by simpa using hj
 simp only[ho,hj2,Bool.or_eq_true,beq_iff_eq]at h1
 rcases h1 with((h1|h1)|h1)|h1
 ·exact absurd h1 hne
 ·obtain⟨ok,hok,e,he,hb,hon⟩:=Region.waitsFor_spec h1
  rw[ho']at hok;cases hok
  have h2:=hafter e he hb
  rw[hon,getD_both hun]at h2;cases h2
 ·obtain⟨ok,hok,e,he,hb,hon⟩:=Region.waitsFor_spec h1
  rw[hj]at hok;cases hok
  exact absurd hon (hno e he hb)
 ·exact h1
end Go.Proofs.YtgokdgcmkcmjeaaGreat
namespace Go.Proofs.YtgokdgcmkcmjeaaGreat
open Go.RowKit
theorem pfixed_gen(w:World)(p:Nat)(A:Option Addr)(l c:Nat)(s:Rz)(h:Rdr w p A l c s)(F1 F2:Nat→Nat)(h1:∀j,F1 j<256)(h2:∀j,F2 j<256)
  (hfx:∀w:World,Calls Tryz.prog 87 #[] w fun e w'=>∃A1 c1 A2 c2,e=.returned (.tuple #[.slice A1 288 c1,.slice A2 32 c2])∧
   w'.ownsRow w.heap.size 5 1 (.slice A1 288 c1) 288 (bytesL 288 F1)∧w'.ownsRow w.heap.size 5 1 (.slice A2 32 c2) 32 (bytesL 32 F2)∧Below w.heap.size w w'):
  Calls Tryz.prog 54 #[.pointer (some ⟨p,0,none⟩)] w fun e w'=>∃u1 u2,e=.returned (.tuple #[.agg (trA (grC F1 288 15) u1),.agg (trA (grC F2 32 15) u2)])∧
   Rdr w' p A l c (gwS F2 32 15 (gwS F1 288 15 s))∧OwnS w' w.heap.size u1 (grS F1 288 15)∧OwnS w' w.heap.size u2 (grS F2 32 15)∧Fr (At p) w w':=by
 have hp:=h.lt
 obtain⟨k,hk⟩:∃k,k=w.heap.size:=⟨_,rfl⟩
 obtain⟨Z,hZ⟩:∃Z,Z=trA (fun _=>0) (.slice none 0 0):=⟨_,rfl⟩
 obtain⟨W1,hW1⟩:∃W1,W1=(w.alloc (.cells Z 26)).alloc (.cells Z 26):=⟨_,rfl⟩
 have hb1:Below k w W1:=by rw[hW1,hk];exact((Below.refl _ _).alloc (Nat.le_refl _) _).alloc (by simp) _
 have hs1:W1.heap.size=k+2:=by rw[hW1,hk];simp
 have z1:BoxC W1 k Z 26:=by rw[hW1,hk];exact(BoxC.new w _ _).old _
 have y1:BoxC W1 (k+1) Z 26:=by rw[hW1,hk];have:=BoxC.new (w.alloc (.cells Z 26)) Z 26;rwa[World.size_alloc]at this
 have HD1:=Lib.hid (BoxC.below h hb1 (by omega):Rdr W1 p A l c s)
 have HF1:=Lib.hid (Fr.of (S:=At p) (hk▸hb1))
 have hzb:∀u:World,(zeroValue 26).run Tryz.prog u=.ok (.agg Z) u:=by rw[hZ];exact(zero_of_info infoTree13).1
 have HZS:Hid (Z.size=17):=Lib.hid (by rw[hZ,trA_size])
 have HFX:=Lib.hid (hfx W1)
 have HW1:=Lib.hid hW1;have HK:=Lib.hid hk;have HS1:=Lib.hid hs1;have HZ1:=Lib.hid z1;have HY1:=Lib.hid y1
 have HP:Hid (p<k):=Lib.hid (by omega)
 have H1:=Lib.hid h1;have H2:=Lib.hid h2
 clear h hZ hW1 hk hb1 hs1 z1 y1 hfx hp h1 h2
 go_enter Tryz.func54,Tryz.ntmps54
 go_wp2_with (first|(rw[←HW1.out,←HK.out])|fail)
 refine HFX.out.mono ?_
 rintro e w2 ⟨A1,c1,A2,c2,rfl,o1,o2,hb2⟩
 have HD2:=Lib.hid (BoxC.below HD1.out hb2 HD1.out.lt:Rdr w2 p A l c s)
 have hr1:=(ByR.of_own o1 H1.out).1
 have hr2:=(ByR.of_own o2 H2.out).1
 have hn2:∀b o,0<32→A2=some ⟨b,o,none⟩→¬At p b:=fun b o h0 e (hb:b=p)=>by
  obtain⟨g',cap,hv,hge,_⟩:=o2.form h0
  injection hv with hv _ _
  rw[e]at hv
  injection hv with hv
  injection hv with e1 _ _
  have:=HP.out;have:=HS1.out;omega
 have HR2:Hid (RdF (At p) w2 A2 32 F2):=Lib.hid ⟨hr2,hn2⟩
 have HG1:=Lib.hid (pgrow_any w2 p A l c s HD2.out A1 288 c1 F1 hr1 (by omega) 15)
 have HF2:=Lib.hid (HF1.out.on hb2)
 have HZ2:=Lib.hid (HZ1.out.below hb2 HZ1.out.lt);have HY2:=Lib.hid (HY1.out.below hb2 HY1.out.lt)
 have HK2:Hid (k+2≤w2.heap.size):=Lib.hid (by have:=hb2.size;rw[HS1.out]at this;exact this)
 clear o1 o2 hb2 hr1 hr2 hn2 HFX
 go_wp2_with fail
 refine HG1.out.mono ?_
 rintro e w3 ⟨u1,rfl,r3,o3,f3⟩
 have HR3:=Lib.hid (HR2.out.fr f3)
 have HO3:=Lib.hid o3
 have HF3:=Lib.hid (HF2.out.trans f3)
 have HG2:=Lib.hid (pgrow_any w3 p A l c _ r3 A2 32 c2 F2 HR3.out.1 (by omega) 15)
 have hpk:¬At p k∧¬At p (k+1):=by have:=HP.out;exact⟨by show¬k=p;omega,by show¬k+1=p;omega⟩
 have HZ3:=Lib.hid (HZ2.out.fr f3 hpk.1);have HY3:=Lib.hid (HY2.out.fr f3 hpk.2)
 have HK3:Hid (k+2≤w3.heap.size):=Lib.hid (Nat.le_trans HK2.out f3.size)
 obtain⟨X,hX⟩:∃X,X=trA (grC F1 288 15) u1:=⟨_,rfl⟩
 rw[←hX]
 have HXS:Hid (X.size=17):=Lib.hid (by rw[hX,trA_size])
 have HXO:Hid (X.all (·.oneCell')=true):=Lib.hid (by rw[hX];exact trA_one _ _ o3.one)
 have HXE:=Lib.hid hX
 clear r3 o3 f3 hX HG1 HR2 HD2
 go_wp2_with fail
 refine HG2.out.mono ?_
 rintro e w4 ⟨u2,rfl,r4,o4,f4⟩
 obtain⟨Y,hY⟩:∃X,X=trA (grC F2 32 15) u2:=⟨_,rfl⟩
 rw[←hY]
 have HYS:Hid (Y.size=17):=Lib.hid (by rw[hY,trA_size])
 have HYO:Hid (Y.all (·.oneCell')=true):=Lib.hid (by rw[hY];exact trA_one _ _ o4.one)
 have HYE:=Lib.hid hY
 have HZ4:=Lib.hid (HZ3.out.fr f4 hpk.1)
 have HY4:Hid (BoxC (w4.setRow k X) (k+1) Z 26):=Lib.hid ((HY3.out.fr f4 hpk.2).rowO (by omega) _)
 have HO1:=Lib.hid (HO3.out.fr f4 (fun j (e:j=p)=>by have:=HP.out;have:=HK2.out;omega))
 have HO2:=Lib.hid o4;have HR4:=Lib.hid r4;have HF4:=Lib.hid (HF3.out.trans f4)
 clear r4 o4 f4 hY HG2 HZ3 HY3 HO3 HF3 hpk
 go_wp2_with (first
  |(refine wpList_store_rowTo rfl _ _ _ rfl rfl k X rfl rfl 26 Z HZ4.out (szTree17 HXS.out) (by rw[HZS.out,HXS.out]) HXO.out ?_)
  |(refine wpList_store_rowTo rfl _ _ _ rfl rfl (k+1) Y rfl rfl 26 Z HY4.out (szTree17 HYS.out) (by rw[HZS.out,HYS.out]) HYO.out ?_)
  |fail)
 have hkk:=HK2.out;have hkk3:=HK3.out;have hpp:=HP.out
 refine bodyPost_ret (v:=.tuple #[.agg X,.agg Y]) (cell_twoT rfl _ _ k (k+1) X Y HXS.out HYS.out rfl rfl (BoxC.rowO (show BoxC (w4.setRow k X) k X 26 from setRow_heap _ _ _ _ _ _ HZ4.out) (by omega) _) (setRow_heap _ _ _ _ _ _ HY4.out)) rfl ⟨u1,u2,by rw[HXE.out,HYE.out],?_,?_,?_,?_⟩
 ·exact BoxC.rowO (BoxC.rowO HR4.out (by omega) _) (by omega) _
 ·rw[←HK.out];exact ownsRow_lower (own_blk HO1.out fun j hj=>(setRow_other _ _ _ _ (by have:=(own_blk_lt HO1.out j hj).1;omega)).trans (setRow_other _ _ _ _ (by have:=(own_blk_lt HO1.out j hj).1;omega))) (by omega)
 ·rw[←HK.out];exact ownsRow_lower (own_blk HO2.out fun j hj=>(setRow_other _ _ _ _ (by have:=(own_blk_lt HO2.out j hj).1;omega)).trans (setRow_other _ _ _ _ (by have:=(own_blk_lt HO2.out j hj).1;omega))) (by omega)
 ·exact(HF4.out.from (Fr.row w4 k X) fun j hj=>.inr (by rw[←HK.out];exact Nat.le_of_eq hj.symm)).from (Fr.row _ (k+1) Y) fun j hj=>.inr (by rw[←HK.out];have:j=k+1:=hj;omega)
def dyL(g:Nat→Nat)(L:Nat)(s:Rz):Nat:=tkV g L 5 s+257
def dyS1(L:Nat)(s:Rz):Rz:=tkS L 5 s
def dyF(g:Nat→Nat)(L:Nat)(s:Rz):Nat:=tkV g L 5 (dyS1 L s)+1
def dyS2(L:Nat)(s:Rz):Rz:=tkS L 5 (dyS1 L s)
def dyC(g:Nat→Nat)(L:Nat)(s:Rz):Nat:=tkV g L 4 (dyS2 L s)+4
def dyS4(g:Nat→Nat)(L:Nat)(s:Rz):Rz:=wantS (tkS L 4 (dyS2 L s)) (decide (dyL g L s≤286∧dyF g L s≤30)) 132
def dyH(g:Nat→Nat)(L:Nat)(s:Rz):Nat→Nat:=shG g L (dyS4 g L s) (dyC g L s)
def dyS5(g:Nat→Nat)(L:Nat)(s:Rz):Rz:=wantS (gwS (dyH g L s) 19 7 (shS L (dyS4 g L s) (dyC g L s))) (decide (2≤(((grS (dyH g L s) 19 7).length:Nat):Int))) 132
def dyR(g:Nat→Nat)(L:Nat)(s:Rz):List (Int×Int)×Rz:=lnS (extF 19 (dyH g L s)) g L (dyL g L s+dyF g L s) (dyL g L s+dyF g L s) 0 [] (dyS5 g L s)
def dyO(g:Nat→Nat)(L:Nat)(s:Rz):List Nat:=(strO (dyR g L s).1 ((dyL g L s+dyF g L s:Nat):Int)).2
def dyS9(g:Nat→Nat)(L:Nat)(s:Rz):Rz:=if(dyR g L s).2.2≠0 then(dyR g L s).2 else gwS (lst ((dyO g L s).drop (dyL g L s))) (dyF g L s) 15 (gwS (lst (dyO g L s)) (dyL g L s) 15 (wantS (dyR g L s).2 (decide (0<lst (dyO g L s) 256)) 132))
def dyG1(g:Nat→Nat)(L:Nat)(s:Rz):Nat→Int:=if(dyR g L s).2.2≠0 then fun _=>0 else grC (lst (dyO g L s)) (dyL g L s) 15
def dyG2(g:Nat→Nat)(L:Nat)(s:Rz):Nat→Int:=if(dyR g L s).2.2≠0 then fun _=>0 else grC (lst ((dyO g L s).drop (dyL g L s))) (dyF g L s) 15
def dyY1(g:Nat→Nat)(L:Nat)(s:Rz):List Int:=if(dyR g L s).2.2≠0 then[]else grS (lst (dyO g L s)) (dyL g L s) 15
def dyY2(g:Nat→Nat)(L:Nat)(s:Rz):List Int:=if(dyR g L s).2.2≠0 then[]else grS (lst ((dyO g L s).drop (dyL g L s))) (dyF g L s) 15
theorem dyS4_in{g:Nat→Nat}{L:Nat}{s:Rz}(h:s.1≤8*L):(dyS4 g L s).1≤8*L:=by unfold dyS4;rw[wantS_in];exact tkS_in (tkS_in (tkS_in h))
theorem dyS5_in{g:Nat→Nat}{L:Nat}{s:Rz}(h:s.1≤8*L):(dyS5 g L s).1≤8*L:=by unfold dyS5 gwS;rw[wantS_in,wantS_in];exact shS_in (dyS4_in h) _
theorem wantS_ok{s:Rz}{b:Bool}{x:Int}(hx:x≠0)(h:(wantS s b x).2=0):s.2=0∧b=true:=by
 unfold wantS keepS at h
 cases b
 ·exfalso
  rw[if_neg (by decide)]at h
  split at h
  ·exact hx h
  ·rename_i h2;exact h2 h
 ·rw[if_pos rfl]at h;exact⟨h,rfl⟩
theorem dyS5_ok{g:Nat→Nat}{L:Nat}{s:Rz}(h:(dyS5 g L s).2=0):checkE (dyH g L s) 19 7=0:=of_decide_eq_true (wantS_ok (by decide) (wantS_ok (by decide) h).1).2
theorem exec_slice{P:Program}{o:Oper}{a:Act}(t:TypeId)(x:Operand)(lo hi:Option Operand)(ho:o.op=.slice t x lo hi none)(u v:Value)(lo' hi':Option Value)(hx:a.eval x=u)(h1:lo.map a.eval=lo')(h2:hi.map a.eval=hi')(hr:∀w,(Instr.sliceAt t u lo' hi' none).run P w=.ok v w)(w:World):(execOp a.eval o).run P w=.ok (.value v) w:=by
 unfold execOp;simp only[ho,hx,h1,h2,Option.map_none,Sem.run_bind,hr,Result.andThen_ok];rfl
theorem exec_move{P:Program}{o:Oper}{a:Act}(x:Operand)(ho:o.op=.move x)(u:Value)(hx:a.eval x=u)(w:World):(execOp a.eval o).run P w=.ok (.value u) w:=by
 unfold execOp;simp only[ho,hx];rfl
theorem drop_rd{w:World}{B:Nat}{b o n:Nat}{O:List Nat}{k:Nat}(h:RdB w B (some ⟨b,o,none⟩) n (lst O))(hk:k≤n):RdB w B (some ⟨b,o+k,none⟩) (n-k) (lst (O.drop k)):=by
 refine⟨fun j=>?_,fun h0=>?_⟩
 ·have:=h.1 (k+j);unfold lst at this⊢;rwa[List.getD_eq_getElem?_getD,List.getElem?_drop,←List.getD_eq_getElem?_getD]
 ·obtain⟨b',o',e,hb,hc⟩:=h.2 (by omega)
  cases e
  refine⟨b,o+k,rfl,hb,fun j hj=>?_⟩
  have:=hc (k+j) (by omega)
  rw[←Nat.add_assoc]at this
  rw[this];unfold lst
  rw[List.getD_eq_getElem?_getD,List.getD_eq_getElem?_getD,List.getElem?_drop]
end Go.Proofs.YtgokdgcmkcmjeaaGreat
