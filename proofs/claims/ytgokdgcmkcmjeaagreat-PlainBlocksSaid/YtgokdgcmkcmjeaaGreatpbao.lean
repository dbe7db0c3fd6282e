/-
  Words and walks.
-/
import Derived.Deep.DeepCutAuto
import Derived.Deep.RegionWith
import Derived.BigRegion
import Derived.Test.YtgokdgcmkcmjeaaGreatpban
set_option maxRecDepth 100000
set_option maxHeartbeats 16000000
namespace Go.Proofs.YtgokdgcmkcmjeaaGreat
open Go.RowKit Go.ChangeShapes Go.WideShapes Go.ChangeAt Go.Joins
theorem runRange{w:World}{X:Nat}{s x:Int}(h0:w.cell? ⟨X,0,none⟩=some (.int .i64 s))(h1:w.cell? ⟨X,1,none⟩=some (.int .i64 x)):w.rangeAt X 0 (runC (s,x)):=by
 intro i v hv
 rcases i with _|_|i
 ·simp[runC]at hv;subst hv;exact h0
 ·simp[runC]at hv;subst hv;exact h1
 ·simp[runC]at hv
theorem box_dru{U w':World}{x y:Value}{t:TypeId}(h:DrU (U.alloc (.cells #[x,y] t)).drew w'):BoxW w' U.heap.size x y:=by
 obtain⟨k,rfl⟩:=h
 have h:=BoxW.new U x y t
 exact⟨h.lt,h.c0,h.c1,h.f0,h.f1⟩
theorem own_new{w:World}{base sz n c:Nat}{e:TypeId}{A:Option Addr}{xs:List Value}(h:w.ownsRow base e sz (.slice A n c) n xs):∀b o,A=some ⟨b,o,none⟩→base≤b:=fun b o hA=>by
 rcases h.2 with⟨hv,_⟩|⟨g,cap,cur,hv,hg,_⟩
 ·injection hv with h1;rw[hA]at h1;cases h1
 ·injection hv with h1;rw[hA]at h1;injection h1 with h1;injection h1 with h1;omega
theorem sq10_new(w:World)(A:Option Addr)(n c:Nat)(f:Nat→Nat)(hr:ByR w w.heap.size A n c f):
  Calls Tryz.prog 126 #[.slice A n c] w fun e w'=>∃A' n' c',e=.returned (.tuple #[.slice A' n' c',.int .i64 (sqE f n)])∧RuR w' w'.heap.size A' n' c' (sqV f n)∧Below w.heap.size w w'∧(∀b o,A'=some ⟨b,o,none⟩→w.heap.size≤b):=by
 replace hr:=hr.1
 have hmf:∀(fn:Fn) (first cap:Array Value) (w:World),(Instr.makeFunc fn first cap).run Tryz.prog w=.ok (.func fn first cap) w:=fun _ _ _ _=>rfl
 have HMF:=Lib.hid hmf
 obtain⟨E,hE⟩:∃E,E=sqE f n:=⟨_,rfl⟩
 obtain⟨V,hV⟩:∃V,V=sqV f n:=⟨_,rfl⟩
 have hV2:V=if E=0 then ofU f n 0 else[]:=by rw[hV,hE];rfl
 rw[←hE,←hV]
 unfold sqE at hE
 have HR:=Lib.hid hr;have HE:=Lib.hid hE;have HV:=Lib.hid hV2
 obtain⟨K,hKe⟩:∃K,K=w.heap.size:=⟨_,rfl⟩
 obtain⟨W1,hW1⟩:∃W1,W1=w.alloc (.cells #[.slice A n c] 22):=⟨_,rfl⟩
 have hb1:Below w.heap.size w W1:=by rw[hW1];exact(Below.refl _ _).alloc (Nat.le_refl _) _
 have hc1:W1.cell? ⟨K,0,none⟩=some (.slice A n c):=by rw[hW1,hKe];exact(cell_of_row _ _ 0 _ _ (0,0) (heap_alloc_new w _)).trans rfl
 have hs1:w.heap.size<W1.heap.size:=by rw[hW1];simp
 have HB1:=Lib.hid hb1;have HC1:=Lib.hid hc1;have HS1:=Lib.hid hs1;have HW1:=Lib.hid hW1;have HKE:=Lib.hid hKe
 clear hr hE hV hV2 hmf hb1 hs1 hW1
 by_cases hbig:320<n
 ·have hni:(320:Int)<(n:Int):=by omega
  obtain rfl:E=4:=by rw[HE.out,if_pos hbig]
  obtain rfl:V=[]:=by rw[HV.out,if_neg (by omega)]
  clear HE HV hKe
  go_enter Tryz.func126,Tryz.ntmps126
  go_wp2_with (rw[←HW1.out,←HKE.out])
  go_ret2
  exact⟨none,0,0,rfl,RuR.nil _ _,HB1.out,fun _ _ e=>by cases e⟩
 have hni:¬(320:Int)<(n:Int):=by omega
 have he:=HE.out
 rw[if_neg hbig]at he
 have HE2:=Lib.hid he
 clear he HE hKe
 go_enter Tryz.func126,Tryz.ntmps126
 go_wp2_with (rw[←HW1.out,←HKE.out])
 go_loopw [17] (fun iv wr=>∃i:Nat,i≤n∧iv=.int .i64 (i:Int)∧Hid (∀j,j<i→f j≤15)∧W1=wr) (fun iv _=>n-(intOf iv).toNat)
 case atStart=>exact⟨0,Nat.zero_le _,rfl,Lib.hid (fun j hj=>by omega),rfl⟩
 case round=>
  obtain⟨i,hi,rfl,HK,rfl⟩:=hrel
  by_cases hlt:i<n
  ·have hlti:(i:Int)<(n:Int):=by omega
   obtain⟨b,o,rfl,hbw,hc⟩:=HR.out.2 (by omega)
   have c1:=(HB1.out.cell (p:=⟨b,o+i,none⟩) hbw).trans (hc i hlt)
   have hf8:=HR.out.1 i
   by_cases h15:15<f i
   ·obtain rfl:E=2:=by rw[HE2.out,if_neg (fun q=>by have:=q i hlt;omega)]
    obtain rfl:V=[]:=by rw[HV.out,if_neg (by omega)]
    obtain⟨x,hx⟩:∃x,x=f i:=⟨_,rfl⟩
    rw[←hx]at c1 h15 hf8
    have hxi:(15:Int)<(x:Int):=by omega
    clear hc hx hc1
    go_wp2
    go_ret2
    exact⟨none,0,0,rfl,RuR.nil _ _,HB1.out,fun _ _ e=>by cases e⟩
   ·have HK2:Hid (∀j,j<i+1→f j≤15):=Lib.hid fun j hj=>by
     rcases Nat.lt_or_ge j i with g|g
     ·exact HK.out j g
     ·have e:j=i:=by omega
      subst e;omega
    obtain⟨x,hx⟩:∃x,x=f i:=⟨_,rfl⟩
    rw[←hx]at c1 h15 hf8
    have hxi:¬(15:Int)<(x:Int):=by omega
    clear hc hx hc1
    go_wp2
    go_roundw
    case rel=>exact⟨i+1,by omega,by go_num,HK2,trivial⟩
    case measure=>simp[intOf];omega
  ·obtain rfl:i=n:=by omega
   have hlti:¬(i:Int)<(i:Int):=by omega
   obtain rfl:E=0:=by rw[HE2.out,if_pos HK.out]
   have hv:V=ofU f i 0:=by rw[HV.out,if_pos rfl]
   have HVV:=Lib.hid hv
   have H15:=HK
   have hmf:=HMF.out
   clear hv HE2 hlt hi
   go_wp2
   clear hmf
   go_loopw [7,8] (fun ov av wr=>∃(p a:Nat) (At:Option Addr) (ct:Nat) (pre:List (Int×Int)),a≤i∧p≤a∧ov=.slice At p ct∧av=.int .i64 (a:Int)∧Hid (pre++ofU f i a=ofU f i 0)∧Hid (wr.ownsRow W1.heap.size 208 2 (.slice At p ct) p (runsL pre))∧Hid (Below W1.heap.size W1 wr)) (fun _ av _=>i-(intOf av).toNat)
   case atStart=>exact⟨0,0,none,0,[],Nat.zero_le _,Nat.le_refl _,rfl,rfl,Lib.hid rfl,Lib.hid (World.ownsRow_nil _ _ _ _),Lib.hid (Below.refl _ _)⟩
   case round=>
    obtain⟨p,a,At,ct,pre,ha,hpa,rfl,rfl,HK,HO,HBV⟩:=hrel
    have HB:=Lib.hid (HB1.out.trans (HBV.out.mono HB1.out.size))
    have HKW:Hid (K<W1.heap.size):=Lib.hid (by rw[HKE.out];exact HS1.out)
    have HC:=Lib.hid ((HBV.out.cell (p:=⟨K,0,none⟩) HKW.out).trans HC1.out)
    by_cases hlt:a<i
    ·have hlti:(a:Int)<(i:Int):=by omega
     obtain⟨b,o,rfl,hbw,hc⟩:=HR.out.2 (by omega)
     have hcw:∀j,j<i→wr.cell? ⟨b,o+j,none⟩=some (.int .u8 (f j:Int)):=fun j hj=>(HB.out.cell (p:=⟨b,o+j,none⟩) hbw).trans (hc j hj)
     have c1:=hcw a hlt
     have hf8:=HR.out.1 a
     obtain⟨kn,hkn⟩:∃kn,kn=decide (prvU f a=some (f a)):=⟨_,rfl⟩
     have han:(a:Int)<(i:Int):=by omega
     have ha0:(0:Int)≤(a:Int):=by omega
     obtain⟨g1,g2,g3⟩:=ofU_cons (f:=f) hlt H15.out
     obtain⟨l1,l2⟩:=lds_le (f:=f) hlt
     have HCK:=Lib.hid hkn;have HCW:=Lib.hid hcw;have HG1:=Lib.hid g1
     have ck:=HC.out
     obtain⟨x,hx⟩:∃x,x=f a:=⟨_,rfl⟩
     rw[←hx]at c1 hf8
     have HX:=Lib.hid hx
     clear hc hcw hkn g1 hx
     go_wp2
     go_cut [9] (fun v9 wx=>v9=.bool kn∧∃q,wx=wr.drewN q)
     case first=>
      by_cases ha1:a=0
      ·have dz:decide (0<(a:Int))=false:=by simp;omega
       have dz':decide (0<a)=false:=by simp;omega
       obtain rfl:kn=false:=by rw[HCK.out];exact decN0 (fun q=>by unfold prvU at q;rw[if_pos ha1]at q;cases q)
       clear ha1
       go_quiet (fail)
       go_wp2
       go_meet
       exact⟨rfl,_,rfl⟩
      ·have dz:decide (0<(a:Int))=true:=by simp;omega
       have dz':decide (0<a)=true:=by simp;omega
       obtain⟨d,hd⟩:∃d,d=a-1:=⟨_,rfl⟩
       have ed:(a:Int)-1=(d:Int):=by omega
       have hdn:(d:Int)<(i:Int):=by omega
       have hd0:(0:Int)≤(d:Int):=by omega
       have c0:=HCW.out d (by omega)
       have hk2:=HCK.out
       unfold prvU at hk2
       rw[if_neg ha1,←hd,←HX.out]at hk2
       obtain⟨y,hy⟩:∃y,y=f d:=⟨_,rfl⟩
       rw[←hy]at c0 hk2
       have hee:((y:Int)==(x:Int))=kn:=by
        rw[hk2]
        by_cases e:y=x
        ·subst e;simp
        ·rw[decN0 (fun q=>e (by injection q))];simp;omega
       clear hk2 hy hd ha1
       go_quiet (fail)
       go_wp2
       go_meet
       exact⟨rfl,_,rfl⟩
     case rest=>
      obtain⟨rfl,q,rfl⟩:=hcut
      obtain⟨U,hU⟩:∃U,U=wr.drewN q:=⟨_,rfl⟩
      have hUB:Below w.heap.size w U:=hU▸below_drewN HB.out q
      have hUV:Below W1.heap.size W1 U:=hU▸below_drewN HBV.out q
      have hUO:U.ownsRow W1.heap.size 208 2 (.slice At p ct) p (runsL pre):=hU▸HO.out
      have uk:U.cell? ⟨K,0,none⟩=some (.slice (some ⟨b,o,none⟩) i c):=hU▸ck
      have u1:U.cell? ⟨b,o+a,none⟩=some (.int .u8 (x:Int)):=hU▸c1
      have hKU:K<U.heap.size:=by have:=World.block_lt_of_cell? U ⟨K,0,none⟩ uk;exact this
      have hbU:b<U.heap.size:=by have:=World.block_lt_of_cell? U ⟨b,o+a,none⟩ u1;exact this
      have hUR:RdB U w.heap.size (some ⟨b,o,none⟩) i f:=HR.out.below hUB (Nat.le_refl _)
      obtain⟨L,hL⟩:∃L,L=ldsU f i a:=⟨_,rfl⟩
      obtain⟨R,hRe⟩:∃R,R=fstU f i a:=⟨_,rfl⟩
      obtain⟨⟨rs,rx⟩,rk⟩:=R
      rw[←hL]at l1 l2
      rw[←hRe]at g2 g3
      have hRe2:fstR (prvU f a) x L=((rs,rx),rk):=by rw[HX.out,hL];exact hRe.symm
      have HCL:Hid (∀V,Below U.heap.size U V→Calls Tryz.prog 171 #[.int .i64 (a:Int),.pointer (some ⟨K,0,none⟩)] V fun e w'=>e=.returned (.int .i64 (L:Int))∧DrU V w'):=
       Lib.hid fun V hV=>by rw[hL];exact same10_any V K w.heap.size (some ⟨b,o,none⟩) i c f a ((hV.cell (p:=⟨K,0,none⟩) hKU).trans uk) (hUR.below (hV.mono hUB.size) (Nat.le_refl _)) hlt (by omega)
      have HNX:Hid (∀V:World,Calls Tryz.prog 172 #[.int .u8 (x:Int),.bool kn,.int .i64 (L:Int)] V fun e w'=>e=.returned (.tuple #[.agg #[.int .i64 rs,.int .i64 rx],.int .i64 (rk:Int)])∧Below V.heap.size V w'):=
       Lib.hid fun V=>by have h:=next10_any V (prvU f a) x L kn (by rw[HCK.out,HX.out]) (by have:=hf8;omega) l1 (by omega);rw[hRe2]at h;exact h
      have HG2:Hid (ofU f i a=(rs,rx)::ofU f i (a+rk)):=Lib.hid (by rw[HG1.out,←hRe])
      have HUB:=Lib.hid hUB;have HUV:=Lib.hid hUV;have HUO:=Lib.hid hUO;have HKU:=Lib.hid hKU;have HBU:=Lib.hid hbU
      rw[←hU]
      have hb5d:Below U.heap.size U U.drew:=(Below.refl _ _).drew
      have uka:(U.alloc (.cells #[.int .i64 0,.int .i64 0] 208)).drew.cell? ⟨K,0,none⟩=some (.slice (some ⟨b,o,none⟩) i c):=((((Below.refl U.heap.size U).alloc (Nat.le_refl _) (.cells #[.int .i64 0,.int .i64 0] 208)).cell (p:=⟨K,0,none⟩) hKU).trans uk)
      have u1a:(U.alloc (.cells #[.int .i64 0,.int .i64 0] 208)).drew.cell? ⟨b,o+a,none⟩=some (.int .u8 (x:Int)):=((((Below.refl U.heap.size U).alloc (Nat.le_refl _) (.cells #[.int .i64 0,.int .i64 0] 208)).cell (p:=⟨b,o+a,none⟩) hbU).trans u1)
      have ukd:U.drew.cell? ⟨K,0,none⟩=some (.slice (some ⟨b,o,none⟩) i c):=uk
      have u1d:U.drew.cell? ⟨b,o+a,none⟩=some (.int .u8 (x:Int)):=u1
      clear hU hUB hUV hUO hUR hL hRe hRe2 HCK HG1 HX c1 ck
      go_wp2_with fail
      go_cut [10,11] (fun v10 v11 wx=>v11=.int .i64 (rk:Int)∧∃X,v10=.pointer (some ⟨X,0,none⟩)∧BoxW wx X (.int .i64 rs) (.int .i64 rx)∧Below U.heap.size U wx)
      case first=>
       go_region_law (first
        |(refine step_call rfl 172 _ _ rfl (enters_of Tryz.func172 (by kernel_rfl) rfl) (#[.int .u8 (x:Int),.bool kn,.int .i64 (L:Int)]) (by simp[Act.put,Act.eval,List.setIfInBounds_toArray,List.set_cons_zero,List.set_cons_succ]) (HNX.out _) ?_;rintro e w7 ⟨rfl,hb7⟩;have hb07:Below U.heap.size U w7:=(by first|exact hb6.trans (hb7.mono hb6.size)|exact(hb6.alloc hb6.size _).trans (hb7.mono (hb6.alloc hb6.size _).size));(first|(have hz7:=hz6.below hb7 hz6.lt;obtain⟨z1,z2,z3,z4,z5⟩:=id hz7)|(have hz7:=(BoxW.new w6 _ _ _).below hb7 (BoxW.new w6 _ _ _).lt;obtain⟨z1,z2,z3,z4,z5⟩:=id hz7)|skip);refine⟨_,rfl,?_⟩)
        |(refine step_callv rfl 171 #[.pointer (some ⟨K,0,none⟩)] _ _ _ rfl (by simp[Act.put,Act.eval,List.setIfInBounds_toArray,List.set_cons_zero,List.set_cons_succ]) (enters_of Tryz.func171 (by kernel_rfl) rfl) (#[.int .i64 (a:Int),.pointer (some ⟨K,0,none⟩)]) (by simp[Act.put,Act.eval,List.setIfInBounds_toArray,List.set_cons_zero,List.set_cons_succ]) (HCL.out _ (by first|assumption|exact hb5d.alloc (Nat.le_refl _) _)) ?_;rintro e w6 ⟨rfl,hd6⟩;have hb6:Below U.heap.size U w6:=hd6.below (by first|assumption|exact hb5d.alloc (Nat.le_refl _) _);(first|(have hz6:=box_dru hd6;obtain⟨y1,y2,y3,y4,y5⟩:=id hz6)|skip);have k6:=(hb6.cell (p:=⟨K,0,none⟩) HKU.out).trans uk;have u6:=(hb6.cell (p:=⟨b,o+a,none⟩) HBU.out).trans u1;have k8:=((hb6.alloc hb6.size (.cells #[.int .i64 0,.int .i64 0] 208)).cell (p:=⟨K,0,none⟩) HKU.out).trans uk;have u8:=((hb6.alloc hb6.size (.cells #[.int .i64 0,.int .i64 0] 208)).cell (p:=⟨b,o+a,none⟩) HBU.out).trans u1;clear hd6;refine⟨_,rfl,?_⟩))
       all_goals(
        go_wp2_with fail
        go_meet
        first
         |exact⟨rfl,w7.heap.size,rfl,BoxW.new w7 _ _ _,hb07.alloc hb07.size _⟩
         |exact⟨rfl,w6.heap.size,rfl,hz7.set _ _,(hb07.setCell (p:=⟨w6.heap.size,0,none⟩) hb6.size _).setCell (p:=⟨w6.heap.size,1,none⟩) hb6.size _⟩
         |exact⟨rfl,U.heap.size,rfl,hz7.set _ _,(hb07.setCell (p:=⟨U.heap.size,0,none⟩) (Nat.le_refl _) _).setCell (p:=⟨U.heap.size,1,none⟩) (Nat.le_refl _) _⟩)
      case rest=>
       obtain⟨rfl,X,rfl,hbx,hbw2⟩:=hcut
       obtain⟨wx,rfl⟩:∃wx:World,wx=wc:=⟨_,rfl⟩
       have hV2:=HUV.out.trans (hbw2.mono HUV.out.size)
       obtain⟨A',c',w',hrun,hown,hb'⟩:=run_oneU wx W1.heap.size At p ct pre (own_keepU HUO.out hbw2) (rs,rx) (by omega) hV2.size
       have HRUN:=Lib.hid hrun;have HOWN:=Lib.hid hown;have HB':=Lib.hid (hV2.trans hb');have HRG:=Lib.hid (show wx.rangeAt X 0 [.int .i64 rs,.int .i64 rx]from runRange hbx.c0 hbx.c1)
       have HST:=Lib.hid (show(pre++[(rs,rx)])++ofU f i (a+rk)=ofU f i 0 by have hst:=HK.out;rw[HG2.out]at hst;rw[List.append_assoc];exact hst)
       have hq:p+1≤a+rk:=by omega
       clear hrun hown hb' hV2 hbx hbw2 uk u1 uka u1a ukd u1d hb5d
       obtain⟨q,hqe⟩:∃q,q=a+rk:=⟨_,rfl⟩
       have eq:(a:Int)+(rk:Int)=(q:Int):=by omega
       rw[←hqe]at g3 hq HST
       clear hqe
       go_wp2_with (first
        |(refine wpList_load_mid rfl _ _ rfl X 0 rfl [.int .i64 rs,.int .i64 rx] _ HRG.out Tryz.underlying208 rfl szRun ?_)
        |(at_builtin;refine wpList_append_run rfl (.tmp 55) (.tmp 57) 195 rfl (.slice At p ct) (.slice (some ⟨wx.heap.size,0,none⟩) 1 1) (.slice A' (p+1) c') w' rfl rfl HRUN.out ?_))
       go_roundw
       case rel=>exact⟨p+1,q,A',c',pre++[(rs,rx)],g3,hq,rfl,by go_num,HST,HOWN,HB'⟩
       case measure=>simp[intOf];omega
    ·obtain rfl:a=i:=by omega
     have hlti:¬(a:Int)<(a:Int):=by omega
     have hk:=HK.out
     have ck:=HC.out
     rw[ofU_end (Nat.le_refl _),List.append_nil,←HVV.out]at hk
     have hout:=RuR.of_own HO.out
     have HNEW:=Lib.hid (own_new HO.out)
     rw[hk]at hout
     have HOUT:=Lib.hid hout
     clear hout hk hlt
     go_wp2
     go_ret2
     exact⟨At,p,ct,rfl,HOUT.out,HB.out,fun b o e=>Nat.le_trans HB1.out.size (HNEW.out b o e)⟩
end Go.Proofs.YtgokdgcmkcmjeaaGreat
