/-
  Words and walks.
-/
import Derived.Deep.DeepCutAuto
import Derived.Deep.RegionWith
import Derived.BigRegion
import Derived.Test.YtokpcpjnihinfaaGreatpnac
import Derived.Test.YtokpcpjnihinfaaGreatpnaq
set_option maxRecDepth 100000
set_option maxHeartbeats 16000000
namespace Go.Proofs.YtokpcpjnihinfaaGreat
open Go.RowKit Go.ChangeShapes Go.WideShapes Go.ChangeAt Go.Joins
theorem runRange{w:World}{X:Nat}{s x:Int}(h0:w.cell? ⟨X,0,none⟩=some (.int .i64 s))(h1:w.cell? ⟨X,1,none⟩=some (.int .i64 x)):w.rangeAt X 0 (runC (s,x)):=by
 intro i v hv
 rcases i with _|_|i
 ·simp[runC]at hv;subst hv;exact h0
 ·simp[runC]at hv;subst hv;exact h1
 ·simp[runC]at hv
theorem box_dru{U w':World}{x y:Value}{t:TypeId}(h:DrU (U.alloc (.cells #[x,y] t)).drew w'):BoxW w' U.heap.size x y:=by
 obtain⟨k,rfl⟩:=h
 have h:=BoxW.new U x y t
 exact⟨h.lt,h.c0,h.c1,h.f0,h.f1⟩
theorem own_new{w:World}{base sz n c:Nat}{e:TypeId}{A:Option Addr}{xs:List Value}(h:w.ownsRow base e sz (.slice A n c) n xs):∀b o,A=some ⟨b,o,none⟩→base≤b:=fun b o hA=>by
 rcases h.2 with⟨hv,_⟩|⟨g,cap,cur,hv,hg,_⟩
 ·injection hv with h1;rw[hA]at h1;cases h1
 ·injection hv with h1;rw[hA]at h1;injection h1 with h1;injection h1 with h1;omega
theorem sq10_new(w:World)(A:Option Addr)(n c:Nat)(f:Nat→Nat)(hr:ByR w w.heap.size A n c f):
  Calls Tryz.prog 133 #[.slice A n c] w fun e w'=>∃A' n' c',e=.returned (.tuple #[.slice A' n' c',.int .i64 (sqE f n)])∧RuR w' w'.heap.size A' n' c' (sqV f n)∧Below w.heap.size w w'∧(∀b o,A'=some ⟨b,o,none⟩→w.heap.size≤b):=by
 replace hr:=hr.1
 have hmf:∀(fn:Fn) (first cap:Array Value) (w:World),(Instr.makeFunc fn first cap).run Tryz.prog w=.ok (.func fn first cap) w:=fun _ _ _ _=>rfl
 have HMF:=Lib.hid hmf
 obtain⟨E,hE⟩:∃E,E=sqE f n:=⟨_,rfl⟩
 obtain⟨V,hV⟩:∃V,V=sqV f n:=⟨_,rfl⟩
 have hV2:V=if E=0 then ofU f n 0 else[]:=by rw[hV,hE];rfl
 rw[←hE,←hV]
 unfold sqE at hE
 have HR:=Lib.hid hr;have HE:=Lib.hid hE;have HV:=Lib.hid hV2
 obtain⟨K,hKe⟩:∃K,K=w.heap.size:=⟨_,rfl⟩
 obtain⟨W1,hW1⟩:∃W1,W1=w.alloc (.cells #[.slice A n c] 22):=⟨_,rfl⟩
 have hb1:Below w.heap.size w W1:=by rw[hW1];exact(Below.refl _ _).alloc (Nat.le_refl _) _
 have hc1:W1.cell? ⟨K,0,none⟩=some (.slice A n c):=by rw[hW1,hKe];exact(cell_of_row _ _ 0 _ _ (0,0) (heap_alloc_new w _)).trans rfl
 have hs1:w.heap.size<W1.heap.size:=by rw[hW1];simp
 have HB1:=Lib.hid hb1;have HC1:=Lib.hid hc1;have HS1:=Lib.hid hs1;have HW1:=Lib.hid hW1;have HKE:=Lib.hid hKe
 clear hr hE hV hV2 hmf hb1 hs1 hW1
 by_cases hbig:320<n
 ·have hni:(320:Int)<(n:Int):=by omega
  obtain rfl:E=4:=by rw[HE.out,if_pos hbig]
  obtain rfl:V=[]:=by rw[HV.out,if_neg (by omega)]
  clear HE HV hKe
  go_enter Tryz.func133,Tryz.ntmps133
  go_wp2_with (rw[←HW1.out,←HKE.out])
  go_ret2
  exact⟨none,0,0,rfl,RuR.nil _ _,HB1.out,fun _ _ e=>by cases e⟩
 have hni:¬(320:Int)<(n:Int):=by omega
 have he:=HE.out
 rw[if_neg hbig]at he
 have HE2:=Lib.hid he
 clear he HE hKe
 go_enter Tryz.func133,Tryz.ntmps133
 go_wp2_with (rw[←HW1.out,←HKE.out])
 go_loopw [17] (fun iv wr=>∃i:Nat,i≤n∧iv=.int .i64 (i:Int)∧Hid (∀j,j<i→f j≤15)∧W1=wr) (fun iv _=>n-(intOf iv).toNat)
 case atStart=>exact⟨0,Nat.zero_le _,rfl,Lib.hid (fun j hj=>by omega),rfl⟩
 case round=>
  obtain⟨i,hi,rfl,HK,rfl⟩:=hrel
  by_cases hlt:i<n
  ·have hlti:(i:Int)<(n:Int):=by omega
   obtain⟨b,o,rfl,hbw,hc⟩:=HR.out.2 (by omega)
   have c1:=(HB1.out.cell (p:=⟨b,o+i,none⟩) hbw).trans (hc i hlt)
   have hf8:=HR.out.1 i
   by_cases h15:15<f i
   ·obtain rfl:E=2:=by rw[HE2.out,if_neg (fun q=>by have:=q i hlt;omega)]
    obtain rfl:V=[]:=by rw[HV.out,if_neg (by omega)]
    obtain⟨x,hx⟩:∃x,x=f i:=⟨_,rfl⟩
    rw[←hx]at c1 h15 hf8
    have hxi:(15:Int)<(x:Int):=by omega
    clear hc hx hc1
    go_wp2
    go_ret2
    exact⟨none,0,0,rfl,RuR.nil _ _,HB1.out,fun _ _ e=>by cases e⟩
   ·have HK2:Hid (∀j,j<i+1→f j≤15):=Lib.hid fun j hj=>by
     rcases Nat.lt_or_ge j i with g|g
     ·exact HK.out j g
     ·have e:j=i:=by omega
      subst e;omega
    obtain⟨x,hx⟩:∃x,x=f i:=⟨_,rfl⟩
    rw[←hx]at c1 h15 hf8
    have hxi:¬(15:Int)<(x:Int):=by omega
    clear hc hx hc1
    go_wp2
    go_roundw
    case rel=>exact⟨i+1,by omega,by go_num,HK2,trivial⟩
    case measure=>simp[intOf];omega
  ·obtain rfl:i=n:=by omega
   have hlti:¬(i:Int)<(i:Int):=by omega
   obtain rfl:E=0:=by rw[HE2.out,if_pos HK.out]
   have hv:V=ofU f i 0:=by rw[HV.out,if_pos rfl]
   have HVV:=Lib.hid hv
   have H15:=HK
   have hmf:=HMF.out
   clear hv HE2 hlt hi
   go_wp2
   clear hmf
   go_loopw [7,8] (fun ov av wr=>∃(p a:Nat) (At:Option Addr) (ct:Nat) (pre:List (Int×Int)),a≤i∧p≤a∧ov=.slice At p ct∧av=.int .i64 (a:Int)∧Hid (pre++ofU f i a=ofU f i 0)∧Hid (wr.ownsRow W1.heap.size 192 2 (.slice At p ct) p (runsL pre))∧Hid (Below W1.heap.size W1 wr)) (fun _ av _=>i-(intOf av).toNat)
   case atStart=>exact⟨0,0,none,0,[],Nat.zero_le _,Nat.le_refl _,rfl,rfl,Lib.hid rfl,Lib.hid (World.ownsRow_nil _ _ _ _),Lib.hid (Below.refl _ _)⟩
   case round=>
    obtain⟨p,a,At,ct,pre,ha,hpa,rfl,rfl,HK,HO,HBV⟩:=hrel
    have HB:=Lib.hid (HB1.out.trans (HBV.out.mono HB1.out.size))
    have HKW:Hid (K<W1.heap.size):=Lib.hid (by rw[HKE.out];exact HS1.out)
    have HC:=Lib.hid ((HBV.out.cell (p:=⟨K,0,none⟩) HKW.out).trans HC1.out)
    by_cases hlt:a<i
    ·have hlti:(a:Int)<(i:Int):=by omega
     obtain⟨b,o,rfl,hbw,hc⟩:=HR.out.2 (by omega)
     have hcw:∀j,j<i→wr.cell? ⟨b,o+j,none⟩=some (.int .u8 (f j:Int)):=fun j hj=>(HB.out.cell (p:=⟨b,o+j,none⟩) hbw).trans (hc j hj)
     have c1:=hcw a hlt
     have hf8:=HR.out.1 a
     obtain⟨kn,hkn⟩:∃kn,kn=decide (prvU f a=some (f a)):=⟨_,rfl⟩
     have han:(a:Int)<(i:Int):=by omega
     have ha0:(0:Int)≤(a:Int):=by omega
     obtain⟨g1,g2,g3⟩:=ofU_cons (f:=f) hlt H15.out
     obtain⟨l1,l2⟩:=lds_le (f:=f) hlt
     have HCK:=Lib.hid hkn;have HCW:=Lib.hid hcw;have HG1:=Lib.hid g1
     have ck:=HC.out
     obtain⟨x,hx⟩:∃x,x=f a:=⟨_,rfl⟩
     rw[←hx]at c1 hf8
     have HX:=Lib.hid hx
     clear hc hcw hkn g1 hx
     go_wp2
     go_cut [9] (fun v9 wx=>v9=.bool kn∧∃q,wx=wr.drewN q)
     case first=>
      by_cases ha1:a=0
      ·have dz:decide (0<(a:Int))=false:=by simp;omega
       have dz':decide (0<a)=false:=by simp;omega
       obtain rfl:kn=false:=by rw[HCK.out];exact decN0 (fun q=>by unfold prvU at q;rw[if_pos ha1]at q;cases q)
       clear ha1
       go_quiet (fail)
       go_wp2
       go_meet
       exact⟨rfl,_,rfl⟩
      ·have dz:decide (0<(a:Int))=true:=by simp;omega
       have dz':decide (0<a)=true:=by simp;omega
       obtain⟨d,hd⟩:∃d,d=a-1:=⟨_,rfl⟩
       have ed:(a:Int)-1=(d:Int):=by omega
       have hdn:(d:Int)<(i:Int):=by omega
       have hd0:(0:Int)≤(d:Int):=by omega
       have c0:=HCW.out d (by omega)
       have hk2:=HCK.out
       unfold prvU at hk2
       rw[if_neg ha1,←hd,←HX.out]at hk2
       obtain⟨y,hy⟩:∃y,y=f d:=⟨_,rfl⟩
       rw[←hy]at c0 hk2
       have hee:((y:Int)==(x:Int))=kn:=by
        rw[hk2]
        by_cases e:y=x
        ·subst e;simp
        ·rw[decN0 (fun q=>e (by injection q))];simp;omega
       clear hk2 hy hd ha1
       go_quiet (fail)
       go_wp2
       go_meet
       exact⟨rfl,_,rfl⟩
     case rest=>
      obtain⟨rfl,q,rfl⟩:=hcut
      obtain⟨U,hU⟩:∃U,U=wr.drewN q:=⟨_,rfl⟩
      have hUB:Below w.heap.size w U:=hU▸below_drewN HB.out q
      have hUV:Below W1.heap.size W1 U:=hU▸below_drewN HBV.out q
      have hUO:U.ownsRow W1.heap.size 192 2 (.slice At p ct) p (runsL pre):=hU▸HO.out
      have uk:U.cell? ⟨K,0,none⟩=some (.slice (some ⟨b,o,none⟩) i c):=hU▸ck
      have u1:U.cell? ⟨b,o+a,none⟩=some (.int .u8 (x:Int)):=hU▸c1
      have hKU:K<U.heap.size:=by have:=World.block_lt_of_cell? U ⟨K,0,none⟩ uk;exact this
      have hbU:b<U.heap.size:=by have:=World.block_lt_of_cell? U ⟨b,o+a,none⟩ u1;exact this
      have hUR:RdB U w.heap.size (some ⟨b,o,none⟩) i f:=HR.out.below hUB (Nat.le_refl _)
      obtain⟨L,hL⟩:∃L,L=ldsU f i a:=⟨_,rfl⟩
      obtain⟨R,hRe⟩:∃R,R=fstU f i a:=⟨_,rfl⟩
      obtain⟨⟨rs,rx⟩,rk⟩:=R
      rw[←hL]at l1 l2
      rw[←hRe]at g2 g3
      have hRe2:fstR (prvU f a) x L=((rs,rx),rk):=by rw[HX.out,hL];exact hRe.symm
      have HCL:Hid (∀V,Below U.heap.size U V→Calls Tryz.prog 157 #[.int .i64 (a:Int),.pointer (some ⟨K,0,none⟩)] V fun e w'=>e=.returned (.int .i64 (L:Int))∧DrU V w'):=
       Lib.hid fun V hV=>by rw[hL];exact same10_any V K w.heap.size (some ⟨b,o,none⟩) i c f a ((hV.cell (p:=⟨K,0,none⟩) hKU).trans uk) (hUR.below (hV.mono hUB.size) (Nat.le_refl _)) hlt (by omega)
      have HNX:Hid (∀V:World,Calls Tryz.prog 158 #[.int .u8 (x:Int),.bool kn,.int .i64 (L:Int)] V fun e w'=>e=.returned (.tuple #[.agg #[.int .i64 rs,.int .i64 rx],.int .i64 (rk:Int)])∧Below V.heap.size V w'):=
       Lib.hid fun V=>by have h:=next10_any V (prvU f a) x L kn (by rw[HCK.out,HX.out]) (by have:=hf8;omega) l1 (by omega);rw[hRe2]at h;exact h
      have HG2:Hid (ofU f i a=(rs,rx)::ofU f i (a+rk)):=Lib.hid (by rw[HG1.out,←hRe])
      have HUB:=Lib.hid hUB;have HUV:=Lib.hid hUV;have HUO:=Lib.hid hUO;have HKU:=Lib.hid hKU;have HBU:=Lib.hid hbU
      rw[←hU]
      have hb5d:Below U.heap.size U U.drew:=(Below.refl _ _).drew
      have uka:(U.alloc (.cells #[.int .i64 0,.int .i64 0] 192)).drew.cell? ⟨K,0,none⟩=some (.slice (some ⟨b,o,none⟩) i c):=((((Below.refl U.heap.size U).alloc (Nat.le_refl _) (.cells #[.int .i64 0,.int .i64 0] 192)).cell (p:=⟨K,0,none⟩) hKU).trans uk)
      have u1a:(U.alloc (.cells #[.int .i64 0,.int .i64 0] 192)).drew.cell? ⟨b,o+a,none⟩=some (.int .u8 (x:Int)):=((((Below.refl U.heap.size U).alloc (Nat.le_refl _) (.cells #[.int .i64 0,.int .i64 0] 192)).cell (p:=⟨b,o+a,none⟩) hbU).trans u1)
      have ukd:U.drew.cell? ⟨K,0,none⟩=some (.slice (some ⟨b,o,none⟩) i c):=uk
      have u1d:U.drew.cell? ⟨b,o+a,none⟩=some (.int .u8 (x:Int)):=u1
      clear hU hUB hUV hUO hUR hL hRe hRe2 HCK HG1 HX c1 ck
      go_wp2_with fail
      go_cut [10,11] (fun v10 v11 wx=>v11=.int .i64 (rk:Int)∧∃X,v10=.pointer (some ⟨X,0,none⟩)∧BoxW wx X (.int .i64 rs) (.int .i64 rx)∧Below U.heap.size U wx)
      case first=>
       go_region_law (first
        |(refine step_call rfl 158 _ _ rfl (enters_of Tryz.func158 (by kernel_rfl) rfl) (#[.int .u8 (x:Int),.bool kn,.int .i64 (L:Int)]) (by simp[Act.put,Act.eval,List.setIfInBounds_toArray,List.set_cons_zero,List.set_cons_succ]) (HNX.out _) ?_;rintro e w7 ⟨rfl,hb7⟩;have hb07:Below U.heap.size U w7:=(by first|exact hb6.trans (hb7.mono hb6.size)|exact(hb6.alloc hb6.size _).trans (hb7.mono (hb6.alloc hb6.size _).size));(first|(have hz7:=hz6.below hb7 hz6.lt;obtain⟨z1,z2,z3,z4,z5⟩:=id hz7)|(have hz7:=(BoxW.new w6 _ _ _).below hb7 (BoxW.new w6 _ _ _).lt;obtain⟨z1,z2,z3,z4,z5⟩:=id hz7)|skip);refine⟨_,rfl,?_⟩)
        |(refine step_callv rfl 157 #[.pointer (some ⟨K,0,none⟩)] _ _ _ rfl (by simp[Act.put,Act.eval,List.setIfInBounds_toArray,List.set_cons_zero,List.set_cons_succ]) (enters_of Tryz.func157 (by kernel_rfl) rfl) (#[.int .i64 (a:Int),.pointer (some ⟨K,0,none⟩)]) (by simp[Act.put,Act.eval,List.setIfInBounds_toArray,List.set_cons_zero,List.set_cons_succ]) (HCL.out _ (by first|assumption|exact hb5d.alloc (Nat.le_refl _) _)) ?_;rintro e w6 ⟨rfl,hd6⟩;have hb6:Below U.heap.size U w6:=hd6.below (by first|assumption|exact hb5d.alloc (Nat.le_refl _) _);(first|(have hz6:=box_dru hd6;obtain⟨y1,y2,y3,y4,y5⟩:=id hz6)|skip);have k6:=(hb6.cell (p:=⟨K,0,none⟩) HKU.out).trans uk;have u6:=(hb6.cell (p:=⟨b,o+a,none⟩) HBU.out).trans u1;have k8:=((hb6.alloc hb6.size (.cells #[.int .i64 0,.int .i64 0] 192)).cell (p:=⟨K,0,none⟩) HKU.out).trans uk;have u8:=((hb6.alloc hb6.size (.cells #[.int .i64 0,.int .i64 0] 192)).cell (p:=⟨b,o+a,none⟩) HBU.out).trans u1;clear hd6;refine⟨_,rfl,?_⟩))
       all_goals(
        go_wp2_with fail
        go_meet
        first
         |exact⟨rfl,w7.heap.size,rfl,BoxW.new w7 _ _ _,hb07.alloc hb07.size _⟩
         |exact⟨rfl,w6.heap.size,rfl,hz7.set _ _,(hb07.setCell (p:=⟨w6.heap.size,0,none⟩) hb6.size _).setCell (p:=⟨w6.heap.size,1,none⟩) hb6.size _⟩
         |exact⟨rfl,U.heap.size,rfl,hz7.set _ _,(hb07.setCell (p:=⟨U.heap.size,0,none⟩) (Nat.le_refl _) _).setCell (p:=⟨U.heap.size,1,none⟩) (Nat.le_refl _) _⟩)
      case rest=>
       obtain⟨rfl,X,rfl,hbx,hbw2⟩:=hcut
       obtain⟨wx,rfl⟩:∃wx:World,wx=wc:=⟨_,rfl⟩
       have hV2:=HUV.out.trans (hbw2.mono HUV.out.size)
       obtain⟨A',c',w',hrun,hown,hb'⟩:=run_oneU wx W1.heap.size At p ct pre (own_keepU HUO.out hbw2) (rs,rx) (by omega) hV2.size
       have HRUN:=Lib.hid hrun;have HOWN:=Lib.hid hown;have HB':=Lib.hid (hV2.trans hb');have HRG:=Lib.hid (show wx.rangeAt X 0 [.int .i64 rs,.int .i64 rx]from runRange hbx.c0 hbx.c1)
       have HST:=Lib.hid (show(pre++[(rs,rx)])++ofU f i (a+rk)=ofU f i 0 by have hst:=HK.out;rw[HG2.out]at hst;rw[List.append_assoc];exact hst)
       have hq:p+1≤a+rk:=by omega
       clear hrun hown hb' hV2 hbx hbw2 uk u1 uka u1a ukd u1d hb5d
       obtain⟨q,hqe⟩:∃q,q=a+rk:=⟨_,rfl⟩
       have eq:(a:Int)+(rk:Int)=(q:Int):=by omega
       rw[←hqe]at g3 hq HST
       clear hqe
       go_wp2_with (first
        |(refine wpList_load_mid rfl _ _ rfl X 0 rfl [.int .i64 rs,.int .i64 rx] _ HRG.out Tryz.underlying192 rfl szRun ?_)
        |(at_builtin;refine wpList_append_run rfl (.tmp 55) (.tmp 57) 189 rfl (.slice At p ct) (.slice (some ⟨wx.heap.size,0,none⟩) 1 1) (.slice A' (p+1) c') w' rfl rfl HRUN.out ?_))
       go_roundw
       case rel=>exact⟨p+1,q,A',c',pre++[(rs,rx)],g3,hq,rfl,by go_num,HST,HOWN,HB'⟩
       case measure=>simp[intOf];omega
    ·obtain rfl:a=i:=by omega
     have hlti:¬(a:Int)<(a:Int):=by omega
     have hk:=HK.out
     have ck:=HC.out
     rw[ofU_end (Nat.le_refl _),List.append_nil,←HVV.out]at hk
     have hout:=RuR.of_own HO.out
     have HNEW:=Lib.hid (own_new HO.out)
     rw[hk]at hout
     have HOUT:=Lib.hid hout
     clear hout hk hlt
     go_wp2
     go_ret2
     exact⟨At,p,ct,rfl,HOUT.out,HB.out,fun b o e=>Nat.le_trans HB1.out.size (HNEW.out b o e)⟩
end Go.Proofs.YtokpcpjnihinfaaGreat
namespace Go.Proofs.YtokpcpjnihinfaaGreat
open Go.RowKit Go.ChangeShapes Go.WideShapes Go.ChangeAt Go.Joins
theorem bits10_any(w:World)(s:Int):Calls Tryz.prog 160 #[.int .i64 s] w fun e w'=>e=.returned (.tuple #[.int .i64 (bitV s),.int .i64 (bitE s)])∧Below w.heap.size w w':=
 (lbits10_any w s).mono fun _ _ ⟨a,b⟩=>⟨a,b▸Below.refl _ _⟩
end Go.Proofs.YtokpcpjnihinfaaGreat
namespace Go.Proofs.YtokpcpjnihinfaaGreat
open Go.RowKit Go.ChangeShapes Go.WideShapes Go.ChangeAt Go.Joins
theorem quiet_callm{C:World→Prop}{K:Act→Prop}{a:Act}{o:Oper}(f:FuncId)(r:Value)(x:Operand)(xs:Array Operand)(ts:Array TypeId)(ho:o.op=.call {callee:=.value x,args:=xs,argTypes:=ts})(d:Option Tmp)(hd:o.dst=d)(hv:a.eval x=.func (.func f) #[r] #[])
  (eg:∀args w,(callFunc f args).run Tryz.prog w=.ok (.enter f args) w) (args:Array Value) (hx:#[r]++xs.map a.eval=args) (v:Value) (hc:∀w,C w→Calls Tryz.prog f args w fun e w'=>e=.returned v∧C w') (hk:K (a.put d v)):o.quiet Tryz.prog a C K:=by
 subst hd
 have hall:∀(ρ:Operand→Value) (w:World),ρ x=.func (.func f) #[r] #[]→#[r]++xs.map ρ=args→(execOp ρ o).run Tryz.prog w=.ok (.enter f args) w:=by
  intro ρ w h1 h2
  simp[execOp,ho,resolve,invoke,h1,h2,go_sem,eg,Deferred.ofValue]
 exact⟨v,fun w hw=>by unfold Oper.quietAt;rw[hall _ w hv hx];exact⟨rfl,hc w hw⟩,hk⟩
theorem RowC.kept{S:Nat→Prop}{w w':World}{g n:Nat}{x l:Nat→Nat}(h:RowC w g n x l)(hk:KpB S w w')(hS:S g):RowC w' g n x l:=by
 obtain⟨cur,h1,h2⟩:=h;exact⟨cur,(hk g hS).trans h1,h2⟩
theorem RdU.rangeS{S:Nat→Prop}{w w':World}{B:Nat}{A:Option Addr}{l:List (Int×Int)}(h:RdU w B A l)(hk:KpB S w w'){b o:Nat}(hA:A=some ⟨b,o,none⟩)(hS:S b){j:Nat}(hj:j<l.length):w'.rangeAt b (o+j*2) (runC (l.getD j run0)):=
 fun i v hv=>(hk.cell (p:=⟨b,o+j*2+i,none⟩) hS).trans (h.range hA hj i v hv)
theorem runs11_any(w:World)(S:Nat→Prop)(B g:Nat)(f:Nat→Nat)(K:Nat)(A2:Option Addr)(m c2:Nat)(l:List (Int×Int))(F:Nat→Nat)(gk ck:Nat)(h:RowAt w S B g f K)(hm:m=l.length)(hr:RdU w w.heap.size A2 l)(hS:InS S A2 m)(hm2:m≤1000)
  (hrc:RowC w gk 19 (codeB F 19) F) (hSk:S gk) (hF:checkE F 19 15=0) (hl:∀r∈l,0≤r.1∧r.1≤18∧0≤r.2∧FitN (r.2.toNat,(bitV r.1).toNat)) (hk:K+bitsT (l.flatMap (runP F))≤16000000):
  Calls Tryz.prog 136 #[.pointer (some ⟨g,0,none⟩),.slice A2 m c2,.func (.func 86) #[.slice (some ⟨gk,0,none⟩) 19 ck] #[]] w fun e w'=>e=.returned (.tuple #[])∧RowAt w' S B g (putsF f K (l.flatMap (runP F))) (K+bitsT (l.flatMap (runP F)))∧KpB S w w'∧Below B w w':=by
 have H:=Lib.hid h;have HM:=Lib.hid hm;have HR:=Lib.hid hr;have HS:=Lib.hid hS;have HRC:=Lib.hid hrc;have HSK:=Lib.hid hSk;have HF:=Lib.hid hF;have HL:=Lib.hid hl;have HK:=Lib.hid hk
 clear h hm hr hS hrc hSk hF hl hk
 go_enter Tryz.func136,Tryz.ntmps136
 go_wp2_with fail
 go_loopw [12] (fun iv wr=>∃i:Nat,i≤m∧iv=.int .i64 (i:Int)∧Hid (RowAt wr S B g (putsF f K ((l.take i).flatMap (runP F))) (K+bitsT ((l.take i).flatMap (runP F))))∧Hid (KpB S w wr)∧Hid (Below B w wr)) (fun iv _=>m-(intOf iv).toNat)
 case atStart=>exact⟨0,Nat.zero_le _,rfl,Lib.hid H.out,Lib.hid (KpB.refl _ _),Lib.hid (Below.refl _ _)⟩
 case round=>
  obtain⟨i,hi,rfl,HRA,HKP,HB⟩:=hrel
  by_cases hlt:i<m
  ·have hlti:(i:Int)<(m:Int):=by omega
   have hil:i<l.length:=by rw[←HM.out];exact hlt
   obtain⟨b,o,rfl,hbl,hc⟩:=HR.out.at hil
   have hSb:S b:=HS.out b o (by omega) rfl
   have hrg:=HR.out.rangeS HKP.out rfl hSb hil
   obtain⟨s0,s18,x0,hfit⟩:=HL.out _ (run_mem hil)
   have hstep:=runP_take (F:=F) hil
   have hle:bitsT ((l.take (i+1)).flatMap (runP F))≤bitsT (l.flatMap (runP F)):=by
    have e:l.flatMap (runP F)=(l.take (i+1)).flatMap (runP F)++(l.drop (i+1)).flatMap (runP F):=by rw[←List.flatMap_append,List.take_append_drop]
    rw[e,bitsT_app];omega
   obtain⟨⟨s,x⟩,ht⟩:∃t,t=l.getD i run0:=⟨_,rfl⟩
   rw[←ht]at hrg s0 s18 x0 hfit hstep
   dsimp only at s0 s18 x0 hfit
   obtain⟨q,rfl⟩:=Int.eq_ofNat_of_zero_le s0
   obtain⟨y,rfl⟩:=Int.eq_ofNat_of_zero_le x0
   have hbv:bitV ((q:Nat):Int)=((bitsR (q:Int):Nat):Int):=by unfold bitV;rw[if_pos (by omega)]
   obtain⟨bb,hbb⟩:∃b,b=bitsR (q:Int):=⟨_,rfl⟩
   rw[←hbb]at hbv
   have hb7:bb≤7:=by rw[hbb];exact bitsR_le' _
   rw[hbv,Int.toNat_natCast,Int.toNat_natCast]at hfit
   have hy:y<128:=by
    have:=hfit.1
    have e:(2:Nat)^bb≤2^7:=Nat.pow_le_pow_right (by omega) hb7
    have e2:(2:Nat)^7=128:=rfl
    dsimp only at this;omega
   have hrp:runP F ((q:Int),(y:Int))=[codP F 19 q,(y,bb)]:=by unfold runP;rw[hbv,Int.toNat_natCast,Int.toNat_natCast,Int.toNat_natCast]
   rw[hrp]at hstep
   obtain⟨⟨Z,Y⟩,hZY⟩:∃t,t=codP F 19 q:=⟨_,rfl⟩
   obtain⟨G,hG⟩:∃G,G=putsF f K ((l.take i).flatMap (runP F)):=⟨_,rfl⟩
   obtain⟨k,hkk⟩:∃k,k=K+bitsT ((l.take i).flatMap (runP F)):=⟨_,rfl⟩
   have hra:=HRA.out
   rw[←hG,←hkk]at hra
   obtain⟨W3,hW3⟩:∃W3,W3=mkV wr #[.int .i64 0,.int .i64 0] #[.int .i64 (q:Int),.int .i64 (y:Int)] 192:=⟨_,rfl⟩
   have hb3:Below wr.heap.size wr W3:=by rw[hW3];exact mkV_below _ _ _ _
   have hrow:W3.heap[wr.heap.size]?=some (.cells #[.int .i64 (q:Int),.int .i64 (y:Int)] 192 (0,0)):=by rw[hW3];exact mkV_row wr _ _ _
   have hs3:wr.heap.size<W3.heap.size:=(Array.getElem?_eq_some_iff.1 hrow).1
   have y0:W3.cell? ⟨wr.heap.size,0,none⟩=some (.int .i64 (q:Int)):=(cell_of_row W3 _ 0 _ _ (0,0) hrow).trans rfl
   have y1:W3.cell? ⟨wr.heap.size,1,none⟩=some (.int .i64 (y:Int)):=(cell_of_row W3 _ 1 _ _ (0,0) hrow).trans rfl
   have hbt:=fun V:World=>bits10_any V ((q:Nat):Int)
   rw[hbv]at hbt
   have hZfit:FitN (Z,Y):=by
    obtain⟨h1,h2⟩:=code_fits HF.out (show q<19 by omega)
    rw[hZY]
    exact⟨turnN_lt _ _,by show F q≤16;omega⟩
   have hkeq:k+bitsT [(Z,Y),(y,bb)]=K+bitsT ((l.take (i+1)).flatMap (runP F)):=by rw[hstep,bitsT_app,hkk,hZY];omega
   have hGeq:putsF G k [(Z,Y),(y,bb)]=putsF f K ((l.take (i+1)).flatMap (runP F)):=by rw[hstep,putsF_app,hG,hkk,hZY]
   have hkb:k+bitsT [(Z,Y),(y,bb)]≤16000000:=by have:=HK.out;omega
   have hrcW:=HRC.out.kept HKP.out HSK.out
   have hgk:gk<wr.heap.size:=hrcW.lt
   have hkS:=hra.top
   have HRA2:=Lib.hid (hra.after hb3);have HKP3:=Lib.hid (HKP.out.tr (KpB.below hkS hb3));have HB3:=Lib.hid (HB.out.trans (hb3.mono hra.size));have HRC3:=Lib.hid (hrcW.below hb3 hgk);have HW3:=Lib.hid hW3;have HRG:=Lib.hid (show wr.rangeAt b (o+i*2) [.int .i64 (q:Int),.int .i64 (y:Int)]from hrg)
   have HBT:=Lib.hid hbt;have HZF:=Lib.hid hZfit;have HKE:=Lib.hid hkeq;have HGE:=Lib.hid hGeq;have HZY:=Lib.hid hZY;have HFT:=Lib.hid hfit
   have hq19:q<19:=by omega
   have hbi:(bb:Int)≤7:=by omega
   clear hrg hb3 hrow hW3 hbt hZfit hkeq hGeq hZY hfit hra hrcW hkS hstep hle ht hc hbl hSb s0 s18 x0 hbv hbb hrp hG hkk HRA
   go_wp2_with (first
    |refine wpList_load_mid rfl _ _ rfl b (o+i*2) rfl [.int .i64 (q:Int),.int .i64 (y:Int)] _ HRG.out Tryz.underlying192 rfl szRun ?_
    |(refine wpList_store_rowTo rfl _ _ _ rfl rfl wr.heap.size #[.int .i64 (q:Int),.int .i64 (y:Int)] rfl rfl 192 #[.int .i64 0,.int .i64 0] (heap_alloc_new wr _) szRun rfl (by simp[Value.oneCell']) ?_;change wpList _ _ _ _ _ (mkV wr #[.int .i64 0,.int .i64 0] #[.int .i64 (q:Int),.int .i64 (y:Int)] 192);rw[←HW3.out])
    |fail)
   refine(HBT.out W3).mono ?_
   rintro e w4 ⟨rfl,hb4⟩
   have hs4:wr.heap.size<w4.heap.size:=by have:=hb4.size;omega
   have x0:∀p:After w4.heap.size w4,p.w.cell? ⟨wr.heap.size,0,none⟩=some (.int .i64 (q:Int)):=fun p=>(p.h.cell (p:=⟨wr.heap.size,0,none⟩) hs4).trans ((hb4.cell (p:=⟨wr.heap.size,0,none⟩) hs3).trans y0)
   have x1:∀p:After w4.heap.size w4,p.w.cell? ⟨wr.heap.size,1,none⟩=some (.int .i64 (y:Int)):=fun p=>(p.h.cell (p:=⟨wr.heap.size,1,none⟩) hs4).trans ((hb4.cell (p:=⟨wr.heap.size,1,none⟩) hs3).trans y1)
   have hrc4:=HRC3.out.below hb4 HRC3.out.lt
   have T1:Hid (∀V,Below w4.heap.size w4 V→Calls Tryz.prog 86 #[.slice (some ⟨gk,0,none⟩) 19 ck,.int .i64 (q:Int)] V fun e w'=>e=.returned (.agg #[.int .u32 (Z:Int),.int .i64 (Y:Int)])∧Below w4.heap.size w4 w'):=Lib.hid fun V hV=>by
    have h1:=of11_any V gk 19 ck F q (hrc4.below hV hrc4.lt) HF.out hq19 (by omega)
    rw[←HZY.out]at h1
    exact h1.mono fun _ _ ⟨e,b⟩=>⟨e,hV.trans (b.mono hV.size)⟩
   have HRA4:=Lib.hid (HRA2.out.after hb4);have HKP4:=Lib.hid (HKP3.out.tr (KpB.below HRA2.out.top hb4));have HB4:=Lib.hid (HB3.out.trans (hb4.mono HRA2.out.size))
   clear hb4 y0 y1 hs3 hrc4 HRA2 HKP3 HB3 HRC3
   go_wp2
   refine wp_split_after1 9 w4.heap.size w4 (Below.refl _ _) (by kernel_rfl) (by kernel_rfl) (.tmp 0) (.pointer (some ⟨g,0,none⟩)) rfl (some 22) rfl rfl rfl rfl (by kernel_rfl) (fun _ _ _ h=>h) ?_
   simp only[List.take_succ_cons,List.take_zero,List.drop_succ_cons,List.drop_zero,Act.put,List.setIfInBounds_toArray,List.set_cons_zero,List.set_cons_succ]
   repeat (first
    |(go_big_quiet_want;refine quiet_build 169 #[(0,.tmp 29),(1,.tmp 30)] rfl (some 31) rfl #[.int .u32 (y:Int),.int .i64 (bb:Int)] (by simpa[Act.eval]using built_numP (y:Int) (bb:Int)) ?_;go_big_quiet_on;simp only[Act.put,List.setIfInBounds_toArray,List.set_cons_zero,List.set_cons_succ])
    |(go_big_quiet_want;refine quiet_callm 86 (.slice (some ⟨gk,0,none⟩) 19 ck) (.tmp 23) #[.tmp 25] #[3] rfl (some 26) rfl (by simp[Act.eval]) (enters_of Tryz.func86 (by kernel_rfl) rfl) #[.slice (some ⟨gk,0,none⟩) 19 ck,.int .i64 (q:Int)] (by simp[Act.eval]) (.agg #[.int .u32 (Z:Int),.int .i64 (Y:Int)]) (fun V ⟨p,hp⟩=>by rw[hp];exact call_after T1.out p) ?_;go_big_quiet_on;simp only[Act.put,List.setIfInBounds_toArray,List.set_cons_zero,List.set_cons_succ])
    |(go_big_quiet_step (fail)))
   refine wpQuiet_nil ?_
   rintro V ⟨⟨V,hV⟩,rfl⟩
   have hrv:=HRA4.out.after hV
   have hput:=put_lit V S B g G k [(Z,Y),(y,bb)] 2 rfl #[.int .u32 (Z:Int),.int .i64 (Y:Int),.int .u32 (y:Int),.int .i64 (bb:Int)] rfl hrv (by omega) (fun z hz=>by
    simp only[List.mem_cons,List.not_mem_nil,or_false]at hz
    rcases hz with rfl|rfl
    ·exact HZF.out
    ·exact HFT.out) hkb
   rw[HKE.out,HGE.out]at hput
   have HPUT:=Lib.hid hput;have HKPV:=Lib.hid (HKP4.out.tr (KpB.below HRA4.out.top hV));have HBV:=Lib.hid (HB4.out.trans (hV.mono HRA4.out.size))
   clear hput hrv hV x0 x1 T1
   go_wp2_with fail
   refine HPUT.out.mono ?_
   rintro e w5 ⟨rfl,h1,h2,h3⟩
   have H1:=Lib.hid h1;have H2:=Lib.hid (HKPV.out.tr h2);have H3:=Lib.hid (HBV.out.trans h3)
   clear h1 h2 h3
   go_wp2
   go_roundw
   case rel=>exact⟨i+1,by omega,by go_num,H1,H2,H3⟩
   case measure=>simp[intOf];omega
  ·obtain rfl:i=m:=by omega
   have hlti:¬(i:Int)<(i:Int):=by omega
   have hr:=HRA.out
   rw[HM.out,List.take_length]at hr
   have HRR:=Lib.hid hr
   clear hr HRA
   go_wp2
   go_end0
   exact⟨rfl,HRR.out,HKP.out,HB.out⟩
end Go.Proofs.YtokpcpjnihinfaaGreat
namespace Go.Proofs.YtokpcpjnihinfaaGreat
open Go.RowKit Go.ChangeShapes Go.WideShapes Go.ChangeAt Go.Joins
theorem RdT.rangeS{S:Nat→Prop}{w w':World}{B:Nat}{A:Option Addr}{l:List Tok}(h:RdT w B A l)(hk:KpB S w w'){b o:Nat}(hA:A=some ⟨b,o,none⟩)(hS:S b){j:Nat}(hj:j<l.length):w'.rangeAt b (o+j*3) (tokC (l.getD j tok0)):=
 fun i v hv=>(hk.cell (p:=⟨b,o+j*3+i,none⟩) hS).trans (h.range hA hj i v hv)
structure BookAt (w:World) (S:Nat→Prop) (g n:Nat) (F:Nat→Nat):Prop where
 row:RowC w g n (codeB F n) F
 ins:S g
 chk:checkE F n 15=0
theorem BookAt.kept{S:Nat→Prop}{w w':World}{g n:Nat}{F:Nat→Nat}(h:BookAt w S g n F)(hk:KpB S w w'):BookAt w' S g n F:=⟨h.row.kept hk h.ins,h.ins,h.chk⟩
theorem BookAt.of{S:Nat→Prop}{w:World}{g n:Nat}{F:Nat→Nat}(h:BookAt w S g n F)(c i:Nat)(hi:i<n)(hn:n≤1000000)(Z Y:Nat)(hZ:codP F n i=(Z,Y)):
  Calls Tryz.prog 86 #[.slice (some ⟨g,0,none⟩) n c,.int .i64 (i:Int)] w fun e w'=>e=.returned (.agg #[.int .u32 (Z:Int),.int .i64 (Y:Int)])∧Below w.heap.size w w':=by
 have h1:=of11_any w g n c F i h.row h.chk hi hn
 rw[hZ]at h1
 exact h1
theorem BookAt.fit{S:Nat→Prop}{w:World}{g n:Nat}{F:Nat→Nat}(h:BookAt w S g n F){i:Nat}(hi:i<n):FitN (codP F n i):=by
 obtain⟨_,h2⟩:=code_fits h.chk hi
 exact⟨turnN_lt _ _,by show F i≤16;omega⟩
theorem toksP_take{F G:Nat→Nat}{n k:Nat}{l:List Tok}{i:Nat}(h:i<l.length):(l.take (i+1)).flatMap (tokP F n G k)=(l.take i).flatMap (tokP F n G k)++tokP F n G k (l.getD i tok0):=by
 rw[take_one h,List.flatMap_append];simp
theorem bitsT_flat_le{F G:Nat→Nat}{n k:Nat}(l:List Tok)(i:Nat):bitsT ((l.take i).flatMap (tokP F n G k))≤bitsT (toksP F n G k l):=by
 have e:l.flatMap (tokP F n G k)=(l.take i).flatMap (tokP F n G k)++(l.drop i).flatMap (tokP F n G k):=by rw[←List.flatMap_append,List.take_append_drop]
 unfold toksP
 rw[e,bitsT_app,bitsT_app];omega
theorem tokens11_any(w:World)(S:Nat→Prop)(B g:Nat)(f:Nat→Nat)(K:Nat)(A2:Option Addr)(m c2:Nat)(l:List Tok)(F:Nat→Nat)(ga n ca:Nat)(G:Nat→Nat)(gb k cb:Nat)(h:RowAt w S B g f K)(hm:m=l.length)(hr:RdT w w.heap.size A2 l)(hS:InS S A2 m)(hm2:m≤1000000)
  (ha:BookAt w S ga n F) (hb:BookAt w S gb k G) (hn:n≤1000) (hkk:k≤1000) (h256:256<n) (hok:∀t∈l,mayT t=true∧t.x<256) (hin:∀t∈l,symA t<n∧(t.n≠0→symB t<k)) (hk:K+bitsT (toksP F n G k l)≤16000000):
  Calls Tryz.prog 84 #[.pointer (some ⟨g,0,none⟩),.slice A2 m c2,.func (.func 86) #[.slice (some ⟨ga,0,none⟩) n ca] #[],.func (.func 86) #[.slice (some ⟨gb,0,none⟩) k cb] #[]] w fun e w'=>e=.returned (.tuple #[])∧RowAt w' S B g (putsF f K (toksP F n G k l)) (K+bitsT (toksP F n G k l))∧KpB S w w'∧Below B w w':=by
 have H:=Lib.hid h;have HM:=Lib.hid hm;have HR:=Lib.hid hr;have HS:=Lib.hid hS;have HA:=Lib.hid ha;have HBB:=Lib.hid hb;have HOK:=Lib.hid hok;have HIN:=Lib.hid hin;have HK:=Lib.hid hk
 clear h hm hr hS ha hb hok hin hk
 go_enter Tryz.func84,Tryz.ntmps84
 go_wp2_with fail
 go_loopw [16] (fun iv wr=>∃i:Nat,i≤m∧iv=.int .i64 (i:Int)∧Hid (RowAt wr S B g (putsF f K ((l.take i).flatMap (tokP F n G k))) (K+bitsT ((l.take i).flatMap (tokP F n G k))))∧Hid (KpB S w wr)∧Hid (Below B w wr)) (fun iv _=>m-(intOf iv).toNat)
 case atStart=>exact⟨0,Nat.zero_le _,rfl,Lib.hid H.out,Lib.hid (KpB.refl _ _),Lib.hid (Below.refl _ _)⟩
 case round=>
  obtain⟨i,hi,rfl,HRA,HKP,HB⟩:=hrel
  by_cases hlt:i<m
  ·have hlti:(i:Int)<(m:Int):=by omega
   have hil:i<l.length:=by rw[←HM.out];exact hlt
   obtain⟨b,o,rfl,hbl,hc⟩:=HR.out.at hil
   have hSb:S b:=HS.out b o (by omega) rfl
   have hrg:=HR.out.rangeS HKP.out rfl hSb hil
   have hmem:l.getD i tok0∈l:=by rw[List.getD_eq_getElem?_getD,List.getElem?_eq_getElem hil];exact List.getElem_mem hil
   obtain⟨hmy,hx8⟩:=HOK.out _ hmem
   obtain⟨hsa,hsb⟩:=HIN.out _ hmem
   have hstep:=toksP_take (F:=F) (G:=G) (n:=n) (k:=k) hil
   have hle:=bitsT_flat_le (F:=F) (G:=G) (n:=n) (k:=k) l (i+1)
   obtain⟨t,ht⟩:∃t,t=l.getD i tok0:=⟨_,rfl⟩
   rw[←ht]at hrg hmy hx8 hsa hsb hstep
   obtain⟨Q,hQ⟩:∃Q,Q=putsF f K ((l.take i).flatMap (tokP F n G k)):=⟨_,rfl⟩
   obtain⟨q,hq⟩:∃q,q=K+bitsT ((l.take i).flatMap (tokP F n G k)):=⟨_,rfl⟩
   have hra:=HRA.out
   rw[←hQ,←hq]at hra
   have hbe:q+bitsT (tokP F n G k t)=K+bitsT ((l.take (i+1)).flatMap (tokP F n G k)):=by rw[hstep,bitsT_app,hq];omega
   have hfe:putsF Q q (tokP F n G k t)=putsF f K ((l.take (i+1)).flatMap (tokP F n G k)):=by rw[hstep,putsF_app,hQ,hq]
   have hqb:q+bitsT (tokP F n G k t)≤16000000:=by have:=HK.out;omega
   obtain⟨W3,hW3⟩:∃W3,W3=mkV wr #[.int .u8 0,.int .i64 0,.int .i64 0] (tokC t).toArray 128:=⟨_,rfl⟩
   have hb3:Below wr.heap.size wr W3:=by rw[hW3];exact mkV_below _ _ _ _
   have hrow:W3.heap[wr.heap.size]?=some (.cells (tokC t).toArray 128 (0,0)):=by rw[hW3];exact mkV_row wr _ _ _
   have hs3:wr.heap.size<W3.heap.size:=(Array.getElem?_eq_some_iff.1 hrow).1
   obtain⟨S',hS'⟩:∃S':Nat→Prop,S'=fun j=>S j∨(wr.heap.size≤j∧j<W3.heap.size):=⟨_,rfl⟩
   have hSS:∀j,S j→S' j:=fun j hj=>by rw[hS'];exact .inl hj
   have hSv:S' wr.heap.size:=by rw[hS'];exact .inr ⟨Nat.le_refl _,hs3⟩
   have hra3:RowAt W3 S' B g Q q:=by rw[hS'];exact hra.grow hb3
   have y0:W3.cell? ⟨wr.heap.size,0,none⟩=some (.int .u8 (t.x:Int)):=(cell_of_row W3 _ 0 _ _ (0,0) hrow).trans rfl
   have y1:W3.cell? ⟨wr.heap.size,1,none⟩=some (.int .i64 t.d):=(cell_of_row W3 _ 1 _ _ (0,0) hrow).trans rfl
   have y2:W3.cell? ⟨wr.heap.size,2,none⟩=some (.int .i64 t.n):=(cell_of_row W3 _ 2 _ _ (0,0) hrow).trans rfl
   have hk3:KpB S w W3:=HKP.out.tr (KpB.below hra.top hb3)
   have HRA3:=Lib.hid hra3;have HSS:=Lib.hid hSS;have HSV:=Lib.hid hSv;have HK3:=Lib.hid hk3;have HB3:=Lib.hid (HB.out.trans (hb3.mono hra.size));have HW3:=Lib.hid hW3;have HRG:=Lib.hid hrg
   have HBE:=Lib.hid hbe;have HFE:=Lib.hid hfe;have HMY:=Lib.hid hmy;have HSB:=Lib.hid hsb
   clear hra3 hSS hSv hk3 hb3 hrow hW3 hS' hra hrg hbe hfe hQ hq hstep hle ht hmem hc hbl hSb HRA
   by_cases h0:t.n=0
   ·have hn0:(t.n==0)=true:=by rw[h0];rfl
    have hsx:symA t=t.x:=by unfold symA;rw[if_pos h0]
    have htp:tokP F n G k t=[codP F n t.x]:=by unfold tokP;rw[if_pos h0]
    rw[hsx]at hsa
    rw[htp]at hqb
    have hbe:=HBE.out
    have hfe:=HFE.out
    rw[htp]at hbe hfe
    obtain⟨x,hx⟩:∃x,x=t.x:=⟨_,rfl⟩
    rw[←hx]at hsa hqb hbe hfe y0 hx8
    have hft:=HA.out.fit (i:=x) hsa
    obtain⟨⟨Z,Y⟩,hZ⟩:∃t,t=codP F n x:=⟨_,rfl⟩
    rw[←hZ]at hqb hbe hfe hft
    have hof:=(HA.out.kept HK3.out).of ca x hsa (by omega) Z Y hZ.symm
    have HOF:=Lib.hid hof;have HBE:=Lib.hid hbe;have HFE:=Lib.hid hfe;have HFT:=Lib.hid hft
    clear hof hbe hfe hft hZ hx hsx htp HMY HSB hmy hsb
    go_wp2_with (first|refine wpList_load_mid rfl _ _ rfl b (o+i*3) rfl (tokC t) _ HRG.out Tryz.underlying128 rfl szTok ?_|refine wpList_store_rowTo rfl _ _ _ rfl rfl wr.heap.size (tokC t).toArray rfl rfl 128 #[.int .u8 0,.int .i64 0,.int .i64 0] (heap_alloc_new wr _) (szTokA _) rfl (tokA_one _) ?_;change wpList _ _ _ _ _ (mkV wr #[.int .u8 0,.int .i64 0,.int .i64 0] (tokC t).toArray 128);rw[←HW3.out]|fail)
    refine HOF.out.mono ?_
    rintro e w4 ⟨rfl,hb4⟩
    have hput:=put_lit w4 S' B g Q q [(Z,Y)] 1 rfl #[.int .u32 (Z:Int),.int .i64 (Y:Int)] rfl (HRA3.out.after hb4) (by omega) (fun z hz=>by
     simp only[List.mem_singleton]at hz;rw[hz];exact HFT.out) hqb
    rw[HBE.out,HFE.out]at hput
    have HPUT:=Lib.hid hput;have HK4:=Lib.hid (HK3.out.tr ((KpB.below HRA3.out.top hb4).less HSS.out));have HB4:=Lib.hid (HB3.out.trans (hb4.mono HRA3.out.size))
    clear hput hb4 y0 y1 y2
    go_wp2_with fail
    refine HPUT.out.mono ?_
    rintro e w5 ⟨rfl,h1,h2,h3⟩
    have H1:=Lib.hid (h1.less HSS.out);have H2:=Lib.hid (HK4.out.tr (h2.less HSS.out));have H3:=Lib.hid (HB4.out.trans h3)
    clear h1 h2 h3
    go_wp2
    go_roundw
    case rel=>exact⟨i+1,by omega,by go_num,H1,H2,H3⟩
    case measure=>simp[intOf];omega
   ·have hn0:(t.n==0)=false:=by rw[beq_eq_false_iff_ne];exact h0
    obtain⟨hE1,hE2,_,_⟩:=(sym_lt hmy hx8).2.2 h0
    obtain⟨hf1,hf2⟩:=ext_fit hmy hx8 h0
    obtain⟨_,_,_,_,p1,_,p3,p4⟩:=long_there hE1
    obtain⟨_,_,_,_,q1,_,q3,q4⟩:=far_there hE2
    have hsD:=hsb h0
    have eS:lgS t.n=((symA t:Nat):Int):=by
     have h5:3≤t.n∧t.n≤258:=lg_ok hE1
     have:0≤lgS t.n:=by unfold lgS;rw[if_pos h5];omega
     unfold symA;rw[if_neg h0];omega
    have eD:frS t.d=((symB t:Nat):Int):=by
     have h5:1≤t.d∧t.d≤32768:=fr_ok hE2
     have:0≤frS t.d:=by unfold frS;rw[if_pos h5];omega
     unfold symB;omega
    have htp:tokP F n G k t=[codP F n (lgS t.n).toNat,((lgX t.n).toNat,(lgB t.n).toNat),codP G k (frS t.d).toNat,((frX t.d).toNat,(frB t.d).toNat)]:=by unfold tokP;rw[if_neg h0]
    rw[eS,eD,Int.toNat_natCast,Int.toNat_natCast]at htp
    obtain⟨u,eu⟩:=Int.eq_ofNat_of_zero_le p3
    obtain⟨v,ev⟩:=Int.eq_ofNat_of_zero_le q3
    obtain⟨x1,ex1⟩:=Int.eq_ofNat_of_zero_le p1
    obtain⟨x2,ex2⟩:=Int.eq_ofNat_of_zero_le q1
    have hlg:=fun V:World=>long9_any V t.n
    have hfr:=fun V:World=>far9_any V t.d
    rw[eS,eu,ex1,hE1]at hlg
    rw[eD,ev,ex2,hE2]at hfr
    rw[ex1,eu,Int.toNat_natCast,Int.toNat_natCast]at hf1
    rw[ex2,ev,Int.toNat_natCast,Int.toNat_natCast]at hf2
    rw[ex1,eu,ex2,ev,Int.toNat_natCast,Int.toNat_natCast,Int.toNat_natCast,Int.toNat_natCast]at htp
    have hx1:x1<65536:=by
     have h1:x1<2^u:=hf1.1
     have e:(2:Nat)^u≤2^16:=Nat.pow_le_pow_right (by omega) hf1.2
     have e2:(2:Nat)^16=65536:=rfl
     omega
    have hx2:x2<65536:=by
     have h1:x2<2^v:=hf2.1
     have e:(2:Nat)^v≤2^16:=Nat.pow_le_pow_right (by omega) hf2.2
     have e2:(2:Nat)^16=65536:=rfl
     omega
    have hu5:u≤16:=hf1.2
    have hv5:v≤16:=hf2.2
    obtain⟨sA,hsA⟩:∃s,s=symA t:=⟨_,rfl⟩
    obtain⟨sD,hsDe⟩:∃s,s=symB t:=⟨_,rfl⟩
    rw[←hsA]at hlg htp hsa
    rw[←hsDe]at hfr htp hsD
    have hft1:=HA.out.fit (i:=sA) hsa
    have hft2:=HBB.out.fit (i:=sD) hsD
    obtain⟨⟨Z1,Y1⟩,hZ1⟩:∃t,t=codP F n sA:=⟨_,rfl⟩
    obtain⟨⟨Z2,Y2⟩,hZ2⟩:∃t,t=codP G k sD:=⟨_,rfl⟩
    rw[←hZ1,←hZ2]at htp
    rw[←hZ1]at hft1
    rw[←hZ2]at hft2
    have hsp:([(Z1,Y1),(x1,u),(Z2,Y2),(x2,v)]:List (Nat×Nat))=[(Z1,Y1),(x1,u)]++[(Z2,Y2),(x2,v)]:=rfl
    have hbe:=HBE.out
    have hfe:=HFE.out
    rw[htp,hsp,bitsT_app]at hqb hbe
    rw[htp,hsp,putsF_app]at hfe
    obtain⟨q2,hq2⟩:∃q2,q2=q+bitsT [(Z1,Y1),(x1,u)]:=⟨_,rfl⟩
    obtain⟨Q2,hQ2⟩:∃Q2,Q2=putsF Q q [(Z1,Y1),(x1,u)]:=⟨_,rfl⟩
    rw[←Nat.add_assoc,←hq2]at hqb hbe
    rw[←hQ2,←hq2]at hfe
    have hqb1:q+bitsT [(Z1,Y1),(x1,u)]≤16000000:=by omega
    have HLG:=Lib.hid hlg;have HFR:=Lib.hid hfr;have HBE2:=Lib.hid hbe;have HFE2:=Lib.hid hfe;have HQB:=Lib.hid hqb;have HQB1:=Lib.hid hqb1;have HQ2:=Lib.hid hq2;have HQ2F:=Lib.hid hQ2
    have HFT1:=Lib.hid hft1;have HFT2:=Lib.hid hft2;have HF1:=Lib.hid hf1;have HF2:=Lib.hid hf2;have HZ1:=Lib.hid hZ1;have HZ2:=Lib.hid hZ2;have HY1:=Lib.hid y1
    clear hlg hfr hbe hfe hqb hqb1 hq2 hQ2 hft1 hft2 hf1 hf2 hZ1 hZ2 htp hsp hsA hsDe eS eD eu ev ex1 ex2 hE1 hE2 p1 p3 p4 q1 q3 q4 hsb hmy hx8 HMY HSB HBE HFE y0 y1
    go_wp2_with (first|refine wpList_load_mid rfl _ _ rfl b (o+i*3) rfl (tokC t) _ HRG.out Tryz.underlying128 rfl szTok ?_|refine wpList_store_rowTo rfl _ _ _ rfl rfl wr.heap.size (tokC t).toArray rfl rfl 128 #[.int .u8 0,.int .i64 0,.int .i64 0] (heap_alloc_new wr _) (szTokA _) rfl (tokA_one _) ?_;change wpList _ _ _ _ _ (mkV wr #[.int .u8 0,.int .i64 0,.int .i64 0] (tokC t).toArray 128);rw[←HW3.out]|fail)
    refine(HLG.out W3).mono ?_
    rintro e w4 ⟨rfl,hb4⟩
    have HRA4:=Lib.hid (HRA3.out.after hb4);have HK4:=Lib.hid (HK3.out.tr ((KpB.below HRA3.out.top hb4).less HSS.out));have HB4:=Lib.hid (HB3.out.trans (hb4.mono HRA3.out.size))
    have HY4:=Lib.hid ((hb4.cell (p:=⟨wr.heap.size,1,none⟩) hs3).trans HY1.out)
    have hs4:wr.heap.size<w4.heap.size:=by have:=hb4.size;omega
    have HOF1:=Lib.hid ((HA.out.kept HK4.out).of ca sA hsa (by omega) Z1 Y1 HZ1.out.symm)
    clear hb4 y2 HRA3 HK3 HB3 HY1 hs3
    go_wp2_with fail
    refine HOF1.out.mono ?_
    rintro e w5 ⟨rfl,hb5⟩
    have hput:=put_lit w5 S' B g Q q [(Z1,Y1),(x1,u)] 2 rfl #[.int .u32 (Z1:Int),.int .i64 (Y1:Int),.int .u32 (x1:Int),.int .i64 (u:Int)] rfl (HRA4.out.after hb5) (by omega) (fun z hz=>by
     simp only[List.mem_cons,List.not_mem_nil,or_false]at hz
     rcases hz with rfl|rfl
     ·exact HFT1.out
     ·exact HF1.out) HQB1.out
    rw[←HQ2.out,←HQ2F.out]at hput
    have HPUT:=Lib.hid hput;have HK5:=Lib.hid (HK4.out.tr ((KpB.below HRA4.out.top hb5).less HSS.out));have HB5:=Lib.hid (HB4.out.trans (hb5.mono HRA4.out.size))
    have HY5:=Lib.hid ((hb5.cell (p:=⟨wr.heap.size,1,none⟩) hs4).trans HY4.out)
    clear hput hb5 HRA4 HK4 HB4 HY4 HOF1 hs4
    go_wp2_with (first
     |(refine wpList_buildTo rfl 169 #[(0,.tmp 44),(1,.tmp 45)] rfl (some 46) rfl #[.int .u32 (x1:Int),.int .i64 (u:Int)] ?_ ?_;focus(simpa[Act.eval]using built_numP (x1:Int) (u:Int)))
     |fail)
    refine HPUT.out.mono ?_
    rintro e w6 ⟨rfl,h1,h2,h3⟩
    have y6:=(h2.cell (p:=⟨wr.heap.size,1,none⟩) HSV.out).trans HY5.out
    have HRA6:=Lib.hid h1;have HK6:=Lib.hid (HK5.out.tr (h2.less HSS.out));have HB6:=Lib.hid (HB5.out.trans h3)
    clear h1 h2 h3 HPUT HK5 HB5 HY5
    go_wp2_with fail
    refine(HFR.out w6).mono ?_
    rintro e w7 ⟨rfl,hb7⟩
    have HRA7:=Lib.hid (HRA6.out.after hb7);have HK7:=Lib.hid (HK6.out.tr ((KpB.below HRA6.out.top hb7).less HSS.out));have HB7:=Lib.hid (HB6.out.trans (hb7.mono HRA6.out.size))
    have HOF2:=Lib.hid ((HBB.out.kept HK7.out).of cb sD hsD (by omega) Z2 Y2 HZ2.out.symm)
    clear hb7 y6 HRA6 HK6 HB6
    go_wp2_with fail
    refine HOF2.out.mono ?_
    rintro e w8 ⟨rfl,hb8⟩
    have hput:=put_lit w8 S' B g Q2 q2 [(Z2,Y2),(x2,v)] 2 rfl #[.int .u32 (Z2:Int),.int .i64 (Y2:Int),.int .u32 (x2:Int),.int .i64 (v:Int)] rfl (HRA7.out.after hb8) (by omega) (fun z hz=>by
     simp only[List.mem_cons,List.not_mem_nil,or_false]at hz
     rcases hz with rfl|rfl
     ·exact HFT2.out
     ·exact HF2.out) HQB.out
    rw[HBE2.out,HFE2.out]at hput
    have HPUT:=Lib.hid hput;have HK8:=Lib.hid (HK7.out.tr ((KpB.below HRA7.out.top hb8).less HSS.out));have HB8:=Lib.hid (HB7.out.trans (hb8.mono HRA7.out.size))
    clear hput hb8 HRA7 HK7 HB7 HOF2
    go_wp2_with (first
     |(refine wpList_buildTo rfl 169 #[(0,.tmp 62),(1,.tmp 63)] rfl (some 64) rfl #[.int .u32 (x2:Int),.int .i64 (v:Int)] ?_ ?_;focus(simpa[Act.eval]using built_numP (x2:Int) (v:Int)))
     |fail)
    refine HPUT.out.mono ?_
    rintro e w9 ⟨rfl,h1,h2,h3⟩
    have H1:=Lib.hid (h1.less HSS.out);have H2:=Lib.hid (HK8.out.tr (h2.less HSS.out));have H3:=Lib.hid (HB8.out.trans h3)
    clear h1 h2 h3
    go_wp2
    go_roundw
    case rel=>exact⟨i+1,by omega,by go_num,H1,H2,H3⟩
    case measure=>simp[intOf];omega
  ·obtain rfl:i=m:=by omega
   have hlti:¬(i:Int)<(i:Int):=by omega
   have hr:=HRA.out
   rw[HM.out,List.take_length]at hr
   obtain⟨Q,hQ⟩:∃Q,Q=putsF f K (l.flatMap (tokP F n G k)):=⟨_,rfl⟩
   obtain⟨q,hq⟩:∃q,q=K+bitsT (l.flatMap (tokP F n G k)):=⟨_,rfl⟩
   rw[←hQ,←hq]at hr
   obtain⟨⟨Z,Y⟩,hZ⟩:∃t,t=codP F n 256:=⟨_,rfl⟩
   have hbe:q+bitsT [(Z,Y)]=K+bitsT (toksP F n G k l):=by unfold toksP;rw[bitsT_app,hq,hZ];omega
   have hfe:putsF Q q [(Z,Y)]=putsF f K (toksP F n G k l):=by unfold toksP;rw[putsF_app,hQ,hq,hZ]
   have hft:=HA.out.fit (i:=256) h256
   rw[←hZ]at hft
   have hof:=(HA.out.kept HKP.out).of ca 256 h256 (by omega) Z Y hZ.symm
   have hqb:q+bitsT [(Z,Y)]≤16000000:=by rw[hbe];exact HK.out
   have HRR:=Lib.hid hr;have HOF:=Lib.hid hof;have HBE:=Lib.hid hbe;have HFE:=Lib.hid hfe;have HFT:=Lib.hid hft
   clear hr hof hbe hfe hft hZ hQ hq HRA
   go_wp2_with fail
   refine HOF.out.mono ?_
   rintro e w4 ⟨rfl,hb4⟩
   have hput:=put_lit w4 S B g Q q [(Z,Y)] 1 rfl #[.int .u32 (Z:Int),.int .i64 (Y:Int)] rfl (HRR.out.after hb4) (by omega) (fun z hz=>by
    simp only[List.mem_singleton]at hz;rw[hz];exact HFT.out) hqb
   rw[HBE.out,HFE.out]at hput
   have HPUT:=Lib.hid hput;have HK4:=Lib.hid (HKP.out.tr (KpB.below HRR.out.top hb4));have HB4:=Lib.hid (HB.out.trans (hb4.mono HRR.out.size))
   clear hput hb4
   go_wp2_with fail
   refine HPUT.out.mono ?_
   rintro e w5 ⟨rfl,h1,h2,h3⟩
   have H1:=Lib.hid h1;have H2:=Lib.hid (HK4.out.tr h2);have H3:=Lib.hid (HB4.out.trans h3)
   clear h1 h2 h3
   go_wp2
   go_end0
   exact⟨rfl,H1.out,H2.out,H3.out⟩
end Go.Proofs.YtokpcpjnihinfaaGreat
