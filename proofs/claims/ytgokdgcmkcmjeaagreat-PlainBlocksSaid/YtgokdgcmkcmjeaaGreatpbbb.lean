/-
  Words and walks.
-/
import Derived.BigQuiet
import Derived.WalkMore
import Derived.Deep.DeepCutAuto
import Derived.Test.YtgokdgcmkcmjeaaGreatpbaa
import Derived.Test.YtgokdgcmkcmjeaaGreatpbal
import Derived.Test.YtgokdgcmkcmjeaaGreatpbba
set_option maxRecDepth 100000
set_option maxHeartbeats 16000000
namespace Go.Proofs.YtgokdgcmkcmjeaaGreat
open Go.RowKit
def mrgZ(n m:Nat)(w p:Nat→Nat)(z y:Nat→Int)(t:Nat):Int:=
 if pickB n m w p (stepI n m w p t) (t-stepI n m w p t)=true then z (stepI n m w p t)else y (t-stepI n m w p t)
def slLen:Value→Nat
 | .slice _ n _=>n
 |_=>0
theorem RdQ.next{w:World}{lo B m c:Nat}{A:Option Addr}{W:Nat→Nat}{Z:Nat→Int}(h:RdQ w lo B A (m+1) W Z)(hc:m+1≤c):
  ∃b o,A=some ⟨b,o,none⟩∧lo≤b∧b<B∧w.cell? ⟨b,o,none⟩=some (.int .i64 (W 0:Int))∧w.cell? ⟨b,o+1,none⟩=some (.int .i64 (Z 0))∧
   RdQ w lo B (if c=1 then some ⟨b,o,none⟩else some ⟨b,o+2,none⟩) m (fun t=>W (t+1)) (fun t=>Z (t+1)):=by
 obtain⟨b,o,h1,h2,h3,h4⟩:=h (by omega)
 have e0:=h4 0 (by omega)
 have e1:=h4 1 (by omega)
 have p0:=parN_a W Z 0
 have p1:=parN_b W Z 0
 rw[Nat.zero_mul]at p0 p1
 rw[p0]at e0
 rw[show(1:Nat)=0+1 by rfl,p1]at e1
 refine⟨b,o,h1,h2,h3,e0,e1,fun hm=>?_⟩
 rw[if_neg (by omega)]
 refine⟨b,o+2,rfl,h2,h3,fun j hj=>?_⟩
 rw[show o+2+j=o+(j+2) by omega,h4 (j+2) (by omega)]
 congr 2
 unfold parN
 rw[show(j+2)%2=j%2 by omega,show(j+2)/2=j/2+1 by omega]
theorem parL_snoc(m:Nat)(W:Nat→Nat)(Z:Nat→Int):parL m W Z++[.int .i64 (W m:Int),.int .i64 (Z m)]=parL (m+1) W Z:=by
 unfold parL
 rw[show(m+1)*2=m*2+1+1 by omega,List.range_succ,List.range_succ]
 simp only[List.map_append,List.map_cons,List.map_nil,List.append_assoc,List.cons_append,List.nil_append]
 rw[parN_a,parN_b]
theorem parL_append(m k:Nat)(W W2:Nat→Nat)(Z Z2:Nat→Int)(V:Nat→Nat)(Y:Nat→Int)(h1:∀t,t<m→V t=W t∧Y t=Z t)(h2:∀t,t<k→V (m+t)=W2 t∧Y (m+t)=Z2 t):parL m W Z++parL k W2 Z2=parL (m+k) V Y:=by
 apply List.ext_getElem?
 intro j
 rw[List.getElem?_append,parL_length,parL_get,parL_get,parL_get]
 by_cases hj:j<m*2
 ·rw[if_pos hj,if_pos hj,if_pos (by omega),parN_ext h1 j hj]
 ·rw[if_neg hj]
  by_cases hk:j-m*2<k*2
  ·rw[if_pos hk,if_pos (by omega)]
   have h:=h2 ((j-m*2)/2) (by omega)
   congr 2
   unfold parN
   rw[show j%2=(j-m*2)%2 by omega,show j/2=m+(j-m*2)/2 by omega,h.1,h.2]
  ·rw[if_neg hk,if_neg (by omega)]
def OwnQ(w:World)(base:Nat)(A:Option Addr)(c m:Nat)(W:Nat→Nat)(Z:Nat→Int):Prop:=w.ownsRow base 271 2 (.slice A m c) m (parL m W Z)
theorem OwnQ.rd{w:World}{base c m:Nat}{A:Option Addr}{W:Nat→Nat}{Z:Nat→Int}(h:OwnQ w base A c m W Z):RdQ w base w.heap.size A m W Z:=fun hm=>by
 have hs:=SrcL.of_own h
 obtain⟨b,o,e,hb,hc⟩:=hs.2 hm
 refine⟨b,o,e,own_geS h b (by rw[e];rfl),hb,fun j hj=>hc j _ ?_⟩
 rw[parL_get,if_pos hj]
theorem OwnQ.cap{w:World}{base c m:Nat}{A:Option Addr}{W:Nat→Nat}{Z:Nat→Int}(h:OwnQ w base A c m W Z):m≤c∧(A=none→c=0):=by
 rcases h.2 with⟨hv,h0⟩|⟨g,cap,cur,hv,_,_,h1,h2,_⟩
 ·injection hv with h3 h4 h5
  exact⟨by omega,fun _=>h5⟩
 ·injection hv with h3 h4 h5
  exact⟨by omega,fun h=>by rw[h]at h3;cases h3⟩
theorem run_prc(w:World)(base:Nat)(A:Option Addr)(c m:Nat)(W:Nat→Nat)(Z:Nat→Int)(h:OwnQ w base A c m W Z)(x z:Int)(hx:x=(W m:Int))(hz:z=Z m)(hm:m≤2000)(hbase:base≤w.heap.size):
  ∃A' c' w',(Builtin.append_ #[246,246] 246 #[.slice A m c,.slice (some ⟨w.heap.size,0,none⟩) 1 1]).run Tryz.prog (w.alloc (.cells #[.int .i64 x,.int .i64 z] 271))=.ok (.slice A' (m+1) c') w'∧
   OwnQ w' base A' c' (m+1) W Z∧Below base w w':=by
 subst hx;subst hz
 have hb1:Below base w (w.alloc (.cells #[.int .i64 (W m:Int),.int .i64 (Z m)] 271)):=(Below.refl base w).alloc hbase _
 obtain⟨A',c',w',h2,o2,b2⟩:=run_app (z:=.agg #[.int .i64 0,.int .i64 0]) (by_:=16) Tryz.underlying246 infoPrc rfl (by decide) (w.alloc (.cells #[.int .i64 (W m:Int),.int .i64 (Z m)] 271)) base _ (.slice A m c) m _ (World.ownsRow.alloc h _) _ 1 1 _
  (SrcL.new w 2 1 #[.int .i64 (W m:Int),.int .i64 (Z m)] 271 rfl) (fun u hu=>by simp at hu;rcases hu with rfl|rfl<;>rfl) (by unfold maxLen;omega) (by omega) 246 (fun h=>by cases h) (Nat.le_trans hbase hb1.size)
 refine⟨A',c',w',h2,?_,hb1.trans b2⟩
 have e:parL m W Z++(#[Value.int .i64 (W m:Int),.int .i64 (Z m)]:Array Value).toList=parL (m+1) W Z:=parL_snoc m W Z
 rw[e]at o2
 exact o2
theorem make_prc0(n:Nat)(h:n≤2000):∀u:World,(Instr.makeSlice 246 (.int .i64 0) (.int .i64 (n:Int))).run Tryz.prog u=
   .ok (.slice (some ⟨u.heap.size,0,none⟩) 0 n) (u.alloc (.cells (madeCells #[.int .i64 0,.int .i64 0] (n*2)) 271)):=fun u=>by
 obtain⟨i0,hi,hz0,hz1,hz2⟩:=info_parts infoPrc
 have h:=run_make (P:=Tryz.prog) u 246 271 i0 _ Tryz.underlying246 hi hz0 .i64 .i64 0 (n:Int) (by omega) (by omega) (by rw[hz2];omega) (by omega)
 rw[Int.toNat_natCast]at h
 rw[hz1]at h
 exact h
theorem ownQ_made(w:World)(n:Nat)(hn:n≤2000)(W:Nat→Nat)(Z:Nat→Int):OwnQ (w.alloc (.cells (madeCells #[.int .i64 0,.int .i64 0] (n*2)) 271)) w.heap.size (some ⟨w.heap.size,0,none⟩) n 0 W Z:=
 ⟨by simp[parL],.inr ⟨w.heap.size,n,_,rfl,Nat.le_refl _,heap_alloc_new w _,Nat.zero_le _,by unfold maxLen;omega,by rw[size_madeCells],by simp[parL]⟩⟩
section
variable {n m:Nat} {w p:Nat→Nat}
theorem step_tailP{y:Nat}:∀t,stepI n m w p (n+y)=n→y+t≤m→stepI n m w p (n+y+t)=n
 |0,h,_=>h
 |t+1,h,ht=>by
  have ih:=step_tailP t h (by omega)
  show(if pickB n m w p (stepI n m w p (n+y+t)) (n+y+t-stepI n m w p (n+y+t))=true then stepI n m w p (n+y+t)+1 else stepI n m w p (n+y+t))=n
  rw[ih,if_neg]
  unfold pickB
  simp only[decide_eq_true_eq]
  omega
theorem step_tailI{x:Nat}:∀t,stepI n m w p (x+m)=x→x+t≤n→stepI n m w p (x+m+t)=x+t
 |0,h,_=>h
 |t+1,h,ht=>by
  have ih:=step_tailI t h (by omega)
  show(if pickB n m w p (stepI n m w p (x+m+t)) (x+m+t-stepI n m w p (x+m+t))=true then stepI n m w p (x+m+t)+1 else stepI n m w p (x+m+t))=x+(t+1)
  rw[ih,if_pos]
  ·omega
  ·unfold pickB
   simp only[decide_eq_true_eq]
   omega
theorem mrg_tailP{z y:Nat→Int}{k t:Nat}(h:stepI n m w p (n+k)=n)(ht:k+t<m):mrg n m w p (n+k+t)=p (k+t)∧mrgZ n m w p z y (n+k+t)=y (k+t):=by
 have h1:=step_tailP (y:=k) t h (by omega)
 unfold mrg mrgZ
 rw[h1,if_neg,if_neg,show n+k+t-n=k+t by omega]
 ·exact⟨rfl,rfl⟩
 ·unfold pickB;simp only[decide_eq_true_eq];omega
 ·unfold pickB;simp only[decide_eq_true_eq];omega
theorem mrg_tailI{z y:Nat→Int}{x t:Nat}(h:stepI n m w p (x+m)=x)(ht:x+t<n):mrg n m w p (x+m+t)=w (x+t)∧mrgZ n m w p z y (x+m+t)=z (x+t):=by
 have h1:=step_tailI (x:=x) t h (by omega)
 unfold mrg mrgZ
 rw[h1,if_pos,if_pos]
 ·exact⟨rfl,rfl⟩
 ·unfold pickB;simp only[decide_eq_true_eq];omega
 ·unfold pickB;simp only[decide_eq_true_eq];omega
end
theorem merge4_any(w:World)(lo:Nat)(A:Option Addr)(c n:Nat)(W:Nat→Nat)(Z:Nat→Int)(hr:RdQ w lo w.heap.size A n W Z)(hc:n≤c)(hA:A=none→c=0)(A2:Option Addr)(c2 m:Nat)(P:Nat→Nat)(Y:Nat→Int)(hr2:RdQ w lo w.heap.size A2 m P Y)(hc2:m≤c2)(hA2:A2=none→c2=0)(hnm:n+m≤2000):
  Calls Tryz.prog 185 #[.slice A n c,.slice A2 m c2] w fun e w'=>∃A' c',e=.returned (.slice A' (n+m) c')∧Below w.heap.size w w'∧(n+m)≤c'∧(A'=none→c'=0)∧RdQ w' w.heap.size w'.heap.size A' (n+m) (mrg n m W P) (mrgZ n m W P Z Y):=by
 obtain⟨V,hV⟩:∃V:Nat→Nat,V=mrg n m W P:=⟨_,rfl⟩
 obtain⟨U,hU⟩:∃U:Nat→Int,U=mrgZ n m W P Z Y:=⟨_,rfl⟩
 rw[←hV,←hU]
 have HR:=Lib.hid hr;have HR2:=Lib.hid hr2;have HV:=Lib.hid hV;have HUU:=Lib.hid hU
 have HAA:=Lib.hid hA;have HAB:=Lib.hid hA2
 have hmk:=make_prc0 (n+m) hnm
 have hmk2:∀u:World,(Instr.makeSlice 246 (.int .i64 0) (.int .i64 ((n:Int)+(m:Int)))).run Tryz.prog u=.ok (.slice (some ⟨u.heap.size,0,none⟩) 0 (n+m)) (u.alloc (.cells (madeCells #[.int .i64 0,.int .i64 0] ((n+m)*2)) 271)):=fun u=>by
  have h:=hmk u
  rw[Int.natCast_add]at h
  exact h
 have hbase:=ownQ_made w (n+m) hnm V U
 have hbl:Below w.heap.size w (w.alloc (.cells (madeCells #[.int .i64 0,.int .i64 0] ((n+m)*2)) 271)):=(Below.refl _ w).alloc (Nat.le_refl _) _
 obtain⟨u,hu⟩:∃u,u=w.alloc (.cells (madeCells #[.int .i64 0,.int .i64 0] ((n+m)*2)) 271):=⟨_,rfl⟩
 rw[←hu]at hbase hbl
 have HU:=Lib.hid hu;have HB0:=Lib.hid hbl;have HBASE:=Lib.hid hbase
 clear hr hr2 hV hU hu hbase hbl hmk hA hA2
 go_enter Tryz.func185,Tryz.ntmps185
 go_wp2
 go_step3
 go_wp2
 rw[←HU.out]
 clear hmk2
 go_step3
 go_wp2
 go_loopw [0,1,5] (fun vi vp vr wr=>∃(x y r s:Nat) (Ai Ap Ao:Option Addr) (ci cp co:Nat),n=x+r∧m=y+s∧vi=.slice Ai r ci∧vp=.slice Ap s cp∧vr=.slice Ao (x+y) co∧r≤ci∧s≤cp∧Hid (Ai=none→ci=0)∧Hid (Ap=none→cp=0)∧
   Hid (RdQ wr lo w.heap.size Ai r (fun t=>W (x+t)) (fun t=>Z (x+t)))∧Hid (RdQ wr lo w.heap.size Ap s (fun t=>P (y+t)) (fun t=>Y (y+t)))∧Hid (OwnQ wr w.heap.size Ao co (x+y) V U)∧Hid (stepI n m W P (x+y)=x)∧Hid (Below w.heap.size w wr)) (fun vi vp _ _=>slLen vi+slLen vp)
 case atStart=>exact⟨0,0,n,m,A,A2,_,c,c2,_,by omega,by omega,rfl,rfl,rfl,hc,hc2,HAA,HAB,Lib.hid ((HR.out.below HB0.out (Nat.le_refl _)).ext (fun t _=>by rw[Nat.zero_add];exact⟨rfl,rfl⟩)),Lib.hid ((HR2.out.below HB0.out (Nat.le_refl _)).ext (fun t _=>by rw[Nat.zero_add];exact⟨rfl,rfl⟩)),HBASE,Lib.hid rfl,HB0⟩
 case round=>
  obtain⟨x,y,r,s,Ai,Ap,Ao,ci,cp,co,hn,hm,rfl,rfl,rfl,hrc,hsc,HAi,HAp,HI,HP,HO,HST,HB⟩:=hrel
  have hsz:=HB.out.size
  by_cases hr0:r=0
  ·subst hr0
   have hxn:n=x:=by omega
   obtain⟨A',c',w',r1,o1,b1⟩:=run_app (z:=.agg #[.int .i64 0,.int .i64 0]) (by_:=16) Tryz.underlying246 infoPrc rfl (by decide) wr w.heap.size w.heap.size (.slice Ao (x+y) co) (x+y) _ HO.out Ap s cp _ HP.out.src (parL_one _ _ _) (by unfold maxLen;omega) (by omega) 246 HAp.out hsz
   have e1:parL (x+y) V U++parL s (fun t=>P (y+t)) (fun t=>Y (y+t))=parL (x+y+s) V U:=by
    refine parL_append _ _ _ _ _ _ _ _ (fun _ _=>⟨rfl,rfl⟩) (fun t ht=>?_)
    rw[HV.out,HUU.out]
    subst hxn
    exact mrg_tailP HST.out (by omega)
   rw[e1]at o1
   have hnm2:x+y+s=n+m:=by omega
   rw[hnm2]at r1 o1
   have R1:=Lib.hid r1;have O1:=Lib.hid o1;have B1:=Lib.hid (HB.out.trans (b1.mono (Nat.le_refl _)))
   clear r1 o1 b1 e1
   obtain⟨xy,hxy⟩:∃xy,xy=x+y:=⟨_,rfl⟩
   rw[←hxy]at R1⊢
   have hcap:=OwnQ.cap O1.out
   have HC1:=Lib.hid hcap
   clear hxy hn hm hxn hnm2 hcap
   go_wp2_with (at_builtin;refine wpList_append_run rfl (.tmp 24) (.tmp 25) 246 rfl (.slice Ao xy co) (.slice Ap s cp) (.slice A' (n+m) c') w' rfl rfl R1.out ?_)
   rw[Exit.noGoto_ret]
   go_ret
   exact⟨A',c',rfl,B1.out,HC1.out.1,HC1.out.2,OwnQ.rd O1.out⟩
  ·obtain⟨r1,hr1⟩:∃r1,r=r1+1:=⟨r-1,by omega⟩
   by_cases hs0:s=0
   ·subst hs0
    have hym:m=y:=by omega
    have hr0i:((r:Int)==0)=false:=by simp;omega
    obtain⟨A',c',w',r1',o1,b1⟩:=run_app (z:=.agg #[.int .i64 0,.int .i64 0]) (by_:=16) Tryz.underlying246 infoPrc rfl (by decide) wr w.heap.size w.heap.size (.slice Ao (x+y) co) (x+y) _ HO.out Ai r ci _ HI.out.src (parL_one _ _ _) (by unfold maxLen;omega) (by omega) 246 HAi.out hsz
    have e1:parL (x+y) V U++parL r (fun t=>W (x+t)) (fun t=>Z (x+t))=parL (x+y+r) V U:=by
     refine parL_append _ _ _ _ _ _ _ _ (fun _ _=>⟨rfl,rfl⟩) (fun t ht=>?_)
     rw[HV.out,HUU.out]
     subst hym
     exact mrg_tailI HST.out (by omega)
    rw[e1]at o1
    have hnm2:x+y+r=n+m:=by omega
    rw[hnm2]at r1' o1
    have R1:=Lib.hid r1';have O1:=Lib.hid o1;have B1:=Lib.hid (HB.out.trans (b1.mono (Nat.le_refl _)))
    have hcap:=OwnQ.cap O1.out
    have HC1:=Lib.hid hcap
    clear r1' o1 b1 e1
    obtain⟨xy,hxy⟩:∃xy,xy=x+y:=⟨_,rfl⟩
    rw[←hxy]at R1⊢
    have hr2:1≤r:=by omega
    clear hxy hn hm hym hnm2 hcap hr1 hr0
    go_wp2_with (at_builtin;refine wpList_append_run rfl (.tmp 31) (.tmp 32) 246 rfl (.slice Ao xy co) (.slice Ai r ci) (.slice A' (n+m) c') w' rfl rfl R1.out ?_)
    rw[Exit.noGoto_ret]
    go_ret
    exact⟨A',c',rfl,B1.out,HC1.out.1,HC1.out.2,OwnQ.rd O1.out⟩
   ·obtain⟨s1,hs1⟩:∃s1,s=s1+1:=⟨s-1,by omega⟩
    have hI:=HI.out
    have hP:=HP.out
    rw[hr1]at hI
    rw[hs1]at hP
    obtain⟨bi,oi,rfl,hli,hbi,ci0,ci1,nI'⟩:=hI.next (by omega:r1+1≤ci)
    obtain⟨bp,op,rfl,hlp,hbp,cp0,cp1,nP'⟩:=hP.next (by omega:s1+1≤cp)
    have hr0i:((r:Int)==0)=false:=by simp;omega
    have hs0i:((s:Int)==0)=false:=by simp;omega
    have hr2:1≤r:=by omega
    have hs2:1≤s:=by omega
    have hr4:(1:Int)≤(r:Int):=by omega
    have hs4:(1:Int)≤(s:Int):=by omega
    have hr3:0<r:=by omega
    have hs3:0<s:=by omega
    have er:r-1=r1:=by omega
    have es:s-1=s1:=by omega
    have hst:stepI n m W P (x+y+1)=if pickB n m W P x y=true then x+1 else x:=by
     show(if pickB n m W P (stepI n m W P (x+y)) (x+y-stepI n m W P (x+y))=true then stepI n m W P (x+y)+1 else stepI n m W P (x+y))=_
     rw[HST.out,show x+y-x=y by omega]
    have hv:V (x+y)=if pickB n m W P x y=true then W x else P y:=by
     rw[HV.out];unfold mrg;rw[HST.out,show x+y-x=y by omega]
    have hz:U (x+y)=if pickB n m W P x y=true then Z x else Y y:=by
     rw[HUU.out];unfold mrgZ;rw[HST.out,show x+y-x=y by omega]
    have hpk:pickB n m W P x y=true↔W x≤P y:=by unfold pickB;simp only[decide_eq_true_eq];omega
    have e0:W (x+0)=W x:=rfl
    have e1:P (y+0)=P y:=rfl
    have e2:Z (x+0)=Z x:=rfl
    have e3:Y (y+0)=Y y:=rfl
    rw[e0]at ci0
    rw[e1]at cp0
    rw[e2]at ci1
    rw[e3]at cp1
    obtain⟨a,ha⟩:∃a,a=W x:=⟨_,rfl⟩
    obtain⟨b,hb⟩:∃b,b=P y:=⟨_,rfl⟩
    obtain⟨za,hza⟩:∃za,za=Z x:=⟨_,rfl⟩
    obtain⟨zb,hzb⟩:∃zb,zb=Y y:=⟨_,rfl⟩
    rw[←ha]at ci0 hv hpk
    rw[←hb]at cp0 hv hpk
    rw[←hza]at ci1 hz
    rw[←hzb]at cp1 hz
    have HNI:=Lib.hid nI';have HNP:=Lib.hid nP'
    have HNX:=Lib.hid hn;have HMY:=Lib.hid hm
    obtain⟨xy,hxy⟩:∃xy,xy=x+y:=⟨_,rfl⟩
    have hxy2:xy≤2000:=by omega
    rw[←hxy]at hst hv hz HO⊢
    have HXY:=Lib.hid hxy
    clear hI hP nI' nP' ha hb hza hzb hxy hn hm hr1 hs1 hr0 hs0 e0 e1 e2 e3
    have HR1:=Lib.hid er;have HS1:=Lib.hid es
    by_cases hab:a≤b
    ·have habi:(a:Int)≤(b:Int):=by omega
     rw[if_pos (hpk.2 hab)]at hst hv hz
     have HST2:=Lib.hid hst
     clear hpk hst
     go_wp2_with fail
     go_quiet (fail)
     obtain⟨wq,hwq⟩:∃wq,wq=wr.drewN nq:=⟨_,rfl⟩
     have HO2:Hid (OwnQ wq w.heap.size Ao co xy V U):=by rw[hwq];exact HO
     have HB2:Hid (Below w.heap.size wr wq):=by rw[hwq];exact Lib.hid (below_drewS _ _ _)
     have hszq:w.heap.size≤wq.heap.size:=by rw[hwq];exact hsz
     have d0:wq.cell? ⟨bi,oi,none⟩=some (.int .i64 (a:Int)):=by rw[hwq];exact ci0
     have d1:wq.cell? ⟨bi,oi+1,none⟩=some (.int .i64 za):=by rw[hwq];exact ci1
     obtain⟨A',c',w',q1,q2,q3⟩:=run_prc wq.drew w.heap.size Ao co xy V U HO2.out (a:Int) za (by rw[hv]) hz.symm (by omega) hszq
     rw[←hwq]
     have R1:=Lib.hid q1;have O1:=Lib.hid q2;have B1:=Lib.hid (HB2.out.drew.trans q3)
     clear q1 q2 q3 hv hz hwq ci0 ci1 cp0 cp1
     go_wp2_with fail
     go_region_law ((refine step_app rfl (.tmp 44) (.tmp 48) 246 246 rfl (.slice Ao xy co) (.slice (some ⟨wq.heap.size,0,none⟩) 1 1) rfl rfl (.slice A' (xy+1) c') w' R1.out ?_))
     all_goals go_wp2
     all_goals(
      go_roundw
      case measure=>simp[slLen];omega
      refine⟨_,_,_,?_,rfl,rfl,rfl⟩
      refine⟨x+1,y,r1,by have:=HNX.out;have:=HR1.out;omega,s,HMY.out,_,_,A',_,rfl,_,rfl,c',by rw[HXY.out,show x+y+1=x+1+y by omega],by omega,hsc,Lib.hid (fun h=>by first|(cases h;done)|(split at h<;>cases h)),HAp,?_,?_,?_,?_,Lib.hid (HB.out.trans B1.out)⟩
      ·have hq:=HNI.out
       first|rw[if_pos (by assumption)]at hq|rw[if_neg (by assumption)]at hq|skip
       exact Lib.hid ((hq.below B1.out (Nat.le_refl _)).ext (fun t _=>by
        show W (x+(t+1))=W (x+1+t)∧Z (x+(t+1))=Z (x+1+t)
        rw[show x+(t+1)=x+1+t by omega];exact⟨rfl,rfl⟩))
      ·exact Lib.hid (HP.out.below B1.out (Nat.le_refl _))
      ·have h:=O1.out;rw[HXY.out,show x+y+1=x+1+y by omega]at h;exact Lib.hid h
      ·have h:=HST2.out;rw[HXY.out,show x+y+1=x+1+y by omega]at h;exact Lib.hid h)
    ·have habi:¬(a:Int)≤(b:Int):=by omega
     rw[if_neg (fun h=>hab (hpk.1 h))]at hst hv hz
     have HST2:=Lib.hid hst
     clear hpk hst
     go_wp2_with fail
     go_quiet (fail)
     obtain⟨wq,hwq⟩:∃wq,wq=wr.drewN nq:=⟨_,rfl⟩
     have HO2:Hid (OwnQ wq w.heap.size Ao co xy V U):=by rw[hwq];exact HO
     have HB2:Hid (Below w.heap.size wr wq):=by rw[hwq];exact Lib.hid (below_drewS _ _ _)
     have hszq:w.heap.size≤wq.heap.size:=by rw[hwq];exact hsz
     have d0:wq.cell? ⟨bp,op,none⟩=some (.int .i64 (b:Int)):=by rw[hwq];exact cp0
     have d1:wq.cell? ⟨bp,op+1,none⟩=some (.int .i64 zb):=by rw[hwq];exact cp1
     obtain⟨A',c',w',q1,q2,q3⟩:=run_prc wq.drew w.heap.size Ao co xy V U HO2.out (b:Int) zb (by rw[hv]) hz.symm (by omega) hszq
     rw[←hwq]
     have R1:=Lib.hid q1;have O1:=Lib.hid q2;have B1:=Lib.hid (HB2.out.drew.trans q3)
     clear q1 q2 q3 hv hz hwq ci0 ci1 cp0 cp1
     go_wp2_with fail
     go_region_law ((refine step_app rfl (.tmp 12) (.tmp 16) 246 246 rfl (.slice Ao xy co) (.slice (some ⟨wq.heap.size,0,none⟩) 1 1) rfl rfl (.slice A' (xy+1) c') w' R1.out ?_))
     all_goals go_wp2
     all_goals(
      go_roundw
      case measure=>simp[slLen];omega
      refine⟨_,_,_,?_,rfl,rfl,rfl⟩
      refine⟨x,y+1,r,HNX.out,s1,by have:=HMY.out;have:=HS1.out;omega,_,_,A',_,rfl,_,rfl,c',by rw[HXY.out,show x+y+1=x+(y+1) by omega],hrc,by omega,HAi,Lib.hid (fun h=>by first|(cases h;done)|(split at h<;>cases h)),?_,?_,?_,?_,Lib.hid (HB.out.trans B1.out)⟩
      ·exact Lib.hid (HI.out.below B1.out (Nat.le_refl _))
      ·have hq:=HNP.out
       first|rw[if_pos (by assumption)]at hq|rw[if_neg (by assumption)]at hq|skip
       exact Lib.hid ((hq.below B1.out (Nat.le_refl _)).ext (fun t _=>by
        show P (y+(t+1))=P (y+1+t)∧Y (y+(t+1))=Y (y+1+t)
        rw[show y+(t+1)=y+1+t by omega];exact⟨rfl,rfl⟩))
      ·have h:=O1.out;rw[HXY.out,show x+y+1=x+(y+1) by omega]at h;exact Lib.hid h
      ·have h:=HST2.out;rw[HXY.out,show x+y+1=x+(y+1) by omega]at h;exact Lib.hid h)
end Go.Proofs.YtgokdgcmkcmjeaaGreat
namespace Go.Proofs.YtgokdgcmkcmjeaaGreat
open Go.RowKit
def zK(n:Nat)(W:Nat→Nat)(Z:Nat→Int):Nat→Nat→Int
 |0=>Z
 |K+1=>mrgZ n (rowLen n K/2) W (prs (rowW n W K)) Z (fun _=> -1)
def RdX(w:World)(lo B:Nat)(ex:Option Nat)(A:Option Addr)(m:Nat)(W:Nat→Nat)(Z:Nat→Int):Prop:=
 ∃b o,A=some ⟨b,o,none⟩∧lo≤b∧b<B∧some b≠ex∧∀j,j<m*2→w.cell? ⟨b,o+j,none⟩=some (.int .i64 (parN W Z j))
theorem RdX.rd{w:World}{lo B m:Nat}{ex:Option Nat}{A:Option Addr}{W:Nat→Nat}{Z:Nat→Int}(h:RdX w lo B ex A m W Z):RdQ w lo B A m W Z:=fun _=>by
 obtain⟨b,o,h1,h2,h3,_,h5⟩:=h
 exact⟨b,o,h1,h2,h3,h5⟩
def OwnR(w:World)(base lo:Nat)(A:Option Addr)(c k n:Nat)(W:Nat→Nat)(Z:Nat→Int):Prop:=
 ∃xs,w.ownsRow base 246 1 (.slice A k c) k xs∧∀K,K<k→∃AK cK,xs[K]?=some (.slice AK (rowLen n K) cK)∧rowLen n K≤cK∧RdX w lo w.heap.size (Value.slice A k c).ownBlock AK (rowLen n K) (rowW n W K) (zK n W Z K)
def RdR(w:World)(lo B:Nat)(A:Option Addr)(k n:Nat)(W:Nat→Nat)(Z:Nat→Int):Prop:=
 ∃b o,A=some ⟨b,o,none⟩∧lo≤b∧b<B∧∀K,K<k→∃AK cK,w.cell? ⟨b,o+K,none⟩=some (.slice AK (rowLen n K) cK)∧rowLen n K≤cK∧RdQ w lo B AK (rowLen n K) (rowW n W K) (zK n W Z K)
theorem OwnR.rd{w:World}{base lo c k n:Nat}{A:Option Addr}{W:Nat→Nat}{Z:Nat→Int}(h:OwnR w base lo A c k n W Z)(hk:0<k)(hb:lo≤base):RdR w lo w.heap.size A k n W Z:=by
 obtain⟨xs,h1,h2⟩:=h
 have hs:=SrcL.of_own h1
 obtain⟨b,o,e,hlt,hc⟩:=hs.2 hk
 refine⟨b,o,e,Nat.le_trans hb (own_geS h1 b (by rw[e];rfl)),hlt,fun K hK=>?_⟩
 obtain⟨AK,cK,q1,q2,q3⟩:=h2 K hK
 exact⟨AK,cK,hc K _ q1,q2,q3.rd⟩
theorem OwnR.after{w w':World}{base lo c k n:Nat}{A:Option Addr}{W:Nat→Nat}{Z:Nat→Int}(h:OwnR w base lo A c k n W Z)(hb:Below w.heap.size w w'):OwnR w' base lo A c k n W Z:=by
 obtain⟨xs,h1,h2⟩:=h
 have hg:w.grownBy w' none:=⟨hb.os,hb.tape,hb.output,hb.size,fun k hk _=>hb.block k hk⟩
 refine⟨xs,h1.kept hg (by cases (Value.slice A k c).ownBlock<;>simp),fun K hK=>?_⟩
 obtain⟨AK,cK,q1,q2,b,o,q3,q4,q5,q6,q7⟩:=h2 K hK
 have hs:=hb.size
 exact⟨AK,cK,q1,q2,b,o,q3,q4,by omega,q6,fun j hj=>by rw[hb.cell (p:=⟨b,o+j,none⟩) q5];exact q7 j hj⟩
theorem infoRowP:(Tryz.prog.info? 246).map (fun i=>(i.zero,i.size,i.bytes))=some (some (.slice none 0 0),1,24):=by kernel_rfl
theorem run_row(w:World)(base lo:Nat)(A:Option Addr)(c k n:Nat)(W:Nat→Nat)(Z:Nat→Int)(h:OwnR w base lo A c k n W Z)(AK:Option Addr)(cK:Nat)(hcK:rowLen n k≤cK)(hr:RdX w lo w.heap.size (Value.slice A k c).ownBlock AK (rowLen n k) (rowW n W k) (zK n W Z k))(m:Nat)(hm:m=rowLen n k)(hk:k≤1000)(hbase:base≤w.heap.size):
  ∃A' c' w',(Builtin.append_ #[244,244] 244 #[.slice A k c,.slice (some ⟨w.heap.size,0,none⟩) 1 1]).run Tryz.prog (w.alloc (.cells #[.slice AK m cK] 246))=.ok (.slice A' (k+1) c') w'∧
   OwnR w' base lo A' c' (k+1) n W Z∧Below base w w':=by
 subst hm
 obtain⟨xs,h1,h2⟩:=h
 obtain⟨U,hU⟩:∃U,U=w.alloc (.cells #[.slice AK (rowLen n k) cK] 246):=⟨_,rfl⟩
 have hUs:U.heap.size=w.heap.size+1:=by rw[hU];simp
 have hUb:Below w.heap.size w U:=by rw[hU];exact(Below.refl _ _).alloc (Nat.le_refl _) _
 have hown:U.ownsRow base 246 1 (.slice A k c) k xs:=by rw[hU];exact h1.alloc _
 have hsrc:=SrcL.new w 1 1 #[.slice AK (rowLen n k) cK] 246 rfl
 rw[←hU]at hsrc
 obtain⟨i0,hi,hz0,hz1,hz2⟩:=info_parts infoRowP
 have hcells:∀j u,([Value.slice AK (rowLen n k) cK]:List Value)[j]?=some u→U.cell? ((⟨w.heap.size,0,none⟩:Addr).add j)=some u:=by
  intro j u hu
  obtain⟨b2,o2,e,_,hc2⟩:=hsrc.2 (by omega)
  injection e with e
  injection e with e1 e2 e3
  subst e1;subst e2
  have e:(⟨w.heap.size,0,none⟩:Addr).add j=⟨w.heap.size,0+j,none⟩:=by unfold Addr.add;split<;>simp_all
  rw[e];exact hc2 j u hu
 obtain⟨v',w',r1,r2,r3,_,r5⟩:=run_append_own_at (P:=Tryz.prog) U base 244 244 246 i0 _ 1 24 Tryz.underlying244 hi hz0 hz1 hz2 rfl (by decide) (.slice A k c) k xs hown ⟨w.heap.size,0,none⟩ 1 1 _ rfl hcells
  (fun u hu=>by simp at hu;subst hu;rfl) (by unfold maxLen;omega) (by omega) (by omega)
 have hv:∃A' c',v'=.slice A' (k+1) c':=by
  rcases r2.2 with⟨_,h⟩|⟨g,cap,cur,rfl,_⟩
  ·omega
  ·exact⟨_,_,rfl⟩
 obtain⟨A',c',rfl⟩:=hv
 have hlt:∀d,d<w.heap.size→some d≠(Value.slice A k c).ownBlock→w'.heap[d]?=w.heap[d]?∧some d≠(Value.slice A' (k+1) c').ownBlock:=by
  intro d hd hdn
  refine⟨(r3.block d (by omega) hdn).trans (hUb.block d hd),fun e=>?_⟩
  rcases r5 with r5|r5
  ·exact hdn (e.trans r5)
  ·rw[←e,hUs]at r5;injection r5 with r5;omega
 have hsz:w.heap.size≤w'.heap.size:=by have:=r3.size;omega
 have hl:xs.length=k:=by have:=h1.1;omega
 have hmove:∀(B:Option Addr) (V:Nat→Nat) (Y:Nat→Int) (q:Nat),RdX w lo w.heap.size (Value.slice A k c).ownBlock B q V Y→RdX w' lo w'.heap.size (Value.slice A' (k+1) c').ownBlock B q V Y:=fun B V Y q ⟨b,o,q3,q4,q5,q6,q7⟩=>by
  obtain⟨p1,p2⟩:=hlt b q5 q6
  exact⟨b,o,q3,q4,by omega,p2,fun j hj=>by rw[World.cell?_of_block (a:=⟨b,o+j,none⟩) p1];exact q7 j hj⟩
 refine⟨A',c',w',(by rw[←hU];exact r1),⟨xs++[.slice AK (rowLen n k) cK],r2,fun K hK=>?_⟩,((hUb.mono hbase).grown r3 (by omega) (own_geS hown))⟩
 by_cases e:K=k
 ·subst e
  exact⟨AK,cK,by rw[List.getElem?_append_right (by omega),hl];simp,hcK,hmove _ _ _ _ hr⟩
 ·obtain⟨B,d,q1,q2,q3⟩:=h2 K (by omega)
  exact⟨B,d,by rw[List.getElem?_append_left (by omega)];exact q1,q2,hmove _ _ _ _ q3⟩
theorem row_new4{w:World}{lo lo1 g:Nat}{ex:Option Nat}{A:Option Addr}{n m k p:Nat}{W V:Nat→Nat}{Z:Nat→Int}(h:RdQ w lo1 w.heap.size A (n+m/2) (mrg n (m/2) W (prs V)) (mrgZ n (m/2) W (prs V) Z (fun _=> -1)))(hm:m=rowLen n p)(hV:V=rowW n W p)(hk:k=p+1)
  (hn:0<n) (hlo:lo≤lo1) (hg:g<lo1) (hex:ex=some g):RdX w lo w.heap.size ex A (rowLen n k) (rowW n W k) (zK n W Z k):=by
 subst hk;subst hV;subst hm;subst hex
 obtain⟨b,o,h1,h2,h3,h4⟩:=h (by omega)
 exact⟨b,o,h1,by omega,h3,by simp;omega,h4⟩
theorem rows_any(w:World)(lo:Nat)(A:Option Addr)(c n:Nat)(W:Nat→Nat)(Z:Nat→Int)(hr:RdQ w lo w.heap.size A n W Z)(hlo:lo≤w.heap.size)(hc:n≤c)(hA:A=none→c=0)(L:Nat)(hL1:1≤L)(hL2:L≤15)(hn2:2≤n)(hn4:n≤400)(hW:∀i,i<n→W i≤1073741824):
  Calls Tryz.prog 169 #[.slice A n c,.int .i64 (L:Int)] w fun e w'=>∃A' c',e=.returned (.slice A' L c')∧Below w.heap.size w w'∧RdR w' lo w'.heap.size A' L n W Z:=by
 have HR:=Lib.hid hr;have HA:=Lib.hid hA;have HW:=Lib.hid hW
 have hown0:OwnR (w.alloc (.cells #[.slice A n c] 246)) w.heap.size lo (some ⟨w.heap.size,0,none⟩) 1 1 n W Z:=by
  refine⟨[.slice A n c],⟨rfl,.inr ⟨w.heap.size,1,_,rfl,Nat.le_refl _,heap_alloc_new w _,Nat.le_refl _,by unfold maxLen;omega,rfl,rfl⟩⟩,fun K hK=>?_⟩
  obtain rfl:K=0:=by omega
  obtain⟨b,o,h1,h2,h3,h4⟩:=hr (by omega)
  exact⟨A,c,rfl,hc,b,o,h1,h2,by simp;omega,by simp[Value.ownBlock];omega,fun j hj=>by rw[((Below.refl w.heap.size w).alloc (Nat.le_refl _) _).cell (p:=⟨b,o+j,none⟩) h3];exact h4 j hj⟩
 have hbl:Below w.heap.size w (w.alloc (.cells #[.slice A n c] 246)):=(Below.refl _ w).alloc (Nat.le_refl _) _
 obtain⟨u,hu⟩:∃u,u=w.alloc (.cells #[.slice A n c] 246):=⟨_,rfl⟩
 rw[←hu]at hown0 hbl
 have HU:=Lib.hid hu;have HB0:=Lib.hid hbl;have HO0:=Lib.hid hown0
 clear hr hA hW hu hown0 hbl
 go_enter Tryz.func169,Tryz.ntmps169
 go_wp2
 rw[←HU.out]
 go_loopw [5] (fun vl wr=>∃(k:Nat) (Al:Option Addr) (cl:Nat),1≤k∧k≤L∧vl=.slice Al k cl∧Hid (OwnR wr w.heap.size lo Al cl k n W Z)∧Hid (Below w.heap.size w wr)) (fun vl _=>L-slLen vl)
 case atStart=>exact⟨1,_,1,Nat.le_refl _,hL1,rfl,HO0,HB0⟩
 case round=>
  obtain⟨k,Al,cl,hk1,hkL,rfl,HO,HB⟩:=hrel
  have hsz:=HB.out.size
  by_cases hlt:k<L
  ·have hlti:(k:Int)<(L:Int):=by omega
   obtain⟨p,hp⟩:∃p,p=k-1:=⟨_,rfl⟩
   have ep:(k:Int)-1=(p:Int):=by omega
   have hpk:p<k:=by omega
   have hrd:=OwnR.rd HO.out (by omega) hlo
   obtain⟨b,o,rfl,hb1,hb2,hcc⟩:=hrd
   obtain⟨AK,cK,c1,hcK,hrK⟩:=hcc p hpk
   have hfew:=rowLen_few hn2 hn4 p
   have hbd:∀j,j<rowLen n p→rowW n W p j≤70368744177664:=fun j hj=>by
    have h1:=row_le HW.out p j hj
    have h2:2^p*1073741824≤2^15*1073741824:=Nat.mul_le_mul_right _ (Nat.pow_le_pow_right (by decide) (by omega))
    omega
   obtain⟨m,hm⟩:∃m,m=rowLen n p:=⟨_,rfl⟩
   rw[←hm]at c1 hcK hrK hfew hbd
   have HRK:=Lib.hid hrK;have HBD:=Lib.hid hbd;have HM:=Lib.hid hm;have HP:=Lib.hid hp
   obtain⟨V,hV⟩:∃V,V=rowW n W p:=⟨_,rfl⟩
   obtain⟨Y,hY⟩:∃Y,Y=zK n W Z p:=⟨_,rfl⟩
   rw[←hV,←hY]at HRK
   rw[←hV]at HBD
   have HV:=Lib.hid hV
   have hm0:m≤1000:=by omega
   have hkp:k=p+1:=by omega
   have hrl:rowLen n k=n+m/2:=by rw[hkp,hm];rfl
   have HRL:=Lib.hid hrl;have HK:=Lib.hid hkp
   clear hcc hrK hbd hm hp hV hY hkp hrl
   go_wp2_with (first
    |(go_at_call 186;refine(pairUp_any _ lo AK cK m V Y HRK.out hm0 HBD.out).mono ?_;rintro e w1 ⟨Ap,cp,rfl,hb3,hcp,hAp,hpr⟩;have HB3:=Lib.hid hb3;have HPR:=Lib.hid hpr;have HAP:=Lib.hid hAp;have hsz1:=hb3.size;clear hb3 hpr hAp)
    |(go_at_call 185;refine(merge4_any _ lo A c n W Z ((HR.out.below (HB.out.trans (HB3.out.mono hsz)) (Nat.le_refl _)).more (Nat.le_refl _) (Nat.le_trans hsz hsz1)) hc HA.out Ap cp (m/2) _ _ (HPR.out.more (by omega) (Nat.le_refl _)) hcp HAP.out (by omega)).mono ?_;rintro e w2 ⟨Am,cm,rfl,hb4,hcm,hAm,hmr⟩;have HB4:=Lib.hid hb4;have HMR:=Lib.hid hmr;have hsz2:=hb4.size;clear hb4 hmr hAm;obtain⟨A',c',w',q1,q2,q3⟩:=run_row w2 w.heap.size lo _ cl k n W Z (HO.out.after (HB3.out.trans (HB4.out.mono hsz1))) Am cm (by rw[HRL.out];exact hcm) (row_new4 (g:=b) HMR.out HM.out HV.out HK.out (by omega) (by omega) (by omega) rfl) (n+m/2) HRL.out.symm (by omega) (by omega);have Q1:=Lib.hid q1;have Q2:=Lib.hid q2;have Q3:=Lib.hid q3;clear q1 q2 q3)
    |(at_builtin;refine wpList_append_run rfl (.tmp 12) (.tmp 22) 244 rfl (.slice (some ⟨b,o,none⟩) k cl) (.slice (some ⟨w2.heap.size,0,none⟩) 1 1) (.slice A' (k+1) c') w' rfl rfl Q1.out ?_))
   go_roundw
   case rel=>exact⟨k+1,A',c',by omega,by omega,rfl,Q2,Lib.hid ((HB.out.trans (HB3.out.mono hsz)).trans ((HB4.out.mono (Nat.le_trans hsz hsz1)).trans Q3.out))⟩
   case measure=>simp[slLen];omega
  ·obtain rfl:k=L:=by omega
   have hlti:¬(k:Int)<(k:Int):=by omega
   go_wp2
   go_ret
   exact⟨Al,⟨cl,rfl⟩,HB.out,OwnR.rd HO.out (by omega) hlo⟩
end Go.Proofs.YtgokdgcmkcmjeaaGreat
namespace Go.Proofs.YtgokdgcmkcmjeaaGreat
open Go.RowKit Go.Shelf
attribute [local go_sem] Oper.semAt_some
def KpS(S:Nat→Prop)(W W':World):Prop:=∀k,S k→W'.heap[k]?=W.heap[k]?
theorem KpS.refl(S:Nat→Prop)(W:World):KpS S W W:=fun _ _=>rfl
theorem KpS.tr{S:Nat→Prop}{A B C:World}(h:KpS S A B)(k:KpS S B C):KpS S A C:=fun i hi=>(k i hi).trans (h i hi)
theorem KpS.cell{S:Nat→Prop}{W W':World}(h:KpS S W W'){p:Addr}(hp:S p.block):W'.cell? p=W.cell? p:=by
 simp only[World.cell?,h _ hp]
theorem bwd1_in(F:Fence)(n:Nat)(h35:F.fn 196)(hro:F.round=none)(hn:1≤n)(l Bs b o len cap:Nat)(As:Nat→Option Addr)(ms cs:Nat→Nat)(S:Nat→Prop)(hS1:S Bs)(hS2:S b)(hlen:len≤100)(J:Nat→World→Prop)
  (hY:∀j W1,J j W1→j<len→YieldAt F (n-1) Tryz.prog l #[.int .i64 ((len-1-j:Nat):Int),.slice (As (len-1-j)) (ms (len-1-j)) (cs (len-1-j))] W1 fun e W'=>e=.returned (.bool true)∧J (j+1) W'∧KpS S W1 W')
  (W:World) (hBs:W.cell? ⟨Bs,0,none⟩=some (.slice (some ⟨b,o,none⟩) len cap)) (hc:∀K,K<len→W.cell? ⟨b,o+K,none⟩=some (.slice (As K) (ms K) (cs K))) (h0:J 0 W):
  CallsIn F n Tryz.prog 196 #[.func (.yield l) #[] #[],.pointer (some ⟨Bs,0,none⟩)] W fun e W'=>(∃v,e=.returned v)∧J len W':=by
 refine callsIn_of_wp Tryz.func196 rfl h35 ?_ hro
 simp only[Tryz.ntmps196,List.size_toArray,List.length_cons,List.length_nil,Nat.reduceAdd,Nat.reduceSub,Array.replicate_succ,Array.replicate_zero,List.push_toArray,List.append_toArray,List.nil_append,List.cons_append]
 gi_wp2
 gi_loopw [3] (fun i wr=>∃j:Nat,j≤len∧i=.int .i64 ((len:Int)-1-(j:Int))∧J j wr∧KpS S W wr) (fun i _=>(intOf i+1).toNat)
 case atStart=>exact⟨0,Nat.zero_le _,val_int (by omega),h0,KpS.refl _ _⟩
 case round=>
  obtain⟨j,hj,rfl,hJs,hk⟩:=hrel
  by_cases hlt:j<len
  ·obtain⟨p,hp⟩:∃p,p=len-1-j:=⟨_,rfl⟩
   have ep:(len:Int)-1-(j:Int)=(p:Int):=by omega
   have hpl:p<len:=by omega
   have hbx:=(hk.cell (p:=⟨Bs,0,none⟩) hS1).trans hBs
   have hcx:=(hk.cell (p:=⟨b,o+p,none⟩) hS2).trans (hc p hpl)
   obtain⟨fn,tmps,assign,body,hy,hR⟩:=hY j wr hJs hlt
   rw[←hp]at hy
   have hpp:(0:Int)≤(p:Int):=by omega
   rw[ep]
   have HP:=Lib.hid hp;have HK:=Lib.hid hk
   clear hc hY hBs hp ep hk
   gi_wp2
   refine hR.mono ?_
   rintro e W3 ⟨rfl,hJ3,hk3⟩
   have HK3:=Lib.hid hk3
   clear hk3
   gi_wp2
   go_roundw
   case rel=>exact⟨j+1,by omega,val_int (by have:=HP.out;omega),hJ3,HK.out.tr HK3.out⟩
   case measure=>simp[intOf]
  ·obtain rfl:j=len:=by omega
   have hneg:¬(0:Int)≤(j:Int)-1-(j:Int):=by omega
   clear hc hY hBs
   gi_wp2
   go_end0
   exact⟨⟨_,rfl⟩,hJs⟩
theorem bwd_in(F:Fence)(n:Nat)(h27:F.fn 184)(hro:F.round=none)(a:Option Addr)(len cap:Nat)(w:World):
  CallsIn F n Tryz.prog 184 #[.slice a len cap] w fun e w'=>e=.returned (.func (.func 196) #[] #[.pointer (some ⟨w.heap.size,0,none⟩)])∧w'=w.alloc (.cells #[.slice a len cap] 244):=by
 refine callsIn_of_wp Tryz.func184 rfl h27 ?_ hro
 simp only[Tryz.ntmps184,List.size_toArray,List.length_cons,List.length_nil,Nat.reduceAdd,Nat.reduceSub,Array.replicate_succ,Array.replicate_zero,List.push_toArray,List.append_toArray,List.nil_append,List.cons_append]
 gi_wp2
 go_ret
 exact⟨rfl,rfl⟩
theorem bwd_tied(F:Fence)(n:Nat)(h35:F.fn 196)(hro:F.round=none)(hn:1≤n)(Bs b o len cap:Nat)(As:Nat→Option Addr)(ms cs:Nat→Nat)(S:Nat→Prop)(hS1:S Bs)(hS2:S b)(hlen:len≤100)(w:World)(hBs:w.cell? ⟨Bs,0,none⟩=some (.slice (some ⟨b,o,none⟩) len cap))(hB:Bs<w.heap.size)(hb:b<w.heap.size)
  (hc:∀K,K<len→w.cell? ⟨b,o+K,none⟩=some (.slice (As K) (ms K) (cs K))):
  SeqTied F n Tryz.prog 196 #[.pointer (some ⟨Bs,0,none⟩)] (fun j=>#[.int .i64 ((len-1-j:Nat):Int),.slice (As (len-1-j)) (ms (len-1-j)) (cs (len-1-j))]) (KpS S) len w:=fun l J W hW hY h0=>
 bwd1_in F n h35 hro hn l Bs b o len cap As ms cs S hS1 hS2 hlen J hY W ((hW.cell hB).trans hBs) (fun K hK=>(hW.cell (p:=⟨b,o+K,none⟩) hb).trans (hc K hK)) h0
end Go.Proofs.YtgokdgcmkcmjeaaGreat
namespace Go.Proofs.YtgokdgcmkcmjeaaGreat
open Go.RowKit Go.Shelf
attribute [local go_sem] Oper.semAt_some
def itK(n:Nat)(W:Nat→Nat):Nat→Nat→Bool
 |0,_=>true
 |K+1,t=>pickB n (rowLen n K/2) W (prs (rowW n W K)) (takeI n W (K+1) t) (t-takeI n W (K+1) t)
theorem takeI_succ(n:Nat)(W:Nat→Nat):∀K t,takeI n W K (t+1)=if itK n W K t=true then takeI n W K t+1 else takeI n W K t
 |0,_=>rfl
 |_+1,_=>rfl
theorem zK_eq(n:Nat)(W:Nat→Nat)(Z:Nat→Int):∀K t,zK n W Z K t=if itK n W K t=true then Z (takeI n W K t)else-1
 |0,_=>rfl
 |_+1,_=>rfl
def capN(n:Nat):Nat→Nat
 |0=>0
 |K+1=>rowLen n K
theorem takeI_bd(n:Nat)(W:Nat→Nat):∀K t,t≤rowLen n K→takeI n W K t≤n∧takeI n W K t≤t∧2*(t-takeI n W K t)≤capN n K
 |0,t,h=>⟨h,Nat.le_refl _,by show 2*(t-t)≤0;omega⟩
 |K+1,t,h=>by
  have hb:=stepI_bd (n:=n) (m:=rowLen n K/2) (w:=W) (p:=prs (rowW n W K)) t h
  refine⟨hb.1,hb.2.2,?_⟩
  show 2*(t-stepI n (rowLen n K/2) W (prs (rowW n W K)) t)≤rowLen n K
  omega
theorem takeI_zero(n:Nat)(W:Nat→Nat):∀K,takeI n W K 0=0
 |0=>rfl
 |_+1=>rfl
theorem takeI_mono(n:Nat)(W:Nat→Nat)(K t:Nat):∀d,takeI n W K t≤takeI n W K (t+d)
 |0=>Nat.le_refl _
 |d+1=>by
  have ih:=takeI_mono n W K t d
  rw[←Nat.add_assoc,takeI_succ]
  split<;>omega
def remN(n:Nat)(W:Nat→Nat):Nat→Nat→Nat→Nat
 |0,_,_=>0
 |K+1,T,i=>cntN n W K T i
theorem rem_step(n:Nat)(W:Nat→Nat)(i:Nat):∀K T,remN n W (K+1) T i=(if i<takeI n W K T then 1 else 0)+remN n W K (2*(T-takeI n W K T)) i
 |0,_=>rfl
 |_+1,_=>rfl
def cntY(F:Nat→Nat)(N:Nat)(c:Nat→Nat)(s:Nat):Nat:=if s<N∧0<F s then c (rankN F N s)else 0
theorem cntY_at{F:Nat→Nat}{N k:Nat}(hk:k<nI F N)(c:Nat→Nat):cntY F N c ((itemsL F N).getD k 0)=c k:=by
 have h:=rank_of hk
 unfold cntY
 rw[if_pos h.2,h.1]
theorem cntY_ext{F:Nat→Nat}{N:Nat}{c d:Nat→Nat}(h:∀i,i<nI F N→c i=d i)(s:Nat):cntY F N c s=cntY F N d s:=by
 unfold cntY
 split
 ·rename_i hs
  exact h _ (rank_at hs.1 hs.2).1
 ·rfl
theorem cntY_upd{F:Nat→Nat}{N k:Nat}(hk:k<nI F N)(c:Nat→Nat)(x:Nat)(hx:x=c k+1)(d:Nat→Nat)(hd:∀i,d i=if i=k then c i+1 else c i):upd (cntY F N c) ((itemsL F N).getD k 0) x=cntY F N d:=by
 have h:=rank_of hk
 funext i
 unfold upd cntY
 by_cases e:i=(itemsL F N).getD k 0
 ·subst e
  rw[if_pos rfl,if_pos h.2,h.1,hd,if_pos rfl];exact hx
 ·rw[if_neg e]
  by_cases hi:i<N∧0<F i
  ·rw[if_pos hi,if_pos hi,hd,if_neg]
   intro h2
   have hr:=rank_at hi.1 hi.2
   rw[h2]at hr
   exact e hr.2.symm
  ·rw[if_neg hi,if_neg hi]
theorem cntY_len{F:Nat→Nat}{N L:Nat}(h2:2≤nI F N){s:Nat}(hs:s<N):cntY F N (cntN (nI F N) (itemW F N) (L-1) (2*nI F N-2)) s=lenB F N L s:=by
 unfold cntY lenB
 by_cases h:0<F s
 ·rw[if_pos ⟨hs,h⟩,if_neg (by omega),if_neg (by omega)]
 ·rw[if_neg (fun hh=>h hh.2),if_pos (by omega)]
theorem grown_blk{W W':World}{row:Option Nat}{B k:Nat}(hg:W.grownBy W' row)(hr:∀r,row=some r→B≤r∧∃o:Obj,W.heap[r]?=some o∧o.isCells=false)(hk:k<B)(hs:B≤W.heap.size):W'.heap[k]?=W.heap[k]?:=
 hg.block k (by omega) (fun e=>by have:=(hr k e.symm).1;omega)
theorem rowLen_ge4(n:Nat):∀K,n≤rowLen n K
 |0=>Nat.le_refl _
 |_+1=>Nat.le_add_right _ _
def SKp(lo B:Nat)(k:Nat):Prop:=(lo≤k∧k<B)∨k=B+2
def CntI(w u:World)(g N cN n L:Nat)(F:Nat→Nat)(lo:Nat)(j:Nat)(W:World):Prop:=
 Boxed W w.heap.size 22 (.slice (some ⟨g,0,none⟩) N cN)∧KpS (SKp lo w.heap.size) u W∧Below g w W∧u.heap.size≤W.heap.size∧
 ∃(T:Nat) (c:Nat→Nat),Boxed W (w.heap.size+1) 3 (.int .i64 (T:Int))∧T≤capN n (L-j)∧(∀i,i<n→c i+remN n (itemW F N) (L-j) T i=cntN n (itemW F N) (L-1) (2*n-2) i)∧RowW W g N (cntY F N c)
theorem CntI.own(w u:World)(g N cN n L:Nat)(F:Nat→Nat)(lo:Nat)(hu:u.heap.size=w.heap.size+3)(hg:g<w.heap.size):OwnFrom u.heap.size (CntI w u g N cN n L F lo):=by
 rintro j W W' row ⟨h1,h2,h3,h4,T,c,h5,h6,h7,cur,h8,h9⟩ hgr hr
 have hk:∀k,k<u.heap.size→W'.heap[k]?=W.heap[k]?:=fun k hk=>grown_blk hgr hr hk h4
 refine⟨(hk _ (by omega)).trans h1,fun k hS=>(hk k ?_).trans (h2 k hS),h3.grown hgr ?_ (fun r e=>?_),Nat.le_trans h4 hgr.size,T,c,(hk _ (by omega)).trans h5,h6,h7,cur,(hk _ (by omega)).trans h8,h9⟩
 ·rcases hS with hS|hS<;>omega
 ·omega
 ·have:=(hr r e).1;omega
theorem count4_any(w:World)(g N cN:Nat)(F:Nat→Nat)(hrow:RowW w g N (cntY F N (fun _=>0)))(lo:Nat)(A:Option Addr)(c n L:Nat)(hn:n=nI F N)(h2':2≤n)(hL1:1≤L)(hL2:L≤15)(hp:n≤2^L)(hN:N≤400)(hg:g<lo)
  (hr:RdR w lo w.heap.size A L n (itemW F N) (fun t=>(((itemsL F N).getD t 0:Nat):Int))) (T0:Nat) (hT0:T0=2*n-2):
  Calls Tryz.prog 168 #[.slice (some ⟨g,0,none⟩) N cN,.slice A L c,.int .i64 (T0:Int)] w fun e w'=>e=.returned (.tuple #[])∧Below g w w'∧RowW w' g N (lenB F N L):=by
 obtain⟨b,o,rfl,hb1,hb2,hcc⟩:=hr
 refine(callsIn_wide (n:=5)).1 ?_
 refine callsIn_of_wp_marks Tryz.func168 rfl trivial ?_ rfl
 simp only[Tryz.ntmps168,List.size_toArray,List.length_cons,List.length_nil,Nat.reduceAdd,Nat.reduceSub,Array.replicate_succ,Array.replicate_zero,List.push_toArray,List.append_toArray,List.nil_append,List.cons_append]
 have HROW:=Lib.hid hrow;have HCC:=Lib.hid hcc;have HN:=Lib.hid hn;have HP:=Lib.hid hp;have HT:=Lib.hid hT0
 clear hrow hcc hn hp hT0
 gi_wp2_with (refine⟨trivial,?_⟩;gi_at_call 184;refine(bwd_in _ _ trivial rfl _ _ _ _).mono ?_;rintro e w' ⟨rfl,rfl⟩)
 have HSK:g<w.heap.size:=by omega
 have hn4:n≤400:=by rw[HN.out];exact Nat.le_trans (nI_le F N) hN
 obtain⟨fA,hfA⟩:=Classical.axiomOfChoice (r:=fun(K:Nat) (y:Option Addr×Nat)=>K<L→w.cell? ⟨b,o+K,none⟩=some (.slice y.1 (rowLen n K) y.2)∧rowLen n K≤y.2∧RdQ w lo w.heap.size y.1 (rowLen n K) (rowW n (itemW F N) K) (zK n (itemW F N) (fun t=>(((itemsL F N).getD t 0:Nat):Int)) K)) (fun K=>by
  by_cases hK:K<L
  ·obtain⟨AK,cK,q⟩:=HCC.out K hK
   exact⟨(AK,cK),fun _=>q⟩
  ·exact⟨(none,0),fun h=>absurd h hK⟩)
 obtain⟨u,hu⟩:∃u,u=((w.alloc (.cells #[.slice (some ⟨g,0,none⟩) N cN] 22)).alloc (.cells #[.int .i64 (T0:Int)] 3)).alloc (.cells #[.slice (some ⟨b,o,none⟩) L c] 244):=⟨_,rfl⟩
 have husz:u.heap.size=w.heap.size+3:=by rw[hu];simp
 have hbu:Below w.heap.size w u:=by rw[hu];exact(((Below.refl _ w).alloc (Nat.le_refl _) _).alloc (by simp) _).alloc (by simp;omega) _
 have hx1:Boxed u w.heap.size 22 (.slice (some ⟨g,0,none⟩) N cN):=by rw[hu];exact((Boxed.new w _ _).alloc _).alloc _
 have hx2:Boxed u (w.heap.size+1) 3 (.int .i64 (T0:Int)):=by
  rw[hu]
  have h:=(Boxed.new (w.alloc (.cells #[.slice (some ⟨g,0,none⟩) N cN] 22)) 3 (.int .i64 (T0:Int))).alloc (.cells #[.slice (some ⟨b,o,none⟩) L c] 244)
  rwa[World.size_alloc]at h
 have hx3:u.cell? ⟨w.heap.size+1+1,0,none⟩=some (.slice (some ⟨b,o,none⟩) L c):=by
  rw[hu]
  have h:=(Boxed.new ((w.alloc (.cells #[.slice (some ⟨g,0,none⟩) N cN] 22)).alloc (.cells #[.int .i64 (T0:Int)] 3)) 244 (.slice (some ⟨b,o,none⟩) L c)).cell
  rwa[World.size_alloc,World.size_alloc]at h
 have hrowu:RowW u g N (cntY F N (fun _=>0)):=HROW.out.below hbu HSK
 rw[←hu]
 clear hu HCC
 refine wpIn_range_tied (L:=L) rfl (by omega) (gf:=196) (lb:=#[.pointer (some ⟨w.heap.size+1+1,0,none⟩)]) rfl trivial (enters_of Tryz.func196 (by kernel_rfl) rfl)
  (bwd_tied _ _ trivial rfl (by omega) (w.heap.size+1+1) b o L c (fun K=>(fA K).1) (rowLen n) (fun K=>(fA K).2) (SKp lo w.heap.size) (.inr rfl) (.inl ⟨hb1,hb2⟩) (by omega) u hx3 (by omega) (by omega) (fun K hK=>by
   rw[hbu.cell (p:=⟨b,o+K,none⟩) hb2];exact(hfA K hK).1))
  (fun h k=>h.tr k) (fun W l ob ob' hl _ _ _ k hS=>World.putObj_heap_other (by rcases hS with hS|hS<;>omega)) (fun _=>rfl)
  (CntI w u g N cN n L F lo) (CntI.own w u g N cN n L F lo husz HSK) ?start
  (fun j=>{tmps:=#[.slice (some ⟨g,0,none⟩) N cN,.slice (some ⟨b,o,none⟩) L c,.int .i64 (T0:Int),.pointer (some ⟨w.heap.size,0,none⟩),undef,.pointer (some ⟨w.heap.size+1,0,none⟩),undef,.slice (fA (L-1-j)).1 (rowLen n (L-1-j)) (fA (L-1-j)).2,undef,undef,undef,.slice (some ⟨b,o,none⟩) L c,
   .func (.func 196) #[] #[.pointer (some ⟨w.heap.size+1+1,0,none⟩)],.int .i64 ((L-1-j:Nat):Int),.slice (fA (L-1-j)).1 (rowLen n (L-1-j)) (fA (L-1-j)).2,undef,undef,undef,undef,undef,undef,undef,undef,undef,undef,undef,undef,undef,undef,undef,undef,undef,undef,undef,undef,undef,undef],defers:=[]}) ?assign ?body ?done
 case start=>
  refine⟨hx1,KpS.refl _ _,hbu.mono (by omega),Nat.le_refl _,T0,fun _=>0,hx2,?_,fun i hi=>?_,hrowu⟩
  ·have:=rowLen_enough (n:=n) hL1 HP.out
   obtain⟨K,rfl⟩:∃K,L=K+1:=⟨L-1,by omega⟩
   rw[HT.out]
   exact this
  ·obtain⟨K,rfl⟩:∃K,L=K+1:=⟨L-1,by omega⟩
   rw[HT.out,Nat.zero_add]
   rfl
 case assign=>
  intro l j W K hK
  gi_wp2
  exact hK
 case done=>
  rintro D W hD ⟨h1,h2,h3,h4,T,c',h5,h6,h7,h8⟩ hK
  gi_wp2
  refine⟨by simp,.inl ⟨_,_,rfl,run_takeDeferred hK,?_⟩⟩
  refine⟨_,results_none rfl _ _ _,rfl,h3.grown (grownBy_putObj' W D _) (by omega) (fun r e=>by cases e;omega),?_⟩
  have hgD:g≠D:=by omega
  obtain⟨cur,q1,q2⟩:=h8
  refine RowW.ext ⟨cur,(World.putObj_heap_other hgD).trans q1,q2⟩ fun s hs=>?_
  rw[←cntY_len (by rw[←HN.out];exact h2') hs,←HN.out]
  refine cntY_ext (fun i hi=>?_) s
  have h:=h7 i (by rw[HN.out];exact hi)
  rw[Nat.sub_self]at h
  exact h
 case body=>
  rintro l j W ⟨h1,h2,h3,h4,T,c',h5,h6,h7,h8⟩ hj
  obtain⟨K,hK⟩:∃K,K=L-1-j:=⟨_,rfl⟩
  rw[←hK]
  have hLj:L-j=K+1:=by omega
  have hKL:K<L:=by omega
  rw[hLj]at h6 h7
  obtain⟨q1,q2,q3⟩:=hfA K hKL
  obtain⟨AK,hAK⟩:∃AK,AK=(fA K).1:=⟨_,rfl⟩
  obtain⟨cK,hcK⟩:∃cK,cK=(fA K).2:=⟨_,rfl⟩
  rw[←hAK]at q1 q3⊢
  rw[←hcK]at q1 q2⊢
  have hfew:=rowLen_few h2' hn4 K
  have htk:T≤rowLen n K:=h6
  have hfin:=takeI_bd n (itemW F N) K T htk
  have hge:=rowLen_ge4 n K
  obtain⟨bk,ok,rfl,hlo,hbk,hcells⟩:=q3 (by omega)
  have hcW:∀i,i<rowLen n K*2→W.cell? ⟨bk,ok+i,none⟩=some (.int .i64 (parN (rowW n (itemW F N) K) (zK n (itemW F N) (fun t=>(((itemsL F N).getD t 0:Nat):Int)) K) i)):=fun i hi=>by
   rw[h2.cell (p:=⟨bk,ok+i,none⟩) (.inl ⟨hlo,hbk⟩),hbu.cell (p:=⟨bk,ok+i,none⟩) hbk];exact hcells i hi
  have hTc:T≤cK:=by omega
  have hT8:T≤800:=by omega
  obtain⟨m,hm⟩:∃m,m=rowLen n K:=⟨_,rfl⟩
  rw[←hm]at htk⊢
  have hb5:=h5.cell
  have hf5:=h5.frozen
  have HCW:=Lib.hid hcW;have HM:=Lib.hid hm;have H1:=Lib.hid h1;have H2:=Lib.hid h2;have H3:=Lib.hid h3;have H5:=Lib.hid h5;have H7:=Lib.hid h7;have H8:=Lib.hid h8;have HKK:=Lib.hid hK;have HFIN:=Lib.hid hfin;have HFA:=Lib.hid hfA
  clear hcW hm h1 h2 h3 h5 h7 h8 hK hfin hcells q1 q2 q3 hAK hcK hLj h6 hx1 hx2 hx3 hrowu hbu hfA hge
  gi_wp2
  gi_loopw [8,19] (fun v8 v19 wr=>∃t d:Nat,t≤T∧d≤2000∧v8=.int .i64 (d:Int)∧v19=.int .i64 (t:Int)∧Hid (d=2*(t-takeI n (itemW F N) K t))∧Hid (RowW wr g N (cntY F N (fun i=>c' i+if i<takeI n (itemW F N) K t then 1 else 0)))∧Hid (KeepsOthers W wr)∧Hid (∀k,k<u.heap.size→k≠g→wr.heap[k]?=W.heap[k]?)∧Hid (Below g w wr)∧u.heap.size≤wr.heap.size) (fun _ v19 _=>T-(intOf v19).toNat)
  case atStart=>exact⟨0,0,Nat.zero_le _,by omega,rfl,rfl,Lib.hid (by omega),Lib.hid (H8.out.ext fun s _=>cntY_ext (fun i _=>by rw[takeI_zero,if_neg (by omega)];rfl) s),Lib.hid (KeepsOthers.refl _),Lib.hid (fun _ _ _=>rfl),H3,h4⟩
  case round=>
   obtain⟨t,d,htT,hd2,rfl,rfl,HD,HR,HKO,HST,HB,hsz⟩:=hrel
   by_cases hlt:t<T
   ·have hlti:(t:Int)<(T:Int):=by omega
    have hgw:g<wr.heap.size:=by omega
    have hbw:w.heap.size<wr.heap.size:=by omega
    have hbkw:bk<wr.heap.size:=by omega
    have hsame:∀p:Addr,p.block<u.heap.size→p.block≠g→wr.cell? p=W.cell? p:=fun p hp hne=>by simp only[World.cell?,HST.out _ hp hne]
    have c1:=(hsame ⟨bk,ok+t*2,none⟩ (by show bk<_;omega) (by show bk≠g;omega)).trans (HCW.out (t*2) (by rw[←HM.out];omega))
    have c2:=(hsame ⟨bk,ok+(t*2+1),none⟩ (by show bk<_;omega) (by show bk≠g;omega)).trans (HCW.out (t*2+1) (by rw[←HM.out];omega))
    rw[parN_a]at c1
    rw[parN_b,zK_eq]at c2
    rw[←Nat.add_assoc]at c2
    have c3:=(hsame ⟨w.heap.size,0,none⟩ (by show w.heap.size<_;omega) (by show w.heap.size≠g;omega)).trans H1.out.cell
    obtain⟨x,hx⟩:∃x,x=rowW n (itemW F N) K t:=⟨_,rfl⟩
    rw[←hx]at c1
    have hts:=takeI_succ n (itemW F N) K t
    have hbd:=takeI_bd n (itemW F N) K (t+1) (by rw[←HM.out];omega)
    obtain⟨q,hq⟩:∃q,q=takeI n (itemW F N) K t:=⟨_,rfl⟩
    rw[←hq]at HD HR hts c2
    by_cases hit:itK n (itemW F N) K t=true
    ·rw[if_pos hit]at hts c2
     have hqn:q<n:=by omega
     have hrk:=rank_of (F:=F) (n:=N) (r:=q) (by rw[←HN.out];exact hqn)
     have hca:=cntY_at (F:=F) (N:=N) (k:=q) (by rw[←HN.out];exact hqn) (fun i=>c' i+if i<q then 1 else 0)
     have hup:=cntY_upd (F:=F) (N:=N) (k:=q) (by rw[←HN.out];exact hqn) (fun i=>c' i+if i<q then 1 else 0)
     have htot:=H7.out q hqn
     have hcl:=cnt_le n (itemW F N) (L-1) (2*n-2) q
     have hrem:=rem_step n (itemW F N) q K T
     have hmn:=takeI_mono n (itemW F N) K (t+1) (T-(t+1))
     rw[show t+1+(T-(t+1))=T by omega]at hmn
     rw[if_pos (by omega)]at hrem
     obtain⟨s,hs⟩:∃s,s=(itemsL F N).getD q 0:=⟨_,rfl⟩
     rw[←hs]at hrk hca hup c2
     have hsN:s<N:=hrk.2.1
     have c4:=HR.out.cell hsN
     have f4:=HR.out.frozen s
     obtain⟨y,hy⟩:∃y,y=c' q:=⟨_,rfl⟩
     simp only[if_neg (Nat.lt_irrefl q),Nat.add_zero]at hca
     rw[hca,←hy]at c4
     have hy15:y+1≤15:=by omega
     have hne:((s:Int)== -1)=false:=by simp
     have hset:=HR.out.set s (y+1)
     rw[show((y+1:Nat):Int)=(y:Int)+1 by omega]at hset
     have HSET:=Lib.hid hset;have HUP:=Lib.hid hup;have HTS:=Lib.hid hts;have HQ:=Lib.hid hq;have HY:=Lib.hid hy
     clear hx hts hbd hq hrk hca hup htot hcl hrem hmn hs hy hset hsame hit
     gi_wp2
     go_roundw
     case rel=>
      have hsu:(wr.setCell ⟨g,s,none⟩ (.int .u8 ((y:Int)+1))).heap.size=wr.heap.size:=by simp[World.setCell]
      refine⟨t+1,d,by omega,hd2,rfl,by go_num,Lib.hid ?_,Lib.hid ?_,Lib.hid ((HKO.out.trans (KeepsOthers.setCell _ _ _)).trans (KeepsOthers.alloc _ _)),Lib.hid (fun k hk hne=>?_),Lib.hid ((HB.out.setCell (p:=⟨g,s,none⟩) (Nat.le_refl _) _).alloc (by rw[hsu];omega) _),by rw[World.size_alloc,hsu];omega⟩
      ·rw[HTS.out,HD.out];omega
      ·have h:=HSET.out
       rw[HUP.out (y+1) (by rw[HY.out,if_neg (Nat.lt_irrefl q)]) (fun i=>c' i+if i<q+1 then 1 else 0) (fun i=>by
        by_cases e:i=q
        ·rw[if_pos e,if_pos (by omega),if_neg (by omega)]
        ·rw[if_neg e]
         by_cases e2:i<q
         ·rw[if_pos (by omega),if_pos e2]
         ·rw[if_neg (by omega),if_neg e2])]at h
       rw[HTS.out]
       exact h.below ((Below.refl _ _).alloc (Nat.le_refl _) _) (by rw[hsu];omega)
      ·exact((Below.heap_alloc _ _ k (by rw[hsu];omega)).trans (Below.heap_setCell wr _ _ k hne)).trans (HST.out k hk hne)
     case measure=>simp[intOf];omega
    ·rw[if_neg hit]at hts c2
     have hm1:((-1:Int)== -1)=true:=rfl
     have HTS:=Lib.hid hts;have HQ:=Lib.hid hq
     have hdd:=HD.out
     clear hx hts hq hsame hit c3
     gi_wp2
     go_roundw
     case rel=>
      refine⟨t+1,d+2,by omega,by omega,by go_num,by go_num,Lib.hid ?_,Lib.hid ?_,Lib.hid (HKO.out.trans (KeepsOthers.alloc _ _)),Lib.hid (fun k hk hne=>?_),Lib.hid (HB.out.alloc (by omega) _),by rw[World.size_alloc];omega⟩
      ·have h1:=HTS.out;have h2:=HD.out;have h3:=HQ.out
       have h4:=hbd.2.1
       have h5:q≤t:=by rw[h3];exact(takeI_bd n (itemW F N) K t (by rw[←HM.out];omega)).2.1
       rw[h1];omega
      ·rw[HTS.out]
       exact HR.out.below ((Below.refl _ _).alloc (Nat.le_refl _) _) hgw
      ·exact(Below.heap_alloc _ _ k (by omega)).trans (HST.out k hk hne)
     case measure=>simp[intOf];omega
   ·obtain rfl:t=T:=by omega
    have hlti:¬(t:Int)<(t:Int):=by omega
    have hb1w:w.heap.size+1<wr.heap.size:=by omega
    have e5:=HST.out (w.heap.size+1) (by omega) (by omega)
    have c5:wr.cell? ⟨w.heap.size+1,0,none⟩=some (.int .i64 (t:Int)):=by simp only[World.cell?,e5];exact hb5
    have f5:wr.frozen? ⟨w.heap.size+1,0,none⟩=false:=by simp only[World.frozen?,e5];exact hf5
    have HE5:=Lib.hid e5
    clear e5 hb5 hf5
    gi_wp2
    have hLj:L-(j+1)=K:=by have:=HKK.out;omega
    have hKp:KpS (SKp lo w.heap.size) W (wr.setCell ⟨w.heap.size+1,0,none⟩ (.int .i64 (d:Int))):=fun k hS=>by
     have hne:k≠w.heap.size+1:=by rcases hS with hS|hS<;>omega
     exact(Below.heap_setCell wr _ _ k hne).trans (HST.out k (by rcases hS with hS|hS<;>omega) (by rcases hS with hS|hS<;>omega))
    refine⟨HKO.out.trans (KeepsOthers.setCell _ _ _),hKp,?_,H2.out.tr hKp,HB.out.setCell (p:=⟨w.heap.size+1,0,none⟩) (by show g≤w.heap.size+1;omega) _,by simp[World.setCell];omega,d,(fun i=>c' i+if i<takeI n (itemW F N) K t then 1 else 0),?_,?_,fun i hi=>?_,HR.out.other (by show g≠w.heap.size+1;omega) _⟩
    ·exact(Below.heap_setCell wr _ _ _ (by show w.heap.size≠w.heap.size+1;omega)).trans ((HST.out _ (by omega) (by omega)).trans H1.out)
    ·exact Boxed.set _ (HE5.out.trans H5.out)
    ·rw[hLj,HD.out];exact HFIN.out.2.2
    ·rw[hLj,HD.out]
     have h:=H7.out i hi
     rw[rem_step]at h
     show(c' i+if i<takeI n (itemW F N) K t then 1 else 0)+remN n (itemW F N) K (2*(t-takeI n (itemW F N) K t)) i=_
     omega
end Go.Proofs.YtgokdgcmkcmjeaaGreat
