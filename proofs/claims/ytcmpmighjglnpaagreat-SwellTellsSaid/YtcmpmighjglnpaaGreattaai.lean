/-
  Words and walks.
-/
import Derived.StillTailTactics
import Derived.Test.YtcmpmighjglnpaaGreattaaa
import Derived.Test.YtcmpmighjglnpaaGreattaad
import Derived.Test.YtcmpmighjglnpaaGreattaag
import Derived.Test.YtcmpmighjglnpaaGreattaah
set_option maxRecDepth 100000
set_option maxHeartbeats 16000000
namespace Go.Proofs.YtcmpmighjglnpaaGreat
theorem tc_succ(f:Nat→Nat){m i:Nat}(hm:0<m)(h:f i=m):tcN f m (i+1)=tcN f m i+1:=by
 simp only[tcN];rw[if_pos ⟨by omega,h⟩]
theorem tc_mono(f:Nat→Nat)(m:Nat){a b:Nat}(h:a≤b):tcN f m a≤tcN f m b:=by
 induction b with
 |zero=>rw[show a=0 by omega];exact Nat.le_refl _
 |succ b ih=>
  rcases Nat.eq_or_lt_of_le h with h|h
  ·subst h;exact Nat.le_refl _
  ·exact Nat.le_trans (ih (by omega)) (Nat.le_add_right _ _)
theorem tc_lt(f:Nat→Nat){m i n:Nat}(hm:0<m)(h:f i=m)(hi:i<n):tcN f m i<tcN f m n:=by
 have h1:=tc_mono f m (show i+1≤n by omega)
 rw[tc_succ f hm h]at h1
 omega
theorem row_at(f:Nat→Nat){m i:Nat}(hm:0<m)(h:f i=m):∀n,i<n→(rowM f m n).getD (tcN f m i) 0=i
 |0,hi=>absurd hi (by omega)
 |n+1,hi=>by
  simp only[rowM]
  have hlen:(rowM f m n).length=tcN f m n:=rowM_length f hm n
  rcases Nat.eq_or_lt_of_le (Nat.le_of_lt_succ hi)with e|e
  ·subst e
   rw[if_pos h,List.getD_eq_getElem?_getD,List.getElem?_append_right (by omega),hlen,Nat.sub_self];rfl
  ·have:=tc_lt f hm h e
   rw[List.getD_eq_getElem?_getD,List.getElem?_append_left (by omega),←List.getD_eq_getElem?_getD]
   exact row_at f hm h n e
theorem rank_ex(f:Nat→Nat){m x:Nat}(hm:0<m):∀n,x<tcN f m n→∃i,i<n∧f i=m∧tcN f m i=x
 |0,h=>by simp[tcN]at h
 |n+1,h=>by
  by_cases h1:x<tcN f m n
  ·obtain⟨i,a,b,c⟩:=rank_ex f hm n h1
   exact⟨i,by omega,b,c⟩
  ·simp only[tcN]at h
   by_cases h2:0<f n∧f n=m
   ·rw[if_pos h2]at h;exact⟨n,by omega,h2.2,by omega⟩
   ·rw[if_neg h2]at h;omega
theorem code_rank{f:Nat→Nat}{N m i:Nat}(hm:0<m)(h15:m≤15)(h:f i=m):codeB f N i*pt m=sumTo f N (m-1)+tcN f m i*pt m:=by
 have h1:=codeB_st (n:=N) (f:=f) (i:=i) (by omega) (by omega)
 rw[h]at h1
 rw[h1]
 unfold stN
 rw[inN_cnt f hm]
theorem cnt_found{f:Nat→Nat}{N n x v:Nat}(h15:n+1≤15)(hx:x*pt (n+1)+sumTo f N n=v*pt (n+1))(h:x<tcN f (n+1) N):fndN f N v (n+1) N=some ((rowM f (n+1) N).getD x 0):=by
 have hp:=pt_pos h15
 obtain⟨i,hi,hf,hr⟩:=rank_ex f (by omega) N h
 have hc:=code_rank (N:=N) (by omega) h15 hf
 rw[hr,Nat.add_sub_cancel]at hc
 have hv:codeB f N i=v:=Nat.eq_of_mul_eq_mul_right hp (by omega)
 cases hF:fndN f N v (n+1) N with
 |none=>
  have:=fndN_none.1 hF i hi
  have h2:isB f N v (n+1) i=true:=decide_eq_true ⟨by omega,hf,hv⟩
  rw[this]at h2;cases h2
 |some j=>
  obtain⟨hj,hb⟩:=fndN_some hF
  obtain⟨_,hfj,hcj⟩:=of_decide_eq_true hb
  have hcj2:=code_rank (N:=N) (by omega) h15 hfj
  rw[Nat.add_sub_cancel,hcj]at hcj2
  have:tcN f (n+1) j=x:=Nat.eq_of_mul_eq_mul_right hp (by omega)
  rw[←this,row_at f (by omega) hfj N hj]
theorem cnt_noneT{f:Nat→Nat}{N n x v:Nat}(h15:n+1≤15)(hx:x*pt (n+1)+sumTo f N n=v*pt (n+1))(h:tcN f (n+1) N≤x):fndN f N v (n+1) N=none:=by
 have hp:=pt_pos h15
 cases hF:fndN f N v (n+1) N with
 |none=>rfl
 |some j=>
  exfalso
  obtain⟨hj,hb⟩:=fndN_some hF
  obtain⟨_,hfj,hcj⟩:=of_decide_eq_true hb
  have hcj2:=code_rank (N:=N) (by omega) h15 hfj
  rw[Nat.add_sub_cancel,hcj]at hcj2
  have:tcN f (n+1) j=x:=Nat.eq_of_mul_eq_mul_right hp (by omega)
  have:=tc_lt f (by omega) hfj hj
  omega
theorem cnt_bit{f:Nat→Nat}{N n a v b:Nat}(h15:n+1≤15)(h:a*pt n+sumTo f N n=v*pt n):(2*a+b)*pt (n+1)+sumTo f N n=(2*v+b)*pt (n+1):=by
 have hp:=pt_mul (show n≤n+1 by omega) h15
 rw[show n+1-n=1 by omega,Nat.pow_one]at hp
 rw[hp]at h
 have e1:a*(pt (n+1)*2)=2*a*pt (n+1):=by rw[Nat.mul_comm 2 a,Nat.mul_assoc,Nat.mul_comm 2]
 have e2:v*(pt (n+1)*2)=2*v*pt (n+1):=by rw[Nat.mul_comm 2 v,Nat.mul_assoc,Nat.mul_comm 2]
 rw[Nat.add_mul,Nat.add_mul]
 omega
theorem cnt_past{f:Nat→Nat}{N n x v:Nat}(hx:x*pt (n+1)+sumTo f N n=v*pt (n+1))(h:tcN f (n+1) N≤x):(x-tcN f (n+1) N)*pt (n+1)+sumTo f N (n+1)=v*pt (n+1):=by
 have e:sumTo f N (n+1)=sumTo f N n+inN f (n+1) N:=rfl
 rw[e,inN_cnt f (by omega),←hx]
 have:x*pt (n+1)=(x-tcN f (n+1) N)*pt (n+1)+tcN f (n+1) N*pt (n+1):=by rw[←Nat.add_mul,Nat.sub_add_cancel h]
 omega
theorem sumC_same{f:Nat→Nat}{n:Nat}(hn:n≤15):∀N,(∀i,i<N→f i≤n)→sumC f N 15=sumC f N n
 |0,_=>by rw[sumC_none,sumC_none]
 |N+1,h=>by
  rw[sumC_more,sumC_more,sumC_same hn N (fun i hi=>h i (by omega))]
  have:=h N (by omega)
  by_cases h0:0<f N
  ·rw[if_pos ⟨h0,by omega⟩,if_pos ⟨h0,this⟩]
  ·rw[if_neg (fun g=>h0 g.1),if_neg (fun g=>h0 g.1)]
theorem sumC_more_lt{f:Nat→Nat}{n i:Nat}(hn:n<f i)(h15:f i≤15):∀N,i<N→sumC f N n<sumC f N 15
 |0,h=>absurd h (by omega)
 |N+1,h=>by
  rw[sumC_more,sumC_more]
  rcases Nat.eq_or_lt_of_le (Nat.le_of_lt_succ h)with e|e
  ·subst e
   have:=sumC_mono f i (show n≤15 by omega)
   rw[if_neg (by omega),if_pos ⟨by omega,h15⟩];omega
  ·have:=sumC_more_lt hn h15 N e
   by_cases h0:0<f N∧f N≤n
   ·rw[if_pos h0,if_pos ⟨h0.1,by omega⟩];omega
   ·rw[if_neg h0];omega
theorem cnt_more{f:Nat→Nat}{N n v:Nat}(h15:∀j,j<N→f j≤15)(ha:allN f N≤32768)(ho:allN f N=32768∨usedN f N=0∨(usedN f N=1∧allN f N=16384))(hn:n≤15)(hv:v<2^n)(hs:sumTo f N n≤v*pt n):
  morN f N v n N=decide (sumC f N n<sumC f N 15):=by
 rw[Bool.eq_iff_iff,decide_eq_true_eq,morN_true]
 constructor
 ·rintro⟨i,hi,hb⟩
  obtain⟨h1,_⟩:=of_decide_eq_true hb
  exact sumC_more_lt h1 (h15 i hi) N hi
 ·intro hlt
  have hex:∃i,i<N∧n<f i:=by
   rcases Classical.em (∃i,i<N∧n<f i)with h|h
   ·exact h
   ·have:=sumC_same hn N (fun i hi=>Nat.le_of_not_lt fun g=>h ⟨i,hi,g⟩)
    omega
  obtain⟨i,hi,hni⟩:=hex
  have hfull:allN f N=32768→∃i,i<N∧onB f N v n i=true:=by
   intro hfull
   have hpn:=pt_pos hn
   have hlt2:v*pt n<32768:=by
    have h1:pt n*2^n=32768:=by
     rw[pt_mul hn (Nat.le_refl 15),show pt 15=1 from rfl,Nat.one_mul,←Nat.pow_add,show 15-n+n=15 by omega]
    have:=Nat.mul_lt_mul_of_pos_right hv hpn
    rw[Nat.mul_comm (2^n)]at this
    omega
   rw[allN_sum f N h15]at hfull
   obtain⟨k,hk,h0,hk15,g1,g2⟩:=sum_cover f N 15 (v*pt n) (by omega)
   have hnk:n<f k:=by
    rcases Nat.lt_or_ge n (f k)with h|h
    ·exact h
    ·have e1:=st_end hk rfl h0
     have e2:=sumTo_mono f N h
     omega
   refine⟨k,hk,decide_eq_true ⟨hnk,?_⟩⟩
   have hc:=codeB_st (n:=N) h0 hk15
   have hp:=pt_mul (show n≤f k by omega) hk15
   rw[←hc]at g1 g2
   have hpk:=pt_pos hk15
   have e3:v*pt n=v*2^(f k-n)*pt (f k):=by rw[hp,Nat.mul_assoc,Nat.mul_comm (pt (f k))]
   rw[e3]at g1 g2
   have e4:codeB f N k≤v*2^(f k-n):=Nat.le_of_mul_le_mul_right g1 hpk
   have e5:v*2^(f k-n)<codeB f N k+1:=Nat.lt_of_mul_lt_mul_right (a:=pt (f k)) (by rw[Nat.add_mul,Nat.one_mul];exact g2)
   have e6:codeB f N k=v*2^(f k-n):=by omega
   rw[e6,Nat.mul_div_cancel _ (Nat.two_pow_pos _)]
  rcases ho with ho|ho|ho
  ·exact hfull ho
  ·have:=used_none N ho i hi;omega
  ·rcases Nat.eq_zero_or_pos n with e|e
   ·subst e
    refine⟨i,hi,decide_eq_true ⟨hni,?_⟩⟩
    have:=fits_code hi h15 ha
    rw[Nat.sub_zero,Nat.div_eq_of_lt this]
    simp at hv;omega
   ·exfalso
    have h1:=(one_iff h15).2 ho (f i) (by have:=h15 i hi;omega)
    have h2:=tc_lt f (m:=f i) (by omega) rfl hi
    have h3:oneT (f i)=0:=by unfold oneT;rw[if_neg (by omega)]
    omega
end Go.Proofs.YtcmpmighjglnpaaGreat
namespace Go.Proofs.YtcmpmighjglnpaaGreat
open Go.RowKit
def RowA(w:World)(g n:Nat)(f:Nat→Nat):Prop:=∃(cur:Array Value) (t:TypeId),w.heap[g]?=some (.cells cur t (0,0))∧∀j,j<n→cur[j]?=some (.int .u8 (f j:Int))
theorem RowA.lt{w:World}{g n:Nat}{f:Nat→Nat}(h:RowA w g n f):g<w.heap.size:=by
 obtain⟨cur,t,h,_⟩:=h;exact(Array.getElem?_eq_some_iff.1 h).1
theorem RowA.cell{w:World}{g n:Nat}{f:Nat→Nat}(h:RowA w g n f){j:Nat}(hj:j<n):w.cell? ⟨g,j,none⟩=some (.int .u8 (f j:Int)):=by
 obtain⟨cur,t,h,hc⟩:=h
 rw[cell_of_row w g j _ _ (0,0) h];exact hc j hj
theorem RowA.frozen{w:World}{g n:Nat}{f:Nat→Nat}(h:RowA w g n f)(j:Nat):w.frozen? ⟨g,j,none⟩=false:=by
 obtain⟨cur,t,h,_⟩:=h;exact frozen_of_row w g j _ _ h
theorem RowA.set{w:World}{g n:Nat}{f:Nat→Nat}(h:RowA w g n f)(i x:Nat):RowA (w.setCell ⟨g,i,none⟩ (.int .u8 (x:Int))) g n (upd f i x):=by
 obtain⟨cur,t,h,hc⟩:=h
 refine⟨cur.setIfInBounds i (.int .u8 (x:Int)),t,heap_setCell_same w g i _ _ _ h,fun j hj=>?_⟩
 have h1:=hc j hj
 have hs:j<cur.size:=(Array.getElem?_eq_some_iff.1 h1).1
 rw[Array.getElem?_setIfInBounds]
 unfold upd
 by_cases e:j=i
 ·subst e;rw[if_pos rfl,if_pos hs,if_pos rfl]
 ·rw[if_neg (fun g=>e g.symm),if_neg e];exact h1
theorem RowA.below{w w':World}{g n B:Nat}{f:Nat→Nat}(h:RowA w g n f)(hb:Below B w w')(hg:g<B):RowA w' g n f:=by
 obtain⟨cur,t,h,hc⟩:=h;exact⟨cur,t,(hb.block g hg).trans h,hc⟩
theorem RowA.rd{w:World}{g n:Nat}{f:Nat→Nat}(h:RowA w g n f)(hf:∀j,f j<256):RdB w w.heap.size (some ⟨g,0,none⟩) n f:=
 ⟨hf,fun _=>⟨g,0,rfl,h.lt,fun j hj=>by rw[Nat.zero_add];exact h.cell hj⟩⟩
end Go.Proofs.YtcmpmighjglnpaaGreat
namespace Go.Proofs.YtcmpmighjglnpaaGreat
open Go.RowKit
def mkG(u:Nat→Nat)(k:Nat)(last:Int):List Int→Option (Nat→Nat)
 |[]=>some u
 |x::xs=>if x≤last∨320≤x∨u x.toNat≠0 then none else mkG (upd u x.toNat k) k x xs
def MkOut(g:Nat)(w:World)(o:Option (Nat→Nat))(e:Ending)(w':World):Prop:=
 e=.returned (.bool o.isSome)∧(∀G,o=some G→RowA w' g 320 G∧∀j,G j<256)∧Below g w w'
theorem mkOut_none{g:Nat}{w w':World}{o:Option (Nat→Nat)}(h:o=none)(hb:Below g w w'):MkOut g w o (.returned (.bool false)) w':=by
 subst h;exact⟨rfl,(fun _ h=>by cases h),hb⟩
def Only(g:Nat)(w w':World):Prop:=∀b,b≠g→w'.heap[b]?=w.heap[b]?
theorem drop_at(s:List Int){j:Nat}(h:j<s.length):s.drop j=s.getD j 0::s.drop (j+1):=by
 rw[List.drop_eq_getElem_cons h,List.getD_eq_getElem?_getD,List.getElem?_eq_getElem h];rfl
theorem mark_any(w:World)(g:Nat)(u:Nat→Nat)(A:Option Addr)(cap:Nat)(s:List Int)(k:Nat)(hk:k<16)(hrow:RowA w g 320 u)(hu:∀j,u j<256)(hs:RdI w g A s)(hlen:s.length≤1000000):
  Calls Tryz.prog 134 #[.slice (some ⟨g,0,none⟩) 320 320,.slice A s.length cap,.int .u8 (k:Int)] w fun e w'=>MkOut g w (mkG u k (-1) s) e w'∧Only g w w':=by
 obtain⟨n,hn⟩:∃n,n=s.length:=⟨_,rfl⟩
 rw[←hn]at hlen⊢
 have HN:=Lib.hid hn;have HROW:=Lib.hid hrow;have HU:=Lib.hid hu;have HS:=Lib.hid hs
 clear hn hrow hu hs
 go_enter Tryz.func134,Tryz.ntmps134
 go_wp2
 go_loopw [7,12] (fun l i wr=>∃(j:Nat) (la:Int) (v:Nat→Nat),j≤n∧i=.int .i64 j∧l=.int .i64 la∧-1≤la∧la<320∧RowA wr g 320 v∧(∀j,v j<256)∧Hid (mkG u k (-1) s=mkG v k la (s.drop j))∧Below g w wr∧Only g w wr) (fun _ i _=>n-(intOf i).toNat)
 case atStart=>exact⟨0,-1,u,Nat.zero_le _,rfl,rfl,by omega,by omega,HROW.out,HU.out,Lib.hid rfl,Below.refl _ _,fun _ _=>rfl⟩
 case round=>
  obtain⟨j,la,v,hj,rfl,rfl,hl1,hl2,hrow,hv,hm,hb,ho⟩:=hrel
  by_cases hlt:j<n
  ·have hda:=drop_at s (j:=j) (by rw[←HN.out];exact hlt)
   obtain⟨b,o,rfl,_,hc⟩:=(HS.out.below hb (Nat.le_refl _)).at (k:=j) (by rw[←HN.out];exact hlt)
   have e1:=hc j (by rw[←HN.out];exact hlt)
   obtain⟨x,hx⟩:∃x,x=s.getD j 0:=⟨_,rfl⟩
   rw[←hx]at e1 hda
   have HM:=Lib.hid (by rw[hm.out,hda]:mkG u k (-1) s=mkG v k la (x::s.drop (j+1)))
   have HR:=Lib.hid hrow;have HV:=Lib.hid hv;have HB:=Lib.hid hb;have HO:=Lib.hid ho
   clear hrow hv hm hb ho hda hc hx
   by_cases h1:x≤la
   ·have hno:mkG u k (-1) s=none:=by rw[HM.out];simp only[mkG];rw[if_pos (.inl h1)]
    have hd:decide (x≤la)=true:=by simpa using h1
    have HNO:=Lib.hid hno
    clear HM hno
    go_wp2
    go_ret
    exact⟨mkOut_none HNO.out HB.out,HO.out⟩
   ·have hd:decide (x≤la)=false:=by simpa using h1
    obtain⟨X,rfl⟩:=Int.eq_ofNat_of_zero_le (show 0≤x by omega)
    by_cases h2:320≤X
    ·have hno:mkG u k (-1) s=none:=by rw[HM.out];simp only[mkG];rw[if_pos (.inr (.inl (by omega)))]
     have hd2:decide ((320:Int)≤(X:Int))=true:=by simp;omega
     have hd3:decide (320≤X)=true:=by simpa using h2
     have HNO:=Lib.hid hno
     clear HM hno
     go_wp2
     go_ret
     exact⟨mkOut_none HNO.out HB.out,HO.out⟩
    ·have hX:X<320:=by omega
     have hd2:decide ((320:Int)≤(X:Int))=false:=by simp;omega
     have hd3:decide (320≤X)=false:=by simpa using hX
     have r1:=HR.out.cell hX
     have r2:=HR.out.frozen X
     have hz16:=HV.out X
     obtain⟨z,hz⟩:∃z,z=v X:=⟨_,rfl⟩
     rw[←hz]at r1 hz16
     have HZ:=Lib.hid hz
     clear hz
     by_cases hz0:z=0
     ·have hon:mkG u k (-1) s=mkG (upd v X k) k (X:Int) (s.drop (j+1)):=by
       rw[HM.out];simp only[mkG]
       rw[if_neg (by rw[Int.toNat_natCast,←HZ.out];omega),Int.toNat_natCast]
      have HON:=Lib.hid hon
      subst hz0
      clear HM hon
      go_wp2
      go_roundw
      case rel=>
       refine⟨j+1,X,upd v X k,by omega,by go_num,rfl,by omega,by omega,HR.out.set X k,fun i=>?_,HON,HB.out.setCell (by simp) _,fun b hb=>(Below.heap_setCell wr _ _ b hb).trans (HO.out b hb)⟩
       unfold upd;split
       ·omega
       ·exact HV.out i
      case measure=>simp[intOf];omega
     ·have hno:mkG u k (-1) s=none:=by rw[HM.out];simp only[mkG];rw[if_pos (.inr (.inr (by rw[Int.toNat_natCast,←HZ.out];exact hz0)))]
      have hzn:((z:Int) !=0)=true:=by simp;omega
      have hzn2:(z !=0)=true:=by simpa using hz0
      have HNO:=Lib.hid hno
      clear HM hno
      go_wp2
      go_ret
      exact⟨mkOut_none HNO.out HB.out,HO.out⟩
  ·obtain rfl:j=n:=by omega
   have hon:mkG u k (-1) s=some v:=by rw[hm.out,HN.out,List.drop_length];rfl
   have HR:=Lib.hid hrow;have HV:=Lib.hid hv;have HB:=Lib.hid hb;have HO:=Lib.hid ho
   have HON:=Lib.hid hon
   clear hrow hv hb hm ho hon
   go_wp2
   go_ret
   refine⟨⟨?_,fun G h=>?_,HB.out⟩,HO.out⟩
   ·rw[HON.out];rfl
   ·rw[HON.out]at h;cases h;exact⟨HR.out,HV.out⟩
end Go.Proofs.YtcmpmighjglnpaaGreat
namespace Go.Proofs.YtcmpmighjglnpaaGreat
open Go.RowKit
def lyG(c:Nat→Int):Nat→Nat→(Nat→Nat)→List Int→Option ((Nat→Nat)×List Int)
 |0,_,u,l=>some (u,l)
 |d+1,k,u,l=>if c k<0∨(l.length:Int)<c k then none else match mkG u k (-1) (l.take (c k).toNat)with
  |none=>none
  |some G=>lyG c d (k+1) G (l.drop (c k).toNat)
def layR(c:Nat→Int)(s:List Int):Option (Nat→Nat):=match lyG c 16 0 (fun _=>0) s with
 |none=>none
 |some (G,l)=>if c 0=0∧l=[]then some G else none
theorem layR_none{c:Nat→Int}{s:List Int}(h:lyG c 16 0 (fun _=>0) s=none):layR c s=none:=by unfold layR;rw[h]
theorem layR_some{c:Nat→Int}{s:List Int}{G:Nat→Nat}{l:List Int}(h:lyG c 16 0 (fun _=>0) s=some (G,l)):layR c s=if c 0=0∧l=[]then some G else none:=by unfold layR;rw[h]
theorem lyG_bad{c:Nat→Int}{d k:Nat}{u:Nat→Nat}{l:List Int}(h:c k<0∨(l.length:Int)<c k):lyG c (d+1) k u l=none:=by simp only[lyG];rw[if_pos h]
theorem lyG_ok{c:Nat→Int}{d k m:Nat}{u:Nat→Nat}{l:List Int}(h:c k=(m:Int))(hm:m≤l.length):lyG c (d+1) k u l=match mkG u k (-1) (l.take m)with
  |none=>none
  |some G=>lyG c d (k+1) G (l.drop m):=by
 simp only[lyG]
 rw[h,if_neg (by omega),Int.toNat_natCast]
theorem rdI_take{w:World}{B:Nat}{A:Option Addr}{l:List Int}(h:RdI w B A l)(m:Nat):RdI w B A (l.take m):=by
 have hl:=h.1
 refine⟨by simp[intsL],fun hn=>?_⟩
 rw[List.length_take]at hn
 obtain⟨b,o,rfl,hb,hc⟩:=h.2 (by omega)
 refine⟨b,o,rfl,hb,fun j u hu=>hc j u ?_⟩
 rw[intsL_get,List.getElem?_take]at hu
 split at hu
 ·rw[intsL_get];exact hu
 ·cases hu
theorem rdI_drop{w:World}{B:Nat}{a:Addr}{A2:Option Addr}{l:List Int}(h:RdI w B (some a) l)(m c:Nat)(hc:l.length≤c)(hA:(if c=m then some a else some (a.add m))=A2):RdI w B A2 (l.drop m):=by
 refine⟨by simp[intsL],fun hn=>?_⟩
 rw[List.length_drop]at hn
 obtain⟨b,o,e,hb,hcc⟩:=h.2 (by omega)
 cases e
 rw[if_neg (by omega)]at hA
 have e:(⟨b,o,none⟩:Addr).add m=⟨b,o+m,none⟩:=by unfold Addr.add;split<;>simp_all
 rw[e]at hA
 refine⟨b,o+m,hA.symm,hb,fun j u hu=>?_⟩
 rw[intsL_get,List.getElem?_drop]at hu
 rw[Nat.add_assoc]
 exact hcc _ u (by rw[intsL_get];exact hu)
theorem index_cnt(c:Nat→Int){k:Nat}(hk:k<16)(w:World):(Instr.index 23 (.agg (cntV c).toArray) (.int .i64 (k:Int))).run Tryz.prog w=.ok (.int .i64 (c k)) w:=by
 have hce:Tryz.prog.cellsOf 3=1:=by kernel_rfl
 have hg:=cntV_get c k
 rw[if_pos hk]at hg
 simp[Instr.index,run_underlying Tryz.underlying23,asIntOf,go_sem]
 rw[if_pos hk,hg];rfl
theorem lay_any(w:World)(g:Nat)(c:Nat→Int)(v:Value)(s:List Int)(hv:RdS w g v s)(hs:s.length≤1000000)(hrow:RowA w g 320 (fun _=>0)):
  Calls Tryz.prog 122 #[.slice (some ⟨g,0,none⟩) 320 320,.agg (trA c v)] w (MkOut g w (layR c s)):=by
 have hgl:=hrow.lt
 have ht:TreA (w.alloc (.cells (trA c v) 26)) w.heap.size c v:=heap_alloc_new w _
 have hb:=(Below.refl w.heap.size w).alloc (Nat.le_refl _) (.cells (trA c v) 26)
 have hr1:=hrow.below hb hgl
 obtain⟨AT,ca,rfl,hra,hna⟩:=hv
 obtain⟨n,hn⟩:∃n,n=s.length:=⟨_,rfl⟩
 have k1:=ht.syms
 have HT:=Lib.hid ht;have HR1:=Lib.hid hr1;have HRA:=Lib.hid hra;have HB:=Lib.hid (hb.mono (by omega:g≤w.heap.size));have HNA:=Lib.hid hna
 rw[←hn]at k1 HT hs HB HR1⊢
 have HN:=Lib.hid hn
 clear ht hb hr1 hra hna hn hrow
 go_enter Tryz.func122,Tryz.ntmps122
 go_wp2_with (refine wpList_load_mid rfl _ _ rfl w.heap.size 0 rfl (cntV c) _ HT.out.range Tryz.underlying23 rfl (by rw[cntV_length];exact szCnt) ?_)
 go_loopw [5,12] (fun l i wr=>∃(k m:Nat) (A:Option Addr) (l2:List Int) (c2:Nat) (u:Nat→Nat),k≤16∧i=.int .i64 k∧l=.slice A m c2∧Hid (m=l2.length)∧Hid (RdI wr g A l2)∧m≤1000000∧m≤c2∧c2≤maxLen∧Hid (A=none→c2=0)∧Hid (RowA wr g 320 u)∧Hid (∀j,u j<256)∧Hid (TreA wr w.heap.size c (.slice AT n ca))∧Hid (lyG c 16 0 (fun _=>0) s=lyG c (16-k) k u l2)∧Hid (Below g w wr)) (fun _ i _=>16-(intOf i).toNat)
 case atStart=>
  exact⟨0,n,AT,s,ca,fun _=>0,by omega,rfl,rfl,HN,Lib.hid (HRA.out.below HB.out (Nat.le_refl _)),hs,by rw[HN.out];exact HNA.out.2.1,HNA.out.2.2,Lib.hid HNA.out.1,HR1,Lib.hid (fun _=>by show 0<256;omega),HT,Lib.hid rfl,HB⟩
 case round=>
  obtain⟨k,m,A,l2,c2,u,hk,rfl,rfl,HM,HRL,hm6,hmc,hc2,HNC,HRW,HU,HTW,HE,HBW⟩:=hrel
  unfold maxLen at hc2
  by_cases hlt:k<16
  ·obtain⟨d,hd⟩:∃d,16-k=d+1:=⟨15-k,by omega⟩
   have hE:=HE.out
   rw[hd]at hE
   have hix:=index_cnt c hlt
   have hbad:=Lib.hid (fun(h:c k<0∨(l2.length:Int)<c k)=>layR_none (hE.trans (lyG_bad h)))
   have hgood:=Lib.hid (fun(q:Nat) (h:c k=(q:Int)) (hq:q≤l2.length)=>hE.trans (lyG_ok h hq))
   obtain⟨x,hx⟩:∃x,x=c k:=⟨_,rfl⟩
   rw[←hx]at hix hbad hgood
   rw[←HM.out]at hbad hgood
   clear hx hE
   by_cases hx1:x<0
   ·have hno:=hbad.out (.inl hx1)
    have hd1:decide (x<0)=true:=by simpa using hx1
    have HNO:=Lib.hid hno
    clear hbad hgood hno
    go_wp2
    go_ret
    exact mkOut_none HNO.out HBW.out
   ·obtain⟨q,rfl⟩:=Int.eq_ofNat_of_zero_le (show 0≤x by omega)
    have hd1:decide ((q:Int)<0)=false:=by simp
    by_cases hx2:m<q
    ·have hno:=hbad.out (.inr (by omega))
     have hg:decide ((m:Int)<(q:Int))=true:=by simp;omega
     have hg2:decide (m<q)=true:=by simpa using hx2
     have HNO:=Lib.hid hno
     clear hbad hgood hno
     go_wp2
     go_ret
     exact mkOut_none HNO.out HBW.out
    ·have hqm:q≤m:=by omega
     have hg:decide ((m:Int)<(q:Int))=false:=by simp;omega
     have hg2:decide (m<q)=false:=by simp;omega
     have hgd:=hgood.out q rfl hqm
     have hlt2:(l2.take q).length=q:=by rw[List.length_take,←HM.out];omega
     have hmk:=mark_any wr g u A c2 (l2.take q) k hlt HRW.out HU.out (rdI_take HRL.out q) (by omega)
     rw[hlt2]at hmk
     obtain⟨o,ho⟩:∃o,o=mkG u k (-1) (l2.take q):=⟨_,rfl⟩
     rw[←ho]at hgd hmk
     have HGD:=Lib.hid hgd;have HMK:=Lib.hid hmk;have HD:=Lib.hid hd;have HE2:=Lib.hid HE.out
     have hqc:q≤c2:=by omega
     have hk256:(k:Int)%256=k:=by omega
     clear hbad hgood hgd hmk hlt2 ho hd HE
     go_wp2_with fail
     refine HMK.out.mono ?_
     rintro e w1 ⟨⟨rfl,h1,hb1⟩,hO⟩
     rcases o with _|G
     ·have HNO:=Lib.hid (layR_none HGD.out)
      have HB1:=Lib.hid (HBW.out.trans hb1)
      clear h1 hb1 hO
      go_wp2
      go_ret
      exact mkOut_none HNO.out HB1.out
     ·obtain⟨h2,h3⟩:=h1 G rfl
      have hh:=HGD.out
      simp only at hh
      have H2:=Lib.hid h2;have H3:=Lib.hid h3;have HB1:=Lib.hid (HBW.out.trans hb1);have HH:=Lib.hid hh
      have HRL1:=Lib.hid (HRL.out.below hb1 (Nat.le_refl _))
      have HT1:=Lib.hid (show TreA w1 w.heap.size c (.slice AT n ca)from(hO w.heap.size (by omega)).trans HTW.out)
      clear h1 h2 h3 hb1 hO hh HBW HU HRW HMK
      have hdl:(l2.drop q).length=m-q:=by rw[List.length_drop,←HM.out]
      have HDL:=Lib.hid hdl
      have hd15:16-(k+1)=d:=by have:=HD.out;omega
      have HD15:=Lib.hid hd15
      clear hdl hd15
      rcases A with _|a
      ·have hc0:c2=0:=HNC.out rfl
       obtain rfl:q=0:=by omega
       obtain rfl:m=0:=by omega
       subst hc0
       clear hqm hqc hx2 hx1 hd1 hg hg2 hmc
       go_wp2
       go_roundw
       case rel=>exact⟨k+1,0,none,l2.drop 0,0,G,by omega,by go_num,rfl,HM,Lib.hid (by rw[List.drop_zero];exact HRL1.out),by omega,by omega,by unfold maxLen;omega,Lib.hid (fun _=>rfl),H2,H3,HT1,Lib.hid (by rw[HD15.out];exact HH.out),HB1⟩
       case measure=>simp[intOf];omega
      ·obtain⟨A2,hA2⟩:∃A2,(if c2=q then(some a:Option Addr)else some (a.add q))=A2:=⟨_,rfl⟩
       have HRD:=Lib.hid (rdI_drop HRL1.out q c2 (by rw[←HM.out];exact hmc) hA2)
       have HNA2:=Lib.hid (show A2=none→c2-q=0 from fun h=>by
        rw[h]at hA2
        split at hA2
        ·exact absurd hA2 (by simp)
        ·exact absurd hA2 (by simp))
       go_wp2
       go_roundw
       case rel=>exact⟨k+1,m-q,A2,l2.drop q,c2-q,G,by omega,by go_num,rfl,Lib.hid HDL.out.symm,HRD,by omega,by omega,by unfold maxLen;omega,HNA2,H2,H3,HT1,Lib.hid (by rw[HD15.out];exact HH.out),HB1⟩
       case measure=>simp[intOf];omega
  ·obtain rfl:k=16:=by omega
   have hfin:=HE.out
   rw[Nat.sub_self]at hfin
   have hly:=layR_some hfin
   have k0:=HTW.out.cnt (show 0<16 by omega)
   obtain⟨x,hx⟩:∃x,x=c 0:=⟨_,rfl⟩
   rw[←hx]at k0 hly
   by_cases h0:x=0
   ·subst h0
    by_cases hm0:m=0
    ·subst hm0
     have hl2:l2=[]:=List.length_eq_zero_iff.1 HM.out.symm
     rw[if_pos ⟨rfl,hl2⟩]at hly
     have HLY:=Lib.hid hly
     clear hfin hly hx hl2 HE
     go_wp2
     go_ret
     exact⟨by rw[HLY.out];rfl,(fun G h=>by rw[HLY.out]at h;cases h;exact⟨HRW.out,HU.out⟩),HBW.out⟩
    ·have hne:((m:Int)==0)=false:=by simp;omega
     have hne2:(m==0)=false:=by simpa using hm0
     rw[if_neg (fun h=>hm0 (by rw[HM.out,h.2];rfl))]at hly
     have HLY:=Lib.hid hly
     clear hfin hly hx HE
     go_wp2
     go_ret
     exact mkOut_none HLY.out HBW.out
   ·have hne:(x==0)=false:=by simpa using h0
    rw[if_neg (fun h=>h0 h.1)]at hly
    have HLY:=Lib.hid hly
    clear hfin hly hx HE
    go_wp2
    go_ret
    exact mkOut_none HLY.out HBW.out
end Go.Proofs.YtcmpmighjglnpaaGreat
namespace Go.Proofs.YtcmpmighjglnpaaGreat
theorem row_upd_other(u:Nat→Nat){x k m:Nat}(hx:u x=0)(hk:m≠k)(hm:0<m):∀n,rowM (upd u x k) m n=rowM u m n
 |0=>rfl
 |n+1=>by
  simp only[rowM]
  rw[row_upd_other u hx hk hm n]
  congr 1
  unfold upd
  by_cases e:n=x
  ·subst e;rw[if_pos rfl,if_neg (fun h=>hk h.symm),if_neg (by omega)]
  ·rw[if_neg e]
theorem row_upd_same(u:Nat→Nat){x k:Nat}(hl:∀j,u j=k→j<x):∀n,rowM (upd u x k) k n=rowM u k n++if x<n then[x]else[]
 |0=>by simp[rowM]
 |n+1=>by
  simp only[rowM]
  rw[row_upd_same u hl n]
  have e2:upd u x k n=if n=x then k else u n:=rfl
  rw[e2]
  by_cases e:n=x
  ·subst e
   have hun:u n≠k:=fun h=>by have:=hl n h;omega
   simp[hun]
  ·rw[if_neg e]
   by_cases h:u n=k
   ·have:=hl n h
    rw[if_pos h,if_neg (by omega),if_neg (by omega)];simp
   ·rw[if_neg h]
    by_cases h2:x<n
    ·rw[if_pos h2,if_pos (by omega)];simp
    ·rw[if_neg h2,if_neg (by omega)]
theorem mkG_cons{u:Nat→Nat}{k x:Nat}{last:Int}{xs:List Int}(h1:last<(x:Int))(h2:x<320)(h3:u x=0):mkG u k last ((x:Int)::xs)=mkG (upd u x k) k (x:Int) xs:=by
 simp only[mkG]
 rw[if_neg (by rw[Int.toNat_natCast];omega),Int.toNat_natCast]
theorem mkG_sound{k:Nat}(hk:0<k):∀(l:List Int) (u G:Nat→Nat) (last:Int),(∀j,u j=k→(j:Int)≤last)→(∀j,u j≤k)→-1≤last→mkG u k last l=some G→
  (∀m,m≠k→0<m→rowM G m 320=rowM u m 320)∧natsI (rowM G k 320)=natsI (rowM u k 320)++l∧∀j,G j≤k
 |[],u,G,last,_,hu,_,h=>by
  simp only[mkG,Option.some.injEq]at h
  subst h;exact⟨fun _ _ _=>rfl,by simp,hu⟩
 |x::xs,u,G,last,hl,hu,h0,h=>by
  simp only[mkG]at h
  by_cases hc:x≤last∨320≤x∨u x.toNat≠0
  ·rw[if_pos hc]at h;cases h
  ·rw[if_neg hc]at h
   obtain⟨X,rfl⟩:=Int.eq_ofNat_of_zero_le (show 0≤x by omega)
   rw[Int.toNat_natCast]at h hc
   have hx0:u X=0:=by omega
   have hlX:∀j,u j=k→j<X:=fun j hj=>by have:=hl j hj;omega
   obtain⟨h1,h2,h3⟩:=mkG_sound hk xs (upd u X k) G (X:Int) (fun j hj=>by
    unfold upd at hj
    by_cases e:j=X
    ·omega
    ·rw[if_neg e]at hj;have:=hlX j hj;omega) (fun j=>by
    unfold upd;split
    ·omega
    ·exact hu j) (by omega) h
   refine⟨fun m hm hm0=>by rw[h1 m hm hm0,row_upd_other u hx0 hm hm0],?_,h3⟩
   rw[h2,row_upd_same u hlX,if_pos (by omega),←natsI_app]
   simp[natsI]
theorem row_empty{u:Nat→Nat}{k:Nat}(h:∀j,u j<k)(n:Nat):rowM u k n=[]:=by
 induction n with
 |zero=>rfl
 |succ n ih=>simp only[rowM];rw[ih,if_neg (by have:=h n;omega)];rfl
theorem symL_rows{u G:Nat→Nat}{n:Nat}:∀M,(∀m,0<m→m≤M→rowM G m n=rowM u m n)→symL G n M=symL u n M
 |0,_=>rfl
 |M+1,h=>by simp only[symL];rw[symL_rows M (fun m h0 h1=>h m h0 (by omega)),h (M+1) (by omega) (by omega)]
theorem lyG_sound{c:Nat→Int}{s:List Int}:∀(d k:Nat) (u G:Nat→Nat) (l l':List Int),k+d=16→1≤k→(∀j,u j<k)→s=natsI (symL u 320 (k-1))++l→(∀m,0<m→m<k→c m=(tcN u m 320:Int))→
  lyG c d k u l=some (G,l')→s=natsI (symL G 320 15)++l'∧∀m,0<m→m<16→c m=(tcN G m 320:Int)
 |0,k,u,G,l,l',hd,_,_,hs,hc,h=>by
  simp only[lyG,Option.some.injEq,Prod.mk.injEq]at h
  obtain⟨rfl,rfl⟩:=h
  obtain rfl:k=16:=by omega
  exact⟨hs,hc⟩
 |d+1,k,u,G,l,l',hd,hk,hu,hs,hc,h=>by
  simp only[lyG]at h
  by_cases hb:c k<0∨(l.length:Int)<c k
  ·rw[if_pos hb]at h;cases h
  ·rw[if_neg hb]at h
   obtain⟨q,hq⟩:=Int.eq_ofNat_of_zero_le (show 0≤c k by omega)
   rw[hq,Int.toNat_natCast]at h
   cases hm:mkG u k (-1) (l.take q)with
   |none=>rw[hm]at h;cases h
   |some F=>
    rw[hm]at h
    simp only at h
    obtain⟨h1,h2,h3⟩:=mkG_sound (by omega) _ u F (-1) (fun j hj=>by have:=hu j;omega) (fun j=>by have:=hu j;omega) (by omega) hm
    rw[row_empty hu]at h2
    simp only[natsI,List.map_nil,List.nil_append]at h2
    have h2':natsI (rowM F k 320)=l.take q:=h2
    have hlen:tcN F k 320=q:=by
     rw[←rowM_length F (by omega),←natsI_length,h2',List.length_take];omega
    refine lyG_sound d (k+1) F G (l.drop q) l' (by omega) (by omega) (fun j=>by have:=h3 j;omega) ?_ (fun m hm0 hmk=>?_) h
    ·obtain⟨K,rfl⟩:∃K,k=K+1:=⟨k-1,by omega⟩
     rw[Nat.add_sub_cancel]
     show s=natsI (symL F 320 K++rowM F (K+1) 320)++_
     rw[←natsI_app,h2',List.append_assoc,List.take_append_drop,symL_rows K (fun m h0 hm=>h1 m (by omega) h0)]
     rw[Nat.add_sub_cancel]at hs
     exact hs
    ·by_cases e:m=k
     ·subst e;rw[hlen];exact hq
     ·rw[hc m hm0 (by omega),←rowM_length F hm0,h1 m e hm0,rowM_length u hm0]
theorem layR_sound{c:Nat→Int}{s:List Int}{G:Nat→Nat}(h:layR c s=some G)(hc:checkE G 320 15=0):IsTree c s (cutFt G):=by
 unfold layR at h
 cases hl:lyG c 16 0 (fun _=>0) s with
 |none=>rw[hl]at h;cases h
 |some p=>
  obtain⟨F,l⟩:=p
  rw[hl]at h
  simp only at h
  by_cases h0:c 0=0∧l=[]
  ·rw[if_pos h0]at h
   cases h
   simp only[lyG]at hl
   rw[h0.1]at hl
   simp only[Int.lt_irrefl,false_or,show¬((s.length:Int)<0) by omega,if_false,Int.toNat_zero,List.take_zero,mkG,List.drop_zero]at hl
   obtain⟨h1,h2⟩:=lyG_sound (c:=c) (s:=s) 15 1 (fun _=>0) G s l (by omega) (Nat.le_refl _) (fun _=>by omega) (by simp[symL,natsI]) (fun m h0 h1=>by omega) hl
   rw[h0.2,List.append_nil]at h1
   refine tests_tree hc ?_
   unfold sameT
   rw[Bool.and_eq_true,sameC_iff]
   refine⟨fun m hm=>?_,decide_eq_true h1.symm⟩
   by_cases e:m=0
   ·subst e;rw[cntN_zero,h0.1];rfl
   ·exact(h2 m (by omega) hm).symm
  ·rw[if_neg h0]at h;cases h
theorem rowM_rises(f:Nat→Nat)(m:Nat):∀n,(rowM f m n).Pairwise (·< ·)
 |0=>List.Pairwise.nil
 |n+1=>by
  simp only[rowM]
  rw[List.pairwise_append]
  refine⟨rowM_rises f m n,by split<;>simp,fun a ha b hb=>?_⟩
  have:=((rowM_mem f m a n).1 ha).1
  split at hb
  ·simp at hb;omega
  ·simp at hb
theorem mkG_tree{f:Nat→Nat}{k T:Nat}(hT:T=tcN f k 320)(h0:0<k):∀(d i:Nat) (last:Int),i+d=T→(∀x∈(rowM f k 320).drop i,last<((x:Nat):Int))→mkG (partL f k i) k last (natsI ((rowM f k 320).drop i))=some (partL f k T):=by
 have hlen:(rowM f k 320).length=T:=by rw[hT];exact rowM_length f h0 320
 have hpart:∀i,i<T→partL f k i ((rowM f k 320).getD i 0)=0∧upd (partL f k i) ((rowM f k 320).getD i 0) k=partL f k (i+1):=fun i hi=>by
  rw[hT]at hi;exact⟨part_free h0 hi,part_more h0 hi⟩
 have hin:∀x∈rowM f k 320,x<320:=fun x hx=>((rowM_mem f k x 320).1 hx).1
 have hrs:=rowM_rises f k 320
 obtain⟨R,hR⟩:∃R,R=rowM f k 320:=⟨_,rfl⟩
 rw[←hR]at hlen hpart hin hrs⊢
 clear hT hR
 intro d
 induction d with
 |zero=>
  intro i last h _
  rw[List.drop_eq_nil_of_le (by omega)]
  show some (partL f k i)=_
  rw[show i=T by omega]
 |succ d ih=>
  intro i last h hl
  have hx:i<R.length:=by omega
  have e:R.getD i 0=R[i]:=by rw[List.getD_eq_getElem?_getD,List.getElem?_eq_getElem hx];rfl
  have h320:=hin (R.getD i 0) (by rw[e];exact List.getElem_mem _)
  obtain⟨hfree,hmore⟩:=hpart i (by omega)
  have hd:R.drop i=R.getD i 0::R.drop (i+1):=by rw[List.drop_eq_getElem_cons hx,e]
  have hlast:=hl (R.getD i 0) (by rw[hd];exact List.mem_cons_self)
  have hpw:(R.drop i).Pairwise (·< ·):=hrs.sublist (List.drop_sublist _ _)
  rw[hd]at hpw⊢
  have hrise:=(List.pairwise_cons.1 hpw).1
  have ih2:=ih (i+1) ((R.getD i 0:Nat):Int) (by omega) (fun x hx=>by have:=hrise x hx;omega)
  show mkG _ k last (((R.getD i 0:Nat):Int)::natsI (R.drop (i+1)))=_
  rw[mkG_cons hlast h320 hfree,hmore]
  exact ih2
def tlR(f:Nat→Nat):Nat→Nat→List Nat
 |_,0=>[]
 |k,d+1=>rowM f k 320++tlR f (k+1) d
theorem tlR_sym(f:Nat→Nat):∀d k,1≤k→symL f 320 (k-1)++tlR f k d=symL f 320 (k-1+d)
 |0,k,_=>by simp[tlR]
 |d+1,k,h=>by
  have ih:=tlR_sym f d (k+1) (by omega)
  obtain⟨K,rfl⟩:∃K,k=K+1:=⟨k-1,by omega⟩
  simp only[tlR]
  rw[Nat.add_sub_cancel]at ih⊢
  rw[←List.append_assoc,show K+(d+1)=K+1+d by omega,←ih]
  rfl
theorem lyG_tree{c:Nat→Int}{s:List Int}{f:Nat→Nat}(hf:IsTree c s f):∀(d k:Nat),k+d=16→1≤k→lyG c d k (partL f k 0) (natsI (tlR f k d))=some (partL f 16 0,[]):=by
 intro d
 induction d with
 |zero=>
  intro k h _
  obtain rfl:k=16:=by omega
  rfl
 |succ d ih=>
  intro k h hk
  have hc:=hf.2.2.1 k (by omega)
  have hlen:(rowM f k 320).length=tcN f k 320:=rowM_length f (by omega) 320
  have hm:=mkG_tree (f:=f) (k:=k) rfl (by omega) (tcN f k 320) 0 (-1) (by omega) (fun x _=>by omega)
  have hn:=part_next (f:=f) (k:=k) (by omega) hf.2.1
  have ih2:=ih (k+1) (by omega) (by omega)
  obtain⟨T,hT⟩:∃T,T=tcN f k 320:=⟨_,rfl⟩
  have e0:tlR f k (d+1)=rowM f k 320++tlR f (k+1) d:=rfl
  rw[←hT]at hc hlen hm hn
  obtain⟨R,hR⟩:∃R,R=rowM f k 320:=⟨_,rfl⟩
  rw[←hR]at hlen hm e0
  rw[List.drop_zero]at hm
  have hl:(natsI (R++tlR f (k+1) d)).length=T+(tlR f (k+1) d).length:=by
   rw[natsI_length,List.length_append,hlen]
  have e1:(natsI (R++tlR f (k+1) d)).take T=natsI R:=by
   unfold natsI
   rw[List.map_append,List.take_append_of_le_length (by simp[hlen]),List.take_of_length_le (by simp[hlen])]
  have e2:(natsI (R++tlR f (k+1) d)).drop T=natsI (tlR f (k+1) d):=by
   unfold natsI
   rw[List.map_append,List.drop_append_of_le_length (by simp[hlen]),List.drop_of_length_le (by simp[hlen]),List.nil_append]
  rw[e0,lyG_ok hc (by omega),e1,e2,hm]
  simp only
  rw[hn]
  exact ih2
theorem layR_tree{c:Nat→Int}{s:List Int}{f:Nat→Nat}(hf:IsTree c s f):layR c s=some f:=by
 have h0:c 0=0:=by have:=hf.2.2.1 0 (by omega);rw[cntN_zero]at this;exact this
 have hs:natsI (tlR f 1 15)=s:=by
  have h1:=tlR_sym f 15 1 (Nat.le_refl _)
  rw[show(1:Nat)-1+15=15 from rfl,show(1:Nat)-1=0 from rfl,show symL f 320 0=[]from rfl,List.nil_append]at h1
  rw[h1];exact hf.2.2.2.symm
 have h1:=lyG_tree hf 15 1 (by omega) (Nat.le_refl _)
 rw[hs,part_none]at h1
 have h15:∀j,f j≤15:=fun j=>by
  rcases Nat.lt_or_ge j 320 with g|g
  ·exact isTree_lens hf j g
  ·rw[hf.2.1 j g];omega
 rw[part_all h15]at h1
 have h2:lyG c 16 0 (fun _=>0) s=some (f,[]):=by
  rw[lyG_ok (d:=15) (m:=0) h0 (Nat.zero_le _),List.take_zero,List.drop_zero]
  exact h1
 rw[layR_some h2,if_pos ⟨h0,rfl⟩]
end Go.Proofs.YtcmpmighjglnpaaGreat
namespace Go.Proofs.YtcmpmighjglnpaaGreat
open Go.RowKit
theorem check_any(w:World)(A:Option Addr)(n c:Nat)(f:Nat→Nat)(most:Int)(hr:RdB w w.heap.size A n f)(hn:n≤1000000):
  Calls Tryz.prog 123 #[.slice A n c,.int .i64 most] w fun e w'=>e=.returned (.int .i64 (checkE f n most))∧Below w.heap.size w w':=by
 unfold checkE
 by_cases h1:most<1∨15<most
 ·rw[if_pos h1];exact(kcheck_arg w A n c most h1).mono fun _ _ ⟨he,hw⟩=>⟨he,hw▸Below.refl _ _⟩
 ·rw[if_neg h1]
  by_cases h2:320<n
  ·rw[if_pos h2];exact(kcheck_many w A n c most (by omega) (by omega) h2).mono fun _ _ ⟨he,hw⟩=>⟨he,hw▸Below.refl _ _⟩
  ·rw[if_neg h2];exact kcheck_rest w A n c f most hr (by omega) (by omega) (by omega)
end Go.Proofs.YtcmpmighjglnpaaGreat
namespace Go.Proofs.YtcmpmighjglnpaaGreat
open Go.RowKit
theorem infoArr:(Tryz.prog.info? 173).map (fun i=>(i.zero,i.size))=some (some (.agg (Array.replicate 320 (.int .u8 0))),320):=by kernel_rfl
theorem TreA.each{U:World}{g:Nat}{c:Nat→Int}{v:Value}(h:TreA U g c v):U.cell? ⟨g,0,none⟩=some (.int .i64 (c 0))∧U.cell? ⟨g,1,none⟩=some (.int .i64 (c 1))∧U.cell? ⟨g,2,none⟩=some (.int .i64 (c 2))∧U.cell? ⟨g,3,none⟩=some (.int .i64 (c 3))∧U.cell? ⟨g,4,none⟩=some (.int .i64 (c 4))∧U.cell? ⟨g,5,none⟩=some (.int .i64 (c 5))∧U.cell? ⟨g,6,none⟩=some (.int .i64 (c 6))∧U.cell? ⟨g,7,none⟩=some (.int .i64 (c 7))∧U.cell? ⟨g,8,none⟩=some (.int .i64 (c 8))∧U.cell? ⟨g,9,none⟩=some (.int .i64 (c 9))∧U.cell? ⟨g,10,none⟩=some (.int .i64 (c 10))∧U.cell? ⟨g,11,none⟩=some (.int .i64 (c 11))∧U.cell? ⟨g,12,none⟩=some (.int .i64 (c 12))∧U.cell? ⟨g,13,none⟩=some (.int .i64 (c 13))∧U.cell? ⟨g,14,none⟩=some (.int .i64 (c 14))∧U.cell? ⟨g,15,none⟩=some (.int .i64 (c 15))∧U.cell? ⟨g,16,none⟩=some v:=
 ⟨h.cnt (by omega),h.cnt (by omega),h.cnt (by omega),h.cnt (by omega),h.cnt (by omega),h.cnt (by omega),h.cnt (by omega),h.cnt (by omega),h.cnt (by omega),h.cnt (by omega),h.cnt (by omega),h.cnt (by omega),h.cnt (by omega),h.cnt (by omega),h.cnt (by omega),h.cnt (by omega),h.syms⟩
theorem chk_out{c:Nat→Int}{s:List Int}{o:Option (Nat→Nat)}(ho:o=layR c s):
  (∀G,o=some G→checkE G 320 15=0→ChkOut c s (.returned (.int .i64 0)))∧((∀G,o=some G→checkE G 320 15≠0)→ChkOut c s (.returned (.int .i64 8))):=by
 refine⟨fun G h hc=>.inl ⟨⟨_,layR_sound (ho.symm.trans h) hc⟩,rfl⟩,fun h=>.inr ⟨fun f hf=>?_,rfl⟩⟩
 exact h f (ho.trans (layR_tree hf)) hf.1
theorem tchk_any(w:World)(c:Nat→Int)(v:Value)(s:List Int)(hv:RdS w w.heap.size v s)(hs:s.length≤1000000):
  Calls Tryz.prog 96 #[.agg (trA c v)] w fun e w'=>ChkOut c s e∧Below w.heap.size w w':=by
 have hz:=(zero_of_info infoArr).1
 obtain⟨Z,hZ⟩:∃Z:Array Value,Z=Array.replicate 320 (.int .u8 0):=⟨_,rfl⟩
 rw[←hZ]at hz
 obtain⟨U,hU⟩:∃U,U=(w.alloc (.cells (trA c v) 26)).alloc (.cells Z 173):=⟨_,rfl⟩
 have ht:TreA U w.heap.size c v:=by rw[hU];exact heap_alloc2_old w _ _
 have hrow:RowA U (w.heap.size+1) 320 (fun _=>0):=by rw[hU,hZ];exact⟨_,_,heap_alloc2_new w _ _,fun j hj=>by simp[hj]⟩
 have hb:Below w.heap.size w U:=by rw[hU];exact((Below.refl w.heap.size w).alloc (Nat.le_refl _) _).alloc (by simp) _
 obtain⟨o,ho⟩:∃o,o=layR c s:=⟨_,rfl⟩
 have hlay:=lay_any U.drew (w.heap.size+1) c v s (((hv.below hb (Nat.le_refl _)).below (Below.refl _ _).drew (Nat.le_refl _)).more (by omega)) hs hrow
 rw[←ho]at hlay
 obtain⟨ho1,ho2⟩:=chk_out ho
 have hbd:Below w.heap.size w U.drew:=hb.trans (Below.refl _ _).drew
 have HT:=Lib.hid ht;have HB:=Lib.hid hbd;have HL:=Lib.hid hlay;have HO1:=Lib.hid ho1;have HO2:=Lib.hid ho2
 clear ht hrow hb hbd hlay ho1 ho2 ho hZ
 go_enter Tryz.func96,Tryz.ntmps96
 go_wp2_with fail
 rw[←hU]
 clear hU
 obtain⟨k0,k1,k2,k3,k4,k5,k6,k7,k8,k9,k10,k11,k12,k13,k14,k15,k16⟩:=HT.out.each
 refine wp_region_still_tail 2 (by kernel_rfl) (by kernel_rfl) ?_
 simp only[List.take_succ_cons,List.take_zero,List.drop_succ_cons,List.drop_zero]
 change wpStill _ _ (World.drew _) (fun a'=>wpList _ _ _ _ a' (World.drew _)) _ _
 repeat still_step
 refine wpStill_nil ?_
 clear k0 k1 k2 k3 k4 k5 k6 k7 k8 k9 k10 k11 k12 k13 k14 k15 k16 hz
 rcases o with _|G
 ·go_wp2_with (go_at_call 122;refine HL.out.mono ?_;rintro e w1 ⟨rfl,_,hb1⟩)
  go_ret
  exact⟨HO2.out (fun G h=>by cases h),HB.out.trans (hb1.mono (by omega))⟩
 ·obtain⟨E,hE⟩:∃E,E=checkE G 320 15:=⟨_,rfl⟩
  go_wp2_with fail
  refine HL.out.mono ?_
  rintro e w1 ⟨rfl,h1,hb1⟩
  obtain⟨hrow,hG⟩:=h1 G rfl
  have hck:=check_any w1 _ 320 320 G 15 (hrow.rd hG) (by omega)
  rw[←hE]at hck
  have HCK:=Lib.hid hck;have HB1:=Lib.hid (HB.out.trans (hb1.mono (by omega)))
  have HE:=Lib.hid hE
  clear h1 hb1 hrow hG hck hE
  by_cases h0:E=0
  ·subst h0
   go_wp2_with (go_at_call 123;refine HCK.out.mono ?_;rintro e w2 ⟨rfl,hb2⟩)
   go_ret
   exact⟨HO1.out G rfl HE.out.symm,HB1.out.trans (hb2.mono HB1.out.size)⟩
  ·have hne:(E !=0)=true:=by simpa using h0
   go_wp2_with (go_at_call 123;refine HCK.out.mono ?_;rintro e w2 ⟨rfl,hb2⟩)
   go_ret
   exact⟨HO2.out (fun G' h=>by cases h;rw[←HE.out];exact h0),HB1.out.trans (hb2.mono HB1.out.size)⟩
end Go.Proofs.YtcmpmighjglnpaaGreat
