/-
  Words and walks.
-/
import Derived.BigQuiet
import Derived.IntWalk
import Derived.Deep.RegionHeld3
import Derived.Test.YtgokdgcmkcmjeaaGreatprag
set_option maxRecDepth 100000
set_option maxHeartbeats 16000000
namespace Go.Proofs.YtgokdgcmkcmjeaaGreat
open Go.RowKit
theorem made_u8(n:Nat)(h:n≤1000):∀u:World,(Instr.makeSlice 22 (.int .i64 (n:Int)) (.int .i64 (n:Int))).run Tryz.prog u=
   .ok (.slice (some ⟨u.heap.size,0,none⟩) n n) (u.alloc (.cells (madeCells #[.int .u8 0] n) 5)):=fun u=>by
 obtain⟨i0,hi,hz0,hz1,hz2⟩:=info_parts infoU8
 have h:=run_make (P:=Tryz.prog) u 22 5 i0 (.int .u8 0) Tryz.underlying22 hi hz0 .i64 .i64 (n:Int) (n:Int) (by omega) (Int.le_refl _) (by rw[hz2];omega) (by omega)
 rw[Int.toNat_natCast]at h
 simpa[hz1,Value.cells]using h
theorem rowU_made(w:World)(n:Nat):RowW (w.alloc (.cells (madeCells #[.int .u8 0] n) 5)) w.heap.size n (fun _=>0):=by
 refine⟨_,heap_alloc_new w _,fun j hj=>?_⟩
 unfold madeCells
 have e1:j%1=0:=by omega
 simp[hj,e1]
def Known(c:Nat→Int)(s:List Int)(k i at_:Nat)(u:Nat→Nat):Prop:=∀f,IsTree c s f→at_=sumC f 320 (k-1)∧∀j,j<320→u j=partL f k i j
theorem known_none(c:Nat→Int)(s:List Int):Known c s 1 0 0 (fun _=>0):=fun f _=>⟨rfl,fun j _=>by rw[part_none]⟩
theorem known_next{c:Nat→Int}{s:List Int}{k at_ q:Nat}{u:Nat→Nat}(h0:0<k)(hk:k<16)(h:Known c s k q at_ u)(hq:c k=(q:Int)):Known c s (k+1) 0 (at_+q) u:=fun f hf=>by
 obtain⟨h1,h2⟩:=h f hf
 have hc:=hf.2.2.1 k hk
 have e:q=tcN f k 320:=by omega
 obtain⟨K,rfl⟩:∃K,k=K+1:=⟨k-1,by omega⟩
 refine⟨?_,fun j hj=>?_⟩
 ·rw[h1,e,Nat.add_sub_cancel,Nat.add_sub_cancel];rfl
 ·rw[h2 j hj,e,part_next h0 hf.2.1]
theorem known_step{c:Nat→Int}{s:List Int}{k i at_ q y:Nat}{u:Nat→Nat}(h0:0<k)(hk:k<16)(h:Known c s k i at_ u)(hq:c k=(q:Int))(hi:i<q)(hy:s.getD (at_+i) 0=(y:Int)):Known c s k (i+1) at_ (upd u y k):=fun f hf=>by
 obtain⟨h1,h2⟩:=h f hf
 have hc:=hf.2.2.1 k hk
 have e:q=tcN f k 320:=by omega
 obtain⟨g1,g2,g3⟩:=sym_at hf h0 (by omega) (show i<tcN f k 320 by omega)
 rw[←h1,hy]at g1
 have hyy:y=(rowM f k 320).getD i 0:=by omega
 refine⟨h1,fun j hj=>?_⟩
 rw[←part_more h0 (show i<tcN f k 320 by omega),←hyy]
 unfold upd
 split
 ·rfl
 ·exact h2 j hj
theorem known_sym{c:Nat→Int}{s:List Int}{k i at_ q:Nat}{u:Nat→Nat}(h0:0<k)(hk:k<16)(h:Known c s k i at_ u)(hq:c k=(q:Int))(hi:i<q){f:Nat→Nat}(hf:IsTree c s f):
  ∃y,s.getD (at_+i) 0=((y:Nat):Int)∧y<320∧u y=0:=by
 obtain⟨h1,h2⟩:=h f hf
 have hc:=hf.2.2.1 k hk
 have e:q=tcN f k 320:=by omega
 obtain⟨g1,g2,g3⟩:=sym_at hf h0 (by omega) (show i<tcN f k 320 by omega)
 exact⟨_,by rw[h1];exact g1,g2,by rw[h2 _ g2];exact part_free h0 (by omega)⟩
theorem known_cnt{c:Nat→Int}{s:List Int}{k at_:Nat}{u:Nat→Nat}(h0:0<k)(hk:k<16)(h:Known c s k 0 at_ u){f:Nat→Nat}(hf:IsTree c s f):0≤c k∧(at_:Int)+c k≤(s.length:Int):=by
 obtain⟨h1,_⟩:=h f hf
 have hc:=hf.2.2.1 k hk
 obtain⟨K,rfl⟩:∃K,k=K+1:=⟨k-1,by omega⟩
 have h3:=sumC_mono f 320 (show K+1≤15 by omega)
 have h4:sumC f 320 (K+1)=sumC f 320 K+tcN f (K+1) 320:=rfl
 have h5:=(isTree_length hf).1
 rw[Nat.add_sub_cancel]at h1
 omega
theorem known_end{c:Nat→Int}{s:List Int}{at_:Nat}{u:Nat→Nat}(h:Known c s 16 0 at_ u){f:Nat→Nat}(hf:IsTree c s f):at_=s.length∧∀j,j<320→u j=f j:=by
 obtain⟨h1,h2⟩:=h f hf
 refine⟨by rw[h1,(isTree_length hf).1],fun j hj=>?_⟩
 rw[h2 j hj]
 have:∀j,f j≤15:=fun j=>by
  rcases Nat.lt_or_ge j 320 with g|g
  ·exact isTree_lens hf j g
  ·rw[hf.2.1 j g];omega
 rw[part_all this]
theorem checkE_congr{f g:Nat→Nat}{n:Nat}(most:Int)(h:∀j,j<n→f j=g j):checkE f n most=checkE g n most:=by
 have hall:∀k,k≤n→allN f k=allN g k∧usedN f k=usedN g k:=by
  intro k
  induction k with
  |zero=>intro _;exact⟨rfl,rfl⟩
  |succ k ih=>
   intro hk
   have:=ih (by omega)
   simp only[allN,usedN,h k (by omega),this.1,this.2]
   exact⟨trivial,trivial⟩
 have hb:bigB f n most=bigB g n most:=by
  unfold bigB
  rw[decide_eq_decide]
  constructor
  ·rintro⟨j,hj,hl⟩;exact⟨j,hj,by rw[←h j hj];exact hl⟩
  ·rintro⟨j,hj,hl⟩;exact⟨j,hj,by rw[h j hj];exact hl⟩
 unfold checkE
 rw[hb,(hall n (Nat.le_refl _)).1,(hall n (Nat.le_refl _)).2]
theorem tcN_congr{f g:Nat→Nat}(m:Nat):∀n,(∀j,j<n→f j=g j)→tcN f m n=tcN g m n
 |0,_=>rfl
 |n+1,h=>by simp only[tcN];rw[tcN_congr m n (fun j hj=>h j (by omega)),h n (by omega)]
theorem rowM_congr{f g:Nat→Nat}(m:Nat):∀n,(∀j,j<n→f j=g j)→rowM f m n=rowM g m n
 |0,_=>rfl
 |n+1,h=>by simp only[rowM];rw[rowM_congr m n (fun j hj=>h j (by omega)),h n (by omega)]
theorem symL_congr{f g:Nat→Nat}(n:Nat)(h:∀j,j<n→f j=g j):∀M,symL f n M=symL g n M
 |0=>rfl
 |M+1=>by simp only[symL];rw[symL_congr n h M,rowM_congr (M+1) n h]
def cutFt(u:Nat→Nat)(j:Nat):Nat:=if j<320 then u j else 0
theorem cutF_in{u:Nat→Nat}{j:Nat}(h:j<320):cutFt u j=u j:=by unfold cutFt;rw[if_pos h]
theorem tests_tree{c:Nat→Int}{s:List Int}{u:Nat→Nat}(h1:checkE u 320 15=0)(h2:sameT (fun m=>(tcN u m 320:Int)) c (natsI (symL u 320 15)) s=true):IsTree c s (cutFt u):=by
 have he:∀j,j<320→u j=cutFt u j:=fun j hj=>(cutF_in hj).symm
 unfold sameT at h2
 rw[Bool.and_eq_true,sameC_iff]at h2
 refine⟨by rw[←checkE_congr 15 he];exact h1,fun j hj=>by unfold cutFt;rw[if_neg (by omega)],fun m hm=>?_,?_⟩
 ·rw[←h2.1 m hm,tcN_congr m 320 he]
 ·rw[←symL_congr 320 he];exact(of_decide_eq_true h2.2).symm
theorem tests_of{c:Nat→Int}{s:List Int}{u f:Nat→Nat}(hf:IsTree c s f)(hu:∀j,j<320→u j=f j):checkE u 320 15=0∧sameT (fun m=>(tcN u m 320:Int)) c (natsI (symL u 320 15)) s=true:=by
 refine⟨by rw[checkE_congr 15 hu];exact hf.1,?_⟩
 unfold sameT
 rw[Bool.and_eq_true,sameC_iff]
 refine⟨fun m hm=>by rw[hf.2.2.1 m hm,tcN_congr m 320 hu],decide_eq_true ?_⟩
 rw[symL_congr 320 hu];exact hf.2.2.2.symm
def LenOut(base:Nat)(c:Nat→Int)(s:List Int)(e:Ending)(w':World):Prop:=
 (∃(g:Nat) (f:Nat→Nat),IsTree c s f∧base≤g∧e=.returned (.tuple #[.slice (some ⟨g,0,none⟩) 320 320,.bool true])∧RowW w' g 320 f)∨
 ((∀f,¬IsTree c s f)∧e=.returned (.tuple #[.slice none 0 0,.bool false]))
theorem rlens_any(w:World)(c:Nat→Int)(v:Value)(s:List Int)(hv:RdS w w.heap.size v s)(hs:s.length≤1000000000):
  Calls Tryz.prog 72 #[.agg (trA c v)] w fun e w'=>LenOut w.heap.size c s e w'∧Below w.heap.size w w':=by
 have hmk:∀u:World,(Instr.makeSlice 22 (.int .i64 320) (.int .i64 320)).run Tryz.prog u=.ok (.slice (some ⟨u.heap.size,0,none⟩) 320 320) (u.alloc (.cells (madeCells #[.int .u8 0] 320) 5)):=made_u8 320 (by omega)
 obtain⟨A,ca,rfl,hra,hna⟩:=hv
 obtain⟨N,hN⟩:∃n,n=s.length:=⟨_,rfl⟩
 have ht:TreA ((w.alloc (.cells (trA c (.slice A s.length ca)) 26)).alloc (.cells (madeCells #[.int .u8 0] 320) 5)) w.heap.size c (.slice A s.length ca):=TreA.alloc (heap_alloc_new w _) _
 have hrow:RowW ((w.alloc (.cells (trA c (.slice A s.length ca)) 26)).alloc (.cells (madeCells #[.int .u8 0] 320) 5)) (w.heap.size+1) 320 (fun _=>0):=by
  have:=rowU_made (w.alloc (.cells (trA c (.slice A s.length ca)) 26)) 320
  rwa[World.size_alloc]at this
 have hb:=((Below.refl w.heap.size w).alloc (Nat.le_refl _) (.cells (trA c (.slice A s.length ca)) 26)).alloc (by simp) (.cells (madeCells #[.int .u8 0] 320) 5)
 have hno:N≤320∧c 0=0∨∀f,¬IsTree c s f:=by
  by_cases h:N≤320∧c 0=0
  ·exact .inl h
  ·refine .inr fun f hf=>h ⟨by rw[hN];exact(isTree_length hf).2,?_⟩
   have:=hf.2.2.1 0 (by omega)
   rw[cntN_zero]at this;exact this
 have k1:=ht.syms
 have k0:=ht.cnt (i:=0) (by omega)
 rw[←hN]at hs ht k1 k0 hrow hb⊢
 have HT:=Lib.hid ht;have HROW:=Lib.hid hrow;have HB:=Lib.hid hb;have HRA:=Lib.hid hra;have HNA:=Lib.hid hna;have HN:=Lib.hid hN;have HNO:=Lib.hid hno
 clear ht hrow hb hra hna hN hno
 by_cases h320:320<N
 ·have hd:decide ((320:Int)<(N:Int))=true:=by simp;omega
  have hbad:=HNO.out.resolve_left (by omega)
  have HBAD:=Lib.hid hbad
  clear hbad
  go_enter Tryz.func72,Tryz.ntmps72
  go_wp2
  go_ret2
  exact⟨.inr ⟨HBAD.out,rfl⟩,HB.out⟩
 have hd:decide ((320:Int)<(N:Int))=false:=by simp;omega
 obtain⟨x0,hx0⟩:∃x,x=c 0:=⟨_,rfl⟩
 rw[←hx0]at k0
 by_cases hc0:x0=0
 ·subst hc0
  clear HNO
  have HX0:=Lib.hid hx0
  clear hx0
  go_enter Tryz.func72,Tryz.ntmps72
  go_wp2
  go_loopw [5,6] (fun a n wr=>∃(k a_:Nat) (u:Nat→Nat),1≤k∧k≤16∧n=.int .i64 k∧a=.int .i64 a_∧a_≤N∧TreA wr w.heap.size c (.slice A N ca)∧RowW wr (w.heap.size+1) 320 u∧(∀j,u j<16)∧Known c s k 0 a_ u∧Below w.heap.size w wr) (fun _ n _=>16-(intOf n).toNat)
  case atStart=>exact⟨1,0,_,Nat.le_refl _,by omega,rfl,rfl,Nat.zero_le _,HT.out,HROW.out,fun _=>by omega,known_none c s,HB.out⟩
  case round=>
   obtain⟨k,a,u,hk1,hk,rfl,rfl,haN,ht,hrow,hu16,hkn,hb⟩:=hrel
   obtain⟨wo,rfl⟩:∃wo:World,wo=wr:=⟨_,rfl⟩
   by_cases hlt:k<16
   ·have hd15:decide ((k:Int)≤15)=true:=by simp;omega
    have k1:=ht.syms
    have k2:=ht.cnt (show k<16 by omega)
    have hcc:=Lib.hid (fun f (hf:IsTree c s f)=>known_cnt (by omega) hlt hkn hf)
    obtain⟨x,hx⟩:∃x,x=c k:=⟨_,rfl⟩
    rw[←hx]at k2 hcc
    have HTT:=Lib.hid ht;have HRW:=Lib.hid hrow;have HU:=Lib.hid hu16;have HK:=Lib.hid hkn;have HBW:=Lib.hid hb;have HX:=Lib.hid hx
    clear ht hrow hu16 hkn hb hx
    by_cases hx1:x<0
    ·have hbad:=Lib.hid (fun f (hf:IsTree c s f)=>by have:=(hcc.out f hf).1;omega:∀f,¬IsTree c s f)
     clear hcc
     go_wp2
     go_quiet (fail)
     go_wp2
     go_ret2
     exact⟨.inr ⟨hbad.out,rfl⟩,below_drawN HBW.out _⟩
    ·obtain⟨q,rfl⟩:=Int.eq_ofNat_of_zero_le (show 0≤x by omega)
     by_cases hx2:N<a+q
     ·have hbad:=Lib.hid (fun f (hf:IsTree c s f)=>by have:=(hcc.out f hf).2;rw[←HN.out]at this;omega:∀f,¬IsTree c s f)
      have hg:decide ((N:Int)-(a:Int)<(q:Int))=true:=by simp;omega
      have hq0:((q:Int)<0)=False:=by simp
      have hwr:IntKind.i64.wrap ((N:Int)-(a:Int))=(N:Int)-(a:Int):=IntWalk.i64_in _ ⟨by omega,by omega⟩
      clear hcc
      go_wp2
      go_quiet (fail)
      clear hwr hq0
      go_wp2
      go_ret2
      exact⟨.inr ⟨hbad.out,rfl⟩,below_drawN HBW.out _⟩
     ·have hg:decide ((N:Int)-(a:Int)<(q:Int))=false:=by simp;omega
      have hq0:((q:Int)<0)=False:=by simp
      have hwr:IntKind.i64.wrap ((N:Int)-(a:Int))=(N:Int)-(a:Int):=IntWalk.i64_in _ ⟨by omega,by omega⟩
      clear hcc
      go_wp2
      go_quiet (fail)
      clear hwr hq0
      go_wp2
      go_loopw [7,8] (fun n _ wi=>∃(i:Nat) (u2:Nat→Nat),i≤q∧n=.int .i64 i∧TreA wi w.heap.size c (.slice A N ca)∧RowW wi (w.heap.size+1) 320 u2∧(∀j,u2 j<16)∧Known c s k i a u2∧Below w.heap.size w wi) (fun n _ _=>q-(intOf n).toNat)
      case atStart=>exact⟨0,u,Nat.zero_le _,rfl,HTT.out,HRW.out,HU.out,HK.out,below_drawN HBW.out _⟩
      case round=>
       obtain⟨i,u2,hi,rfl,ht,hrow,hu16,hkn,hb⟩:=hrel
       have k1:=ht.syms
       have k2:=ht.cnt (show k<16 by omega)
       rw[←HX.out]at k2
       by_cases hlt2:i<q
       ·obtain⟨b,o,rfl,_,hc⟩:=(HRA.out.below hb (Nat.le_refl _)).at (k:=a+i) (by rw[←HN.out];omega)
        have e1:=hc (a+i) (by rw[←HN.out];omega)
        have hks:=Lib.hid (fun f (hf:IsTree c s f)=>known_sym (by omega) hlt hkn HX.out.symm hlt2 hf)
        have hst:=Lib.hid (fun(y:Nat) (hy:s.getD (a+i) 0=(y:Int))=>known_step (by omega) hlt hkn HX.out.symm hlt2 hy)
        obtain⟨y,hy⟩:∃y,y=s.getD (a+i) 0:=⟨_,rfl⟩
        rw[←hy]at e1 hks hst
        have HT2:=Lib.hid ht;have HR2:=Lib.hid hrow;have HU2:=Lib.hid hu16;have HB2:=Lib.hid hb
        clear ht hrow hu16 hkn hb hy hc
        by_cases hy1:y<0
        ·have hbad:=Lib.hid (fun f (hf:IsTree c s f)=>by obtain⟨z,h1,_⟩:=hks.out f hf;omega:∀f,¬IsTree c s f)
         have hd1:decide (y<0)=true:=by simpa using hy1
         clear hks hst
         go_wp2
         go_ret2
         exact⟨.inr ⟨hbad.out,rfl⟩,HB2.out⟩
        ·obtain⟨Y,rfl⟩:=Int.eq_ofNat_of_zero_le (show 0≤y by omega)
         have hd1:decide ((Y:Int)<0)=false:=by simp
         by_cases hy2:320≤Y
         ·have hbad:=Lib.hid (fun f (hf:IsTree c s f)=>by obtain⟨z,h1,h2,_⟩:=hks.out f hf;omega:∀f,¬IsTree c s f)
          have hd2:decide ((320:Int)≤(Y:Int))=true:=by simp;omega
          have hd3:decide (320≤Y)=true:=by simpa using hy2
          clear hks hst hd1
          go_wp2
          go_ret2
          exact⟨.inr ⟨hbad.out,rfl⟩,HB2.out⟩
         ·have hY:Y<320:=by omega
          have hd2:decide ((320:Int)≤(Y:Int))=false:=by simp;omega
          have hd3:decide (320≤Y)=false:=by simpa using hY
          have r1:=HR2.out.cell hY
          have r2:=HR2.out.frozen Y
          have hz16:=HU2.out Y
          obtain⟨z,hz⟩:∃z,z=u2 Y:=⟨_,rfl⟩
          rw[←hz]at r1 hz16
          have HZ:=Lib.hid hz
          clear hz
          by_cases hz0:z=0
          ·subst hz0
           have hk256:(k:Int)%256=k:=by omega
           clear hks hd1
           go_wp2
           go_roundw
           case rel=>
            refine⟨i+1,upd u2 Y k,by omega,by go_num,HT2.out.other (by simp) _,?_,fun j=>?_,hst.out Y rfl,HB2.out.setCell (by simp) _⟩
            ·exact HR2.out.set Y k
            ·unfold upd;split
             ·exact hlt
             ·exact HU2.out j
           case measure=>simp[intOf];omega
          ·have hbad:=Lib.hid (fun f (hf:IsTree c s f)=>by obtain⟨y2,h1,h2,h3⟩:=hks.out f hf;have:Y=y2:=(by omega);subst this;exact hz0 (HZ.out.trans h3):∀f,¬IsTree c s f)
           have hzn:((z:Int) !=0)=true:=by simp;omega
           have hzn2:(z !=0)=true:=by simpa using hz0
           clear hks hst hd1
           go_wp2
           go_ret2
           exact⟨.inr ⟨hbad.out,rfl⟩,HB2.out⟩
       ·obtain rfl:i=q:=by omega
        have hkx:=known_next (by omega) hlt hkn HX.out.symm
        have HKX:=Lib.hid hkx
        have HT2:=Lib.hid ht;have HR2:=Lib.hid hrow;have HU2:=Lib.hid hu16;have HB2:=Lib.hid hb
        clear ht hrow hu16 hkn hb hlt2 hi hkx
        go_wp2
        go_roundw
        case rel=>exact⟨k+1,a+i,u2,by omega,by omega,by go_num,by go_num,by omega,HT2.out,HR2.out,HU2.out,HKX.out,HB2.out⟩
        case measure=>simp[intOf];omega
   ·obtain rfl:k=16:=by omega
    have k1:=ht.syms
    have hend:=Lib.hid (fun f (hf:IsTree c s f)=>known_end hkn hf)
    by_cases haN2:a=N
    ·subst haN2
     have hne:(a !=a)=false:=by simp
     have hne2:((a:Int) !=(a:Int))=false:=by simp
     obtain⟨E,hE⟩:∃E,E=checkE u 320 15:=⟨_,rfl⟩
     have hu256:∀j,u j<256:=fun j=>by have:=hu16 j;omega
     have hrd:=hrow.rd hu256
     have hsz:w.heap.size+1<wo.heap.size:=hrow.lt
     have SIX:∀V:World,Below wo.heap.size wo V→V.cell? ⟨w.heap.size,0,none⟩=some (.int .i64 (c 0))∧V.cell? ⟨w.heap.size,1,none⟩=some (.int .i64 (c 1))∧V.cell? ⟨w.heap.size,2,none⟩=some (.int .i64 (c 2))∧V.cell? ⟨w.heap.size,3,none⟩=some (.int .i64 (c 3))∧V.cell? ⟨w.heap.size,4,none⟩=some (.int .i64 (c 4))∧V.cell? ⟨w.heap.size,5,none⟩=some (.int .i64 (c 5))∧V.cell? ⟨w.heap.size,6,none⟩=some (.int .i64 (c 6))∧V.cell? ⟨w.heap.size,7,none⟩=some (.int .i64 (c 7))∧V.cell? ⟨w.heap.size,8,none⟩=some (.int .i64 (c 8))∧V.cell? ⟨w.heap.size,9,none⟩=some (.int .i64 (c 9))∧V.cell? ⟨w.heap.size,10,none⟩=some (.int .i64 (c 10))∧V.cell? ⟨w.heap.size,11,none⟩=some (.int .i64 (c 11))∧V.cell? ⟨w.heap.size,12,none⟩=some (.int .i64 (c 12))∧V.cell? ⟨w.heap.size,13,none⟩=some (.int .i64 (c 13))∧V.cell? ⟨w.heap.size,14,none⟩=some (.int .i64 (c 14))∧V.cell? ⟨w.heap.size,15,none⟩=some (.int .i64 (c 15))∧V.cell? ⟨w.heap.size,16,none⟩=some (.slice A a ca):=fun V hV=>by
      have hT:=ht.below hV (by omega)
      exact⟨hT.cnt (by omega),hT.cnt (by omega),hT.cnt (by omega),hT.cnt (by omega),hT.cnt (by omega),hT.cnt (by omega),hT.cnt (by omega),hT.cnt (by omega),hT.cnt (by omega),hT.cnt (by omega),hT.cnt (by omega),hT.cnt (by omega),hT.cnt (by omega),hT.cnt (by omega),hT.cnt (by omega),hT.cnt (by omega),hT.syms⟩
     have S1:∀V:World,Below wo.heap.size wo V→Calls Tryz.prog 101 #[.slice (some ⟨w.heap.size+1,0,none⟩) 320 320,.int .i64 15] V fun e V'=>e=.returned (.int .i64 E)∧Below wo.heap.size wo V':=fun V hV=>by
      rw[hE]
      exact(rcheck_any V V.heap.size _ 320 320 u 15 ((hrd.below hV (Nat.le_refl _)).more hV.size)).mono fun _ _ ⟨h1,h2⟩=>⟨h1,h2▸hV⟩
     have S2:∀V:World,Below wo.heap.size wo V→Calls Tryz.prog 61 #[.slice (some ⟨w.heap.size+1,0,none⟩) 320 320] V fun e V'=>∃v,e=.returned (.agg (trA (fun m=>(tcN u m 320:Int)) v))∧RdS V' V'.heap.size v (natsI (symL u 320 15))∧Below wo.heap.size wo V':=fun V hV=>
      (grown_any V _ 320 320 u ((hrd.below hV (Nat.le_refl _)).more hV.size) (by omega)).mono fun _ _ ⟨v,h1,h2,h3⟩=>⟨v,h1,h2.rd,hV.trans (h3.mono hV.size)⟩
     have S3:∀(V:World) (v:Value),Below wo.heap.size wo V→RdS V V.heap.size v (natsI (symL u 320 15))→Calls Tryz.prog 32 #[.agg (trA (fun m=>(tcN u m 320:Int)) v),.agg (trA c (.slice A a ca))] V fun e V'=>e=.returned (.bool (sameT (fun m=>(tcN u m 320:Int)) c (natsI (symL u 320 15)) s))∧Below wo.heap.size wo V':=fun V v hV hv=>by
      have hs2:RdS V V.heap.size (.slice A a ca) s:=⟨A,ca,by rw[HN.out],((HRA.out.below hb (Nat.le_refl _)).more hb.size).below hV (Nat.le_refl _)|>.more hV.size,HNA.out⟩
      exact(same5_any V _ c v _ _ s hv hs2 (by rw[natsI_length,symL_length];have:=sumC_le u 320 15;omega) (by rw[←HN.out];omega)).mono fun _ _ ⟨h1,h2⟩=>⟨h1,hV.trans (h2.mono hV.size)⟩
     have H6:=Lib.hid SIX;have T1:=Lib.hid S1;have T2:=Lib.hid S2;have T3:=Lib.hid S3;have HBW:=Lib.hid hb;have HRD:=Lib.hid hrow;have HU256:=Lib.hid hu256;have HE:=Lib.hid hE
     clear SIX S1 S2 S3 hb hrow hu256 hE hu16 hkn ht hrd
     by_cases hE0:E=0
     ·subst hE0
      have hUU:Below wo.heap.size wo wo.drew:=(Below.refl _ _).drew
      obtain⟨R,hR⟩:∃R,R=sameT (fun m=>(tcN u m 320:Int)) c (natsI (symL u 320 15)) s:=⟨_,rfl⟩
      rw[←hR]at T3
      have HRR:=Lib.hid hR
      clear hR
      go_wp2_with fail
      go_region_held3 (fun V=>V.cell? ⟨w.heap.size,0,none⟩=some (.int .i64 (c 0))∧V.cell? ⟨w.heap.size,1,none⟩=some (.int .i64 (c 1))∧V.cell? ⟨w.heap.size,2,none⟩=some (.int .i64 (c 2))∧V.cell? ⟨w.heap.size,3,none⟩=some (.int .i64 (c 3))∧V.cell? ⟨w.heap.size,4,none⟩=some (.int .i64 (c 4))∧V.cell? ⟨w.heap.size,5,none⟩=some (.int .i64 (c 5))∧V.cell? ⟨w.heap.size,6,none⟩=some (.int .i64 (c 6))∧V.cell? ⟨w.heap.size,7,none⟩=some (.int .i64 (c 7))∧V.cell? ⟨w.heap.size,8,none⟩=some (.int .i64 (c 8))∧V.cell? ⟨w.heap.size,9,none⟩=some (.int .i64 (c 9))∧V.cell? ⟨w.heap.size,10,none⟩=some (.int .i64 (c 10))∧V.cell? ⟨w.heap.size,11,none⟩=some (.int .i64 (c 11))∧V.cell? ⟨w.heap.size,12,none⟩=some (.int .i64 (c 12))∧V.cell? ⟨w.heap.size,13,none⟩=some (.int .i64 (c 13))∧V.cell? ⟨w.heap.size,14,none⟩=some (.int .i64 (c 14))∧V.cell? ⟨w.heap.size,15,none⟩=some (.int .i64 (c 15))∧V.cell? ⟨w.heap.size,16,none⟩=some (.slice A a ca))
       (exact H6.out _ (by first|assumption|exact Below.drew (by assumption)|exact Below.refl _ _))
       (first
        |(go_at_call 101;refine(T1.out _ ?_).mono ?_;assumption;rintro e V1 ⟨rfl,hV1⟩)
        |(go_at_call 61;refine(T2.out _ ?_).mono ?_;assumption;rintro e V2 ⟨v,rfl,hv,hV2⟩)
        |(go_at_call 32;refine(T3.out _ v ?_ ?_).mono ?_;assumption;assumption;rintro e V3 ⟨rfl,hV3⟩))
      have HV:=Lib.hid (HBW.out.trans (hV3.mono HBW.out.size))
      have HRV:=Lib.hid (HRD.out.below hV3 hsz)
      clear hV1 hV2 hV3 hv hUU
      cases hR:R with
      |false=>
       have hbad:=Lib.hid (fun f (hf:IsTree c s f)=>by have:=(tests_of hf (hend.out f hf).2).2;rw[←HRR.out,hR]at this;exact Bool.noConfusion this:∀f,¬IsTree c s f)
       clear hR
       go_wp2
       go_ret2
       exact⟨.inr ⟨hbad.out,rfl⟩,HV.out⟩
      |true=>
       have htr:=Lib.hid (tests_tree HE.out.symm (HRR.out.symm.trans hR))
       clear hR
       go_wp2
       go_ret2
       exact⟨.inl ⟨_,_,htr.out,by omega,rfl,HRV.out.ext fun j hj=>(cutF_in hj).symm⟩,HV.out⟩
     ·have hUU:Below wo.heap.size wo wo.drew:=(Below.refl _ _).drew
      have hbad:=Lib.hid (fun f (hf:IsTree c s f)=>hE0 (HE.out.trans (tests_of hf (hend.out f hf).2).1):∀f,¬IsTree c s f)
      have hEn:(E !=0)=true:=by simpa using hE0
      have HCQ:=Lib.hid (fun q:Nat=>((rcheck_any (wo.drewN q) (wo.drewN q).heap.size (some ⟨w.heap.size+1,0,none⟩) 320 320 u 15 (HRD.out.rd HU256.out)).mono fun _ _ ⟨h1,h2⟩=>⟨h1,h2.symm⟩:Calls Tryz.prog 101 #[.slice (some ⟨w.heap.size+1,0,none⟩) 320 320,.int .i64 15] (wo.drewN q) fun e w'=>e=.returned (.int .i64 (checkE u 320 15))∧w'=wo.drewN q))
      rw[←HE.out]at HCQ
      clear T1 T2 T3 hE0 HE H6 hUU
      go_wp2_with fail
      go_quiet ((go_at_call 101;exact Calls.quiet_of_same (HCQ.out _)))
      go_wp2
      go_ret2
      exact⟨.inr ⟨hbad.out,rfl⟩,below_drawN HBW.out _⟩
    ·have hbad:=Lib.hid (fun f (hf:IsTree c s f)=>haN2 ((hend.out f hf).1.trans HN.out.symm):∀f,¬IsTree c s f)
     have hne:(a !=N)=true:=by simpa using haN2
     have hne2:((a:Int) !=(N:Int))=true:=by simp;omega
     have HBW:=Lib.hid hb
     clear ht hrow hu16 hkn hb haN2
     go_wp2
     go_quiet (fail)
     go_wp2
     go_ret2
     exact⟨.inr ⟨hbad.out,rfl⟩,below_drawN HBW.out _⟩
 ·have hbad:=HNO.out.resolve_left (by rw[←hx0];exact fun h=>hc0 h.2)
  have HBAD:=Lib.hid hbad
  have hx1:(x0 !=0)=true:=by simpa using hc0
  clear hbad HNO hx0 hc0
  go_enter Tryz.func72,Tryz.ntmps72
  go_wp2
  go_ret2
  exact⟨.inr ⟨HBAD.out,rfl⟩,HB.out⟩
end Go.Proofs.YtgokdgcmkcmjeaaGreat
