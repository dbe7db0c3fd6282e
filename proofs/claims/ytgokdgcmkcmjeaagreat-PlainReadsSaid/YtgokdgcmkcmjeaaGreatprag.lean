/-
  Words and walks.
-/
import Derived.Laws.ResultCell
import Derived.Test.YtgokdgcmkcmjeaaGreatprad
import Derived.Test.YtgokdgcmkcmjeaaGreatpraf
set_option maxRecDepth 100000
set_option maxHeartbeats 16000000
namespace Go.Proofs.YtgokdgcmkcmjeaaGreat
open Go.RowKit
theorem setRow_tre{w:World}{b:Nat}{c d:Nat→Int}{u v:Value}(h:TreA w b c u):TreA (w.setRow b (trA d v)) b d v:=setRow_heap w b _ _ _ _ h
def cntG(f:Nat→Nat)(n k j m:Nat):Int:=if 0<m∧m<k then(tcN f m n:Int)else if m=k∧0<m then(tcN f k j:Int)else 0
def symG(f:Nat→Nat)(n k j:Nat):List Nat:=symL f n (k-1)++rowM f k j
theorem cntG_step{f:Nat→Nat}{n k j:Nat}(hk:0<k)(h:f j=k):(fun m=>if m=k then cntG f n k j k+1 else cntG f n k j m)=cntG f n k (j+1):=by
 funext m
 unfold cntG
 by_cases e:m=k
 ·subst e
  rw[if_pos rfl,if_neg (by omega),if_pos ⟨rfl,hk⟩,if_neg (by omega),if_pos ⟨rfl,hk⟩]
  simp only[tcN]
  rw[if_pos ⟨by omega,h⟩];omega
 ·rw[if_neg e]
  by_cases g:0<m∧m<k
  ·rw[if_pos g,if_pos g]
  ·rw[if_neg g,if_neg (fun h=>e h.1),if_neg g,if_neg (fun h=>e h.1)]
theorem cntG_skip{f:Nat→Nat}{n k j:Nat}(h:f j≠k):cntG f n k j=cntG f n k (j+1):=by
 funext m
 unfold cntG
 simp only[tcN]
 rw[show(if 0<f j∧f j=k then 1 else 0)=0 from if_neg (fun g=>h g.2)];rfl
theorem cntG_next(f:Nat→Nat)(n k:Nat):cntG f n k n=cntG f n (k+1) 0:=by
 funext m
 unfold cntG
 simp only[tcN]
 by_cases g:0<m∧m<k
 ·rw[if_pos g,if_pos ⟨g.1,by omega⟩]
 ·rw[if_neg g]
  by_cases e:m=k∧0<m
  ·rw[if_pos e,if_pos ⟨e.2,by omega⟩,e.1]
  ·rw[if_neg e,if_neg (by omega)];split<;>rfl
theorem cntG_none(f:Nat→Nat)(n:Nat):cntG f n 1 0=fun _=>0:=by
 funext m;unfold cntG;rw[if_neg (by omega)];split<;>rfl
theorem cntG_last(f:Nat→Nat)(n:Nat){m:Nat}(h:m<16):cntG f n 16 0 m=(tcN f m n:Int):=by
 unfold cntG
 by_cases g:0<m
 ·rw[if_pos ⟨g,h⟩]
 ·rw[if_neg (by omega),if_neg (by omega),show m=0 by omega,cntN_zero];rfl
theorem symG_step{f:Nat→Nat}{n k j:Nat}(h:f j=k):symG f n k j++[j]=symG f n k (j+1):=by
 unfold symG;simp only[rowM];rw[if_pos h,List.append_assoc]
theorem symG_skip{f:Nat→Nat}{n k j:Nat}(h:f j≠k):symG f n k j=symG f n k (j+1):=by
 unfold symG;simp only[rowM];rw[if_neg h,List.append_nil]
theorem symG_next(f:Nat→Nat)(n:Nat){k:Nat}(hk:0<k):symG f n k n=symG f n (k+1) 0:=by
 obtain⟨K,rfl⟩:∃K,k=K+1:=⟨k-1,by omega⟩
 unfold symG
 rw[Nat.add_sub_cancel,Nat.add_sub_cancel]
 simp only[rowM,symL,List.append_nil]
theorem symG_last(f:Nat→Nat)(n:Nat):symG f n 16 0=symL f n 15:=by unfold symG;simp[rowM]
theorem sumC_le(f:Nat→Nat)(n:Nat):∀M,sumC f n M≤n*M
 |0=>Nat.zero_le _
 |M+1=>by
  have h1:=sumC_le f n M
  have h2:=cntN_le f (M+1) n
  simp only[sumC];rw[Nat.mul_succ];omega
theorem symG_le(f:Nat→Nat){n k j:Nat}(hk:0<k)(hk2:k≤16)(hj:j≤n):(symG f n k j).length≤n*16:=by
 unfold symG
 rw[List.length_append,symL_length,rowM_length f hk]
 have h1:=sumC_le f n (k-1)
 have h2:=cntN_le f k j
 have h3:n*(k-1)+n≤n*16:=by rw[←Nat.mul_succ];exact Nat.mul_le_mul_left _ (by omega)
 omega
theorem natsI_app(a b:List Nat):natsI a++natsI b=natsI (a++b):=by simp[natsI]
theorem cntG_in(f:Nat→Nat){n k j m:Nat}(hj:j≤n):0≤cntG f n k j m∧cntG f n k j m≤n:=by
 unfold cntG
 have h1:=cntN_le f m n
 have h2:=cntN_le f k j
 split
 ·omega
 ·split<;>omega
theorem grown_any(w:World)(A:Option Addr)(n c:Nat)(f:Nat→Nat)(hr:RdB w w.heap.size A n f)(hn:n≤10000):
  Calls Tryz.prog 61 #[.slice A n c] w fun e w'=>∃v,e=.returned (.agg (trA (fun m=>(tcN f m n:Int)) v))∧OwnS w' w.heap.size v (natsI (symL f n 15))∧Below w.heap.size w w':=by
 have hz:=(zero_of_info infoTree).1
 have HR:=Lib.hid hr
 clear hr
 go_enter Tryz.func61,Tryz.ntmps61
 go_wp2
 go_loopw [4] (fun i wr=>∃(k:Nat) (Ao:Option Addr) (co:Nat),1≤k∧k≤16∧i=.int .i64 k∧TreA wr w.heap.size (fun _=>0) (.slice none 0 0)∧TreA wr (w.heap.size+1) (cntG f n k 0) (.slice Ao (symG f n k 0).length co)∧
  wr.ownsRow (w.heap.size+2) 3 1 (.slice Ao (symG f n k 0).length co) (symG f n k 0).length (intsL (natsI (symG f n k 0)))∧Below w.heap.size w wr) (fun i _=>16-(intOf i).toNat)
 case atStart=>
  refine⟨1,none,0,Nat.le_refl _,by omega,rfl,heap_alloc2_old w _ _,?_,World.ownsRow_nil _ _ _ 1,((Below.refl _ _).alloc (Nat.le_refl _) _).alloc (by simp) _⟩
  rw[cntG_none];exact heap_alloc2_new w _ _
 case round=>
  obtain⟨k,Ao,co,hk1,hk,rfl,h0,h1,hown,hb⟩:=hrel
  obtain⟨wo,rfl⟩:∃wo:World,wo=wr:=⟨_,rfl⟩
  by_cases hlt:k<16
  ·have hd:decide ((k:Int)≤15)=true:=by simp;omega
   have H0:=Lib.hid h0;have H1:=Lib.hid h1;have HO:=Lib.hid hown;have HB:=Lib.hid hb
   clear h0 h1 hown hb
   go_wp2
   go_loopw [5] (fun i wi=>∃(j:Nat) (Ai:Option Addr) (ci:Nat),j≤n∧i=.int .i64 j∧TreA wi w.heap.size (fun _=>0) (.slice none 0 0)∧TreA wi (w.heap.size+1) (cntG f n k j) (.slice Ai (symG f n k j).length ci)∧
    wi.ownsRow (w.heap.size+2) 3 1 (.slice Ai (symG f n k j).length ci) (symG f n k j).length (intsL (natsI (symG f n k j)))∧Below w.heap.size w wi) (fun i _=>n-(intOf i).toNat)
   case atStart=>exact⟨0,Ao,co,Nat.zero_le _,rfl,H0.out,H1.out,HO.out,HB.out⟩
   case round=>
    obtain⟨j,Ai,ci,hj,rfl,h0,h1,hown,hb⟩:=hrel
    by_cases hlt2:j<n
    ·obtain⟨b,o,rfl,_,hc⟩:=(HR.out.below hb (Nat.le_refl _)).2 (by omega)
     have hcell:=hc j hlt2
     have hf8:=HR.out.1 j
     clear hc
     by_cases he:f j=k
     ·have hin:=cntG_in f (n:=n) (k:=k) (j:=j) (m:=k) hj
      have hle:=symG_le f (n:=n) (k:=k) (j:=j) (by omega) hk hj
      have c1:=h1.cnt (show k<16 by omega)
      have f1:=h1.frozen k
      have hset:=h1.setCnt (show k<16 by omega) (cntG f n k j k+1)
      rw[cntG_step (by omega) he]at hset
      have hss:=symG_step (n:=n) he
      obtain⟨L,hL⟩:∃L,L=(symG f n k j).length:=⟨_,rfl⟩
      rw[←hL]at hown hset h1 hle
      obtain⟨x,hx⟩:∃x,x=cntG f n k j k:=⟨_,rfl⟩
      rw[←hx]at c1 hin hset
      have hown2:=ownsRow_setCell_below hown (a:=⟨w.heap.size+1,k,none⟩) (by show w.heap.size+1<_;omega) (.int .i64 (x+1))
      have hsz:(wr.setCell ⟨w.heap.size+1,k,none⟩ (.int .i64 (x+1))).heap.size=wr.heap.size:=by simp[World.setCell]
      have hlt1:=h1.lt
      obtain⟨A',c',w2,hrun,hown3,hb3⟩:=run_one (wr.setCell ⟨w.heap.size+1,k,none⟩ (.int .i64 (x+1))) (w.heap.size+2) Ai L ci _ hown2 (j:Int) (by omega) (by rw[hsz];omega)
      rw[hsz]at hrun
      have hs1:=hset.syms
      have ht2:=hset.below hb3 (by omega)
      have ht0:=(h0.other (p:=⟨w.heap.size+1,k,none⟩) (by simp) (.int .i64 (x+1))).below hb3 (by omega)
      have hbb:=(hb.setCell (p:=⟨w.heap.size+1,k,none⟩) (by simp) (.int .i64 (x+1))).trans (hb3.mono (by omega))
      have hf2:=ht2.frozen 16
      have hs2:=ht2.syms
      have HSET:=Lib.hid ht2;have HT0:=Lib.hid ht0;have HBB:=Lib.hid hbb;have HRUN:=Lib.hid hrun;have HOWN:=Lib.hid hown3;have HSS:=Lib.hid hss;have HLL:=Lib.hid hL
      clear h0 h1 hown hb hset hown2 hrun hown3 hb3 ht2 ht0 hbb hss hL hx hsz
      have hkk:((f j:Int)==(k:Int))=true:=by simp;omega
      go_wp2_with (at_builtin;refine wpList_append_run rfl (.tmp 31) (.tmp 33) 24 rfl (.slice Ai L ci) (.slice (some ⟨wr.heap.size,0,none⟩) 1 1) (.slice A' (L+1) c') w2 rfl rfl HRUN.out ?_)
      go_roundw
      case rel=>
       have e1:L+1=(symG f n k (j+1)).length:=by rw[←HSS.out,List.length_append,←HLL.out];rfl
       have e2:natsI (symG f n k j)++[(j:Int)]=natsI (symG f n k (j+1)):=by rw[←HSS.out,←natsI_app];rfl
       refine⟨j+1,A',c',by omega,by go_num,HT0.out.other (by simp) _,?_,?_,HBB.out.setCell (by simp) _⟩
       ·rw[←e1];exact HSET.out.setSyms _
       ·rw[←e1,←e2]
        exact ownsRow_setCell_below HOWN.out (by show w.heap.size+1<_;omega) _
      case measure=>simp[intOf];omega
     ·have hno:((f j:Int)==(k:Int))=false:=by simp;omega
      have HC:=Lib.hid (cntG_skip (n:=n) he);have HS:=Lib.hid (symG_skip (n:=n) he)
      have H0':=Lib.hid h0;have H1':=Lib.hid h1;have HO':=Lib.hid hown;have HB':=Lib.hid hb
      clear h0 h1 hown hb
      go_wp2
      go_roundw
      case rel=>
       refine⟨j+1,Ai,ci,by omega,by go_num,H0'.out,?_,?_,HB'.out⟩
       ·rw[←HC.out,←HS.out];exact H1'.out
       ·rw[←HS.out];exact HO'.out
      case measure=>simp[intOf];omega
    ·obtain rfl:j=n:=by omega
     have HC:=Lib.hid (cntG_next f j k);have HS:=Lib.hid (symG_next f j (k:=k) (by omega))
     have H0':=Lib.hid h0;have H1':=Lib.hid h1;have HO':=Lib.hid hown;have HB':=Lib.hid hb
     clear h0 h1 hown hb hlt2 hj
     go_wp2
     go_roundw
     case rel=>
      refine⟨k+1,Ai,ci,by omega,by omega,by go_num,H0'.out,?_,?_,HB'.out⟩
      ·rw[←HC.out,←HS.out];exact H1'.out
      ·rw[←HS.out];exact HO'.out
     case measure=>simp[intOf];omega
  ·obtain rfl:k=16:=by omega
   rw[symG_last]at h1 hown
   have h1':TreA wo (w.heap.size+1) (cntG f n 16 0) (.slice Ao (symL f n 15).length co):=h1
   have e:=trA_ext (.slice Ao (symL f n 15).length co) (fun m hm=>cntG_last f n (m:=m) hm)
   unfold TreA at h1'
   rw[e]at h1'
   have hcap:Ao=none→co=0:=fun h=>(own_cap hown).2.2 h|>.2
   obtain⟨L,hL⟩:∃L,L=(symL f n 15).length:=⟨_,rfl⟩
   rw[←hL]at h1' hown
   have H0':=Lib.hid h0;have H1':=Lib.hid h1';have HO':=Lib.hid hown;have HB':=Lib.hid hb;have HC:=Lib.hid hcap;have HL:=Lib.hid hL
   clear h0 h1 h1' hown hb hlt hk hk1 hcap e hL
   go_wp2_with (first
    |(refine wpList_load_row rfl _ _ rfl (w.heap.size+1) rfl _ (trA (fun m=>(tcN f m n:Int)) (.slice Ao L co)) (0,0) _ H1'.out Tryz.underlying26 rfl (by rw[trA_size];exact szTree) ?_)
    |(refine wpList_store_rowT rfl _ _ _ rfl w.heap.size (trA (fun m=>(tcN f m n:Int)) (.slice Ao L co)) rfl rfl _ (trA (fun _=>0) (.slice none 0 0)) H0'.out (by rw[trA_size];exact szTree) (by rw[trA_size,trA_size]) (trA_one _ _ rfl) ?_))
   have hbe:=below_setRowT HB'.out (g:=w.heap.size) (Nat.le_refl _) (trA (fun m=>(tcN f m n:Int)) (.slice Ao L co))
   refine bodyPost_ret (v:=.agg (trA (fun m=>(tcN f m n:Int)) (.slice Ao L co))) ?_ rfl ⟨_,rfl,?_,hbe⟩
   ·exact results_cell_row rfl _ _ w.heap.size _ _ (0,0) _ rfl (setRow_tre H0'.out (d:=fun m=>(tcN f m n:Int)) (v:=.slice Ao L co)) Tryz.underlying26 rfl (by rw[trA_size];exact szTree)
   ·have ho:=ownsRow_same HO'.out (w':=wo.setRow w.heap.size (trA (fun m=>(tcN f m n:Int)) (.slice Ao L co))) (fun g hg=>setRow_other _ _ _ _ (by omega))
    unfold OwnS
    rw[natsI_length,←HL.out]
    exact ownsRow_lower ho (by omega)
end Go.Proofs.YtgokdgcmkcmjeaaGreat
namespace Go.Proofs.YtgokdgcmkcmjeaaGreat
open Go.RowKit
def grC(f:Nat→Nat)(n:Nat)(most:Int)(m:Nat):Int:=if checkE f n most=0 then(tcN f m n:Int)else 0
def grS(f:Nat→Nat)(n:Nat)(most:Int):List Int:=if checkE f n most=0 then natsI (symL f n 15)else[]
theorem cell_tree{fn:Func}{p u:Tmp}(h:fn.results=#[.cell p 26,.tmp u])(tmps:Array Value)(w:World)(g:Nat)(c:Nat→Int)(v:Value)(hp:tmps.getD p undef=.pointer (some ⟨g,0,none⟩))(ht:TreA w g c v):
  (results fn tmps).run Tryz.prog w=.ok (.tuple #[.agg (trA c v),tmps.getD u undef]) w:=by
 have hp':tmps[p]?.getD undef=.pointer (some ⟨g,0,none⟩):=by simpa using hp
 have hl:=run_loadVar_row (P:=Tryz.prog) w g 26 26 (trA c v) (0,0) _ ht Tryz.underlying26 rfl (by rw[trA_size];exact szTree)
 simp[results,h,hp',asAddr,hl]
end Go.Proofs.YtgokdgcmkcmjeaaGreat
