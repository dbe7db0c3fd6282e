/-
  Words and walks.
-/
import Derived.Great.BuildSlice
import Derived.Deep.DeepCutAuto
import Derived.Test.YtcmpmighjglnpaaGreattaab
import Derived.Test.YtcmpmighjglnpaaGreattaad
import Derived.Test.YtcmpmighjglnpaaGreattaaf
import Derived.Test.YtcmpmighjglnpaaGreattaah
import Derived.Test.YtcmpmighjglnpaaGreattaai
set_option maxRecDepth 100000
set_option maxHeartbeats 16000000
namespace Go.Proofs.YtcmpmighjglnpaaGreat
open Go.RowKit
def rdgL(c:Nat→Int)(v:Value)(n a:Int):List Value:=cntV c++[v,.int .i64 n,.int .i64 a]
def rdgA(c:Nat→Int)(v:Value)(n a:Int):Array Value:=(rdgL c v n a).toArray
theorem rdgA_size(c:Nat→Int)(v:Value)(n a:Int):(rdgA c v n a).size=19:=by simp[rdgA,rdgL,cntV]
theorem rdgA_get(c:Nat→Int)(v:Value)(n a:Int)(i:Nat):(rdgA c v n a)[i]?=if i<16 then some (.int .i64 (c i))else if i=16 then some v else if i=17 then some (.int .i64 n)else if i=18 then some (.int .i64 a)else none:=by
 have e:(rdgA c v n a)[i]?=(rdgL c v n a)[i]?:=by simp[rdgA]
 rw[e]
 unfold rdgL
 rw[List.getElem?_append,cntV_length,cntV_get]
 by_cases h:i<16
 ·rw[if_pos h,if_pos h,if_pos h]
 ·rw[if_neg h,if_neg h]
  by_cases h2:i=16
  ·subst h2;rfl
  ·rw[if_neg h2]
   by_cases h3:i=17
   ·subst h3;rfl
   ·rw[if_neg h3]
    by_cases h4:i=18
    ·subst h4;rfl
    ·rw[if_neg h4,List.getElem?_eq_none (by simp;omega)]
theorem infoRdg:(Tryz.prog.info? 201).map (fun i=>(i.zero,i.size))=some (some (.agg (rdgA (fun _=>0) (.slice none 0 0) 0 0)),19):=by kernel_rfl
theorem szRdg:(Tryz.prog.info? 201).map (·.size)=some 19:=(zero_of_info infoRdg).2
def Rdg(w:World)(b:Nat)(c:Nat→Int)(v:Value)(n a:Int):Prop:=w.heap[b]?=some (.cells (rdgA c v n a) 201 (0,0))
theorem Rdg.cnt{w:World}{b:Nat}{c:Nat→Int}{v:Value}{n a:Int}(h:Rdg w b c v n a){i:Nat}(hi:i<16):w.cell? ⟨b,i,none⟩=some (.int .i64 (c i)):=by
 rw[cell_of_row w b i _ _ (0,0) h,rdgA_get,if_pos hi]
theorem Rdg.syms{w:World}{b:Nat}{c:Nat→Int}{v:Value}{n a:Int}(h:Rdg w b c v n a):w.cell? ⟨b,16,none⟩=some v:=by
 rw[cell_of_row w b 16 _ _ (0,0) h,rdgA_get,if_neg (by omega),if_pos rfl]
theorem Rdg.long{w:World}{b:Nat}{c:Nat→Int}{v:Value}{n a:Int}(h:Rdg w b c v n a):w.cell? ⟨b,17,none⟩=some (.int .i64 n):=by
 rw[cell_of_row w b 17 _ _ (0,0) h,rdgA_get,if_neg (by omega),if_neg (by omega),if_pos rfl]
theorem Rdg.ahead{w:World}{b:Nat}{c:Nat→Int}{v:Value}{n a:Int}(h:Rdg w b c v n a):w.cell? ⟨b,18,none⟩=some (.int .i64 a):=by
 rw[cell_of_row w b 18 _ _ (0,0) h,rdgA_get,if_neg (by omega),if_neg (by omega),if_neg (by omega),if_pos rfl]
theorem Rdg.frozen{w:World}{b:Nat}{c:Nat→Int}{v:Value}{n a:Int}(h:Rdg w b c v n a)(j:Nat):w.frozen? ⟨b,j,none⟩=false:=frozen_of_row w b j _ _ h
theorem Rdg.drewN{w:World}{b:Nat}{c:Nat→Int}{v:Value}{n a:Int}(h:Rdg w b c v n a)(k:Nat):Rdg (w.drewN k) b c v n a:=h
theorem Rdg.setSyms{w:World}{b:Nat}{c:Nat→Int}{v:Value}{n a:Int}(h:Rdg w b c v n a)(u:Value):Rdg (w.setCell ⟨b,16,none⟩ u) b c u n a:=by
 unfold Rdg;rw[heap_setCell_same w b 16 _ _ _ h];rfl
theorem Rdg.setLong{w:World}{b:Nat}{c:Nat→Int}{v:Value}{n a:Int}(h:Rdg w b c v n a)(x:Int):Rdg (w.setCell ⟨b,17,none⟩ (.int .i64 x)) b c v x a:=by
 unfold Rdg;rw[heap_setCell_same w b 17 _ _ _ h];rfl
theorem Rdg.setAhead{w:World}{b:Nat}{c:Nat→Int}{v:Value}{n a:Int}(h:Rdg w b c v n a)(x:Int):Rdg (w.setCell ⟨b,18,none⟩ (.int .i64 x)) b c v n x:=by
 unfold Rdg;rw[heap_setCell_same w b 18 _ _ _ h];rfl
theorem open_any(w:World)(b:Nat)(c:Nat→Int)(A:Option Addr)(m cap:Nat)(n a:Int)(h:Rdg w b c (.slice A m cap) n a):
  Calls Tryz.prog 144 #[.pointer (some ⟨b,0,none⟩)] w fun e w'=>e=.returned (.bool (decide (0<m)))∧w=w':=by
 have k:=h.syms
 clear h
 cases hd:decide (0<m)
 ·have h2:decide ((m:Int)>0)=false:=by simp at hd⊢;omega
  have h3:decide ((0:Int)<(m:Int))=false:=by simp at hd⊢;omega
  go_enter Tryz.func144,Tryz.ntmps144
  go_wp2
  go_ret
  exact⟨rfl,rfl⟩
 ·have h2:decide ((m:Int)>0)=true:=by simp at hd⊢;omega
  have h3:decide ((0:Int)<(m:Int))=true:=by simp at hd⊢;omega
  go_enter Tryz.func144,Tryz.ntmps144
  go_wp2
  go_ret
  exact⟨rfl,rfl⟩
def TakeOut(w0:World)(b:Nat)(c:Nat→Int)(A:Option Addr)(m cap n a bit:Nat)(l:List Int)(e:Ending)(w':World):Prop:=
 Below b w0 w'∧∃q:Nat,c (n+1)=(q:Int)∧((2*a+bit<q∧e=.returned (.tuple #[.int .i64 (l.getD (2*a+bit) 0),.bool true]))∨
  (q≤2*a+bit∧e=.returned (.tuple #[.int .i64 0,.bool false])∧∃A2,(A=none→A2=none)∧(∀x,A=some x→A2=if cap=q then some x else some (x.add q))∧Rdg w' b c (.slice A2 (m-q) (cap-q)) ((n+1:Nat):Int) ((2*a+bit-q:Nat):Int)))
theorem take1_any(w:World)(b:Nat)(c:Nat→Int)(A:Option Addr)(m cap n a bit q:Nat)(l:List Int)(h:Rdg w b c (.slice A m cap) (n:Int) (a:Int))(hl:m=l.length)(hr:RdI w b A l)(hmc:m≤cap)(hc:cap≤maxLen)(hn:n<15)(ha:a≤1000000)(hb:bit<2)
  (hq:c (n+1)=(q:Int)) (hqm:q≤m):
  Calls Tryz.prog 145 #[.pointer (some ⟨b,0,none⟩),.int .i64 (bit:Int)] w (TakeOut w b c A m cap n a bit l):=by
 unfold maxLen at hc
 have k1:=h.long
 have f1:=h.frozen 17
 have f0:=h.frozen 16
 have h2:=h.setLong ((n:Int)+1)
 have k2:=h2.ahead
 have f2:=h2.frozen 18
 have h3:=h2.setAhead (2*(a:Int)+(bit:Int))
 have k3:=h3.long
 have k4:=h3.cnt (show n+1<16 by omega)
 have k5:=h3.ahead
 have k6:=h3.syms
 have f5:=h3.frozen 18
 rw[hq]at k4
 have hb2:=((Below.refl b w).setCell (p:=⟨b,17,none⟩) (Nat.le_refl _) (.int .i64 ((n:Int)+1))).setCell (p:=⟨b,18,none⟩) (Nat.le_refl _) (.int .i64 (2*(a:Int)+(bit:Int)))
 have HB:=Lib.hid hb2;have H3:=Lib.hid h3;have HR:=Lib.hid hr;have HL:=Lib.hid hl;have HQ:=Lib.hid hq
 clear h h2 h3 hb2 hr hl hq
 have hn16:(n:Int)+1<16:=by omega
 by_cases hx:2*a+bit<q
 ·have hd:decide (2*(a:Int)+(bit:Int)<(q:Int))=true:=by simp;omega
  obtain⟨b1,o,rfl,hb1,hcc⟩:=(HR.out.below HB.out (Nat.le_refl _)).at (k:=2*a+bit) (by rw[←HL.out];omega)
  have e1:=hcc (2*a+bit) (by rw[←HL.out];omega)
  obtain⟨y,hy⟩:∃y,y=l.getD (2*a+bit) 0:=⟨_,rfl⟩
  rw[←hy]at e1
  have HY:=Lib.hid hy
  clear hcc hy
  go_enter Tryz.func145,Tryz.ntmps145
  go_wp2
  go_quiet (fail)
  go_wp2
  go_quiet (fail)
  go_wp2
  go_ret2
  exact⟨below_drawN (below_drawN HB.out _) _,q,HQ.out,.inl ⟨hx,by rw[HY.out];rfl⟩⟩
 ·have hd:decide (2*(a:Int)+(bit:Int)<(q:Int))=false:=by simp;omega
  have hxq:2*(a:Int)+(bit:Int)-(q:Int)=((2*a+bit-q:Nat):Int):=by omega
  have h4:=H3.out.setAhead (2*(a:Int)+(bit:Int)-(q:Int))
  have H4:=Lib.hid h4;have HXQ:=Lib.hid hxq
  have k7:=h4.syms
  have f7:=h4.frozen 16
  clear h4 hxq
  have hqc:q≤cap:=by omega
  rcases A with _|x
  ·go_enter Tryz.func145,Tryz.ntmps145
   go_wp2
   go_quiet (fail)
   go_wp2
   go_ret2
   refine⟨((below_drawN HB.out nq).setCell (p:=⟨b,18,none⟩) (Nat.le_refl _) _).setCell (p:=⟨b,16,none⟩) (Nat.le_refl _) _,q,HQ.out,.inr ⟨by omega,rfl,none,fun _=>rfl,(fun x h=>by cases h),?_⟩⟩
   have hfin:=((H3.out.drewN nq).setAhead (2*(a:Int)+(bit:Int)-(q:Int))).setSyms (.slice none (m-q) (cap-q))
   rw[←HXQ.out]
   exact hfin
  ·obtain⟨A2,hA2⟩:∃A2,(if cap=q then(some x:Option Addr)else some (x.add q))=A2:=⟨_,rfl⟩
   go_enter Tryz.func145,Tryz.ntmps145
   go_wp2
   go_quiet (fail)
   go_wp2
   go_ret2
   refine⟨((below_drawN HB.out nq).setCell (p:=⟨b,18,none⟩) (Nat.le_refl _) _).setCell (p:=⟨b,16,none⟩) (Nat.le_refl _) _,q,HQ.out,.inr ⟨by omega,rfl,A2,(fun h=>by cases h),(fun y h=>by cases h;exact hA2.symm),?_⟩⟩
   have hfin:=((H3.out.drewN nq).setAhead (2*(a:Int)+(bit:Int)-(q:Int))).setSyms (.slice A2 (m-q) (cap-q))
   rw[←HXQ.out]
   exact hfin
end Go.Proofs.YtcmpmighjglnpaaGreat
namespace Go.Proofs.YtcmpmighjglnpaaGreat
open Go.RowKit
theorem numN_one(g:Nat→Nat)(k:Nat):numN g k 1=bitAt g k:=by simp[numN]
def Gone(f:Nat→Nat)(g:Nat→Nat)(l at_ n:Nat):Prop:=readR f 320 g l at_ 17 0=readR f 320 g l at_ (17-n) n∧fndN f 320 (bvN g at_ n) n 320=none
theorem gone_none(f g:Nat→Nat)(l at_:Nat):Gone f g l at_ 0:=⟨rfl,fndN_none.2 fun i _=>decide_eq_false fun h=>by omega⟩
theorem gone_code{f g:Nat→Nat}{l at_ n:Nat}(h:Gone f g l at_ n)(hn:n≤15)(hm:morN f 320 (bvN g at_ n) n 320=false):readR f 320 g l at_ 17 0=(0,0,50):=by
 rw[h.1,show 17-n=(16-n)+1 by omega]
 simp only[readR]
 rw[h.2]
 simp only
 rw[if_pos hm]
theorem gone_end{f g:Nat→Nat}{l at_ n:Nat}(h:Gone f g l at_ n)(hn:n≤15)(hm:morN f 320 (bvN g at_ n) n 320=true)(hl:8*l≤at_+n):readR f 320 g l at_ 17 0=(0,0,10):=by
 rw[h.1,show 17-n=(16-n)+1 by omega]
 simp only[readR]
 rw[h.2]
 simp only
 rw[if_neg (by rw[hm];decide),if_pos hl]
theorem gone_on{f g:Nat→Nat}{l at_ n:Nat}(h:Gone f g l at_ n)(hn:n≤15)(hm:morN f 320 (bvN g at_ n) n 320=true)(hl:at_+n<8*l):readR f 320 g l at_ 17 0=readR f 320 g l at_ (17-(n+1)) (n+1):=by
 rw[h.1,show 17-n=(17-(n+1))+1 by omega]
 simp only[readR]
 rw[h.2]
 simp only
 rw[if_neg (by rw[hm];decide),if_neg (by omega)]
theorem gone_found{f g:Nat→Nat}{l at_ n i:Nat}(h:Gone f g l at_ n)(hn:n<15)(hm:morN f 320 (bvN g at_ n) n 320=true)(hl:at_+n<8*l)(hf:fndN f 320 (bvN g at_ (n+1)) (n+1) 320=some i):readR f 320 g l at_ 17 0=(i,at_+(n+1),0):=by
 rw[gone_on h (by omega) hm hl,show 17-(n+1)=(15-n)+1 by omega]
 simp only[readR]
 rw[hf]
theorem built_rdg(c:Nat→Int)(A:Option Addr)(m cap:Nat):Tryz.prog.built 201 [(0,.agg (cntV c).toArray),(1,.slice A m cap)]=some (rdgA c (.slice A m cap) 0 0):=by
 kernel_rfl
theorem rdgA_one(c:Nat→Int)(v:Value)(n a:Int)(hv:v.oneCell'=true):(rdgA c v n a).all (·.oneCell')=true:=
 all_oneCell_toArray fun u hu=>by
  unfold rdgL cntV at hu
  rcases List.mem_append.1 hu with h|h
  ·obtain⟨i,_,rfl⟩:=List.mem_map.1 h;rfl
  ·simp at h
   rcases h with rfl|rfl|rfl
   ·exact hv
   ·rfl
   ·rfl
theorem tnext_any(w:World)(c:Nat→Int)(v:Value)(s:List Int)(hv:RdS w w.heap.size v s)(hs:s.length≤1000000)(Ab:Option Addr)(l cb:Nat)(g:Nat→Nat)(hg:RdB w w.heap.size Ab l g)(hl:l≤1000000)(a:Int)(ha0: -9223372036854775808≤a)(ha:a≤9223372036854775807):
  Calls Tryz.prog 129 #[.agg (trA c v),.slice Ab l cb,.int .i64 a] w fun e w'=>NxtOut c s g l a e∧Below w.heap.size w w':=by
 have hz:=(zero_of_info infoRdg).1
 have hb:=(Below.refl w.heap.size w).alloc (Nat.le_refl _) (.cells (trA c v) 26)
 have hcl:=tchk_any (w.alloc (.cells (trA c v) 26)) c v s ((hv.below hb (Nat.le_refl _)).more hb.size) hs
 have HCL:=Lib.hid hcl;have HB:=Lib.hid hb;have HT:=Lib.hid (box_tree w c v);have HG:=Lib.hid hg;have HV:=Lib.hid hv
 have hT0:=box_tree w c v
 clear hcl hb hg hv
 go_enter Tryz.func129,Tryz.ntmps129
 go_wp2_with (refine wpList_load_row rfl _ _ rfl w.heap.size rfl _ (trA c v) (0,0) _ HT.out Tryz.underlying26 rfl (by rw[trA_size];exact szTree) ?_)
 refine HCL.out.mono ?_
 rintro e w2 ⟨hout,hb2⟩
 have hT2:=hT0.below hb2 (by simp)
 have HT2:=Lib.hid hT2
 have HB2:=Lib.hid (HB.out.trans (hb2.mono HB.out.size))
 have hsz2:w.heap.size<w2.heap.size:=by have:=hb2.size;simp at this;omega
 clear hb2 hT2 hT0
 rcases hout with⟨⟨f,hf⟩,rfl⟩|⟨hno,rfl⟩
 ·by_cases ha1:a<0
  ·have hd:decide (a<0)=true:=by simpa using ha1
   have HF:=Lib.hid hf
   have hx:nxtP f g l a=(0,0,2):=by unfold nxtP;rw[if_pos ha1]
   have HX:=Lib.hid hx
   clear hf hx
   go_wp2
   go_ret3
   exact⟨.inl ⟨f,HF.out,by rw[HX.out];rfl⟩,HB2.out⟩
  ·have hd:decide (a<0)=false:=by simpa using ha1
   obtain⟨at_,rfl⟩:=Int.eq_ofNat_of_zero_le (show 0≤a by omega)
   have hx:nxtP f g l (at_:Int)=readR f 320 g l at_ 17 0:=by unfold nxtP;rw[if_neg ha1,Int.toNat_natCast]
   have HF:=Lib.hid hf;have HX:=Lib.hid hx
   have k1:=HT2.out.syms
   have hnew:Rdg (w2.alloc (.cells (rdgA (fun _=>0) (.slice none 0 0) 0 0) 201)) w2.heap.size (fun _=>0) (.slice none 0 0) 0 0:=heap_alloc_new w2 _
   have HNEW:=Lib.hid hnew
   obtain⟨A,cap,rfl,hra,hna⟩:=HV.out
   have HRA:=Lib.hid hra;have HNA:=Lib.hid hna
   clear hf hx hnew hra hna
   obtain⟨m,hm⟩:∃m,m=s.length:=⟨_,rfl⟩
   rw[←hm]at k1
   have HM:=Lib.hid hm
   clear hm
   clear ha0 HCL HB HT HV ha1
   go_wp2_with (first
    |(refine wpList_load_mid rfl _ _ rfl w.heap.size 0 rfl (cntV c) _ HT2.out.range Tryz.underlying23 rfl (by rw[cntV_length];exact szCnt) ?_)
    |(refine wpList_buildTo rfl 201 #[(0,.tmp 23),(1,.tmp 25)] rfl (some 26) rfl (rdgA c (.slice A m cap) 0 0) ?_ ?_;focus(simpa[Act.eval]using built_rdg c A m cap))
    |(refine wpList_store_rowT rfl _ _ _ rfl w2.heap.size (rdgA c (.slice A m cap) 0 0) rfl rfl _ (rdgA (fun _=>0) (.slice none 0 0) 0 0) HNEW.out (by rw[rdgA_size];exact szRdg) (by rw[rdgA_size,rdgA_size]) (rdgA_one _ _ _ _ rfl) ?_))
   have hB3:Below w.heap.size w ((w2.alloc (.cells (rdgA (fun _=>0) (.slice none 0 0) 0 0) 201)).setRow w2.heap.size (rdgA c (.slice A m cap) 0 0)):=below_setRowT (HB2.out.alloc (by omega) _) (by omega) _
   have hR3:Rdg ((w2.alloc (.cells (rdgA (fun _=>0) (.slice none 0 0) 0 0) 201)).setRow w2.heap.size (rdgA c (.slice A m cap) 0 0)) w2.heap.size c (.slice A m cap) ((0:Nat):Int) ((0:Nat):Int):=setRow_heap _ _ _ _ _ _ HNEW.out
   have HB3:=Lib.hid hB3;have HR3:=Lib.hid hR3
   clear hB3 hR3 HNEW k1
   simp only[Act.put]
   go_loopw [2] (fun av wr=>∃(n ah k cp:Nat) (A2:Option Addr),n≤15∧ah≤1000000∧k≤cp∧cp≤maxLen∧k≤1000000∧av=.int .i64 ((at_+n:Nat):Int)∧Hid (Rdg wr w2.heap.size c (.slice A2 k cp) (n:Int) (ah:Int))∧Hid (k=(s.drop (sumC f 320 n)).length)∧Hid (RdI wr w2.heap.size A2 (s.drop (sumC f 320 n)))∧Hid (A2=none→cp=0)∧Hid (ah*pt n+sumTo f 320 n=bvN g at_ n*pt n)∧Hid (Gone f g l at_ n)∧(n=0∨at_+n≤8*l)∧Hid (Below w.heap.size w wr)) (fun av _=>8*l+1-(intOf av).toNat)
   case atStart=>
    refine⟨0,0,m,cap,A,by omega,by omega,by rw[HM.out];exact HNA.out.2.1,HNA.out.2.2,by rw[HM.out];exact hs,rfl,HR3,Lib.hid (by rw[HM.out];rfl),Lib.hid ?_,Lib.hid HNA.out.1,Lib.hid ?_,Lib.hid (gone_none f g l at_),.inl rfl,HB3⟩
    ·exact((HRA.out.below HB3.out (Nat.le_refl _)).more (by omega))
    ·simp[sumTo,bvN]
   case round=>
    obtain⟨n,ah,k,cp,A2,hn,hah,hkc,hcp,hk6,rfl,HRG,HK,HRI,HNC,HE,HGO,hal,HBW⟩:=hrel
    have hf:=HF.out
    have h15:=isTree_lens hf
    obtain⟨_,_,_,_,hall,hcomp⟩:=check_ok hf.1
    have hsl:=(isTree_length hf).1
    have hv:=bvN_lt g at_ n
    have hmo:=cnt_more (v:=bvN g at_ n) h15 hall hcomp hn hv (by rw[←HE.out];omega)
    have hkk:k=sumC f 320 15-sumC f 320 n:=by rw[HK.out,List.length_drop,hsl]
    by_cases hk0:k=0
    ·have hmf:morN f 320 (bvN g at_ n) n 320=false:=by rw[hmo];exact decide_eq_false (by omega)
     have hres:=Lib.hid (gone_code HGO.out hn hmf)
     subst hk0
     have hop:=open_any wr w2.heap.size c A2 0 cp (n:Int) (ah:Int) HRG.out
     rw[show decide (0<0)=false from rfl]at hop
     have HOP:=Lib.hid hop
     clear hf h15 hall hcomp hsl hv hmo hkk hmf hop
     go_wp2_with (go_at_call 144;refine HOP.out.mono ?_;rintro e w' ⟨rfl,rfl⟩)
     go_ret3
     exact⟨.inl ⟨f,HF.out,by rw[HX.out,hres.out];rfl⟩,HBW.out⟩
    ·have hlt:sumC f 320 n<sumC f 320 15:=by omega
     have hmt:morN f 320 (bvN g at_ n) n 320=true:=by rw[hmo];exact decide_eq_true hlt
     have hn15:n<15:=by
      rcases Nat.lt_or_ge n 15 with h|h
      ·exact h
      ·obtain rfl:n=15:=by omega
       omega
     have hop:=open_any wr w2.heap.size c A2 k cp (n:Int) (ah:Int) HRG.out
     rw[decide_eq_true (show 0<k by omega)]at hop
     have HOP:=Lib.hid hop
     have hgb:=(HG.out.below HBW.out (Nat.le_refl _)).more HBW.out.size
     by_cases hend:8*l<at_+n+1
     ·have hres:=Lib.hid (gone_end HGO.out hn hmt (by omega))
      have htk:=take_end wr Ab l cb (at_+n) 1 (by omega) (by omega) (by omega) hend
      have HTK:=Lib.hid htk
      clear hf h15 hall hcomp hsl hv hmo hkk hmt hop htk hgb hlt
      go_wp2_with (first
       |(go_at_call 144;refine HOP.out.mono ?_;rintro e w' ⟨rfl,rfl⟩)
       |(go_at_call 124;refine HTK.out.mono ?_;rintro e w' ⟨rfl,rfl⟩))
      go_ret3
      exact⟨.inl ⟨f,HF.out,by rw[HX.out,hres.out];rfl⟩,HBW.out⟩
     ·have htk:=take_ok wr w.heap.size Ab l cb g (at_+n) 1 (HG.out.below HBW.out (Nat.le_refl _)) (by omega) (by omega) (by omega)
      rw[numN_one]at htk
      have hb2:=bitAt_lt g (at_+n)
      have hbv:bvN g at_ (n+1)=2*bvN g at_ n+bitAt g (at_+n):=rfl
      obtain⟨bit,hbit⟩:∃bit,bit=bitAt g (at_+n):=⟨_,rfl⟩
      rw[←hbit]at htk hb2 hbv
      have hx:=cnt_bit (b:=bit) (show n+1≤15 by omega) HE.out
      rw[←hbv]at hx
      have hcq:=hf.2.2.1 (n+1) (by omega)
      have hs1:sumC f 320 (n+1)=sumC f 320 n+tcN f (n+1) 320:=rfl
      have hs2:=sumC_mono f 320 (show n+1≤15 by omega)
      have hfnd:=cnt_found (f:=f) (N:=320) (v:=bvN g at_ (n+1)) (show n+1≤15 by omega) hx
      have hnon:=cnt_noneT (f:=f) (N:=320) (v:=bvN g at_ (n+1)) (show n+1≤15 by omega) hx
      have hpst:=cnt_past (f:=f) (N:=320) (v:=bvN g at_ (n+1)) hx
      have hsym:=fun(x:Nat) (h:x<tcN f (n+1) 320)=>(sym_at hf (show 0<n+1 by omega) (by omega) h).1
      have hon:=gone_on HGO.out hn hmt (by omega)
      have hgf:=fun(i:Nat)=>gone_found (i:=i) HGO.out hn15 hmt (by omega)
      obtain⟨q,hq⟩:∃q,q=tcN f (n+1) 320:=⟨_,rfl⟩
      rw[←hq]at hcq hs1 hfnd hnon hpst hsym
      have htak:=take1_any wr w2.heap.size c A2 k cp n ah bit q (s.drop (sumC f 320 n)) HRG.out HK.out HRI.out hkc hcp hn15 hah hb2 hcq (by omega)
      have hat1:at_+n+1≤8*l:=by omega
      have hdrop:(s.drop (sumC f 320 n)).drop q=s.drop (sumC f 320 (n+1)):=by rw[List.drop_drop,hs1]
      have hgetd:=fun(x:Nat)=>(show(s.drop (sumC f 320 n)).getD x 0=s.getD (sumC f 320 (n+1-1)+x) 0 from by rw[List.getD_eq_getElem?_getD,List.getElem?_drop,←List.getD_eq_getElem?_getD];rfl)
      have HTK:=Lib.hid htk;have HTAK:=Lib.hid htak;have HCQ:=Lib.hid hcq;have HDROP:=Lib.hid hdrop;have HGETD:=Lib.hid hgetd
      have HFND:=Lib.hid hfnd;have HNON:=Lib.hid hnon;have HPST:=Lib.hid hpst;have HSYM:=Lib.hid hsym;have HON:=Lib.hid hon;have HGF:=Lib.hid hgf
      have hqk:q≤k:=by omega
      have hav:ah≤32767:=by
       have h1:ah*pt n≤bvN g at_ n*pt n:=by rw[←HE.out];omega
       have h2:=Nat.le_of_mul_le_mul_right h1 (pt_pos hn)
       have h3:=Nat.pow_le_pow_right (n:=2) (by omega) hn
       have h4:(2:Nat)^15=32768:=rfl
       omega
      clear hf h15 hall hcomp hsl hv hmo hkk hmt hop htk hgb hlt htak hcq hs1 hs2 hfnd hnon hpst hsym hon hgf hbit hbv hx hq hdrop hgetd
      go_wp2_with (first
       |(go_at_call 144;refine HOP.out.mono ?_;rintro e w' ⟨rfl,rfl⟩)
       |(go_at_call 124;refine HTK.out.mono ?_;rintro e w' ⟨rfl,rfl⟩))
      refine HTAK.out.mono ?_
      rintro e w4 ⟨hb4,q',hq',hcase⟩
      obtain rfl:q'=q:=by have:=hq'.symm.trans HCQ.out;omega
      clear hq'
      have HB4:=Lib.hid (HBW.out.trans (hb4.mono (by omega)))
      have HRI4:=Lib.hid (HRI.out.below hb4 (Nat.le_refl _))
      clear hb4
      rcases hcase with⟨hxq,rfl⟩|⟨hxq,rfl,A3,ha3,ha4,hrg⟩
      ·have hff:=HFND.out hxq
       have hres:=Lib.hid (HGF.out _ hff)
       have hsy:=HSYM.out _ hxq
       rw[←HGETD.out]at hsy
       rw[hsy]
       obtain⟨S,hS⟩:∃S,S=(rowM f (n+1) 320).getD (2*ah+bit) 0:=⟨_,rfl⟩
       rw[←hS]at hres⊢
       clear hff hsy hS
       go_wp2
       go_ret3
       exact⟨.inl ⟨f,HF.out,by rw[HX.out,hres.out];simp[RdOut];omega⟩,HB4.out⟩
      ·have hgn:=Lib.hid (show Gone f g l at_ (n+1)from⟨HON.out,HNON.out hxq⟩)
       have hps:=Lib.hid (HPST.out hxq)
       have hrd3:=Lib.hid (show RdI w4 w2.heap.size A3 (s.drop (sumC f 320 (n+1)))from by
        rw[←HDROP.out]
        rcases A2 with _|x
        ·have:=HNC.out rfl
         exact absurd hkc (by omega)
        ·exact rdI_drop HRI4.out q' cp (by rw[←HK.out];exact hkc) (ha4 x rfl).symm)
       have hnc3:=Lib.hid (show A3=none→cp-q'=0 from fun h=>by
        rcases A2 with _|x
        ·rw[HNC.out rfl];omega
        ·have:=ha4 x rfl
         rw[h]at this
         split at this
         ·exact absurd this (by simp)
         ·exact absurd this (by simp))
       have HRG4:=Lib.hid hrg
       have hlen:=Lib.hid (show k-q'=(s.drop (sumC f 320 (n+1))).length from by rw[←HDROP.out,List.length_drop,←HK.out])
       clear ha3 ha4 hrg
       go_wp2
       go_roundw
       case rel=>exact⟨n+1,2*ah+bit-q',k-q',cp-q',A3,by omega,by omega,by omega,by unfold maxLen at hcp⊢;omega,by omega,by go_num,HRG4,hlen,hrd3,hnc3,hps,hgn,.inr (by omega),HB4⟩
       case measure=>simp[intOf];omega
 ·have HF:=Lib.hid hno
  clear hno
  go_wp2
  go_ret3
  exact⟨.inr ⟨HF.out,rfl⟩,HB2.out⟩
end Go.Proofs.YtcmpmighjglnpaaGreat
namespace Go.Proofs.YtcmpmighjglnpaaGreat
open Go.RowKit Go.Shelf
attribute [local go_sem] Oper.semAt_some
def symN(f:Nat→Nat)(n j:Nat):Nat:=(symL f n 15).getD j 0
theorem symL_at{f:Nat→Nat}{n k x:Nat}(h0:0<k)(hx:x<tcN f k n):∀M,k≤M→(symL f n M).getD (sumC f n (k-1)+x) 0=(rowM f k n).getD x 0∧sumC f n (k-1)+x<(symL f n M).length:=by
 have hlen:(rowM f k n).length=tcN f k n:=rowM_length f h0 n
 intro M
 induction M with
 |zero=>intro h;omega
 |succ M ih=>
  intro h
  simp only[symL]
  rcases Nat.eq_or_lt_of_le h with e|e
  ·have e2:k-1=M:=by omega
   rw[e2,←e,List.length_append,symL_length,hlen]
   refine⟨?_,by omega⟩
   rw[List.getD_eq_getElem?_getD,List.getElem?_append_right (by rw[symL_length];omega),symL_length,Nat.add_sub_cancel_left,List.getD_eq_getElem?_getD]
  ·obtain⟨i1,i2⟩:=ih (by omega)
   refine⟨?_,by rw[List.length_append];omega⟩
   rw[List.getD_eq_getElem?_getD,List.getElem?_append_left i2,←List.getD_eq_getElem?_getD]
   exact i1
theorem symN_at{f:Nat→Nat}{n k i:Nat}(h0:0<k)(hk:k≤15)(hi:i<n)(hf:f i=k):symN f n (sumC f n (k-1)+tcN f k i)=i∧sumC f n (k-1)+tcN f k i<sumC f n 15:=by
 have h:=symL_at (x:=tcN f k i) h0 (tc_lt f h0 hf hi) 15 hk
 rw[row_at f h0 hf n hi,symL_length]at h
 exact h
def symEnc(f:Nat→Nat)(n j:Nat):Array Value:=#[.int .i64 (symN f n j:Nat),.int .u8 (f (symN f n j):Nat)]
theorem byl1_in(F:Fence)(fu:Nat)(h1f:F.fn 156)(hro:F.round=none)(hn:1≤fu)(l Bs B:Nat)(A:Option Addr)(n cap:Nat)(f:Nat→Nat)(S:Nat→Prop)(hS1:S Bs)(hS2:∀k,k<B→S k)(hlen:n≤1000)(J:Nat→World→Prop)
  (hY:∀j W1,J j W1→j<sumC f n 15→YieldAt F (fu-1) Tryz.prog l (symEnc f n j) W1 fun e W'=>e=.returned (.bool true)∧J (j+1) W'∧KpB S W1 W')
  (W:World) (hBs:W.cell? ⟨Bs,0,none⟩=some (.slice A n cap)) (hr:RdB W B A n f) (h0:J 0 W):
  CallsIn F fu Tryz.prog 156 #[.func (.yield l) #[] #[],.pointer (some ⟨Bs,0,none⟩)] W fun e W'=>(∃v,e=.returned v)∧J (sumC f n 15) W':=by
 refine callsIn_of_wp Tryz.func156 rfl h1f ?_ hro
 simp only[Tryz.ntmps156,List.size_toArray,List.length_cons,List.length_nil,Nat.reduceAdd,Nat.reduceSub,Array.replicate_succ,Array.replicate_zero,List.push_toArray,List.append_toArray,List.nil_append,List.cons_append]
 have HR:=Lib.hid hr;have HS:=Lib.hid hS2
 clear hr hS2
 gi_wp2
 gi_loopw [3] (fun kv wr=>∃k:Nat,1≤k∧k≤16∧kv=.int .u8 k∧J (sumC f n (k-1)) wr∧KpB S W wr) (fun kv _=>16-(intOf kv).toNat)
 case atStart=>exact⟨1,Nat.le_refl _,by omega,rfl,h0,KpB.refl _ _⟩
 case round=>
  obtain⟨k,hk1,hk,rfl,hJs,hkp⟩:=hrel
  obtain⟨wo,rfl⟩:∃wo:World,wo=wr:=⟨_,rfl⟩
  by_cases hlt:k<16
  ·have hbx:=(hkp.cell (p:=⟨Bs,0,none⟩) hS1).trans hBs
   have HJS:=Lib.hid hJs;have HKP:=Lib.hid hkp;have HY:=Lib.hid hY;have HBS:=Lib.hid hBs
   clear hJs hkp hY hBs
   have hd15:decide ((k:Int)≤15)=true:=by simp;omega
   gi_wp2
   gi_loopw [12] (fun iv wi=>∃i:Nat,i≤n∧iv=.int .i64 i∧J (sumC f n (k-1)+tcN f k i) wi∧KpB S W wi) (fun iv _=>n-(intOf iv).toNat)
   case atStart=>exact⟨0,Nat.zero_le _,rfl,by show J (_+0) _;rw[Nat.add_zero];exact HJS.out,HKP.out⟩
   case round=>
    obtain⟨i,hi,rfl,hJ,hkp⟩:=hrel
    by_cases hlt2:i<n
    ·obtain⟨b,o,rfl,_,hc⟩:=(HR.out.kept hkp HS.out).2 (by omega)
     have hcell:=hc i hlt2
     have hf8:=HR.out.1 i
     clear hc
     by_cases he:f i=k
     ·have hat:=symN_at (f:=f) (n:=n) (k:=k) (i:=i) (by omega) (by omega) hlt2 he
      obtain⟨fn,tmps,assign,body,hy,hR⟩:=HY.out _ _ hJ hat.2
      have hen:symEnc f n (sumC f n (k-1)+tcN f k i)=#[.int .i64 (i:Int),.int .u8 (k:Int)]:=by unfold symEnc;rw[hat.1,he]
      rw[hen]at hy
      have hst:=tc_succ f (show 0<k by omega) he
      have HST:=Lib.hid hst;have HK:=Lib.hid hkp
      rw[he]at hcell
      clear hat hen hst hkp hJ
      have hkk:((k:Int)==(k:Int))=true:=by simp
      gi_wp2
      refine hR.mono ?_
      rintro e W3 ⟨rfl,hJ3,hk3⟩
      have HK3:=Lib.hid hk3
      clear hk3
      gi_wp2
      go_roundw
      case rel=>exact⟨i+1,by omega,by go_num,by rw[HST.out];exact hJ3,HK.out.tr HK3.out⟩
      case measure=>simp[intOf];omega
     ·have hno:((f i:Int)==(k:Int))=false:=by simp;omega
      have hst:tcN f k (i+1)=tcN f k i:=by simp only[tcN];rw[if_neg (fun g=>he g.2)];rfl
      have HST:=Lib.hid hst;have HK:=Lib.hid hkp
      clear hst hkp
      gi_wp2
      refine⟨(fun f h=>by cases h),?_⟩
      gi_wp2
      go_roundw
      case rel=>exact⟨i+1,by omega,by go_num,by rw[HST.out];exact hJ,HK.out⟩
      case measure=>simp[intOf];omega
    ·obtain rfl:i=n:=by omega
     have hst:sumC f i (k-1)+tcN f k i=sumC f i (k+1-1):=by
      obtain⟨K,rfl⟩:∃K,k=K+1:=⟨k-1,by omega⟩
      rfl
     have HST:=Lib.hid hst;have HK:=Lib.hid hkp
     clear hst hkp
     gi_wp2
     go_roundw
     case rel=>exact⟨k+1,by omega,by omega,by go_num,by rw[←HST.out];exact hJ,HK.out⟩
     case measure=>simp[intOf];omega
  ·obtain rfl:k=16:=by omega
   clear hY hBs
   gi_wp2
   go_end0
   exact⟨⟨_,rfl⟩,hJs⟩
theorem byl_in(F:Fence)(n:Nat)(h27:F.fn 151)(hro:F.round=none)(a:Option Addr)(len cap:Nat)(w:World):
  CallsIn F n Tryz.prog 151 #[.slice a len cap] w fun e w'=>e=.returned (.func (.func 156) #[] #[.pointer (some ⟨w.heap.size,0,none⟩)])∧w'=w.alloc (.cells #[.slice a len cap] 22):=by
 refine callsIn_of_wp Tryz.func151 rfl h27 ?_ hro
 simp only[Tryz.ntmps151,List.size_toArray,List.length_cons,List.length_nil,Nat.reduceAdd,Nat.reduceSub,Array.replicate_succ,Array.replicate_zero,List.push_toArray,List.append_toArray,List.nil_append,List.cons_append]
 gi_wp2
 go_ret
 exact⟨rfl,rfl⟩
theorem byl_tied(F:Fence)(fu:Nat)(h1f:F.fn 156)(hro:F.round=none)(hn:1≤fu)(Bs B:Nat)(A:Option Addr)(n cap:Nat)(f:Nat→Nat)(S:Nat→Prop)(hS1:S Bs)(hS2:∀k,k<B→S k)(hlen:n≤1000)(w:World)(hBs:w.cell? ⟨Bs,0,none⟩=some (.slice A n cap))(hBw:Bs<w.heap.size)(hB:B≤w.heap.size)(hr:RdB w B A n f):
  SeqTied F fu Tryz.prog 156 #[.pointer (some ⟨Bs,0,none⟩)] (symEnc f n) (KpB S) (sumC f n 15) w:=fun l J W hW hY h0=>
 byl1_in F fu h1f hro hn l Bs B A n cap f S hS1 hS2 hlen J hY W ((hW.cell hBw).trans hBs) ((hr.below hW hB)) h0
end Go.Proofs.YtcmpmighjglnpaaGreat
namespace Go.Proofs.YtcmpmighjglnpaaGreat
open Go.RowKit Go.Shelf
attribute [local go_sem] Oper.semAt_some
def cntT(f:Nat→Nat)(L:List Nat)(m:Nat):Int:=((L.countP fun x=>f x==m:Nat):Int)
theorem countP_row(f:Nat→Nat)(k m:Nat):∀n,(rowM f k n).countP (fun x=>f x==m)=if k=m then(rowM f k n).length else 0
 |0=>by simp[rowM]
 |n+1=>by
  simp only[rowM,List.countP_append,List.length_append]
  rw[countP_row f k m n]
  by_cases h:f n=k
  ·rw[if_pos h]
   by_cases e:k=m
   ·simp[e,h]
   ·simp[e,h]
  ·rw[if_neg h];simp
theorem countP_sym(f:Nat→Nat)(m n:Nat):∀M,(symL f n M).countP (fun x=>f x==m)=if 0<m∧m≤M then tcN f m n else 0
 |0=>by simp[symL];omega
 |M+1=>by
  simp only[symL,List.countP_append]
  rw[countP_sym f m n M,countP_row]
  by_cases e:M+1=m
  ·subst e
   rw[if_neg (by omega),if_pos rfl,if_pos ⟨by omega,Nat.le_refl _⟩,rowM_length f (by omega),Nat.zero_add]
  ·rw[if_neg e]
   by_cases h:0<m∧m≤M
   ·rw[if_pos h,if_pos ⟨h.1,by omega⟩,Nat.add_zero]
   ·rw[if_neg h,if_neg (by omega)]
theorem cntT_all(f:Nat→Nat)(n:Nat){m:Nat}(hm:m<16):cntT f (symL f n 15) m=(tcN f m n:Int):=by
 unfold cntT
 rw[countP_sym]
 by_cases h:0<m
 ·rw[if_pos ⟨h,by omega⟩]
 ·obtain rfl:m=0:=by omega
  rw[if_neg (by omega),cntN_zero]
theorem sym_take{f:Nat→Nat}{n j:Nat}(h:j<sumC f n 15):(symL f n 15).take (j+1)=(symL f n 15).take j++[symN f n j]:=by
 rw[←symL_length]at h
 rw[List.take_succ_eq_append_getElem h]
 unfold symN
 rw[List.getD_eq_getElem?_getD,List.getElem?_eq_getElem h];rfl
theorem sym_mem{f:Nat→Nat}{n j:Nat}(h:j<sumC f n 15):symN f n j<n∧0<f (symN f n j)∧f (symN f n j)≤15:=by
 rw[←symL_length]at h
 have hm:symN f n j∈symL f n 15:=by
  unfold symN
  rw[List.getD_eq_getElem?_getD,List.getElem?_eq_getElem h];exact List.getElem_mem _
 have key:∀M x,x∈symL f n M→x<n∧0<f x∧f x≤M:=by
  intro M
  induction M with
  |zero=>intro x hx;simp[symL]at hx
  |succ M ih=>
   intro x hx
   simp only[symL,List.mem_append]at hx
   rcases hx with hx|hx
   ·have:=ih x hx;omega
   ·have:=(rowM_mem f (M+1) x n).1 hx;omega
 exact key 15 _ hm
theorem cntT_step{f:Nat→Nat}{n j:Nat}(h:j<sumC f n 15):(fun m=>if m=f (symN f n j)then cntT f ((symL f n 15).take j) (f (symN f n j))+1 else cntT f ((symL f n 15).take j) m)=cntT f ((symL f n 15).take (j+1)):=by
 funext m
 rw[sym_take h]
 unfold cntT
 rw[List.countP_append]
 by_cases e:m=f (symN f n j)
 ·subst e;simp
 ·rw[if_neg e]
  have:(f (symN f n j)==m)=false:=by simp;omega
  simp[this]
def SGr(B b k:Nat):Prop:=k<B∨k=b+1
def GrI(w u:World)(b:Nat)(f:Nat→Nat)(n j:Nat)(W:World):Prop:=
 Below w.heap.size w W∧KpB (SGr w.heap.size b) u W∧u.heap.size≤W.heap.size∧TreA W w.heap.size (fun _=>0) (.slice none 0 0)∧
 ∃(A:Option Addr) (c:Nat),TreA W b (cntT f ((symL f n 15).take j)) (.slice A j c)∧W.ownsRow (b+2) 3 1 (.slice A j c) j (intsL (natsI ((symL f n 15).take j)))
theorem GrI.own(w u:World)(b:Nat)(f:Nat→Nat)(n:Nat)(hb:w.heap.size<b)(hu:u.heap.size=b+2):OwnFrom u.heap.size (GrI w u b f n):=by
 rintro j W W' row ⟨h1,h2,h3,h4,A,c,h5,h6⟩ hgr hr
 have hk:∀k,k<u.heap.size→W'.heap[k]?=W.heap[k]?:=fun k hk=>hgr.block k (by omega) (fun e=>by have:=(hr k e.symm).1;omega)
 refine⟨h1.grown hgr ?_ (fun r e=>?_),fun k hS=>(hk k ?_).trans (h2 k hS),Nat.le_trans h3 hgr.size,(hk _ (by omega)).trans h4,A,c,(hk _ (by omega)).trans h5,own_grown h6 hgr (fun r e=>(hr r e).2)⟩
 ·omega
 ·have:=(hr r e).1;omega
 ·rcases hS with hS|hS<;>omega
end Go.Proofs.YtcmpmighjglnpaaGreat
namespace Go.Proofs.YtcmpmighjglnpaaGreat
open Go.RowKit Go.Shelf
attribute [local go_sem] Oper.semAt_some
theorem tgrow_own(w:World)(A:Option Addr)(n c:Nat)(f:Nat→Nat)(most:Int)(hr:RdB w w.heap.size A n f)(hn:n≤1000000):
  Calls Tryz.prog 139 #[.slice A n c,.int .i64 most] w fun e w'=>∃v,e=.returned (.tuple #[.agg (trA (grC f n most) v),.int .i64 (checkE f n most)])∧OwnS w' w.heap.size v (grS f n most)∧Below w.heap.size w w':=by
 have hz:=(zero_of_info infoTree).1
 obtain⟨E,hE⟩:∃E,E=checkE f n most:=⟨_,rfl⟩
 have hb1:=(Below.refl w.heap.size w).alloc (Nat.le_refl _) (.cells (trA (fun _=>0) (.slice none 0 0)) 26)
 have ht1:TreA (w.alloc (.cells (trA (fun _=>0) (.slice none 0 0)) 26)) w.heap.size (fun _=>0) (.slice none 0 0):=heap_alloc_new w _
 have hck:=check_any (w.alloc (.cells (trA (fun _=>0) (.slice none 0 0)) 26)) A n c f most ((hr.below hb1 (Nat.le_refl _)).more hb1.size) hn
 rw[←hE]at hck⊢
 have HR:=Lib.hid hr;have HCK:=Lib.hid hck;have HB1:=Lib.hid hb1;have HT1:=Lib.hid ht1
 clear hr hck hb1 ht1
 by_cases h0:E=0
 ·have hn320:n≤320:=(check_ok (hE.symm.trans h0)).2.2.1
  have e1:(fun m=>(tcN f m n:Int))=grC f n most:=by funext m;unfold grC;rw[if_pos (by rw[←hE];exact h0)]
  have e2:natsI (symL f n 15)=grS f n most:=by unfold grS;rw[if_pos (by rw[←hE];exact h0)]
  rw[←e1,←e2]
  clear hE e1 e2
  subst h0
  refine(callsIn_wide (n:=5)).1 ?_
  refine callsIn_of_wp_marks Tryz.func139 rfl trivial ?_ rfl
  simp only[Tryz.ntmps139,List.size_toArray,List.length_cons,List.length_nil,Nat.reduceAdd,Nat.reduceSub,Array.replicate_succ,Array.replicate_zero,List.push_toArray,List.append_toArray,List.nil_append,List.cons_append]
  gi_wp2_with fail
  refine⟨trivial,(callsIn_wide.2 HCK.out).mono ?_⟩
  rintro e w2 ⟨rfl,hb2⟩
  have HT2:=Lib.hid (HT1.out.below hb2 HT1.out.lt)
  have HB2:=Lib.hid (HB1.out.trans (hb2.mono HB1.out.size))
  have hsz2:w.heap.size<w2.heap.size:=by have:=hb2.size;simp at this;omega
  clear hb2 HCK HB1 HT1
  gi_wp2_with (refine⟨trivial,?_⟩;gi_at_call 151;refine(byl_in _ _ trivial rfl _ _ _ _).mono ?_;rintro e w' ⟨rfl,rfl⟩)
  obtain⟨u,hu⟩:∃u,u=(w2.alloc (.cells (trA (fun _=>0) (.slice none 0 0)) 26)).alloc (.cells #[.slice A n c] 22):=⟨_,rfl⟩
  have husz:u.heap.size=w2.heap.size+2:=by rw[hu];simp
  have hbu:Below w.heap.size w u:=by rw[hu];exact(HB2.out.alloc (by omega) _).alloc (by simp;omega) _
  have htu:TreA u w2.heap.size (fun _=>0) (.slice none 0 0):=by rw[hu];exact heap_alloc2_old w2 _ _
  have hru:TreA u w.heap.size (fun _=>0) (.slice none 0 0):=by rw[hu];exact TreA.alloc (HT2.out.alloc _) _
  have hx3:u.cell? ⟨w2.heap.size+1,0,none⟩=some (.slice A n c):=by
   rw[hu]
   have h:=(Boxed.new (w2.alloc (.cells (trA (fun _=>0) (.slice none 0 0)) 26)) 22 (.slice A n c)).cell
   rwa[World.size_alloc]at h
  have hrb:RdB u w.heap.size A n f:=HR.out.below hbu (Nat.le_refl _)
  rw[←hu]
  have HBU:=Lib.hid hbu;have HTU:=Lib.hid htu;have HRU:=Lib.hid hru;have HRBU:=Lib.hid hrb
  clear hu hbu htu hru hrb HT2 HB2
  refine wpIn_range_tied (L:=sumC f n 15) rfl (by omega) (gf:=156) (lb:=#[.pointer (some ⟨w2.heap.size+1,0,none⟩)]) rfl trivial (enters_of Tryz.func156 (by kernel_rfl) rfl)
   (byl_tied _ _ trivial rfl (by omega) (w2.heap.size+1) w.heap.size A n c f (SGr w.heap.size w2.heap.size) (.inr rfl) (fun k hk=>.inl hk) (by omega) u hx3 (by omega) (by omega) HRBU.out)
   (fun h k=>h.tr k) (fun W l ob ob' hl _ _ _ k hS=>World.putObj_heap_other (by rcases hS with hS|hS<;>omega)) (fun _=>rfl)
   (GrI w u w2.heap.size f n) (GrI.own w u w2.heap.size f n hsz2 husz) ?start
   (fun j=>{tmps:=#[.slice A n c,.int .i64 most,undef,undef,.pointer (some ⟨w.heap.size,0,none⟩),.int .i64 0,.int .i64 0,.pointer (some ⟨w2.heap.size,0,none⟩),.int .i64 ((symN f n j:Nat):Int),.int .u8 ((f (symN f n j):Nat):Int),.slice A n c,.int .i64 most,.int .i64 0,.int .i64 0,.bool false,undef,undef,.slice A n c,.func (.func 156) #[] #[.pointer (some ⟨w2.heap.size+1,0,none⟩)],.int .i64 ((symN f n j:Nat):Int),.int .u8 ((f (symN f n j):Nat):Int),undef,undef,undef,undef,undef,undef,undef,undef,undef,undef,undef,undef,undef,undef],defers:=[]}) ?assign ?body ?done
  case start=>
   exact⟨HBU.out,KpB.refl _ _,Nat.le_refl _,HRU.out,none,0,by rw[List.take_zero];exact HTU.out,World.ownsRow_nil _ _ _ 1⟩
  case assign=>
   intro l j W K hK
   simp only[symEnc]
   gi_wp2
   exact hK
  case body=>
   rintro l j W ⟨h1,h2,h3,h4,Ao,co,h5,h6⟩ hj
   obtain⟨hsn,hk0,hk15⟩:=sym_mem hj
   have hct:=cntT_step hj
   have htk:=sym_take hj
   have hjn:j≤1000000:=by
    have:=sumC_le f n 15;omega
   obtain⟨y,hy⟩:∃y,y=symN f n j:=⟨_,rfl⟩
   rw[←hy]at hk0 hk15 hct htk hsn⊢
   obtain⟨k,hk⟩:∃k,k=f y:=⟨_,rfl⟩
   rw[←hk]at hk0 hk15 hct⊢
   have c1:=h5.cnt (show k<16 by omega)
   have f1:=h5.frozen k
   have hcb:0≤cntT f ((symL f n 15).take j) k∧cntT f ((symL f n 15).take j) k≤1000000:=by
    unfold cntT
    have h1:=List.countP_le_length (p:=fun x=>f x==k) (l:=(symL f n 15).take j)
    have h2:=List.length_take_le j (symL f n 15)
    omega
   have hset:=h5.setCnt (show k<16 by omega) (cntT f ((symL f n 15).take j) k+1)
   rw[hct]at hset
   obtain⟨x,hx⟩:∃x,x=cntT f ((symL f n 15).take j) k:=⟨_,rfl⟩
   rw[←hx]at c1 hset hcb
   have hown2:=ownsRow_setCell_below h6 (a:=⟨w2.heap.size,k,none⟩) (by show w2.heap.size<_;omega) (.int .i64 (x+1))
   have hsz:(W.setCell ⟨w2.heap.size,k,none⟩ (.int .i64 (x+1))).heap.size=W.heap.size:=by simp[World.setCell]
   obtain⟨A',c',w3,hrun,hown3,hb3,hko3⟩:=run_one_g (W.setCell ⟨w2.heap.size,k,none⟩ (.int .i64 (x+1))) (w2.heap.size+2) Ao j co _ hown2 (y:Int) hjn (by rw[hsz];omega)
   rw[hsz]at hrun
   have hs1:=hset.syms
   have ht3:=hset.below hb3 (by omega)
   have hr3:=(h4.other (p:=⟨w2.heap.size,k,none⟩) (by show w.heap.size≠w2.heap.size;omega) (.int .i64 (x+1))).below hb3 (by omega)
   have hbb:=(h1.setCell (p:=⟨w2.heap.size,k,none⟩) (by show w.heap.size≤w2.heap.size;omega) (.int .i64 (x+1))).trans (hb3.mono (by omega))
   have hkp:KpB (SGr w.heap.size w2.heap.size) W w3:=fun b hS=>by
    have hne:b≠w2.heap.size:=by rcases hS with hS|hS<;>omega
    have hlt:b<w2.heap.size+2:=by rcases hS with hS|hS<;>omega
    exact(hb3.block b hlt).trans (Below.heap_setCell W _ _ b hne)
   have hko:KeepsOthers W w3:=(KeepsOthers.setCell W _ _).trans hko3
   have hf3:=ht3.frozen 16
   have hs3:=ht3.syms
   have hsz3:u.heap.size≤w3.heap.size:=by have:=hb3.size;rw[hsz]at this;omega
   have HSET:=Lib.hid ht3;have HR3:=Lib.hid hr3;have HBB:=Lib.hid hbb;have HRUN:=Lib.hid hrun;have HOWN:=Lib.hid hown3;have HKP:=Lib.hid hkp;have HKO:=Lib.hid hko;have H2:=Lib.hid h2;have HTK:=Lib.hid htk
   clear h1 h2 h4 h5 h6 hset hown2 hrun hown3 hb3 hko3 ht3 hr3 hbb hkp hko htk hct hx hy hk hsz hsn
   gi_wp2_with (gi_at_builtin;refine wpListIn_append_run rfl (.tmp 29) (.tmp 31) 24 rfl (.slice Ao j co) (.slice (some ⟨W.heap.size,0,none⟩) 1 1) (.slice A' (j+1) c') w3 rfl rfl HRUN.out ?_)
   refine⟨HKO.out.trans (KeepsOthers.setCell _ _ _),?_,?_⟩
   ·exact fun b hS=>(Below.heap_setCell w3 _ _ b (by show b≠w2.heap.size;rcases hS with hS|hS<;>omega)).trans (HKP.out b hS)
   ·refine⟨HBB.out.setCell (p:=⟨w2.heap.size,16,none⟩) (by show w.heap.size≤w2.heap.size;omega) _,fun b hS=>((Below.heap_setCell w3 _ _ b (by show b≠w2.heap.size;rcases hS with hS|hS<;>omega)).trans (HKP.out b hS)).trans (H2.out b hS),by rw[show(w3.setCell ⟨w2.heap.size,16,none⟩ (.slice A' (j+1) c')).heap.size=w3.heap.size by simp[World.setCell]];exact hsz3,HR3.out.other (by show w.heap.size≠w2.heap.size;omega) _,A',c',HSET.out.setSyms _,?_⟩
    have e2:natsI ((symL f n 15).take j)++[(y:Int)]=natsI ((symL f n 15).take (j+1)):=by rw[HTK.out,←natsI_app];rfl
    rw[←e2]
    exact ownsRow_setCell_below HOWN.out (by show w2.heap.size<_;omega) _
  case done=>
   rintro D W hD ⟨h1,h2,h3,h4,Ao,co,h5,h6⟩ hK
   rw[List.take_of_length_le (by rw[symL_length];omega)]at h5 h6
   have h5':TreA W w2.heap.size (fun m=>(tcN f m n:Int)) (.slice Ao (sumC f n 15) co):=by
    have e:=trA_ext (.slice Ao (sumC f n 15) co) (fun m hm=>cntT_all f n (m:=m) hm)
    unfold TreA at h5⊢
    rw[e]at h5;exact h5
   have H1:=Lib.hid h1;have H2:=Lib.hid h2;have H4:=Lib.hid h4;have H5:=Lib.hid h5';have H6:=Lib.hid h6;have HK:=Lib.hid hK
   clear h1 h2 h4 h5 h5' h6 hK
   gi_wp2_with (first
    |(refine wpListIn_load_row rfl _ _ rfl w2.heap.size rfl _ (trA (fun m=>(tcN f m n:Int)) (.slice Ao (sumC f n 15) co)) (0,0) _ H5.out Tryz.underlying26 rfl (by rw[trA_size];exact szTree) ?_)
    |(refine wpListIn_store_row rfl _ _ _ rfl rfl w.heap.size (trA (fun m=>(tcN f m n:Int)) (.slice Ao (sumC f n 15) co)) rfl rfl _ (trA (fun _=>0) (.slice none 0 0)) H4.out (by rw[trA_size];exact szTree) (by rw[trA_size,trA_size]) (trA_one _ _ rfl) ?_))
   have hD2:D≠w.heap.size:=by omega
   have hT:=setRow_tre (d:=fun m=>(tcN f m n:Int)) (v:=.slice Ao (sumC f n 15) co) H4.out
   obtain⟨Y,hY⟩:∃Y,Y=W.setRow w.heap.size (trA (fun m=>(tcN f m n:Int)) (.slice Ao (sumC f n 15) co)):=⟨_,rfl⟩
   have hYo:∀k,k≠w.heap.size→Y.heap[k]?=W.heap[k]?:=fun k hk=>by rw[hY];exact setRow_other _ _ _ _ hk
   have hYB:Below w.heap.size w Y:=by rw[hY];exact below_setRowT H1.out (Nat.le_refl _) _
   rw[←hY]at hT⊢
   have hKY:Y.heap[D]?=some (.deferred (some [])):=(hYo D hD2).trans HK.out
   refine⟨by simp,.inl ⟨_,_,rfl,run_takeDeferred hKY,?_⟩⟩
   refine⟨_,(cell_tree rfl _ _ w.heap.size _ _ rfl ?_).trans rfl,.slice Ao (sumC f n 15) co,rfl,?_,?_⟩
   ·exact(World.putObj_heap_other (by omega)).trans hT
   ·have ho:OwnS (Y.putObj D (.deferred none)) (w2.heap.size+2) (.slice Ao (sumC f n 15) co) (natsI (symL f n 15)):=by
     unfold OwnS
     rw[natsI_length,symL_length]
     have h0:Y.ownsRow (w2.heap.size+2) 3 1 (.slice Ao (sumC f n 15) co) (sumC f n 15) (intsL (natsI (symL f n 15))):=ownsRow_same H6.out (fun g hg=>hYo g (by omega))
     exact own_grown h0 (grownBy_putObj' Y D _) (fun r e=>by cases e;exact⟨_,hKY,rfl⟩)
    exact ownsRow_lower ho (by omega)
   ·exact hYB.grown (grownBy_putObj' Y D _) hYB.size (fun r e=>by cases e;omega)
 ·have hne:(E !=0)=true:=by simpa using h0
  have e1:grC f n most=fun _=>0:=by funext m;unfold grC;rw[if_neg (by rw[←hE];exact h0)]
  have e2:grS f n most=[]:=by unfold grS;rw[if_neg (by rw[←hE];exact h0)]
  rw[e1,e2]
  clear hE h0 e1 e2
  go_enter Tryz.func139,Tryz.ntmps139
  go_wp2_with fail
  refine HCK.out.mono ?_
  rintro e w2 ⟨rfl,hb2⟩
  have HT2:=Lib.hid (HT1.out.below hb2 HT1.out.lt)
  have HB2:=Lib.hid (HB1.out.trans (hb2.mono HB1.out.size))
  clear hb2
  have hs1:=fun(v:Value) (h:v.oneCell'=true)=>trA_one (fun _=>0) v h
  go_wp2_with (refine wpList_store_rowT rfl _ _ _ rfl w.heap.size (trA (fun _=>0) (.slice none 0 0)) rfl rfl 26 (trA (fun _=>0) (.slice none 0 0)) HT2.out (by rw[trA_size];exact szTree) rfl (hs1 _ rfl) ?_)
  refine bodyPost_ret (v:=.tuple #[.agg (trA (fun _=>0) (.slice none 0 0)),.int .i64 E]) ((cell_tree rfl _ _ w.heap.size _ _ rfl (setRow_tre HT2.out)).trans rfl) rfl ⟨_,rfl,World.ownsRow_nil _ _ _ 1,below_setRowT HB2.out (Nat.le_refl _) _⟩
end Go.Proofs.YtcmpmighjglnpaaGreat
namespace Go.Proofs.YtcmpmighjglnpaaGreat
open Go.RowKit
theorem szTreeL13(c:Nat→Int)(v:Value):(Tryz.prog.info? 26).map (·.size)=some (trL c v).length:=by
 rw[show(trL c v).length=17 by simp[trL,cntV]];exact szTree
theorem tree_range13{w:World}{b:Nat}{c:Nat→Int}{v:Value}(h:TreA w b c v):w.rangeAt b 0 (trL c v):=fun j u hu=>by
 rw[Nat.zero_add,cell_of_row w b j _ _ (0,0) h]
 simpa[trA]using hu
def TrF(S:Nat→Prop)(w:World)(F:Nat→Nat)(c:Nat→Int)(u:Value):Prop:=∃sy,RiF S w u sy∧IsTree c sy F
theorem TrF.fr{S:Nat→Prop}{w w':World}{F:Nat→Nat}{c:Nat→Int}{u:Value}(h:TrF S w F c u)(k:Fr S w w'):TrF S w' F c u:=by
 obtain⟨sy,h1,h2⟩:=h;exact⟨sy,h1.fr k,h2⟩
theorem psym_any(w:World)(p:Nat)(A:Option Addr)(l c:Nat)(g:Nat→Nat)(s:Rz)(h:Rdr w p A l c s)(hg:RdB w w.heap.size A l g)(hl:l≤1000000)(hs:s.1≤8*l)(S:Nat→Prop)(F:Nat→Nat)(ct:Nat→Int)(u:Value)(_hu:u.oneCell'=true)(ht:s.2=0→TrF S w F ct u):
  Calls Tryz.prog 104 #[.pointer (some ⟨p,0,none⟩),.agg (trA ct u)] w fun e w'=>e=.returned (.int .i64 (syV (readR F 320 g l s.1 17 0) s:Int))∧Rdr w' p A l c (syS (readR F 320 g l s.1 17 0) s)∧Fr (At p) w w':=by
 obtain⟨W1,hW1⟩:∃W1,W1=w.alloc (.cells (trA ct u) 26):=⟨_,rfl⟩
 have hb1:Below w.heap.size w W1:=by rw[hW1];exact(Below.refl _ _).alloc (Nat.le_refl _) _
 have hs1:W1.heap.size=w.heap.size+1:=by rw[hW1];simp
 have hx1:TreA W1 w.heap.size ct u:=by rw[hW1];exact heap_alloc_new w _
 have h1:Rdr W1 p A l c s:=BoxC.below h hb1 h.lt
 have c2:=h1.e
 have HW1:=Lib.hid hW1
 have HB1:=Lib.hid hb1;have HS1:=Lib.hid hs1
 obtain⟨a,e0⟩:=s
 by_cases h0:e0=0
 ·subst h0
  have ha:a≤8*l:=hs
  obtain⟨sy,hrd,hit⟩:=ht rfl
  have c0:∀q:After W1.heap.size W1,q.w.cell? ⟨p,0,none⟩=some (.slice A l c):=fun q=>Rdr.b (BoxC.below h1 q.h h1.lt)
  have c1:∀q:After W1.heap.size W1,q.w.cell? ⟨p,1,none⟩=some (.int .i64 (a:Int)):=fun q=>Rdr.a (BoxC.below h1 q.h h1.lt)
  have R1:=Lib.hid fun V (hV:Below W1.heap.size W1 V)=>(BoxC.below h1 hV h1.lt:Rdr V p A l c (a,0))
  have K1:=Lib.hid fun V (hV:Below W1.heap.size W1 V) x=>pkeep_any V p A l c (a,0) (BoxC.below h1 hV h1.lt) x
  have LLA:Hid (∀V,(∃q:After W1.heap.size W1,V=q.w)→V.rangeAt w.heap.size 0 (trL ct u)):=Lib.hid (by
   rintro V ⟨q,rfl⟩
   exact tree_range13 (hx1.below q.h (by omega)))
  have T1:=Lib.hid fun V (hV:Below W1.heap.size W1 V)=>(tnext_any V ct u sy ((hrd.1.below (hb1.trans (hV.mono hb1.size)) (Nat.le_refl _)).more (by have:=hV.size;omega)) (by have:=(isTree_length hit).2;omega) A l c g ((hg.below (hb1.trans (hV.mono hb1.size)) (Nat.le_refl _)).more (by have:=hV.size;omega)) hl (a:Int) (by omega) (by omega)).mono fun e w' ⟨q1,q2⟩=>(show e=Ending.returned (RdOut (readR F 320 g l a 17 0))∧Below W1.heap.size W1 w' by
   rcases q1 with⟨f,hf,he⟩|⟨hno,_⟩
   ·rw[isTree_one hf hit]at he
    unfold nxtP at he
    rw[if_neg (by omega),Int.toNat_natCast]at he
    exact⟨he,hV.trans (q2.mono hV.size)⟩
   ·exact absurd hit (hno F))
  show Calls _ _ _ _ (fun e w'=>e=.returned (.int .i64 (syV (readR F 320 g l a 17 0) (a,0):Int))∧Rdr w' p A l c (syS (readR F 320 g l a 17 0) (a,0))∧Fr (At p) w w')
  obtain⟨⟨y,b,e⟩,hr⟩:∃r,r=readR F 320 g l a 17 0:=⟨_,rfl⟩
  rw[←hr]at T1⊢
  unfold RdOut trA at T1
  dsimp only at T1
  by_cases he:e=0
  ·subst he
   have e1:syV (y,b,(0:Int)) (a,0)=y:=rfl
   have e2:syS (y,b,(0:Int)) (a,0)=(b,0):=rfl
   rw[e1,e2]
   clear e1 e2 h hg ht hrd hit hr hs h1 hx1 hb1 hs1 hW1 K1 _hu ha
   go_enter Tryz.func104,Tryz.ntmps104
   go_wp2_with (first|(rw[←HW1.out])|fail)
   refine wp_region_after W1.heap.size W1 (Below.refl _ _) (by kernel_rfl) (by kernel_rfl) ?_
   repeat (first
    |(go_big_quiet_want;with_reducible refine quiet_load_row _ _ rfl _ _ rfl _ _ LLA.out Tryz.underlying26 rfl (szTreeL13 _ _) ?_;go_big_quiet_on;simp only[Act.put,List.setIfInBounds_toArray,List.set_cons_zero,List.set_cons_succ])
    |(go_big_quiet_step (with_reducible exact call_after T1.out _)))
   refine wpQuiet_nil ?_
   rintro V ⟨⟨V,hV⟩,rfl⟩
   have HV:=Lib.hid hV
   have RV:Rdr V p A l c (a,0):=R1.out V hV
   have k1:=RV.a
   have k2:=RV.free 1
   have HRV:=Lib.hid RV
   clear hV RV R1 c0 c1 c2 T1
   go_wp2
   go_ret
   refine⟨rfl,HRV.out.setA b,((Fr.of HB1.out).trans (Fr.of HV.out)).trans (Fr.cell _ _ _ _)⟩
  ·have e1:syV (y,b,e) (a,0)=0:=by unfold syV;rw[if_neg (fun h=>h rfl),if_pos he]
   have e2:syS (y,b,e) (a,0)=keepS (a,0) e:=by unfold syS keepS;rw[if_neg (fun h=>h rfl),if_pos he,if_pos rfl]
   have d0:(e==0)=false:=beq_eq_false_iff_ne.2 he
   have d1:(e !=0)=true:=by simp[bne,d0]
   rw[e1,e2]
   clear e1 e2 h hg ht hrd hit hr hs h1 hx1 hb1 hs1 hW1 _hu ha he R1
   go_enter Tryz.func104,Tryz.ntmps104
   go_wp2_with (first|(rw[←HW1.out])|fail)
   refine wp_region_after W1.heap.size W1 (Below.refl _ _) (by kernel_rfl) (by kernel_rfl) ?_
   repeat (first
    |(go_big_quiet_want;with_reducible refine quiet_load_row _ _ rfl _ _ rfl _ _ LLA.out Tryz.underlying26 rfl (szTreeL13 _ _) ?_;go_big_quiet_on;simp only[Act.put,List.setIfInBounds_toArray,List.set_cons_zero,List.set_cons_succ])
    |(go_big_quiet_step (with_reducible exact call_after T1.out _)))
   refine wpQuiet_nil ?_
   rintro V ⟨⟨V,hV⟩,rfl⟩
   have HV:=Lib.hid hV
   have KV:=Lib.hid (K1.out V hV e)
   clear hV c0 c1 c2 T1 K1
   go_wp2_with fail
   refine KV.out.mono ?_
   rintro e w2 ⟨rfl,h2,f2⟩
   have H2:=Lib.hid h2;have F2:=Lib.hid f2
   clear h2 f2
   go_wp2
   go_ret
   exact⟨rfl,H2.out,((Fr.of HB1.out).trans (Fr.of HV.out)).trans F2.out⟩
 ·have d0:(e0==0)=false:=beq_eq_false_iff_ne.2 h0
  have d1:(e0 !=0)=true:=by simp[bne,d0]
  rw[syS_err (s:=(a,e0)) h0,syV_err (s:=(a,e0)) h0]
  have HH:=Lib.hid h1
  clear h hg h0 hs ht h1 hx1 hb1 hs1 hW1
  go_enter Tryz.func104,Tryz.ntmps104
  go_wp2_with (first|(rw[←HW1.out])|fail)
  go_ret
  exact⟨rfl,HH.out,Fr.of HB1.out⟩
end Go.Proofs.YtcmpmighjglnpaaGreat
namespace Go.Proofs.YtcmpmighjglnpaaGreat
open Go.RowKit
def smC(M:Nat→Nat):Nat→Nat
 |0=>0
 |b+1=>smC M b+M b
def smS(M:Nat→Nat):Nat→Nat
 |0=>0
 |b+1=>smS M b+M b*p2N b
def kdC(l m f s o:Int)(M:Nat→Nat):Nat→Int:=fun i=>if i=0 then l else if i=1 then m else if i=2 then f else if i=3 then s else if i<18 then((M (i-4):Nat):Int)else o
def kdA(l m f s o:Int)(M:Nat→Nat):Array Value:=tblA (kdC l m f s o M) 19
theorem infoKd:(Tryz.prog.info? 187).map (fun i=>(i.zero,i.size))=some (some (.agg (kdA 0 0 0 0 0 (fun _=>0))),19):=by kernel_rfl
theorem szKd(T:Nat→Int):(Tryz.prog.info? 187).map (·.size)=some (tblA T 19).size:=by rw[tblA_size];kernel_rfl
def Knd(w:World)(g:Nat)(l m f s o:Int)(M:Nat→Nat):Prop:=w.heap[g]?=some (.cells (kdA l m f s o M) 187 (0,0))
section
variable {w w':World} {g:Nat} {l m f s o:Int} {M:Nat→Nat}
theorem Knd.lt(h:Knd w g l m f s o M):g<w.heap.size:=(Array.getElem?_eq_some_iff.1 h).1
theorem Knd.at(h:Knd w g l m f s o M){i:Nat}(hi:i<19):w.cell? ⟨g,i,none⟩=some (.int .i64 (kdC l m f s o M i)):=tbl_cell h hi
theorem Knd.least(h:Knd w g l m f s o M):w.cell? ⟨g,0,none⟩=some (.int .i64 l):=h.at (i:=0) (by omega)
theorem Knd.most(h:Knd w g l m f s o M):w.cell? ⟨g,1,none⟩=some (.int .i64 m):=h.at (i:=1) (by omega)
theorem Knd.first(h:Knd w g l m f s o M):w.cell? ⟨g,2,none⟩=some (.int .i64 f):=h.at (i:=2) (by omega)
theorem Knd.last(h:Knd w g l m f s o M):w.cell? ⟨g,3,none⟩=some (.int .i64 s):=h.at (i:=3) (by omega)
theorem Knd.own(h:Knd w g l m f s o M):w.cell? ⟨g,18,none⟩=some (.int .i64 o):=h.at (i:=18) (by omega)
theorem Knd.many(h:Knd w g l m f s o M){b:Nat}(hb:b<14):w.cell? ⟨g,4+b,none⟩=some (.int .i64 ((M b:Nat):Int)):=by
 have:=h.at (i:=4+b) (by omega)
 have e:kdC l m f s o M (4+b)=((M b:Nat):Int):=by
  unfold kdC
  rw[if_neg (by omega),if_neg (by omega),if_neg (by omega),if_neg (by omega),if_pos (by omega),show 4+b-4=b by omega]
 rw[e]at this;exact this
theorem Knd.frozen(h:Knd w g l m f s o M)(j:Nat):w.frozen? ⟨g,j,none⟩=false:=frozen_of_row w g j _ _ h
theorem Knd.below{B:Nat}(h:Knd w g l m f s o M)(hb:Below B w w')(hg:g<B):Knd w' g l m f s o M:=(hb.block g hg).trans h
theorem Knd.drew(h:Knd w g l m f s o M):Knd w.drew g l m f s o M:=h
theorem Knd.drewN(h:Knd w g l m f s o M)(k:Nat):Knd (w.drewN k) g l m f s o M:=h
end
theorem knd_new(w:World)(l m f s o:Int)(M:Nat→Nat):Knd (w.alloc (.cells (kdA l m f s o M) 187)) w.heap.size l m f s o M:=heap_alloc_new w _
theorem has9_any(w:World)(l m f s o:Int)(M:Nat→Nat)(y:Int)(h:Bool)(hh:h=decide (f≤y∧y≤s)):
  Calls Tryz.prog 147 #[.agg (kdA l m f s o M),.int .i64 y] w fun e w'=>e=.returned (.bool h)∧Below w.heap.size w w':=by
 have hk:=knd_new w l m f s o M
 have hb:Below w.heap.size w (w.alloc (.cells (kdA l m f s o M) 187)):=(Below.refl _ _).alloc (Nat.le_refl _) _
 have k2:=hk.first
 have k3:=hk.last
 obtain⟨a,ha⟩:∃a,a=decide (f≤y):=⟨_,rfl⟩
 obtain⟨c,hc⟩:∃c,c=decide (y≤s):=⟨_,rfl⟩
 have hh2:h=(a&&c):=by rw[hh,ha,hc];simp
 have HB:=Lib.hid hb;have HH:=Lib.hid hh2
 clear hk hb hh hh2
 have ha1:decide (f≤y)=a:=ha.symm
 have hc1:decide (y≤s)=c:=hc.symm
 clear ha hc
 rcases a with _|_
 ·go_enter Tryz.func147,Tryz.ntmps147
  go_wp2
  go_ret
  exact⟨by rw[HH.out];rfl,HB.out⟩
 ·go_enter Tryz.func147,Tryz.ntmps147
  go_wp2
  go_ret
  exact⟨by rw[HH.out];rfl,HB.out⟩
theorem belowN9{B:Nat}{a w:World}(h:Below B a w)(n:Nat):Below B a (w.drewN n):=⟨h.os,h.tape,h.output,h.size,h.block⟩
theorem sh9(z b:Nat)(hz:z≤40000)(hb:b<14):wrap64 ((z:Int)*2^b)=((z*p2N b:Nat):Int)∧z*p2N b≤327680000:=by
 have e:(z:Int)*2^b=((z*2^b:Nat):Int):=by rw[Int.natCast_mul,Int.natCast_pow];rfl
 have h1:2^b≤2^13:=Nat.pow_le_pow_right (by omega) (by omega)
 have h2:z*2^b≤40000*2^13:=Nat.mul_le_mul hz h1
 have h3:40000*2^13=327680000:=rfl
 rw[e]
 unfold p2N
 generalize z*2^b=x at h2
 unfold wrap64
 omega
def BgOut(l f:Int)(M:Nat→Nat)(y:Int)(e:Ending):Prop:=
 ∃b z:Nat,b<14∧z<M b∧y=f+((smC M b+z:Nat):Int)∧e=.returned (.tuple #[.int .i64 (l+((smS M b+z*p2N b:Nat):Int)),.int .i64 (b:Int)])
theorem smC_mono(M:Nat→Nat){i:Nat}:∀d,smC M i≤smC M (i+d)
 |0=>Nat.le_refl _
 |d+1=>Nat.le_trans (smC_mono M d) (Nat.le_add_right _ _)
theorem smS_mono(M:Nat→Nat){i:Nat}:∀d,smS M i≤smS M (i+d)
 |0=>Nat.le_refl _
 |d+1=>Nat.le_trans (smS_mono M d) (Nat.le_add_right _ _)
theorem smC_le(M:Nat→Nat){i j:Nat}(h:i≤j):smC M i≤smC M j:=by
 have:=smC_mono M (i:=i) (j-i);rwa[show i+(j-i)=j by omega]at this
theorem smS_le(M:Nat→Nat){i j:Nat}(h:i≤j):smS M i≤smS M j:=by
 have:=smS_mono M (i:=i) (j-i);rwa[show i+(j-i)=j by omega]at this
theorem begin9_own(w:World)(l m f s o:Int)(M:Nat→Nat)(ho:o≠0):
  Calls Tryz.prog 148 #[.agg (kdA l m f s o M),.int .i64 s] w fun e w'=>e=.returned (.tuple #[.int .i64 o,.int .i64 0])∧Below w.heap.size w w':=by
 have hk:=knd_new w l m f s o M
 have hb:Below w.heap.size w (w.alloc (.cells (kdA l m f s o M) 187)):=(Below.refl _ _).alloc (Nat.le_refl _) _
 have k2:=hk.own
 have k3:=hk.last
 have h1:(o !=0)=true:=by simpa using ho
 have h2:(s==s)=true:=by simp
 have HB:=Lib.hid hb
 clear hk hb ho
 go_enter Tryz.func148,Tryz.ntmps148
 go_wp2
 go_ret2
 exact⟨rfl,HB.out⟩
theorem begin9_any(w:World)(l m f s o:Int)(M:Nat→Nat)(y:Int)(hown:o=0∨y≠s)(hl:0≤l∧l≤1000)(hf:0≤f∧f≤1000)(h1:f≤y)(h2:y<f+((smC M 14:Nat):Int))(hC:smC M 14≤40)(hS:smS M 14≤40000):
  Calls Tryz.prog 148 #[.agg (kdA l m f s o M),.int .i64 y] w fun e w'=>BgOut l f M y e∧Below w.heap.size w w':=by
 have hk:=knd_new w l m f s o M
 have hb:Below w.heap.size w (w.alloc (.cells (kdA l m f s o M) 187)):=(Below.refl _ _).alloc (Nat.le_refl _) _
 have k2:=hk.own
 have k3:=hk.last
 have k4:=hk.least
 have k5:=hk.first
 obtain⟨B1,hB1⟩:∃B1,B1=(o !=0):=⟨_,rfl⟩
 obtain⟨B2,hB2⟩:∃B2,B2=(y==s):=⟨_,rfl⟩
 have hyb:y≤1040:=by omega
 have hB:B1=false∨B2=false:=by
  rcases hown with e|e
  ·left;rw[hB1,e];rfl
  ·right;rw[hB2];simpa using e
 have e1:=hB1.symm
 have e2:=hB2.symm
 have HB:=Lib.hid hb;have HC:=Lib.hid hC;have HS:=Lib.hid hS;have HK:=Lib.hid hk;have H2:=Lib.hid h2;have HBB:=Lib.hid hB
 clear hb hC hS hk h2 hB1 hB2 hown hB
 rcases B1 with _|_<;>rcases B2 with _|_
 case true.true=>rcases HBB.out with h|h<;>cases h
 all_goals(
  clear HBB
  go_enter Tryz.func148,Tryz.ntmps148
  go_wp2
  go_quiet (fail)
  go_wp2
  go_loopw [4,5,6] (fun lv bv fv wr=>∃b z S:Nat,b<14∧z≤40∧S≤40000∧lv=.int .i64 (l+(S:Int))∧bv=.int .i64 (b:Int)∧fv=.int .i64 (z:Int)∧Hid (S=smS M b)∧Hid (y=f+((smC M b+z:Nat):Int))∧Hid (Knd wr w.heap.size l m f s o M)∧Hid (Below w.heap.size w wr)) (fun _ bv _ _=>14-(intOf bv).toNat)
  case atStart=>
   refine⟨0,(y-f).toNat,0,by omega,?_,by omega,by simp,rfl,?_,Lib.hid rfl,Lib.hid ?_,Lib.hid (HK.out.drewN _),Lib.hid (belowN9 HB.out _)⟩
   ·have:=H2.out;have:=HC.out;omega
   ·exact val_int (by omega)
   ·show y=f+((0+(y-f).toNat:Nat):Int);omega
  case round=>
   obtain⟨b,z,S,hb,hz,hS,rfl,rfl,rfl,HSS,HY,HKR,HBR⟩:=hrel
   have c1:=HKR.out.many hb
   obtain⟨q,hq⟩:∃q,q=M b:=⟨_,rfl⟩
   rw[←hq]at c1
   have HQ:=Lib.hid hq
   clear hq
   have hq40:q≤40:=by
    rw[HQ.out]
    have:smC M (b+1)≤smC M 14:=smC_le M (by omega)
    have h3:smC M (b+1)=smC M b+M b:=rfl
    have:=HC.out;omega
   by_cases hlt:q≤z
   ·have hlt2:(q:Int)≤(z:Int):=by omega
    have hd:decide ((q:Int)≤(z:Int))=true:=decY hlt2
    have hd2:decide (q≤z)=true:=decY hlt
    go_wp2
    go_roundw
    case rel=>
     obtain⟨g1,g2⟩:=sh9 q b (by omega) hb
     have hb13:b+1<14:=by
      rcases Nat.lt_or_ge (b+1) 14 with h|h
      ·exact h
      ·exfalso
       have e13:b=13:=by omega
       have h1:=H2.out;have h2:=HY.out
       have h3:smC M 14=smC M 13+M 13:=rfl
       rw[e13]at h2 HQ
       have:=HQ.out
       omega
     have hS1:smS M (b+1)=S+q*p2N b:=by rw[HSS.out,HQ.out];rfl
     have hS2:smS M (b+1)≤40000:=Nat.le_trans (smS_le M (by omega)) HS.out
     have hC1:smC M (b+1)=smC M b+q:=by rw[HQ.out];rfl
     refine⟨b+1,z-q,S+q*p2N b,hb13,by omega,by omega,val_int ?_,by go_num,val_int (by omega),Lib.hid hS1.symm,Lib.hid ?_,HKR,HBR⟩
     ·rw[g1];unfold wrap64;omega
     ·rw[HY.out,hC1];omega
    case measure=>simp[intOf];omega
   ·have hd:decide ((q:Int)≤(z:Int))=false:=decN (by omega)
    have hd2:decide (q≤z)=false:=decN hlt
    go_wp2
    go_ret2
    obtain⟨g1,g2⟩:=sh9 z b (by omega) hb
    refine⟨⟨b,z,hb,by rw[←HQ.out];omega,HY.out,?_⟩,HBR.out⟩
    rw[g1,←HSS.out]
    have e:wrap64 (l+(S:Int)+((z*p2N b:Nat):Int))=l+((S+z*p2N b:Nat):Int):=by unfold wrap64;omega
    rw[e]
    rfl)
def BgN(l f s o:Int)(M:Nat→Nat)(y L:Int)(b:Nat):Prop:=
 (o≠0∧y=s∧L=o∧b=0)∨((o=0∨y≠s)∧∃z:Nat,b<14∧z<M b∧y=f+((smC M b+z:Nat):Int)∧L=l+((smS M b+z*p2N b:Nat):Int))
structure KndOk (l m f s o:Int) (M:Nat→Nat):Prop where
 l0:0≤l∧l≤1000
 f0:0≤f∧f≤1000
 o0:0≤o∧o≤1000
 s0:s≤1100
 m0:m<l+((smS M 14:Nat):Int)
 sC:(o=0∧s<f+((smC M 14:Nat):Int))∨(o≠0∧s≤f+((smC M 14:Nat):Int))
 C14:smC M 14≤40
 S14:smS M 14≤40000
theorem many_le{M:Nat→Nat}{b:Nat}(hb:b<14):smC M b+M b≤smC M 14∧smS M b+M b*p2N b≤smS M 14:=
 ⟨smC_le M (i:=b+1) (by omega),smS_le M (i:=b+1) (by omega)⟩
theorem bg_le{l m f s o:Int}{M:Nat→Nat}(hk:KndOk l m f s o M){y L:Int}{b:Nat}(h:BgN l f s o M y L b):0≤L∧L≤42000∧b<14:=by
 have h1:=hk.l0;have h2:=hk.o0;have h3:=hk.S14
 rcases h with⟨_,_,rfl,rfl⟩|⟨_,z,hb,hz,_,rfl⟩
 ·omega
 ·have h4:=(many_le (M:=M) hb).2
  have h5:z*p2N b≤M b*p2N b:=Nat.mul_le_mul_right _ (by omega)
  omega
theorem begin9_all(w:World)(l m f s o:Int)(M:Nat→Nat)(hk:KndOk l m f s o M)(y:Int)(hy:f≤y∧y≤s):
  Calls Tryz.prog 148 #[.agg (kdA l m f s o M),.int .i64 y] w fun e w'=>(∃(L:Int) (b:Nat),BgN l f s o M y L b∧e=.returned (.tuple #[.int .i64 L,.int .i64 (b:Int)]))∧Below w.heap.size w w':=by
 by_cases h:o≠0∧y=s
 ·obtain⟨h1,rfl⟩:=h
  refine(begin9_own w l m f y o M h1).mono ?_
  rintro e w' ⟨rfl,hb⟩
  exact⟨⟨o,0,.inl ⟨h1,rfl,rfl,rfl⟩,rfl⟩,hb⟩
 ·have h2:o=0∨y≠s:=by
   by_cases h0:o=0
   ·exact .inl h0
   ·exact .inr fun e=>h ⟨h0,e⟩
  have hC:=hk.sC
  refine(begin9_any w l m f s o M y h2 hk.l0 hk.f0 hy.1 (by rcases h2 with e|e<;>omega) hk.C14 hk.S14).mono ?_
  rintro e w' ⟨⟨b,z,h3,h4,h5,rfl⟩,hb⟩
  exact⟨⟨_,b,.inr ⟨h2,z,h3,h4,h5,rfl⟩,rfl⟩,hb⟩
end Go.Proofs.YtcmpmighjglnpaaGreat
