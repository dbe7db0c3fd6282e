/-
  The law PlainBlocks: a block that is written is read, step by step. No condition.
-/
import Derived.Test.YtgokdgcmkcmjeaaGreatpbbq
set_option maxRecDepth 100000
set_option maxHeartbeats 16000000
namespace Go.Proofs.YtgokdgcmkcmjeaaGreat
open Go.RowKit Go.ChangeShapes Go.WideShapes Go.ChangeAt Go.Joins
theorem blocks13_law(kd:Nat)(A1:Option Addr)(rc:Nat)(raw:List Nat)(A2:Option Addr)(m c2:Nat)(l:List Tok)(last:Bool)(w:World)(hkd:kd<256)(hr:ByR w w.heap.size A1 raw.length rc (lst raw))(ht:TkR w w.heap.size A2 m c2 l)(hin:∀t∈l,TokIn t):
  Calls Tryz.prog 6 #[.int .u8 (kd:Int),.slice A1 raw.length rc,.slice A2 m c2,.bool last] w fun e w'=>e=.returned (.bool true)∧Below w.heap.size w w':=by
 have HR:=Lib.hid hr;have HT:=Lib.hid ht
 have HML:=Lib.hid ht.1
 clear hr ht
 obtain⟨N,hN⟩:∃N,N=raw.length:=⟨_,rfl⟩
 by_cases hn1:200<raw.length
 ·have hd:decide (200<(N:Int))=true:=decTb (by omega)
  rw[←hN]at HR⊢
  clear hn1 hN
  go_enter Tryz.func6,Tryz.ntmps6
  go_wp2_with fail
  refine(alive13_any w).mono ?_
  rintro e w1 ⟨rfl,hb⟩
  have HB1:=Lib.hid hb
  clear hb
  go_wp2
  go_ret
  exact⟨rfl,HB1.out⟩
 have hd:decide (200<(N:Int))=false:=decFb (by omega)
 by_cases hn2:100<m
 ·have hd2:decide (100<(m:Int))=true:=decTb (by omega)
  rw[←hN]at HR⊢
  clear hn1 hN hn2
  go_enter Tryz.func6,Tryz.ntmps6
  go_wp2_with fail
  refine(alive13_any w).mono ?_
  rintro e w1 ⟨rfl,hb⟩
  have HB1:=Lib.hid hb
  clear hb
  go_wp2
  go_ret
  exact⟨rfl,HB1.out⟩
 have hd2:decide (100<(m:Int))=false:=decFb (by omega)
 obtain⟨E,hE⟩:∃E,E=wrtE nilF 0 0 kd raw.length (lst raw) l last:=⟨_,rfl⟩
 have hwr:=fun(u:World) (hu:Below w.heap.size w u)=>write_con u none 0 0 nilF 0 kd A1 raw.length rc (lst raw) A2 m c2 l last (by_nilF _ _) (by omega) (by omega) (by omega) hkd ((HR.out.below hu (Nat.le_refl _)).more hu.size) (by omega) ((HT.out.below hu (Nat.le_refl _)).more hu.size) (by omega) hin
 rw[←hE]at hwr
 by_cases hE0:E=0
 ·subst hE0
  obtain⟨K,F,k,pl,hK,hF,hL,hbeg,hk1,hk2,hst,hend,hwn⟩:=blocks_nums (fun j=>HR.out.1.1 j) (by omega) (by have:=HML.out;omega) hin hE.symm
  rw[hK,hF]at hwr
  obtain⟨L,hLd⟩:∃L,L=(K+7)/8:=⟨_,rfl⟩
  rw[←hLd]at hL hbeg hst hend
  obtain⟨T,hT⟩:∃T,T=wantT kd raw l:=⟨_,rfl⟩
  rw[←hT]at hst hend hwn
  have hb0:(begR F L 0).2.2=0:=by rw[hbeg]
  have hbk:(begR F L 0).1=k:=by rw[hbeg]
  have hreads:=fun i=>head_reads (Nat.zero_le (8*L)) hb0 hbk i
  have hhd:headR F L 0=(k,pl 0,0):=by
   unfold headR
   have a1:asked13 L 0=0:=by unfold asked13;rw[if_neg (by omega),if_neg (by omega)]
   rw[a1,if_neg (fun h=>h rfl),show(0:Int).toNat=0 from rfl,hb0,if_neg (fun h=>h rfl),hbeg]
  have hple:∀i,i≤T.length→pl i≤8*L:=fun i=>by
   induction i with
   |zero=>intro _;have:=(beg_fwd (g:=F) (L:=L) (a:=0) hb0).2;rw[hbeg]at this;exact this
   |succ i ih=>
    intro hi
    have h1:=hst i (by omega)
    have:=(next_fwd (k:=leftK k i) (g:=F) (L:=L) (a:=pl i) (ih (by omega)) (by rw[h1])).2.1
    rw[h1]at this;exact this
  have hof:∀(base:Nat) (v:Value) (w':World),OfD base k v w'→∃v1 v2,v=.agg (blkI kd last ((leftK k 0).left:Int) (tcO k.kind k.F k.n) (tcO k.kind k.G k.m) v1 v2)∧OwnS w' base v1 (syO k.kind k.F k.n)∧OwnS w' base v2 (syO k.kind k.G k.m):=fun base v w' h=>by
   obtain⟨v1,v2,e,o1,o2⟩:=h
   rw[hk1,hk2]at e
   exact⟨v1,v2,by rw[hk1];exact e,o1,o2⟩
  have hrd:∀i,MayI kd ((leftK k i).left:Int) (tcO k.kind k.F k.n) (syO k.kind k.F k.n) (tcO k.kind k.G k.m) (syO k.kind k.G k.m)∧ReadsB (leftK k i) kd last ((leftK k i).left:Int) (tcO k.kind k.F k.n) (syO k.kind k.F k.n) (tcO k.kind k.G k.m) (syO k.kind k.G k.m)∧(syO k.kind k.F k.n).length≤1000000∧(syO k.kind k.G k.m).length≤1000000:=fun i=>by
   have h:=hreads i
   rw[hk2]at h
   have e:∀(P:Nat→Prop),P k.kind→P kd:=fun P h=>hk1▸h
   exact e (fun x=>MayI x ((leftK k i).left:Int) (tcO k.kind k.F k.n) (syO k.kind k.F k.n) (tcO k.kind k.G k.m) (syO k.kind k.G k.m)∧ReadsB (leftK k i) x last ((leftK k i).left:Int) (tcO k.kind k.F k.n) (syO k.kind k.F k.n) (tcO k.kind k.G k.m) (syO k.kind k.G k.m)∧(syO k.kind k.F k.n).length≤1000000∧(syO k.kind k.G k.m).length≤1000000) h
  exact blocks13_main kd A1 rc raw.length raw A2 m c2 l last w hkd rfl (by omega) hn2 HR.out HT.out K L F k pl T hwr hLd hL hhd hk1 hk2 hst hend hwn hple hT _ _ _ _ hof hrd
 ·have hne:(E !=0)=true:=by simpa using hE0
  have HWR:=Lib.hid hwr
  rw[←hN]at HR HWR⊢
  clear hn1 hN hn2 hwr hE hE0
  go_enter Tryz.func6,Tryz.ntmps6
  go_wp2_with fail
  refine(alive13_any w).mono ?_
  rintro e w1 ⟨rfl,hb⟩
  have HB1:=Lib.hid hb
  clear hb
  go_wp2_with (first
   |(refine wpList_buildTo rfl 62 #[] rfl (some 38) rfl #[.slice none 0 0,.int .i64 0] ?_ ?_;focus(simpa[Act.eval]using built_pen0))
   |fail)
  refine(HWR.out w1 HB1.out).mono ?_
  rintro e w2 ⟨A',c',L',hL',rfl,hy2,hb2,-⟩
  have HB2:=Lib.hid (HB1.out.trans (hb2.mono HB1.out.size))
  clear hb2 hy2 hL'
  obtain⟨W3,hW3⟩:∃W,W=w2.alloc (.cells #[.slice A' L' c',.int .i64 (wrtK nilF 0 0 kd N (lst raw) l last:Int)] 62):=⟨_,rfl⟩
  have HB3:Hid (Below w.heap.size w W3):=Lib.hid (by rw[hW3];exact HB2.out.alloc HB2.out.size _)
  have HW3:=Lib.hid hW3
  clear hW3
  go_wp2_with (first|(rw[←HW3.out])|fail)
  go_ret
  exact⟨rfl,HB3.out⟩
theorem blocks13_law_lifted(os:Os)(started:os.Started)(H:Type)(enc:TypeId×Value→H):
  ReturnsInHanded {} Tryz.checked os 6 .any (Rows.plainBlocksSpec.pre6 enc Tryz.prog Tryz.f6 Rows.plainBlocksRow.domain false) (Rows.plainBlocksSpec.post enc Tryz.prog Tryz.f6 false true false false):=by
 refine returnsInHanded_of_change (C:=Tryz.checked) own started (by kernel_rfl) Tryz.func6
  (ChangeSpec.witness6 (enc:=enc) (C:=Tryz.checked) false ⟨#[],#[.int .u8 0,.slice none 0 0,.slice none 0 0,.bool false],[]⟩ 8 (by kernel_rfl) (by kernel_rfl) (by kernel_rfl) (by kernel_rfl)) ?_
 intro W base args ds gs before hval0 hW _ _
 have hval:∀(j:Nat) t v,Tryz.f6.params[j]?=some t→args[j]?=some v→Value.okWide Tryz.prog W .any base t v:=hval0
 have hW':=hW
 obtain⟨p,q,hA0,hV,rfl,_,_⟩:=hW
 have hA:DataW.TrodAll enc Tryz.prog W 0 (fun _=>true) true Tryz.f6.params.toList args.toList ds p:=hA0
 rw[Tryz.params6]at hA hval
 obtain⟨v0,vs0,d0,ds0,p0,q0,hargs,rfl,rfl,h0,r0⟩:=trodAll_cons hA
 obtain⟨v1,vs1,d1,ds1,p1,q1,rfl,rfl,rfl,h1,r1⟩:=trodAll_cons r0
 obtain⟨v2,vs2,d2,ds2,p2,q2,rfl,rfl,rfl,h2,r2⟩:=trodAll_cons r1
 obtain⟨v3,vs3,d3,ds3,p3,q3,rfl,rfl,rfl,h3,r3⟩:=trodAll_cons r2
 obtain⟨rfl,rfl,rfl⟩:=trodAll_nil r3
 obtain rfl:args=#[v0,v1,v2,v3]:=by cases args;simp_all
 obtain⟨rfl,rfl⟩:=trodVars_none hV
 have k0:=h0
 have lt0:∀x∈p0,x.block<W.heap.size:=by obtain⟨m,hm⟩:=k0;exact DataW.trod_lt m _ _ _ hm
 obtain⟨a0,rfl,rfl,rfl,w0⟩:=open_int Tryz.underlying5 (hval 0 5 v0 rfl rfl) h0
 have u0:=wf_u8_range w0
 obtain⟨a0,rfl⟩:=Int.eq_ofNat_of_zero_le u0.1
 have k1:=h1
 have lt1:∀x∈p1,x.block<W.heap.size:=by obtain⟨m,hm⟩:=k1;exact DataW.trod_lt m _ _ _ hm
 obtain⟨A1,len1,cap1,rfl⟩:=okWide_slice Tryz.underlying22 (hval 1 22 v1 rfl rfl)
 obtain⟨f1,hx1⟩:=open_byr h1
 obtain⟨L1,rfl,hr1⟩:=byr_list hx1
 have k2:=h2
 have lt2:∀x∈p2,x.block<W.heap.size:=by obtain⟨m,hm⟩:=k2;exact DataW.trod_lt m _ _ _ hm
 obtain⟨A2,len2,cap2,rfl⟩:=okWide_slice Tryz.underlying60 (hval 2 60 v2 rfl rfl)
 obtain⟨l2,hr2,hin2⟩:=open_toks h2
 have k3:=h3
 have lt3:∀x∈p3,x.block<W.heap.size:=by obtain⟨m,hm⟩:=k3;exact DataW.trod_lt m _ _ _ hm
 obtain⟨b3,rfl⟩:=okWide_bool Tryz.underlying4 (hval 3 4 v3 rfl rfl)
 clear hA0 hval0
 refine(blocks13_law a0 A1 cap1 L1 A2 len2 cap2 l2 b3 W (by omega) hr1 hr2 hin2).mono fun e W' ⟨he,bel⟩=>?_
 subst he
 exact⟨_,rfl,_,_,_,[],_,[],hW',trodAll_mk1 (shut_bool Tryz.underlying4 _),(trodAll_cons_mk (Below.trod laidOut (by kernel_rfl) (of_decide_eq_true (by kernel_rfl)) k0 bel lt0) (trodAll_cons_mk (Below.trod laidOut (by kernel_rfl) (of_decide_eq_true (by kernel_rfl)) k1 bel lt1) (trodAll_cons_mk (Below.trod laidOut (by kernel_rfl) (of_decide_eq_true (by kernel_rfl)) k2 bel lt2) (trodAll_cons_mk (Below.trod laidOut (by kernel_rfl) (of_decide_eq_true (by kernel_rfl)) k3 bel lt3) trodAll_mk0)))),rfl,bel.frame _,fun h=>by cases h⟩
theorem blocks13_law_holds:Rows.PlainBlocksSaid:=
 OpenClaim.holds_of_wide 6 Tryz.f6 rfl rfl rfl rfl rfl rfl rfl ⟨rfl,rfl,rfl,rfl,rfl⟩ rfl rfl rfl rfl rfl (by kernel_rfl) Tryz.func6 (by kernel_rfl)
  (of_decide_eq_true (by kernel_rfl)) (by unfold Func.isWrapper;first|(rw[if_pos (by decide+kernel)];kernel_rfl)|(rw[if_neg (by decide+kernel)];exact⟨rfl,rfl⟩))
  (fun os started H enc _=>blocks13_law_lifted os started H enc)
#print axioms blocks13_law_holds
end Go.Proofs.YtgokdgcmkcmjeaaGreat
