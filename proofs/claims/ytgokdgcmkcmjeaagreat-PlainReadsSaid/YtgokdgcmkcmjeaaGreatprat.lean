/-
  Words and walks.
-/
import Derived.Test.YtgokdgcmkcmjeaaGreatprad
import Derived.Test.YtgokdgcmkcmjeaaGreatprah
import Derived.Test.YtgokdgcmkcmjeaaGreatprai
import Derived.Test.YtgokdgcmkcmjeaaGreatpras
set_option maxRecDepth 100000
set_option maxHeartbeats 16000000
namespace Go.Proofs.YtgokdgcmkcmjeaaGreat
open Go.RowKit
theorem infoBlk13:(Tryz.prog.info? 73).map (fun i=>(i.zero,i.size))=some (some (.agg #[.int .u8 0,.bool false,.int .i64 0,.slice none 0 0,.slice none 0 0]),5):=by kernel_rfl
def blkC(k:Blk13)(A1:Option Addr)(c1:Nat)(A2:Option Addr)(c2:Nat):Array Value:=#[.int .u8 (k.kind:Int),.bool k.last,.int .i64 (k.left:Int),.slice A1 k.n c1,.slice A2 k.m c2]
structure CodeOk (F:Nat→Nat) (n:Nat):Prop where
 top:n≤320
 le:∀j,j<n→F j≤15
 all:allN F n≤32768
theorem CodeOk.of{F:Nat→Nat}{n:Nat}{most:Int}(h:checkE F n most=0):CodeOk F n:=by
 obtain⟨h1,h2,h3,h4,h5,_⟩:=check_ok h
 exact⟨h3,fun j hj=>by have:=h4 j hj;omega,h5⟩
structure BlkIn (k:Blk13):Prop where
 kind:k.kind≤2
 left:k.left≤65535
 F:k.kind≠0→CodeOk k.F k.n
 G:k.kind≠0→CodeOk k.G k.m
theorem made13(w:World)(A:Option Addr)(n c:Nat)(F:Nat→Nat)(hr:RdB w w.heap.size A n F)(h:CodeOk F n):
  Calls Tryz.prog 70 #[.slice A n c] w fun e w'=>e=.returned (.slice (some ⟨w.heap.size,0,none⟩) n n)∧Below w.heap.size w w'∧RdC w' w'.heap.size (some ⟨w.heap.size,0,none⟩) n (codeB (extF n F) n) (extF n F):=by
 have hr2:RdB w w.heap.size A n (extF n F):=by
  refine⟨fun j=>?_,fun h0=>?_⟩
  ·unfold extF;split
   ·exact hr.1 j
   ·omega
  ·obtain⟨b,o,e1,e2,e3⟩:=hr.2 h0
   exact⟨b,o,e1,e2,fun j hj=>by rw[extF_in F hj];exact e3 j hj⟩
 have h15:∀j,j<n→extF n F j≤15:=fun j hj=>by rw[extF_in F hj];exact h.le j hj
 have hall:allN (extF n F) n≤32768:=by rw[(ext_sums F n (Nat.le_refl _)).1];exact h.all
 have hx:∀j,codeB (extF n F) n j<4294967296:=fun j=>by
  by_cases hj:j<n
  ·have h1:=fits_code hj h15 hall
   have h2:(2:Nat)^extF n F j≤2^15:=Nat.pow_le_pow_right (by omega) (h15 j hj)
   have h3:(2:Nat)^15=32768:=rfl
   omega
  ·unfold codeB;rw[extF_out F (by omega),if_pos rfl];omega
 have h8:∀j,extF n F j<256:=hr2.1
 exact(made_any w A n c (extF n F) hr2 (by have:=h.top;omega) h15 hall).mono fun e w' ⟨h1,h2,h3⟩=>⟨h1,h2,h3.rd hx h8⟩
theorem read13(w:World)(A:Option Addr)(n c:Nat)(F:Nat→Nat)(hr:RdC w w.heap.size A n (codeB (extF n F) n) (extF n F))(h:CodeOk F n)(Ab:Option Addr)(l cb:Nat)(g:Nat→Nat)(hg:RdB w w.heap.size Ab l g)(hl:l≤1000000)(a:Nat)(ha:a≤100000000):
  Calls Tryz.prog 69 #[.slice A n c,.slice Ab l cb,.int .i64 (a:Int)] w fun e w'=>e=.returned (RdOut (readR F n g l a 17 0))∧Below w.heap.size w w':=by
 have h1:=rread_any w A n c (extF n F) hr (fun j hj=>by rw[extF_in F hj];exact h.le j hj) (by have:=h.top;omega) Ab l cb g hg hl a (by omega)
 rw[read_congr h.top (fun j hj=>extF_in F hj)]at h1
 exact h1
def nxtV(r:Tok×Bool×Nat×Int):Value:=.tuple #[.agg #[.int .u8 (r.1.x:Int),.int .i64 r.1.d,.int .i64 r.1.n],.bool r.2.1,.int .i64 (r.2.2.1:Int),.int .i64 r.2.2.2]
theorem nx_sto0{k:Blk13}{g:Nat→Nat}{L a:Nat}(h:k.kind=0)(h2:k.left=0):nextR k g L a=(tokZ,true,a,0):=by unfold nextR;rw[if_pos h];unfold nxtS;rw[if_pos h2]
theorem nx_stoE{k:Blk13}{g:Nat→Nat}{L a:Nat}(h:k.kind=0)(h2:¬k.left=0)(h3:8*L<a+8):nextR k g L a=(tokZ,false,0,10):=by unfold nextR;rw[if_pos h];unfold nxtS;rw[if_neg h2,if_pos h3]
theorem nx_stoB{k:Blk13}{g:Nat→Nat}{L a:Nat}(h:k.kind=0)(h2:¬k.left=0)(h3:¬8*L<a+8):nextR k g L a=(⟨numN g a 8,0,0⟩,false,a+8,0):=by unfold nextR;rw[if_pos h];unfold nxtS;rw[if_neg h2,if_neg h3]
theorem nx_code{k:Blk13}{g:Nat→Nat}{L a:Nat}(h:¬k.kind=0){r:Nat×Nat×Int}(hr:r=readR k.F k.n g L a 17 0):nextR k g L a=nxtA k r g L:=by unfold nextR;rw[if_neg h,hr]
theorem nxA_err{k:Blk13}{p q:Nat}{e:Int}{g:Nat→Nat}{L:Nat}(h:e≠0):nxtA k (p,q,e) g L=(tokZ,false,0,e):=by unfold nxtA;rw[if_pos h]
theorem nxA_lit{k:Blk13}{p q:Nat}{g:Nat→Nat}{L:Nat}(h:p<256):nxtA k (p,q,0) g L=(⟨p,0,0⟩,false,q,0):=by unfold nxtA;rw[if_neg (fun h=>h rfl),if_pos h]
theorem nxA_end{k:Blk13}{p q:Nat}{g:Nat→Nat}{L:Nat}(h:p=256):nxtA k (p,q,0) g L=(tokZ,true,q,0):=by unfold nxtA;rw[if_neg (fun h=>h rfl),if_neg (by show¬p<256;omega),if_pos h]
theorem nxA_cop{k:Blk13}{p q:Nat}{g:Nat→Nat}{L:Nat}(h:¬p<256)(h2:¬p=256){x:Int×Nat×Int}(hx:x=extR false p g L q):nxtA k (p,q,0) g L=nxtB k x g L:=by unfold nxtA;rw[if_neg (fun h=>h rfl),if_neg h,if_neg h2,hx]
theorem nxB_err{k:Blk13}{x e:Int}{q:Nat}{g:Nat→Nat}{L:Nat}(h:e≠0):nxtB k (x,q,e) g L=(tokZ,false,0,e):=by unfold nxtB;rw[if_pos h]
theorem nxB_ok{k:Blk13}{x:Int}{q:Nat}{g:Nat→Nat}{L:Nat}{r:Nat×Nat×Int}(hr:r=readR k.G k.m g L q 17 0):nxtB k (x,q,0) g L=nxtC x r g L:=by unfold nxtB;rw[if_neg (fun h=>h rfl),hr]
theorem nxC_err{n:Int}{p q:Nat}{e:Int}{g:Nat→Nat}{L:Nat}(h:e≠0):nxtC n (p,q,e) g L=(tokZ,false,0,e):=by unfold nxtC;rw[if_pos h]
theorem nxC_ok{n:Int}{p q:Nat}{g:Nat→Nat}{L:Nat}{y:Int×Nat×Int}(hy:y=extR true p g L q):nxtC n (p,q,0) g L=nxtD n y:=by unfold nxtC;rw[if_neg (fun h=>h rfl),hy]
theorem nxD_err{n y e:Int}{q:Nat}(h:e≠0):nxtD n (y,q,e)=(tokZ,false,0,e):=by unfold nxtD;rw[if_pos h]
theorem nxD_ok{n y:Int}{q:Nat}:nxtD n (y,q,0)=(⟨0,y,n⟩,false,q,0):=by unfold nxtD;rw[if_neg (fun h=>h rfl)]
theorem built_tok0:Tryz.prog.built 36 []=some #[.int .u8 0,.int .i64 0,.int .i64 0]:=by kernel_rfl
theorem built_tok1p(x:Nat):Tryz.prog.built 36 [(0,.int .u8 (x:Int))]=some #[.int .u8 (x:Int),.int .i64 0,.int .i64 0]:=by kernel_rfl
theorem built_tok2(d n:Int):Tryz.prog.built 36 [(1,.int .i64 d),(2,.int .i64 n)]=some #[.int .u8 0,.int .i64 d,.int .i64 n]:=by kernel_rfl
theorem cell_tok3{fn:Func}{p u v x:Tmp}(h:fn.results=#[.cell p 36,.tmp u,.tmp v,.tmp x])(tmps:Array Value)(w:World)(g:Nat)(cs:Array Value)(hs:cs.size=3)(hp:tmps.getD p undef=.pointer (some ⟨g,0,none⟩))(ht:w.heap[g]?=some (.cells cs 36 (0,0))):
  (results fn tmps).run Tryz.prog w=.ok (.tuple #[.agg cs,tmps.getD u undef,tmps.getD v undef,tmps.getD x undef]) w:=by
 have hp':tmps[p]?.getD undef=.pointer (some ⟨g,0,none⟩):=by simpa using hp
 have hl:=run_loadVar_row (P:=Tryz.prog) w g 36 36 cs (0,0) _ ht Tryz.underlying36 rfl (by rw[hs];exact szTok)
 simp[results,h,hp',asAddr,hl]
theorem oneTok(x:Nat)(d n:Int):(#[.int .u8 (x:Int),.int .i64 d,.int .i64 n]:Array Value).all (·.oneCell')=true:=by simp[Value.oneCell']
theorem below_rowU13{B:Nat}{a w:World}(h:Below B a w){g:Nat}(hp:B≤g)(cs:Array Value):Below B a (w.setRow g cs):=
 ⟨h.os,h.tape,h.output,by rw[size_setRow];exact h.size,fun k hk=>(setRow_other w g k cs (by omega)).trans (h.block k hk)⟩
theorem rnext13_sto(w:World)(k:Blk13)(A1:Option Addr)(c1:Nat)(A2:Option Addr)(c2:Nat)(hk:BlkIn k)(_r1:RdB w w.heap.size A1 k.n k.F)(_r2:RdB w w.heap.size A2 k.m k.G)(A:Option Addr)(l c:Nat)(g:Nat→Nat)(hg:RdB w w.heap.size A l g)(hl:l≤1000000)(a:Nat)(ha:a≤8*l)(h0:k.kind=0):
  Calls Tryz.prog 30 #[.agg (blkC k A1 c1 A2 c2),.slice A l c,.int .i64 (a:Int)] w fun e w'=>e=.returned (nxtV (nextR k g l a))∧Below w.heap.size w w':=by
 obtain⟨h,hh⟩:∃h,h=w.heap.size:=⟨_,rfl⟩
 obtain⟨X,hX⟩:∃X,X=blkC k A1 c1 A2 c2:=⟨_,rfl⟩
 rw[←hX]
 obtain⟨W1,hW1⟩:∃W1,W1=(w.alloc (.cells X 73)).alloc (.cells #[.int .u8 0,.int .i64 0,.int .i64 0] 36):=⟨_,rfl⟩
 have hb1:Below h w W1:=by rw[hW1,hh];exact((Below.refl _ _).alloc (Nat.le_refl _) _).alloc (by simp) _
 have x1:BoxC W1 h X 73:=by rw[hW1,hh];exact(BoxC.new w _ _).old _
 have t1:BoxC W1 (h+1) #[.int .u8 0,.int .i64 0,.int .i64 0] 36:=by rw[hW1,hh];have:=BoxC.new (w.alloc (.cells X 73)) #[.int .u8 0,.int .i64 0,.int .i64 0] 36;rwa[World.size_alloc]at this
 have q0:X[0]?=some (.int .u8 (k.kind:Int)):=by rw[hX];rfl
 have q2:X[2]?=some (.int .i64 (k.left:Int)):=by rw[hX];rfl
 have q3:X[3]?=some (.slice A1 k.n c1):=by rw[hX];rfl
 have q4:X[4]?=some (.slice A2 k.m c2):=by rw[hX];rfl
 have v0:W1.cell? ⟨h,0,none⟩=some (.int .u8 (k.kind:Int)):=x1.cell.trans q0
 have v2:W1.cell? ⟨h,2,none⟩=some (.int .i64 (k.left:Int)):=x1.cell.trans q2
 have z0:((k.kind:Int)==0)=true:=by simp[h0]
 have hLE:=hk.left
 obtain⟨LF,hLF⟩:∃x,x=k.left:=⟨_,rfl⟩
 obtain⟨KD,hKD⟩:∃x,x=k.kind:=⟨_,rfl⟩
 rw[←hKD]at v0 z0 h0
 rw[←hLF]at v2 hLE
 have HT1:=Lib.hid t1;have HB1:=Lib.hid hb1;have HH:=Lib.hid hh;have HW1:=Lib.hid hW1;have HG:=Lib.hid hg
 have HT:Hid (∀V,Below h w V→Calls Tryz.prog 57 #[.slice A l c,.int .i64 (a:Int),.int .i64 ((8:Nat):Int)] V fun e w'=>e=.returned (.tuple #[.int .u32 (takeV g l (a:Int) ((8:Nat):Int):Nat),.int .i64 (takeE l (a:Int) ((8:Nat):Int))])∧V=w'):=Lib.hid fun V hV=>rtake_any V V.heap.size A l c g (a:Int) ((8:Nat):Int) ((hg.below (by rw[←hh];exact hV) (Nat.le_refl _)).more hV.size) (by omega) (by omega)
 obtain⟨tk1,tk2⟩:=take13 (g:=g) (l:=l) (a:=a) (n:=8) (by omega)
 rw[tk1]at HT
 clear x1 t1 hb1 hW1 q0 q2 q3 q4 hX hg tk1 hk
 by_cases y0:LF=0
 ·have hres:=nx_sto0 (g:=g) (L:=l) (a:=a) (hKD▸h0) (hLF▸y0)
  rw[hres]
  have z1:((LF:Int)==0)=true:=by simp[y0]
  clear hres y0 hLF hKD h0 hh tk2
  go_enter Tryz.func30,Tryz.ntmps30
  go_wp2_with (first
   |(rw[←HW1.out,←HH.out])
   |(refine wpList_buildTo rfl 36 #[] rfl (some 23) rfl #[.int .u8 0,.int .i64 0,.int .i64 0] ?_ ?_;focus(simpa[Act.eval]using built_tok0))
   |(refine wpList_store_rowTo rfl _ _ _ rfl rfl (h+1) #[.int .u8 0,.int .i64 0,.int .i64 0] rfl rfl 36 #[.int .u8 0,.int .i64 0,.int .i64 0] HT1.out szTok rfl (oneTok _ _ _) ?_)
   |fail)
  refine bodyPost_ret ((cell_tok3 rfl _ _ (h+1) _ rfl rfl (setRow_heap _ _ _ _ _ _ HT1.out)).trans rfl) rfl ⟨rfl,?_⟩
  rw[←HH.out]
  exact below_rowU13 HB1.out (by omega) _
 have z1:((LF:Int)==0)=false:=by simp;omega
 by_cases y1:8*l<a+8
 ·have hres:=nx_stoE (g:=g) (L:=l) (a:=a) (hKD▸h0) (hLF▸y0) y1
  rw[hres]
  rw[if_pos y1]at HT
  obtain⟨TV,hTV⟩:∃v,v=takeV g l (a:Int) ((8:Nat):Int):=⟨_,rfl⟩
  rw[←hTV]at HT
  clear hres y0 hLF hKD h0 hh tk2 hTV
  go_enter Tryz.func30,Tryz.ntmps30
  go_wp2_with (first|(rw[←HW1.out,←HH.out])|fail)
  refine(HT.out W1 HB1.out).mono ?_
  rintro e w2 ⟨rfl,rfl⟩
  go_wp2_with (first
   |(rw[←HW1.out,←HH.out])
   |(refine wpList_buildTo rfl 36 #[] rfl (some 33) rfl #[.int .u8 0,.int .i64 0,.int .i64 0] ?_ ?_;focus(simpa[Act.eval]using built_tok0))
   |(refine wpList_store_rowTo rfl _ _ _ rfl rfl (h+1) #[.int .u8 0,.int .i64 0,.int .i64 0] rfl rfl 36 #[.int .u8 0,.int .i64 0,.int .i64 0] HT1.out szTok rfl (oneTok _ _ _) ?_)
   |fail)
  refine bodyPost_ret ((cell_tok3 rfl _ _ (h+1) _ rfl rfl (setRow_heap _ _ _ _ _ _ HT1.out)).trans rfl) rfl ⟨rfl,?_⟩
  rw[←HH.out]
  exact below_rowU13 HB1.out (by omega) _
 ·have hres:=nx_stoB (g:=g) (L:=l) (a:=a) (hKD▸h0) (hLF▸y0) y1
  rw[hres]
  rw[if_neg y1,tk2 y1]at HT
  have hx8:numN g a 8<256:=numN_lt g a 8
  obtain⟨TV,hTV⟩:∃v,v=numN g a 8:=⟨_,rfl⟩
  rw[←hTV]at HT hx8⊢
  clear hres y0 hLF hKD h0 hh tk2 hTV
  go_enter Tryz.func30,Tryz.ntmps30
  go_wp2_with (first|(rw[←HW1.out,←HH.out])|fail)
  refine(HT.out W1 HB1.out).mono ?_
  rintro e w2 ⟨rfl,rfl⟩
  go_wp2_with (first
   |(rw[←HW1.out,←HH.out])
   |(refine wpList_buildTo rfl 36 #[(0,.tmp 36)] rfl (some 37) rfl #[.int .u8 (TV:Int),.int .i64 0,.int .i64 0] ?_ ?_;focus(simpa[Act.eval]using built_tok1p TV))
   |(refine wpList_store_rowTo rfl _ _ _ rfl rfl (h+1) #[.int .u8 (TV:Int),.int .i64 0,.int .i64 0] rfl rfl 36 #[.int .u8 0,.int .i64 0,.int .i64 0] HT1.out szTok rfl (oneTok _ _ _) ?_)
   |fail)
  refine bodyPost_ret ((cell_tok3 rfl _ _ (h+1) _ rfl rfl (setRow_heap _ _ _ _ _ _ HT1.out)).trans rfl) rfl ⟨rfl,?_⟩
  rw[←HH.out]
  exact below_rowU13 HB1.out (by omega) _
theorem rnext13_cod(w:World)(k:Blk13)(A1:Option Addr)(c1:Nat)(A2:Option Addr)(c2:Nat)(hk:BlkIn k)(r1:RdB w w.heap.size A1 k.n k.F)(r2:RdB w w.heap.size A2 k.m k.G)(A:Option Addr)(l c:Nat)(g:Nat→Nat)(hg:RdB w w.heap.size A l g)(hl:l≤1000000)(a:Nat)(ha:a≤8*l)(h0:¬k.kind=0):
  Calls Tryz.prog 30 #[.agg (blkC k A1 c1 A2 c2),.slice A l c,.int .i64 (a:Int)] w fun e w'=>e=.returned (nxtV (nextR k g l a))∧Below w.heap.size w w':=by
 obtain⟨h,hh⟩:∃h,h=w.heap.size:=⟨_,rfl⟩
 obtain⟨X,hX⟩:∃X,X=blkC k A1 c1 A2 c2:=⟨_,rfl⟩
 rw[←hX]
 obtain⟨W1,hW1⟩:∃W1,W1=(w.alloc (.cells X 73)).alloc (.cells #[.int .u8 0,.int .i64 0,.int .i64 0] 36):=⟨_,rfl⟩
 have hb1:Below h w W1:=by rw[hW1,hh];exact((Below.refl _ _).alloc (Nat.le_refl _) _).alloc (by simp) _
 have x1:BoxC W1 h X 73:=by rw[hW1,hh];exact(BoxC.new w _ _).old _
 have t1:BoxC W1 (h+1) #[.int .u8 0,.int .i64 0,.int .i64 0] 36:=by rw[hW1,hh];have:=BoxC.new (w.alloc (.cells X 73)) #[.int .u8 0,.int .i64 0,.int .i64 0] 36;rwa[World.size_alloc]at this
 have q0:X[0]?=some (.int .u8 (k.kind:Int)):=by rw[hX];rfl
 have q2:X[2]?=some (.int .i64 (k.left:Int)):=by rw[hX];rfl
 have q3:X[3]?=some (.slice A1 k.n c1):=by rw[hX];rfl
 have q4:X[4]?=some (.slice A2 k.m c2):=by rw[hX];rfl
 have v0:W1.cell? ⟨h,0,none⟩=some (.int .u8 (k.kind:Int)):=x1.cell.trans q0
 have v3:W1.cell? ⟨h,3,none⟩=some (.slice A1 k.n c1):=x1.cell.trans q3
 have z0:((k.kind:Int)==0)=false:=by simp;omega
 have oF:=hk.F h0
 have oG:=hk.G h0
 obtain⟨P,hP⟩:∃P,P=readR k.F k.n g l a 17 0:=⟨_,rfl⟩
 obtain⟨R,hR⟩:∃R,R=nextR k g l a:=⟨_,rfl⟩
 rw[←hR]
 rw[nx_code h0 hP]at hR
 have HR0:=Lib.hid hR
 have hin:=read_in (F:=k.F) (N:=k.n) (g:=g) (L:=l) ha
 rw[←hP]at hin
 have HP:=Lib.hid hP
 have HRD:Hid (∀V,Below h w V→RdB V V.heap.size A l g):=Lib.hid fun V hV=>(hg.below (by rw[←hh];exact hV) (Nat.le_refl _)).more hV.size
 have HR1:Hid (∀V,Below h w V→RdB V V.heap.size A1 k.n k.F):=Lib.hid fun V hV=>(r1.below (by rw[←hh];exact hV) (Nat.le_refl _)).more hV.size
 have HR2:Hid (∀V,Below h w V→RdB V V.heap.size A2 k.m k.G):=Lib.hid fun V hV=>(r2.below (by rw[←hh];exact hV) (Nat.le_refl _)).more hV.size
 have HTOK:Hid (BoxC W1 (h+1) #[.int .u8 0,.int .i64 0,.int .i64 0] 36):=Lib.hid t1
 have HXB:Hid (BoxC W1 h X 73):=Lib.hid x1
 have HQ4:=Lib.hid q4
 have HB1:=Lib.hid hb1;have HH:=Lib.hid hh;have HW1:=Lib.hid hW1;have HOF:=Lib.hid oF;have HOG:=Lib.hid oG;have HIN:=Lib.hid hin
 obtain⟨n,hn⟩:∃x,x=k.n:=⟨_,rfl⟩
 have HN:=Lib.hid hn
 rw[←hn]at v3
 obtain⟨KD,hKD⟩:∃x,x=k.kind:=⟨_,rfl⟩
 rw[←hKD]at v0 z0
 have hM1:Hid (∀V,Below h w V→Calls Tryz.prog 70 #[.slice A1 n c1] V fun e w'=>e=.returned (.slice (some ⟨V.heap.size,0,none⟩) n n)∧Below V.heap.size V w'∧RdC w' w'.heap.size (some ⟨V.heap.size,0,none⟩) n (codeB (extF n k.F) n) (extF n k.F)):=Lib.hid fun V hV=>by rw[HN.out];exact made13 V A1 k.n c1 k.F (HR1.out V hV) oF
 clear x1 t1 hb1 hW1 q0 q2 q3 q4 hX hg r1 r2 hk hP hh hn hKD h0 oF oG hin hR
 obtain⟨p1,p2,p3⟩:=P
 have hsz1:h+2≤W1.heap.size:=HTOK.out.lt
 have HSZ:=Lib.hid hsz1
 clear hsz1
 go_enter Tryz.func30,Tryz.ntmps30
 go_wp2_with (first|(rw[←HW1.out,←HH.out])|fail)
 refine(hM1.out W1 HB1.out).mono ?_
 rintro e w2 ⟨rfl,hb2,hrow2⟩
 have hbA:=HB1.out.trans (hb2.mono (by have:=HSZ.out;omega))
 have HB2:=Lib.hid hbA
 have HT2:=Lib.hid (HTOK.out.below hb2 (by have:=HSZ.out;omega))
 have HX2:=Lib.hid (HXB.out.below hb2 (by have:=HSZ.out;omega))
 have HSZ2:Hid (h+2≤w2.heap.size):=Lib.hid (Nat.le_trans HSZ.out hb2.size)
 have HRR:Hid (Calls Tryz.prog 69 #[.slice (some ⟨W1.heap.size,0,none⟩) n n,.slice A l c,.int .i64 (a:Int)] w2 fun e w'=>e=.returned (RdOut (p1,p2,p3))∧Below w2.heap.size w2 w'):=Lib.hid (by
  have h1:=read13 w2 (some ⟨W1.heap.size,0,none⟩) n n k.F hrow2 (by rw[HN.out];exact HOF.out) A l c g (HRD.out w2 hbA) hl a (by omega)
  rw[HN.out,←HP.out]at h1
  rw[HN.out];exact h1)
 clear hb2 hrow2 hbA
 go_wp2_with fail
 refine HRR.out.mono ?_
 rintro e w3 ⟨rfl,hb3⟩
 have hbA:=HB2.out.trans (hb3.mono (by have:=HSZ2.out;omega))
 have HB3:=Lib.hid hbA
 have HT3:=Lib.hid (HT2.out.below hb3 (by have:=HSZ2.out;omega))
 have hx3:=HX2.out.below hb3 (by have:=HSZ2.out;omega)
 have HX3:=Lib.hid hx3
 have HSZ3:Hid (h+2≤w3.heap.size):=Lib.hid (Nat.le_trans HSZ2.out hb3.size)
 clear hb3 hbA hx3
 simp only[RdOut]
 by_cases y0:p3=0
 case neg=>
  have z1:(p3 !=0)=true:=by simpa using y0
  have HE:=Lib.hid y0
  clear y0
  go_wp2_with (first
   |(rw[←HW1.out,←HH.out])
   |(refine wpList_buildTo rfl 36 #[] rfl (some 52) rfl #[.int .u8 0,.int .i64 0,.int .i64 0] ?_ ?_;focus(simpa[Act.eval]using built_tok0))
   |(refine wpList_store_rowTo rfl _ _ _ rfl rfl (h+1) #[.int .u8 0,.int .i64 0,.int .i64 0] rfl rfl 36 #[.int .u8 0,.int .i64 0,.int .i64 0] HT3.out szTok rfl (oneTok _ _ _) ?_)
   |fail)
  refine bodyPost_ret ((cell_tok3 rfl _ _ (h+1) _ rfl rfl (setRow_heap _ _ _ _ _ _ HT3.out)).trans rfl) rfl ⟨by rw[HR0.out,nxA_err HE.out];rfl,?_⟩
  rw[←HH.out]
  exact below_rowU13 HB3.out (by omega) _
 subst y0
 have z1:((0:Int) !=0)=false:=rfl
 have hin2:=HIN.out rfl
 have hp1:p1<320:=Nat.lt_of_lt_of_le hin2.2.2 HOF.out.top
 have hp2:p2≤8*l:=hin2.2.1
 clear hin2
 by_cases y1:p1<256
 ·have d1:decide ((p1:Int)<256)=true:=decY (by omega)
  have HE:=Lib.hid y1
  go_wp2_with (first
   |(rw[←HW1.out,←HH.out])
   |(refine wpList_buildTo rfl 36 #[(0,.tmp 57)] rfl (some 58) rfl #[.int .u8 (p1:Int),.int .i64 0,.int .i64 0] ?_ ?_;focus(simpa[Act.eval]using built_tok1p p1))
   |(refine wpList_store_rowTo rfl _ _ _ rfl rfl (h+1) #[.int .u8 (p1:Int),.int .i64 0,.int .i64 0] rfl rfl 36 #[.int .u8 0,.int .i64 0,.int .i64 0] HT3.out szTok rfl (oneTok _ _ _) ?_)
   |fail)
  refine bodyPost_ret ((cell_tok3 rfl _ _ (h+1) _ rfl rfl (setRow_heap _ _ _ _ _ _ HT3.out)).trans rfl) rfl ⟨by rw[HR0.out,nxA_lit HE.out];rfl,?_⟩
  rw[←HH.out]
  exact below_rowU13 HB3.out (by omega) _
 have d1:decide ((p1:Int)<256)=false:=decN (by omega)
 by_cases y2:p1=256
 ·have z2:((p1:Int)==256)=true:=by simp;omega
  have HE:=Lib.hid y2
  clear y2
  go_wp2_with (first
   |(rw[←HW1.out,←HH.out])
   |(refine wpList_buildTo rfl 36 #[] rfl (some 62) rfl #[.int .u8 0,.int .i64 0,.int .i64 0] ?_ ?_;focus(simpa[Act.eval]using built_tok0))
   |(refine wpList_store_rowTo rfl _ _ _ rfl rfl (h+1) #[.int .u8 0,.int .i64 0,.int .i64 0] rfl rfl 36 #[.int .u8 0,.int .i64 0,.int .i64 0] HT3.out szTok rfl (oneTok _ _ _) ?_)
   |fail)
  refine bodyPost_ret ((cell_tok3 rfl _ _ (h+1) _ rfl rfl (setRow_heap _ _ _ _ _ _ HT3.out)).trans rfl) rfl ⟨by rw[HR0.out,nxA_end HE.out];rfl,?_⟩
  rw[←HH.out]
  exact below_rowU13 HB3.out (by omega) _
 have z2:((p1:Int)==256)=false:=by simp;omega
 obtain⟨XX,hXX⟩:∃x,x=extR false p1 g l p2:=⟨_,rfl⟩
 have HR1':=Lib.hid (HR0.out.trans (nxA_cop y1 y2 hXX))
 have hxf:=ext_fwd (far:=false) (s:=p1) (g:=g) (L:=l) (a:=p2)
 rw[←hXX]at hxf
 have HXF:=Lib.hid hxf
 have HEX:=Lib.hid (rext13_any w3 false p1 A l c g (HRD.out w3 HB3.out) hl p2 (by omega))
 rw[←hXX]at HEX
 obtain⟨x1,x2,x3⟩:=XX
 clear hXX hxf y1 y2
 simp only at HEX
 go_wp2_with fail
 refine HEX.out.mono ?_
 rintro e w4 ⟨rfl,hb4⟩
 have hbA:=HB3.out.trans (hb4.mono (by have:=HSZ3.out;omega))
 have HB4:=Lib.hid hbA
 have HT4:=Lib.hid (HT3.out.below hb4 (by have:=HSZ3.out;omega))
 have hx4:=HX3.out.below hb4 (by have:=HSZ3.out;omega)
 have HX4:=Lib.hid hx4
 have HSZ4:Hid (h+2≤w4.heap.size):=Lib.hid (Nat.le_trans HSZ3.out hb4.size)
 clear hb4 hbA hx4
 by_cases y3:x3=0
 case neg=>
  have z3:(x3 !=0)=true:=by simpa using y3
  have HE:=Lib.hid y3
  clear y3
  go_wp2_with (first
   |(rw[←HW1.out,←HH.out])
   |(refine wpList_buildTo rfl 36 #[] rfl (some 74) rfl #[.int .u8 0,.int .i64 0,.int .i64 0] ?_ ?_;focus(simpa[Act.eval]using built_tok0))
   |(refine wpList_store_rowTo rfl _ _ _ rfl rfl (h+1) #[.int .u8 0,.int .i64 0,.int .i64 0] rfl rfl 36 #[.int .u8 0,.int .i64 0,.int .i64 0] HT4.out szTok rfl (oneTok _ _ _) ?_)
   |fail)
  refine bodyPost_ret ((cell_tok3 rfl _ _ (h+1) _ rfl rfl (setRow_heap _ _ _ _ _ _ HT4.out)).trans rfl) rfl ⟨by rw[HR1'.out,nxB_err HE.out];rfl,?_⟩
  rw[←HH.out]
  exact below_rowU13 HB4.out (by omega) _
 subst y3
 have z3:((0:Int) !=0)=false:=rfl
 have hx2:x2≤8*l:=(HXF.out rfl).2
 obtain⟨Q,hQ⟩:∃P,P=readR k.G k.m g l x2 17 0:=⟨_,rfl⟩
 have HR2':=Lib.hid (HR1'.out.trans (nxB_ok hQ))
 have hqin:=read_in (F:=k.G) (N:=k.m) (g:=g) (L:=l) hx2
 rw[←hQ]at hqin
 have HQ:=Lib.hid hQ;have HQI:=Lib.hid hqin
 clear hQ hqin
 obtain⟨q1,q2,q3⟩:=Q
 obtain⟨m,hm⟩:∃x,x=k.m:=⟨_,rfl⟩
 have HM:=Lib.hid hm
 have v4:w4.cell? ⟨h,4,none⟩=some (.slice A2 m c2):=by rw[HM.out];exact HX4.out.cell.trans HQ4.out
 have hM2:Hid (Calls Tryz.prog 70 #[.slice A2 m c2] w4 fun e w'=>e=.returned (.slice (some ⟨w4.heap.size,0,none⟩) m m)∧Below w4.heap.size w4 w'∧RdC w' w'.heap.size (some ⟨w4.heap.size,0,none⟩) m (codeB (extF m k.G) m) (extF m k.G)):=Lib.hid (by rw[HM.out];exact made13 w4 A2 k.m c2 k.G (HR2.out w4 HB4.out) HOG.out)
 clear hm
 go_wp2_with fail
 refine hM2.out.mono ?_
 rintro e w5 ⟨rfl,hb5,hrow5⟩
 have hbA:=HB4.out.trans (hb5.mono (by have:=HSZ4.out;omega))
 have HB5:=Lib.hid hbA
 have HT5:=Lib.hid (HT4.out.below hb5 (by have:=HSZ4.out;omega))
 have HSZ5:Hid (h+2≤w5.heap.size):=Lib.hid (Nat.le_trans HSZ4.out hb5.size)
 have HRR2:Hid (Calls Tryz.prog 69 #[.slice (some ⟨w4.heap.size,0,none⟩) m m,.slice A l c,.int .i64 (x2:Int)] w5 fun e w'=>e=.returned (RdOut (q1,q2,q3))∧Below w5.heap.size w5 w'):=Lib.hid (by
  have h1:=read13 w5 (some ⟨w4.heap.size,0,none⟩) m m k.G hrow5 (by rw[HM.out];exact HOG.out) A l c g (HRD.out w5 hbA) hl x2 (by omega)
  rw[HM.out,←HQ.out]at h1
  rw[HM.out];exact h1)
 clear hb5 hrow5 hbA
 go_wp2_with fail
 refine HRR2.out.mono ?_
 rintro e w6 ⟨rfl,hb6⟩
 have hbA:=HB5.out.trans (hb6.mono (by have:=HSZ5.out;omega))
 have HB6:=Lib.hid hbA
 have HT6:=Lib.hid (HT5.out.below hb6 (by have:=HSZ5.out;omega))
 have HSZ6:Hid (h+2≤w6.heap.size):=Lib.hid (Nat.le_trans HSZ5.out hb6.size)
 clear hb6 hbA
 simp only[RdOut]
 by_cases y4:q3=0
 case neg=>
  have z4:(q3 !=0)=true:=by simpa using y4
  have HE:=Lib.hid y4
  clear y4
  go_wp2_with (first
   |(rw[←HW1.out,←HH.out])
   |(refine wpList_buildTo rfl 36 #[] rfl (some 88) rfl #[.int .u8 0,.int .i64 0,.int .i64 0] ?_ ?_;focus(simpa[Act.eval]using built_tok0))
   |(refine wpList_store_rowTo rfl _ _ _ rfl rfl (h+1) #[.int .u8 0,.int .i64 0,.int .i64 0] rfl rfl 36 #[.int .u8 0,.int .i64 0,.int .i64 0] HT6.out szTok rfl (oneTok _ _ _) ?_)
   |fail)
  refine bodyPost_ret ((cell_tok3 rfl _ _ (h+1) _ rfl rfl (setRow_heap _ _ _ _ _ _ HT6.out)).trans rfl) rfl ⟨by rw[HR2'.out,nxC_err HE.out];rfl,?_⟩
  rw[←HH.out]
  exact below_rowU13 HB6.out (by omega) _
 subst y4
 have hq2:q2≤8*l:=(HQI.out rfl).2.1
 obtain⟨YY,hYY⟩:∃x,x=extR true q1 g l q2:=⟨_,rfl⟩
 have HR3':=Lib.hid (HR2'.out.trans (nxC_ok hYY))
 have HEY:=Lib.hid (rext13_any w6 true q1 A l c g (HRD.out w6 HB6.out) hl q2 (by omega))
 rw[←hYY]at HEY
 obtain⟨y1,y2,y3⟩:=YY
 clear hYY
 simp only at HEY
 go_wp2_with fail
 refine HEY.out.mono ?_
 rintro e w7 ⟨rfl,hb7⟩
 have hbA:=HB6.out.trans (hb7.mono (by have:=HSZ6.out;omega))
 have HB7:=Lib.hid hbA
 have HT7:=Lib.hid (HT6.out.below hb7 (by have:=HSZ6.out;omega))
 clear hb7 hbA
 by_cases y5:y3=0
 case neg=>
  have z5:(y3 !=0)=true:=by simpa using y5
  have HE:=Lib.hid y5
  clear y5
  go_wp2_with (first
   |(rw[←HW1.out,←HH.out])
   |(refine wpList_buildTo rfl 36 #[] rfl (some 100) rfl #[.int .u8 0,.int .i64 0,.int .i64 0] ?_ ?_;focus(simpa[Act.eval]using built_tok0))
   |(refine wpList_store_rowTo rfl _ _ _ rfl rfl (h+1) #[.int .u8 0,.int .i64 0,.int .i64 0] rfl rfl 36 #[.int .u8 0,.int .i64 0,.int .i64 0] HT7.out szTok rfl (oneTok _ _ _) ?_)
   |fail)
  refine bodyPost_ret ((cell_tok3 rfl _ _ (h+1) _ rfl rfl (setRow_heap _ _ _ _ _ _ HT7.out)).trans rfl) rfl ⟨by rw[HR3'.out,nxD_err HE.out];rfl,?_⟩
  rw[←HH.out]
  exact below_rowU13 HB7.out (by omega) _
 subst y5
 go_wp2_with (first
  |(rw[←HW1.out,←HH.out])
  |(refine wpList_buildTo rfl 36 #[(1,.tmp 102),(2,.tmp 103)] rfl (some 104) rfl #[.int .u8 0,.int .i64 y1,.int .i64 x1] ?_ ?_;focus(simpa[Act.eval]using built_tok2 y1 x1))
  |(refine wpList_store_rowTo rfl _ _ _ rfl rfl (h+1) #[.int .u8 0,.int .i64 y1,.int .i64 x1] rfl rfl 36 #[.int .u8 0,.int .i64 0,.int .i64 0] HT7.out szTok rfl (oneTok _ _ _) ?_)
  |fail)
 refine bodyPost_ret ((cell_tok3 rfl _ _ (h+1) _ rfl rfl (setRow_heap _ _ _ _ _ _ HT7.out)).trans rfl) rfl ⟨by rw[HR3'.out,nxD_ok];rfl,?_⟩
 rw[←HH.out]
 exact below_rowU13 HB7.out (by omega) _
theorem rnext13_any(w:World)(k:Blk13)(A1:Option Addr)(c1:Nat)(A2:Option Addr)(c2:Nat)(hk:BlkIn k)(r1:RdB w w.heap.size A1 k.n k.F)(r2:RdB w w.heap.size A2 k.m k.G)(A:Option Addr)(l c:Nat)(g:Nat→Nat)(hg:RdB w w.heap.size A l g)(hl:l≤1000000)(a:Nat)(ha:a≤8*l):
  Calls Tryz.prog 30 #[.agg (blkC k A1 c1 A2 c2),.slice A l c,.int .i64 (a:Int)] w fun e w'=>e=.returned (nxtV (nextR k g l a))∧Below w.heap.size w w':=by
 by_cases h0:k.kind=0
 ·exact rnext13_sto w k A1 c1 A2 c2 hk r1 r2 A l c g hg hl a ha h0
 ·exact rnext13_cod w k A1 c1 A2 c2 hk r1 r2 A l c g hg hl a ha h0
end Go.Proofs.YtgokdgcmkcmjeaaGreat
namespace Go.Proofs.YtgokdgcmkcmjeaaGreat
open Go.RowKit
theorem rwhole13_any(w:World)(B:Nat)(A:Option Addr)(n c:Nat)(f:Nat→Nat)(hr:RdB w B A n f)(hn:n≤1000000):
  Calls Tryz.prog 144 #[.slice A n c] w fun e w'=>e=.returned (.bool (decide (allN f n=32768)))∧w=w':=by
 have HP:=Lib.hid (parts_any w B A n c f hr hn)
 obtain⟨x,hx⟩:∃x,x=allN f n:=⟨_,rfl⟩
 obtain⟨y,hy⟩:∃y,y=usedN f n:=⟨_,rfl⟩
 rw[←hx,←hy]at HP
 rw[←hx]
 clear hx hy hr
 have hd:((x:Int)==32768)=decide (x=32768):=by
  by_cases h:x=32768
  ·subst h;rfl
  ·rw[decide_eq_false h];simp;omega
 go_enter Tryz.func144,Tryz.ntmps144
 go_wp2_with fail
 refine HP.out.mono ?_
 rintro e w1 ⟨rfl,rfl⟩
 go_wp2
 go_ret
 exact⟨rfl,rfl⟩
def ShoOut(base:Nat)(g:Nat→Nat)(l a n:Nat)(e:Ending)(w':World):Prop:=
 if 8*l<a+3*n then e=.returned (.tuple #[.slice none 0 0,.int .i64 0,.int .i64 10])else
 if checkE (shR g a n) 19 7≠0∨allN (shR g a n) 19≠32768 then e=.returned (.tuple #[.slice none 0 0,.int .i64 0,.int .i64 132])else
 ∃b,base≤b∧e=.returned (.tuple #[.slice (some ⟨b,0,none⟩) 19 19,.int .i64 ((a+3*n:Nat):Int),.int .i64 0])∧RowW w' b 19 (shR g a n)
theorem shR_lt(g:Nat→Nat)(a:Nat):∀n j,shR g a n j<256
 |0,_=>by show 0<256;omega
 |n+1,j=>by
  simp only[shR,upd]
  split
  ·have:=numN_lt g (a+3*n) 3;omega
  ·exact shR_lt g a n j
theorem tbl_at{w:World}{b:Nat}{T:Nat→Int}{N:Nat}{t:TypeId}(h:w.heap[b]?=some (.cells (tblA T N) t (0,0))){i:Nat}(hi:i<N):w.cell? ⟨b,i,none⟩=some (.int .i64 (T i)):=tbl_cell h hi
theorem rshort13_any(w:World)(A:Option Addr)(l c:Nat)(g:Nat→Nat)(hg:RdB w w.heap.size A l g)(hl:l≤1000000)(a n:Nat)(ha:a≤8*l)(hn:n≤19):
  Calls Tryz.prog 99 #[.slice A l c,.int .i64 (a:Int),.int .i64 (n:Int)] w fun e w'=>ShoOut w.heap.size g l a n e w'∧Below w.heap.size w w':=by
 obtain⟨h,hh⟩:∃h,h=w.heap.size:=⟨_,rfl⟩
 obtain⟨W1,hW1⟩:∃W,W=w.alloc (.cells (madeCells #[.int .u8 0] 19) 5):=⟨_,rfl⟩
 have hb1:Below h w W1:=by rw[hW1,hh];exact(Below.refl _ _).alloc (Nat.le_refl _) _
 have hr1:RowW W1 h 19 (shR g a 0):=by rw[hW1,hh];exact rowU_made w 19
 have hmk:∀u:World,(Instr.makeSlice 22 (.int .i64 19) (.int .i64 19)).run Tryz.prog u=.ok (.slice (some ⟨u.heap.size,0,none⟩) 19 19) (u.alloc (.cells (madeCells #[.int .u8 0] 19) 5)):=made_u8 19 (by omega)
 have hz:=(zero_of_info infoOrd).1
 obtain⟨T,hT⟩:∃T:Nat→Int,T=fun i=>(ordN i:Int):=⟨_,rfl⟩
 obtain⟨Z,hZ⟩:∃Z:Nat→Int,Z=fun _=>0:=⟨_,rfl⟩
 have hord:=fun u=>rorder11_any u
 rw[←hT]at hord
 rw[←hZ]at hz
 have HTK:Hid (∀(V:World) (k:Nat),Below h w V→k≤19→Calls Tryz.prog 57 #[.slice A l c,.int .i64 ((a:Int)+3*(k:Int)),.int .i64 3] V fun e w'=>e=.returned (.tuple #[.int .u32 (takeV g l ((a+3*k:Nat):Int) ((3:Nat):Int):Nat),.int .i64 (takeE l ((a+3*k:Nat):Int) ((3:Nat):Int))])∧V=w'):=Lib.hid fun V k hV hk=>by
  have h1:=rtake_any V V.heap.size A l c g ((a+3*k:Nat):Int) ((3:Nat):Int) ((hg.below (by rw[←hh];exact hV) (Nat.le_refl _)).more hV.size) (by omega) (by omega)
  rw[show((a:Int)+3*(k:Int))=((a+3*k:Nat):Int) by omega]
  exact h1
 have HH:=Lib.hid hh;have HW1:=Lib.hid hW1;have HB1:=Lib.hid hb1;have HR1:=Lib.hid hr1;have HORD:=Lib.hid hord;have HT:=Lib.hid hT;have HZ:=Lib.hid hz
 have hlt1:Hid (h<W1.heap.size):=Lib.hid hr1.lt
 rw[←hh]
 clear hh hW1 hb1 hr1 hord hT hZ hg hz
 have hz:=HZ.out
 go_enter Tryz.func99,Tryz.ntmps99
 go_wp2_with (first|(rw[←HW1.out,←HH.out])|fail)
 refine(HORD.out W1).mono ?_
 rintro e w2 ⟨rfl,hb2⟩
 obtain⟨b2,hb2'⟩:∃b,b=w2.heap.size:=⟨_,rfl⟩
 obtain⟨W3,hW3⟩:∃W,W=mkV w2 (tblA Z 19) (tblA T 19) 213:=⟨_,rfl⟩
 have hord3:W3.heap[b2]?=some (.cells (tblA T 19) 213 (0,0)):=by rw[hW3,hb2'];exact mkV_row _ _ _ _
 have hb3:Below w2.heap.size w2 W3:=by rw[hW3];exact mkV_below _ _ _ _
 have hb13:Below W1.heap.size W1 W3:=hb2.trans (hb3.mono hb2.size)
 have hrow3:RowW W3 h 19 (shR g a 0):=HR1.out.below hb13 hlt1.out
 have hbel3:Below h w W3:=HB1.out.trans (hb13.mono (Nat.le_of_lt hlt1.out))
 have hne:h<b2:=by rw[hb2'];exact Nat.lt_of_lt_of_le hlt1.out hb2.size
 have HW3:=Lib.hid hW3;have HO3:=Lib.hid hord3;have HR3:=Lib.hid hrow3;have HB3:=Lib.hid hbel3;have HBB:=Lib.hid hb2'
 clear hW3 hord3 hrow3 hbel3 hb3 hb13 hb2 hb2' hmk
 go_wp2_with (first
  |(refine wpList_store_rowTo rfl _ _ _ rfl rfl w2.heap.size (tblA T 19) rfl rfl 213 (tblA Z 19) (heap_alloc_new w2 _) (szO19 _) (by rw[tblA_size,tblA_size]) (tblA_one _ _) ?_;change wpList _ _ _ _ _ (mkV w2 (tblA Z 19) (tblA T 19) 213);rw[←HW3.out,←HBB.out])
  |fail)
 clear hz
 go_loopw [11] (fun iv wr=>∃k:Nat,k≤n∧iv=.int .i64 (k:Int)∧Hid (RowW wr h 19 (shR g a k))∧Hid (wr.heap[b2]?=some (.cells (tblA T 19) 213 (0,0)))∧Hid (Below h w wr)∧a+3*k≤8*l) (fun iv _=>n-(intOf iv).toNat)
 case atStart=>exact⟨0,Nat.zero_le _,rfl,HR3,HO3,HB3,by omega⟩
 case round=>
  obtain⟨k,hk,rfl,HR,HO,HB,hal⟩:=hrel
  by_cases hlt:k<n
  ·have hlti:(k:Int)<(n:Int):=by omega
   obtain⟨t1,t2⟩:=take13 (g:=g) (l:=l) (a:=a+3*k) (n:=3) (by omega)
   have htk:=HTK.out wr k HB.out (by omega)
   rw[t1]at htk
   by_cases hend:8*l<a+3*k+3
   ·rw[if_pos hend]at htk
    obtain⟨TV,hTV⟩:∃v,v=takeV g l ((a+3*k:Nat):Int) ((3:Nat):Int):=⟨_,rfl⟩
    rw[←hTV]at htk
    have HT1:=Lib.hid htk
    have hout:8*l<a+3*n:=by omega
    clear htk t1 t2 hTV hend
    go_wp2_with fail
    refine HT1.out.mono ?_
    rintro e w9 ⟨rfl,rfl⟩
    go_wp2
    refine bodyPost_ret (results_tmp3 rfl _ _ _) rfl ?_
    exact⟨by unfold ShoOut;rw[if_pos hout];rfl,HB.out⟩
   ·rw[if_neg hend,t2 hend]at htk
    have hv3:numN g (a+3*k) 3<8:=numN_lt g (a+3*k) 3
    obtain⟨v,hv⟩:∃v,v=numN g (a+3*k) 3:=⟨_,rfl⟩
    have hset:=HR.out.set (ordN k) v
    have ho19:=ord_lt k
    have hcell:=tbl_at HO.out (i:=k) (by omega)
    obtain⟨o,hO⟩:∃o,o=ordN k:=⟨_,rfl⟩
    rw[HT.out]at hcell
    simp only[]at hcell
    rw[←hO]at hset ho19 hcell
    rw[←hv]at htk hv3
    have hfz:=HR.out.frozen o
    have hold:=HR.out.cell ho19
    have HSET:Hid (RowW (wr.setCell ⟨h,o,none⟩ (.int .u8 (v:Int))) h 19 (shR g a (k+1))):=Lib.hid (by
     show RowW _ h 19 (upd (shR g a k) (ordN k) (numN g (a+3*k) 3))
     rw[←hO,←hv];exact hset)
    have HO2:Hid ((wr.setCell ⟨h,o,none⟩ (.int .u8 (v:Int))).heap[b2]?=some (.cells (tblA T 19) 213 (0,0))):=Lib.hid ((Below.heap_setCell wr ⟨h,o,none⟩ (.int .u8 (v:Int)) b2 (by show b2≠h;omega)).trans HO.out)
    have HB2:Hid (Below h w (wr.setCell ⟨h,o,none⟩ (.int .u8 (v:Int)))):=Lib.hid (HB.out.setCell (p:=⟨h,o,none⟩) (Nat.le_refl _) (.int .u8 (v:Int)))
    have HT1:=Lib.hid htk
    have ho2:(o:Int)<19:=by omega
    have hk2:(k:Int)<19:=by omega
    clear htk t1 t2 hv hO hset
    go_wp2_with fail
    refine HT1.out.mono ?_
    rintro e w9 ⟨rfl,rfl⟩
    go_wp2
    go_roundw
    case rel=>exact⟨k+1,by omega,by go_num,HSET,HO2,HB2,by omega⟩
    case measure=>simp[intOf];omega
  ·obtain rfl:k=n:=by omega
   have hlti:¬(k:Int)<(k:Int):=by omega
   have hend:¬8*l<a+3*k:=by omega
   have hrd:=HR.out.rd (fun j=>shR_lt g a k j)
   have HC:=Lib.hid (rcheck_any wr _ _ 19 19 (shR g a k) 7 hrd)
   have HWH:=Lib.hid (rwhole13_any wr _ _ 19 19 (shR g a k) hrd (by omega))
   obtain⟨CE,hCE⟩:∃x,x=checkE (shR g a k) 19 7:=⟨_,rfl⟩
   obtain⟨WB,hWB⟩:∃x,x=decide (allN (shR g a k) 19=32768):=⟨_,rfl⟩
   rw[←hCE]at HC
   rw[←hWB]at HWH
   have HCE:=Lib.hid hCE;have HWB:=Lib.hid hWB
   clear hCE hWB hrd
   by_cases y0:CE=0
   ·have z0:(CE !=0)=false:=by simpa using y0
    by_cases y1:WB=true
    ·subst y1
     have hout:¬(checkE (shR g a k) 19 7≠0∨allN (shR g a k) 19≠32768):=by
      rw[←HCE.out,y0];have:=of_decide_eq_true HWB.out.symm;omega
     have HOUT:=Lib.hid hout
     clear hout y0
     go_wp2_with fail
     refine HC.out.mono ?_
     rintro e w9 ⟨rfl,rfl⟩
     go_wp2_with fail
     refine HWH.out.mono ?_
     rintro e w9 ⟨rfl,rfl⟩
     go_wp2
     refine bodyPost_ret (results_tmp3 rfl _ _ _) rfl ?_
     refine⟨?_,HB.out⟩
     unfold ShoOut
     rw[if_neg hend,if_neg HOUT.out]
     exact⟨h,Nat.le_refl _,by simp,HR.out⟩
    ·have y1':WB=false:=by simpa using y1
     subst y1'
     have hout:checkE (shR g a k) 19 7≠0∨allN (shR g a k) 19≠32768:=.inr (of_decide_eq_false HWB.out.symm)
     have HOUT:=Lib.hid hout
     clear hout y0 y1
     go_wp2_with fail
     refine HC.out.mono ?_
     rintro e w9 ⟨rfl,rfl⟩
     go_wp2_with fail
     refine HWH.out.mono ?_
     rintro e w9 ⟨rfl,rfl⟩
     go_wp2
     refine bodyPost_ret (results_tmp3 rfl _ _ _) rfl ?_
     refine⟨?_,HB.out⟩
     unfold ShoOut
     rw[if_neg hend,if_pos HOUT.out]
     rfl
   ·have z0:(CE !=0)=true:=by simpa using y0
    have hout:checkE (shR g a k) 19 7≠0∨allN (shR g a k) 19≠32768:=.inl (by rw[←HCE.out];exact y0)
    have HOUT:=Lib.hid hout
    clear hout y0
    go_wp2_with fail
    refine HC.out.mono ?_
    rintro e w9 ⟨rfl,rfl⟩
    go_wp2
    refine bodyPost_ret (results_tmp3 rfl _ _ _) rfl ?_
    refine⟨?_,HB.out⟩
    unfold ShoOut
    rw[if_neg hend,if_pos HOUT.out]
    rfl
end Go.Proofs.YtgokdgcmkcmjeaaGreat
namespace Go.Proofs.YtgokdgcmkcmjeaaGreat
theorem times_pos(s x:Int):1≤timesR s x:=by unfold timesR;split;omega;split<;>omega
end Go.Proofs.YtgokdgcmkcmjeaaGreat
