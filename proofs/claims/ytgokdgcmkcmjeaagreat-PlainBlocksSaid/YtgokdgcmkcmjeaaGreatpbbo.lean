/-
  Words and walks.
-/
import Derived.Test.YtgokdgcmkcmjeaaGreatpbbn
set_option maxRecDepth 100000
set_option maxHeartbeats 16000000
namespace Go.Proofs.YtgokdgcmkcmjeaaGreat
open Go.RowKit Go.ChangeShapes Go.WideShapes Go.ChangeAt Go.Joins
def opnP(k kind n:Nat)(l:List Tok)(last:Bool):List (Nat×Nat):=
 [(if last then 1 else 0,1),(kind,2)]++(if kind=1 then[]else if kind=2 then dynP l else[(0,(8-(k+3)%8)%8),(n,16),(65535-n,16)])
def opnA(kind:Nat)(l:List Tok):Nat→Nat:=if kind=1 then fixA else if kind=2 then lnA l else fun _=>0
def opnB(kind:Nat)(l:List Tok):Nat→Nat:=if kind=1 then fixB else if kind=2 then lnB l else fun _=>0
def opnM(kind:Nat)(l:List Tok):Nat:=if kind=1 then 288 else if kind=2 then nA l else 0
def opnN(kind:Nat)(l:List Tok):Nat:=if kind=1 then 32 else if kind=2 then nB l else 0
def OpnR(S:Nat→Prop)(B g:Nat)(f:Nat→Nat)(K kind n:Nat)(l:List Tok)(last:Bool)(w:World)(e:Ending)(w':World):Prop:=
 ∃A1 c1 A2 c2,e=.returned (.tuple #[.slice A1 (opnM kind l) c1,.slice A2 (opnN kind l) c2])∧RdB w' w'.heap.size A1 (opnM kind l) (opnA kind l)∧RdB w' w'.heap.size A2 (opnN kind l) (opnB kind l)∧
  RowAt w' S B g (putsF f K (opnP K kind n l last)) (K+bitsT (opnP K kind n l last))∧KpB S w w'∧Below B w w'
theorem open0false_any(w:World)(S:Nat→Prop)(B g:Nat)(f:Nat→Nat)(K n gc:Nat)(l:List Tok)(h:RowAt w S B g f K)(hn:n≤65535)(hK:K≤8388608)(hgc:RowT w gc 317 (cntE l) 153)(_hl:l.length≤65535)(hok:∀t∈l,mayT t=true∧t.x<256)(hb:K+bitsT (opnP K 0 n l false)≤16000000):
  Calls Tryz.prog 45 #[.pointer (some ⟨g,0,none⟩),.int .u8 0,.bool false,.int .i64 (n:Int),.pointer (some ⟨gc,0,none⟩)] w (OpnR S B g f K 0 n l false w):=by
 have hput:=put_lit w S B g f K [(0,1),(0,2)] 2 rfl #[.int .u32 0,.int .i64 1,.int .u32 0,.int .i64 2] rfl h (by omega) (fun z hz=>by
  simp only[List.mem_cons,List.not_mem_nil,or_false]at hz
  rcases hz with rfl|rfl
  ·exact fit_mk (by omega) (by omega)
  ·exact fit_mk (by omega) (by omega)) (by simp[bitsT];omega)
 have hbt:bitsT [(0,1),(0,2)]=3:=rfl
 rw[hbt]at hput
 obtain⟨Q,hQ⟩:∃Q,Q=putsF f K [(0,1),(0,2)]:=⟨_,rfl⟩
 rw[←hQ]at hput
 have hop:opnP K 0 n l false=[(0,1),(0,2)]++[(0,(8-(K+3)%8)%8),(n,16),(65535-n,16)]:=rfl
 have hpf:putsF Q (K+3) [(0,(8-(K+3)%8)%8),(n,16),(65535-n,16)]=putsF f K (opnP K 0 n l false):=by rw[hop,putsF_app,hbt,hQ]
 have hpb:K+3+bitsT [(0,(8-(K+3)%8)%8),(n,16),(65535-n,16)]=K+bitsT (opnP K 0 n l false):=by rw[hop,bitsT_app,hbt];omega
 have HPUT:=Lib.hid hput;have HPF:=Lib.hid hpf;have HPB:=Lib.hid hpb;have HH:=Lib.hid h;have HGC:=Lib.hid hgc;have HOK:=Lib.hid hok;have HBB:=Lib.hid hb
 clear hput hpf hpb hQ hop hbt h hgc hok hb
 go_enter Tryz.func45,Tryz.ntmps45
 go_wp2_with (first
  |(refine wpList_buildTo rfl 146 #[(0,.tmp 15),(1,.const (.int .i64 1))] rfl (some 16) rfl #[.int .u32 0,.int .i64 1] ?_ ?_;focus(simpa[Act.eval]using built_numP 0 1))
  |(refine wpList_buildTo rfl 146 #[(0,.tmp 18),(1,.const (.int .i64 2))] rfl (some 19) rfl #[.int .u32 0,.int .i64 2] ?_ ?_;focus(simpa[Act.eval]using built_numP 0 2))
  |fail)
 refine HPUT.out.mono ?_
 rintro e w1 ⟨rfl,h1,h2,h3⟩
 have hsz:=size11_any w1 S B g Q (K+3) n ((8-(K+3)%8)%8) h1 hn (by omega) rfl
 rw[HPF.out,HPB.out]at hsz
 have HSZ:=Lib.hid hsz;have H2:=Lib.hid h2;have H3:=Lib.hid h3
 clear hsz h1 h2 h3 HPUT
 go_wp2_with fail
 refine HSZ.out.mono ?_
 rintro e w2 ⟨rfl,k1,k2,k3⟩
 have K1:=Lib.hid k1;have K2:=Lib.hid (H2.out.tr k2);have K3:=Lib.hid (H3.out.trans k3)
 clear k1 k2 k3
 go_wp2
 go_ret2
 exact⟨none,0,none,0,rfl,⟨fun _=>by show 0<256;omega,fun h=>absurd h (by show¬0<0;omega)⟩,⟨fun _=>by show 0<256;omega,fun h=>absurd h (by show¬0<0;omega)⟩,K1.out,K2.out,K3.out⟩
theorem open0true_any(w:World)(S:Nat→Prop)(B g:Nat)(f:Nat→Nat)(K n gc:Nat)(l:List Tok)(h:RowAt w S B g f K)(hn:n≤65535)(hK:K≤8388608)(hgc:RowT w gc 317 (cntE l) 153)(_hl:l.length≤65535)(hok:∀t∈l,mayT t=true∧t.x<256)(hb:K+bitsT (opnP K 0 n l true)≤16000000):
  Calls Tryz.prog 45 #[.pointer (some ⟨g,0,none⟩),.int .u8 0,.bool true,.int .i64 (n:Int),.pointer (some ⟨gc,0,none⟩)] w (OpnR S B g f K 0 n l true w):=by
 have hput:=put_lit w S B g f K [(1,1),(0,2)] 2 rfl #[.int .u32 1,.int .i64 1,.int .u32 0,.int .i64 2] rfl h (by omega) (fun z hz=>by
  simp only[List.mem_cons,List.not_mem_nil,or_false]at hz
  rcases hz with rfl|rfl
  ·exact fit_mk (by omega) (by omega)
  ·exact fit_mk (by omega) (by omega)) (by simp[bitsT];omega)
 have hbt:bitsT [(1,1),(0,2)]=3:=rfl
 rw[hbt]at hput
 obtain⟨Q,hQ⟩:∃Q,Q=putsF f K [(1,1),(0,2)]:=⟨_,rfl⟩
 rw[←hQ]at hput
 have hop:opnP K 0 n l true=[(1,1),(0,2)]++[(0,(8-(K+3)%8)%8),(n,16),(65535-n,16)]:=rfl
 have hpf:putsF Q (K+3) [(0,(8-(K+3)%8)%8),(n,16),(65535-n,16)]=putsF f K (opnP K 0 n l true):=by rw[hop,putsF_app,hbt,hQ]
 have hpb:K+3+bitsT [(0,(8-(K+3)%8)%8),(n,16),(65535-n,16)]=K+bitsT (opnP K 0 n l true):=by rw[hop,bitsT_app,hbt];omega
 have HPUT:=Lib.hid hput;have HPF:=Lib.hid hpf;have HPB:=Lib.hid hpb;have HH:=Lib.hid h;have HGC:=Lib.hid hgc;have HOK:=Lib.hid hok;have HBB:=Lib.hid hb
 clear hput hpf hpb hQ hop hbt h hgc hok hb
 go_enter Tryz.func45,Tryz.ntmps45
 go_wp2_with (first
  |(refine wpList_buildTo rfl 146 #[(0,.tmp 15),(1,.const (.int .i64 1))] rfl (some 16) rfl #[.int .u32 1,.int .i64 1] ?_ ?_;focus(simpa[Act.eval]using built_numP 1 1))
  |(refine wpList_buildTo rfl 146 #[(0,.tmp 18),(1,.const (.int .i64 2))] rfl (some 19) rfl #[.int .u32 0,.int .i64 2] ?_ ?_;focus(simpa[Act.eval]using built_numP 0 2))
  |fail)
 refine HPUT.out.mono ?_
 rintro e w1 ⟨rfl,h1,h2,h3⟩
 have hsz:=size11_any w1 S B g Q (K+3) n ((8-(K+3)%8)%8) h1 hn (by omega) rfl
 rw[HPF.out,HPB.out]at hsz
 have HSZ:=Lib.hid hsz;have H2:=Lib.hid h2;have H3:=Lib.hid h3
 clear hsz h1 h2 h3 HPUT
 go_wp2_with fail
 refine HSZ.out.mono ?_
 rintro e w2 ⟨rfl,k1,k2,k3⟩
 have K1:=Lib.hid k1;have K2:=Lib.hid (H2.out.tr k2);have K3:=Lib.hid (H3.out.trans k3)
 clear k1 k2 k3
 go_wp2
 go_ret2
 exact⟨none,0,none,0,rfl,⟨fun _=>by show 0<256;omega,fun h=>absurd h (by show¬0<0;omega)⟩,⟨fun _=>by show 0<256;omega,fun h=>absurd h (by show¬0<0;omega)⟩,K1.out,K2.out,K3.out⟩
theorem open1false_any(w:World)(S:Nat→Prop)(B g:Nat)(f:Nat→Nat)(K n gc:Nat)(l:List Tok)(h:RowAt w S B g f K)(_hn:n≤65535)(hK:K≤8388608)(hgc:RowT w gc 317 (cntE l) 153)(_hl:l.length≤65535)(hok:∀t∈l,mayT t=true∧t.x<256)(hb:K+bitsT (opnP K 1 n l false)≤16000000):
  Calls Tryz.prog 45 #[.pointer (some ⟨g,0,none⟩),.int .u8 1,.bool false,.int .i64 (n:Int),.pointer (some ⟨gc,0,none⟩)] w (OpnR S B g f K 1 n l false w):=by
 have hput:=put_lit w S B g f K [(0,1),(1,2)] 2 rfl #[.int .u32 0,.int .i64 1,.int .u32 1,.int .i64 2] rfl h (by omega) (fun z hz=>by
  simp only[List.mem_cons,List.not_mem_nil,or_false]at hz
  rcases hz with rfl|rfl
  ·exact fit_mk (by omega) (by omega)
  ·exact fit_mk (by omega) (by omega)) (by simp[bitsT];omega)
 have hbt:bitsT [(0,1),(1,2)]=3:=rfl
 rw[hbt]at hput
 obtain⟨Q,hQ⟩:∃Q,Q=putsF f K [(0,1),(1,2)]:=⟨_,rfl⟩
 rw[←hQ]at hput
 have hop:opnP K 1 n l false=[(0,1),(1,2)]:=rfl
 have hpf:Q=putsF f K (opnP K 1 n l false):=by rw[hop,hQ]
 have hpb:K+3=K+bitsT (opnP K 1 n l false):=by rw[hop,hbt]
 have HPUT:=Lib.hid hput;have HPF:=Lib.hid hpf;have HPB:=Lib.hid hpb;have HH:=Lib.hid h;have HGC:=Lib.hid hgc;have HOK:=Lib.hid hok;have HBB:=Lib.hid hb
 clear hput hpf hpb hQ hop hbt h hgc hok hb
 go_enter Tryz.func45,Tryz.ntmps45
 go_wp2_with (first
  |(refine wpList_buildTo rfl 146 #[(0,.tmp 15),(1,.const (.int .i64 1))] rfl (some 16) rfl #[.int .u32 0,.int .i64 1] ?_ ?_;focus(simpa[Act.eval]using built_numP 0 1))
  |(refine wpList_buildTo rfl 146 #[(0,.tmp 18),(1,.const (.int .i64 2))] rfl (some 19) rfl #[.int .u32 1,.int .i64 2] ?_ ?_;focus(simpa[Act.eval]using built_numP 1 2))
  |fail)
 refine HPUT.out.mono ?_
 rintro e w1 ⟨rfl,h1,h2,h3⟩
 rw[HPF.out,HPB.out]at h1
 have H1:=Lib.hid h1;have H2:=Lib.hid h2;have H3:=Lib.hid h3
 have HFX:=Lib.hid (fixed_con w1)
 clear h1 h2 h3 HPUT
 go_wp2_with fail
 refine HFX.out.mono ?_
 rintro e w2 ⟨A1,c1,A2,c2,rfl,o1,o2,_,hb2⟩
 have R1:=Lib.hid (RdB.of_own o1 (fun j=>by have:=fixA_le j;omega));have R2:=Lib.hid (RdB.of_own o2 (fun j=>by have:=fixB_le j;omega));have K1:=Lib.hid (H1.out.after hb2);have K2:=Lib.hid (H2.out.tr (KpB.below H1.out.top hb2));have K3:=Lib.hid (H3.out.trans (hb2.mono H1.out.size))
 clear o1 o2 hb2 H1 H2 H3
 go_wp2
 go_ret2
 exact⟨A1,c1,A2,c2,rfl,R1.out,R2.out,K1.out,K2.out,K3.out⟩
theorem open1true_any(w:World)(S:Nat→Prop)(B g:Nat)(f:Nat→Nat)(K n gc:Nat)(l:List Tok)(h:RowAt w S B g f K)(_hn:n≤65535)(hK:K≤8388608)(hgc:RowT w gc 317 (cntE l) 153)(_hl:l.length≤65535)(hok:∀t∈l,mayT t=true∧t.x<256)(hb:K+bitsT (opnP K 1 n l true)≤16000000):
  Calls Tryz.prog 45 #[.pointer (some ⟨g,0,none⟩),.int .u8 1,.bool true,.int .i64 (n:Int),.pointer (some ⟨gc,0,none⟩)] w (OpnR S B g f K 1 n l true w):=by
 have hput:=put_lit w S B g f K [(1,1),(1,2)] 2 rfl #[.int .u32 1,.int .i64 1,.int .u32 1,.int .i64 2] rfl h (by omega) (fun z hz=>by
  simp only[List.mem_cons,List.not_mem_nil,or_false]at hz
  rcases hz with rfl|rfl
  ·exact fit_mk (by omega) (by omega)
  ·exact fit_mk (by omega) (by omega)) (by simp[bitsT];omega)
 have hbt:bitsT [(1,1),(1,2)]=3:=rfl
 rw[hbt]at hput
 obtain⟨Q,hQ⟩:∃Q,Q=putsF f K [(1,1),(1,2)]:=⟨_,rfl⟩
 rw[←hQ]at hput
 have hop:opnP K 1 n l true=[(1,1),(1,2)]:=rfl
 have hpf:Q=putsF f K (opnP K 1 n l true):=by rw[hop,hQ]
 have hpb:K+3=K+bitsT (opnP K 1 n l true):=by rw[hop,hbt]
 have HPUT:=Lib.hid hput;have HPF:=Lib.hid hpf;have HPB:=Lib.hid hpb;have HH:=Lib.hid h;have HGC:=Lib.hid hgc;have HOK:=Lib.hid hok;have HBB:=Lib.hid hb
 clear hput hpf hpb hQ hop hbt h hgc hok hb
 go_enter Tryz.func45,Tryz.ntmps45
 go_wp2_with (first
  |(refine wpList_buildTo rfl 146 #[(0,.tmp 15),(1,.const (.int .i64 1))] rfl (some 16) rfl #[.int .u32 1,.int .i64 1] ?_ ?_;focus(simpa[Act.eval]using built_numP 1 1))
  |(refine wpList_buildTo rfl 146 #[(0,.tmp 18),(1,.const (.int .i64 2))] rfl (some 19) rfl #[.int .u32 1,.int .i64 2] ?_ ?_;focus(simpa[Act.eval]using built_numP 1 2))
  |fail)
 refine HPUT.out.mono ?_
 rintro e w1 ⟨rfl,h1,h2,h3⟩
 rw[HPF.out,HPB.out]at h1
 have H1:=Lib.hid h1;have H2:=Lib.hid h2;have H3:=Lib.hid h3
 have HFX:=Lib.hid (fixed_con w1)
 clear h1 h2 h3 HPUT
 go_wp2_with fail
 refine HFX.out.mono ?_
 rintro e w2 ⟨A1,c1,A2,c2,rfl,o1,o2,_,hb2⟩
 have R1:=Lib.hid (RdB.of_own o1 (fun j=>by have:=fixA_le j;omega));have R2:=Lib.hid (RdB.of_own o2 (fun j=>by have:=fixB_le j;omega));have K1:=Lib.hid (H1.out.after hb2);have K2:=Lib.hid (H2.out.tr (KpB.below H1.out.top hb2));have K3:=Lib.hid (H3.out.trans (hb2.mono H1.out.size))
 clear o1 o2 hb2 H1 H2 H3
 go_wp2
 go_ret2
 exact⟨A1,c1,A2,c2,rfl,R1.out,R2.out,K1.out,K2.out,K3.out⟩
theorem open2false_any(w:World)(S:Nat→Prop)(B g:Nat)(f:Nat→Nat)(K n gc:Nat)(l:List Tok)(h:RowAt w S B g f K)(_hn:n≤65535)(hK:K≤8388608)(hSc:S gc)(hgc:RowT w gc 317 (cntE l) 153)(hl:l.length≤65535)(hok:∀t∈l,mayT t=true∧t.x<256)(hb:K+bitsT (opnP K 2 n l false)≤16000000):
  Calls Tryz.prog 45 #[.pointer (some ⟨g,0,none⟩),.int .u8 2,.bool false,.int .i64 (n:Int),.pointer (some ⟨gc,0,none⟩)] w (OpnR S B g f K 2 n l false w):=by
 have hput:=put_lit w S B g f K [(0,1),(2,2)] 2 rfl #[.int .u32 0,.int .i64 1,.int .u32 2,.int .i64 2] rfl h (by omega) (fun z hz=>by
  simp only[List.mem_cons,List.not_mem_nil,or_false]at hz
  rcases hz with rfl|rfl
  ·exact fit_mk (by omega) (by omega)
  ·exact fit_mk (by omega) (by omega)) (by simp[bitsT];omega)
 have hbt:bitsT [(0,1),(2,2)]=3:=rfl
 rw[hbt]at hput
 obtain⟨Q,hQ⟩:∃Q,Q=putsF f K [(0,1),(2,2)]:=⟨_,rfl⟩
 rw[←hQ]at hput
 have hop:opnP K 2 n l false=[(0,1),(2,2)]++dynP l:=rfl
 have hpf:putsF Q (K+3) (dynP l)=putsF f K (opnP K 2 n l false):=by rw[hop,putsF_app,hbt,hQ]
 have hpb:K+3+bitsT (dynP l)=K+bitsT (opnP K 2 n l false):=by rw[hop,bitsT_app,hbt];omega
 have HPUT:=Lib.hid hput;have HPF:=Lib.hid hpf;have HPB:=Lib.hid hpb;have HH:=Lib.hid h;have HSC:=Lib.hid hSc;have HGC:=Lib.hid hgc;have HOK:=Lib.hid hok;have HBB:=Lib.hid hb
 clear hput hpf hpb hQ hop hbt h hgc hok hb hSc
 go_enter Tryz.func45,Tryz.ntmps45
 go_wp2_with (first
  |(refine wpList_buildTo rfl 146 #[(0,.tmp 15),(1,.const (.int .i64 1))] rfl (some 16) rfl #[.int .u32 0,.int .i64 1] ?_ ?_;focus(simpa[Act.eval]using built_numP 0 1))
  |(refine wpList_buildTo rfl 146 #[(0,.tmp 18),(1,.const (.int .i64 2))] rfl (some 19) rfl #[.int .u32 2,.int .i64 2] ?_ ?_;focus(simpa[Act.eval]using built_numP 2 2))
  |fail)
 refine HPUT.out.mono ?_
 rintro e w1 ⟨rfl,h1,h2,h3⟩
 have hg1:RowT w1 gc 317 (cntE l) 153:=(h2 gc HSC.out).trans HGC.out
 have hls:=least11_any w1 gc l hg1 (by omega) HOK.out
 have HLS:=Lib.hid hls;have H1:=Lib.hid h1;have H2:=Lib.hid h2;have H3:=Lib.hid h3
 clear hls hg1 h1 h2 h3 HPUT
 go_wp2_with fail
 refine HLS.out.mono ?_
 rintro e w2 ⟨A1,c1,A2,c2,rfl,r1,r2,n1,n2,hb2⟩
 obtain⟨S2,hS2⟩:∃S':Nat→Prop,S'=fun j=>S j∨(w1.heap.size≤j∧j<w2.heap.size):=⟨_,rfl⟩
 have hrow2:RowAt w2 S2 B g Q (K+3):=by rw[hS2];exact H1.out.grow hb2
 have hSS:∀j,S j→S2 j:=fun j hj=>by rw[hS2];exact .inl hj
 have hI1:InS S2 A1 (nA l):=fun b o h0 e=>by
  obtain⟨b',o',e',hlt,_⟩:=r1.1.2 h0
  have hb':=n1 b o e
  rw[e]at e'
  injection e' with e'
  injection e' with e1
  rw[hS2];exact .inr ⟨hb',by omega⟩
 have hI2:InS S2 A2 (nB l):=fun b o h0 e=>by
  obtain⟨b',o',e',hlt,_⟩:=r2.1.2 h0
  have hb':=n2 b o e
  rw[e]at e'
  injection e' with e'
  injection e' with e1
  rw[hS2];exact .inr ⟨hb',by omega⟩
 have htb:=table11_any w2 S2 B g Q (K+3) A1 c1 A2 c2 l hrow2 (by omega) r1 r2 (by rw[HPB.out];exact HBB.out)
 rw[HPF.out,HPB.out]at htb
 have HTB:=Lib.hid htb;have R1:=Lib.hid r1;have R2:=Lib.hid r2;have HI1:=Lib.hid hI1;have HI2:=Lib.hid hI2;have HSS:=Lib.hid hSS
 have K2:=Lib.hid (H2.out.tr (KpB.below H1.out.top hb2));have K3:=Lib.hid (H3.out.trans (hb2.mono H1.out.size))
 clear htb r1 r2 hI1 hI2 hSS hrow2 hS2 n1 n2 hb2 H1 H2 H3 HLS
 go_wp2_with fail
 refine HTB.out.mono ?_
 rintro e w3 ⟨rfl,k1,k2,k3⟩
 have K1:=Lib.hid (k1.less HSS.out);have KP:=Lib.hid k2;have K4:=Lib.hid (K2.out.tr (k2.less HSS.out));have K5:=Lib.hid (K3.out.trans k3)
 have hsz:=k3.size
 clear k1 k2 k3
 go_wp2
 go_ret2
 exact⟨A1,c1,A2,c2,rfl,R1.out.1.keepS KP.out HI1.out hsz,R2.out.1.keepS KP.out HI2.out hsz,K1.out,K4.out,K5.out⟩
theorem open2true_any(w:World)(S:Nat→Prop)(B g:Nat)(f:Nat→Nat)(K n gc:Nat)(l:List Tok)(h:RowAt w S B g f K)(_hn:n≤65535)(hK:K≤8388608)(hSc:S gc)(hgc:RowT w gc 317 (cntE l) 153)(hl:l.length≤65535)(hok:∀t∈l,mayT t=true∧t.x<256)(hb:K+bitsT (opnP K 2 n l true)≤16000000):
  Calls Tryz.prog 45 #[.pointer (some ⟨g,0,none⟩),.int .u8 2,.bool true,.int .i64 (n:Int),.pointer (some ⟨gc,0,none⟩)] w (OpnR S B g f K 2 n l true w):=by
 have hput:=put_lit w S B g f K [(1,1),(2,2)] 2 rfl #[.int .u32 1,.int .i64 1,.int .u32 2,.int .i64 2] rfl h (by omega) (fun z hz=>by
  simp only[List.mem_cons,List.not_mem_nil,or_false]at hz
  rcases hz with rfl|rfl
  ·exact fit_mk (by omega) (by omega)
  ·exact fit_mk (by omega) (by omega)) (by simp[bitsT];omega)
 have hbt:bitsT [(1,1),(2,2)]=3:=rfl
 rw[hbt]at hput
 obtain⟨Q,hQ⟩:∃Q,Q=putsF f K [(1,1),(2,2)]:=⟨_,rfl⟩
 rw[←hQ]at hput
 have hop:opnP K 2 n l true=[(1,1),(2,2)]++dynP l:=rfl
 have hpf:putsF Q (K+3) (dynP l)=putsF f K (opnP K 2 n l true):=by rw[hop,putsF_app,hbt,hQ]
 have hpb:K+3+bitsT (dynP l)=K+bitsT (opnP K 2 n l true):=by rw[hop,bitsT_app,hbt];omega
 have HPUT:=Lib.hid hput;have HPF:=Lib.hid hpf;have HPB:=Lib.hid hpb;have HH:=Lib.hid h;have HSC:=Lib.hid hSc;have HGC:=Lib.hid hgc;have HOK:=Lib.hid hok;have HBB:=Lib.hid hb
 clear hput hpf hpb hQ hop hbt h hgc hok hb hSc
 go_enter Tryz.func45,Tryz.ntmps45
 go_wp2_with (first
  |(refine wpList_buildTo rfl 146 #[(0,.tmp 15),(1,.const (.int .i64 1))] rfl (some 16) rfl #[.int .u32 1,.int .i64 1] ?_ ?_;focus(simpa[Act.eval]using built_numP 1 1))
  |(refine wpList_buildTo rfl 146 #[(0,.tmp 18),(1,.const (.int .i64 2))] rfl (some 19) rfl #[.int .u32 2,.int .i64 2] ?_ ?_;focus(simpa[Act.eval]using built_numP 2 2))
  |fail)
 refine HPUT.out.mono ?_
 rintro e w1 ⟨rfl,h1,h2,h3⟩
 have hg1:RowT w1 gc 317 (cntE l) 153:=(h2 gc HSC.out).trans HGC.out
 have hls:=least11_any w1 gc l hg1 (by omega) HOK.out
 have HLS:=Lib.hid hls;have H1:=Lib.hid h1;have H2:=Lib.hid h2;have H3:=Lib.hid h3
 clear hls hg1 h1 h2 h3 HPUT
 go_wp2_with fail
 refine HLS.out.mono ?_
 rintro e w2 ⟨A1,c1,A2,c2,rfl,r1,r2,n1,n2,hb2⟩
 obtain⟨S2,hS2⟩:∃S':Nat→Prop,S'=fun j=>S j∨(w1.heap.size≤j∧j<w2.heap.size):=⟨_,rfl⟩
 have hrow2:RowAt w2 S2 B g Q (K+3):=by rw[hS2];exact H1.out.grow hb2
 have hSS:∀j,S j→S2 j:=fun j hj=>by rw[hS2];exact .inl hj
 have hI1:InS S2 A1 (nA l):=fun b o h0 e=>by
  obtain⟨b',o',e',hlt,_⟩:=r1.1.2 h0
  have hb':=n1 b o e
  rw[e]at e'
  injection e' with e'
  injection e' with e1
  rw[hS2];exact .inr ⟨hb',by omega⟩
 have hI2:InS S2 A2 (nB l):=fun b o h0 e=>by
  obtain⟨b',o',e',hlt,_⟩:=r2.1.2 h0
  have hb':=n2 b o e
  rw[e]at e'
  injection e' with e'
  injection e' with e1
  rw[hS2];exact .inr ⟨hb',by omega⟩
 have htb:=table11_any w2 S2 B g Q (K+3) A1 c1 A2 c2 l hrow2 (by omega) r1 r2 (by rw[HPB.out];exact HBB.out)
 rw[HPF.out,HPB.out]at htb
 have HTB:=Lib.hid htb;have R1:=Lib.hid r1;have R2:=Lib.hid r2;have HI1:=Lib.hid hI1;have HI2:=Lib.hid hI2;have HSS:=Lib.hid hSS
 have K2:=Lib.hid (H2.out.tr (KpB.below H1.out.top hb2));have K3:=Lib.hid (H3.out.trans (hb2.mono H1.out.size))
 clear htb r1 r2 hI1 hI2 hSS hrow2 hS2 n1 n2 hb2 H1 H2 H3 HLS
 go_wp2_with fail
 refine HTB.out.mono ?_
 rintro e w3 ⟨rfl,k1,k2,k3⟩
 have K1:=Lib.hid (k1.less HSS.out);have KP:=Lib.hid k2;have K4:=Lib.hid (K2.out.tr (k2.less HSS.out));have K5:=Lib.hid (K3.out.trans k3)
 have hsz:=k3.size
 clear k1 k2 k3
 go_wp2
 go_ret2
 exact⟨A1,c1,A2,c2,rfl,R1.out.1.keepS KP.out HI1.out hsz,R2.out.1.keepS KP.out HI2.out hsz,K1.out,K4.out,K5.out⟩
theorem open11_any(w:World)(S:Nat→Prop)(B g:Nat)(f:Nat→Nat)(K n gc kind:Nat)(l:List Tok)(last:Bool)(h:RowAt w S B g f K)(hkd:kind≤2)(hn:n≤65535)(hK:K≤8388608)(hSc:S gc)(hgc:RowT w gc 317 (cntE l) 153)(hl:l.length≤65535)(hok:∀t∈l,mayT t=true∧t.x<256)(hb:K+bitsT (opnP K kind n l last)≤16000000):
  Calls Tryz.prog 45 #[.pointer (some ⟨g,0,none⟩),.int .u8 (kind:Int),.bool last,.int .i64 (n:Int),.pointer (some ⟨gc,0,none⟩)] w (OpnR S B g f K kind n l last w):=by
 have hc:kind=0∨kind=1∨kind=2:=by omega
 rcases hc with rfl|rfl|rfl<;>cases last
 ·exact open0false_any w S B g f K n gc l h hn hK hgc hl hok hb
 ·exact open0true_any w S B g f K n gc l h hn hK hgc hl hok hb
 ·exact open1false_any w S B g f K n gc l h hn hK hgc hl hok hb
 ·exact open1true_any w S B g f K n gc l h hn hK hgc hl hok hb
 ·exact open2false_any w S B g f K n gc l h hn hK hSc hgc hl hok hb
 ·exact open2true_any w S B g f K n gc l h hn hK hSc hgc hl hok hb
end Go.Proofs.YtgokdgcmkcmjeaaGreat
