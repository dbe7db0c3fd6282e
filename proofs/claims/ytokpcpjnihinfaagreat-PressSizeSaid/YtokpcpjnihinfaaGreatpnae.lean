/-
  Words and walks.
-/
import Derived.Great.BuildSlice
import Derived.Test.YtokpcpjnihinfaaGreatpnac
import Derived.Test.YtokpcpjnihinfaaGreatpnad
set_option maxRecDepth 100000
set_option maxHeartbeats 16000000
namespace Go.Proofs.YtokpcpjnihinfaaGreat
open Go.RowKit Go.Shelf
attribute [local go_sem] Oper.semAt_some
attribute [local simp] wide_fn
theorem bst_none{f:Nat→Nat}{L a s:Nat}:∀p d n,bstN f L a s p 0 d n=(d,n)
 |0,_,_=>rfl
 |p+1,d,n=>by simp only[bstN];rw[if_neg (by omega)]
theorem bst_full{f:Nat→Nat}{L a s:Nat}{n:Nat}(h:∀q,matN f L a q≤n):∀p c d,bstN f L a s p c d n=(d,n)
 |0,_,_=>rfl
 |p+1,c,d=>by
  have:=h p
  simp only[bstN]
  split
  ·split
   ·exact bst_full h p c d
   ·rw[if_neg (by omega)];exact bst_full h p (c-1) d
  ·rfl
theorem bst_low{f:Nat→Nat}{L a s:Nat}(c d n:Nat):bstN f L a s (a-min s a) c d n=(d,n):=by
 rcases Nat.eq_zero_or_pos (a-min s a)with h|h
 ·rw[h];rfl
 ·obtain⟨k,hk⟩:∃k,a-min s a=k+1:=⟨a-min s a-1,by omega⟩
  rw[hk]
  simp only[bstN]
  rw[if_neg (by omega)]
theorem bst_skip{f:Nat→Nat}{L a s j:Nat}(hj:j<min s a){c:Nat}(hc:0<c)(d n:Nat)(hno:¬okP f L a j):bstN f L a s (a-j) c d n=bstN f L a s (a-(j+1)) c d n:=by
 unfold okP at hno
 rw[show a-j=(a-1-j)+1 by omega,show a-(j+1)=a-1-j by omega]
 conv=>lhs;unfold bstN
 rw[if_pos ⟨by omega,hc⟩,if_pos (by omega)]
theorem bst_take{f:Nat→Nat}{L a s j:Nat}(hj:j<min s a){c:Nat}(hc:0<c)(d n:Nat)(hok:okP f L a j):
  bstN f L a s (a-j) c d n=if n<matN f L a (a-1-j)then bstN f L a s (a-(j+1)) (c-1) (j+1) (matN f L a (a-1-j))else bstN f L a s (a-(j+1)) (c-1) d n:=by
 unfold okP at hok
 rw[show a-j=(a-1-j)+1 by omega,show a-(j+1)=a-1-j by omega]
 conv=>lhs;unfold bstN
 rw[if_pos ⟨by omega,hc⟩,if_neg (by omega),show a-(a-1-j)=j+1 by omega]
theorem mat_most{f:Nat→Nat}{L a:Nat}(ha:a≤L)(q:Nat):matN f L a q≤min (L-a) 258:=by
 have h1:=(matN_spec f L a q).1
 have h2:=matN_end (f:=f) (p:=q) ha
 omega
def SBst(h k:Nat):Prop:=k<h+2∨(h+5≤k∧k<h+8)
def BstI(w u:World)(h:Nat)(f:Nat→Nat)(L a z:Nat)(T:Nat×Nat)(j:Nat)(W:World):Prop:=
 Below h w W∧KpB (SBst h) u W∧h+8≤W.heap.size∧∃c d n:Nat,Boxed W (h+2) 3 (.int .i64 (c:Int))∧Boxed W (h+3) 3 (.int .i64 (d:Int))∧Boxed W (h+4) 3 (.int .i64 (n:Int))∧0<c∧c≤256∧n≤258∧d≤a∧bstN f L a z (a-j) c d n=T
def BstX(w:World)(h _a:Nat)(T:Nat×Nat)(_:Nat)(W:World):Prop:=
 Below h w W∧∃d n:Nat,Boxed W (h+3) 3 (.int .i64 (d:Int))∧Boxed W (h+4) 3 (.int .i64 (n:Int))∧(d,n)=T
theorem boxed_own{W W':World}{row:Option Nat}{B:Nat}{t:TypeId}{v:Value}(h:Boxed W B t v)(hg:W.grownBy W' row)(hr:∀r,row=some r→∃o:Obj,W.heap[r]?=some o∧o.isCells=false):Boxed W' B t v:=
 h.kept hg (fun e=>by obtain⟨o,h1,h2⟩:=hr B e.symm;rw[h]at h1;cases h1;cases h2)
theorem BstI.own(w u:World)(f:Nat→Nat)(L a z:Nat)(T:Nat×Nat)(B:Nat)(hB:w.heap.size+8≤B):OwnFrom B (BstI w u w.heap.size f L a z T):=by
 rintro j W W' row ⟨h1,h2,hs,c,d,n,h3,h4,h5,h6⟩ hg hr
 refine⟨h1.grown hg h1.size (fun r e=>by have:=(hr r e).1;omega),fun k hk=>?_,Nat.le_trans hs hg.size,c,d,n,boxed_own h3 hg fun r e=>(hr r e).2,boxed_own h4 hg fun r e=>(hr r e).2,boxed_own h5 hg fun r e=>(hr r e).2,h6⟩
 refine(hg.block k (by rcases hk with hk|hk<;>omega) (fun e=>?_)).trans (h2 k hk)
 have:=(hr k e.symm).1
 rcases hk with hk|hk<;>omega
theorem BstX.own(w:World)(a:Nat)(T:Nat×Nat)(B:Nat)(hB:w.heap.size≤B):OwnFrom B (BstX w w.heap.size a T):=by
 rintro j W W' row ⟨h1,d,n,h4,h5,h6⟩ hg hr
 exact⟨h1.grown hg h1.size (fun r e=>by have:=(hr r e).1;omega),d,n,boxed_own h4 hg fun r e=>(hr r e).2,boxed_own h5 hg fun r e=>(hr r e).2,h6⟩
def BstF(w W:World)(h c d n:Nat)(X:World):Prop:=
 Below h w X∧KpB (SBst h) W X∧KeepsOthers W X∧h+8≤X.heap.size∧Boxed X (h+2) 3 (.int .i64 (c:Int))∧Boxed X (h+3) 3 (.int .i64 (d:Int))∧Boxed X (h+4) 3 (.int .i64 (n:Int))
theorem boxed_other{X:World}{B C:Nat}{t:TypeId}{u v:Value}(h:Boxed X B t u)(hne:B≠C):Boxed (X.setCell ⟨C,0,none⟩ v) B t u:=(Below.heap_setCell X _ _ B hne).trans h
theorem kpb_set{h C:Nat}{W X:World}{v:Value}(hk:KpB (SBst h) W X)(hC:h+2≤C∧C<h+5):KpB (SBst h) W (X.setCell ⟨C,0,none⟩ v):=fun k hS=>
 (Below.heap_setCell X _ _ k (by show k≠C;rcases hS with hS|hS<;>omega)).trans (hk k hS)
theorem size_set(X:World)(p:Addr)(v:Value):(X.setCell p v).heap.size=X.heap.size:=by simp[World.setCell]
theorem BstF.setc{w W X:World}{h c d n:Nat}(H:BstF w W h c d n X)(v:Nat):BstF w W h v d n (X.setCell ⟨h+2,0,none⟩ (.int .i64 (v:Int))):=by
 obtain⟨h1,h2,h3,h4,h5,h6,h7⟩:=H
 exact⟨h1.setCell (p:=⟨h+2,0,none⟩) (by show h≤h+2;omega) _,kpb_set h2 (by omega),h3.trans (KeepsOthers.setCell _ _ _),by rw[size_set];exact h4,h5.set _,boxed_other h6 (by omega),boxed_other h7 (by omega)⟩
theorem BstF.setd{w W X:World}{h c d n:Nat}(H:BstF w W h c d n X)(v:Nat):BstF w W h c v n (X.setCell ⟨h+3,0,none⟩ (.int .i64 (v:Int))):=by
 obtain⟨h1,h2,h3,h4,h5,h6,h7⟩:=H
 exact⟨h1.setCell (p:=⟨h+3,0,none⟩) (by show h≤h+3;omega) _,kpb_set h2 (by omega),h3.trans (KeepsOthers.setCell _ _ _),by rw[size_set];exact h4,boxed_other h5 (by omega),h6.set _,boxed_other h7 (by omega)⟩
theorem BstF.setn{w W X:World}{h c d n:Nat}(H:BstF w W h c d n X)(v:Nat):BstF w W h c d v (X.setCell ⟨h+4,0,none⟩ (.int .i64 (v:Int))):=by
 obtain⟨h1,h2,h3,h4,h5,h6,h7⟩:=H
 exact⟨h1.setCell (p:=⟨h+4,0,none⟩) (by show h≤h+4;omega) _,kpb_set h2 (by omega),h3.trans (KeepsOthers.setCell _ _ _),by rw[size_set];exact h4,boxed_other h5 (by omega),boxed_other h6 (by omega),h7.set _⟩
theorem BstF.drwn{w W X Y:World}{h c d n:Nat}(H:BstF w W h c d n X)(hd:Drw X Y):BstF w W h c d n Y:=by
 obtain⟨t,rfl⟩:=hd
 obtain⟨h1,h2,h3,h4,h5⟩:=H
 exact⟨⟨h1.os,h1.tape,h1.output,h1.size,h1.block⟩,h2,h3.trans ⟨Nat.le_refl _,fun _ _ h _=>h⟩,h4,h5⟩
theorem best_any(w:World)(A:Option Addr)(n c a z ch:Nat)(f:Nat→Nat)(hr:ByR w w.heap.size A n c f)(ha:a≤n)(hn:n≤1000000)(hz1:1≤z)(hz:z≤32768)(hch:ch≤256):
  Calls Tryz.prog 166 #[.slice A n c,.int .i64 (a:Int),.int .i64 (z:Int),.int .i64 (ch:Int)] w fun e w'=>e=.returned (.tuple #[.int .i64 ((bstN f n a z a ch 0 0).1:Nat),.int .i64 ((bstN f n a z a ch 0 0).2:Nat)])∧Below w.heap.size w w':=by
 obtain⟨T,hT⟩:∃T,T=bstN f n a z a ch 0 0:=⟨_,rfl⟩
 rw[←hT]
 refine(callsIn_wide (n:=5)).1 ?_
 obtain⟨h1,h2,h3,h4⟩:=hr
 obtain⟨v,hv⟩:∃v,v=((((w.alloc (.cells #[.slice A n c] 22)).alloc (.cells #[.int .i64 (a:Int)] 3)).alloc (.cells #[.int .i64 (ch:Int)] 3)).alloc (.cells #[.int .i64 0] 3)).alloc (.cells #[.int .i64 0] 3):=⟨_,rfl⟩
 refine callsIn_of_wp_marks Tryz.func166 rfl trivial ?_ rfl
 simp only[Tryz.ntmps166,List.size_toArray,List.length_cons,List.length_nil,Nat.reduceAdd,Nat.reduceSub,Array.replicate_succ,Array.replicate_zero,List.push_toArray,List.append_toArray,List.nil_append,List.cons_append]
 rcases Nat.eq_zero_or_pos ch with h0|h0
 ·subst h0
  rw[bst_none]at hT
  subst hT
  have hz5:Below w.heap.size w v:=by
   rw[hv];exact(((((Below.refl w.heap.size w).alloc (Nat.le_refl _) _).alloc (by simp) _).alloc (by simp;omega) _).alloc (by simp;omega) _).alloc (by simp;omega) _
  rw[show((0:Nat):Int)=0 from rfl]at hv
  have e1:v.cell? ⟨w.heap.size+1+1+1,0,none⟩=some (.int .i64 0):=by
   have:=((Boxed.new (((w.alloc (.cells #[.slice A n c] 22)).alloc (.cells #[.int .i64 (a:Int)] 3)).alloc (.cells #[.int .i64 0] 3)) 3 (.int .i64 0)).alloc (.cells #[.int .i64 0] 3)).cell
   rw[World.size_alloc,World.size_alloc,World.size_alloc]at this
   rw[hv];exact this
  have e2:v.cell? ⟨w.heap.size+1+1+1+1,0,none⟩=some (.int .i64 0):=by
   have:=(Boxed.new ((((w.alloc (.cells #[.slice A n c] 22)).alloc (.cells #[.int .i64 (a:Int)] 3)).alloc (.cells #[.int .i64 0] 3)).alloc (.cells #[.int .i64 0] 3)) 3 (.int .i64 0)).cell
   rw[World.size_alloc,World.size_alloc,World.size_alloc,World.size_alloc]at this
   rw[hv];exact this
  have HV:=Lib.hid hv;have HZ:=Lib.hid hz5;have E1:=Lib.hid e1;have E2:=Lib.hid e2
  clear hv hz5 e1 e2
  gi_wp2
  rw[←HV.out]
  refine⟨_,(by simp[results,Tryz.results166,go_sem,E1.out,E2.out]),rfl,HZ.out⟩
 ·have hcn:((ch:Int)==0)=false:=by simp;omega
  obtain⟨h,hh⟩:∃h,h=w.heap.size:=⟨_,rfl⟩
  obtain⟨u,hu⟩:∃u,u=((v.alloc (.cells #[.slice A n c] 22)).alloc (.cells #[.int .i64 (a:Int)] 3)).alloc (.cells #[.int .i64 (z:Int)] 3):=⟨_,rfl⟩
  have hvs:v.heap.size=h+5:=by rw[hv,hh];simp
  have hus:u.heap.size=h+8:=by rw[hu];simp[hvs]
  have hvb:Below h w v:=by
   rw[hv,hh];exact(((((Below.refl w.heap.size w).alloc (Nat.le_refl _) _).alloc (by simp) _).alloc (by simp;omega) _).alloc (by simp;omega) _).alloc (by simp;omega) _
  have huv:Below (h+5) v u:=by
   rw[hu];exact(((Below.refl (h+5) v).alloc (by omega) _).alloc (by simp;omega) _).alloc (by simp;omega) _
  have hub:Below h w u:=hvb.trans (huv.mono (by omega))
  have bx0:Boxed u h 22 (.slice A n c):=by
   refine(huv.block h (by omega)).trans ?_
   rw[hv,hh];exact((((Boxed.new w _ _).alloc _).alloc _).alloc _).alloc _
  have bx1:Boxed u (h+1) 3 (.int .i64 (a:Int)):=by
   refine(huv.block (h+1) (by omega)).trans ?_
   have:=((((Boxed.new (w.alloc (.cells #[.slice A n c] 22)) 3 (.int .i64 (a:Int))).alloc (.cells #[.int .i64 (ch:Int)] 3)).alloc (.cells #[.int .i64 0] 3)).alloc (.cells #[.int .i64 0] 3))
   rw[World.size_alloc]at this
   rw[hv,hh];exact this
  have bx2:Boxed u (h+2) 3 (.int .i64 (ch:Int)):=by
   refine(huv.block (h+2) (by omega)).trans ?_
   have:=(((Boxed.new ((w.alloc (.cells #[.slice A n c] 22)).alloc (.cells #[.int .i64 (a:Int)] 3)) 3 (.int .i64 (ch:Int))).alloc (.cells #[.int .i64 0] 3)).alloc (.cells #[.int .i64 0] 3))
   rw[World.size_alloc,World.size_alloc]at this
   rw[hv,hh];exact this
  have bx3:Boxed u (h+3) 3 (.int .i64 ((0:Nat):Int)):=by
   refine(huv.block (h+3) (by omega)).trans ?_
   have:=((Boxed.new (((w.alloc (.cells #[.slice A n c] 22)).alloc (.cells #[.int .i64 (a:Int)] 3)).alloc (.cells #[.int .i64 (ch:Int)] 3)) 3 (.int .i64 0)).alloc (.cells #[.int .i64 0] 3))
   rw[World.size_alloc,World.size_alloc,World.size_alloc]at this
   rw[hv,hh];exact this
  have bx4:Boxed u (h+4) 3 (.int .i64 ((0:Nat):Int)):=by
   refine(huv.block (h+4) (by omega)).trans ?_
   have:=Boxed.new ((((w.alloc (.cells #[.slice A n c] 22)).alloc (.cells #[.int .i64 (a:Int)] 3)).alloc (.cells #[.int .i64 (ch:Int)] 3)).alloc (.cells #[.int .i64 0] 3)) 3 (.int .i64 0)
   rw[World.size_alloc,World.size_alloc,World.size_alloc,World.size_alloc]at this
   rw[hv,hh];exact this
  have bx5:Boxed u (h+5) 22 (.slice A n c):=by
   have:=((Boxed.new v 22 (.slice A n c)).alloc (.cells #[.int .i64 (a:Int)] 3)).alloc (.cells #[.int .i64 (z:Int)] 3)
   rw[hvs]at this;rw[hu];exact this
  have bx6:Boxed u (h+6) 3 (.int .i64 (a:Int)):=by
   have:=(Boxed.new (v.alloc (.cells #[.slice A n c] 22)) 3 (.int .i64 (a:Int))).alloc (.cells #[.int .i64 (z:Int)] 3)
   rw[World.size_alloc,hvs]at this;rw[hu];exact this
  have bx7:Boxed u (h+7) 3 (.int .i64 (z:Int)):=by
   have:=Boxed.new ((v.alloc (.cells #[.slice A n c] 22)).alloc (.cells #[.int .i64 (a:Int)] 3)) 3 (.int .i64 (z:Int))
   rw[World.size_alloc,World.size_alloc,hvs]at this;rw[hu];exact this
  have hru:RdB u h A n f:=(hh▸h1:RdB w h A n f).below hub (Nat.le_refl _)
  have hI0:BstI w u h f n a z T 0 u:=⟨hub,KpB.refl _ _,by omega,ch,0,0,bx2,bx3,bx4,h0,hch,by omega,by omega,by rw[hT];rfl⟩
  have hU2:u=((((((((w.alloc (.cells #[.slice A n c] 22)).alloc (.cells #[.int .i64 (a:Int)] 3)).alloc (.cells #[.int .i64 (ch:Int)] 3)).alloc (.cells #[.int .i64 0] 3)).alloc (.cells #[.int .i64 0] 3)).alloc (.cells #[.slice A n c] 22)).alloc (.cells #[.int .i64 (a:Int)] 3)).alloc (.cells #[.int .i64 (z:Int)] 3)):=by rw[hu,hv]
  have HU:=Lib.hid hU2;have HI0:=Lib.hid hI0;have HRU:=Lib.hid hru;have HUB:=Lib.hid hub;have HH:=Lib.hid hh
  have HB0:=Lib.hid bx0;have HB1:=Lib.hid bx1;have HB5:=Lib.hid bx5;have HB6:=Lib.hid bx6;have HB7:=Lib.hid bx7
  clear hU2 hI0 hru hub huv hvb hvs hv hu bx0 bx1 bx2 bx3 bx4 bx5 bx6 bx7 h1 v hT
  clear hh
  gi_wp2_with (gi_at_call 175;refine(places_in _ _ _ _ _ _ _).mono ?_;rintro e w' ⟨rfl,rfl⟩)
  rw[←HU.out]
  simp only[Nat.add_assoc,Nat.reduceAdd]
  rw[←HH.out]
  refine wpIn_range_some (L:=min z a) rfl (by omega) (gf:=183) (lb:=#[.pointer (some ⟨h+5,0,none⟩),.pointer (some ⟨h+6,0,none⟩),.pointer (some ⟨h+7,0,none⟩)]) rfl trivial (enters_of Tryz.func183 (by kernel_rfl) rfl)
   (places1_some _ (by omega) (h+5) (h+6) (h+7) h A n c a z f (SBst h) ⟨.inr (by omega),.inr (by omega),.inr (by omega)⟩ (fun k hk=>.inl (by omega)) hn h4 ha h3 (by omega) u HB5.out.cell HB6.out.cell HB7.out.cell (by omega) (by omega) HRU.out)
   (fun h k=>h.tr k) (fun W l ob ob' hl _ _ _ k hS=>World.putObj_heap_other (by rcases hS with hS|hS<;>omega)) (fun _=>rfl)
   (.exit 0) (.exit 0) (.inr ⟨_,rfl,rfl⟩)
   (BstI w u h f n a z T) (BstX w h a T) (by rw[HH.out];exact BstI.own w u f n a z T _ (by have:=HH.out;omega)) (by rw[HH.out];exact BstX.own w a T _ (by have:=HH.out;omega)) HI0.out
   (fun j=>{tmps:=#[.slice A n c,.int .i64 a,.int .i64 z,.int .i64 ch,.pointer (some ⟨h,0,none⟩),.pointer (some ⟨h+1,0,none⟩),undef,.pointer (some ⟨h+2,0,none⟩),.pointer (some ⟨h+3,0,none⟩),.pointer (some ⟨h+4,0,none⟩),
    .int .i64 ((a-1-j:Nat):Int),undef,.int .i64 ch,.bool false,.slice A n c,.int .i64 a,.int .i64 z,.func (.func 183) #[] #[.pointer (some ⟨h+5,0,none⟩),.pointer (some ⟨h+6,0,none⟩),.pointer (some ⟨h+7,0,none⟩)],.int .i64 ((a-1-j:Nat):Int),
    undef,undef,undef,undef,undef,undef,undef,undef,undef,undef,undef,undef,undef,undef,undef,undef,undef,undef,undef,undef,undef,undef,undef,undef],defers:=[]}) ?skip ?assign ?body ?done ?stop
  case skip=>
   rintro j W ⟨h1,h2,hs,c',d,m,h3,h4,h5,h6,h7,h8,h9,h10⟩ hj hno
   exact⟨h1,h2,hs,c',d,m,h3,h4,h5,h6,h7,h8,h9,by rw[←bst_skip hj h6 d m hno];exact h10⟩
  case assign=>
   intro l j W K hK
   simp only[encP]
   obtain⟨q,hq⟩:∃q,q=a-1-j:=⟨_,rfl⟩
   rw[←hq]at hK⊢
   clear hq
   gi_wp2
   exact hK
  case body=>
   rintro l j W ⟨g1,g2,gs,c',d,m,g3,g4,g5,g6,g7,g8,g9,g10⟩ hj hok
   have hF0:BstF w W h c' d m W:=⟨g1,KpB.refl _ _,⟨Nat.le_refl _,fun _ _ h _=>h⟩,gs,g3,g4,g5⟩
   have hstep:=bst_take hj g6 d m hok
   rw[g10]at hstep
   have x0:=(g2.cell (p:=⟨h,0,none⟩) (.inl (by show h<h+2;omega))).trans HB0.out.cell
   have x1:=(g2.cell (p:=⟨h+1,0,none⟩) (.inl (by show h+1<h+2;omega))).trans HB1.out.cell
   have hrw:=HRU.out.kept g2 (fun k hk=>.inl (by omega))
   obtain⟨q,hq⟩:∃q,q=a-1-j:=⟨_,rfl⟩
   have hqa:q<a:=by omega
   have hsame:=same7_any W h A n c f a q hrw hqa ha hn
   obtain⟨k,hk⟩:∃k,k=matN f n a q:=⟨_,rfl⟩
   have hkm:=mat_most (f:=f) ha q
   rw[←hq]at hstep⊢
   rw[←hk]at hstep hsame hkm
   obtain⟨j1,hj1⟩:∃j1,j1=j+1:=⟨_,rfl⟩
   have hqq:(a:Int)-(q:Int)=(j1:Int):=by omega
   obtain⟨c1,hc1⟩:∃c1,c1=c'-1:=⟨_,rfl⟩
   have hcc:(c':Int)-1=(c1:Int):=by omega
   have hc1a:c1≤256:=by omega
   have hj1a:j1≤a:=by omega
   rw[←hj1,←hc1]at hstep
   have HJ1:=Lib.hid hj1
   have hmix:Tryz.prog.follows .mixedOrders=true:=by kernel_rfl
   have HSA:=Lib.hid hsame;have HF0:=Lib.hid hF0;have HST:=Lib.hid hstep;have HKM:=Lib.hid hkm;have HK:=Lib.hid hk;have HG2:=Lib.hid g2;have HOK:=Lib.hid hok
   clear hstep hsame hrw hF0 g1 g2 g3 g4 g5 g10 hkm hk hok hq gs hj1 hc1
   gi_wp2_with fail
   refine((callsIn_wide.2 HSA.out).inRound l).mono ?_
   rintro e V ⟨rfl,hdw⟩
   have hF1:=HF0.out.drwn hdw
   have y1o:=(hF1.2.1.cell (p:=⟨h+1,0,none⟩) (.inl (by show h+1<h+2;omega))).trans x1
   have y2o:=hF1.2.2.2.2.1.cell
   have y3:=hF1.2.2.2.2.2.1.cell
   have y4o:=hF1.2.2.2.2.2.2.cell
   have z2:=hF1.2.2.2.2.1.frozen
   have z3:=hF1.2.2.2.2.2.1.frozen
   have z4:=hF1.2.2.2.2.2.2.frozen
   have HF1:=Lib.hid hF1
   clear hF1 hdw HSA HF0
   by_cases hlt:m<k
   ·have hlti:(m:Int)<(k:Int):=by omega
    have hst:=HST.out
    rw[if_pos hlt]at hst
    have HST:=Lib.hid hst
    clear hst
    gi_wp2
    have hF2:=((HF1.out.setd j1).setn k).setc c1
    obtain⟨Y,hY⟩:∃Y,Y=((V.setCell ⟨h+3,0,none⟩ (.int .i64 (j1:Int))).setCell ⟨h+4,0,none⟩ (.int .i64 (k:Int))).setCell ⟨h+2,0,none⟩ (.int .i64 (c1:Int)):=⟨_,rfl⟩
    rw[←hY]at hF2⊢
    have y0:=(hF2.2.1.cell (p:=⟨h,0,none⟩) (.inl (by show h<h+2;omega))).trans x0
    have y1:=(hF2.2.1.cell (p:=⟨h+1,0,none⟩) (.inl (by show h+1<h+2;omega))).trans x1
    have y2:=hF2.2.2.2.2.1.cell
    have y4:=hF2.2.2.2.2.2.2.cell
    have HF2:=Lib.hid hF2
    clear hF2 hY y1o x0 x1 y2o y3 y4o z2 z3 z4 HF1
    obtain⟨M,hM⟩:∃M,M=min (n-a) 258:=⟨_,rfl⟩
    have hmo:=fun u=>most_any u A n c a ha hn
    rw[←hM]at hmo
    have HMO:=Lib.hid hmo;have HM:=Lib.hid hM
    clear hmo hM
    rcases Nat.eq_zero_or_pos c1 with hc0|hc0
    ·subst hc0
     have hst:=HST.out
     rw[bst_none]at hst
     have HFI:=Lib.hid hst
     have y2:Y.cell? ⟨h+2,0,none⟩=some (.int .i64 0):=y2
     clear hst HST
     gi_region_with_o (gi_at_call 177;refine((callsIn_wide.2 (HMO.out _)).inRound l).mono ?_;rintro e V2 ⟨rfl,rfl⟩)
     all_goals gi_wp2
     all_goals exact⟨HF2.out.2.2.1.trans (KeepsOthers.drew _),(HF2.out.drwn ⟨1,rfl⟩).1,j1,k,(HF2.out.drwn ⟨1,rfl⟩).2.2.2.2.2.1,(HF2.out.drwn ⟨1,rfl⟩).2.2.2.2.2.2,HFI.out.symm⟩
    ·have hcn:((c1:Int)==0)=false:=by simp;omega
     by_cases hfull:k=M
     ·have hnm:((k:Int)==(M:Int))=true:=by simp;omega
      have hst:=HST.out
      rw[bst_full (fun q=>by have:=mat_most (f:=f) ha q;have:=HM.out;omega)]at hst
      have HFI:=Lib.hid hst
      clear hst HST hfull
      gi_region_with_o (gi_at_call 177;refine((callsIn_wide.2 (HMO.out _)).inRound l).mono ?_;rintro e V2 ⟨rfl,rfl⟩)
      all_goals gi_wp2
      all_goals exact⟨HF2.out.2.2.1.trans (KeepsOthers.drew _),(HF2.out.drwn ⟨1,rfl⟩).1,j1,k,(HF2.out.drwn ⟨1,rfl⟩).2.2.2.2.2.1,(HF2.out.drwn ⟨1,rfl⟩).2.2.2.2.2.2,HFI.out.symm⟩
     ·have hnm:((k:Int)==(M:Int))=false:=by simp;omega
      clear hfull
      gi_region_with_o (gi_at_call 177;refine((callsIn_wide.2 (HMO.out _)).inRound l).mono ?_;rintro e V2 ⟨rfl,rfl⟩)
      all_goals gi_wp2
      all_goals exact⟨HF2.out.2.2.1.trans (KeepsOthers.drew _),(HF2.out.drwn ⟨1,rfl⟩).2.1,(HF2.out.drwn ⟨1,rfl⟩).1,HG2.out.tr (HF2.out.drwn ⟨1,rfl⟩).2.1,(HF2.out.drwn ⟨1,rfl⟩).2.2.2.1,c1,j1,k,(HF2.out.drwn ⟨1,rfl⟩).2.2.2.2.1,(HF2.out.drwn ⟨1,rfl⟩).2.2.2.2.2.1,(HF2.out.drwn ⟨1,rfl⟩).2.2.2.2.2.2,hc0,hc1a,(by have:=HKM.out;omega),hj1a,(by rw[←HJ1.out];exact HST.out.symm)⟩
   ·have hlti:¬(m:Int)<(k:Int):=by omega
    have hst:=HST.out
    rw[if_neg hlt]at hst
    have HST:=Lib.hid hst
    clear hst
    gi_wp2
    have hF2:=HF1.out.setc c1
    obtain⟨Y,hY⟩:∃Y,Y=V.setCell ⟨h+2,0,none⟩ (.int .i64 (c1:Int)):=⟨_,rfl⟩
    rw[←hY]at hF2⊢
    have y0:=(hF2.2.1.cell (p:=⟨h,0,none⟩) (.inl (by show h<h+2;omega))).trans x0
    have y1:=(hF2.2.1.cell (p:=⟨h+1,0,none⟩) (.inl (by show h+1<h+2;omega))).trans x1
    have y2:=hF2.2.2.2.2.1.cell
    have y4:=hF2.2.2.2.2.2.2.cell
    have HF2:=Lib.hid hF2
    clear hF2 hY y1o x0 x1 y2o y3 y4o z2 z3 z4 HF1
    obtain⟨M,hM⟩:∃M,M=min (n-a) 258:=⟨_,rfl⟩
    have hmo:=fun u=>most_any u A n c a ha hn
    rw[←hM]at hmo
    have HMO:=Lib.hid hmo;have HM:=Lib.hid hM
    clear hmo hM
    rcases Nat.eq_zero_or_pos c1 with hc0|hc0
    ·subst hc0
     have hst:=HST.out
     rw[bst_none]at hst
     have HFI:=Lib.hid hst
     have y2:Y.cell? ⟨h+2,0,none⟩=some (.int .i64 0):=y2
     clear hst HST
     gi_region_with_o (gi_at_call 177;refine((callsIn_wide.2 (HMO.out _)).inRound l).mono ?_;rintro e V2 ⟨rfl,rfl⟩)
     all_goals gi_wp2
     all_goals exact⟨HF2.out.2.2.1.trans (KeepsOthers.drew _),(HF2.out.drwn ⟨1,rfl⟩).1,d,m,(HF2.out.drwn ⟨1,rfl⟩).2.2.2.2.2.1,(HF2.out.drwn ⟨1,rfl⟩).2.2.2.2.2.2,HFI.out.symm⟩
    ·have hcn:((c1:Int)==0)=false:=by simp;omega
     by_cases hfull:m=M
     ·have hnm:((m:Int)==(M:Int))=true:=by simp;omega
      have hst:=HST.out
      rw[bst_full (fun q=>by have:=mat_most (f:=f) ha q;have:=HM.out;omega)]at hst
      have HFI:=Lib.hid hst
      clear hst HST hfull
      gi_region_with_o (gi_at_call 177;refine((callsIn_wide.2 (HMO.out _)).inRound l).mono ?_;rintro e V2 ⟨rfl,rfl⟩)
      all_goals gi_wp2
      all_goals exact⟨HF2.out.2.2.1.trans (KeepsOthers.drew _),(HF2.out.drwn ⟨1,rfl⟩).1,d,m,(HF2.out.drwn ⟨1,rfl⟩).2.2.2.2.2.1,(HF2.out.drwn ⟨1,rfl⟩).2.2.2.2.2.2,HFI.out.symm⟩
     ·have hnm:((m:Int)==(M:Int))=false:=by simp;omega
      clear hfull
      gi_region_with_o (gi_at_call 177;refine((callsIn_wide.2 (HMO.out _)).inRound l).mono ?_;rintro e V2 ⟨rfl,rfl⟩)
      all_goals gi_wp2
      all_goals exact⟨HF2.out.2.2.1.trans (KeepsOthers.drew _),(HF2.out.drwn ⟨1,rfl⟩).2.1,(HF2.out.drwn ⟨1,rfl⟩).1,HG2.out.tr (HF2.out.drwn ⟨1,rfl⟩).2.1,(HF2.out.drwn ⟨1,rfl⟩).2.2.2.1,c1,d,m,(HF2.out.drwn ⟨1,rfl⟩).2.2.2.2.1,(HF2.out.drwn ⟨1,rfl⟩).2.2.2.2.2.1,(HF2.out.drwn ⟨1,rfl⟩).2.2.2.2.2.2,hc0,hc1a,g8,g9,(by rw[←HJ1.out];exact HST.out.symm)⟩
  case done=>
   rintro D W hD ⟨g1,g2,gs,c',d,m,g3,g4,g5,g6,g7,g8,g9,g10⟩ hK
   rw[bst_low]at g10
   subst g10
   have y3:=g4.cell;have y4:=g5.cell;have z3:=g4.frozen;have z4:=g5.frozen
   have HG1:=Lib.hid g1;have HG4:=Lib.hid g4;have HG5:=Lib.hid g5;have HK:=Lib.hid hK
   clear g1 g2 gs g3 g4 g5 hK HB0 HB1 HB5 HB6 HB7 HI0 HRU HUB HU
   gi_wp2
   gi_region
   obtain⟨Y,hY⟩:∃Y,Y=((W.setCell ⟨h+3,0,none⟩ (.int .i64 (d:Int))).setCell ⟨h+4,0,none⟩ (.int .i64 (m:Int))).drew:=⟨_,rfl⟩
   have b3:Boxed Y (h+3) 3 (.int .i64 (d:Int)):=by rw[hY];exact boxed_other (HG4.out.set _) (by omega)
   have b4:Boxed Y (h+4) 3 (.int .i64 (m:Int)):=by rw[hY];exact(boxed_other HG5.out (by omega)).set _
   have bD:Y.heap[D]?=some (.deferred (some [])):=by
    rw[hY];exact(Below.heap_setCell _ _ _ D (by show D≠h+4;omega)).trans ((Below.heap_setCell _ _ _ D (by show D≠h+3;omega)).trans HK.out)
   have bY:Below h w Y:=by
    rw[hY];exact((HG1.out.setCell (p:=⟨h+3,0,none⟩) (by show h≤h+3;omega) _).setCell (p:=⟨h+4,0,none⟩) (by show h≤h+4;omega) _).drew
   rw[←hY]
   have c3:=(Boxed.kept b3 (grownBy_putObj' Y D (.deferred none)) (fun e=>by injection e;omega)).cell
   have c4:=(Boxed.kept b4 (grownBy_putObj' Y D (.deferred none)) (fun e=>by injection e;omega)).cell
   have BD:=Lib.hid bD;have BY:=Lib.hid bY;have C3:=Lib.hid c3;have C4:=Lib.hid c4
   clear hY b3 b4 bD bY c3 c4 y3 y4 z3 z4
   gi_wp2
   refine⟨by simp,.inl ⟨_,_,rfl,run_takeDeferred BD.out,?_⟩⟩
   refine⟨_,(by simp[results,Tryz.results166,go_sem,C3.out,C4.out]),rfl,?_⟩
   rw[←HH.out]
   exact BY.out.grown (grownBy_putObj' Y D _) (by have:=BY.out.size;have:=HH.out;omega) (fun r e=>by cases e;omega)
  case stop=>
   rintro D j W hD hj ⟨g1,d,m,g4,g5,rfl⟩ hK
   have y3:=g4.cell;have y4:=g5.cell;have z3:=g4.frozen;have z4:=g5.frozen
   have HG1:=Lib.hid g1;have HG4:=Lib.hid g4;have HG5:=Lib.hid g5;have HK:=Lib.hid hK
   clear g1 g4 g5 hK HB0 HB1 HB5 HB6 HB7 HI0 HRU HUB HU
   gi_wp2
   gi_region
   obtain⟨Y,hY⟩:∃Y,Y=((W.setCell ⟨h+3,0,none⟩ (.int .i64 (d:Int))).setCell ⟨h+4,0,none⟩ (.int .i64 (m:Int))).drew:=⟨_,rfl⟩
   have b3:Boxed Y (h+3) 3 (.int .i64 (d:Int)):=by rw[hY];exact boxed_other (HG4.out.set _) (by omega)
   have b4:Boxed Y (h+4) 3 (.int .i64 (m:Int)):=by rw[hY];exact(boxed_other HG5.out (by omega)).set _
   have bD:Y.heap[D]?=some (.deferred (some [])):=by
    rw[hY];exact(Below.heap_setCell _ _ _ D (by show D≠h+4;omega)).trans ((Below.heap_setCell _ _ _ D (by show D≠h+3;omega)).trans HK.out)
   have bY:Below h w Y:=by
    rw[hY];exact((HG1.out.setCell (p:=⟨h+3,0,none⟩) (by show h≤h+3;omega) _).setCell (p:=⟨h+4,0,none⟩) (by show h≤h+4;omega) _).drew
   rw[←hY]
   have c3:=(Boxed.kept b3 (grownBy_putObj' Y D (.deferred none)) (fun e=>by injection e;omega)).cell
   have c4:=(Boxed.kept b4 (grownBy_putObj' Y D (.deferred none)) (fun e=>by injection e;omega)).cell
   have BD:=Lib.hid bD;have BY:=Lib.hid bY;have C3:=Lib.hid c3;have C4:=Lib.hid c4
   clear hY b3 b4 bD bY c3 c4 y3 y4 z3 z4
   gi_wp2
   refine⟨by simp,.inl ⟨_,_,rfl,run_takeDeferred BD.out,?_⟩⟩
   refine⟨_,(by simp[results,Tryz.results166,go_sem,C3.out,C4.out]),rfl,?_⟩
   rw[←HH.out]
   exact BY.out.grown (grownBy_putObj' Y D _) (by have:=BY.out.size;have:=HH.out;omega) (fun r e=>by cases e;omega)
end Go.Proofs.YtokpcpjnihinfaaGreat
namespace Go.Proofs.YtokpcpjnihinfaaGreat
open Go.RowKit Go.ChangeShapes Go.WideShapes Go.ChangeAt Go.Joins
def finT(f:Nat→Nat)(n:Nat)(a s h:Int):Nat×Nat:=if¬131072<n∧0≤a∧a≤(n:Int)∧1≤s∧s≤32768∧0≤h∧h≤256 then bstN f n a.toNat s.toNat a.toNat h.toNat 0 0 else(0,0)
def finE(f:Nat→Nat)(n:Nat)(a s h:Int):Int:=if 131072<n then 4 else if 0≤a∧a≤(n:Int)∧1≤s∧s≤32768∧0≤h∧h≤256 then(if(finT f n a s h).2=0 then 6 else 0)else 2
theorem fin_zero(f:Nat→Nat)(n:Nat)(a s h:Int)(h0:(finT f n a s h).2=0):finT f n a s h=(0,0):=by
 unfold finT at h0⊢
 split
 ·rename_i hc
  rw[if_pos hc]at h0
  rcases bstN_found (f:=f) (L:=n) (a:=a.toNat) (size:=s.toNat) a.toNat h.toNat 0 0 (Nat.le_refl _) (.inl ⟨rfl,rfl⟩)with⟨h1,h2⟩|⟨_,_,_,h3,_⟩
  ·exact Prod.ext h1 h2
  ·omega
 ·rfl
end Go.Proofs.YtokpcpjnihinfaaGreat
namespace Go.Proofs.YtokpcpjnihinfaaGreat
open Go.RowKit Go.ChangeShapes Go.WideShapes Go.ChangeAt Go.Joins
theorem fin_bad{n:Nat}{a s h:Int}(hok:¬(0≤a∧a≤(n:Int)∧1≤s∧s≤32768∧0≤h∧h≤256)):
  a<0∨(¬a<0∧(n:Int)<a)∨(¬a<0∧¬(n:Int)<a∧s<1)∨(¬a<0∧¬(n:Int)<a∧¬s<1∧32768<s)∨(¬a<0∧¬(n:Int)<a∧¬s<1∧¬32768<s∧h<0)∨(¬a<0∧¬(n:Int)<a∧¬s<1∧¬32768<s∧¬h<0∧256<h):=by omega
theorem decNm{p:Prop}[Decidable p](h:¬p):decide p=false:=by simp[h]
theorem decYm{p:Prop}[Decidable p](h:p):decide p=true:=by simp[h]
theorem find7_any(w:World)(A:Option Addr)(n c:Nat)(f:Nat→Nat)(a s h:Int)(hr:ByR w w.heap.size A n c f):
  Calls Tryz.prog 150 #[.slice A n c,.int .i64 a,.int .i64 s,.int .i64 h] w fun e w'=>e=.returned (.tuple #[.int .i64 ((finT f n a s h).1:Nat),.int .i64 ((finT f n a s h).2:Nat),.int .i64 (finE f n a s h)])∧Below w.heap.size w w':=by
 have HR:=Lib.hid hr
 clear hr
 by_cases hn:131072<n
 ·have e1:finE f n a s h=4:=if_pos hn
  have e2:finT f n a s h=(0,0):=if_neg (by omega)
  rw[e1,e2]
  have hni:131072<(n:Int):=by omega
  clear e1 e2
  go_enter Tryz.func150,Tryz.ntmps150
  go_wp2
  go_ret3
  exact⟨rfl,Below.refl _ _⟩
 have hni:¬131072<(n:Int):=by omega
 by_cases hok:0≤a∧a≤(n:Int)∧1≤s∧s≤32768∧0≤h∧h≤256
 ·obtain⟨T,hT⟩:∃T,T=finT f n a s h:=⟨_,rfl⟩
  have e1:finE f n a s h=if T.2=0 then 6 else 0:=by unfold finE;rw[if_neg hn,if_pos hok,hT]
  have e2:T=bstN f n a.toNat s.toNat a.toNat h.toNat 0 0:=by rw[hT];unfold finT;rw[if_pos ⟨hn,hok⟩]
  have e3:=fin_zero f n a s h
  obtain⟨E,hE⟩:∃E:Int,E=if T.2=0 then 6 else 0:=⟨_,rfl⟩
  rw[e1,←hE]
  rw[←hT]at e3⊢
  obtain⟨x1,x2,x3,x4,x5,x6⟩:=hok
  obtain⟨a,rfl⟩:=Int.eq_ofNat_of_zero_le x1
  obtain⟨s,rfl⟩:=Int.eq_ofNat_of_zero_le (show 0≤s by omega)
  obtain⟨h,rfl⟩:=Int.eq_ofNat_of_zero_le x5
  rw[Int.toNat_natCast,Int.toNat_natCast,Int.toNat_natCast]at e2
  have hb:=best_any w A n c a s h f HR.out (by omega) (by omega) (by omega) (by omega) (by omega)
  rw[←e2]at hb
  have HB:=Lib.hid hb
  have d1:decide ((a:Int)<0)=false:=decNm (by omega)
  have d2:decide ((n:Int)<(a:Int))=false:=decNm (by omega)
  have d3:decide ((s:Int)<1)=false:=decNm (by omega)
  have d4:decide (32768<(s:Int))=false:=decNm (by omega)
  have d5:decide ((h:Int)<0)=false:=decNm (by omega)
  have d6:decide (256<(h:Int))=false:=decNm (by omega)
  obtain⟨t1,t2⟩:=T
  have E3:=Lib.hid e3;have HE:=Lib.hid hE
  clear e1 e2 e3 hb hT hE
  go_enter Tryz.func150,Tryz.ntmps150
  go_wp2_with fail
  refine HB.out.mono ?_
  rintro e w' ⟨rfl,hb⟩
  have HBL:=Lib.hid hb
  clear hb
  rcases Nat.eq_zero_or_pos t2 with h0|h0
  ·subst h0
   have:=E3.out rfl
   injection this with h1 _
   subst h1
   obtain rfl:E=6:=HE.out
   go_wp2
   go_ret3
   exact⟨rfl,HBL.out⟩
  ·have hnz:((t2:Int)==0)=false:=by simp;omega
   obtain rfl:E=0:=HE.out.trans (if_neg (by show¬t2=0;omega))
   go_wp2
   go_ret3
   exact⟨rfl,HBL.out⟩
 ·have e1:finE f n a s h=2:=by unfold finE;rw[if_neg hn,if_neg hok]
  have e2:finT f n a s h=(0,0):=if_neg (fun q=>hok q.2)
  rw[e1,e2]
  have hbad:=fin_bad hok
  clear e1 e2 hok
  rcases hbad with q1|⟨q1,q2⟩|⟨q1,q2,q3⟩|⟨q1,q2,q3,q4⟩|⟨q1,q2,q3,q4,q5⟩|⟨q1,q2,q3,q4,q5,q6⟩
  ·have d1:=decYm q1
   go_enter Tryz.func150,Tryz.ntmps150
   go_wp2
   go_ret3
   exact⟨rfl,Below.refl _ _⟩
  ·have d1:=decNm q1;have d2:=decYm q2
   go_enter Tryz.func150,Tryz.ntmps150
   go_wp2
   go_ret3
   exact⟨rfl,Below.refl _ _⟩
  ·have d1:=decNm q1;have d2:=decNm q2;have d3:=decYm q3
   go_enter Tryz.func150,Tryz.ntmps150
   go_wp2
   go_ret3
   exact⟨rfl,Below.refl _ _⟩
  ·have d1:=decNm q1;have d2:=decNm q2;have d3:=decNm q3;have d4:=decYm q4
   go_enter Tryz.func150,Tryz.ntmps150
   go_wp2
   go_ret3
   exact⟨rfl,Below.refl _ _⟩
  ·have d1:=decNm q1;have d2:=decNm q2;have d3:=decNm q3;have d4:=decNm q4;have d5:=decYm q5
   go_enter Tryz.func150,Tryz.ntmps150
   go_wp2
   go_ret3
   exact⟨rfl,Below.refl _ _⟩
  ·have d1:=decNm q1;have d2:=decNm q2;have d3:=decNm q3;have d4:=decNm q4;have d5:=decNm q5;have d6:=decYm q6
   go_enter Tryz.func150,Tryz.ntmps150
   go_wp2
   go_ret3
   exact⟨rfl,Below.refl _ _⟩
end Go.Proofs.YtokpcpjnihinfaaGreat
namespace Go.Proofs.YtokpcpjnihinfaaGreat
open Go.RowKit Go.ChangeShapes Go.WideShapes Go.ChangeAt Go.Joins
def TkR(w:World)(B:Nat)(A:Option Addr)(n c:Nat)(l:List Tok):Prop:=n=l.length∧RdT w B A l∧(A=none→c=0)∧n≤c∧c≤maxLen
theorem TkR.below{w w':World}{B B' n c:Nat}{A:Option Addr}{l:List Tok}(h:TkR w B A n c l)(hb:Below B' w w')(hB:B≤B'):TkR w' B A n c l:=⟨h.1,h.2.1.below hb hB,h.2.2⟩
theorem TkR.more{w:World}{B B' n c:Nat}{A:Option Addr}{l:List Tok}(h:TkR w B A n c l)(hB:B≤B'):TkR w B' A n c l:=⟨h.1,h.2.1.more hB,h.2.2⟩
theorem TkR.nil(w:World)(B:Nat):TkR w B none 0 0 []:=⟨rfl,RdT.nil w B none,fun _=>rfl,Nat.le_refl _,by unfold maxLen;omega⟩
theorem TkR.of_own{w:World}{base n c:Nat}{A:Option Addr}{l:List Tok}(h:w.ownsRow base 128 3 (.slice A n c) n (toksL l)):TkR w w.heap.size A n c l:=by
 obtain⟨h1,h2⟩:=RdT.of_own h
 refine⟨h1,h2,?_⟩
 rcases h.2 with⟨hv,h0⟩|⟨g,cap,cur,hv,_,_,k1,k2,_⟩
 ·injection hv with h3 h4 h5
  exact⟨fun _=>h5,by omega,by unfold maxLen;omega⟩
 ·injection hv with h3 h4 h5
  exact⟨(fun h=>by rw[h]at h3;cases h3),by omega,by omega⟩
def cutE(n:Nat)(a s h m:Int):Int:=if mayS s h m=false then 8 else if 131072<n then 4 else if 0≤a∧a≤(n:Int)then 0 else 2
def cutV(f:Nat→Nat)(n:Nat)(a s h m:Int)(lz:Bool):List Tok:=if cutE n a s h m=0 then cutA f n s.toNat h.toNat lz a.toNat else[]
theorem mayS_is{s h m:Int}(e:mayS s h m=true):1≤s∧s≤32768∧0≤h∧h≤256∧1≤m∧m≤65535:=by unfold mayS at e;exact of_decide_eq_true e
end Go.Proofs.YtokpcpjnihinfaaGreat
