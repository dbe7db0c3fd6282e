/-
  Words and walks.
-/
import Derived.Sort.QuietIn
import Derived.Test.YtcmpmighjglnpaaGreattaaa
import Derived.Test.YtcmpmighjglnpaaGreattaab
import Derived.Test.YtcmpmighjglnpaaGreattaac
import Derived.Test.YtcmpmighjglnpaaGreattaad
import Derived.Test.YtcmpmighjglnpaaGreattaag
import Derived.Test.YtcmpmighjglnpaaGreattaak
import Derived.Test.YtcmpmighjglnpaaGreattaam
import Derived.Test.YtcmpmighjglnpaaGreattaar
set_option maxRecDepth 100000
set_option maxHeartbeats 16000000
namespace Go.Proofs.YtcmpmighjglnpaaGreat
structure SwR where
 err:Int
 st:Option Blk13
 over:Bool
 win:List Nat
 made:Nat
 out:List Nat
 at_:Nat
def swE(e:Int):SwR:=⟨e,none,false,[],0,[],0⟩
def tokB(win:List Nat)(t:Tok):List Nat:=if t.n=0 then[t.x]else copL win t.d.toNat t.n.toNat
def winI(win b:List Nat):List Nat:=lastN 32768 (win++b)
theorem stp_tok(all:List Nat)(t:Tok):stpT all t=all++tokB all t:=by
 unfold stpT tokB;split<;>rfl
theorem len_tok(all:List Nat)(t:Tok):(tokB all t).length=lenT t:=by
 unfold tokB lenT copL;split<;>simp
def fedR(g:Nat→Nat)(L most:Nat):Nat→Option Blk13→List Nat→Nat→List Nat→Nat→SwR
 |0,st,win,made,out,a=>⟨0,st,false,win,made,out,a⟩
 |f+1,none,win,made,out,a=>if(begR g L a).2.2=10 then⟨0,none,false,win,made,out,a⟩else if(begR g L a).2.2≠0 then swE (begR g L a).2.2 else
  fedR g L most f (some (begR g L a).1) win made out (begR g L a).2.1
 |f+1,some k,win,made,out,a=>if(nextR k g L a).2.2.2=10 then⟨0,some k,false,win,made,out,a⟩else if(nextR k g L a).2.2.2≠0 then swE (nextR k g L a).2.2.2 else
  if(nextR k g L a).2.1=true then(if k.last=true then⟨0,none,true,win,made,out,(nextR k g L a).2.2.1⟩else fedR g L most f none win made out (nextR k g L a).2.2.1)else
  if(win.length:Int)<(nextR k g L a).1.d then swE 60 else
  if most<made+lenT (nextR k g L a).1 then swE 140 else
  fedR g L most f (some (lessK k)) (winI win (tokB win (nextR k g L a).1)) (made+lenT (nextR k g L a).1) (out++tokB win (nextR k g L a).1) (nextR k g L a).2.2.1
theorem fed_n(g:Nat→Nat)(L most f:Nat)(win:List Nat)(made:Nat)(out:List Nat)(a:Nat):fedR g L most (f+1) none win made out a=if(begR g L a).2.2=10 then⟨0,none,false,win,made,out,a⟩else if(begR g L a).2.2≠0 then swE (begR g L a).2.2 else
  fedR g L most f (some (begR g L a).1) win made out (begR g L a).2.1:=rfl
theorem fed_s(g:Nat→Nat)(L most f:Nat)(k:Blk13)(win:List Nat)(made:Nat)(out:List Nat)(a:Nat):fedR g L most (f+1) (some k) win made out a=if(nextR k g L a).2.2.2=10 then⟨0,some k,false,win,made,out,a⟩else if(nextR k g L a).2.2.2≠0 then swE (nextR k g L a).2.2.2 else
  if(nextR k g L a).2.1=true then(if k.last=true then⟨0,none,true,win,made,out,(nextR k g L a).2.2.1⟩else fedR g L most f none win made out (nextR k g L a).2.2.1)else
  if(win.length:Int)<(nextR k g L a).1.d then swE 60 else
  if most<made+lenT (nextR k g L a).1 then swE 140 else
  fedR g L most f (some (lessK k)) (winI win (tokB win (nextR k g L a).1)) (made+lenT (nextR k g L a).1) (out++tokB win (nextR k g L a).1) (nextR k g L a).2.2.1:=rfl
theorem fed_fuel{g:Nat→Nat}{L most:Nat}:∀f f' st win made out a,a≤8*L→muT L a st<f→muT L a st<f'→fedR g L most f st win made out a=fedR g L most f' st win made out a
 |0,_,_,_,_,_,_,_,h,_=>absurd h (by omega)
 |_+1,0,_,_,_,_,_,_,_,h=>absurd h (by omega)
 |f+1,f'+1,none,win,made,out,a,ha,h,h'=>by
  rw[fed_n,fed_n]
  by_cases h0:(begR g L a).2.2=10
  ·rw[if_pos h0,if_pos h0]
  ·rw[if_neg h0,if_neg h0]
   by_cases h1:(begR g L a).2.2≠0
   ·rw[if_pos h1,if_pos h1]
   ·rw[if_neg h1,if_neg h1]
    obtain⟨b1,b2⟩:=beg_fwd (g:=g) (L:=L) (a:=a) (by omega)
    simp only[muT]at h h'
    refine fed_fuel f f' _ _ _ _ _ b2 ?_ ?_<;>(simp only[muT];omega)
 |f+1,f'+1,some k,win,made,out,a,ha,h,h'=>by
  rw[fed_s,fed_s]
  by_cases h0:(nextR k g L a).2.2.2=10
  ·rw[if_pos h0,if_pos h0]
  ·rw[if_neg h0,if_neg h0]
   by_cases h1:(nextR k g L a).2.2.2≠0
   ·rw[if_pos h1,if_pos h1]
   ·rw[if_neg h1,if_neg h1]
    obtain⟨b1,b2,b3⟩:=next_fwd (k:=k) (g:=g) ha (by omega)
    simp only[muT]at h h'
    by_cases h2:(nextR k g L a).2.1=true
    ·rw[if_pos h2,if_pos h2]
     by_cases h3:k.last=true
     ·rw[if_pos h3,if_pos h3]
     ·rw[if_neg h3,if_neg h3]
      refine fed_fuel f f' _ _ _ _ _ b2 ?_ ?_<;>(simp only[muT];omega)
    ·rw[if_neg h2,if_neg h2]
     have b4:=b3 (by simpa using h2)
     split
     ·rfl
     ·split
      ·rfl
      ·refine fed_fuel f f' _ _ _ _ _ b2 ?_ ?_<;>(simp only[muT];omega)
def fedA(g:Nat→Nat)(L most:Nat)(st:Option Blk13)(win:List Nat)(made:Nat)(out:List Nat)(a:Nat):SwR:=fedR g L most (muT L a st+1) st win made out a
theorem fed_A{g:Nat→Nat}{L most f:Nat}{st:Option Blk13}{win:List Nat}{made:Nat}{out:List Nat}{a:Nat}(ha:a≤8*L)(h:muT L a st<f):fedR g L most f st win made out a=fedA g L most st win made out a:=
 fed_fuel _ _ _ _ _ _ _ ha h (by omega)
theorem fed_head{g:Nat→Nat}{L most:Nat}{win:List Nat}{made:Nat}{out:List Nat}{a:Nat}(ha:a≤8*L):
  fedA g L most none win made out a=if(begR g L a).2.2=10 then⟨0,none,false,win,made,out,a⟩else if(begR g L a).2.2≠0 then swE (begR g L a).2.2 else fedA g L most (some (begR g L a).1) win made out (begR g L a).2.1:=by
 rw[←fed_A ha (f:=muT L a none+1+1) (by omega),fed_n]
 by_cases h0:(begR g L a).2.2=10
 ·rw[if_pos h0,if_pos h0]
 ·rw[if_neg h0,if_neg h0]
  by_cases h1:(begR g L a).2.2≠0
  ·rw[if_pos h1,if_pos h1]
  ·rw[if_neg h1,if_neg h1]
   obtain⟨b1,b2⟩:=beg_fwd (g:=g) (L:=L) (a:=a) (by omega)
   refine fed_A b2 ?_;simp only[muT];omega
theorem fed_step{g:Nat→Nat}{L most:Nat}{k:Blk13}{win:List Nat}{made:Nat}{out:List Nat}{a:Nat}(ha:a≤8*L):
  fedA g L most (some k) win made out a=if(nextR k g L a).2.2.2=10 then⟨0,some k,false,win,made,out,a⟩else if(nextR k g L a).2.2.2≠0 then swE (nextR k g L a).2.2.2 else
  if(nextR k g L a).2.1=true then(if k.last=true then⟨0,none,true,win,made,out,(nextR k g L a).2.2.1⟩else fedA g L most none win made out (nextR k g L a).2.2.1)else
  if(win.length:Int)<(nextR k g L a).1.d then swE 60 else
  if most<made+lenT (nextR k g L a).1 then swE 140 else
  fedA g L most (some (lessK k)) (winI win (tokB win (nextR k g L a).1)) (made+lenT (nextR k g L a).1) (out++tokB win (nextR k g L a).1) (nextR k g L a).2.2.1:=by
 rw[←fed_A ha (f:=muT L a (some k)+1+1) (by omega),fed_s]
 by_cases h0:(nextR k g L a).2.2.2=10
 ·rw[if_pos h0,if_pos h0]
 ·rw[if_neg h0,if_neg h0]
  by_cases h1:(nextR k g L a).2.2.2≠0
  ·rw[if_pos h1,if_pos h1]
  ·rw[if_neg h1,if_neg h1]
   obtain⟨b1,b2,b3⟩:=next_fwd (k:=k) (g:=g) ha (by omega)
   by_cases h2:(nextR k g L a).2.1=true
   ·rw[if_pos h2,if_pos h2]
    by_cases h3:k.last=true
    ·rw[if_pos h3,if_pos h3]
    ·rw[if_neg h3,if_neg h3]
     refine fed_A b2 ?_;simp only[muT];omega
   ·rw[if_neg h2,if_neg h2]
    have b4:=b3 (by simpa using h2)
    split
    ·rfl
    ·split
     ·rfl
     ·refine fed_A b2 ?_;simp only[muT];omega
theorem fed_two{g h:Nat→Nat}{l m most:Nat}(H:Ahead g l h m):∀f st win made out a,a≤8*l→muT l a st<f→
  fedA h m most st win made out a=if(fedR g l most f st win made out a).err≠0∨(fedR g l most f st win made out a).over=true then fedR g l most f st win made out a else
   fedA h m most (fedR g l most f st win made out a).st (fedR g l most f st win made out a).win (fedR g l most f st win made out a).made (fedR g l most f st win made out a).out (fedR g l most f st win made out a).at_
 |0,_,_,_,_,_,_,hf=>absurd hf (by omega)
 |f+1,none,win,made,out,a,ha,hf=>by
  have hm:=H.le
  have hb:=H.beg (a:=a)
  rw[fed_n]
  by_cases h0:(begR g l a).2.2=10
  ·rw[if_pos h0,if_neg (by intro h;rcases h with h|h;exact h rfl;exact Bool.noConfusion h)]
  ·rw[if_neg h0]
   rw[fed_head (g:=h) (L:=m) (by omega),hb h0,if_neg h0]
   by_cases h1:(begR g l a).2.2≠0
   ·rw[if_pos h1,if_pos h1,if_pos (.inl h1)]
   ·rw[if_neg h1,if_neg h1]
    obtain⟨b1,b2⟩:=beg_fwd (g:=g) (L:=l) (a:=a) (by omega)
    refine fed_two H f _ _ _ _ _ b2 ?_
    simp only[muT]at hf⊢;omega
 |f+1,some k,win,made,out,a,ha,hf=>by
  have hm:=H.le
  have hb:=H.next (k:=k) (a:=a)
  rw[fed_s]
  by_cases h0:(nextR k g l a).2.2.2=10
  ·rw[if_pos h0,if_neg (by intro h;rcases h with h|h;exact h rfl;exact Bool.noConfusion h)]
  ·rw[if_neg h0]
   rw[fed_step (g:=h) (L:=m) (by omega),hb h0,if_neg h0]
   by_cases h1:(nextR k g l a).2.2.2≠0
   ·rw[if_pos h1,if_pos h1,if_pos (.inl h1)]
   ·rw[if_neg h1,if_neg h1]
    obtain⟨b1,b2,b3⟩:=next_fwd (k:=k) (g:=g) ha (by omega)
    simp only[muT]at hf
    by_cases h2:(nextR k g l a).2.1=true
    ·rw[if_pos h2,if_pos h2]
     by_cases h3:k.last=true
     ·rw[if_pos h3,if_pos h3,if_pos (.inr rfl)]
     ·rw[if_neg h3,if_neg h3]
      refine fed_two H f _ _ _ _ _ b2 ?_
      simp only[muT];omega
    ·rw[if_neg h2,if_neg h2]
     have b4:=b3 (by simpa using h2)
     by_cases h3:(win.length:Int)<(nextR k g l a).1.d
     ·rw[if_pos h3,if_pos h3,if_pos (.inl (by show(60:Int)≠0;decide))]
     ·rw[if_neg h3,if_neg h3]
      by_cases h4:most<made+lenT (nextR k g l a).1
      ·rw[if_pos h4,if_pos h4,if_pos (.inl (by show(140:Int)≠0;decide))]
      ·rw[if_neg h4,if_neg h4]
       refine fed_two H f _ _ _ _ _ b2 ?_
       simp only[muT];omega
def upS(d:Nat)(r:SwR):SwR:=if r.err=0 then{r with at_:=d+r.at_}else r
theorem upS_ok{d:Nat}{st:Option Blk13}{ov:Bool}{win:List Nat}{made:Nat}{out:List Nat}{a:Nat}:upS d ⟨0,st,ov,win,made,out,a⟩=⟨0,st,ov,win,made,out,d+a⟩:=if_pos rfl
theorem upS_err{d:Nat}{e:Int}(h:e≠0):upS d (swE e)=swE e:=if_neg h
theorem mu_drop{L s a:Nat}(hs:s≤L)(st:Option Blk13):muT (L-s) a st=muT L (8*s+a) st:=by
 cases st<;>simp only[muT]<;>omega
theorem fed_drop{g:Nat→Nat}{L s most:Nat}(hs:s≤L):∀f st win made out a,fedR g L most f st win made out (8*s+a)=upS (8*s) (fedR (dropG g s) (L-s) most f st win made out a)
 |0,st,win,made,out,a=>by unfold fedR;rw[upS_ok]
 |f+1,none,win,made,out,a=>by
  rw[fed_n,fed_n,beg_drop hs,upR_e,upR_1]
  by_cases h0:(begR (dropG g s) (L-s) a).2.2=10
  ·rw[if_pos h0,if_pos h0,upS_ok]
  ·rw[if_neg h0,if_neg h0]
   by_cases h1:(begR (dropG g s) (L-s) a).2.2≠0
   ·rw[if_pos h1,if_pos h1,upS_err h1]
   ·rw[if_neg h1,if_neg h1,upR_p (by omega)]
    exact fed_drop hs f _ _ _ _ _
 |f+1,some k,win,made,out,a=>by
  rw[fed_s,fed_s,next_drop hs]
  generalize nextR k (dropG g s) (L-s) a=R
  obtain⟨t,en,p,e⟩:=R
  by_cases h0:e=10
  ·subst h0;rw[upN_err (by decide)];dsimp only;rw[if_pos rfl,if_pos rfl,upS_ok]
  ·by_cases h1:e≠0
   ·rw[upN_err h1];dsimp only;rw[if_neg h0,if_neg h0,if_pos h1,if_pos h1,upS_err h1]
   ·obtain rfl:e=0:=by omega
    rw[upN_ok]
    dsimp only
    rw[if_neg h0,if_neg h0,if_neg h1,if_neg h1]
    by_cases h2:en=true
    ·rw[if_pos h2,if_pos h2]
     by_cases h3:k.last=true
     ·rw[if_pos h3,if_pos h3,upS_ok]
     ·rw[if_neg h3,if_neg h3];exact fed_drop hs f _ _ _ _ _
    ·rw[if_neg h2,if_neg h2]
     split
     ·rw[upS_err (by decide)]
     ·split
      ·rw[upS_err (by decide)]
      ·exact fed_drop hs f _ _ _ _ _
theorem fed_dropA{g:Nat→Nat}{L s most:Nat}(hs:s≤L)(st:Option Blk13)(win:List Nat)(made:Nat)(out:List Nat)(a:Nat):fedA g L most st win made out (8*s+a)=upS (8*s) (fedA (dropG g s) (L-s) most st win made out a):=by
 unfold fedA
 rw[mu_drop hs]
 exact fed_drop hs _ _ _ _ _ _
theorem lastN_len(S:Nat)(l:List Nat):(lastN S l).length=min l.length S:=by unfold lastN;rw[List.length_drop];omega
theorem cop_last{S:Nat}{all:List Nat}{d n:Nat}(hd:1≤d)(hw:d≤(lastN S all).length):copL (lastN S all) d n=copL all d n:=by
 unfold copL
 refine List.map_congr_left fun i _=>?_
 have hl:=lastN_len S all
 rw[hl]at hw⊢
 have hm:i%d<d:=Nat.mod_lt _ hd
 unfold lastN
 rw[List.getD_eq_getElem?_getD,List.getD_eq_getElem?_getD,List.getElem?_drop]
 congr 2
 omega
theorem tok_last{S:Nat}{all:List Nat}{t:Tok}(hm:mayT t=true)(hd:¬((lastN S all).length:Int)<t.d):tokB (lastN S all) t=tokB all t:=by
 unfold tokB
 rcases mayT_is hm with⟨h1,_⟩|⟨h1,_,_,_,h5,_⟩
 ·rw[if_pos h1,if_pos h1]
 ·rw[if_neg h1,if_neg h1]
  exact cop_last (by omega) (by omega)
theorem win_last{all:List Nat}{t:Tok}:winI (lastN 32768 all) (tokB all t)=lastN 32768 (stpT all t):=by
 unfold winI;rw[lastN_two,stp_tok]
structure FedTold (hist out:List Nat) (r:List Nat×Nat×Int) (q:SwR):Prop where
 pre:hist<+:r.1
 bad:r.2.2≠0→r.2.2≠10→q=swE r.2.2
 fin:r.2.2=0→q=⟨0,none,true,lastN 32768 r.1,r.1.length,out++r.1.drop hist.length,r.2.1⟩
 wait:r.2.2=10→∃st,q=⟨0,st,false,lastN 32768 r.1,r.1.length,out++r.1.drop hist.length,r.2.1⟩
theorem FedTold.err0{hist out:List Nat}{a:Nat}{e:Int}(h:e≠0)(h2:e≠10):FedTold hist out (hist,a,e) (swE e):=
 ⟨List.prefix_rfl,fun _ _=>rfl,fun h3=>absurd h3 h,fun h3=>absurd h3 h2⟩
theorem FedTold.fin0{hist out:List Nat}{a:Nat}:FedTold hist out (hist,a,0) ⟨0,none,true,lastN 32768 hist,hist.length,out,a⟩:=
 ⟨List.prefix_rfl,fun h=>absurd rfl h,fun _=>by dsimp only;rw[List.drop_length,List.append_nil],fun h=>absurd h (show¬(0:Int)=10 by decide)⟩
theorem FedTold.wait0{hist out:List Nat}{a:Nat}{st:Option Blk13}:FedTold hist out (hist,a,10) ⟨0,st,false,lastN 32768 hist,hist.length,out,a⟩:=
 ⟨List.prefix_rfl,fun _ h=>absurd rfl h,fun h=>absurd h (show¬(10:Int)=0 by decide),fun _=>⟨st,by dsimp only;rw[List.drop_length,List.append_nil]⟩⟩
theorem FedTold.step{hist out:List Nat}{t:Tok}{r:List Nat×Nat×Int}{q:SwR}(h:FedTold (stpT hist t) (out++tokB hist t) r q):FedTold hist out r q:=by
 obtain⟨i1,i2,i3,i4⟩:=h
 have hp:hist<+:stpT hist t:=stp_pre _ _
 have key:out++tokB hist t++r.1.drop (stpT hist t).length=out++r.1.drop hist.length:=by
  obtain⟨z,hz⟩:=i1
  rw[←hz,stp_tok,List.drop_left,show hist++tokB hist t++z=hist++(tokB hist t++z) by rw[List.append_assoc],List.drop_left,List.append_assoc]
 rw[key]at i3 i4
 exact⟨hp.trans i1,i2,i3,i4⟩
theorem fed_told{g:Nat→Nat}{L most:Nat}:∀f st hist out a,a≤8*L→muT L a st<f→
  FedTold hist out (toldA g L most st hist a) (fedR g L most f st (lastN 32768 hist) hist.length out a)
 |0,_,_,_,_,_,hf=>absurd hf (by omega)
 |f+1,none,hist,out,a,ha,hf=>by
  rw[fed_n,told_head ha]
  by_cases h1:(begR g L a).2.2≠0
  ·rw[if_pos h1]
   by_cases h0:(begR g L a).2.2=10
   ·rw[if_pos h0,h0];exact FedTold.wait0
   ·rw[if_neg h0,if_pos h1];exact FedTold.err0 h1 h0
  ·have h0:¬(begR g L a).2.2=10:=by omega
   rw[if_neg h1,if_neg h0,if_neg h1]
   obtain⟨b1,b2⟩:=beg_fwd (g:=g) (L:=L) (a:=a) (by omega)
   exact fed_told f _ _ _ _ b2 (by simp only[muT]at hf⊢;omega)
 |f+1,some k,hist,out,a,ha,hf=>by
  rw[fed_s,told_step ha]
  by_cases h1:(nextR k g L a).2.2.2≠0
  ·rw[if_pos h1]
   by_cases h0:(nextR k g L a).2.2.2=10
   ·rw[if_pos h0,h0];exact FedTold.wait0
   ·rw[if_neg h0,if_pos h1];exact FedTold.err0 h1 h0
  ·have h0:¬(nextR k g L a).2.2.2=10:=by omega
   rw[if_neg h1,if_neg h0,if_neg h1]
   obtain⟨b1,b2,b3⟩:=next_fwd (k:=k) (g:=g) ha (by omega)
   have hmy:=next_may (k:=k) (g:=g) (L:=L) (a:=a) (by omega)
   simp only[muT]at hf
   generalize nextR k g L a=R at b1 b2 b3 hmy⊢
   obtain⟨t,en,p,e⟩:=R
   dsimp only at b1 b2 b3 hmy⊢
   by_cases h2:en=true
   ·rw[if_pos h2,if_pos h2]
    by_cases h3:k.last=true
    ·rw[if_pos h3,if_pos h3];exact FedTold.fin0
    ·rw[if_neg h3,if_neg h3]
     exact fed_told f _ _ _ _ b2 (by simp only[muT];omega)
   ·rw[if_neg h2,if_neg h2]
    have b4:=b3 (by simpa using h2)
    obtain⟨m1,m2⟩:=hmy (by simpa using h2)
    have hd:t.d≤32768:=by rcases mayT_is m1 with⟨_,h⟩|⟨_,_,_,_,_,h⟩<;>omega
    have hl:=lastN_len 32768 hist
    by_cases h3:(hist.length:Int)<t.d
    ·have h3':((lastN 32768 hist).length:Int)<t.d:=by rw[hl];omega
     rw[if_pos h3,if_pos h3']
     exact FedTold.err0 (by decide) (by decide)
    ·have h3':¬((lastN 32768 hist).length:Int)<t.d:=by rw[hl];omega
     rw[if_neg h3,if_neg h3',tok_last m1 h3',win_last]
     by_cases h4:most<hist.length+lenT t
     ·rw[if_pos h4,if_pos h4]
      exact FedTold.err0 (by decide) (by decide)
     ·rw[if_neg h4,if_neg h4,←len_stp]
      exact FedTold.step (fed_told f (some (lessK k)) (stpT hist t) (out++tokB hist t) p b2 (by simp only[muT];omega))
end Go.Proofs.YtcmpmighjglnpaaGreat
namespace Go.Proofs.YtcmpmighjglnpaaGreat
section
variable {g:Nat→Nat} {L:Nat}
theorem read_room{F:Nat→Nat}{N M a:Nat}(hF:∀i,i<N→F i≤M):∀fuel n,n≤M→
  ((readR F N g L a fuel n).2.2=10→8*L<a+M)∧((readR F N g L a fuel n).2.2=0→(readR F N g L a fuel n).2.1≤a+M)
 |0,_,_=>⟨fun h=>absurd h (show¬(50:Int)=10 by decide),fun h=>absurd h (show¬(50:Int)=0 by decide)⟩
 |fuel+1,n,hn=>by
  simp only[readR]
  cases hf:fndN F N (bvN g a n) n N with
  |some i=>
   dsimp only
   exact⟨fun h=>absurd h (by decide),fun _=>by omega⟩
  |none=>
   dsimp only
   by_cases h1:morN F N (bvN g a n) n N=false
   ·rw[if_pos h1];exact⟨fun h=>absurd h (show¬(50:Int)=10 by decide),fun h=>absurd h (show¬(50:Int)=0 by decide)⟩
   ·rw[if_neg h1]
    have h2:morN F N (bvN g a n) n N=true:=by simpa using h1
    obtain⟨i,hi,hb⟩:=morN_true.1 h2
    have h3:=(of_decide_eq_true hb).1
    have h4:=hF i hi
    by_cases h5:8*L≤a+n
    ·rw[if_pos h5];exact⟨fun _=>by omega,fun h=>absurd h (show¬(10:Int)=0 by decide)⟩
    ·rw[if_neg h5];exact read_room hF fuel (n+1) (by omega)
theorem len_room{F:Nat→Nat}{n:Nat}(hF:∀i,i<19→F i≤7):∀k a out,(lenR F g L n k a out).2.2=10→8*L<a+14*(n-out.length)
 |0,_,_,h=>absurd h (show¬(0:Int)=10 by decide)
 |k+1,a,out,h=>by
  rw[lenR_s]at h
  by_cases h0:n≤out.length
  ·rw[if_pos h0]at h;exact absurd h (show¬(0:Int)=10 by decide)
  ·rw[if_neg h0]at h
   obtain⟨r1,r2⟩:=read_room (g:=g) (L:=L) (a:=a) hF 17 0 (by omega)
   generalize readR F 19 g L a 17 0=R at h r1 r2
   unfold lenG at h
   by_cases h1:R.2.2≠0
   ·rw[if_pos h1]at h
    have:=r1 h;omega
   ·rw[if_neg h1]at h
    have hp:=r2 (by omega)
    have hb:=bitsR_le (R.1:Int)
    by_cases h2:8*L<R.2.1+bitsR (R.1:Int)
    ·omega
    ·rw[if_neg h2]at h
     split at h
     ·exact absurd h (show¬(132:Int)=10 by decide)
     ·have ih:=len_room hF k _ _ h
      have ht:=times_pos (R.1:Int) ((numN g R.2.1 (bitsR (R.1:Int)):Nat):Int)
      rw[List.length_append,List.length_replicate]at ih
      omega
theorem beg_room{a:Nat}(h:(begR g L a).2.2=10):8*L<a+4600:=by
 unfold begR at h
 by_cases h0:8*L<a+3
 ·omega
 ·rw[if_neg h0]at h
  generalize numN g a 3=v at h
  unfold begW at h
  by_cases h1:v/2=3
  ·rw[if_pos h1]at h;exact absurd h (show¬(130:Int)=10 by decide)
  ·rw[if_neg h1]at h
   by_cases h2:v/2=2
   ·rw[if_pos h2]at h
    unfold dynR at h
    by_cases h3:8*L<a+3+14
    ·omega
    ·rw[if_neg h3]at h
     have hx:numN g (a+3) 14<2^14:=numN_lt g (a+3) 14
     generalize numN g (a+3) 14=x at h hx
     unfold dynV at h
     by_cases h4:286<x%32+257∨30<x/32%32+1
     ·rw[if_pos h4]at h;exact absurd h (show¬(132:Int)=10 by decide)
     ·rw[if_neg h4]at h
      have hx2:x/1024≤15:=by omega
      by_cases h5:8*L<a+3+14+3*(x/1024+4)
      ·omega
      ·rw[if_neg h5]at h
       unfold dynS at h
       split at h
       ·exact absurd h (show¬(132:Int)=10 by decide)
       ·rename_i h6
        have h7:checkE (shR g (a+3+14) (x/1024+4)) 19 7=0:=by omega
        have hF:∀i,i<19→shR g (a+3+14) (x/1024+4) i≤7:=fun i hi=>by
         have:=(check_ok h7).2.2.2.1 i hi;omega
        unfold dynL at h
        by_cases h8:(lenR (shR g (a+3+14) (x/1024+4)) g L (x%32+257+(x/32%32+1)) (x%32+257+(x/32%32+1)) (a+3+14+3*(x/1024+4)) []).2.2≠0
        ·rw[if_pos h8]at h
         have:=len_room hF _ _ _ h
         simp only[List.length_nil]at this
         omega
        ·rw[if_neg h8]at h
         unfold dynQ at h
         split at h
         ·exact absurd h (show¬(132:Int)=10 by decide)
         ·exact absurd h (show¬(0:Int)=10 by decide)
   ·rw[if_neg h2]at h
    by_cases h3:v/2=1
    ·rw[if_pos h3]at h;exact absurd h (show¬(0:Int)=10 by decide)
    ·rw[if_neg h3]at h
     unfold stoR at h
     by_cases h4:8*L<(a+3+7)/8*8+32
     ·omega
     ·rw[if_neg h4]at h
      unfold stoV at h
      split at h
      ·exact absurd h (show¬(131:Int)=10 by decide)
      ·exact absurd h (show¬(0:Int)=10 by decide)
theorem extB_le(far:Bool)(y:Nat):extB far y≤13:=by
 unfold extB
 cases far
 ·rw[if_neg (by decide)];have:=(lb_is (y:Int)).2;omega
 ·rw[if_pos rfl];have:=(fb_is (y:Int)).2;omega
theorem of_not10(far:Bool)(y x:Nat):ofE far y x≠10:=by
 unfold ofE
 cases far
 ·rw[if_neg (by decide)];unfold loE;repeat (first|(split)|(intro h;exact absurd h (by decide)))
 ·rw[if_pos rfl];unfold foE;repeat (first|(split)|(intro h;exact absurd h (by decide)))
theorem ext_room{far:Bool}{y a:Nat}:((extR far y g L a).2.2=10→8*L<a+13)∧((extR far y g L a).2.2=0→(extR far y g L a).2.1≤a+13):=by
 have hb:=extB_le far y
 unfold extR
 by_cases h0:extE far y≠0
 ·rw[if_pos h0]
  refine⟨fun h=>?_,fun h=>absurd h h0⟩
  exfalso
  have:extE far y=10:=h
  unfold extE at this
  cases far
  ·rw[if_neg (by decide)]at this;unfold lbE at this;split at this<;>omega
  ·rw[if_pos rfl]at this;unfold fbE at this;split at this<;>omega
 ·rw[if_neg h0]
  by_cases h1:8*L<a+extB far y
  ·rw[if_pos h1];exact⟨fun _=>by omega,fun h=>absurd h (show¬(10:Int)=0 by decide)⟩
  ·rw[if_neg h1]
   exact⟨fun h=>absurd h (of_not10 far y _),fun _=>by show a+extB far y≤_;omega⟩
theorem next_room{k:Blk13}{a:Nat}(hk:BlkIn k)(h:(nextR k g L a).2.2.2=10):8*L<a+60:=by
 unfold nextR at h
 by_cases h0:k.kind=0
 ·rw[if_pos h0]at h
  unfold nxtS at h
  by_cases h1:k.left=0
  ·rw[if_pos h1]at h;exact absurd h (show¬(0:Int)=10 by decide)
  ·rw[if_neg h1]at h
   by_cases h2:8*L<a+8
   ·omega
   ·rw[if_neg h2]at h;exact absurd h (show¬(0:Int)=10 by decide)
 ·rw[if_neg h0]at h
  obtain⟨r1,r2⟩:=read_room (g:=g) (L:=L) (a:=a) (hk.F h0).le 17 0 (by omega)
  generalize readR k.F k.n g L a 17 0=r at h r1 r2
  unfold nxtA at h
  by_cases h1:r.2.2≠0
  ·rw[if_pos h1]at h;have:=r1 h;omega
  ·rw[if_neg h1]at h
   have p1:=r2 (by omega)
   by_cases h2:r.1<256
   ·rw[if_pos h2]at h;exact absurd h (show¬(0:Int)=10 by decide)
   ·rw[if_neg h2]at h
    by_cases h3:r.1=256
    ·rw[if_pos h3]at h;exact absurd h (show¬(0:Int)=10 by decide)
    ·rw[if_neg h3]at h
     obtain⟨x1,x2⟩:=ext_room (g:=g) (L:=L) (far:=false) (y:=r.1) (a:=r.2.1)
     generalize extR false r.1 g L r.2.1=x at h x1 x2
     unfold nxtB at h
     by_cases h4:x.2.2≠0
     ·rw[if_pos h4]at h;have:=x1 h;omega
     ·rw[if_neg h4]at h
      have p2:=x2 (by omega)
      obtain⟨q1,q2⟩:=read_room (g:=g) (L:=L) (a:=x.2.1) (hk.G h0).le 17 0 (by omega)
      generalize readR k.G k.m g L x.2.1 17 0=q at h q1 q2
      unfold nxtC at h
      by_cases h5:q.2.2≠0
      ·rw[if_pos h5]at h;have:=q1 h;omega
      ·rw[if_neg h5]at h
       have p3:=q2 (by omega)
       obtain⟨y1,y2⟩:=ext_room (g:=g) (L:=L) (far:=true) (y:=q.1) (a:=q.2.1)
       generalize extR true q.1 g L q.2.1=y at h y1 y2
       unfold nxtD at h
       by_cases h6:y.2.2≠0
       ·rw[if_pos h6]at h;have:=y1 h;omega
       ·rw[if_neg h6]at h;exact absurd h (show¬(0:Int)=10 by decide)
end
end Go.Proofs.YtcmpmighjglnpaaGreat
namespace Go.Proofs.YtcmpmighjglnpaaGreat
open Go.RowKit
theorem wpIn_range_st{F:Fence}{n:Nat}{P:Program}{g:Operand}{ps:Array Tmp}{assign body:Code}{Q:Exit→Act→World→Prop}{a:Act}{w:World}
  (hro:F.round=none) (h1:1≤n) {gf:Nat} {lb:Array Value} (hg:a.eval g=.func (.func gf) #[] lb) (hFg:F.fn gf) (eg:∀args w,(callFunc gf args).run P w=.ok (.enter gf args) w)
  {σ:Type} (enc:σ→Array Value) (hps:∀s,(enc s).size=ps.size) (Is Ie:World→Prop) (I0 I1:σ→World→Prop)
  (hIs:OwnFrom w.heap.size (fun _:Unit=>Is)) (hI1:OwnFrom w.heap.size I1) (hIe:OwnFrom w.heap.size (fun _:Unit=>Ie))
  (hseq:∀(l:Nat) (X:World→Prop) (W:World),(∀W1 W2,X W1→(∀k,(k=w.heap.size∨k=w.heap.size+1)→W2.heap[k]?=W1.heap[k]?)→X W2)→
   (∀s W1,I0 s W1→w.heap.size+2≤W1.heap.size→X W1→YieldAt F (n-1-1) P l (enc s) W1 fun e W'=>e=.returned (.bool true)∧I1 s W'∧w.heap.size+2≤W'.heap.size∧X W')→
   w.heap.size+2≤W.heap.size→Is W→X W→CallsIn F (n-1) P gf (#[.func (.yield l) #[] #[]]++lb) W fun e W'=>(∃v,e=.returned v)∧Ie W'∧X W')
  (h0:Is w) (Ia:σ→Act→World→Prop) (hIa:∀a₁,OwnFrom w.heap.size (fun s=>Ia s a₁))
  (hassign:∀(l:Nat) (s:σ) (W:World) (K:Act→World→Prop),I0 s W→w.heap.size+2≤W.heap.size→(∀a₁ W₁,KeepsOthers W W₁→W.heap.size≤W₁.heap.size→Ia s a₁ W₁→K a₁ W₁)→
   assign.wpIn (F.inRound l) (n-1-1) P (Exit.then K (fun _ _ _=>False)) {tmps:=(ps.zip (enc s)).foldl (fun t (p,v)=>t.setIfInBounds p v) a.tmps,defers:=[]} W)
  (hbody:∀(l:Nat) (s:σ) (a₁:Act) (W:World),Ia s a₁ W→body.wpIn (F.inRound l) (n-1-1) P (fun e _ W'=>e=.normal∧KeepsOthers W W'∧W.heap.size≤W'.heap.size∧I1 s W') a₁ W)
  (hdone:∀(D:Nat) (W:World),w.heap.size≤D→Ie W→W.heap[D]?=some (.deferred (some []))→Q .normal {a with defers:={target:=.collected D,args:=#[]}::a.defers} W):
  (Code.rangeFunc g ps assign body).wpIn F n P Q a w:=by
 refine wpIn_rangeFunc fun fn hfn=>?_
 rw[hro]
 obtain⟨rec,hrec⟩:∃rec:LoopState→Loop,rec=fun st=>{state:=st,pending:=none,fn,tmps:=a.tmps,params:=ps,assign,body,defers:=w.heap.size}:=⟨_,rfl⟩
 obtain⟨D,hD⟩:∃D,D=w.heap.size:=⟨_,rfl⟩
 obtain⟨W1,hW1⟩:∃W1,W1=(w.alloc (.deferred (some []))).alloc (.loop (rec .ready)):=⟨_,rfl⟩
 have hL1:W1.heap[D+1]?=some (.loop (rec .ready)):=by
  rw[hW1,hD];have h:=World.alloc_heap_new (w.alloc (.deferred (some []))) (.loop (rec .ready));rwa[World.size_alloc]at h
 have hK1:W1.heap[D]?=some (.deferred (some [])):=by
  rw[hW1,hD];exact(Below.heap_alloc _ _ _ (by simp)).trans (World.alloc_heap_new w _)
 have hI1':Is W1:=by rw[hW1];exact hIs.alloc (s:=()) _ (hIs.alloc (s:=()) _ h0)
 have hs1:W1.heap.size=D+2:=by rw[hW1,hD];simp
 refine⟨D+1,[{target:=.collected D,args:=#[]}],W1,{target:=.fn (.func gf) lb,args:=#[.func (.yield (D+1)) #[] #[]]},W1,gf,#[.func (.yield (D+1)) #[] #[]]++lb,W1,?_,?_,?_,?_,fun _=>h1,?_⟩
 ·rw[hW1,hrec,hD];exact run_enterLoop_outer _ _ _ _ _
 ·simp only[resolve,hg]
  simp[go_sem]
 ·intro f' hf';simp[Target.leads]at hf';subst hf';exact hFg
 ·simp[invoke,go_sem,eg]
 ·refine(hseq (D+1) (fun W=>W.heap[D+1]?=some (.loop (rec .ready))∧W.heap[D]?=some (.deferred (some []))) W1 ?_ ?_ (by omega) hI1' ⟨hL1,hK1⟩).mono ?_
  ·rintro A B ⟨hl,hk⟩ hb
   exact⟨(hb _ (.inr (by omega))).trans hl,(hb _ (.inl hD)).trans hk⟩
  ·rintro s W hi hsz ⟨hl,hk⟩
   have hlt:D+1<W.heap.size:=(Array.getElem?_eq_some_iff.1 hl).1
   have hy:=run_yield (P:=P) (args:=enc s) hl (by rw[hrec];exact hps s)
   rw[hrec]at hy
   refine⟨fn,_,assign,body,hy,roundIn_of_wpIn hfn (hassign _ s W _ hi hsz fun a₁ Wa hko hsa hia=>?_)⟩
   have hla:=hko.same _ _ hl rfl
   have hka:=hko.same _ _ hk rfl
   have hlta:D+1<Wa.heap.size:=(Array.getElem?_eq_some_iff.1 hla).1
   refine⟨_,run_beginRound hla (by rw[hrec]),?_⟩
   have hl2:(Wa.putObj (D+1) (.loop {rec .ready with state:=.busy})).heap[D+1]?=some (.loop {rec .ready with state:=.busy}):=World.putObj_heap_same hlta
   have hk2:(Wa.putObj (D+1) (.loop {rec .ready with state:=.busy})).heap[D]?=some (.deferred (some [])):=(World.putObj_heap_other (by omega)).trans hka
   have hsp:∀(V:World) (i:Nat) (o:Obj),(V.putObj i o).heap.size=V.heap.size:=fun V i o=>by simp[World.putObj]
   refine wpIn_mono (hbody _ s _ _ ((hIa a₁).putObj _ hia (by omega) hla rfl)) ?_
   rintro e a3 W3 ⟨rfl,hk3,hs3,hi3⟩
   have hl3:=hk3.same _ _ hl2 rfl
   have hr:=run_endRound (P:=P) none hl3
   rw[hrec]at hr hl3
   refine⟨_,_,hr,rfl,hI1.putObj _ hi3 (by omega) hl3 rfl,?_,?_,(World.putObj_heap_other (by omega)).trans (hk3.same _ _ hk2 rfl)⟩
   ·rw[hsp]at hs3⊢;omega
   ·rw[World.putObj_heap_same (Array.getElem?_eq_some_iff.1 hl3).1,hrec];rfl
  ·rintro e W2 ⟨⟨v,rfl⟩,hi,hl,hk⟩
   refine⟨none,_,by have h:=run_endLoop (P:=P) hl (by rw[hrec];simp);rw[hrec]at h;exact h,?_⟩
   exact hdone D _ (by omega) (hIe.putObj (s:=()) _ hi (by omega) hl rfl) ((World.putObj_heap_other (by omega)).trans hk)
end Go.Proofs.YtcmpmighjglnpaaGreat
namespace Go.Proofs.YtcmpmighjglnpaaGreat
open Go.RowKit Go.ChangeShapes Go.WideShapes Go.ChangeAt Go.Joins
theorem play8_any(w:World)(A:Option Addr)(n c:Nat)(f:Nat→Nat)(A2:Option Addr)(m c2:Nat)(l:List Tok)(hr:ByR w w.heap.size A n c f)(ht:TkR w w.heap.size A2 m c2 l)(hin:∀t∈l,TokIn t):
  Calls Tryz.prog 55 #[.slice A n c,.slice A2 m c2] w fun e w'=>∃A' n' c',e=.returned (.tuple #[.slice A' n' c',.int .i64 (plyO f n l).1])∧n'=(plyO f n l).2.length∧ByR w' w'.heap.size A' n' c' (lst (plyO f n l).2)∧Below w.heap.size w w'∧NewB w' w.heap.size A' n':=by
 obtain⟨hm,ht2,_⟩:=ht
 obtain⟨O,hO⟩:∃O,O=plyO f n l:=⟨_,rfl⟩
 rw[←hO]
 have HR:=Lib.hid hr;have HT:=Lib.hid ht2;have HX:=Lib.hid hin;have HM:=Lib.hid hm;have HO:=Lib.hid hO
 have hnl:∀j,lst [] j<256:=fun j=>by unfold lst;simp
 clear hr ht2 hin hO
 by_cases hbig:131072<n∨131072<m
 ·have e:O=(4,[]):=HO.out.trans (if_pos (by rw[←hm];exact hbig))
  subst e
  by_cases q2:131072<n
  ·have d1:decide (131072<(n:Int))=true:=by simp;omega
   clear hm
   go_enter Tryz.func55,Tryz.ntmps55
   go_wp2
   go_ret2
   exact⟨none,0,0,rfl,rfl,ByR.nil _ _ _ hnl,Below.refl _ _,NewB.nil _ _ _⟩
  ·have d1:decide (131072<(n:Int))=false:=by simp;omega
   have d2:decide (131072<(m:Int))=true:=by simp;omega
   clear hm
   go_enter Tryz.func55,Tryz.ntmps55
   go_wp2
   go_ret2
   exact⟨none,0,0,rfl,rfl,ByR.nil _ _ _ hnl,Below.refl _ _,NewB.nil _ _ _⟩
 have d1:decide (131072<(n:Int))=false:=by simp;omega
 have d2:decide (131072<(m:Int))=false:=by simp;omega
 have hO2:O=plyR n l (preL f n):=HO.out.trans (if_neg (by rw[←hm];exact hbig))
 have hL0:∀x∈preL f n,x<256:=fun x hx=>by
  unfold preL at hx;rw[List.mem_map]at hx;obtain⟨i,_,rfl⟩:=hx;exact HR.out.1.1 i
 have HCL:=Lib.hid (clone8_any w A n c f HR.out (by omega))
 have HL0:=Lib.hid hL0;have HO2:=Lib.hid hO2
 have hn1:n≤131072:=by omega
 have hm1:m≤131072:=by omega
 clear hL0 hO2 HO hm hbig
 go_enter Tryz.func55,Tryz.ntmps55
 go_wp2_with fail
 refine HCL.out.mono ?_
 rintro e w1 ⟨A1,c1,rfl,hown,hb1⟩
 rw[preL_lst]at hown
 have HOWN:=Lib.hid hown;have HB1:=Lib.hid hb1
 clear hown hb1 HCL
 go_wp2_with fail
 go_loopw [6,22] (fun ov iv wr=>∃(i q:Nat) (At:Option Addr) (ct:Nat) (L:List Nat),i≤m∧n≤q∧q≤n+131072∧ov=.slice At q ct∧iv=.int .i64 (i:Int)∧Hid (q=L.length)∧Hid (plyR n (l.drop i) L=O)∧Hid (∀x∈L,x<256)∧Hid (wr.ownsRow w.heap.size 5 1 (.slice At q ct) q (bytesL q (lst L)))∧Hid (Below w.heap.size w wr)) (fun _ iv _=>m-(intOf iv).toNat)
 case atStart=>exact⟨0,n,A1,c1,preL f n,Nat.zero_le _,Nat.le_refl _,by omega,rfl,rfl,Lib.hid (preL_length f n).symm,Lib.hid HO2.out.symm,HL0,HOWN,HB1⟩
 case round=>
  obtain⟨i,q,At,ct,L,hi,hnq,hqb,rfl,rfl,HQ,HP,HL,HW,HB⟩:=hrel
  by_cases hlt:i<m
  ·have hlti:(i:Int)<(m:Int):=by omega
   have hil:i<l.length:=by rw[←HM.out];exact hlt
   have htw:=HT.out.below HB.out (Nat.le_refl _)
   obtain⟨b,o,rfl,hbl,hc⟩:=htw.at hil
   have hrg:=htw.range rfl hil
   have hstep:=plyR_step (A:=n) hil L
   obtain⟨t,hte⟩:∃t,t=l.getD i tok0:=⟨_,rfl⟩
   rw[←hte]at hrg hstep
   have hti:TokIn t:=by
    rw[hte,List.getD_eq_getElem?_getD,List.getElem?_eq_getElem hil];exact HX.out _ (List.getElem_mem hil)
   rw[HP.out,←HQ.out]at hstep
   clear hte hil hc htw
   obtain⟨tx,td,tn⟩:=t
   obtain⟨mb,hmb⟩:∃mb,mb=mayT ⟨tx,td,tn⟩:=⟨_,rfl⟩
   obtain⟨h,hh⟩:∃h,h=wr.heap.size:=⟨_,rfl⟩
   obtain⟨W2,hW2⟩:∃W2,W2=mkV wr #[.int .u8 0,.int .i64 0,.int .i64 0] (tokC ⟨tx,td,tn⟩).toArray 82:=⟨_,rfl⟩
   have hb2:Below wr.heap.size wr W2:=by rw[hW2];exact mkV_below _ _ _ _
   have hrow:W2.heap[h]?=some (.cells (tokC ⟨tx,td,tn⟩).toArray 82 (0,0)):=by rw[hW2,hh];exact mkV_row wr _ _ _
   have hs2:h<W2.heap.size:=by rw[hW2,hh,mkV_size];omega
   have htk:=tok8_any W2 ⟨tx,td,tn⟩ hti
   obtain⟨E,hE⟩:∃E,E=tokE ⟨tx,td,tn⟩:=⟨_,rfl⟩
   rw[←hE]at htk
   have hEb:E=if mb=true then 0 else 8:=by rw[hE,hmb];rfl
   have x0:W2.cell? ⟨h,0,none⟩=some (.int .u8 (tx:Int)):=(cell_of_row W2 _ 0 _ _ (0,0) hrow).trans rfl
   have x1:W2.cell? ⟨h,1,none⟩=some (.int .i64 td):=(cell_of_row W2 _ 1 _ _ (0,0) hrow).trans rfl
   have x2:W2.cell? ⟨h,2,none⟩=some (.int .i64 tn):=(cell_of_row W2 _ 2 _ _ (0,0) hrow).trans rfl
   have HRG:=Lib.hid hrg;have HSTEP:=Lib.hid hstep;have HTI:=Lib.hid hti;have HMB:=Lib.hid hmb;have HH:=Lib.hid hh;have HW2:=Lib.hid hW2;have HB2:=Lib.hid (HB.out.trans (hb2.mono HB.out.size));have HROW:=Lib.hid hrow;have HTK:=Lib.hid htk;have HWW:=Lib.hid (own_keep HW.out hb2);have HEB:=Lib.hid hEb
   clear hrg hstep hmb hti hW2 hb2 hrow htk hh HW HB hE hEb
   go_wp2_with (first|refine wpList_load_mid rfl _ _ rfl b (o+i*3) rfl (tokC ⟨tx,td,tn⟩) _ HRG.out Tryz.underlying82 rfl szTok ?_|refine wpList_store_rowTo rfl _ _ _ rfl rfl wr.heap.size (tokC ⟨tx,td,tn⟩).toArray rfl rfl 82 #[.int .u8 0,.int .i64 0,.int .i64 0] (heap_alloc_new wr _) (szTokA _) rfl (tokA_one _) ?_;change wpList _ _ _ _ _ (mkV wr #[.int .u8 0,.int .i64 0,.int .i64 0] (tokC ⟨tx,td,tn⟩).toArray 82);rw[←HW2.out,←HH.out])
   refine HTK.out.mono ?_
   rintro e w3 ⟨rfl,hb3⟩
   have HB3:=Lib.hid (HB2.out.trans (hb3.mono HB2.out.size))
   have HW3:=Lib.hid (own_keep HWW.out hb3)
   have y0:=(hb3.cell (p:=⟨h,0,none⟩) hs2).trans x0
   have y1:=(hb3.cell (p:=⟨h,1,none⟩) hs2).trans x1
   have y2:=(hb3.cell (p:=⟨h,2,none⟩) hs2).trans x2
   have hst:=HSTEP.out
   clear x0 x1 x2 hs2 hb3 HSTEP HTK HWW HB2 HRG HW2 HROW
   cases mb with
   |false=>
    rw[if_pos HMB.out.symm]at hst
    subst hst
    obtain rfl:E=8:=HEB.out
    clear y0 y1 y2
    go_wp2
    go_ret2
    exact⟨none,0,0,rfl,rfl,ByR.nil _ _ _ hnl,HB3.out,NewB.nil _ _ _⟩
   |true=>
    rw[if_neg (by rw[←HMB.out];decide)]at hst
    obtain rfl:E=0:=HEB.out
    by_cases hdq:(q:Int)<td
    ·rw[if_pos hdq]at hst
     subst hst
     go_wp2
     go_ret2
     exact⟨none,0,0,rfl,rfl,ByR.nil _ _ _ hnl,HB3.out,NewB.nil _ _ _⟩
    rw[if_neg hdq]at hst
    have HBE:=Lib.hid (behind8_any w3 w.heap.size ⟨tx,td,tn⟩ At ct q L HQ.out HL.out HTI.out.1 HW3.out HB3.out.size (by omega) HMB.out.symm (by show td≤(q:Int);omega))
    have HST:=Lib.hid hst
    clear hst
    go_wp2_with fail
    refine HBE.out.mono ?_
    rintro e w4 ⟨A',q',c',rfl,hq',ho4,hb4⟩
    have hl:=len_stp L ⟨tx,td,tn⟩
    have hlt2:=lenT_le HMB.out.symm
    have hst:=HST.out
    rw[←hq',←HQ.out]at hl
    have HB4:=Lib.hid (HB3.out.trans hb4)
    have hLs:∀x∈stpT L ⟨tx,td,tn⟩,x<256:=stp_lt HL.out HTI.out.1
    obtain⟨g,hg⟩:∃g,g=q'-n:=⟨_,rfl⟩
    have eg:(q':Int)-(n:Int)=(g:Int):=by omega
    rw[show q-n+lenT ⟨tx,td,tn⟩=g by omega]at hst
    have HQ4:=Lib.hid hq';have HO4:=Lib.hid ho4;have HLS:=Lib.hid hLs
    have hq4:n≤q'∧q'≤n+131072+258:=by omega
    obtain⟨hq5,hq6⟩:=hq4
    have hq7:g=q'-n:=hg
    clear hq' ho4 hb4 hLs hl hlt2 y0 y1 y2 HBE HST hg
    by_cases hmany:131072<g
    ·rw[if_pos hmany]at hst
     subst hst
     have dm:131072<(g:Int):=by omega
     clear hq7
     go_wp2
     go_ret2
     exact⟨none,0,0,rfl,rfl,ByR.nil _ _ _ hnl,HB4.out,NewB.nil _ _ _⟩
    ·rw[if_neg hmany]at hst
     have dm:¬131072<(g:Int):=by omega
     have hq8:q'≤n+131072:=by omega
     have HP1:=Lib.hid hst.symm
     clear hq7 hst hmany
     go_wp2
     go_roundw
     case rel=>
      exact⟨i+1,q',A',c',stpT L ⟨tx,td,tn⟩,by omega,hq5,hq8,rfl,by go_num,HQ4,HP1,HLS,HO4,HB4⟩
     case measure=>simp[intOf];omega
  ·obtain rfl:i=m:=by omega
   have hlti:¬(i:Int)<(i:Int):=by omega
   have hfin:=HP.out
   have hdr:l.drop i=[]:=List.drop_eq_nil_of_le (by rw[←HM.out];exact Nat.le_refl _)
   rw[hdr]at hfin
   have hO3:O=(0,L.drop n):=hfin.symm
   subst hO3
   have hby:=ByR.of_own HW.out (lst_lt HL.out)
   have hlen:q-n=(L.drop n).length:=by rw[List.length_drop,HQ.out]
   have hdl:∀j,lst L (j+n)=lst (L.drop n) j:=fun j=>by
    unfold lst
    rw[List.getD_eq_getElem?_getD,List.getD_eq_getElem?_getD,List.getElem?_drop,Nat.add_comm]
   have hl6:∀j,lst (L.drop n) j<256:=lst_lt fun x hx=>HL.out x (List.mem_of_mem_drop hx)
   have hqc:q≤ct:=hby.2.2.1
   have hni:(n:Int)≤(q:Int):=by omega
   rcases At with _|ad
   ·have hc0:=hby.2.1 rfl
    obtain rfl:ct=0:=hc0
    have hq0:q=0:=by omega
    have hn0:n=0:=by omega
    subst hq0;subst hn0
    have hfin:ByR wr wr.heap.size none 0 0 (lst (L.drop 0)):=ByR.nil _ _ _ hl6
    have HFIN:=Lib.hid hfin;have HLEN:=Lib.hid hlen
    clear hfin hby hlen hdl hl6 hdr
    go_wp2
    go_ret2
    exact⟨none,0,0,rfl,(by have:=HLEN.out;simpa using this),HFIN.out,HB.out,NewB.nil _ _ _⟩
   ·obtain⟨A3,hA3⟩:∃A3,(if ct=n then(some ad:Option Addr)else some (ad.add n))=A3:=⟨_,rfl⟩
    have hfin:=(hby.drop (p:=n) hnq hA3).ext hl6 (fun j _=>hdl j)
    have hnew:=NewB.of_own HW.out hqc hnq hA3
    have HFIN:=Lib.hid hfin;have HLEN:=Lib.hid hlen;have HNEW:=Lib.hid hnew
    clear hfin hby hlen hdl hl6 hdr hnew
    go_wp2
    go_ret2
    exact⟨A3,q-n,ct-n,rfl,(by have:=HLEN.out;simpa using this),HFIN.out,HB.out,HNEW.out⟩
end Go.Proofs.YtcmpmighjglnpaaGreat
namespace Go.Proofs.YtcmpmighjglnpaaGreat
open Go.RowKit Go.ChangeShapes Go.WideShapes Go.ChangeAt Go.Joins
attribute [local go_sem] Oper.semAt_some
attribute [local simp] wide_fn
theorem run_oneT_g(w:World)(base:Nat)(A:Option Addr)(n c:Nat)(l:List Tok)(hown:w.ownsRow base 82 3 (.slice A n c) n (toksL l))(t:Tok)(hn:n≤1000000)(hbase:base≤w.heap.size):
  ∃A' c' w',(Builtin.append_ #[94,94] 94 #[.slice A n c,.slice (some ⟨w.heap.size,0,none⟩) 1 1]).run Tryz.prog (w.alloc (.cells #[.int .u8 (t.x:Int),.int .i64 t.d,.int .i64 t.n] 82))=.ok (.slice A' (n+1) c') w'∧
   w'.ownsRow base 82 3 (.slice A' (n+1) c') (n+1) (toksL (l++[t]))∧Below base w w'∧KeepsOthers w w'∧(∀k,k<w.heap.size→(Value.slice A n c).ownBlock≠some k→w'.heap[k]?=w.heap[k]?):=by
 have hb1:Below base w (w.alloc (.cells #[.int .u8 (t.x:Int),.int .i64 t.d,.int .i64 t.n] 82)):=(Below.refl base w).alloc hbase _
 have ho1:=hown.alloc (.cells #[.int .u8 (t.x:Int),.int .i64 t.d,.int .i64 t.n] 82)
 obtain⟨A',c',w',h2,o2,b2⟩:=run_app_g (by_:=24) Tryz.underlying94 infoTok rfl (by decide) (w.alloc (.cells #[.int .u8 (t.x:Int),.int .i64 t.d,.int .i64 t.n] 82)) base _ (.slice A n c) n _ ho1 _ 1 1 _
  (SrcL.new w 3 1 #[.int .u8 (t.x:Int),.int .i64 t.d,.int .i64 t.n] 82 rfl) (fun u hu=>by simp at hu;rcases hu with rfl|rfl|rfl<;>rfl) (by unfold maxLen;omega) (by omega) 94 (fun h=>by cases h) (Nat.le_trans hbase hb1.size)
 refine⟨A',c',w',h2,?_,hb1.trans ((Below.refl base _).grown b2 (Nat.le_trans hbase hb1.size) (own_geS ho1)),(KeepsOthers.alloc w _).trans (KeepsOthers.of_grownBy b2 (own_cells ho1)),fun k hk hne=>?_⟩
 ·rw[toksL_app];exact o2
 ·refine(b2.block k (by simp;omega) (fun e=>hne e.symm)).trans ?_
  exact(Below.refl w.heap.size w).alloc (Nat.le_refl _) (.cells #[.int .u8 (t.x:Int),.int .i64 t.d,.int .i64 t.n] 82)|>.block k hk
theorem grown_cells{W W':World}{row:Option Nat}{x:Nat}{cs:Array Value}{t:TypeId}{fr:Nat×Nat}(h:W.heap[x]?=some (.cells cs t fr))(hg:W.grownBy W' row)(hr:∀r,row=some r→∃o:Obj,W.heap[r]?=some o∧o.isCells=false):W'.heap[x]?=some (.cells cs t fr):=by
 refine(hg.block x (Array.getElem?_eq_some_iff.1 h).1 fun he=>?_).trans h
 obtain⟨o,ho,hc⟩:=hr x he.symm
 rw[ho]at h
 cases h;cases hc
end Go.Proofs.YtcmpmighjglnpaaGreat
namespace Go.Proofs.YtcmpmighjglnpaaGreat
open Go.RowKit Go.Shelf
attribute [local go_sem] Oper.semAt_some
attribute [local simp] wide_fn
structure Lie where
 w0:World
 p:Nat
 A:Option Addr
 l:Nat
 c:Nat
 z:Nat
 lim:Nat
 ds:List Nat
 top:Nat
 ok:w0.heap.size=z∧p<z
 tok:z≤top
def Lie.u(x:Lie):Nat:=x.z+4
structure Col (x:Lie) (T:List Tok) (M:Nat) (q:Rz) (W:World):Prop where
 rdr:Rdr W x.p x.A x.l x.c q
 bp:Boxed W x.z 123 (.pointer (some ⟨x.p,0,none⟩))
 bm:Boxed W (x.z+1) 3 (.int .i64 (x.lim:Int))
 bd:Boxed W (x.z+3) 3 (.int .i64 (M:Int))
 row:∃(B:Option Addr) (n:Nat),Boxed W (x.z+2) 94 (.slice B T.length n)∧W.ownsRow x.u 82 3 (.slice B T.length n) T.length (toksL T)
 fr:Fr (At x.p) x.w0 W
 mks:∀D∈x.ds,x.z≤D∧D<x.top∧W.heap[D]?=some (.deferred (some []))
theorem mark_ne{W:World}{D g:Nat}{cs:Array Value}{t:TypeId}(h:W.heap[D]?=some (.deferred (some [])))(hb:W.heap[g]?=some (.cells cs t (0,0))):D≠g:=fun e=>by
 subst e;rw[h]at hb;cases hb
theorem boxed_fr{S:Nat→Prop}{w w':World}{g:Nat}{v:Value}{t:TypeId}(h:Boxed w g t v)(k:Fr S w w')(hg:¬S g):Boxed w' g t v:=BoxC.fr h k hg
theorem Col.step{x:Lie}{T:List Tok}{M:Nat}{q q':Rz}{W W':World}(h:Col x T M q W)(f:Fr (At x.p) W W')(r:Rdr W' x.p x.A x.l x.c q'):Col x T M q' W':=by
 obtain⟨B,n,b,o⟩:=h.row
 have hp:=x.ok
 have hn:∀i,¬At x.p (x.z+i):=fun i (e:x.z+i=x.p)=>by omega
 exact⟨r,boxed_fr h.bp f (hn 0),boxed_fr h.bm f (hn 1),boxed_fr h.bd f (hn 3),⟨B,n,boxed_fr b f (hn 2),own_fr o f (fun j (e:j=x.p)=>by unfold Lie.u;omega)⟩,h.fr.trans f,fun D hD=>by
  obtain⟨d1,d2,d3⟩:=h.mks D hD
  exact⟨d1,d2,(f.block D (Array.getElem?_eq_some_iff.1 d3).1 (fun(e:D=x.p)=>by omega)).trans d3⟩⟩
theorem Col.on{x:Lie}{T:List Tok}{M:Nat}{q:Rz}{W W':World}(h:Col x T M q W)(f:Below W.heap.size W W'):Col x T M q W':=h.step (Fr.of f) (BoxC.below h.rdr f h.rdr.lt)
theorem Fr.grown{S:Nat→Prop}{w W W':World}{row:Option Nat}(h:Fr S w W)(hg:W.grownBy W' row)(hr:∀r,row=some r→w.heap.size≤r):Fr S w W':=
 ⟨hg.os.trans h.os,hg.tape.trans h.tape,hg.output.trans h.output,Nat.le_trans h.size hg.size,fun i hi hS=>(hg.block i (Nat.lt_of_lt_of_le hi h.size) (fun e=>by have:=hr i e.symm;omega)).trans (h.block i hi hS)⟩
theorem Col.grown{x:Lie}{T:List Tok}{M:Nat}{q:Rz}{W W':World}{row:Option Nat}(h:Col x T M q W)(hg:W.grownBy W' row)(hr:∀r,row=some r→x.top≤r∧∃o:Obj,W.heap[r]?=some o∧o.isCells=false):Col x T M q W':=by
 obtain⟨B,n,b,o⟩:=h.row
 have hk:=fun r e=>(hr r e).2
 exact⟨grown_cells h.rdr hg hk,grown_cells h.bp hg hk,grown_cells h.bm hg hk,grown_cells h.bd hg hk,⟨B,n,grown_cells b hg hk,own_grown o hg hk⟩,h.fr.grown hg fun r e=>(by rw[x.ok.1];exact Nat.le_trans x.tok (hr r e).1),fun D hD=>by
  obtain⟨d1,d2,d3⟩:=h.mks D hD
  exact⟨d1,d2,(hg.block D (Array.getElem?_eq_some_iff.1 d3).1 (fun e=>by have:=(hr D e.symm).1;omega)).trans d3⟩⟩
structure Blo (x:Lie) (k:Blk13) (c1 c2:Nat→Int) (v1 v2:Value) (y1 y2:List Int) (b:Nat) (left:Nat) (W:World):Prop where
 bp:Boxed W b 123 (.pointer (some ⟨x.p,0,none⟩))
 bk:BoxC W (b+1) (blkT k.kind k.last left c1 c2 v1 v2) 28
 o1:OwnS W x.u v1 y1
 o2:OwnS W x.u v2 y2
 le:x.u≤b
theorem Blo.fr{x:Lie}{k:Blk13}{c1 c2:Nat→Int}{v1 v2:Value}{y1 y2:List Int}{b left:Nat}{W W':World}(h:Blo x k c1 c2 v1 v2 y1 y2 b left W)(f:Fr (At x.p) W W'):Blo x k c1 c2 v1 v2 y1 y2 b left W':=by
 have hp:=x.ok
 have hl:=h.le
 unfold Lie.u at hl
 have hS:∀j,At x.p j→j<x.u:=fun j (e:j=x.p)=>by unfold Lie.u;omega
 exact⟨boxed_fr h.bp f (fun(e:b=x.p)=>by omega),h.bk.fr f (fun(e:b+1=x.p)=>by omega),h.o1.fr f hS,h.o2.fr f hS,h.le⟩
theorem Blo.grown{x:Lie}{k:Blk13}{c1 c2:Nat→Int}{v1 v2:Value}{y1 y2:List Int}{b left:Nat}{W W':World}{row:Option Nat}(h:Blo x k c1 c2 v1 v2 y1 y2 b left W)(hg:W.grownBy W' row)(hk:∀r,row=some r→∃o:Obj,W.heap[r]?=some o∧o.isCells=false):Blo x k c1 c2 v1 v2 y1 y2 b left W':=
 ⟨grown_cells h.bp hg hk,grown_cells h.bk hg hk,own_grown h.o1 hg hk,own_grown h.o2 hg hk,h.le⟩
theorem blkT_left(k:Nat)(b:Bool)(l l':Nat)(c1 c2:Nat→Int)(v1 v2:Value):(blkT k b l c1 c2 v1 v2).setIfInBounds 2 (.int .i64 (l':Int))=blkT k b l' c1 c2 v1 v2:=by kernel_rfl
theorem Blo.less{x:Lie}{k:Blk13}{c1 c2:Nat→Int}{v1 v2:Value}{y1 y2:List Int}{b left:Nat}{W:World}(h:Blo x k c1 c2 v1 v2 y1 y2 b left W)(left':Nat):Blo x k c1 c2 v1 v2 y1 y2 b left' (W.setCell ⟨b+1,2,none⟩ (.int .i64 (left':Int))):=by
 have f:=Fr.cell W (b+1) 2 (.int .i64 (left':Int))
 refine⟨boxed_fr h.bp f (fun(e:b=b+1)=>by omega),?_,?_,?_,h.le⟩
 ·have:=h.bk.set 2 (.int .i64 (left':Int));rwa[blkT_left]at this
 ·exact own_blk h.o1 fun j hj=>f.block j (own_blk_lt h.o1 j hj).2 fun(e:j=b+1)=>own_type h.o1 h.bk (by kernel_rfl) (e▸hj)
 ·exact own_blk h.o2 fun j hj=>f.block j (own_blk_lt h.o2 j hj).2 fun(e:j=b+1)=>own_type h.o2 h.bk (by kernel_rfl) (e▸hj)
theorem Col.less{x:Lie}{T:List Tok}{M:Nat}{q:Rz}{k:Blk13}{c1 c2:Nat→Int}{v1 v2:Value}{y1 y2:List Int}{b left:Nat}{W:World}(h:Col x T M q W)(hb:Blo x k c1 c2 v1 v2 y1 y2 b left W)(left':Nat):Col x T M q (W.setCell ⟨b+1,2,none⟩ (.int .i64 (left':Int))):=by
 obtain⟨B,n,b',o⟩:=h.row
 have hp:=x.ok
 have hl:=hb.le
 unfold Lie.u at hl
 have f:=Fr.cell W (b+1) 2 (.int .i64 (left':Int))
 have hn:∀i,i<4→¬At (b+1) (x.z+i):=fun i hi (e:x.z+i=b+1)=>by omega
 exact⟨h.rdr.fr f (fun(e:x.p=b+1)=>by omega),boxed_fr h.bp f (hn 0 (by omega)),boxed_fr h.bm f (hn 1 (by omega)),boxed_fr h.bd f (hn 3 (by omega)),⟨B,n,boxed_fr b' f (hn 2 (by omega)),own_blk o fun j hj=>f.block j (own_blk_lt o j hj).2 fun(e:j=b+1)=>own_type o hb.bk (by kernel_rfl) (e▸hj)⟩,h.fr.from f fun j (e:j=b+1)=>.inr (by rw[x.ok.1];omega),fun D hD=>by
  obtain⟨d1,d2,d3⟩:=h.mks D hD
  exact⟨d1,d2,(f.block D (Array.getElem?_eq_some_iff.1 d3).1 (fun(e:D=b+1)=>mark_ne d3 hb.bk e)).trans d3⟩⟩
structure Sy where
 T:List Tok
 M:Nat
 q:Rz
 left:Nat
 t:Tok
def encY(s:Sy):Array Value:=#[.agg #[.int .u8 (s.t.x:Int),.int .i64 s.t.d,.int .i64 s.t.n]]
def SyOk(x:Lie)(s:Sy):Prop:=s.q.2=0∧s.q.1≤8*x.l∧s.M≤x.lim∧s.T.length≤s.M∧mayT s.t=true∧s.t.x<256
def I0y(x:Lie)(k:Blk13)(c1 c2:Nat→Int)(v1 v2:Value)(y1 y2:List Int)(b:Nat)(s:Sy)(W:World):Prop:=Col x s.T s.M s.q W∧Blo x k c1 c2 v1 v2 y1 y2 b s.left W∧SyOk x s
def I1y(x:Lie)(k:Blk13)(c1 c2:Nat→Int)(v1 v2:Value)(y1 y2:List Int)(b:Nat)(s:Sy)(W:World):Prop:=
 Col x (bdT x.lim s.M s.T s.t s.q) (s.M+lenT s.t) (bdQ x.lim s.M s.t s.q) W∧Blo x k c1 c2 v1 v2 y1 y2 b s.left W∧SyOk x s
def EndB(g:Nat→Nat)(x:Lie)(k:Blk13)(R:List Nat×Nat×Int)(T:List Tok)(M:Nat)(q:Rz)(lo:Nat):Prop:=TBad x.lim R T q∨((if k.last=true then TFin x.lim R T q else TGo g x.l x.lim R T M q none)∧lo≤q.1)
def IeY(g:Nat→Nat)(x:Lie)(k:Blk13)(R:List Nat×Nat×Int)(lo:Nat)(W:World):Prop:=∃T M q,Col x T M q W∧EndB g x k R T M q lo
def InB(g:Nat→Nat)(x:Lie)(k:Blk13)(Gd:Prop)(R:List Nat×Nat×Int)(T:List Tok)(M:Nat)(q:Rz)(left lo:Nat):Prop:=(Gd∧TGo g x.l x.lim R T M q (some {k with left:=left})∧lo≤q.1)∨(TBad x.lim R T q∧q.1≤8*x.l)
def IsY(g:Nat→Nat)(x:Lie)(k:Blk13)(c1 c2:Nat→Int)(v1 v2:Value)(y1 y2:List Int)(b:Nat)(Gd:Prop)(R:List Nat×Nat×Int)(lo:Nat)(W:World):Prop:=
 ∃T M q left,Col x T M q W∧Blo x k c1 c2 v1 v2 y1 y2 b left W∧left≤65535∧(k.kind≠0→left=0)∧InB g x k Gd R T M q left lo
end Go.Proofs.YtcmpmighjglnpaaGreat
namespace Go.Proofs.YtcmpmighjglnpaaGreat
open Go.RowKit Go.Shelf
attribute [local go_sem] Oper.semAt_some
attribute [local simp] wide_fn
theorem stT_in{k:Blk13}{g:Nat→Nat}{L:Nat}{s:Rz}(h:s.1≤8*L):(stT k g L s).2.2.1≤8*L:=by
 unfold stT
 split
 ·split
  ·exact h
  ·exact tkS_in h
 ·dsimp only
  split
  ·exact syS_in h
  ·split
   ·exact syS_in h
   ·exact nuS_in (syS_in (nuS_in (syS_in h)))
theorem stT_fwd{k:Blk13}{g:Nat→Nat}{L:Nat}{s:Rz}(h:s.1≤8*L)(h0:s.2=0):(stT k g L s).2.2.2=0→s.1≤(stT k g L s).2.2.1:=by
 obtain⟨a,e⟩:=s
 have e0:e=0:=h0
 subst e0
 intro h1
 obtain⟨s1,s2⟩:=stT_is (k:=k) (g:=g) (L:=L) (a:=a)
 rcases Int.decEq (nextR k g L a).2.2.2 0 with h2|h2
 ·exact absurd ((s2 h2).symm.trans h1) h2
 ·rw[s1 h2];exact(next_fwd h h2).1
theorem TGo.step2{g:Nat→Nat}{L lim:Nat}{R:List Nat×Nat×Int}{T:List Tok}{M:Nat}{q:Rz}{k:Blk13}(h:TGo g L lim R T M q (some k)){t:Tok}{en:Bool}{q':Rz}(hr:(t,en,q')=stT k g L q):
  (q'.2≠0→TBad lim R T q')∧(q'.2=0→en=true→if k.last=true then TFin lim R T q' else TGo g L lim R T M q' none)∧
  (q'.2=0→en=false→mayT t=true∧t.x<256∧q.1+1≤q'.1∧q'.1≤8*L∧((bdQ lim M t q').2≠0→TBad lim R (bdT lim M T t q') (bdQ lim M t q'))∧((bdQ lim M t q').2=0→TGo g L lim R (bdT lim M T t q') (M+lenT t) (bdQ lim M t q') (some (lessK k)))):=by
 obtain⟨a,e⟩:=q
 have e0:e=0:=h.err
 subst e0
 have:=h.step
 rw[←hr]at this
 exact this
theorem steps1_in(fu:Nat)(hfu:1≤fu)(g:Nat→Nat)(x:Lie)(hg0:RdF (At x.p) x.w0 x.A x.l g)(hl:x.l≤1000000)(k:Blk13)(hkd:k.kind<256)(hn:k.n≤320)(hm:k.m≤320)(c1 c2:Nat→Int)(v1 v2:Value)(y1 y2:List Int)(b:Nat)
  (Gd:Prop) (hit:Gd→k.kind≠0→IsTree c1 y1 (extF k.n k.F)∧IsTree c2 y2 (extF k.m k.G)) (R:List Nat×Nat×Int) (lo:Nat) (lY:Nat) (X:World→Prop) (D:Nat) (hbD:b+1<D)
  (hX:∀W1 W2,X W1→(∀k,(k=D∨k=D+1)→W2.heap[k]?=W1.heap[k]?)→X W2)
  (hY:∀s W1,I0y x k c1 c2 v1 v2 y1 y2 b s W1→D+2≤W1.heap.size→X W1→YieldAt Fence.wide (fu-1) Tryz.prog lY (encY s) W1 fun e W'=>e=.returned (.bool true)∧I1y x k c1 c2 v1 v2 y1 y2 b s W'∧D+2≤W'.heap.size∧X W')
  (W:World) (hD:D+2≤W.heap.size) (hI:IsY g x k c1 c2 v1 v2 y1 y2 b Gd R lo W) (hx:X W):
  CallsIn Fence.wide fu Tryz.prog 102 #[.func (.yield lY) #[] #[],.pointer (some ⟨b,0,none⟩),.pointer (some ⟨b+1,0,none⟩)] W fun e W'=>(∃v,e=.returned v)∧IeY g x k R lo W'∧X W':=by
 refine callsIn_of_wp Tryz.func102 rfl trivial ?_ rfl
 simp only[Tryz.ntmps102,List.size_toArray,List.length_cons,List.length_nil,Nat.reduceAdd,Nat.reduceSub,Array.replicate_succ,Array.replicate_zero,List.push_toArray,List.append_toArray,List.nil_append,List.cons_append]
 have HG0:=Lib.hid hg0;have HIT:=Lib.hid hit;have HX:=Lib.hid hX;have HY:=Lib.hid hY;have HOK:=Lib.hid x.ok
 have HIs:=Lib.hid hI;have HXW:=Lib.hid hx
 clear hg0 hit hX hY hI hx
 gi_wp2
 gi_loopw [] (fun wr=>∃(T:List Tok) (M:Nat) (q:Rz) (left:Nat),Hid (Col x T M q wr)∧Hid (Blo x k c1 c2 v1 v2 y1 y2 b left wr)∧left≤65535∧Hid (k.kind≠0→left=0)∧Hid (InB g x k Gd R T M q left lo)∧Hid (X wr)∧D+2≤wr.heap.size) (fun wr=>match wr.cell? ⟨x.p,1,none⟩,wr.cell? ⟨x.p,2,none⟩with|some (.int .i64 a),some (.int .i64 e)=>if e=0 then 8*x.l+1-a.toNat else 0|_,_=>0)
 case atStart=>
  obtain⟨T,M,q,left,h1,h2,h3,h4,h5⟩:=HIs.out
  exact⟨T,M,q,left,Lib.hid h1,Lib.hid h2,h3,Lib.hid h4,Lib.hid h5,HXW,hD⟩
 case round=>
  obtain⟨T,M,q,left,HC,HB,hleft,HL0,HIN,HXR,hsz⟩:=hrel
  have cb:=(HB.out.bp).cell
  have hq8:q.1≤8*x.l:=by rcases HIN.out with h|h;exact h.2.1.place;exact h.2
  obtain⟨kk,hkk⟩:∃kk:Blk13,kk={k with left:=left}:=⟨_,rfl⟩
  have hS:∀j,At x.p j→j<x.u:=fun j (e:j=x.p)=>by have:=HOK.out;unfold Lie.u;omega
  have hpl:x.p<wr.heap.size:=HC.out.rdr.lt
  have hst:=pstep_any wr x.p x.A x.l x.c g q HC.out.rdr (At x.p) rfl (fun j (e:j=x.p)=>by omega) (HG0.out.fr HC.out.fr) hl hq8 kk (by rw[hkk];exact hkd) (by rw[hkk];exact hleft) (by rw[hkk];exact hn) (by rw[hkk];exact hm) c1 c2 v1 v2 HB.out.o1.one HB.out.o2.one (fun e=>by
   rcases HIN.out with h|h
   ·intro k0
    rw[hkk]at k0⊢
    obtain⟨t1,t2⟩:=HIT.out h.1 k0
    exact⟨⟨y1,RiF.of_own HB.out.o1 hS,t1⟩,⟨y2,RiF.of_own HB.out.o2 hS,t2⟩⟩
   ·exact absurd e h.1.err)
  have hTG:q.2=0→Gd∧TGo g x.l x.lim R T M q (some kk)∧lo≤q.1:=fun e=>by
   rcases HIN.out with h|h
   ·exact⟨h.1,by rw[hkk];exact h.2.1,h.2.2⟩
   ·exact absurd e h.1.err
  have hTB:q.2≠0→TBad x.lim R T q:=fun e=>by
   rcases HIN.out with h|h
   ·exact absurd h.2.1.err e
   ·exact h.1
  have hk1:kk.last=k.last∧kk.kind=k.kind∧kk.left=left:=by rw[hkk];exact⟨rfl,rfl,rfl⟩
  have HSE:=Lib.hid (stT_err (k:=kk) (g:=g) (L:=x.l) (s:=q))
  obtain⟨⟨⟨tx,td,tn⟩,en,q'⟩,hr⟩:∃r,r=stT kk g x.l q:=⟨_,rfl⟩
  rw[←hr]at hst HSE
  have hin':q'.1≤8*x.l:=by have:=stT_in (k:=kk) (g:=g) (L:=x.l) (s:=q) hq8;rw[←hr]at this;exact this
  have HSTP:=Lib.hid fun e=>(hTG e).2.1.step2 hr
  have HST:=Lib.hid hst;have HTG:=Lib.hid hTG;have HTB:=Lib.hid hTB;have HK1:=Lib.hid hk1;have HIN':=Lib.hid hin'
  have HM1:=Lib.hid (HC.out.rdr.a);have HM2:=Lib.hid (HC.out.rdr.e)
  rw[hk1.2.1,hk1.1,hk1.2.2]at HST
  obtain⟨V,hV⟩:∃V,V=blkT k.kind k.last left c1 c2 v1 v2:=⟨_,rfl⟩
  rw[←hV]at HST
  have HBK:Hid (BoxC wr (b+1) V 28):=Lib.hid (by rw[hV];exact HB.out.bk)
  have HVS:Hid (V.size=37):=Lib.hid (by rw[hV];exact blkT_size ..)
  unfold stpV tkA3 at HST
  have HRR:=Lib.hid hr;have HKK:=Lib.hid hkk;have HVE:=Lib.hid hV
  clear hst hTG hTB hk1 hr hV hkk hin' hS hpl hq8
  gi_wp2_with (first
   |(refine wpListIn_load_row rfl _ _ rfl (b+1) rfl _ V (0,0) _ HBK.out Tryz.underlying28 rfl (szBlkT _ HVS.out) ?_)
   |fail)
  refine(callsIn_wide.2 HST.out).mono ?_
  rintro e w2 ⟨rfl,r2,f2⟩
  have hDp:D≠x.p∧D+1≠x.p:=by have:=HOK.out;have:=HB.out.le;unfold Lie.u at this;omega
  have hc2:=HC.out.step f2 r2
  have hb2:=HB.out.fr f2
  have hx2:=HX.out wr w2 HXR.out (fun j hj=>f2.block j (by rcases hj with e|e<;>omega) (fun(e:j=x.p)=>by rcases hj with h|h<;>omega))
  have hs2:D+2≤w2.heap.size:=Nat.le_trans hsz f2.size
  obtain⟨W3,hW3⟩:∃W,W=w2.alloc (.cells #[.int .u8 (tx:Int),.int .i64 td,.int .i64 tn] 82):=⟨_,rfl⟩
  have hb3:Below w2.heap.size w2 W3:=by rw[hW3];exact(Below.refl _ _).alloc (Nat.le_refl _) _
  have HC3:=Lib.hid (hc2.on hb3)
  have HB3:=Lib.hid (hb2.fr (Fr.of hb3))
  have HX3:=Lib.hid (HX.out w2 W3 hx2 (fun j hj=>hb3.block j (by rcases hj with e|e<;>omega)))
  have hs3:D+2≤W3.heap.size:=Nat.le_trans hs2 hb3.size
  have HT3:Hid (BoxC W3 w2.heap.size #[.int .u8 (tx:Int),.int .i64 td,.int .i64 tn] 82):=Lib.hid (by rw[hW3];exact BoxC.new w2 _ _)
  have cb3:=(HB3.out.bp).cell
  have ce3:W3.cell? ⟨x.p,2,none⟩=some (.int .i64 q'.2):=HC3.out.rdr.e
  rw[hW3]at cb3 ce3
  have HW3:=Lib.hid hW3
  clear r2 f2 hc2 hb2 hx2 hs2 hb3 hW3 HST HXR hsz cb
  have HEND:Hid (q'.2≠0→TBad x.lim R T q'):=Lib.hid (fun e=>by
   rcases Int.decEq q.2 0 with e0|e0
   ·have e2:q'=q:=HSE.out e0
    rw[e2]at e⊢
    exact HTB.out e0
   ·exact(HSTP.out e0).1 e)
  cases en
  ·by_cases he:q'.2=0
   ·have hq0:q.2=0:=by
     rcases Int.decEq q.2 0 with e0|e0
     ·have e2:q'=q:=HSE.out e0
      rw[e2]at he;exact he
     ·exact e0
    have d0:(q'.2==0)=true:=by rw[he];rfl
    have d1:(q'.2 !=0)=false:=by simp[bne,d0]
    obtain⟨m1,m2,m3,m4,m5,m6⟩:=(HSTP.out hq0).2.2 he rfl
    have hok:SyOk x ⟨T,M,q',left,⟨tx,td,tn⟩⟩:=⟨he,m4,(HTG.out hq0).2.1.room,(HTG.out hq0).2.1.ok.count,m1,m2⟩
    obtain⟨fn,tmps,assign,body,hy,hRR⟩:=HY.out ⟨T,M,q',left,⟨tx,td,tn⟩⟩ W3 ⟨HC3.out,HB3.out,hok⟩ hs3 HX3.out
    have hen:encY ⟨T,M,q',left,⟨tx,td,tn⟩⟩=#[.agg #[.int .u8 (tx:Int),.int .i64 td,.int .i64 tn]]:=rfl
    rw[hen]at hy
    rw[HW3.out]at hy hRR
    have HRR2:=Lib.hid hRR;have HM:=Lib.hid (And.intro m3 (And.intro m4 (And.intro m5 m6)));have HQ0:=Lib.hid hq0;have HE0:=Lib.hid he
    have HGD:=Lib.hid (HTG.out hq0).1;have HLO:=Lib.hid (HTG.out hq0).2.2
    clear m1 m2 m3 m4 m5 m6 hok hen hRR hq0 he HTG HTB HSE HSTP HEND
    gi_wp2
    refine HRR2.out.mono ?_
    rintro e W4 ⟨rfl,⟨i1,i2,i3⟩,hs4,hx4⟩
    obtain⟨q4,hq4⟩:∃q4,q4=bdQ x.lim M ⟨tx,td,tn⟩ q':=⟨_,rfl⟩
    obtain⟨T4,hT4⟩:∃q4,q4=bdT x.lim M T ⟨tx,td,tn⟩ q':=⟨_,rfl⟩
    obtain⟨M4,hM4⟩:∃q4,q4=M+lenT ⟨tx,td,tn⟩:=⟨_,rfl⟩
    have i1':Col x T4 M4 q4 W4:=by rw[hT4,hM4,hq4];exact i1
    have i2':Blo x k c1 c2 v1 v2 y1 y2 b left W4:=i2
    have ca:=i2'.bk.cell (i:=0)
    have cl:=i2'.bk.cell (i:=2)
    have fl:=i2'.bk.free (i:=2)
    rw[show(blkT k.kind k.last left c1 c2 v1 v2)[0]?=some (.int .u8 (k.kind:Int))from rfl]at ca
    rw[show(blkT k.kind k.last left c1 c2 v1 v2)[2]?=some (.int .i64 (left:Int))from rfl]at cl
    have h12:=HM.out
    rw[←hq4,←hT4,←hM4]at h12
    have hin4:q4.1=q'.1:=by rw[hq4];exact bdQ_in _ _ _ _
    have HI1:=Lib.hid i1';have HI2:=Lib.hid i2';have HX4:=Lib.hid hx4;have H12:=Lib.hid h12;have HIN4:=Lib.hid hin4
    clear i1 i2 i3 i1' i2' hx4 h12 hq4 hT4 hM4 hin4 hy HRR2 HM HC3 HB3 HX3 HT3 cb3 ce3
    by_cases k0:k.kind=0
    ·have d2:((k.kind:Int)==0)=true:=by rw[k0];rfl
     have hl1:1≤left:=by
      rcases Nat.eq_zero_or_pos left with z|z
      ·exfalso
       have hrr:=HRR.out
       rw[HKK.out,stp_sto0 (k:={k with left:=left}) k0 z]at hrr
       injection hrr with _ h2
       injection h2 with h2 _
       cases h2
      ·exact z
     have hle:(left:Int)-1=((left-1:Nat):Int):=by omega
     have HLE:=Lib.hid hle
     have HK0:=Lib.hid k0
     obtain⟨kd,hkd2⟩:∃kd,kd=k.kind:=⟨_,rfl⟩
     rw[←hkd2]at ca d2
     clear k0 hle hkd2
     have hcol:=HI1.out.less HI2.out (left-1)
     have hblo:=HI2.out.less (left-1)
     rw[←HLE.out]at hcol hblo
     have n1:=hcol.rdr.a
     have n2:=hcol.rdr.e
     have hxx:=HX.out W4 (W4.setCell ⟨b+1,2,none⟩ (.int .i64 ((left:Int)-1))) HX4.out (fun j hj=>Below.heap_setCell W4 ⟨b+1,2,none⟩ _ j (by show j≠b+1;rcases hj with e|e<;>omega))
     have hss:(W4.setCell ⟨b+1,2,none⟩ (.int .i64 ((left:Int)-1))).heap.size=W4.heap.size:=by simp[World.setCell]
     have HN1:=Lib.hid n1;have HN2:=Lib.hid n2;have HCL:=Lib.hid hcol;have HBL:=Lib.hid hblo;have HXX:=Lib.hid hxx;have HSS:=Lib.hid hss
     clear n1 n2 hcol hblo hxx hss
     gi_wp2
     refine⟨⟨T4,M4,q4,left-1,HCL.out,HBL.out,by omega,Lib.hid (fun h=>absurd HK0.out h),Lib.hid ?_,HXX,by rw[HSS.out];exact hs4⟩,?_⟩
     ·rcases Int.decEq q4.2 0 with e|e
      ·exact .inr ⟨H12.out.2.2.1 e,by rw[HIN4.out];exact H12.out.2.1⟩
      ·refine .inl ⟨HGD.out,?_⟩
       have:=H12.out.2.2.2 e
       rw[HKK.out]at this
       exact⟨this,by have:=HLO.out;have:=H12.out.1;have:=HIN4.out;omega⟩
     ·rw[HN1.out,HN2.out,HM1.out,HM2.out]
      show(if q4.2=0 then 8*x.l+1-(q4.1:Int).toNat else 0)<(if q.2=0 then 8*x.l+1-(q.1:Int).toNat else 0)
      have h1:=H12.out.1;have h2:=H12.out.2.1;have h3:=HIN4.out
      rw[if_pos HQ0.out]
      split<;>omega
    ·have d2:((k.kind:Int)==0)=false:=beq_eq_false_iff_ne.2 (by omega)
     have hl0:=HL0.out k0
     obtain⟨kd,hkd2⟩:∃kd,kd=k.kind:=⟨_,rfl⟩
     rw[←hkd2]at ca d2
     have n1:=HI1.out.rdr.a
     have n2:=HI1.out.rdr.e
     have HN1:=Lib.hid n1;have HN2:=Lib.hid n2;have HZ:=Lib.hid hl0;have HK0:=Lib.hid k0
     clear k0 hkd2 n1 n2 hl0
     gi_wp2
     refine⟨⟨T4,M4,q4,left,HI1,HI2,by omega,Lib.hid (fun _=>HZ.out),Lib.hid ?_,HX4,hs4⟩,?_⟩
     ·rcases Int.decEq q4.2 0 with e|e
      ·exact .inr ⟨H12.out.2.2.1 e,by rw[HIN4.out];exact H12.out.2.1⟩
      ·refine .inl ⟨HGD.out,?_⟩
       have:=H12.out.2.2.2 e
       rw[HKK.out]at this
       have hz:=HZ.out
       subst hz
       exact⟨this,by have:=HLO.out;have:=H12.out.1;have:=HIN4.out;omega⟩
     ·rw[HN1.out,HN2.out,HM1.out,HM2.out]
      show(if q4.2=0 then 8*x.l+1-(q4.1:Int).toNat else 0)<(if q.2=0 then 8*x.l+1-(q.1:Int).toNat else 0)
      have h1:=H12.out.1;have h2:=H12.out.2.1;have h3:=HIN4.out
      rw[if_pos HQ0.out]
      split<;>omega
   ·have d0:(q'.2==0)=false:=beq_eq_false_iff_ne.2 he
    have d1:(q'.2 !=0)=true:=by simp[bne,d0]
    have HFB:=Lib.hid (HEND.out he)
    rw[HW3.out]at HX3 HC3
    clear he
    gi_wp2
    refine bodyPost_ret (results_none rfl _ _ _) rfl ?_
    exact⟨⟨_,rfl⟩,⟨T,M,q',HC3.out,.inl HFB.out⟩,HX3.out⟩
  ·have HEB:Hid (EndB g x k R T M q' lo):=Lib.hid (by
    rcases Int.decEq q'.2 0 with e|e
    ·exact .inl (HEND.out e)
    ·right
     have hq0:q.2=0:=by
      rcases Int.decEq q.2 0 with e0|e0
      ·have e2:q'=q:=HSE.out e0
       rw[e2]at e;exact e
      ·exact e0
     have:=(HSTP.out hq0).2.1 e rfl
     rw[HK1.out.1]at this
     have hfw:=stT_fwd (k:=kk) (g:=g) (L:=x.l) (HTG.out hq0).2.1.place hq0
     rw[←HRR.out]at hfw
     exact⟨this,Nat.le_trans (HTG.out hq0).2.2 (hfw e)⟩)
   rw[HW3.out]at HX3 HC3
   gi_wp2
   refine bodyPost_ret (results_none rfl _ _ _) rfl ?_
   exact⟨⟨_,rfl⟩,⟨T,M,q',HC3.out,HEB.out⟩,HX3.out⟩
end Go.Proofs.YtcmpmighjglnpaaGreat
