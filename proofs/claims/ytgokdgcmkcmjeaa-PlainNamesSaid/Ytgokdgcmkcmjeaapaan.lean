/-
  Words and walks.
-/
import Derived.BigRegion
import Derived.Deep.RegionLaw
import Derived.Lib.AppendZeros
import Derived.ShutString
import Derived.ChangeOld
import Derived.Deep.QuietTactic
import Derived.BigQuiet
import Derived.Test.Ytgokdgcmkcmjeaapaaa
import Derived.Test.Ytgokdgcmkcmjeaapaab
import Derived.Test.Ytgokdgcmkcmjeaapaac
import Derived.Test.Ytgokdgcmkcmjeaapaaf
import Derived.Test.Ytgokdgcmkcmjeaapaag
import Derived.Test.Ytgokdgcmkcmjeaapaah
import Derived.Test.Ytgokdgcmkcmjeaapaai
import Derived.Test.Ytgokdgcmkcmjeaapaak
import Derived.Test.Ytgokdgcmkcmjeaapaam
set_option maxRecDepth 100000
set_option maxHeartbeats 16000000
namespace Go.Proofs.Ytgokdgcmkcmjeaa
open Go.RowKit Go.ChangeShapes Go.WideShapes Go.ChangeAt Go.Joins
theorem own_blk{w w':World}{base sz n:Nat}{e:TypeId}{v:Value}{xs:List Value}(h:w.ownsRow base e sz v n xs)(hk:∀j,v.ownBlock=some j→w'.heap[j]?=w.heap[j]?):w'.ownsRow base e sz v n xs:=by
 obtain⟨h1,h2⟩:=h
 refine⟨h1,?_⟩
 rcases h2 with h2|⟨g,cap,cur,hv,hg,hh,r⟩
 ·exact .inl h2
 ·exact .inr ⟨g,cap,cur,hv,hg,(hk g (by rw[hv];rfl)).trans hh,r⟩
theorem own_blk_lt{w:World}{base sz n:Nat}{e:TypeId}{v:Value}{xs:List Value}(h:w.ownsRow base e sz v n xs):∀j,v.ownBlock=some j→base≤j∧j<w.heap.size:=by
 intro j hj
 rcases h.2 with⟨rfl,_⟩|⟨g,cap,cur,rfl,hg,hh,_⟩
 ·simp[Value.ownBlock]at hj
 ·simp[Value.ownBlock]at hj
  subst hj
  exact⟨hg,(Array.getElem?_eq_some_iff.1 hh).1⟩
end Go.Proofs.Ytgokdgcmkcmjeaa
namespace Go.Proofs.Ytgokdgcmkcmjeaa
structure Ahead (g:Nat→Nat) (l:Nat) (h:Nat→Nat) (m:Nat):Prop where
 le:l≤m
 bits:∀j,j<8*l→bitAt g j=bitAt h j
section
variable {g h:Nat→Nat} {l m:Nat}
theorem Ahead.num(H:Ahead g l h m){a n:Nat}(hl:a+n≤8*l):numN h a n=numN g a n:=numN_congr n fun j hj=>(H.bits _ (by omega)).symm
theorem Ahead.read(H:Ahead g l h m){F:Nat→Nat}{N a:Nat}(e:(readR F N g l a 17 0).2.2≠10):readR F N h m a 17 0=readR F N g l a 17 0:=by
 rcases read_alone (f:=F) (N:=N) (a:=a) H.le H.bits 17 0 (.inl rfl)with r|⟨r,_⟩
 ·exact r.symm
 ·exact absurd (congrArg (fun x=>x.2.2) r) e
theorem Ahead.sh(H:Ahead g l h m){a:Nat}:∀{k},a+3*k≤8*l→shR h a k=shR g a k
 |0,_=>rfl
 |k+1,e=>by
  simp only[shR]
  rw[H.sh (by omega),H.num (by omega)]
theorem Ahead.len(H:Ahead g l h m){F:Nat→Nat}{n:Nat}:∀k a out,a≤8*l→(lenR F g l n k a out).2.2≠10→lenR F h m n k a out=lenR F g l n k a out
 |0,_,_,_,_=>rfl
 |k+1,a,out,ha,e=>by
  rw[lenR_s]at e
  rw[lenR_s,lenR_s]
  by_cases h0:n≤out.length
  ·rw[if_pos h0,if_pos h0]
  ·rw[if_neg h0]at e
   rw[if_neg h0,if_neg h0]
   have hr:=H.read (F:=F) (N:=19) (a:=a)
   have hin:=read_in (F:=F) (N:=19) (g:=g) ha
   generalize readR F 19 g l a 17 0=R at e hr hin⊢
   by_cases h1:R.2.2≠0
   ·have e2:R.2.2≠10:=by
     unfold lenG at e;rw[if_pos h1]at e;exact e
    rw[hr e2]
    unfold lenG
    rw[if_pos h1,if_pos h1]
   ·rw[hr (by omega)]
    obtain⟨r1,r2,_⟩:=hin (by omega)
    unfold lenG at e⊢
    rw[if_neg h1]at e
    rw[if_neg h1,if_neg h1]
    by_cases h2:8*l<R.2.1+bitsR (R.1:Int)
    ·rw[if_pos h2]at e;exact absurd rfl e
    ·have hm:=H.le
     rw[if_neg h2]at e
     rw[if_neg (show¬8*m<R.2.1+bitsR (R.1:Int) by omega),if_neg h2,H.num (by omega)]
     split at e
     ·rename_i h3
      rw[if_pos h3,if_pos h3]
     ·rename_i h3
      rw[if_neg h3,if_neg h3]
      exact H.len k _ _ (by omega) e
theorem Ahead.beg(H:Ahead g l h m){a:Nat}(e:(begR g l a).2.2≠10):begR h m a=begR g l a:=by
 have hm:=H.le
 unfold begR at e⊢
 by_cases h0:8*l<a+3
 ·rw[if_pos h0]at e;exact absurd rfl e
 ·rw[if_neg h0]at e
  rw[if_neg h0,if_neg (by omega),H.num (by omega)]
  generalize numN g a 3=v at e⊢
  unfold begW at e⊢
  by_cases h1:v/2=3
  ·rw[if_pos h1,if_pos h1]
  ·rw[if_neg h1]at e
   rw[if_neg h1,if_neg h1]
   by_cases h2:v/2=2
   ·rw[if_pos h2]at e
    rw[if_pos h2,if_pos h2]
    generalize decide (v%2=1)=la at e⊢
    unfold dynR at e⊢
    by_cases h3:8*l<a+3+14
    ·rw[if_pos h3]at e;exact absurd rfl e
    ·rw[if_neg h3]at e
     rw[if_neg h3,if_neg (by omega),H.num (by omega)]
     generalize numN g (a+3) 14=u at e⊢
     unfold dynV at e⊢
     by_cases h4:286<u%32+257∨30<u/32%32+1
     ·rw[if_pos h4,if_pos h4]
     ·rw[if_neg h4]at e
      rw[if_neg h4,if_neg h4]
      by_cases h5:8*l<a+3+14+3*(u/1024+4)
      ·rw[if_pos h5]at e;exact absurd rfl e
      ·rw[if_neg h5]at e
       rw[if_neg h5,if_neg (by omega),H.sh (by omega)]
       unfold dynS at e⊢
       split at e
       ·rename_i h6
        rw[if_pos h6,if_pos h6]
       ·rename_i h6
        rw[if_neg h6,if_neg h6]
        have hl:=H.len (F:=shR g (a+3+14) (u/1024+4)) (n:=u%32+257+(u/32%32+1)) (u%32+257+(u/32%32+1)) (a+3+14+3*(u/1024+4)) [] (by omega)
        generalize lenR (shR g (a+3+14) (u/1024+4)) g l (u%32+257+(u/32%32+1)) (u%32+257+(u/32%32+1)) (a+3+14+3*(u/1024+4)) []=R at e hl⊢
        have e2:R.2.2≠10:=by
         by_cases h7:R.2.2≠0
         ·unfold dynL at e;rw[if_pos h7]at e;exact e
         ·omega
        rw[hl e2]
   ·rw[if_neg h2]at e
    rw[if_neg h2,if_neg h2]
    by_cases h3:v/2=1
    ·rw[if_pos h3,if_pos h3]
    ·rw[if_neg h3]at e
     rw[if_neg h3,if_neg h3]
     unfold stoR at e⊢
     by_cases h4:8*l<(a+3+7)/8*8+32
     ·rw[if_pos h4]at e;exact absurd rfl e
     ·rw[if_neg h4,if_neg (by omega),H.num (by omega)]
theorem Ahead.ext(H:Ahead g l h m){far:Bool}{s a:Nat}(e:(extR far s g l a).2.2≠10):extR far s h m a=extR far s g l a:=by
 have hm:=H.le
 unfold extR at e⊢
 split at e
 ·rename_i h1
  rw[if_pos h1,if_pos h1]
 ·rename_i h1
  rw[if_neg h1,if_neg h1]
  by_cases h2:8*l<a+extB far s
  ·rw[if_pos h2]at e;exact absurd rfl e
  ·rw[if_neg h2,if_neg (by omega),H.num (by omega)]
theorem Ahead.next(H:Ahead g l h m){k:Blk13}{a:Nat}(e:(nextR k g l a).2.2.2≠10):nextR k h m a=nextR k g l a:=by
 have hm:=H.le
 unfold nextR at e⊢
 by_cases h0:k.kind=0
 ·rw[if_pos h0]at e
  rw[if_pos h0,if_pos h0]
  unfold nxtS at e⊢
  by_cases h1:k.left=0
  ·rw[if_pos h1,if_pos h1]
  ·rw[if_neg h1]at e
   rw[if_neg h1,if_neg h1]
   by_cases h2:8*l<a+8
   ·rw[if_pos h2]at e;exact absurd rfl e
   ·rw[if_neg h2,if_neg (by omega),H.num (by omega)]
 ·rw[if_neg h0]at e
  rw[if_neg h0,if_neg h0]
  have hr:=H.read (F:=k.F) (N:=k.n) (a:=a)
  generalize readR k.F k.n g l a 17 0=r at e hr⊢
  by_cases h1:r.2.2≠0
  ·have e2:r.2.2≠10:=by unfold nxtA at e;rw[if_pos h1]at e;exact e
   rw[hr e2]
   unfold nxtA
   rw[if_pos h1,if_pos h1]
  ·rw[hr (by omega)]
   unfold nxtA at e⊢
   rw[if_neg h1]at e
   rw[if_neg h1,if_neg h1]
   by_cases h2:r.1<256
   ·rw[if_pos h2,if_pos h2]
   ·rw[if_neg h2]at e
    rw[if_neg h2,if_neg h2]
    by_cases h3:r.1=256
    ·rw[if_pos h3,if_pos h3]
    ·rw[if_neg h3]at e
     rw[if_neg h3,if_neg h3]
     have hx:=H.ext (far:=false) (s:=r.1) (a:=r.2.1)
     generalize extR false r.1 g l r.2.1=x at e hx⊢
     by_cases h4:x.2.2≠0
     ·have e2:x.2.2≠10:=by unfold nxtB at e;rw[if_pos h4]at e;exact e
      rw[hx e2]
      unfold nxtB
      rw[if_pos h4,if_pos h4]
     ·rw[hx (by omega)]
      unfold nxtB at e⊢
      rw[if_neg h4]at e
      rw[if_neg h4,if_neg h4]
      have hq:=H.read (F:=k.G) (N:=k.m) (a:=x.2.1)
      generalize readR k.G k.m g l x.2.1 17 0=q at e hq⊢
      by_cases h5:q.2.2≠0
      ·have e2:q.2.2≠10:=by unfold nxtC at e;rw[if_pos h5]at e;exact e
       rw[hq e2]
       unfold nxtC
       rw[if_pos h5,if_pos h5]
      ·rw[hq (by omega)]
       unfold nxtC at e⊢
       rw[if_neg h5]at e
       rw[if_neg h5,if_neg h5]
       have hy:=H.ext (far:=true) (s:=q.1) (a:=q.2.1)
       generalize extR true q.1 g l q.2.1=y at e hy⊢
       have e2:y.2.2≠10:=by
        by_cases h6:y.2.2≠0
        ·unfold nxtD at e;rw[if_pos h6]at e;exact e
        ·omega
       rw[hy e2]
end
theorem stp_pre(out:List Nat)(t:Tok):out<+:stpT out t:=by
 unfold stpT;split
 ·exact⟨_,rfl⟩
 ·exact⟨_,rfl⟩
theorem told_pre{g:Nat→Nat}{L lim:Nat}:∀f st out a,out<+:(told g L lim f st out a).1
 |0,_,_,_=>List.prefix_rfl
 |f+1,none,out,a=>by
  rw[told_n];split
  ·exact List.prefix_rfl
  ·exact told_pre f _ _ _
 |f+1,some k,out,a=>by
  rw[told_s];split
  ·exact List.prefix_rfl
  ·split
   ·split
    ·exact List.prefix_rfl
    ·exact told_pre f _ _ _
   ·split
    ·exact List.prefix_rfl
    ·split
     ·exact List.prefix_rfl
     ·exact(stp_pre out _).trans (told_pre f _ _ _)
theorem told_len{g:Nat→Nat}{L lim:Nat}:∀f st out a,out.length≤lim→(told g L lim f st out a).1.length≤lim
 |0,_,_,_,h=>h
 |f+1,none,out,a,h=>by
  rw[told_n];split
  ·exact h
  ·exact told_len f _ _ _ h
 |f+1,some k,out,a,h=>by
  rw[told_s];split
  ·exact h
  ·split
   ·split
    ·exact h
    ·exact told_len f _ _ _ h
   ·split
    ·exact h
    ·split
     ·exact h
     ·exact told_len f _ _ _ (by rw[len_stp];omega)
theorem told_ahead{g h:Nat→Nat}{l m lim:Nat}(H:Ahead g l h m):∀f st out a,(told g l lim f st out a).2.2≠10→told h m lim f st out a=told g l lim f st out a
 |0,_,_,_,_=>rfl
 |f+1,none,out,a,e=>by
  rw[told_n]at e
  rw[told_n,told_n]
  have hb:=H.beg (a:=a)
  by_cases h1:(begR g l a).2.2≠0
  ·rw[if_pos h1]at e
   rw[hb e]
   rw[if_pos h1,if_pos h1]
  ·rw[if_neg h1]at e
   rw[hb (by omega),if_neg h1,if_neg h1]
   exact told_ahead H f _ _ _ e
 |f+1,some k,out,a,e=>by
  rw[told_s]at e
  rw[told_s,told_s]
  have hb:=H.next (k:=k) (a:=a)
  by_cases h1:(nextR k g l a).2.2.2≠0
  ·rw[if_pos h1]at e
   rw[hb e]
   rw[if_pos h1,if_pos h1]
  ·rw[if_neg h1]at e
   rw[hb (by omega),if_neg h1,if_neg h1]
   by_cases h2:(nextR k g l a).2.1=true
   ·rw[if_pos h2]at e
    rw[if_pos h2,if_pos h2]
    by_cases h3:k.last=true
    ·rw[if_pos h3,if_pos h3]
    ·rw[if_neg h3]at e
     rw[if_neg h3,if_neg h3]
     exact told_ahead H f _ _ _ e
   ·rw[if_neg h2]at e
    rw[if_neg h2,if_neg h2]
    split
    ·rfl
    ·rename_i h3
     rw[if_neg h3]at e
     split
     ·rfl
     ·rename_i h4
      rw[if_neg h4]at e
      exact told_ahead H f _ _ _ e
theorem told_begins{g h:Nat→Nat}{l m lim:Nat}(H:Ahead g l h m):∀f st out a,(told g l lim f st out a).1<+:(told h m lim f st out a).1
 |0,_,_,_=>List.prefix_rfl
 |f+1,none,out,a=>by
  by_cases e:(told g l lim (f+1) none out a).2.2≠10
  ·rw[told_ahead H _ _ _ _ e];exact List.prefix_rfl
  ·have hb:=H.beg (a:=a)
   rw[told_n g]at e⊢
   by_cases h1:(begR g l a).2.2≠0
   ·rw[if_pos h1]
    exact told_pre _ _ _ _
   ·rw[if_neg h1]
    rw[told_n,hb (by omega),if_neg h1]
    exact told_begins H f _ _ _
 |f+1,some k,out,a=>by
  by_cases e:(told g l lim (f+1) (some k) out a).2.2≠10
  ·rw[told_ahead H _ _ _ _ e];exact List.prefix_rfl
  ·have hb:=H.next (k:=k) (a:=a)
   rw[told_s g]at e⊢
   by_cases h1:(nextR k g l a).2.2.2≠0
   ·rw[if_pos h1]
    exact told_pre _ _ _ _
   ·rw[if_neg h1]at e⊢
    rw[told_s,hb (by omega),if_neg h1]
    by_cases h2:(nextR k g l a).2.1=true
    ·rw[if_pos h2,if_pos h2]
     by_cases h3:k.last=true
     ·rw[if_pos h3,if_pos h3];exact List.prefix_rfl
     ·rw[if_neg h3,if_neg h3]
      exact told_begins H f _ _ _
    ·rw[if_neg h2,if_neg h2]
     split
     ·exact List.prefix_rfl
     ·split
      ·exact List.prefix_rfl
      ·exact told_begins H f _ _ _
theorem told_wide{g:Nat→Nat}{L lim lim':Nat}:∀f st out a,(told g L lim f st out a).2.2=0→(told g L lim f st out a).1.length≤lim'→told g L lim' f st out a=told g L lim f st out a
 |0,_,_,_,_,_=>rfl
 |f+1,none,out,a,e,hl=>by
  rw[told_n]at e hl
  rw[told_n,told_n]
  by_cases h1:(begR g L a).2.2≠0
  ·rw[if_pos h1,if_pos h1]
  ·rw[if_neg h1]at e hl
   rw[if_neg h1,if_neg h1]
   exact told_wide f _ _ _ e hl
 |f+1,some k,out,a,e,hl=>by
  rw[told_s]at e hl
  rw[told_s,told_s]
  by_cases h1:(nextR k g L a).2.2.2≠0
  ·rw[if_pos h1,if_pos h1]
  ·rw[if_neg h1]at e hl
   rw[if_neg h1,if_neg h1]
   by_cases h2:(nextR k g L a).2.1=true
   ·rw[if_pos h2]at e hl
    rw[if_pos h2,if_pos h2]
    by_cases h3:k.last=true
    ·rw[if_pos h3,if_pos h3]
    ·rw[if_neg h3]at e hl
     rw[if_neg h3,if_neg h3]
     exact told_wide f _ _ _ e hl
   ·rw[if_neg h2]at e hl
    rw[if_neg h2,if_neg h2]
    split at e
    ·simp at e
    ·rename_i h3
     rw[if_neg h3]at hl
     rw[if_neg h3,if_neg h3]
     split at e
     ·simp at e
     ·rename_i h4
      rw[if_neg h4]at hl
      have hp:=(told_pre (g:=g) (L:=L) (lim:=lim) f (some (lessK k)) (stpT out (nextR k g L a).1) (nextR k g L a).2.2.1).length_le
      rw[len_stp]at hp
      rw[if_neg h4,if_neg (by omega)]
      exact told_wide f _ _ _ e hl
theorem told_less{g:Nat→Nat}{L lim lim':Nat}(h:lim'≤lim):∀f st out a,(told g L lim f st out a).2.2=140→(told g L lim' f st out a).2.2=140
 |0,_,_,_,e=>e
 |f+1,none,out,a,e=>by
  rw[told_n]at e⊢
  by_cases h1:(begR g L a).2.2≠0
  ·rw[if_pos h1]at e⊢;exact e
  ·rw[if_neg h1]at e⊢
   exact told_less h f _ _ _ e
 |f+1,some k,out,a,e=>by
  rw[told_s]at e⊢
  by_cases h1:(nextR k g L a).2.2.2≠0
  ·rw[if_pos h1]at e⊢;exact e
  ·rw[if_neg h1]at e⊢
   by_cases h2:(nextR k g L a).2.1=true
   ·rw[if_pos h2]at e⊢
    by_cases h3:k.last=true
    ·rw[if_pos h3]at e⊢;exact e
    ·rw[if_neg h3]at e⊢
     exact told_less h f _ _ _ e
   ·rw[if_neg h2]at e⊢
    by_cases h3:(out.length:Int)<(nextR k g L a).1.d
    ·rw[if_pos h3]at e⊢;exact e
    ·rw[if_neg h3]at e⊢
     by_cases h4:lim'<out.length+lenT (nextR k g L a).1
     ·rw[if_pos h4]
     ·rw[if_neg (by omega)]at e
      rw[if_neg h4]
      exact told_less h f _ _ _ e
theorem asked_ok{L:Nat}{a:Int}(h:asked13 L a=0):L≤131072∧0≤a∧a.toNat≤8*L:=by
 unfold asked13 at h
 split at h
 ·omega
 ·split at h
  ·omega
  ·omega
theorem lim13_ok{g:Nat→Nat}{L:Nat}{a lim lim':Int}(h:(inflR g L a lim).2.2=0)(hl:lim'≤131072):
  ((inflR g L a lim).1.length:Int)≤lim∧(lim'<((inflR g L a lim).1.length:Int)∨inflR g L a lim'=inflR g L a lim):=by
 unfold inflR at h⊢
 split at h
 ·rename_i h1;exact absurd h h1
 ·rename_i h1
  rw[if_neg h1,if_neg h1]
  split at h
  ·rename_i h2;exact absurd h h2
  ·rename_i h2
   rw[if_neg h2]
   have hlim:0≤lim:=by
    have h3:limE lim=0:=by omega
    unfold limE at h3;split at h3<;>omega
   have e1:(told g L lim.toNat (fuel13 L) none [] a.toNat).2.2=0:=by
    rcases Int.decEq (told g L lim.toNat (fuel13 L) none [] a.toNat).2.2 0 with h3|h3
    ·unfold inflT at h;rw[if_pos h3]at h;exact absurd h h3
    ·exact h3
   have e2:inflT (told g L lim.toNat (fuel13 L) none [] a.toNat)=((told g L lim.toNat (fuel13 L) none [] a.toNat).1,(told g L lim.toNat (fuel13 L) none [] a.toNat).2.1,0):=by
    unfold inflT;rw[if_neg (by omega)]
   have hlen:=told_len (g:=g) (L:=L) (lim:=lim.toNat) (fuel13 L) none [] a.toNat (Nat.zero_le _)
   rw[e2]
   refine⟨?_,?_⟩
   ·show((told g L lim.toNat (fuel13 L) none [] a.toNat).1.length:Int)≤lim
    omega
   ·by_cases h4:lim'<((told g L lim.toNat (fuel13 L) none [] a.toNat).1.length:Int)
    ·exact .inl h4
    ·right
     rw[if_neg (by unfold limE;rw[if_neg (by omega)];omega),told_wide (lim':=lim'.toNat) _ _ _ _ e1 (by omega),e2]
theorem lim13_err{g:Nat→Nat}{L:Nat}{a lim lim':Int}(h:(inflR g L a lim).2.2≠0)(hl:lim'≤131072):
  (inflR g L a lim).1=[]∧(inflR g L a lim).2.1=0∧((inflR g L a lim).2.2=140→0≤lim'→lim'≤lim→(inflR g L a lim').2.2=140):=by
 unfold inflR at h⊢
 by_cases h1:asked13 L a≠0
 ·rw[if_pos h1,if_pos h1]
  exact⟨rfl,rfl,fun e _ _=>e⟩
 ·rw[if_neg h1]at h
  rw[if_neg h1,if_neg h1]
  by_cases h2:limE lim≠0
  ·rw[if_pos h2]
   refine⟨rfl,rfl,fun e=>?_⟩
   exfalso
   have e':limE lim=140:=e
   unfold limE at e';split at e'<;>omega
  ·rw[if_neg h2]at h
   rw[if_neg h2]
   have e1:(told g L lim.toNat (fuel13 L) none [] a.toNat).2.2≠0:=by
    intro h3
    unfold inflT at h
    rw[if_neg (fun h4=>h4 h3)]at h
    exact h rfl
   have e2:inflT (told g L lim.toNat (fuel13 L) none [] a.toNat)=([],0,(told g L lim.toNat (fuel13 L) none [] a.toNat).2.2):=by
    unfold inflT;rw[if_pos e1]
   rw[e2]
   refine⟨rfl,rfl,fun e h0 hle=>?_⟩
   rw[if_neg (by unfold limE;rw[if_neg (by omega)];omega)]
   have h5:=told_less (g:=g) (L:=L) (show lim'.toNat≤lim.toNat by omega) (fuel13 L) none [] a.toNat e
   unfold inflT
   rw[if_pos (by omega)]
   exact h5
theorem begins13{g:Nat→Nat}{L n:Nat}{lim:Int}(hL:L≤131072)(hn:n≤L):
  ((prefR g L lim).2=0→(prefR g n lim).2=0∧(prefR g n lim).1<+:(prefR g L lim).1)∧
  ((inflR g n 0 lim).2.2≠0→((inflR g n 0 lim).2.2=10↔(prefR g n lim).2=0))∧
  ((inflR g n 0 lim).2.2=0→(prefR g n lim).2=0∧(prefR g L lim).2=0∧(inflR g n 0 lim).1=(prefR g n lim).1∧(inflR g n 0 lim).1=(prefR g L lim).1):=by
 have a1:asked13 L 0=0:=by unfold asked13;rw[if_neg (by omega),if_neg (by omega)]
 have a2:asked13 n 0=0:=by unfold asked13;rw[if_neg (by omega),if_neg (by omega)]
 have H:Ahead g n g L:=⟨hn,fun _ _=>rfl⟩
 have n1:¬asked13 L 0≠0:=by omega
 have n2:¬asked13 n 0≠0:=by omega
 unfold prefR inflR
 simp only[if_neg n1,if_neg n2]
 by_cases h2:limE lim≠0
 ·simp only[if_pos h2]
  refine⟨fun e=>absurd e h2,fun _=>⟨fun e=>?_,fun e=>absurd e h2⟩,fun e=>absurd e h2⟩
  exfalso
  have e':limE lim=10:=e
  unfold limE at e';split at e'<;>omega
 ·simp only[if_neg h2]
  have ez:(0:Int).toNat=0:=rfl
  rw[ez]
  have ef:told g n lim.toNat (fuel13 n) none [] 0=told g n lim.toNat (fuel13 L) none [] 0:=
   told_fuel _ _ _ _ _ (Nat.zero_le _) (mu_le _ _ _) (Nat.lt_of_lt_of_le (mu_le n 0 none) (by unfold fuel13;omega))
  rw[ef]
  have p1:=told_ahead (lim:=lim.toNat) H (fuel13 L) none [] 0
  have p2:=told_begins (lim:=lim.toNat) H (fuel13 L) none [] 0
  generalize told g n lim.toNat (fuel13 L) none [] 0=X at p1 p2⊢
  generalize told g L lim.toNat (fuel13 L) none [] 0=Y at p1 p2⊢
  unfold prefT inflT
  by_cases x0:X.2.2=0
  ·rw[p1 (by omega)]
   rw[if_neg (fun h=>h.1 x0),if_neg (fun h=>h x0)]
   exact⟨fun _=>⟨rfl,List.prefix_rfl⟩,fun h=>absurd rfl h,fun _=>⟨rfl,rfl,rfl,rfl⟩⟩
  ·by_cases x1:X.2.2=10
   ·rw[if_neg (show¬(X.2.2≠0∧X.2.2≠10)from fun h=>h.2 x1),if_pos x0]
    refine⟨fun h=>⟨rfl,?_⟩,fun _=>⟨fun _=>rfl,fun _=>x1⟩,fun h=>absurd h x0⟩
    by_cases y0:Y.2.2≠0∧Y.2.2≠10
    ·rw[if_pos y0]at h;exact absurd h y0.1
    ·rw[if_neg y0];exact p2
   ·rw[p1 x1,if_pos ⟨x0,x1⟩,if_pos x0]
    exact⟨fun h=>absurd h x0,fun _=>⟨fun h=>absurd h x1,fun h=>absurd h x0⟩,fun h=>absurd h x0⟩
end Go.Proofs.Ytgokdgcmkcmjeaa
namespace Go.Proofs.Ytgokdgcmkcmjeaa
def Plays:List Nat→List Tok→Prop
 |_,[]=>True
 |out,t::l=>t.d≤(out.length:Int)∧Plays (stpT out t) l
end Go.Proofs.Ytgokdgcmkcmjeaa
namespace Go.Proofs.Ytgokdgcmkcmjeaa
open Go.RowKit
theorem OwnS.fr{S:Nat→Prop}{w w':World}{base:Nat}{v:Value}{s:List Int}(h:OwnS w base v s)(k:Fr S w w')(hS:∀j,S j→j<base):OwnS w' base v s:=
 own_blk h fun j hj=>k.block j (own_blk_lt h j hj).2 fun hs=>by have:=hS j hs;have:=(own_blk_lt h j hj).1;omega
theorem infoTree13:(Try.prog.info? 33).map (fun i=>(i.zero,i.size))=some (some (.agg (trA (fun _=>0) (.slice none 0 0))),17):=by kernel_rfl
theorem szTree17{Y:Array Value}(h:Y.size=17):(Try.prog.info? 33).map (·.size)=some Y.size:=by rw[h];exact szTree
theorem pgrow_any(w:World)(p:Nat)(A:Option Addr)(l c:Nat)(s:Rz)(h:Rdr w p A l c s)(B:Option Addr)(n cB:Nat)(f:Nat→Nat)(hB:RdB w w.heap.size B n f)(hn:n≤1000000)(most:Int):
  Calls Try.prog 43 #[.pointer (some ⟨p,0,none⟩),.slice B n cB,.int .i64 most] w fun e w'=>∃u,e=.returned (.agg (trA (grC f n most) u))∧Rdr w' p A l c (gwS f n most s)∧OwnS w' w.heap.size u (grS f n most)∧Fr (At p) w w':=by
 have hp:=h.lt
 obtain⟨Z,hZ⟩:∃Z,Z=trA (fun _=>0) (.slice none 0 0):=⟨_,rfl⟩
 obtain⟨k,hk⟩:∃k,k=w.heap.size:=⟨_,rfl⟩
 obtain⟨W1,hW1⟩:∃W1,W1=w.alloc (.cells Z 33):=⟨_,rfl⟩
 have hb1:Below k w W1:=by rw[hW1,hk];exact(Below.refl _ _).alloc (Nat.le_refl _) _
 have hs1:W1.heap.size=k+1:=by rw[hW1,hk];simp
 have z1:BoxC W1 k Z 33:=by rw[hW1,hk];exact BoxC.new w _ _
 have h1:Rdr W1 p A l c s:=BoxC.below h hb1 (by omega)
 have HC:=Lib.hid (tgrow_own W1 B n cB f most ((hB.below (hk▸hb1) (Nat.le_refl _)).more (by omega)) hn)
 have HZS:Hid (Z.size=17):=Lib.hid (by rw[hZ,trA_size])
 have hzb:∀u:World,(zeroValue 33).run Try.prog u=.ok (.agg Z) u:=by rw[hZ];exact(zero_of_info infoTree13).1
 have HG:Hid (gwS f n most s=wantS s (checkE f n most==0) 132):=Lib.hid rfl
 obtain⟨E,hE⟩:∃E,E=checkE f n most:=⟨_,rfl⟩
 rw[←hE]at HC HG
 have HW1:=Lib.hid hW1;have HK:=Lib.hid hk;have HB1:=Lib.hid hb1;have HS1:=Lib.hid hs1;have HZ1:=Lib.hid z1;have HR1:=Lib.hid h1;have HP:=Lib.hid hp
 clear h hB hZ hW1 hk hb1 hs1 z1 h1 hp hE
 go_enter Try.func43,Try.ntmps43
 go_wp2_with (first|(rw[←HW1.out,←HK.out])|fail)
 refine HC.out.mono ?_
 rintro e w2 ⟨u,rfl,o2,hb2⟩
 obtain⟨Y,hY⟩:∃Y,Y=trA (grC f n most) u:=⟨_,rfl⟩
 rw[←hY]
 have one:=o2.one
 have HYS:Hid (Y.size=17):=Lib.hid (by rw[hY,trA_size])
 have HYO:Hid (Y.all (·.oneCell')=true):=Lib.hid (by rw[hY];exact trA_one _ _ one)
 obtain⟨s2,hs2⟩:∃s,s=w2.heap.size:=⟨_,rfl⟩
 obtain⟨W3,hW3⟩:∃W,W=mkV w2 Z Y 33:=⟨_,rfl⟩
 have hb3:Below w2.heap.size w2 W3:=by rw[hW3];exact mkV_below _ _ _ _
 have y3:BoxC W3 s2 Y 33:=by rw[hW3,hs2];exact mkV_row w2 Z Y _
 have hsz:k+1≤w2.heap.size:=by have:=hb2.size;rw[HS1.out]at this;exact this
 have hb23:Below W1.heap.size W1 W3:=hb2.trans (hb3.mono hb2.size)
 have hr3:Rdr W3 p A l c s:=BoxC.below HR1.out hb23 (by rw[HS1.out];have:=HP.out;rw[←HK.out]at this;omega)
 have HZ3:Hid (BoxC W3 k Z 33):=Lib.hid (BoxC.below HZ1.out hb23 (by rw[HS1.out];omega))
 have HO3:Hid (OwnS W3 (k+1) u (grS f n most)):=Lib.hid (by rw[HS1.out]at o2;exact own_keepG o2 hb3)
 have HF3:Hid (Fr (At p) w W3):=Lib.hid ((Fr.of (HK.out▸HB1.out)).trans (Fr.of hb23))
 have HWA:=Lib.hid (pwant_any W3 p A l c s hr3 (E==0) 132)
 have HW3:=Lib.hid hW3;have HS2:=Lib.hid hs2;have HY3:=Lib.hid y3;have HYE:=Lib.hid hY;have HSZ:=Lib.hid hsz
 clear hY hs2 hW3 hb3 y3 hsz hb23 hr3 o2 hb2 one
 go_wp2_with (first
  |(refine wpList_store_rowTo rfl _ _ _ rfl rfl w2.heap.size Y rfl rfl 33 Z (heap_alloc_new w2 _) (szTree17 HYS.out) (by rw[HZS.out,HYS.out]) HYO.out ?_;change wpList _ _ _ _ _ (mkV w2 Z Y 33);rw[←HW3.out,←HS2.out])
  |fail)
 refine HWA.out.mono ?_
 rintro e w4 ⟨rfl,r4,f4⟩
 have hps:¬At p s2:=by show¬s2=p;have:=HSZ.out;have:=HS2.out;have:=HP.out;rw[←HK.out]at this;omega
 have hpk:¬At p k:=by show¬k=p;have:=HP.out;rw[←HK.out]at this;omega
 have HY4:=Lib.hid (HY3.out.fr f4 hps)
 have HZ4:=Lib.hid (HZ3.out.fr f4 hpk)
 have HO4:=Lib.hid (HO3.out.fr f4 (fun j (hj:j=p)=>by have:=HP.out;rw[←HK.out]at this;omega))
 have HR4:=Lib.hid r4;have HF4:=Lib.hid (HF3.out.trans f4)
 clear r4 f4 hps hpk
 go_wp2_with (first
  |(refine wpList_load_row rfl _ _ rfl s2 rfl _ Y (0,0) _ HY4.out Try.underlying33 rfl (szTree17 HYS.out) ?_)
  |(refine wpList_store_rowTo rfl _ _ _ rfl rfl k Y rfl rfl 33 Z HZ4.out (szTree17 HYS.out) (by rw[HZS.out,HYS.out]) HYO.out ?_)
  |fail)
 have hpk:p≠k:=by have:=HP.out;rw[←HK.out]at this;omega
 refine bodyPost_ret (v:=.agg Y) (results_cell_row rfl _ _ k _ _ (0,0) _ rfl (setRow_heap _ _ _ _ _ _ HZ4.out) Try.underlying33 rfl (szTree17 HYS.out)) rfl ⟨u,by rw[HYE.out],?_,?_,?_⟩
 ·rw[HG.out];exact BoxC.rowO HR4.out hpk _
 ·rw[←HK.out];exact ownsRow_lower (own_blk HO4.out fun j hj=>setRow_other _ _ _ _ (by have:=(own_blk_lt HO4.out j hj).1;omega)) (by omega)
 ·exact HF4.out.from (Fr.row w4 k Y) fun j hj=>.inr (by rw[←HK.out];exact Nat.le_of_eq hj.symm)
theorem infoRun13:(Try.prog.info? 100).map (fun i=>(i.zero,i.size))=some (some (.agg #[.int .i64 0,.int .i64 0]),2):=by kernel_rfl
theorem ptimes_any(w:World)(y x:Nat)(hy:y≤320)(hx:x≤1000):
  Calls Try.prog 59 #[.agg #[.int .i64 (y:Int),.int .i64 (x:Int)]] w fun e w'=>e=.returned (.int .i64 (timesR (y:Int) (x:Int):Int))∧Below w.heap.size w w':=by
 obtain⟨T,hT⟩:∃T:Nat,T=timesR (y:Int) (x:Int):=⟨_,rfl⟩
 rw[←hT]
 unfold timesR at hT
 by_cases e16:y=16
 ·subst e16
  rw[if_pos (.inl rfl)]at hT
  have e1:(3:Int)+(x:Int)=(T:Int):=by omega
  clear hT
  go_enter Try.func59,Try.ntmps59
  go_wp2
  go_ret
  exact⟨by first|rfl|go_num,(Below.refl _ _).alloc (Nat.le_refl _) _⟩
 by_cases e17:y=17
 ·subst e17
  rw[if_pos (.inr rfl)]at hT
  have e1:(3:Int)+(x:Int)=(T:Int):=by omega
  clear hT e16
  go_enter Try.func59,Try.ntmps59
  go_wp2
  go_ret
  exact⟨by first|rfl|go_num,(Below.refl _ _).alloc (Nat.le_refl _) _⟩
 rw[if_neg (by omega)]at hT
 by_cases e18:y=18
 ·subst e18
  rw[if_pos (show((18:Nat):Int)=18 from rfl)]at hT
  have e1:(11:Int)+(x:Int)=(T:Int):=by omega
  clear hT e16 e17
  go_enter Try.func59,Try.ntmps59
  go_wp2
  go_ret
  exact⟨by first|rfl|go_num,(Below.refl _ _).alloc (Nat.le_refl _) _⟩
 rw[if_neg (by omega)]at hT
 subst hT
 have q1:((y:Int)==16)=false:=beq_eq_false_iff_ne.2 (by omega)
 have q2:((y:Int)==17)=false:=beq_eq_false_iff_ne.2 (by omega)
 have q3:((y:Int)==18)=false:=beq_eq_false_iff_ne.2 (by omega)
 clear e16 e17 e18
 go_enter Try.func59,Try.ntmps59
 go_wp2
 go_ret
 exact⟨by first|rfl|go_num,(Below.refl _ _).alloc (Nat.le_refl _) _⟩
end Go.Proofs.Ytgokdgcmkcmjeaa
namespace Go.Proofs.Ytgokdgcmkcmjeaa
open Go.RowKit
theorem bitV_nat(y:Nat):bitV (y:Int)=((bitsR (y:Int):Nat):Int):=by
 unfold bitV
 split
 ·rfl
 ·unfold bitsR
  rw[if_neg (by omega),if_neg (by omega),if_neg (by omega)];rfl
theorem built_run13(y x:Int):Try.prog.built 100 [(0,.int .i64 y),(1,.int .i64 x)]=some #[.int .i64 y,.int .i64 x]:=by kernel_rfl
theorem szRun13{Y:Array Value}(h:Y.size=2):(Try.prog.info? 100).map (·.size)=some Y.size:=by rw[h];exact(zero_of_info infoRun13).2
theorem prun_any(w:World)(p:Nat)(A:Option Addr)(l c:Nat)(g:Nat→Nat)(s:Rz)(h:Rdr w p A l c s)(S:Nat→Prop)(hS:S p)(hg:RdF S w A l g)(hl:l≤1000000)(hs:s.1≤8*l)(F:Nat→Nat)(ct:Nat→Int)(u:Value)(hu:u.oneCell'=true)(ht:s.2=0→TrF S w F ct u):
  Calls Try.prog 58 #[.pointer (some ⟨p,0,none⟩),.agg (trA ct u)] w fun e w'=>e=.returned (.agg #[.int .i64 (ruY F g l s:Int),.int .i64 (ruX F g l s:Int)])∧Rdr w' p A l c (ruS F g l s)∧Fr (At p) w w':=by
 have hp:=h.lt
 obtain⟨k,hk⟩:∃k,k=w.heap.size:=⟨_,rfl⟩
 obtain⟨T,hT⟩:∃T,T=trA ct u:=⟨_,rfl⟩
 rw[←hT]
 obtain⟨W1,hW1⟩:∃W1,W1=(w.alloc (.cells T 33)).alloc (.cells #[.int .i64 0,.int .i64 0] 100):=⟨_,rfl⟩
 have hb1:Below k w W1:=by rw[hW1,hk];exact((Below.refl _ _).alloc (Nat.le_refl _) _).alloc (by simp) _
 have hs1:W1.heap.size=k+2:=by rw[hW1,hk];simp
 have t1:BoxC W1 k T 33:=by rw[hW1,hk];exact(BoxC.new w _ _).old _
 have z1:BoxC W1 (k+1) #[.int .i64 0,.int .i64 0] 100:=by rw[hW1,hk];have:=BoxC.new (w.alloc (.cells T 33)) #[.int .i64 0,.int .i64 0] 100;rwa[World.size_alloc]at this
 have fW:Fr S w W1:=Fr.of (hk▸hb1)
 have hTS:Hid (T.size=17):=Lib.hid (by rw[hT,trA_size])
 have HC:=psym_any W1 p A l c g s (BoxC.below h hb1 (by omega)) (hg.fr fW).1 hl hs S F ct u hu (fun e=>(ht e).fr fW)
 rw[←hT]at HC
 have hpk:¬At p k:=by show¬k=p;omega
 have hpk1:¬At p (k+1):=by show¬k+1=p;omega
 have hy:syV (readR F 320 g l s.1 17 0) s=ruY F g l s:=rfl
 have hss:syS (readR F 320 g l s.1 17 0) s=ruS1 F g l s:=rfl
 rw[hy,hss]at HC
 have hx:ruX F g l s=tkV g l (bitsR (ruY F g l s:Int)) (ruS1 F g l s):=rfl
 have hxs:ruS F g l s=tkS l (bitsR (ruY F g l s:Int)) (ruS1 F g l s):=rfl
 have hin:(ruS1 F g l s).1≤8*l:=syS_in hs
 have h7:=bitsR_le (ruY F g l s:Int)
 have HBV:bitV (ruY F g l s:Int)=_:=bitV_nat _
 obtain⟨y,hy2⟩:∃y,y=ruY F g l s:=⟨_,rfl⟩
 obtain⟨s1,hs12⟩:∃y,y=ruS1 F g l s:=⟨_,rfl⟩
 rw[←hy2,←hs12]at HC hx hxs
 rw[←hy2]at HBV h7⊢
 rw[←hs12]at hin
 rw[hx,hxs]
 obtain⟨n,hn⟩:∃n,n=bitsR (y:Int):=⟨_,rfl⟩
 rw[←hn]at HBV h7⊢
 have HB10:=Lib.hid fun V=>bits10_any V (y:Int)
 rw[HBV]at HB10
 obtain⟨bE,hbE⟩:∃b,b=bitE (y:Int):=⟨_,rfl⟩
 rw[←hbE]at HB10
 have HCC:=Lib.hid HC;have HW1:=Lib.hid hW1;have HK:=Lib.hid hk;have HT1:=Lib.hid t1;have HZ1:=Lib.hid z1;have HFW:=Lib.hid (Fr.of (S:=At p) (hk▸hb1));have HGF:=Lib.hid (hg.fr fW);have HS1:=Lib.hid hs1
 have HNA:Hid (¬At p k∧¬At p (k+1)):=Lib.hid ⟨hpk,hpk1⟩
 have HSP:Hid (∀j,At p j→S j):=Lib.hid fun j (e:j=p)=>e▸hS
 clear h hg hT hW1 hk hb1 hs1 t1 z1 fW HC hpk hpk1 hy hss hx hxs hy2 hs12 hn HBV hbE hp hu ht hS
 go_enter Try.func58,Try.ntmps58
 go_wp2_with (first
  |(rw[←HW1.out,←HK.out])
  |(refine wpList_load_row rfl _ _ rfl k rfl _ T (0,0) _ HT1.out Try.underlying33 rfl (szTree17 hTS.out) ?_)
  |fail)
 refine HCC.out.mono ?_
 rintro e w2 ⟨rfl,r2,f2⟩
 have HR2:=Lib.hid r2;have HF2:=Lib.hid (HFW.out.trans f2);have HZ2:=Lib.hid (HZ1.out.fr f2 HNA.out.2);have HG2:=Lib.hid (HGF.out.fr (f2.mono HSP.out));have HX2:=Lib.hid f2.size
 clear r2 f2
 go_wp2_with fail
 refine(HB10.out w2).mono ?_
 rintro e w3 ⟨rfl,hb3⟩
 have HR3:=Lib.hid (BoxC.below HR2.out hb3 HR2.out.lt:Rdr w3 p A l c s1);have HF3:=Lib.hid (HF2.out.on hb3);have HZ3:=Lib.hid (HZ2.out.below hb3 HZ2.out.lt);have HG3:=Lib.hid (HG2.out.fr (Fr.of hb3))
 have HTK:=Lib.hid (ptake_any w3 p A l c g s1 HR3.out HG3.out.1 hl hin n (by omega))
 clear hb3 HB10 HCC HR2 HG2 HZ2
 go_wp2_with fail
 refine HTK.out.mono ?_
 rintro e w4 ⟨rfl,r4,f4⟩
 obtain⟨x,hx⟩:∃x,x=tkV g l n s1:=⟨_,rfl⟩
 rw[←hx]
 have HR4:=Lib.hid r4;have HF4:=Lib.hid (HF3.out.trans f4);have HZ4:=Lib.hid (HZ3.out.fr f4 HNA.out.2)
 have HBU:Hid (Try.prog.built 100 [(0,.int .i64 (y:Int)),(1,.int .i64 (x:Int))]=some #[.int .i64 (y:Int),.int .i64 (x:Int)]):=Lib.hid (built_run13 _ _)
 obtain⟨Y,hY⟩:∃Y:Array Value,Y=#[.int .i64 (y:Int),.int .i64 (x:Int)]:=⟨_,rfl⟩
 rw[←hY]at HBU
 have HYE:=Lib.hid hY;have HXE:=Lib.hid hx
 have HYS:Hid (Y.size=2):=Lib.hid (by rw[hY];rfl)
 have HYO:Hid (Y.all (·.oneCell')=true):=Lib.hid (by rw[hY];simp[Value.oneCell'])
 clear r4 f4 HTK hx hY HZ3 HR3 HG3
 go_wp2_with (first
  |(refine wpList_buildTo rfl 100 #[(0,.tmp 16),(1,.tmp 19)] rfl (some 20) rfl Y ?_ ?_;focus(simpa[Act.eval]using HBU.out))
  |(refine wpList_store_rowTo rfl _ _ _ rfl rfl (k+1) Y rfl rfl 100 #[.int .i64 0,.int .i64 0] HZ4.out (szRun13 HYS.out) (by rw[HYS.out];rfl) HYO.out ?_)
  |fail)
 refine bodyPost_ret (v:=.agg Y) (results_cell_row rfl _ _ (k+1) _ _ (0,0) _ rfl (setRow_heap _ _ _ _ _ _ HZ4.out) Try.underlying100 rfl (szRun13 HYS.out)) rfl ⟨by rw[HYE.out,HXE.out],?_,?_⟩
 ·exact BoxC.rowO HR4.out (fun e=>HNA.out.2 e.symm) _
 ·exact HF4.out.from (Fr.row w4 (k+1) Y) fun j hj=>.inr (by rw[←HK.out];have:j=k+1:=hj;omega)
theorem al_int(a:Nat):((a:Int)+7)/8*8=(((a+7)/8*8:Nat):Int):=by omega
theorem psize_any(w:World)(p:Nat)(A:Option Addr)(l c:Nat)(g:Nat→Nat)(s:Rz)(h:Rdr w p A l c s)(S:Nat→Prop)(hS:S p)(hg:RdF S w A l g)(hl:l≤1000000)(hs:s.1≤8*l):
  Calls Try.prog 32 #[.pointer (some ⟨p,0,none⟩)] w fun e w'=>e=.returned (.int .i64 (sizV g l s:Int))∧Rdr w' p A l c (sizS g l s)∧Fr (At p) w w':=by
 have c1:=h.a
 have f1:=h.free 1
 have HSP:Hid (∀j,At p j→S j):=Lib.hid fun j (e:j=p)=>e▸hS
 have ha:=al_int s.1
 have hal:alS s=((s.1+7)/8*8,s.2):=rfl
 obtain⟨b,hb⟩:∃b,b=(s.1+7)/8*8:=⟨_,rfl⟩
 rw[←hb]at ha hal
 have hb8:b≤8*l:=by omega
 have hs8:s.1≤8000000:=by omega
 obtain⟨W1,hW1⟩:∃W,W=w.setCell ⟨p,1,none⟩ (.int .i64 (b:Int)):=⟨_,rfl⟩
 have r1:Rdr W1 p A l c (b,s.2):=by rw[hW1];exact h.setA b
 have HF1:Hid (Fr (At p) w W1):=Lib.hid (by rw[hW1];exact Fr.cell _ _ _ _)
 have HG1:=Lib.hid (hg.fr (HF1.out.mono HSP.out))
 have HT1:=Lib.hid (ptake_lit W1 p A l c g (b,s.2) r1 HG1.out.1 hl hb8 16 16 rfl (by omega))
 have hV:sizV g l s=tkV g l 16 (b,s.2):=by unfold sizV;rw[hal]
 have hSS:sizS g l s=wantS (tkS l 16 (tkS l 16 (b,s.2))) (decide ((tkV g l 16 (tkS l 16 (b,s.2)):Int)=65535-(tkV g l 16 (b,s.2):Int))) 131:=by unfold sizS;rw[hV,hal]
 rw[hV,hSS]
 obtain⟨x,hx⟩:∃x,x=tkV g l 16 (b,s.2):=⟨_,rfl⟩
 obtain⟨s2,hs2⟩:∃x,x=tkS l 16 (b,s.2):=⟨_,rfl⟩
 rw[←hx,←hs2]at HT1⊢
 have h2:s2.1≤8*l:=by rw[hs2];exact tkS_in hb8
 have hx2:x<65536:=by rw[hx];exact tkV_lt _ _ _ _
 obtain⟨y,hy⟩:∃x,x=tkV g l 16 s2:=⟨_,rfl⟩
 have hy2:y<65536:=by rw[hy];exact tkV_lt _ _ _ _
 rw[←hy]
 have HY:=Lib.hid hy;have HW1:=Lib.hid hW1
 obtain⟨a,e⟩:=s
 have c1':w.cell? ⟨p,1,none⟩=some (.int .i64 (a:Int)):=c1
 have ha':((a:Int)+7)/8*8=(b:Int):=ha
 have hs8':a≤8000000:=hs8
 clear h hg c1 ha hal hb hb8 hs8 r1 hV hSS hx hs2 hy hW1 hs hS
 go_enter Try.func32,Try.ntmps32
 go_wp2_with fail
 rw[←HW1.out]
 refine HT1.out.mono ?_
 rintro e w2 ⟨rfl,r2,f2⟩
 have HR2:=Lib.hid r2;have HF2:=Lib.hid (HF1.out.trans f2);have HG2:=Lib.hid (HG1.out.fr (f2.mono HSP.out))
 have HT2:=Lib.hid (ptake_lit w2 p A l c g s2 HR2.out HG2.out.1 hl h2 16 16 rfl (by omega))
 rw[←HY.out]at HT2
 clear r2 f2 HT1 HG1 HF1
 go_wp2_with fail
 refine HT2.out.mono ?_
 rintro e w3 ⟨rfl,r3,f3⟩
 have HW:=Lib.hid (pwant_any w3 p A l c _ r3 (decide ((y:Int)=65535-(x:Int))) 131)
 have HF3:=Lib.hid (HF2.out.trans f3)
 clear r3 f3 HT2 HG2 HF2 HR2
 go_wp2_with fail
 refine HW.out.mono ?_
 rintro e w4 ⟨rfl,r4,f4⟩
 have HR4:=Lib.hid r4;have HF4:=Lib.hid (HF3.out.trans f4)
 clear r4 f4 HW HF3
 go_wp2
 go_ret
 exact⟨rfl,HR4.out,HF4.out⟩
theorem cell_twoT{fn:Func}{p q:Tmp}(h:fn.results=#[.cell p 33,.cell q 33])(tmps:Array Value)(w:World)(g g2:Nat)(X Y:Array Value)(hX:X.size=17)(hY:Y.size=17)(hp:tmps.getD p undef=.pointer (some ⟨g,0,none⟩))(hq:tmps.getD q undef=.pointer (some ⟨g2,0,none⟩))
  (ht:BoxC w g X 33) (ht2:BoxC w g2 Y 33):
  (results fn tmps).run Try.prog w=.ok (.tuple #[.agg X,.agg Y]) w:=by
 have hp':tmps[p]?.getD undef=.pointer (some ⟨g,0,none⟩):=by simpa using hp
 have hq':tmps[q]?.getD undef=.pointer (some ⟨g2,0,none⟩):=by simpa using hq
 have hl:=run_loadVar_row (P:=Try.prog) w g 33 33 _ (0,0) _ ht Try.underlying33 rfl (szTree17 hX)
 have hl2:=run_loadVar_row (P:=Try.prog) w g2 33 33 _ (0,0) _ ht2 Try.underlying33 rfl (szTree17 hY)
 simp[results,h,hp',hq',asAddr,hl,hl2]
end Go.Proofs.Ytgokdgcmkcmjeaa
