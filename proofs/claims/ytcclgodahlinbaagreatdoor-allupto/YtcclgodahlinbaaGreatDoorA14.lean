import Derived.Test.YtcclgodahlinbaaGreatDoorA08
import Derived.Test.YtcclgodahlinbaaGreatDoorA13
import Derived.Test.YtcclgodahlinbaaGreatDoorA10
namespace Go.Proofs.YtcclgodahlinbaaGreatDoor
set_option maxHeartbeats 16000000
open Tryz Go.RowKit Go
set_option maxRecDepth 100000
structure HI where
 fr:Int
 fc:Int
 tr:Int
 tc:Int
 lines:List zk
def HI.ofM (h:zx):HI:=⟨h.fr,h.fc,h.tr,h.tc,h.lines⟩
def cntF (L:List zk):Nat:=(L.filter fun s=>s.kind !=43).length
def cntT (L:List zk):Nat:=(L.filter fun s=>s.kind !=45).length
def chg (L:List zk):Bool:=L.any fun s=>s.kind !=32
def yn (k:Nat):Bool:=k==32 || k==45 || k==43
def qQ (s:zk):Bool:=yn s.kind && !qA s.text
def numOk (f c:Int):Bool:=decide (0<=f) && decide (f<=100000) && decide (0<=c) && decide (c<=100000) && (decide (0<f) || decide (c=0))
def placeI (f c:Int):Int:=if 0<c then f-1 else f
def fitsI (h:HI) (en gr:Int):Bool:=numOk h.fr h.fc && numOk h.tr h.tc && decide (en<=placeI h.fr h.fc) && decide (placeI h.tr h.tc=placeI h.fr h.fc+gr)
def yw (h:HI):Bool:=h.lines.all qQ && chg h.lines && decide ((cntF h.lines:Int)=h.fc) && decide ((cntT h.lines:Int)=h.tc)
def zQ:Int->Int->List HI->Bool
 | _,_,[]=>true
 | en,gr,h::l=>fitsI h en gr && yw h && zQ (placeI h.fr h.fc+h.fc) (gr+h.tc-h.fc) l
theorem zH {f c:Int} :numOk f c=true ↔ 0<=f/\f<=100000/\0<=c/\c<=100000/\(0<f\/c=0):=by
 unfold numOk;simp [Bool.and_eq_true,and_assoc]
theorem qj {h:HI} {en gr:Int} :fitsI h en gr=true ↔ numOk h.fr h.fc=true/\numOk h.tr h.tc=true/\en<=placeI h.fr h.fc/\placeI h.tr h.tc=placeI h.fr h.fc+gr:=by
 unfold fitsI;simp [Bool.and_eq_true,and_assoc]
theorem xE {f c:Int} (h:numOk f c=true):0<=placeI f c/\placeI f c<=100000:=by
 rw [zH] at h;unfold placeI;split<;>omega
theorem Xc {L:List zk} {k:Nat} (h:k<L.length):cntF (L.take (k+1))=cntF (L.take k)+(if L[k].kind=43 then 0 else 1):=by
 unfold cntF
 rw [List.take_succ_eq_append_getElem h,List.filter_append,List.length_append]
 by_cases hk:L[k].kind=43<;>simp [hk]
theorem Xg {L:List zk} {k:Nat} (h:k<L.length):cntT (L.take (k+1))=cntT (L.take k)+(if L[k].kind=45 then 0 else 1):=by
 unfold cntT
 rw [List.take_succ_eq_append_getElem h,List.filter_append,List.length_append]
 by_cases hk:L[k].kind=45<;>simp [hk]
theorem VD {L:List zk} {k:Nat} (h:k<L.length):chg (L.take (k+1))=(chg (L.take k) || L[k].kind !=32):=by
 unfold chg
 rw [List.take_succ_eq_append_getElem h,List.any_append]
 simp
theorem VX {L:List zk} {k:Nat} (h:k<L.length):(L.take (k+1)).all qQ=((L.take k).all qQ && qQ L[k]):=by
 rw [List.take_succ_eq_append_getElem h,List.all_append]
 simp
theorem Tm (L:List zk) (k:Nat):cntF (L.take k)<=cntF L:=by
 unfold cntF
 exact List.Sublist.length_le ((List.take_sublist k L).filter _)
theorem PX (L:List zk) (k:Nat):cntT (L.take k)<=cntT L:=by
 unfold cntT
 exact List.Sublist.length_le ((List.take_sublist k L).filter _)
theorem Dg (L:List zk):cntF L<=L.length:=List.length_filter_le _ _
theorem DU (L:List zk):cntT L<=L.length:=List.length_filter_le _ _
theorem YV {h:HI} {k:Nat} (hk:k<h.lines.length) (hb:qQ h.lines[k]=false):yw h=false:=by
 unfold yw
 have:h.lines.all qQ=false:=by
  rw [Bool.eq_false_iff]
  intro ha
  rw [List.all_eq_true] at ha
  rw [ha _ (List.getElem_mem hk)] at hb
  cases hb
 rw [this];rfl
theorem FN {h:HI} {k:Nat} (hb:h.fc<cntF (h.lines.take k)):yw h=false:=by
 have:=Tm h.lines k
 unfold yw
 rw [show decide ((cntF h.lines:Int)=h.fc)=false from decide_eq_false (by omega)]
 simp
theorem Ti {h:HI} {k:Nat} (hb:h.tc<cntT (h.lines.take k)):yw h=false:=by
 have:=PX h.lines k
 unfold yw
 rw [show decide ((cntT h.lines:Int)=h.tc)=false from decide_eq_false (by omega)]
 simp
def yk (B:Nat) (w:World) (v:Value) (L:List zk):Prop:=
 (L= []/\ ∃a c,v= .slice a 0 c)\/ ∃b off cap,v= .slice (some ⟨b,off,none⟩) L.length cap/\b<B/\
  ∀i (h:i<L.length),w.cell? ⟨b,off+i*2,none⟩=some (.int .u8 (L[i].kind:Nat))/\w.cell? ⟨b,off+i*2+1,none⟩=some (.string L[i].text)
theorem yk.below {B:Nat} {w w':World} {v:Value} {L:List zk} (h:yk B w v L) (hb:Below B w w'):yk B w' v L:=by
 rcases h with h | ⟨b,off,cap,e,hB,hc⟩
 ·exact .inl h
 ·exact .inr ⟨b,off,cap,e,hB,fun i hi=>⟨(hb.cell (p:=⟨b,off+i*2,none⟩) hB).trans (hc i hi).1,(hb.cell (p:=⟨b,off+i*2+1,none⟩) hB).trans (hc i hi).2⟩⟩
theorem yk.mono {B B':Nat} {w:World} {v:Value} {L:List zk} (h:yk B w v L) (hb:B<=B'):yk B' w v L:=by
 rcases h with h | ⟨b,off,cap,e,hB,hc⟩
 ·exact .inl h
 ·exact .inr ⟨b,off,cap,e,by omega,hc⟩
theorem yk.at {B n cap:Nat} {w:World} {a:Option Addr} {L:List zk} (h:yk B w (.slice a n cap) L) {i:Nat} (hi:i<L.length):
 ∃b off,a=some ⟨b,off,none⟩/\b<B/\w.cell? ⟨b,off+i*2,none⟩=some (.int .u8 (L[i].kind:Nat))/\w.cell? ⟨b,off+i*2+1,none⟩=some (.string L[i].text):=by
 rcases h with ⟨rfl,_⟩ | ⟨b,off,cap,e,hb,hc⟩
 ·simp at hi
 ·cases e
  exact ⟨b,off,rfl,hb,hc i hi⟩
theorem yk.of_steps {B:Nat} {w:World} {v:Value} {L:List zk} (h:zJ B w v L):yk B w v L:=by
 rcases h with h | ⟨b,cap,e,hB,hc⟩
 ·exact .inl h
 ·refine .inr ⟨b,0,cap,e,hB,fun i hi=> ?_⟩
  have:=hc i hi
  simpa using this
def yH (B:Nat) (w:World) (v:Value) (hs:List HI):Prop:=
 (hs= []/\ ∃a c,v= .slice a 0 c)\/ ∃b off cap,v= .slice (some ⟨b,off,none⟩) hs.length cap/\b<B/\
  ∀i (h:i<hs.length),∃a c,w.cell? ⟨b,off+i*5,none⟩=some (.int .i64 hs[i].fr)/\w.cell? ⟨b,off+i*5+1,none⟩=some (.int .i64 hs[i].fc)/\w.cell? ⟨b,off+i*5+2,none⟩=some (.int .i64 hs[i].tr)/\
   w.cell? ⟨b,off+i*5+3,none⟩=some (.int .i64 hs[i].tc)/\w.cell? ⟨b,off+i*5+4,none⟩=some (.slice a hs[i].lines.length c)/\yk B w (.slice a hs[i].lines.length c) hs[i].lines
theorem yH.below {B:Nat} {w w':World} {v:Value} {hs:List HI} (h:yH B w v hs) (hb:Below B w w'):yH B w' v hs:=by
 rcases h with h | ⟨b,off,cap,e,hB,hc⟩
 ·exact .inl h
 ·refine .inr ⟨b,off,cap,e,hB,fun i hi=> ?_⟩
  obtain ⟨a,c,h0,h1,h2,h3,h4,h5⟩:=hc i hi
  exact ⟨a,c,(hb.cell (p:=⟨b,off+i*5,none⟩) hB).trans h0,(hb.cell (p:=⟨b,off+i*5+1,none⟩) hB).trans h1,(hb.cell (p:=⟨b,off+i*5+2,none⟩) hB).trans h2,(hb.cell (p:=⟨b,off+i*5+3,none⟩) hB).trans h3,(hb.cell (p:=⟨b,off+i*5+4,none⟩) hB).trans h4,h5.below hb⟩
theorem yH.mono {B B':Nat} {w:World} {v:Value} {hs:List HI} (h:yH B w v hs) (hb:B<=B'):yH B' w v hs:=by
 rcases h with h | ⟨b,off,cap,e,hB,hc⟩
 ·exact .inl h
 ·refine .inr ⟨b,off,cap,e,by omega,fun i hi=> ?_⟩
  obtain ⟨a,c,h0,h1,h2,h3,h4,h5⟩:=hc i hi
  exact ⟨a,c,h0,h1,h2,h3,h4,h5.mono hb⟩
theorem yH.at {B n cap:Nat} {w:World} {a:Option Addr} {hs:List HI} (h:yH B w (.slice a n cap) hs) {i:Nat} (hi:i<hs.length):
 ∃b off a' c,a=some ⟨b,off,none⟩/\b<B/\w.cell? ⟨b,off+i*5,none⟩=some (.int .i64 hs[i].fr)/\w.cell? ⟨b,off+i*5+1,none⟩=some (.int .i64 hs[i].fc)/\w.cell? ⟨b,off+i*5+2,none⟩=some (.int .i64 hs[i].tr)/\
  w.cell? ⟨b,off+i*5+3,none⟩=some (.int .i64 hs[i].tc)/\w.cell? ⟨b,off+i*5+4,none⟩=some (.slice a' hs[i].lines.length c)/\yk B w (.slice a' hs[i].lines.length c) hs[i].lines:=by
 rcases h with ⟨rfl,_⟩ | ⟨b,off,cap,e,hb,hc⟩
 ·simp at hi
 ·cases e
  obtain ⟨a',c,r⟩:=hc i hi
  exact ⟨b,off,a',c,rfl,hb,r⟩
theorem yH.of_hunks {B:Nat} {w:World} {v:Value} {hs:List zx} (h:zO B w v hs):yH B w v (hs.map HI.ofM):=by
 rcases h with ⟨rfl,h⟩ | ⟨b,cap,e,hB,hc⟩
 ·exact .inl ⟨rfl,h⟩
 ·refine .inr ⟨b,0,cap,by rw [List.length_map];exact e,hB,fun i hi=> ?_⟩
  have hi':i<hs.length:=by simpa using hi
  obtain ⟨a,c,h0,h1,h2,h3,h4,h5⟩:=hc i hi'
  simp only [List.getElem_map,Nat.zero_add]
  exact ⟨a,c,h0,h1,h2,h3,h4,.of_steps h5⟩
def Lim (hs:List HI):Prop:=hs.length<=300000/\ ∀h∈hs,h.lines.length<=1048576/\(-9223372036854775808<=h.fr/\h.fr<=9223372036854775807)/\(-9223372036854775808<=h.fc/\h.fc<=9223372036854775807)/\(-9223372036854775808<=h.tr/\h.tr<=9223372036854775807)/\(-9223372036854775808<=h.tc/\h.tc<=9223372036854775807)/\ ∀s∈h.lines,s.kind<256/\s.text.size<=1048576
abbrev qn (h:HI) (v:Value):Value:= .agg #[.int .i64 h.fr,.int .i64 h.fc,.int .i64 h.tr,.int .i64 h.tc,v]
abbrev ya (h:HI) (v:Value):Obj:= .cells #[.int .i64 h.fr,.int .i64 h.fc,.int .i64 h.tr,.int .i64 h.tc,v] 61 (0,0)
theorem Uj (L:List zk): ∀k,k<=L.length->
 ((zr L k).2.2=false->(zr L k).1=k/\(zr L k).2.1=0/\ ∀j (_:j<L.length),j<k->L[j].kind=32)/\
 ((zr L k).2.2=true->(zr L k).1+(zr L k).2.1<k/\(∀j (_:j<L.length),j<(zr L k).1->L[j].kind=32)/\(∀j (_:j<L.length),j=(zr L k).1->L[j].kind≠32)/\(∀j (_:j<L.length),k<=j+(zr L k).2.1->j<k->L[j].kind=32)/\ ∀j (_:j<L.length),j+(zr L k).2.1+1=k->L[j].kind≠32):=by
 intro k
 induction k with
 | zero=>intro _;exact ⟨fun _=>⟨rfl,rfl,fun j _ h=>by omega⟩,fun h=>by simp [zr] at h⟩
 | succ k ih=>
   intro hk
   obtain ⟨i1,i2⟩:=ih (by omega)
   rw [jt L k hk]
   generalize hq:zr L k=q at i1 i2
   obtain ⟨F,G,b⟩:=q
   simp only at i1 i2
   by_cases e:L[k].kind=32
   ·rw [if_pos e]
    cases b with
    | true=>
      obtain ⟨c1,c2,c3,c4,c5⟩:=i2 rfl
      simp only [if_true]
      refine ⟨fun h=>(by cases h),fun _=>⟨by omega,c2,c3,fun j hj h1 h2=> ?_,fun j hj h1=>c5 j hj (by omega)⟩⟩
      by_cases hjk:j=k
      ·subst hjk;exact e
      ·exact c4 j hj (by omega) (by omega)
    | false=>
      obtain ⟨c1,c2,c3⟩:=i1 rfl
      simp only [Bool.false_eq_true,if_false]
      refine ⟨fun _=>⟨by omega,c2,fun j hj h1=> ?_⟩,fun h=>by cases h⟩
      by_cases hjk:j=k
      ·subst hjk;exact e
      ·exact c3 j hj (by omega)
   ·rw [if_neg e]
    simp only
    refine ⟨fun h=>(by cases h),fun _=>⟨?_,fun j hj h1=> ?_,fun j hj h1=> ?_,fun j hj h1 h2=>by omega,fun j hj h1=> ?_⟩⟩
    ·cases b with
     | true=>have:=(i2 rfl).1;omega
     | false=>have:=(i1 rfl).1;omega
    ·cases b with
     | true=>exact (i2 rfl).2.1 j hj h1
     | false=>exact (i1 rfl).2.2 j hj (by have:=(i1 rfl).1;omega)
    ·cases b with
     | true=>exact (i2 rfl).2.2.1 j hj h1
     | false=>have:=(i1 rfl).1;have hjk:j=k:=by omega
              subst hjk;exact e
    ·have hjk:j=k:=by omega
     subst hjk;exact e
structure Sg (L:List zk) (F G:Nat):Prop where
 lt:F+G<L.length
 first: ∀j (_:j<L.length),j<F->L[j].kind=32
 at1: ∀j (_:j<L.length),j=F->L[j].kind≠32
 last: ∀j (_:j<L.length),L.length<=j+G->L[j].kind=32
 at2: ∀j (_:j<L.length),j+G+1=L.length->L[j].kind≠32
theorem GQ {L:List zk} (hc:chg L=true):Sg L (zr L L.length).1 (zr L L.length).2.1:=by
 obtain ⟨i1,i2⟩:=Uj L L.length (Nat.le_refl _)
 cases hb:(zr L L.length).2.2 with
 | true=>
   obtain ⟨c1,c2,c3,c4,c5⟩:=i2 hb
   exact ⟨c1,c2,c3,fun j hj h=>c4 j hj h hj,c5⟩
 | false=>
   exfalso
   obtain ⟨_,_,c3⟩:=i1 hb
   unfold chg at hc
   rw [List.any_eq_true] at hc
   obtain ⟨s,hs,hk⟩:=hc
   obtain ⟨j,hj,rfl⟩:=List.getElem_of_mem hs
   simp [c3 j hj hj] at hk
def jm (L:List zk) (f:Nat):List zk:=(L.drop (min f (zr L L.length).1)).take (L.length-min f (zr L L.length).2.1-min f (zr L L.length).1)
theorem Qj: ∀ {A:List zk},(∀s∈A,s.kind=32)->(Dn.YK A).length=A.length/\(Dn.Yx A).length=A.length
 | [],_=>⟨rfl,rfl⟩
 | s::A,h=>by
   obtain ⟨h1,h2⟩:=Qj (A:=A) fun x hx=>h x (List.mem_cons_of_mem _ hx)
   have hs:=h s List.mem_cons_self
   unfold Dn.YK Dn.Yx at *
   simp only [List.length_map] at h1 h2 ⊢
   rw [List.filter_cons_of_pos (by simp [hs]),List.filter_cons_of_pos (by simp [hs])]
   simp [h1,h2]
theorem Ja {α :Type} (A M Z:List α):((A++M++Z).drop A.length).take ((A++M++Z).length-Z.length-A.length)=M:=by
 rw [List.append_assoc,List.drop_left]
 have:(A++(M++Z)).length-Z.length-A.length=M.length:=by simp;omega
 rw [this,List.take_left]
theorem Jd {L:List zk} (f:Nat) (hc:chg L=true):pieceO L f=Dn.YK (jm L f)/\pieceF L f=Dn.Yx (jm L f):=by
 have hE:=GQ hc
 unfold pieceO pieceF jm
 generalize (zr L L.length).1=F at *
 generalize (zr L L.length).2.1=G at *
 have hlt:=hE.lt
 obtain ⟨A,M,Z,hL,hA,hZ,kA,kZ⟩: ∃A M Z:List zk,L=A++M++Z/\A.length=min f F/\Z.length=min f G/\(∀s∈A,s.kind=32)/\ ∀s∈Z,s.kind=32:=by
  refine ⟨L.take (min f F),(L.drop (min f F)).take (L.length-min f G-min f F),L.drop (L.length-min f G),?_,by simp;omega,by simp;omega,fun s hs=> ?_,fun s hs=> ?_⟩
  ·have e1:L.drop (L.length-min f G)=(L.drop (min f F)).drop (L.length-min f G-min f F):=by rw [List.drop_drop];congr 1;omega
   rw [e1,List.append_assoc,List.take_append_drop,List.take_append_drop]
  ·obtain ⟨j,hj,rfl⟩:=List.getElem_of_mem hs
   rw [List.getElem_take]
   simp at hj
   exact hE.first j (by omega) (by omega)
  ·obtain ⟨j,hj,rfl⟩:=List.getElem_of_mem hs
   rw [List.getElem_drop]
   simp at hj
   exact hE.last _ (by omega) (by omega)
 obtain ⟨a1,a2⟩:=Qj kA
 obtain ⟨z1,z2⟩:=Qj kZ
 rw [<-hA,<-hZ]
 subst hL
 have hm:=Ja A M Z
 rw [hm]
 rw [Dn.ku,Dn.ku,Dn.jZ,Dn.jZ]
 have h1:=Ja (Dn.YK A) (Dn.YK M) (Dn.YK Z)
 have h2:=Ja (Dn.Yx A) (Dn.Yx M) (Dn.Yx Z)
 rw [a1,z1] at h1
 rw [a2,z2] at h2
 exact ⟨h1,h2⟩
theorem Gv {T:List ByteArray} {ei:Nat} {mv:Int} {h:zx} {f g:Nat} (hf:max (zr h.lines h.lines.length).1 (zr h.lines h.lines.length).2.1<=f) (hg:max (zr h.lines h.lines.length).1 (zr h.lines h.lines.length).2.1<=g):xW T ei mv h f=xW T ei mv h g:=by
 unfold xW pieceO
 have e1:min f (zr h.lines h.lines.length).1=min g (zr h.lines h.lines.length).1:=by omega
 have e2:min f (zr h.lines h.lines.length).2.1=min g (zr h.lines h.lines.length).2.1:=by omega
 rw [e1,e2]
theorem QS {T:List ByteArray} {ei:Nat} {mv:Int} {h:zx} : ∀n f,(∀g,f<=g->xW T ei mv h g=none)->zZ T ei mv h f n=none
 | 0,_,_=>rfl
 | n+1,f,hn=>by
   unfold zZ
   rw [hn f (Nat.le_refl _)]
   exact QS n (f+1) fun g hg=>hn g (by omega)
theorem YC {T:List ByteArray} {ei:Nat} {mv:Int} {h:zx} : ∀n f m,max (zr h.lines h.lines.length).1 (zr h.lines h.lines.length).2.1<f+n->n<=m->0<n->zZ T ei mv h f m=zZ T ei mv h f n
 | 0,_,_,_,_,h0=>by omega
 | n+1,f,m,hF,hm,_=>by
   obtain ⟨m,rfl⟩: ∃k,m=k+1:=⟨m-1,by omega⟩
   unfold zZ
   cases hx:xW T ei mv h f with
   | some x=>rfl
   | none=>
     simp only
     cases n with
     | zero=>
       rw [QS m (f+1) fun g hg=> ?_]
       ·rfl
       ·rw [Gv (g:=f) (by omega) (by omega)]
        exact hx
     | succ n=>exact YC (n+1) (f+1) m (by omega) (by omega) (by omega)
theorem XM (T:List ByteArray) (ei:Nat) (mv:Int) (h:zx) (fz:Nat):zZ T ei mv h 0 (fz+1)=YB T ei mv h fz:=by
 unfold YB sewRounds
 by_cases hf:fz<=max (zr h.lines h.lines.length).1 (zr h.lines h.lines.length).2.1
 ·rw [Nat.min_eq_left hf]
 ·exact YC _ 0 (fz+1) (by omega) (by omega) (by omega)
def dOf (k:Nat):Int:=if k % 2=0 then -(((k+1) / 2:Nat):Int) else (((k+1) / 2:Nat):Int)
theorem jv (p:Int): ∀n k,k<=2*n->(yB p n)[k]? =some (p+dOf k)
 | 0,k,h=>by
   obtain rfl:k=0:=by omega
   simp [yB,dOf]
 | n+1,k,h=>by
   rw [yB]
   have hl:=jg p n
   by_cases h1:k<=2*n
   ·rw [List.getElem?_append_left (by omega)]
    exact jv p n k h1
   ·rw [List.getElem?_append_right (by omega),hl]
    by_cases h2:k=2*n+1
    ·subst h2
     have e1:(2*n+1) % 2=1:=by omega
     have e2:(2*n+1+1) / 2=n+1:=by omega
     simp [dOf,e1,e2]
    ·obtain rfl:k=2*n+2:=by omega
     have e1:(2*n+2) % 2=0:=by omega
     have e2:(2*n+2+1) / 2=n+1:=by omega
     have e3:2*n+2-(2*n+1)=1:=by omega
     simp [dOf,e1,e2,e3]
     omega
theorem PK {α :Type} {p: α ->Bool} {l:List α} {k:Nat} {x: α} (hx:l[k]? =some x) (h: ∀j,j<k-> ∀y,l[j]? =some y->p y=false) (hp:p x=true):l.find? p=some x:=by
 induction l generalizing k with
 | nil=>simp at hx
 | cons a l ih=>
   cases k with
   | zero=>
     simp at hx
     subst hx
     simp [hp]
   | succ k=>
     have ha:=h 0 (by omega) a rfl
     rw [List.find?_cons_of_neg (by simp [ha])]
     exact ih (k:=k) (by simpa using hx) fun j hj y hy=>h (j+1) (by omega) y (by simpa using hy)
theorem Tf {α :Type} {p: α ->Bool} {l:List α} (h: ∀j,j<l.length-> ∀y,l[j]? =some y->p y=false):l.find? p=none:=by
 rw [List.find?_eq_none]
 intro y hy
 obtain ⟨j,hj,rfl⟩:=List.getElem_of_mem hy
 simp [h j hj _ (List.getElem?_eq_getElem hj)]
def xi (r:List (List UInt8)×List UInt8) (c:UInt8):List (List UInt8)×List UInt8:=if c=10 then (r.1++ [r.2],[]) else (r.1,r.2++ [c])
def yI (l:List UInt8):List (List UInt8)×List UInt8:=l.foldl xi ([],[])
def ofL (l:List UInt8):ByteArray:=⟨l.toArray⟩
def qy (s:ByteArray):List ByteArray:=(yI s.data.toList).1.map ofL
def xX (s:ByteArray):Bool:=(yI s.data.toList).2.isEmpty
theorem Zr (l:List UInt8) (c:UInt8):yI (l++ [c])=xi (yI l) c:=by
 unfold yI;rw [List.foldl_append];rfl
theorem GV {α :Type} {p:List α ->Prop} (h0:p []) (h1: ∀l a,p l->p (l++ [a])) (l:List α):p l:=by
 have: ∀r:List α,p r.reverse:=by
  intro r
  induction r with
  | nil=>exact h0
  | cons a r ih=>rw [List.reverse_cons];exact h1 _ _ ih
 simpa using this l.reverse
theorem Zo (l:List UInt8):(yI l).1.flatMap (· ++ [10])++(yI l).2=l/\(∀a∈(yI l).1,(10:UInt8) ∉ a)/\(10:UInt8) ∉ (yI l).2/\(yI l).1.length=l.count 10:=by
 induction l using GV with
 | h0=>refine ⟨rfl,?_,?_,rfl⟩<;>simp [yI]
 | h1 l c ih=>
   obtain ⟨i1,i2,i3,i4⟩:=ih
   rw [Zr]
   unfold xi
   by_cases hc:c=10
   ·rw [if_pos hc]
    subst hc
    refine ⟨?_,?_,by simp,?_⟩
    ·simp only [List.flatMap_append,List.flatMap_cons,List.flatMap_nil,List.append_nil]
     rw [<-List.append_assoc,i1]
    ·intro a ha
     rw [List.mem_append,List.mem_singleton] at ha
     rcases ha with ha | rfl
     ·exact i2 a ha
     ·exact i3
    ·simp [i4]
   ·rw [if_neg hc]
    refine ⟨by rw [<-List.append_assoc,i1],i2,?_,?_⟩
    ·rw [List.mem_append,List.mem_singleton]
     rintro (h | h)
     ·exact i3 h
     ·exact hc h.symm
    ·rw [List.count_append,i4]
     have:List.count 10 [c]=0:=by rw [List.count_eq_zero];simp;exact fun e=>hc e.symm
     omega
theorem Gw (L:List (List UInt8)):zy (L.map ofL)=L.flatMap (· ++ [10]):=by
 induction L with
 | nil=>rfl
 | cons a L ih=>
   rw [List.map_cons,List.flatMap_cons,<-ih]
   simp [zy,ofL]
theorem UV (s:ByteArray):TB (qy s):=by
 intro t ht
 unfold qy at ht
 obtain ⟨a,ha,rfl⟩:=List.mem_map.1 ht
 exact (Zo s.data.toList).2.1 a ha
theorem QD {s:ByteArray} (h:xX s=true):s=kW (qy s):=by
 have h1:=(Zo s.data.toList).1
 unfold xX at h
 rw [List.isEmpty_iff.1 h,List.append_nil] at h1
 unfold kW qy
 rw [Gw,h1]
theorem jl {s:ByteArray} (h:xX s=true):qy s=linesB s:=by
 conv=>rhs;rw [QD h]
 exact (WP (UV s)).symm
theorem Za (s:ByteArray):(qy s).length=s.data.toList.count 10:=by
 unfold qy;rw [List.length_map];exact (Zo _).2.2.2
theorem XV: ∀l:List UInt8,Lib.countByte l 10=l.count 10:=fun l=>by
 simp [Lib.countByte,List.count]
theorem Uo (s:ByteArray):(decide (8000<s.size) || decide (200<(qy s).length))=yb s:=by
 unfold yb;rw [Za,XV]
theorem jM (s:ByteArray):xX s=yd s:=by
 by_cases h:xX s=true
 ·rw [h]
  conv=>rhs;rw [QD h]
  exact (KI _).symm
 ·have hf:xX s=false:=by simpa using h
  rw [hf]
  obtain ⟨h1,_,h3,_⟩:=Zo s.data.toList
  unfold xX at hf
  have hne:(yI s.data.toList).2≠ []:=by intro e;rw [e] at hf;cases hf
  symm
  unfold yd
  rw [Bool.or_eq_false_iff]
  constructor
  ·rw [Wp]
   simp only [decide_eq_false_iff_not]
   intro e
   have hl:s.data.toList.length=0:=e
   rw [<-h1] at hl
   simp at hl
   exact hne hl.2
  ·cases hq:Lib.hasSuffix s.data.toList [10] with
   | false=>rfl
   | true=>
     exfalso
     have hlast:s.data.toList.getLast? =some 10:=by
      unfold Lib.hasSuffix at hq
      simp at hq
      obtain ⟨t,ht⟩:=hq
      rw [<-ht];simp
     rw [<-h1,List.getLast?_append] at hlast
     obtain ⟨r,x,hrx⟩: ∃r x,(yI s.data.toList).2=r++ [x]:=by
      rcases List.eq_nil_or_concat (yI s.data.toList).2 with h | ⟨r,x,h⟩
      ·exact absurd h hne
      ·exact ⟨r,x,by simpa using h⟩
     rw [hrx] at hlast h3
     simp at hlast
     apply h3
     rw [hlast];simp
structure jA (s:ByteArray) (i f:Nat) (acc:List ByteArray):Prop where
 lines:acc=(yI (s.data.toList.take i)).1.map ofL
 rest:(s.data.toList.take i).drop f=(yI (s.data.toList.take i)).2
 le:f<=i
 few:acc.length<=i
theorem jA.start (s:ByteArray):jA s 0 0 []:=⟨rfl,rfl,Nat.le_refl _,Nat.le_refl _⟩
theorem jA.nl {s:ByteArray} {i f:Nat} {acc:List ByteArray} (h:jA s i f acc) (hi:i<s.size) (hc:s[i]'hi=10):jA s (i+1) (i+1) (acc++ [s.extract f i]):=by
 have hi':i<s.data.toList.length:=hi
 have hx:s.data.toList[i]=10:=hc
 have e:yI (s.data.toList.take (i+1))=xi (yI (s.data.toList.take i)) 10:=by rw [List.take_succ_eq_append_getElem hi',Zr,hx]
 refine ⟨?_,?_,Nat.le_refl _,by have:=h.few;simp;omega⟩
 ·rw [e]
  unfold xi
  rw [if_pos rfl]
  simp only [List.map_append,List.map_cons,List.map_nil]
  rw [<-h.lines]
  congr 2
  apply ByteArray.ext
  apply Array.toList_inj.1
  rw [kv]
  show _=(yI (s.data.toList.take i)).2
  rw [<-h.rest,List.drop_take]
 ·rw [e]
  unfold xi
  rw [if_pos rfl]
  simp
theorem jA.no {s:ByteArray} {i f:Nat} {acc:List ByteArray} (h:jA s i f acc) (hi:i<s.size) (hc:s[i]'hi≠10):jA s (i+1) f acc:=by
 have hi':i<s.data.toList.length:=hi
 have hx:s.data.toList[i]≠10:=hc
 have e:yI (s.data.toList.take (i+1))=xi (yI (s.data.toList.take i)) s.data.toList[i]:=by rw [List.take_succ_eq_append_getElem hi',Zr]
 have hle:=h.le
 refine ⟨?_,?_,by omega,by have:=h.few;omega⟩
 ·rw [e]
  unfold xi
  rw [if_neg hx]
  exact h.lines
 ·rw [e]
  unfold xi
  rw [if_neg hx,List.take_succ_eq_append_getElem hi',List.drop_append_of_le_length (by rw [List.length_take];omega),h.rest]
theorem jA.done {s:ByteArray} {f:Nat} {acc:List ByteArray} (h:jA s s.size f acc):acc=qy s/\decide (f=s.size)=xX s:=by
 have e:s.data.toList.take s.size=s.data.toList:=List.take_of_length_le (Nat.le_refl _)
 have h1:=h.lines
 have h2:=h.rest
 have hl:s.data.toList.length=s.size:=rfl
 have hle:=h.le
 rw [e] at h1 h2
 refine ⟨h1,?_⟩
 unfold xX
 rw [<-h2]
 by_cases hf:f=s.size
 ·subst hf;rw [List.drop_eq_nil_of_le (Nat.le_refl s.size)];simp
 ·have:s.data.toList.drop f≠ []:=by
   intro e2
   have:=congrArg List.length e2
   rw [List.length_drop] at this
   simp at this
   omega
  cases hd:s.data.toList.drop f with
  | nil=>exact absurd hd this
  | cons a l=>simp [hf]
theorem xM (s:ByteArray) (w:World) (hs:s.size<=4000000000):
 Calls prog 37 #[.string s] w fun e w'=> ∃a c,e= .returned (.tuple #[.slice a (qy s).length c,.bool (xX s)])/\w'.ownsRow w.heap.size 9 1 (.slice a (qy s).length c) (qy s).length (zz (qy s))/\Below w.heap.size w w':=by
 obtain ⟨i0,hi,hz0,hz1,hz2⟩:=info_parts qM
 go_enter func37,ntmps37
 go_wp2_with fail
 go_loopg [4,5,6] s.size (fun g v vf vi wr=> ∃(i f n:Nat) (acc:List ByteArray),g=s.size-i/\i<=s.size/\f<=i/\n<=i/\vf= .int .i64 f/\vi= .int .i64 i/\acc.length=n/\Hid (jA s i f acc)/\wr.ownsRow w.heap.size 9 1 v n (zz acc)/\Below w.heap.size w wr)
 case atStart=>exact ⟨0,0,0,[],by omega,by omega,by omega,by omega,rfl,rfl,rfl,jA.start s,World.ownsRow_nil _ _ _ _,Below.refl _ _⟩
 case round=>
  obtain ⟨i,f,n,acc,hgi,hil,hfi,hni,rfl,rfl,hlen,hcut,hown,hbw⟩:=hrel
  have hG:Hid (gk=s.size-i):=hgi
  clear hgi
  have hszr:=hbw.size
  obtain ⟨al,cl,rfl⟩:=zn hown
  have hon: ∀t:ByteArray,∀u∈ [Value.string t],u.oneCell'=true:=by intro t u hu;simp at hu;subst hu;rfl
  by_cases hi2:i<s.size
  ·have hiI:(i:Int)<s.size:=by omega
   have hfI:(f:Int)<=i:=by omega
   have hiI2:(i:Int)<=s.size:=by omega
   by_cases hc:s[i]'hi2=10
   ·have hq:((((s[i]'hi2).toNat:Nat):Int)==10)=true:=by rw [Qt];simp [hc]
    have hcut2:Hid (jA s (i+1) (i+1) (acc++ [s.extract f i])):=hcut.out.nl hi2 hc
    clear hcut
    go_wp2_with (at_builtin;refine zm rfl (.tmp 17) (.tmp 22) 27 rfl w.heap.size 9 i0 _ 1 16 underlying27 hi hz0 hz1 hz2 rfl (by decide) (.slice al n cl) n (zz acc) rfl (hown.alloc _) ⟨wr.heap.size,0,none⟩ 1 1 [.string (s.extract f i)] rfl rfl (zt wr [.string (s.extract f i)] 9) (hon _) (by unfold maxLen;omega) (by omega) (by simp;omega) ?_;intro v' w3 hown3 hgr hnew;have hb3:=(hbw.alloc (by omega) _).grown hgr (by simp;omega) (fun j e=>by have:=(hown.lt j e).1;omega))
    go_roundg (s.size-(i+1))
    ·exact ⟨i+1,i+1,n+1,acc++ [s.extract f i],rfl,by omega,by omega,by omega,by push_cast;rfl,by push_cast;rfl,by simp [hlen],hcut2,by rw [yi];exact hown3,hb3⟩
    ·have:=hG.out;omega
   ·have hq:((((s[i]'hi2).toNat:Nat):Int)==10)=false:=by rw [Qt];simp [hc]
    have hcut2:Hid (jA s (i+1) f acc):=hcut.out.no hi2 hc
    clear hcut
    go_wp2_with fail
    go_roundg (s.size-(i+1))
    ·exact ⟨i+1,f,n,acc,rfl,by omega,by omega,by omega,rfl,by push_cast;rfl,hlen,hcut2,hown,hbw⟩
    ·have:=hG.out;omega
  ·obtain rfl:i=s.size:=by omega
   obtain ⟨e1,e2⟩:=hcut.out.done
   have hiI: ¬((s.size:Int)<s.size):=by omega
   have he2:Hid (decide (f=s.size)=xX s):=e2
   have he1:Hid (acc=qy s):=e1
   clear e1 e2 hcut
   have hfe:(((f:Nat):Int)==(s.size:Int))=decide (f=s.size):=by rw [Bool.eq_iff_iff];simp;omega
   go_wp2_with fail
   go_ret2
   have e1:=he1.out
   have e2:=he2.out
   refine ⟨al,cl,?_,?_,hbw⟩
   ·rw [<-e1,<-e2,hlen];rfl
   ·rw [<-e1,hlen]
    exact hown
theorem Zn (s:ByteArray) (w:World) (hs:s.size<=4000000000):
 Calls prog 38 #[.string s] w fun e w'=>e= .returned (.bool (yb s))/\Below w.heap.size w w':=by
 have hlm:=Uo s
 have hl:(qy s).length<=s.size:=by rw [Za];exact List.count_le_length
 go_enter func38,ntmps38
 go_wp2_with fail
 refine (xM s w hs).mono ?_
 rintro e w1 ⟨a,c,rfl,ho,hb⟩
 generalize (qy s).length=n at *
 by_cases h1:8000<s.size
 ·have h1I:(8000:Int)<s.size:=by omega
  go_wp2_with fail
  go_ret
  exact ⟨by rw [<-hlm];simp [h1],hb⟩
 ·have h1I: ¬((8000:Int)<s.size):=by omega
  go_wp2_with fail
  go_ret
  refine ⟨?_,hb⟩
  rw [<-hlm]
  have e1:decide (8000<s.size)=false:=by simp [h1]
  have e2:decide ((8000:Int)<s.size)=false:=by simp;omega
  have e3:decide ((200:Int)<n)=decide (200<n):=by rw [Bool.eq_iff_iff];simp;omega
  simp only [e1,e2,e3,Bool.false_or]
  simp
theorem Xm (s:ByteArray) (w:World) (hs:s.size<=4000000000):
 Calls prog 117 #[.string s] w fun e w'=>e= .returned (.bool (qA s))/\w=w':=by
 go_enter func117,ntmps117
 go_wp2_with fail
 go_loopg [3] s.size (fun g t wr=> ∃i:Nat,g=s.size-i/\i<=s.size/\t= .int .i64 i/\Hid (nlB s i=false)/\wr=w)
 case atStart=>exact ⟨0,by omega,by omega,rfl,rfl,rfl⟩
 case round=>
  obtain ⟨i,hgi,hil,rfl,hn,rfl⟩:=hrel
  have hG:Hid (gk=s.size-i):=hgi
  clear hgi
  by_cases hi:i<s.size
  ·have hiI:(i:Int)<s.size:=by omega
   have hS:Hid (nlB s (i+1)=(nlB s i || (((s[i]'hi).toNat:Nat):Int)==10)):=De s i hi
   cases hq:((((s[i]'hi).toNat:Nat):Int)==10) with
   | true=>
     have hY:Hid (qA s=true):=by
      show _=_
      rw [Vq]
      have h1:nlB s (i+1)=true:=by rw [hS.out,hq];simp
      unfold nlB at h1 ⊢
      rw [List.contains_iff_mem] at h1 ⊢
      rw [List.take_of_length_le (show s.data.toList.length<=s.size from Nat.le_refl _)]
      exact List.mem_of_mem_take h1
     go_wp2_with fail
     go_ret
     exact ⟨by rw [hY.out];rfl,rfl⟩
   | false=>
     have hN:Hid (nlB s (i+1)=false):=by
      show _=_
      rw [hS.out,hn.out,hq];rfl
     go_wp2_with fail
     go_roundg (s.size-(i+1))
     ·exact ⟨i+1,rfl,by omega,by push_cast;rfl,hN,rfl⟩
     ·have:=hG.out;omega
  ·obtain rfl:i=s.size:=by omega
   have hiI: ¬((s.size:Int)<s.size):=by omega
   have hN:Hid (qA s=false):=by show _=_;rw [Vq];exact hn.out
   go_wp2_with fail
   go_ret
   exact ⟨by rw [hN.out];rfl,rfl⟩
theorem ZK (f c:Int) (w:World):Calls prog 142 #[.int .i64 f,.int .i64 c] w fun e w'=>e= .returned (.bool (numOk f c))/\w=w':=by
 have hno: ¬(0<=f/\f<=100000/\0<=c/\c<=100000/\(0<f\/c=0))->numOk f c=false:=fun h=>by rw [Bool.eq_false_iff];intro h2;exact h (zH.1 h2)
 have hye:(0<=f/\f<=100000/\0<=c/\c<=100000/\(0<f\/c=0))->numOk f c=true:=zH.2
 by_cases t1:0<=f
 ·by_cases t2:f<=100000
  ·by_cases t3:0<=c
   ·by_cases t4:c<=100000
    ·by_cases t5:0<f
     ·rw [hye (by omega)]
      clear hno hye
      go_enter func142,ntmps142
      go_wp2
      go_ret
      exact ⟨rfl,rfl⟩
     ·by_cases t6:c=0
      ·rw [hye (by omega)]
       subst t6
       clear hno hye
       go_enter func142,ntmps142
       go_wp2
       go_ret
       exact ⟨rfl,rfl⟩
      ·rw [hno (by omega)]
       have t7:(c==0)=false:=by rw [beq_eq_false_iff_ne];exact t6
       clear hno hye
       go_enter func142,ntmps142
       go_wp2
       go_ret
       exact ⟨rfl,rfl⟩
    ·rw [hno (by omega)]
     clear hno hye
     go_enter func142,ntmps142
     go_wp2
     go_ret
     exact ⟨rfl,rfl⟩
   ·rw [hno (by omega)]
    clear hno hye
    go_enter func142,ntmps142
    go_wp2
    go_ret
    exact ⟨rfl,rfl⟩
  ·rw [hno (by omega)]
   clear hno hye
   go_enter func142,ntmps142
   go_wp2
   go_ret
   exact ⟨rfl,rfl⟩
 ·rw [hno (by omega)]
  clear hno hye
  go_enter func142,ntmps142
  go_wp2
  go_ret
  exact ⟨rfl,rfl⟩
theorem qw (f c:Int) (w:World) (h:0<=f) (h2:f<=1000000):Calls prog 121 #[.int .i64 f,.int .i64 c] w fun e w'=>e= .returned (.int .i64 (placeI f c))/\w=w':=by
 unfold placeI
 by_cases hc:0<c
 ·rw [if_pos hc]
  go_enter func121,ntmps121
  go_wp2
  go_ret
  exact ⟨rfl,rfl⟩
 ·rw [if_neg hc]
  go_enter func121,ntmps121
  go_wp2
  go_ret
  exact ⟨rfl,rfl⟩
theorem XH (h:HI) (v:Value) (en gr:Int) (w:World) (hg1: -1000000000000<=gr) (hg2:gr<=1000000000000):
 Calls prog 120 #[qn h v,.int .i64 en,.int .i64 gr] w fun e w'=>e= .returned (.bool (fitsI h en gr))/\Below w.heap.size w w':=by
 have m1:=fun w=>ZK h.fr h.fc w
 have m2:=fun w=>ZK h.tr h.tc w
 have hb:=(Below.refl w.heap.size w).alloc (Nat.le_refl _) (ya h v)
 cases n1:numOk h.fr h.fc with
 | false=>
   have hF:fitsI h en gr=false:=by unfold fitsI;rw [n1];rfl
   rw [hF]
   rw [n1] at m1
   clear n1 hF
   generalize numOk h.tr h.tc=q at *
   go_enter func120,ntmps120
   go_wp2_with (first | (go_at_call 142;refine (m1 _).mono ?_;clear m1;rintro e w' ⟨rfl,rfl⟩) | (go_at_call 142;refine (m2 _).mono ?_;rintro e w' ⟨rfl,rfl⟩))
   go_ret
   exact ⟨rfl,hb⟩
 | true=>
   cases n2:numOk h.tr h.tc with
   | false=>
     have hF:fitsI h en gr=false:=by unfold fitsI;rw [n2];simp
     rw [hF]
     rw [n1] at m1
     rw [n2] at m2
     clear n1 n2 hF
     go_enter func120,ntmps120
     go_wp2_with (first | (go_at_call 142;refine (m1 _).mono ?_;clear m1;rintro e w' ⟨rfl,rfl⟩) | (go_at_call 142;refine (m2 _).mono ?_;rintro e w' ⟨rfl,rfl⟩))
     go_ret
     exact ⟨rfl,hb⟩
   | true=>
     have hN1:=zH.1 n1
     have hN2:=zH.1 n2
     have p1:=fun w=>qw h.fr h.fc w (by omega) (by omega)
     have p2:=fun w=>qw h.tr h.tc w (by omega) (by omega)
     obtain ⟨r1,r2⟩:=xE n1
     have hF:fitsI h en gr=(decide (en<=placeI h.fr h.fc) && decide (placeI h.tr h.tc=placeI h.fr h.fc+gr)):=by unfold fitsI;rw [n1,n2];rfl
     rw [hF]
     rw [n1] at m1
     rw [n2] at m2
     clear n1 n2 hF hN1 hN2
     generalize placeI h.fr h.fc=PL at *
     generalize placeI h.tr h.tc=PT at *
     by_cases hc:en<=PL
     ·have hd:decide (en<=PL)=true:=decide_eq_true hc
      rw [hd,Bool.true_and]
      by_cases hq:PT=PL+gr
      ·have f8':(PT==PL+gr)=true:=by simp [hq]
       rw [decide_eq_true hq]
       clear hq
       go_enter func120,ntmps120
       go_wp2_with (first | (go_at_call 142;refine (m1 _).mono ?_;clear m1;rintro e w' ⟨rfl,rfl⟩) | (go_at_call 142;refine (m2 _).mono ?_;rintro e w' ⟨rfl,rfl⟩) | (go_at_call 121;refine (p1 _).mono ?_;clear p1;rintro e w' ⟨rfl,rfl⟩) | (go_at_call 121;refine (p2 _).mono ?_;rintro e w' ⟨rfl,rfl⟩))
       go_ret
       exact ⟨rfl,hb⟩
      ·have f8':(PT==PL+gr)=false:=by simpa using hq
       rw [decide_eq_false hq]
       clear hq
       go_enter func120,ntmps120
       go_wp2_with (first | (go_at_call 142;refine (m1 _).mono ?_;clear m1;rintro e w' ⟨rfl,rfl⟩) | (go_at_call 142;refine (m2 _).mono ?_;rintro e w' ⟨rfl,rfl⟩) | (go_at_call 121;refine (p1 _).mono ?_;clear p1;rintro e w' ⟨rfl,rfl⟩) | (go_at_call 121;refine (p2 _).mono ?_;rintro e w' ⟨rfl,rfl⟩))
       go_ret
       exact ⟨rfl,hb⟩
     ·have hd:decide (en<=PL)=false:=decide_eq_false hc
      rw [hd,Bool.false_and]
      go_enter func120,ntmps120
      go_wp2_with (first | (go_at_call 142;refine (m1 _).mono ?_;clear m1;rintro e w' ⟨rfl,rfl⟩) | (go_at_call 142;refine (m2 _).mono ?_;rintro e w' ⟨rfl,rfl⟩) | (go_at_call 121;refine (p1 _).mono ?_;clear p1;rintro e w' ⟨rfl,rfl⟩))
      go_ret
      exact ⟨rfl,hb⟩
end Go.Proofs.YtcclgodahlinbaaGreatDoor
