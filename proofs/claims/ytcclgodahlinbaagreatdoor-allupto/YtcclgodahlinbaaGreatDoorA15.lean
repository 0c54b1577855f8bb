import Derived.Test.YtcclgodahlinbaaGreatDoorA14
import Derived.BigQuiet
import Derived.Test.YtcclgodahlinbaaGreatDoorA13
import Derived.Laws.AppendOwnNone
import Derived.Orders
namespace Go.Proofs.YtcclgodahlinbaaGreatDoor
set_option maxHeartbeats 16000000
open Tryz Go.RowKit Go
set_option maxRecDepth 100000
theorem yk.sub {B n cap b off:Nat} {w:World} {L:List zk} (h:yk B w (.slice (some ⟨b,off,none⟩) L.length cap) L) (m c':Nat):yk B w (.slice (some ⟨b,off+n*2,none⟩) ((L.drop n).take m).length c') ((L.drop n).take m):=by
 rcases h with ⟨rfl,_⟩ | ⟨b',off',cap',e,hB,hc⟩
 ·exact .inl ⟨by simp,some ⟨b,off+n*2,none⟩,c',by simp⟩
 ·cases e
  refine .inr ⟨b,off+n*2,c',rfl,hB,fun i hi=> ?_⟩
  have hi2:n+i<L.length:=by simp at hi;omega
  obtain ⟨h1,h2⟩:=hc (n+i) hi2
  have e1:off+n*2+i*2=off+(n+i)*2:=by omega
  rw [e1,List.getElem_take,List.getElem_drop]
  exact ⟨h1,h2⟩
theorem WU {B b off cap f:Nat} {L:List zk} {w:World} (hS:yk B w (.slice (some ⟨b,off,none⟩) L.length cap) L) (hcap:L.length<=cap) (hc:chg L=true) (hL:L.length<=1048576) (hf:f<=1000):
 Calls prog 124 #[.slice (some ⟨b,off,none⟩) L.length cap,.int .i64 (f:Int)] w fun e w'=>e= .returned (.tuple #[.slice (some ⟨b,off+min f (zr L L.length).1*2,none⟩) (jm L f).length (cap-min f (zr L L.length).1),.int .i64 (min f (zr L L.length).1:Nat)])/\w'=w:=by
 have hE:=GQ hc
 have htl:(jm L f).length=L.length-min f (zr L L.length).2.1-min f (zr L L.length).1:=by
  unfold jm
  have:=hE.lt
  simp
  omega
 rw [htl]
 generalize (zr L L.length).1=F at *
 generalize (zr L L.length).2.1=G at *
 have hlt:=hE.lt
 clear htl hc
 have hEH:Hid (Sg L F G):=hE
 obtain ⟨n1,hn1⟩: ∃n,min f F=n:=⟨_,rfl⟩
 obtain ⟨n2,hn2⟩: ∃n,min f G=n:=⟨_,rfl⟩
 rw [hn1,hn2]
 have a1:n1<=F:=by omega
 have a2:n1<=f:=by omega
 have a3:n2<=G:=by omega
 have a4:n2<=f:=by omega
 have aH:Hid ((n1=F\/n1=f)/\(n2=G\/n2=f)):=⟨by omega,by omega⟩
 clear hE hn1 hn2
 go_enter func124,ntmps124
 go_wp2_with fail
 go_loopg [6] n1 (fun g t wr=> ∃j:Nat,g=n1-j/\j<=n1/\t= .int .i64 j/\wr=w)
 case atStart=>exact ⟨0,by omega,by omega,rfl,rfl⟩
 case round=>
  obtain ⟨j,hgj,hjl,rfl,rfl⟩:=hrel
  have hG:Hid (gk=n1-j):=hgj
  clear hgj
  have hjL:j<L.length:=by omega
  have hjI:(j:Int)<L.length:=by omega
  obtain ⟨b',off',he,hb',s0,_⟩:=hS.at hjL
  cases he
  by_cases h12:j<n1
  ·have h1I:(j:Int)<f:=by omega
   rw [hEH.out.first j hjL (by omega)] at s0
   go_wp2_with fail
   go_roundg (n1-(j+1))
   ·exact ⟨j+1,rfl,by omega,by push_cast;rfl,rfl⟩
   ·have:=hG.out;omega
  ·obtain rfl:j=n1:=by omega
   have hcond:Hid (¬(j<f)\/(j<f/\L[j].kind≠32)):=by
    rcases aH.out.1 with e | e
    ·by_cases h:j<f
     ·exact .inr ⟨h,hEH.out.at1 j hjL e⟩
     ·exact .inl h
    ·exact .inl (by omega)
   have hcont:Hid True:=trivial
   have go2: ∀P:Prop,P->P:=fun _ h=>h
   generalize L[j].kind=K at s0 hcond
   clear go2 hcont
   rcases hcond.out with h1 | ⟨h1,h2⟩
   all_goals clear hcond
   all_goals try have h1I: ¬(j:Int)<f:=by omega
   all_goals try have h1I:(j:Int)<f:=by omega
   all_goals try have h2I:((K:Int)==32)=false:=by rw [beq_eq_false_iff_ne];omega
   all_goals
    go_wp2_with fail
    go_loopg [7] n2 (fun g t wq=> ∃i Q:Nat,g=n2-i/\i<=n2/\Q+1+i=L.length/\t= .int .i64 ((Q:Int)+1)/\wq=wr)
    case atStart=>exact ⟨0,L.length-1,by omega,by omega,by omega,by congr 1;omega,rfl⟩
    case round=>
     rename World=>wq
     obtain ⟨i,Q,hgi,hil,hQ,rfl,rfl⟩:=hrel
     have hGi:Hid (_=n2-i):=hgi
     clear hgi
     have hQL:Q<L.length:=by omega
     have hQI:(Q:Int)<L.length:=by omega
     have hQ0:(0:Int)<=Q:=by omega
     obtain ⟨b',off',he,hb',u0,_⟩:=hS.at hQL
     cases he
     by_cases hi2:i<n2
     ·have d1:(L.length:Int)-((Q:Int)+1)<f:=by omega
      rw [hEH.out.last Q hQL (by omega)] at u0
      go_wp2_with fail
      go_roundg (n2-(i+1))
      ·exact ⟨i+1,Q-1,rfl,by omega,by omega,by congr 1;omega,rfl⟩
      ·have:=hGi.out;omega
     ·obtain rfl:i=n2:=by omega
      have hcond2:Hid (¬(i<f)\/(i<f/\L[Q].kind≠32)):=by
       rcases aH.out.2 with e | e
       ·by_cases h:i<f
        ·exact .inr ⟨h,hEH.out.at2 Q hQL (by omega)⟩
        ·exact .inl h
       ·exact .inl (by omega)
      generalize L[Q].kind=K2 at u0 hcond2
      have hcapI:(Q:Int)+1<=cap:=by omega
      have hjQ:(j:Int)<=(Q:Int)+1:=by omega
      have htn:((Q:Int)+1).toNat=Q+1:=by omega
      have hfin:Hid (L.length-i-j=Q+1-j):=by show _=_;omega
      rcases hcond2.out with h3 | ⟨h3,h4⟩
      all_goals clear hcond2
      all_goals try have d1: ¬(L.length:Int)-((Q:Int)+1)<f:=by omega
      all_goals try have d1:(L.length:Int)-((Q:Int)+1)<f:=by omega
      all_goals try have h4I:((K2:Int)==32)=false:=by rw [beq_eq_false_iff_ne];omega
      all_goals
       go_wp2_with fail
       refine bodyPost_ret (v:= .tuple #[.slice (some ⟨b,off+j*2,none⟩) (Q+1-j) (cap-j),.int .i64 (j:Nat)]) ?_ rfl ⟨by rw [hfin.out],rfl⟩
       simp [results,results124,go_sem]
theorem FW {L:List zk} {i:Nat} (hi:i<L.length) (hk:L[i].kind≠43): ∃R,Dn.YK L=Dn.YK (L.take i)++(L[i].text::R):=by
 refine ⟨Dn.YK (L.drop (i+1)),?_⟩
 have h1:=qG L i hi
 rw [if_neg hk] at h1
 have h2:Dn.YK L=Dn.YK (L.take (i+1))++Dn.YK (L.drop (i+1)):=by rw [<-Dn.ku,List.take_append_drop]
 rw [h2,h1]
 simp
theorem DH {T:List ByteArray} {L:List zk} {en at0 i:Nat} (hi:i<L.length) (hk:L[i].kind≠43) (h:T.length<=at0+(Dn.YK (L.take i)).length\/(at0+(Dn.YK (L.take i)).length<T.length/\T.getD (at0+(Dn.YK (L.take i)).length) ByteArray.empty≠L[i].text)):standM T en (Dn.YK L) (at0:Int)=false:=by
 unfold standM
 rw [decide_eq_false_iff_not]
 rintro ⟨_,h2,h3⟩
 obtain ⟨R,hR⟩:=FW hi hk
 rw [hR] at h2 h3
 generalize Dn.YK (L.take i)=A at *
 simp only [List.length_append,List.length_cons,Int.toNat_natCast] at h2 h3
 rcases h with h | ⟨h,hne⟩
 ·omega
 ·apply hne
  have h4:=congrArg (fun l=>l.getD A.length ByteArray.empty) h3
  simp only [List.getD] at h4
  rw [List.getElem?_take,if_pos (by omega),List.getElem?_drop,List.getElem?_append_right (Nat.le_refl _)] at h4
  simp only [Nat.sub_self,List.getElem?_cons_zero,Option.getD_some] at h4
  simpa [List.getD] using h4
theorem Fx {T:List ByteArray} {L:List zk} {en at0:Nat} (h0:en<=at0) (h1:at0+(Dn.YK L).length<=T.length) (h2:(T.drop at0).take (Dn.YK L).length=Dn.YK L):standM T en (Dn.YK L) (at0:Int)=true:=by
 unfold standM
 rw [decide_eq_true_iff]
 exact ⟨by omega,by omega,by simpa using h2⟩
theorem DO {T:List ByteArray} {at0 c:Nat} {A:List ByteArray} (h:at0+c<T.length) (h2:(T.drop at0).take c=A):(T.drop at0).take (c+1)=A++ [T.getD (at0+c) ByteArray.empty]:=by
 have hl:c<(T.drop at0).length:=by rw [List.length_drop];omega
 rw [List.take_succ_eq_append_getElem hl,h2,List.getElem_drop]
 simp [List.getD,h]
theorem UW {cT cL en at0:Nat} {aT aL:Option Addr} {T:List ByteArray} {L:List zk} {w:World} (hT:yq w (.slice aT T.length cT) T) (hS:yk w.heap.size w (.slice aL L.length cL) L) (hTl:T.length<=40000) (hL:L.length<=1048576) (hen:en<=at0) (hat:at0<=T.length):
 Calls prog 125 #[.slice aT T.length cT,.slice aL L.length cL,.int .i64 (at0:Int)] w fun e w'=>e= .returned (.bool (standM T en (Dn.YK L) (at0:Int)))/\Below w.heap.size w w':=by
 have hno:Hid (∀i (hi:i<L.length),L[i].kind≠43->(T.length<=at0+(Dn.YK (L.take i)).length\/(at0+(Dn.YK (L.take i)).length<T.length/\T.getD (at0+(Dn.YK (L.take i)).length) ByteArray.empty≠L[i].text))->standM T en (Dn.YK L) (at0:Int)=false):=fun i hi hk h=>DH hi hk h
 have hyes:Hid (at0+(Dn.YK L).length<=T.length->(T.drop at0).take (Dn.YK L).length=Dn.YK L->standM T en (Dn.YK L) (at0:Int)=true):=fun h1 h2=>Fx hen h1 h2
 have hol:Hid (∀i,(Dn.YK (L.take i)).length<=L.length):=fun i=>by
  have h1:=ZB (L.take i)
  have h2:=List.length_take_le' i L
  omega
 generalize standM T en (Dn.YK L) (at0:Int)=r at *
 go_enter func125,ntmps125
 go_wp2_with fail
 go_loopg [2,7] L.length (fun g t2 t7 wr=> ∃i c:Nat,g=L.length-i/\i<=L.length/\t2= .int .i64 ((at0+c:Nat):Int)/\t7= .int .i64 i/\at0+c<=T.length/\Hid (c=(Dn.YK (L.take i)).length/\(T.drop at0).take c=Dn.YK (L.take i))/\Below w.heap.size w wr)
 case atStart=>exact ⟨0,0,by omega,by omega,rfl,rfl,by omega,⟨rfl,rfl⟩,Below.refl _ _⟩
 case round=>
  obtain ⟨i,c,hgi,hil,rfl,rfl,hac,hc,hbel⟩:=hrel
  have hG:Hid (gk=L.length-i):=hgi
  clear hgi
  have hsz:=hbel.size
  obtain ⟨p,hp⟩: ∃p,at0+c=p:=⟨_,rfl⟩
  rw [hp] at hac ⊢
  have hpH:Hid (at0+c=p):=hp
  clear hp
  by_cases hi:i<L.length
  ·have hiI:(i:Int)<L.length:=by omega
   have hi0:(0:Int)<=(i:Int):=by omega
   have hp0:(0:Int)<=(p:Int):=by omega
   obtain ⟨bb,off,rfl,hbB,s0,s1⟩:=(hS.below hbel).at hi
   by_cases hk:L[i].kind=43
   ·have hnext:Hid (Dn.YK (L.take (i+1))=Dn.YK (L.take i)):=by show _=_;rw [qG L i hi,if_pos hk];simp
    rw [hk] at s0
    clear hk
    go_wp2_with fail
    go_roundg (L.length-(i+1))
    ·exact ⟨i+1,c,rfl,by omega,by rw [hpH.out],by push_cast;rfl,by rw [hpH.out];exact hac,⟨by rw [hnext.out];exact hc.out.1,by rw [hnext.out];exact hc.out.2⟩,hbel⟩
    ·have:=hG.out;omega
   ·have hkB:((L[i].kind:Int)==43)=false:=by rw [beq_eq_false_iff_ne];omega
    have hnext:Hid (Dn.YK (L.take (i+1))=Dn.YK (L.take i)++ [L[i].text]):=by show _=_;rw [qG L i hi,if_neg hk]
    have hnoi:=hno.out i hi hk
    rw [<-hc.out.1,hpH.out] at hnoi
    have hnoH:Hid (T.length<=p\/(p<T.length/\T.getD p ByteArray.empty≠L[i].text)->r=false):=hnoi
    clear hnoi
    generalize L[i].text=tx at *
    generalize L[i].kind=K at *
    by_cases hpT:p<T.length
    ·have hpI:(p:Int)<T.length:=by omega
     have hdF:decide (T.length<=p)=false:=by rw [decide_eq_false_iff_not];omega
     obtain ⟨b2,off2,rfl,t0⟩:=(hT.below hbel).at hpT
     have htm:=DO (T:=T) (at0:=at0) (c:=c) (by rw [hpH.out];exact hpT) hc.out.2
     rw [hpH.out] at htm
     have htH:Hid ((T.drop at0).take (c+1)=Dn.YK (L.take i)++ [T.getD p ByteArray.empty]):=htm
     clear htm hk
     generalize T.getD p ByteArray.empty=ty at *
     by_cases hy:ty=tx
     ·subst hy
      go_wp2_with fail
      go_quiet (fail)
      go_wp2_with fail
      go_roundg (L.length-(i+1))
      ·exact ⟨i+1,c+1,rfl,by omega,by have:=hpH.out;congr 1;push_cast;omega,by push_cast;rfl,by have:=hpH.out;omega,⟨by rw [hnext.out,List.length_append,<-hc.out.1];rfl,by rw [hnext.out];exact htH.out⟩,Below.drewN' hbel⟩
      ·have:=hG.out;omega
     ·have hyB:(ty.toList==tx.toList)=false:=Xj hy
      obtain rfl:r=false:=hnoH.out (.inr ⟨hpT,hy⟩)
      go_wp2_with fail
      go_quiet (fail)
      go_wp2_with fail
      go_ret
      exact ⟨rfl,Below.drewN' hbel⟩
    ·have hdT:decide (T.length<=p)=true:=by rw [decide_eq_true_iff];omega
     obtain rfl:r=false:=hnoH.out (.inl (by omega))
     go_wp2_with fail
     go_quiet (fail)
     go_wp2_with fail
     go_ret
     exact ⟨rfl,Below.drewN' hbel⟩
  ·have hiI: ¬((i:Int)<L.length):=by omega
   obtain rfl:i=L.length:=by omega
   obtain rfl:r=true:=by
    obtain ⟨c1,c2⟩:=hc.out
    rw [List.take_length] at c1 c2
    subst c1
    exact hyes.out (by rw [hpH.out];exact hac) c2
   have hpI:(p:Int)<=T.length:=by omega
   go_wp2_with fail
   go_ret
   exact ⟨rfl,hbel⟩
theorem JN (l:List ByteArray) (k:Nat) (h:k<l.length):zy (l.take (k+1))=zy (l.take k)++(l.getD k ByteArray.empty).data.toList++ [10]:=by
 rw [Qm l k h,List.append_assoc]
theorem UR {cT:Nat} {aT:Option Addr} {T:List ByteArray} {w:World} (hT:yq w (.slice aT T.length cT) T) (hTl:T.length<=4000000000000) (hTz:(zy T).length<=1000000000000000):
 Calls prog 126 #[.slice aT T.length cT] w fun e w'=>e= .returned (.string ⟨(zy T).toArray⟩)/\w'=w:=by
 have hfin:Hid ((⟨(zy (T.take T.length)).toArray⟩:ByteArray)=⟨(zy T).toArray⟩):=by show _=_;rw [List.take_length]
 have hst:Hid (∀k (h:k<T.length),(⟨(zy (T.take k)).toArray⟩:ByteArray)++T.getD k ByteArray.empty++⟨#[10]⟩=⟨(zy (T.take (k+1))).toArray⟩):=by
  show ∀k (h:k<T.length),_
  intro k h
  rw [JN T k h]
  apply ByteArray.ext
  simp [ByteArray.data_append]
 go_enter func126,ntmps126
 go_wp2_with fail
 go_loopg [3,4] T.length (fun g t3 t4 wr=> ∃k:Nat,g=T.length-k/\k<=T.length/\t3= .string ⟨(zy (T.take k)).toArray⟩/\t4= .int .i64 k/\wr=w)
 case atStart=>exact ⟨0,by omega,by omega,rfl,rfl,rfl⟩
 case round=>
  obtain ⟨k,hgk,hkl,rfl,rfl,rfl⟩:=hrel
  have hG:Hid (gk=T.length-k):=hgk
  clear hgk
  by_cases hk:k<T.length
  ·have hkI:(k:Int)<T.length:=by omega
   obtain ⟨b2,off2,rfl,t0⟩:=hT.at hk
   have hstk:=hst.out k hk
   have hstH:Hid _:=hstk
   have hz1:(⟨(zy (T.take k)).toArray⟩:ByteArray).size+(T.getD k ByteArray.empty).size+1<=1000000000000000:=by
    have h1:=ZN T (k+1)
    rw [JN T k hk,List.length_append,List.length_append] at h1
    have e1:(⟨(zy (T.take k)).toArray⟩:ByteArray).size=(zy (T.take k)).length:=rfl
    have e2:(T.getD k ByteArray.empty).data.toList.length=(T.getD k ByteArray.empty).size:=rfl
    rw [e2] at h1
    simp only [List.length_cons,List.length_nil] at h1
    omega
   generalize (⟨(zy (T.take k)).toArray⟩:ByteArray)=s at *
   generalize T.getD k ByteArray.empty=ty at *
   have l1: ¬9223372036854775807<s.size+ty.size:=by omega
   have l2: ¬9223372036854775807<s.size+ty.size+1:=by omega
   have l3:(s++ty).size=s.size+ty.size:=by simp
   clear hstk
   go_wp2_with fail
   go_roundg (T.length-(k+1))
   ·exact ⟨k+1,rfl,by omega,by rw [<-hstH.out],by push_cast;rfl,rfl⟩
   ·have:=hG.out;omega
  ·have hkI: ¬((k:Int)<T.length):=by omega
   obtain rfl:k=T.length:=by omega
   rw [hfin.out]
   go_wp2_with fail
   go_ret
   exact ⟨rfl,rfl⟩
def xZ (r:List zk×List zk) (s:zk):List zk×List zk:=
 if s.kind=45 then (r.1,r.2++ [⟨43,s.text⟩]) else if s.kind=43 then (r.1++ [⟨45,s.text⟩],r.2) else (r.1++r.2++ [⟨32,s.text⟩],[])
def revF (L:List zk):List zk×List zk:=L.foldl xZ ([],[])
def yX (L:List zk):List zk:=(revF L).1++(revF L).2
theorem Zw {L:List zk} {k:Nat} (h:k<L.length):revF (L.take (k+1))=xZ (revF (L.take k)) L[k]:=by
 unfold revF
 rw [List.take_succ_eq_append_getElem h,List.foldl_append]
 rfl
theorem Qh: ∀(L:List zk),(revF L).1.length+(revF L).2.length=L.length:=by
 intro L
 have key: ∀(L:List zk) (r:List zk×List zk),(L.foldl xZ r).1.length+(L.foldl xZ r).2.length=r.1.length+r.2.length+L.length:=by
  intro L
  induction L with
  | nil=>intro r;simp
  | cons s L ih=>
    intro r
    rw [List.foldl_cons,ih]
    unfold xZ
    split
    ·simp;omega
    ·split
     ·simp;omega
     ·simp;omega
 have:=key L ([],[])
 simpa [revF] using this
theorem Ve (l:List zk): ∀u∈zg l,u.oneCell'=true:=by
 induction l with
 | nil=>simp [zg]
 | cons s l ih=>
   intro u hu
   have e:zg (s::l)= .int .u8 (s.kind:Nat):: .string s.text::zg l:=rfl
   rw [e] at hu
   rcases List.mem_cons.1 hu with rfl | hu
   ·rfl
   ·rcases List.mem_cons.1 hu with rfl | hu
    ·rfl
    ·exact ih u hu
theorem Ft {base:Nat} {w:World} {n cap:Nat} {a:Option Addr} {xs:List Value} (h:w.ownsRow base 93 2 (.slice a n cap) n xs):w.ownsRow base 93 2 (.slice a 0 cap) 0 (zg []):=by
 refine ⟨rfl,?_⟩
 rcases h.2 with ⟨e,_⟩ | ⟨g,cap',cur,e,hbg,hg,hnc,hcm,hcs,htake⟩
 ·cases e;exact .inl ⟨rfl,rfl⟩
 ·cases e;exact .inr ⟨g,cap,cur,rfl,hbg,hg,Nat.zero_le _,hcm,hcs,by simp [zg]⟩
theorem Dj {a:Option Addr} {n c:Nat} (w:World):
 (Instr.slice 59 (.slice a n c) none (some (.int .i64 0)) none).run prog w= .ok (.slice a 0 c) w:=by
 cases a<;>simp [go_sem,underlying59]
theorem Wn (a:Option Addr) (n m c:Nat):(Value.slice a n c).ownBlock=(Value.slice a m c).ownBlock:=by cases a<;>rfl
structure Two (base:Nat) (vt va:Value) (r:List zk×List zk) (w:World):Prop where
 t:w.ownsRow base 93 2 vt r.1.length (zg r.1)
 a:w.ownsRow base 93 2 va r.2.length (zg r.2)
 ap:va.ownBlock=none\/vt.ownBlock≠va.ownBlock
theorem Two.below {base:Nat} {vt va:Value} {r:List zk×List zk} {w w':World} (h:Two base vt va r w) (hb:Below w.heap.size w w'):Two base vt va r w':=
 ⟨zR h.t hb (fun k e=>(h.t.lt k e).2),zR h.a hb (fun k e=>(h.a.lt k e).2),h.ap⟩
theorem Two.alloc {base:Nat} {vt va:Value} {r:List zk×List zk} {w:World} (h:Two base vt va r w) (o:Obj):Two base vt va r (w.alloc o):=⟨h.t.alloc o,h.a.alloc o,h.ap⟩
theorem Two.newT {base:Nat} {vt va vt':Value} {r:List zk×List zk} {w w':World} (h:Two base vt va r w) {T:List zk} (ht:w'.ownsRow base 93 2 vt' T.length (zg T)) (hg:w.grownBy w' vt.ownBlock)
 (hn:vt'.ownBlock=vt.ownBlock\/ ∀g,vt'.ownBlock=some g->w.heap.size<=g):Two base vt' va (T,r.2) w':=by
 refine ⟨ht,h.a.kept hg ?_,?_⟩
 ·rcases h.ap with e | e
  ·exact .inl e
  ·exact .inr (fun e2=>e e2.symm)
 ·rcases h.ap with e | e
  ·exact .inl e
  ·cases hv:va.ownBlock with
   | none=>exact .inl rfl
   | some k=>
     right
     intro e2
     rcases hn with h1 | h1
     ·exact e (by rw [<-h1,e2,hv])
     ·have:=h1 k e2
      have:=(h.a.lt k hv).2
      omega
theorem Two.newA {base:Nat} {vt va va':Value} {r:List zk×List zk} {w w':World} (h:Two base vt va r w) {A:List zk} (ha:w'.ownsRow base 93 2 va' A.length (zg A)) (hg:w.grownBy w' va.ownBlock)
 (hn:va'.ownBlock=va.ownBlock\/ ∀g,va'.ownBlock=some g->w.heap.size<=g):Two base vt va' (r.1,A) w':=by
 refine ⟨h.t.kept hg ?_,ha,?_⟩
 ·rcases h.ap with e | e
  ·cases hv:vt.ownBlock with
   | none=>exact .inl rfl
   | some k=>right;rw [e];intro e2;cases e2
  ·exact .inr e
 ·cases hv:va'.ownBlock with
  | none=>exact .inl rfl
  | some k=>
    right
    intro e2
    rcases hn with h1 | h1
    ·rcases h.ap with e | e
     ·rw [<-h1,hv] at e;cases e
     ·exact e (by rw [e2,<-h1,hv])
    ·have:=h1 k hv
     have:=(h.t.lt k e2).2
     omega
section
variable {P:Program} {ops:Array Oper} {Q:Exit->Act->World->Prop} {md:Region.Mode}
def yP (P:Program) (ops:Array Oper) (I:World->Prop) (o:Oper) (v:Value) (a:Act):Prop:=
 Region.wanted o (yielded ops a.tmps)=true/\ ∀w,I w->(execOp a.eval o).run P w= .ok (.value v) w
def yS (P:Program) (md:Region.Mode) (ops:Array Oper) (Q:Exit->Act->World->Prop) (I:World->Prop):Nat->Array Bool->Act->World->Prop
 | 0,l,a,w=>I w/\Region.ready md ops l= []/\Q .normal a w
 | n+1,l,a,w=>I w/\(Region.ready md ops l= []->Q .normal a w)/\ ∀i∈Region.ready md ops l,wpOp P ops Q i (yS P md ops Q I n (l.setIfInBounds i true)) a w
theorem yS.world {I:World->Prop} {n:Nat} {l:Array Bool} {a:Act} {w:World} (h:yS P md ops Q I n l a w):I w:=by
 cases n with
 | zero=>exact h.1
 | succ n=>exact h.1
theorem yS.any {I:World->Prop} : ∀ {n:Nat} {l:Array Bool} {a:Act} {w:World},yS P md ops Q I n l a w->wpAny P md ops Q n l a w
 | 0,_,_,_,h=>h.2
 | _+1,_,_,_,h=>⟨h.2.1,fun i hi=>wpOp_mono (fun _ _ h'=>yS.any h') (h.2.2 i hi)⟩
theorem yP.keeps {I:World->Prop} {o p:Oper} {v:Value} {a:Act} (hs: ∀cs b,o.op≠ .select cs b) (hap: ∀d,p.dst=some d->d ∉ o.looksAt ops) (h:yP P ops I o v a) (u:Value):yP P ops I o v (a.put p.dst u):=by
 refine ⟨(wanted_put o a p.dst u hap).trans h.1,fun w hw=> ?_⟩
 rw [execOp_put o hs a p.dst u hap]
 exact h.2 w hw
theorem Kx {I:World->Prop} {j:Nat} {o p:Oper} {v:Value} (hj:ops[j]? =some p) (hap:o.apart ops p=true) (hso: ∀cs b,o.op≠ .select cs b) (hsp: ∀cs b,p.op≠ .select cs b)
 (hQ: ∀c a w,Q (.panic c) (a.put o.dst v) w->Q (.panic c) a w) {K:Act->World->Prop} {a:Act} {w:World} (hy:yP P ops I o v a) (h:wpOp P ops Q j K (a.put o.dst v) w):
 wpOp P ops Q j (fun a' w'=>yP P ops I o v a'/\K (a'.put o.dst v) w') a w:=by
 obtain ⟨h1,h2,h3⟩:=Oper.apart_spec hap
 have hk:=fun u=>hy.keeps (p:=p) hso h3 u
 unfold wpOp at h ⊢
 simp only [hj] at h ⊢
 rw [wanted_put p a o.dst v h1] at h
 by_cases hw:Region.wanted p (yielded ops a.tmps)=true
 ·rw [if_pos hw] at h ⊢
  have hx:=execOp_put p hsp a o.dst v h1
  rcases h with h | ⟨q1,q2⟩
  ·left
   unfold Oper.wp at h ⊢
   rw [hx] at h
   cases hr:(execOp a.eval p).run P w with
   | halt x w'=>
     rw [hr] at h
     cases x<;>simp only [Oper.upon] at h ⊢
     exact hQ _ _ _ h
   | ok n w'=>
     rw [hr] at h
     cases n with
     | value u=>exact ⟨hk u,by rw [<-Act.put_comm a v u h2];exact h⟩
     | skip=>exact ⟨hk undef,by rw [<-Act.put_comm a v undef h2];exact h⟩
     | defer d=>
       simp only [Oper.upon] at h ⊢
       have hk2:yP P ops I o v ({ a with defers:=d::a.defers }):=hy
       exact ⟨hk2.keeps (p:=p) hso h3 undef,by rw [<-Act.put_comm _ v undef h2,<-Act.put_defers];exact h⟩
     | enter f args=>
       simp only [Oper.upon] at h ⊢
       refine h.mono fun e w'' he=> ?_
       cases e with
       | returned u=>exact ⟨hk u,by rw [<-Act.put_comm a v u h2];exact he⟩
       | panicked c=>exact hQ _ _ _ he
       | outgrown=>exact he
     | row r args=>
       simp only [Oper.upon] at h ⊢
       exact Rows.mono h fun u w'' he=>⟨hk u,by rw [<-Act.put_comm a v u h2];exact he⟩
     | _=>simp only [Oper.upon] at h
  ·right
   unfold Oper.asks at q1 ⊢
   rw [hx] at q1
   exact ⟨q1,q2⟩
 ·rw [if_neg hw] at h ⊢
  exact ⟨hk undef,by rw [<-Act.put_comm a v undef h2];exact h⟩
theorem yP.op {I:World->Prop} {i:Nat} {o:Oper} {v:Value} {a:Act} {w:World} {K:Act->World->Prop} (hi:ops[i]? =some o) (hy:yP P ops I o v a) (hw:I w) (h:K (a.put o.dst v) w):wpOp P ops Q i K a w:=by
 unfold wpOp
 simp only [hi]
 rw [if_pos hy.1]
 left
 unfold Oper.wp
 rw [hy.2 w hw]
 exact h
theorem YG {I:World->Prop} {i:Nat} {o:Oper} {v:Value} (hi:ops[i]? =some o) (hsel:Region.noSelect ops=true) (hQ: ∀c a w,Q (.panic c) (a.put o.dst v) w->Q (.panic c) a w):
 ∀(n:Nat) (l:Array Bool) (a:Act) (w:World),(∀j p,ops[j]? =some p->j≠i->l.getD j true=false->(∀e∈p.after,Region.binds md e=true->e.on≠i)->o.apart ops p=true)->
  i∈Region.ready md ops l->yP P ops I o v a->yS P md ops Q I n (l.setIfInBounds i true) (a.put o.dst v) w->yS P md ops Q I (n+1) l a w
 | n,l,a,w,hf,hr,hy,h=>by
   have hns:=Region.noSelect_spec hsel
   refine ⟨h.world,fun h0=>(by rw [h0] at hr;cases hr),fun j hj=> ?_⟩
   by_cases hji:j=i
   ·subst hji
    exact hy.op hi h.world h
   ·have hj2:=ready_mono hj hji
    cases n with
    | zero=>rw [h.2.1] at hj2;cases hj2
    | succ n=>
      obtain ⟨hju,p,hp,hall⟩:=mem_ready.1 hj
      have hiu:=(mem_ready.1 hr).1
      have hno: ∀e∈p.after,Region.binds md e=true->e.on≠i:=fun e he hb heq=>by
       have h2:=hall e he hb
       rw [heq] at h2
       by_cases hs:i<l.size
       ·simp [hs] at hiu h2;rw [hiu] at h2;cases h2
       ·simp [Array.getElem?_eq_none (Nat.le_of_not_lt hs)] at h2
      have h2:=Kx hp (hf j p hp hji hju hno) (fun cs b=>hns i o cs b hi) (fun cs b=>hns j p cs b hp) hQ hy (h.2.2 j hj2)
      refine wpOp_mono (fun a' w' h3=>YG hi hsel hQ n _ a' w' (fun k q hk hki hun hno=>hf k q hk hki ?_ hno) (ready_mono hr (Ne.symm hji)) h3.1 (by rw [Array.setIfInBounds_comm _ _ hji];exact h3.2)) h2
      by_cases hjk:j=k
      ·subst hjk;exact hju
      ·rw [getD_set_ne true hjk] at hun;exact hun
theorem VT {I:World->Prop} {i:Nat} {o:Oper} {v:Value} {n:Nat} {l:Array Bool} {a:Act} {w:World} (hi:ops[i]? =some o) (hs:Region.noSelect ops=true) (hf:Region.free md ops l i=true) (hr:(Region.ready md ops l).contains i=true)
 (hQ: ∀c a w,Q (.panic c) (a.put o.dst v) w->Q (.panic c) a w) (hy:yP P ops I o v a) (h:yS P md ops Q I n (l.setIfInBounds i true) (a.put o.dst v) w):yS P md ops Q I (n+1) l a w:=
 YG hi hs hQ n l a w (fun j p hj hji hun hno=>Region.free_spec hi hf j p hj hji hun hno) (by simpa using hr) hy h
theorem zp {I:World->Prop} {i:Nat} {o:Oper} {v:Value} {n:Nat} {l:Array Bool} {a:Act} {w:World} (hi:ops[i]?=some o) (hh:(Region.noSelect ops && (Region.free md ops l i && (Region.ready md ops l).contains i))=true) (hQ: ∀c a w,Q (.panic c) (a.put o.dst v) w->Q (.panic c) a w) (hy:yP P ops I o v a) (h:yS P md ops Q I n (l.setIfInBounds i true) (a.put o.dst v) w):yS P md ops Q I (n+1) l a w:=by
 simp only [Bool.and_eq_true] at hh
 obtain ⟨h1,h2,h3⟩:=hh
 exact VT hi h1 h2 h3 hQ hy h
theorem yy {I:World->Prop} {i:Nat} {n:Nat} {l:Array Bool} {a:Act} {w:World} (hw:I w) (hr:Region.ready md ops l= [i]) (h:wpOp P ops Q i (yS P md ops Q I n (l.setIfInBounds i true)) a w):yS P md ops Q I (n+1) l a w:=
 ⟨hw,fun h0=>(by rw [hr] at h0;cases h0),fun j hj=>by rw [hr,List.mem_singleton] at hj;subst hj;exact h⟩
theorem xK {i:Nat} {o:Oper} {a:Act} {w:World} {K:Act->World->Prop} (hi:ops[i]? =some o) (hg:o.guard=none) (f:FuncId) (xs:Array Operand) (ts:Array TypeId) (hop:o.op=Op.call { callee:=Callee.value (.func f),args:=xs,argTypes:=ts })
 (args:Array Value) (ha:xs.map a.eval=args) (hrun:(callFunc f args).run P w= .ok (.enter f args) w) (R:Value->World->Prop)
 (hc:Calls P f args w fun e w'=> ∃v,e= .returned v/\R v w') (hK: ∀v w',R v w'->K (a.put o.dst v) w'):wpOp P ops Q i K a w:=by
 have h:=Km (ops:=ops) (Q:=Q) (E:=True) hg f xs ts hop args ha hrun R hc hK
 have hw:Region.wanted o (yielded ops a.tmps)=true:=by simp [Region.wanted,hg]
 rw [if_pos hw] at h
 unfold wpOp
 simp only [hi]
 rw [if_pos hw]
 exact .inl h
theorem xv {i:Nat} {o:Oper} {a:Act} {w w':World} {K:Act->World->Prop} (hi:ops[i]? =some o) (hg:o.guard=none) (hrun:(execOp a.eval o).run P w= .ok .skip w') (hK:K (a.put o.dst undef) w'):wpOp P ops Q i K a w:=by
 have hw:Region.wanted o (yielded ops a.tmps)=true:=by simp [Region.wanted,hg]
 unfold wpOp
 simp only [hi]
 rw [if_pos hw]
 left
 unfold Oper.wp
 rw [hrun]
 exact hK
theorem qi {I:World->Prop} {l:Array Bool} {a:Act} {w:World} (hw:I w) (hr:Region.ready md ops l= []) (h:Q .normal a w):yS P md ops Q I 0 l a w:=⟨hw,hr,h⟩
end
theorem Sd {W:World} {g:Nat} {a0 a1 a2 a3 a4:Value} {t:TypeId} (h:W.heap[g]? =some (.cells #[a0,a1,a2,a3,a4] t (0,0))) (v0 v1 v2 v3 v4:Value):
 (((((W.setCell ⟨g,0,none⟩ v0).setCell ⟨g,1,none⟩ v1).setCell ⟨g,2,none⟩ v2).setCell ⟨g,3,none⟩ v3).setCell ⟨g,4,none⟩ v4).heap[g]? =some (.cells #[v0,v1,v2,v3,v4] t (0,0)):=
 zb _ _ _ _ _ _ _ (zb _ _ _ _ _ _ _ (zb _ _ _ _ _ _ _ (zb _ _ _ _ _ _ _ (zb _ _ _ _ _ _ _ h))))
def qE (h:zx):zx:=⟨h.tr,h.tc,h.fr,h.fc,yX h.lines⟩
theorem KT (x:Value) (w:World):(callFunc 70 #[x]).run prog w= .ok (.enter 70 #[x]) w:=by kernel_rfl
theorem HSo.push2 {base g cap:Nat} {v vl:Value} {hv:List HV} {w w1 w3:World} {ob:Obj} (h:HSo base v hv w) (H:zx) (hb:Below w.heap.size w w1) (hvl:w1.ownsRow w.heap.size 93 2 vl H.lines.length (zg H.lines)) (hbase:base<=w.heap.size)
 (hgr:(w1.alloc ob).grownBy w3 v.ownBlock) (hown:w3.ownsRow base 61 5 (.slice (some ⟨g,0,none⟩) (hv.length+1) cap) (hv.length+1) (hunkCells hv++xo (H,vl))):
 HSo base (.slice (some ⟨g,0,none⟩) (hv.length+1) cap) (hv++ [(H,vl)]) w3:=by
 have hlen:(hv++ [(H,vl)]).length=hv.length+1:=by simp
 have hne: ∀ {vv:Value} {n:Nat} {xs:List Value} {b:Nat},w1.ownsRow b 93 2 vv n xs->vv.ownBlock=none\/vv.ownBlock≠v.ownBlock:=by
  intro vv n xs b ho
  cases hx:vv.ownBlock with
  | none=>exact .inl rfl
  | some k=>
    right
    intro e
    obtain ⟨c1,q1⟩:=ze ho hx
    have hrow:=zR h.owns hb (fun j e=>(h.owns.lt j e).2)
    obtain ⟨c2,q2⟩:=ze hrow e.symm
    rw [q1] at q2
    cases q2
 refine .inr ⟨g,cap,by rw [hlen],(hown.lt g rfl).1,?_⟩
 rw [hlen]
 refine ⟨by simp,?_,?_,?_⟩
 ·rw [jI];simpa [hunkCells] using hown
 ·intro p hp
  rw [List.mem_append] at hp
  rcases hp with hp | hp
  ·rcases h with ⟨rfl,_⟩ | ⟨g0,cap0,e,_,hs⟩
   ·simp at hp
   ·have h1:=zR (hs.lines p hp) hb (fun j e=>((hs.lines p hp).lt j e).2)
    exact (h1.alloc ob).kept hgr (hne h1)
  ·rw [List.mem_singleton] at hp
   subst hp
   exact qe ((hvl.alloc ob).kept hgr (hne hvl)) hbase
 ·rw [List.pairwise_append]
  refine ⟨?_,by simp,fun p hp q hq=> ?_⟩
  ·rcases h with ⟨rfl,_⟩ | ⟨g0,cap0,e,_,hs⟩
   ·exact List.Pairwise.nil
   ·exact hs.apart
  ·rw [List.mem_singleton] at hq
   subst hq
   rcases h with ⟨rfl,_⟩ | ⟨g0,cap0,e,_,hs⟩
   ·simp at hp
   ·cases hx:p.2.ownBlock with
    | none=>exact .inl rfl
    | some k=>
      right
      intro e2
      have h1:=((hs.lines p hp).lt k hx).2
      have h2:=(hvl.lt k e2.symm).1
      omega
end Go.Proofs.YtcclgodahlinbaaGreatDoor
