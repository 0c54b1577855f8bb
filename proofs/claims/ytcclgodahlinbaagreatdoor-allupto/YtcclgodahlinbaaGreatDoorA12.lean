import Derived.Test.YtcclgodahlinbaaGreatDoorA11
import Derived.Test.YtcclgodahlinbaaGreatDoorA06
import Derived.Lib.AtoiAllCases
import Derived.Lib.ItoaMem
import Derived.Lib.CutLaws
import Derived.Test.YtcclgodahlinbaaGreatDoorA08
namespace Dn
section
set_option linter.unusedSectionVars false
variable {α :Type} [DecidableEq α] (o f:List α) [Inhabited α]
theorem qq.kap {st:yl} {G Q:Nat->Nat->Nat} {κ κ':Nat->Nat} {x y c k:Nat} (h:qq f st G Q κ x y c k) (ht: ∀s∈st.op,s.turn<=st.turns) (hk: ∀t,t<=st.turns-> κ' t= κ t):qq f st G Q κ' x y c k:=by
 rcases h with h | ⟨s,hs,e1,e2,e3⟩
 ·exact .inl h
 ·exact .inr ⟨s,hs,e1,e2,by rw [hk _ (ht s hs)];exact e3⟩
theorem jq.kap {hole:Option (Nat×Nat)} {st:yl} {G Q:Nat->Nat->Nat} {κ κ':Nat->Nat} (h:jq o f hole st G Q κ) (hk: ∀t,t<=st.turns-> κ' t= κ t):jq o f hole st G Q κ':=by
 have e: ∀s∈st.op,κ' s.turn= κ s.turn:=fun s hs=>hk _ (h.tle s hs)
 refine ⟨h.heap,h.uniq,h.tle,h.far,?_,?_,?_,?_,h.known,h.start.kap f h.tle hk,?_,h.low,?_,h.top⟩
 ·intro s1 h1 s2 h2 a b;rw [e s1 h1,e s2 h2];exact h.ord s1 h1 s2 h2 a b
 ·intro s1 h1 s2 h2 a;rw [e s1 h1,e s2 h2];exact h.ord2 s1 h1 s2 h2 a
 ·intro x y hx hy hr s hs;rw [e s hs];exact h.mono x y hx hy hr s hs
 ·intro s hs;rw [e s hs];exact h.spots s hs
 ·intro x y hx hy hr hh
  have:=h.next x y hx hy hr hh
  unfold ZW at this ⊢
  split at this
  ·rename_i hs;rw [if_pos hs];exact this.kap f h.tle hk
  ·rename_i hs;rw [if_neg hs];exact ⟨fun a=>(this.1 a).kap f h.tle hk,fun a=>(this.2 a).kap f h.tle hk⟩
 ·intro s hs;rw [e s hs];exact h.lowS s hs
theorem qq.push {st:yl} {G Q:Nat->Nat->Nat} {κ :Nat->Nat} {x y c k:Nat} (h:qq f st G Q κ x y c k) (s:Spot) (t:Nat):qq f { op:=jN st.op s,turns:=t,led:=st.led } G Q κ x y c k:=by
 rcases h with h | ⟨q,hq,e⟩
 ·exact .inl h
 ·exact .inr ⟨q,(yU st.op s).mem_iff.2 (by simp [hq]),e⟩
theorem jq.push {hole:Option (Nat×Nat)} {st:yl} {G Q:Nat->Nat->Nat} {κ :Nat->Nat} (h:jq o f hole st G Q κ) (s:Spot) (t:Nat) (hn: ∀q∈st.op,q.turn≠s.turn) (ht1:s.turn<=t) (ht2:st.turns<=t)
 (hq: ∀q∈st.op,s.far<=q.far+1/\q.far<=s.far+1/\(q.far=s.far->(q.turn<s.turn-> κ q.turn< κ s.turn)/\(s.turn<q.turn-> κ s.turn< κ q.turn))/\(q.far=s.far+1-> κ q.turn<2 * κ s.turn)/\(s.far=q.far+1-> κ s.turn<2 * κ q.turn))
 (hm: ∀x y,x<=o.length->y<=f.length->st.at f.length x y≠0->le2 (G x y) (Q x y) s.far (κ s.turn)) (hc:Kb o f st G Q s.x s.y s.kind s.far (κ s.turn)) (hl:Low o f s.x s.y s.far (κ s.turn)):
 jq o f hole { op:=jN st.op s,turns:=t,led:=st.led } G Q κ :=by
 have hmem: ∀q,q∈jN st.op s ↔ q∈st.op\/q=s:=by intro q;rw [(yU st.op s).mem_iff];simp
 refine ⟨Ez h.heap s,?_,?_,?_,?_,?_,?_,?_,h.known,h.start.push f s t,?_,h.low,?_,h.top⟩
 ·have hp:=(yU st.op s).map (·.turn)
  rw [hp.nodup_iff,List.map_append,List.nodup_append]
  refine ⟨h.uniq,by simp,?_⟩
  intro a ha b hb e
  obtain ⟨q,hq',rfl⟩:=List.mem_map.1 ha
  simp at hb
  exact hn q hq' (e.trans hb)
 ·intro q hq'
  rcases (hmem q).1 hq' with h1 | rfl
  ·exact Nat.le_trans (h.tle q h1) ht2
  ·exact ht1
 ·intro s1 h1 s2 h2
  rcases (hmem s1).1 h1 with g1 | g1<;>rcases (hmem s2).1 h2 with g2 | g2
  ·exact h.far s1 g1 s2 g2
  ·rw [g2];exact (hq s1 g1).2.1
  ·rw [g1];exact (hq s2 g2).1
  ·rw [g1,g2];omega
 ·intro s1 h1 s2 h2 e1 e2
  rcases (hmem s1).1 h1 with g1 | g1<;>rcases (hmem s2).1 h2 with g2 | g2
  ·exact h.ord s1 g1 s2 g2 e1 e2
  ·rw [g2] at e1 e2 ⊢;exact ((hq s1 g1).2.2.1 e1).1 e2
  ·rw [g1] at e1 e2 ⊢;exact ((hq s2 g2).2.2.1 e1.symm).2 e2
  ·rw [g1,g2] at e2;omega
 ·intro s1 h1 s2 h2 e1
  rcases (hmem s1).1 h1 with g1 | g1<;>rcases (hmem s2).1 h2 with g2 | g2
  ·exact h.ord2 s1 g1 s2 g2 e1
  ·rw [g2] at e1 ⊢;exact (hq s1 g1).2.2.2.1 e1
  ·rw [g1] at e1 ⊢;exact (hq s2 g2).2.2.2.2 e1
  ·rw [g1,g2] at e1;omega
 ·intro x y hx hy hr q hq'
  rcases (hmem q).1 hq' with h1 | rfl
  ·exact h.mono x y hx hy hr q h1
  ·exact hm x y hx hy hr
 ·intro q hq'
  rcases (hmem q).1 hq' with h1 | rfl
  ·exact h.spots q h1
  ·exact hc
 ·intro x y hx hy hr hh
  have:=h.next x y hx hy hr hh
  unfold ZW at this ⊢
  split at this
  ·rename_i hs;rw [if_pos hs];exact this.push f s t
  ·rename_i hs;rw [if_neg hs];exact ⟨fun a=>(this.1 a).push f s t,fun a=>(this.2 a).push f s t⟩
 ·intro q hq'
  rcases (hmem q).1 hq' with h1 | rfl
  ·exact h.lowS q h1
  ·exact hl
theorem jq.change {hole:Option (Nat×Nat)} {st:yl} {G Q:Nat->Nat->Nat} {κ :Nat->Nat} (h:jq o f hole st G Q κ) (p:Spot) (dx dy kind nk:Nat) (hpt:p.turn<=st.turns)
 (hx:p.x+dx<=o.length) (hy:p.y+dy<=f.length) (hnk:nk<=2 * κ p.turn+1)
 (hq: ∀q∈st.op,p.far<=q.far/\q.far<=p.far+1/\(q.far=p.far-> κ p.turn< κ q.turn)/\(q.far=p.far+1-> κ q.turn<nk))
 (hm: ∀x y,x<=o.length->y<=f.length->st.at f.length x y≠0->le2 (G x y) (Q x y) p.far (κ p.turn))
 (hc:Kb o f st G Q (p.x+dx) (p.y+dy) kind (p.far+1) nk) (hl:Low o f (p.x+dx) (p.y+dy) (p.far+1) nk):
 ∃ κ',(∀t,t<=st.turns-> κ' t= κ t)/\jq o f hole (yG f.length st p dx dy kind) G Q κ'/\qq f (yG f.length st p dx dy kind) G Q κ' (p.x+dx) (p.y+dy) (p.far+1) nk/\
   (yG f.length st p dx dy kind).led=st.led/\st.turns<=(yG f.length st p dx dy kind).turns/\(∀x y c k,qq f st G Q κ x y c k->qq f (yG f.length st p dx dy kind) G Q κ' x y c k)/\
   (∀q∈(yG f.length st p dx dy kind).op,p.far<=q.far/\q.far<=p.far+1/\(q.far=p.far-> κ' p.turn< κ' q.turn)/\(q.far=p.far+1-> κ' q.turn<nk+1)):=by
 unfold yG
 split
 ·have hk: ∀t,t<=st.turns->(fun t=>if t=st.turns+1 then nk else κ t) t= κ t:=by intro t ht;simp only;rw [if_neg (by omega)]
  have hnew:(fun t=>if t=st.turns+1 then nk else κ t) (st.turns+1)=nk:=by simp
  generalize (fun t=>if t=st.turns+1 then nk else κ t)= κ' at hk hnew
  have h':=h.kap o f hk
  have hpush:=h'.push o f ⟨p.x+dx,p.y+dy,p.far+1,st.turns+1,kind⟩ (st.turns+1) (fun q hq'=>by have:=h.tle q hq';show q.turn≠st.turns+1;omega) (Nat.le_refl _) (by omega) (by
   intro q hq'
   obtain ⟨a,b,c,d⟩:=hq q hq'
   have ht:=h.tle q hq'
   simp only [hnew,hk _ ht]
   refine ⟨by omega,by omega,fun e=>⟨fun _=>d e,fun hlt=>by omega⟩,fun e=>by omega,fun e=> ?_⟩
   have:=c (by omega)
   omega) (by
   intro x y hx' hy' hr
   have:=hm x y hx' hy' hr
   unfold le2 at *
   simp only [hnew]
   omega) (by simp only [hnew];exact hc) (by simp only [hnew];exact hl)
  refine ⟨κ',hk,hpush,.inr ⟨⟨p.x+dx,p.y+dy,p.far+1,st.turns+1,kind⟩,(yU st.op _).mem_iff.2 (by simp),rfl,rfl,by simp only [hnew];exact .inr ⟨rfl,Nat.le_refl _⟩⟩,rfl,by simp,fun x y c k hn=>(hn.kap f h.tle hk).push f _ _,?_⟩
  intro q hq'
  rw [(yU st.op _).mem_iff,List.mem_append] at hq'
  rcases hq' with hq' | hq'
  ·obtain ⟨a,b,c,d⟩:=hq q hq'
   rw [hk _ hpt,hk _ (h.tle q hq')]
   exact ⟨a,b,c,fun e=>Nat.lt_succ_of_lt (d e)⟩
  ·simp at hq'
   subst hq'
   simp only [hnew]
   exact ⟨by omega,by omega,fun e=>by omega,fun _=>by omega⟩
 ·rename_i h0
  refine ⟨κ,fun _ _=>rfl,h,.inl ⟨h0,?_⟩,rfl,Nat.le_refl _,fun _ _ _ _ hn=>hn,fun q hq'=> ?_⟩
  ·have:=hm _ _ hx hy h0
   unfold le2 at *
   omega
  ·obtain ⟨a,b,c,d⟩:=hq q hq'
   exact ⟨a,b,c,fun e=>Nat.lt_succ_of_lt (d e)⟩
theorem jq.round {st:yl} {G Q:Nat->Nat->Nat} {κ :Nat->Nat} (hi:Inv o f st) (h:jq o f none st G Q κ) (he:st.at f.length o.length f.length=0): ∃G' Q' κ',jq o f none (kt o f st) G' Q' κ':=by
 have hne:=hi.open_ne he
 have hperm:=WJ st.op hne
 have hmem: ∀q,q∈st.op ↔ q∈xz st.op\/q=xV st.op:=by intro q;rw [<-hperm.mem_iff];simp
 have hu:=h.uniq
 rw [<-(hperm.map (·.turn)).nodup_iff,List.map_append,List.nodup_append] at hu
 obtain ⟨hu1,_,hu2⟩:=hu
 have hut: ∀q∈xz st.op,q.turn≠(xV st.op).turn:=fun q hq=>hu2 _ (List.mem_map.2 ⟨q,hq,rfl⟩) _ (by simp)
 obtain ⟨hh,_,hmin⟩:=Df h.heap hne
 have pmem:xV st.op∈st.op:=(hmem _).2 (.inr rfl)
 have hmin1: ∀s∈st.op,(xV st.op).far<=s.far/\((xV st.op).far=s.far->(xV st.op).turn<=s.turn):=by
  intro s hs
  have:=hmin s hs
  unfold Spot.lt at this
  omega
 have hmin2: ∀s∈st.op,le2 (xV st.op).far (κ (xV st.op).turn) s.far (κ s.turn):=by
  intro s hs
  obtain ⟨a,b⟩:=hmin1 s hs
  by_cases e:(xV st.op).far=s.far
  ·refine .inr ⟨e,?_⟩
   by_cases e2:(xV st.op).turn=s.turn
   ·rw [e2];exact Nat.le_refl _
   ·have:=h.ord _ pmem s hs e (by have:=b e;omega)
    omega
  ·exact .inl (by omega)
 obtain ⟨px,py,_,ptn,pl⟩:=hi.spots _ pmem
 have pc:=h.spots _ pmem
 have plow:=h.lowS _ pmem
 have pm: ∀x y,x<=o.length->y<=f.length->st.at f.length x y≠0->le2 (G x y) (Q x y) (xV st.op).far (κ (xV st.op).turn):=fun x y a b c=>h.mono x y a b c _ pmem
 have hrel: ∀q∈xz st.op,(xV st.op).far<=q.far/\q.far<=(xV st.op).far+1/\(q.far=(xV st.op).far-> κ (xV st.op).turn< κ q.turn)/\(q.far=(xV st.op).far+1-> κ q.turn<2 * κ (xV st.op).turn):=by
  intro q hq
  have hq':=(hmem q).2 (.inl hq)
  refine ⟨(hmin1 q hq').1,h.far q hq' _ pmem,fun e=> ?_,fun e=>h.ord2 q hq' _ pmem e⟩
  have:=(hmin1 q hq').2 e.symm
  have:=hut q hq
  exact h.ord _ pmem q hq' e.symm (by omega)
 have ptop:(xV st.op).x=o.length->(xV st.op).y=f.length->(xV st.op).far=yY o f/\ κ (xV st.op).turn<=key o f:=by
  intro e1 e2
  obtain ⟨s,hs,g1,g2⟩:=TZ o f h he
  have h1:=hmin2 s hs
  have h2:=plow.1
  have e3:rd o f o.length f.length=0:=by unfold rd;simp [yx]
  rw [e1,e2,e3] at h2
  unfold le2 at h1
  have e4:rd o f s.x s.y=0:=by omega
  rw [e4] at g2
  simp at g2
  omega
 unfold kt Wr
 simp only
 generalize hs:xV st.op=s at *
 have hat: ∀x y,yl.at { op:=xz st.op,turns:=st.turns,led:=st.led } f.length x y=st.at f.length x y:=fun _ _=>rfl
 rw [hat]
 split
 ·rename_i h0
  have hset:=fun x y (hy:y<=f.length)=>ES (st:=st) (n:=o.length) (m:=f.length) (x0:=s.x) (y0:=s.y) (x:=x) (y:=y) (k:=s.kind) hi.len px py hy (xz st.op) st.turns
  generalize hG:(fun x y=>if x=s.x/\y=s.y then s.far else G x y)=G'
  generalize hQ:(fun x y=>if x=s.x/\y=s.y then κ s.turn else Q x y)=Q'
  have hG1:G' s.x s.y=s.far:=by rw [<-hG];simp
  have hQ1:Q' s.x s.y= κ s.turn:=by rw [<-hQ];simp
  have hG2: ∀x y,¬(x=s.x/\y=s.y)->G' x y=G x y/\Q' x y=Q x y:=by intro x y hn;rw [<-hG,<-hQ];simp only;rw [if_neg hn,if_neg hn];exact ⟨rfl,rfl⟩
  have hG3: ∀x y,st.at f.length x y≠0->G' x y=G x y/\Q' x y=Q x y:=by
   intro x y hr
   refine hG2 x y ?_
   rintro ⟨rfl,rfl⟩
   exact hr h0
  have hmono: ∀x y,y<=f.length->st.at f.length x y≠0->yl.at { op:=xz st.op,turns:=st.turns,led:=st.led.set (idx f.length s.x s.y) s.kind } f.length x y≠0:=by
   intro x y hy hr
   rw [hset x y hy]
   split
   ·exact pl.pos
   ·exact hr
  have hcost: ∀x y k c d,y<=f.length->Kb o f st G Q x y k c d->Kb o f { op:=xz st.op,turns:=st.turns,led:=st.led.set (idx f.length s.x s.y) s.kind } G' Q' x y k c d:=by
   intro x y k c d hy hc
   rcases hc with hc | ⟨h1,h2,h3,h4,h5,h6,h7⟩ | ⟨h1,h2,h3,h4,h5,h6⟩ | ⟨h1,h2,h3,h4,h5,h6⟩
   ·exact .inl hc
   ·exact .inr (.inl ⟨h1,h2,h3,hmono _ _ (by omega) h4,h5,by rw [(hG3 _ _ h4).1];exact h6,by rw [(hG3 _ _ h4).2];exact h7⟩)
   ·exact .inr (.inr (.inl ⟨h1,h2,hmono _ _ hy h3,h4,by rw [(hG3 _ _ h3).1];exact h5,by rw [(hG3 _ _ h3).2];exact h6⟩))
   ·exact .inr (.inr (.inr ⟨h1,h2,hmono _ _ (by omega) h3,h4,by rw [(hG3 _ _ h3).1];exact h5,by rw [(hG3 _ _ h3).2];exact h6⟩))
  have hnear: ∀x y c k,y<=f.length->qq f st G Q κ x y c k->qq f { op:=xz st.op,turns:=st.turns,led:=st.led.set (idx f.length s.x s.y) s.kind } G' Q' κ x y c k:=by
   intro x y c k hy hn
   rcases hn with ⟨h1,h2⟩ | ⟨q,hq,e1,e2,e3⟩
   ·exact .inl ⟨hmono x y hy h1,by rw [(hG3 _ _ h1).1,(hG3 _ _ h1).2];exact h2⟩
   ·by_cases e:x=s.x/\y=s.y
    ·left
     obtain ⟨rfl,rfl⟩:=e
     refine ⟨by rw [hset _ _ hy,if_pos ⟨rfl,rfl⟩];exact pl.pos,?_⟩
     rw [hG1,hQ1]
     have:=hmin2 q hq
     unfold le2 at *
     omega
    ·rcases (hmem q).1 hq with hq | rfl
     ·exact .inr ⟨q,hq,e1,e2,e3⟩
     ·exact absurd ⟨e1.symm,e2.symm⟩ e
  have hGle: ∀x y,x<=o.length->y<=f.length->yl.at { op:=xz st.op,turns:=st.turns,led:=st.led.set (idx f.length s.x s.y) s.kind } f.length x y≠0->le2 (G' x y) (Q' x y) s.far (κ s.turn):=by
   intro x y hx hy hr
   by_cases e:x=s.x/\y=s.y
   ·rw [e.1,e.2,hG1,hQ1];exact .inr ⟨rfl,Nat.le_refl _⟩
   ·rw [hset x y hy,if_neg e] at hr
    rw [(hG2 x y e).1,(hG2 x y e).2]
    exact pm x y hx hy hr
  have hhere:yl.at { op:=xz st.op,turns:=st.turns,led:=st.led.set (idx f.length s.x s.y) s.kind } f.length s.x s.y≠0:=by rw [hset _ _ py,if_pos ⟨rfl,rfl⟩];exact pl.pos
  have i0:jq o f (some (s.x,s.y)) { op:=xz st.op,turns:=st.turns,led:=st.led.set (idx f.length s.x s.y) s.kind } G' Q' κ :=by
   refine ⟨hh,hu1,fun q hq=>h.tle q ((hmem q).2 (.inl hq)),fun q1 h1 q2 h2=>h.far q1 ((hmem q1).2 (.inl h1)) q2 ((hmem q2).2 (.inl h2)),fun q1 h1 q2 h2=>h.ord q1 ((hmem q1).2 (.inl h1)) q2 ((hmem q2).2 (.inl h2)),fun q1 h1 q2 h2=>h.ord2 q1 ((hmem q1).2 (.inl h1)) q2 ((hmem q2).2 (.inl h2)),?_,?_,?_,hnear 0 0 0 0 (by omega) h.start,?_,?_,fun q hq=>h.lowS q ((hmem q).2 (.inl hq)),?_⟩
   ·intro x y hx hy hr q hq
    have h1:=hGle x y hx hy hr
    have h2:=hmin2 q ((hmem q).2 (.inl hq))
    unfold le2 at *
    omega
   ·intro q hq
    have hq':=(hmem q).2 (.inl hq)
    exact hcost _ _ _ _ _ (hi.spots q hq').2.1 (h.spots q hq')
   ·intro x y hx hy hr
    by_cases e:x=s.x/\y=s.y
    ·rw [hset x y hy,if_pos e,e.1,e.2,hG1,hQ1]
     exact hcost _ _ _ _ _ py pc
    ·rw [hset x y hy,if_neg e] at hr ⊢
     rw [(hG2 x y e).1,(hG2 x y e).2]
     exact hcost _ _ _ _ _ hy (h.known x y hx hy hr)
   ·intro x y hx hy hr hne'
    have e: ¬(x=s.x/\y=s.y):=by rintro ⟨rfl,rfl⟩;exact hne' rfl
    rw [hset x y hy,if_neg e] at hr
    have:=h.next x y hx hy hr (by simp)
    unfold ZW at this ⊢
    rw [(hG2 x y e).1,(hG2 x y e).2]
    split at this
    ·rename_i hs'
     have hlt:=qI o f hs'
     rw [if_pos hs']
     exact hnear _ _ _ _ (by omega) this
    ·rename_i hs'
     rw [if_neg hs']
     exact ⟨fun a=>hnear _ _ _ _ hy (this.1 a),fun a=>hnear _ _ _ _ (by omega) (this.2 a)⟩
   ·intro x y hx hy hr
    by_cases e:x=s.x/\y=s.y
    ·rw [e.1,e.2,hG1,hQ1];exact plow
    ·rw [hset x y hy,if_neg e] at hr
     rw [(hG2 x y e).1,(hG2 x y e).2]
     exact h.low x y hx hy hr
   ·intro hr
    by_cases e:o.length=s.x/\f.length=s.y
    ·have h1:G' o.length f.length=s.far:=by rw [e.1,e.2];exact hG1
     have h2:Q' o.length f.length= κ s.turn:=by rw [e.1,e.2];exact hQ1
     rw [h1,h2]
     exact ptop e.1.symm e.2.symm
    ·rw [hset _ _ (Nat.le_refl _),if_neg e] at hr
     exact absurd he hr
  have close: ∀(S:yl) (K:Nat->Nat),jq o f (some (s.x,s.y)) S G' Q' K->ZW o f S G' Q' K s.x s.y->jq o f none S G' Q' K:=by
   intro S K hS hN
   refine ⟨hS.heap,hS.uniq,hS.tle,hS.far,hS.ord,hS.ord2,hS.mono,hS.spots,hS.known,hS.start,?_,hS.low,hS.lowS,hS.top⟩
   intro x y hx hy hr _
   by_cases e:x=s.x/\y=s.y
   ·rw [e.1,e.2];exact hN
   ·exact hS.next x y hx hy hr (by simp only [ne_eq,Option.some.injEq,Prod.mk.injEq];intro hh;exact e ⟨hh.1.symm,hh.2.symm⟩)
  split
  ·rename_i hsame
   have hlt:=qI o f hsame
   refine ⟨G',Q',κ,close _ _ (i0.push o f ⟨s.x+1,s.y+1,s.far,s.turn,32⟩ st.turns hut ptn (Nat.le_refl _) ?_ hGle (.inr (.inl ⟨rfl,by simp,by simp,by simpa using hhere,by simpa using hsame,by simp [hG1],by simp [hQ1]⟩)) (plow.keep o f hsame)) ?_⟩
   ·intro q hq
    obtain ⟨a,b,c,d⟩:=hrel q hq
    have hq':=(hmem q).2 (.inl hq)
    refine ⟨by simp only;omega,by simp only;omega,fun e=>⟨fun e2=> ?_,fun e2=> ?_⟩,fun e=>d e,fun e=>by simp only at e;omega⟩
    ·have:=(hmin1 q hq').2 e.symm
     simp only at e2
     omega
    ·exact c e
   ·unfold ZW
    rw [if_pos hsame]
    exact .inr ⟨⟨s.x+1,s.y+1,s.far,s.turn,32⟩,(yU _ _).mem_iff.2 (by simp),rfl,rfl,by rw [hG1,hQ1];exact .inr ⟨rfl,Nat.le_refl _⟩⟩
  ·rename_i hsame
   have hsf:yL o f s.x s.y=false:=by simpa using hsame
   have key1: ∃(st2:yl) (κ2:Nat->Nat),st2=(if s.x<o.length then yG f.length { op:=xz st.op,turns:=st.turns,led:=st.led.set (idx f.length s.x s.y) s.kind } s 1 0 45 else { op:=xz st.op,turns:=st.turns,led:=st.led.set (idx f.length s.x s.y) s.kind })/\
    κ2 s.turn= κ s.turn/\st.turns<=st2.turns/\jq o f (some (s.x,s.y)) st2 G' Q' κ2/\(s.x<o.length->qq f st2 G' Q' κ2 (s.x+1) s.y (s.far+1) (2 * κ s.turn))/\st2.led=st.led.set (idx f.length s.x s.y) s.kind/\
    (∀q∈st2.op,s.far<=q.far/\q.far<=s.far+1/\(q.far=s.far-> κ2 s.turn< κ2 q.turn)/\(q.far=s.far+1-> κ2 q.turn<2 * κ s.turn+1)):=by
    split
    ·rename_i hxl
     obtain ⟨κ2,c1,c2,c3,c4,c5,c6,c7⟩:=i0.change o f s 1 0 45 (2 * κ s.turn) ptn (by omega) (by omega) (by omega) hrel hGle (.inr (.inr (.inl ⟨rfl,by omega,by simpa using hhere,by simpa using hsf,by simp [hG1],by simp [hQ1]⟩))) (by simpa using plow.drop o f hsf hxl py)
     exact ⟨_,κ2,rfl,c1 _ ptn,c5,c2,fun _=>by simpa using c3,c4,c7⟩
    ·exact ⟨_,κ,rfl,rfl,Nat.le_refl _,i0,fun hh=>absurd hh (by assumption),rfl,fun q hq=>by
      obtain ⟨a,b,c,d⟩:=hrel q hq
      exact ⟨a,b,c,fun e=>Nat.lt_succ_of_lt (d e)⟩⟩
   obtain ⟨st2,κ2,hst2,k1,k2,j1,j2,j3,j4⟩:=key1
   rw [<-hst2]
   have hat2: ∀x y,st2.at f.length x y=yl.at { op:=xz st.op,turns:=st.turns,led:=st.led.set (idx f.length s.x s.y) s.kind } f.length x y:=by intro x y;unfold yl.at;rw [j3]
   split
   ·rename_i hyl
    obtain ⟨κ3,c1,c2,c3,c4,c5,c6,c7⟩:=j1.change o f s 0 1 43 (2 * κ s.turn+1) (by omega) (by omega) (by omega) (by omega) j4 (fun x y hx hy hr=>by rw [k1];exact hGle x y hx hy (by rw [<-hat2];exact hr)) (.inr (.inr (.inr ⟨rfl,by omega,by rw [hat2];simpa using hhere,by simpa using hsf,by simp [hG1],by simp [hQ1]⟩))) (by simpa using plow.add o f hsf px hyl)
    refine ⟨G',Q',κ3,close _ _ c2 ?_⟩
    unfold ZW
    rw [if_neg hsame,hG1,hQ1]
    exact ⟨fun hx=>c6 _ _ _ _ (j2 hx),fun _=>by simpa using c3⟩
   ·rename_i hyl
    refine ⟨G',Q',κ2,close _ _ j1 ?_⟩
    unfold ZW
    rw [if_neg hsame,hG1,hQ1]
    exact ⟨j2,fun hy=>absurd hy hyl⟩
 ·rename_i h0
  refine ⟨G,Q,κ,?_⟩
  have hnear: ∀x y c k,x<=o.length->y<=f.length->qq f st G Q κ x y c k->qq f { op:=xz st.op,turns:=st.turns,led:=st.led } G Q κ x y c k:=by
   intro x y c k hx hy hn
   rcases hn with h1 | ⟨q,hq,e1,e2,e3⟩
   ·exact .inl h1
   ·rcases (hmem q).1 hq with hq' | rfl
    ·exact .inr ⟨q,hq',e1,e2,e3⟩
    ·left
     subst e1 e2
     refine ⟨h0,?_⟩
     have:=pm _ _ hx hy h0
     unfold le2 at *
     omega
  refine ⟨hh,hu1,fun q hq=>h.tle q ((hmem q).2 (.inl hq)),fun q1 h1 q2 h2=>h.far q1 ((hmem q1).2 (.inl h1)) q2 ((hmem q2).2 (.inl h2)),fun q1 h1 q2 h2=>h.ord q1 ((hmem q1).2 (.inl h1)) q2 ((hmem q2).2 (.inl h2)),fun q1 h1 q2 h2=>h.ord2 q1 ((hmem q1).2 (.inl h1)) q2 ((hmem q2).2 (.inl h2)),
   fun x y hx hy hr q hq=>h.mono x y hx hy hr q ((hmem q).2 (.inl hq)),fun q hq=>h.spots q ((hmem q).2 (.inl hq)),h.known,hnear 0 0 0 0 (by omega) (by omega) h.start,?_,h.low,fun q hq=>h.lowS q ((hmem q).2 (.inl hq)),h.top⟩
  intro x y hx hy hr _
  have:=h.next x y hx hy hr (by simp)
  unfold ZW at this ⊢
  split at this
  ·rename_i hs'
   have hlt:=qI o f hs'
   rw [if_pos hs']
   exact hnear _ _ _ _ (by omega) (by omega) this
  ·rename_i hs'
   rw [if_neg hs']
   exact ⟨fun a=>hnear _ _ _ _ (by omega) hy (this.1 a),fun a=>hnear _ _ _ _ hx (by omega) (this.2 a)⟩
theorem TV:jq o f none (xd o f) (fun _ _=>0) (fun _ _=>0) (fun _=>0):=by
 have h0: ∀x y,(xd o f).at f.length x y=0:=by
  intro x y
  simp [xd,yl.at,List.getD,List.getElem?_replicate]
  split<;>rfl
 have hop: ∀s∈(xd o f).op,s=⟨0,0,0,0,46⟩:=by intro s hs;simpa [xd] using hs
 refine ⟨?_,by simp [xd],?_,?_,?_,?_,fun x y _ _ hr=>absurd (h0 x y) hr,?_,fun x y _ _ hr=>absurd (h0 x y) hr,.inr ⟨⟨0,0,0,0,46⟩,by simp [xd],rfl,rfl,.inr ⟨rfl,Nat.le_refl _⟩⟩,fun x y _ _ hr=>absurd (h0 x y) hr,fun x y _ _ hr=>absurd (h0 x y) hr,?_,fun hr=>absurd (h0 _ _) hr⟩
 ·intro i hi hl;simp [xd] at hl;omega
 ·intro s hs;rw [hop s hs];exact Nat.zero_le _
 ·intro s hs q hq;rw [hop s hs,hop q hq];simp
 ·intro s hs q hq _ hlt;rw [hop s hs,hop q hq] at hlt;simp at hlt
 ·intro s hs q hq e;rw [hop s hs,hop q hq] at e;simp at e
 ·intro s hs;rw [hop s hs];exact .inl ⟨rfl,rfl,rfl,rfl,rfl⟩
 ·intro s hs;rw [hop s hs];exact ⟨by simp [rd],fun _=>by simp [kb]⟩
theorem Fu: ∀(k:Nat) (st:yl) (G Q:Nat->Nat->Nat) (κ :Nat->Nat),Inv o f st->jq o f none st G Q κ -> ∃G' Q' κ',jq o f none (xn o f k st) G' Q' κ':=by
 intro k
 induction k with
 | zero=>intro st G Q κ _ hG;exact ⟨G,Q,κ,hG⟩
 | succ k ih=>
   intro st G Q κ hi hG
   by_cases he:st.at f.length o.length f.length=0
   ·simp only [xn,he,if_true]
    obtain ⟨G1,Q1,κ1,hG1⟩:=hG.round o f hi he
    exact ih _ G1 Q1 κ1 (hi.round (hi.open_ne he)).1 hG1
   ·rw [xk he];exact ⟨G,Q,κ,hG⟩
theorem Uq {st:yl} {G Q:Nat->Nat->Nat} {κ :Nat->Nat} (h:jq o f none st G Q κ): ∀(k x y:Nat),x+y<=k->x<=o.length->y<=f.length->st.at f.length x y≠0->
 G x y+rd o f x y=yY o f->Q x y*2 ^ rd o f x y+kb o f x y=key o f->(ky o f st k x y).reverse++sp o f x y=Xa o f:=by
 intro k
 induction k with
 | zero=>
   intro x y hk _ _ _ _ _
   obtain rfl:x=0:=by omega
   obtain rfl:y=0:=by omega
   simp [ky,sp]
 | succ k ih=>
   intro x y hk hx hy hr hD hK
   unfold ky
   split
   ·rename_i e
    rw [e.1,e.2]
    simp [sp]
   ·rename_i hne
    have hc:=h.known x y hx hy hr
    rcases hc with ⟨_,h1,h2,_⟩ | ⟨h1,h2,h3,h4,h5,h6,h7⟩ | ⟨h1,h2,h3,h4,h5,h6⟩ | ⟨h1,h2,h3,h4,h5,h6⟩
    ·exact absurd ⟨h1,h2⟩ hne
    ·rw [if_pos h1]
     obtain ⟨x,rfl⟩: ∃x',x=x'+1:=⟨x-1,by omega⟩
     obtain ⟨y,rfl⟩: ∃y',y=y'+1:=⟨y-1,by omega⟩
     simp only [Nat.add_sub_cancel] at *
     have hs:=Ws o f h5
     have:=ih x y (by omega) (by omega) (by omega) h4 (by rw [Ys o f h5,<-h6];exact hD) (by rw [Ys o f h5,hs.1,<-h7];exact hK)
     rw [hs.2] at this
     simpa using this
    ·rw [if_neg (by omega),if_pos h1]
     obtain ⟨x,rfl⟩: ∃x',x=x'+1:=⟨x-1,by omega⟩
     simp only [Nat.add_sub_cancel] at *
     have hl:=(h.low x y (by omega) hy h3).1
     have hr1:=Se o f y (show x<o.length by omega)
     have hd:YD o f x y:=by
      by_cases hd:YD o f x y
      ·exact hd
      ·have hy':y<f.length:=by
        by_cases ey:y<f.length
        ·exact ey
        ·exact absurd ⟨by omega,.inl (by omega)⟩ hd
       have:=(QV o f h4 (by omega) hy' hd).2.2.2 (by omega)
       omega
     obtain ⟨e1,e2,e3⟩:=Yr o f h4 hy hd
     have:=ih x y (by omega) (by omega) (by omega) h3 (by omega) (by rw [e1,e2,pw1,<-pw2,<-h6];exact hK)
     rw [e3] at this
     simpa using this
    ·rw [if_neg (by omega),if_neg (by omega),h1]
     obtain ⟨y,rfl⟩: ∃y',y=y'+1:=⟨y-1,by omega⟩
     simp only [Nat.add_sub_cancel] at *
     have hl:=h.low x y hx (by omega) h3
     have hl1:=hl.1
     have hr1:=Si o f x (show y<f.length by omega)
     have e0:rd o f x y=rd o f x (y+1)+1:=by omega
     have hl2:=hl.2 (by omega)
     rw [e0,pw1] at hl2
     rw [h6,pw3] at hK
     have hd: ¬YD o f x y:=by
      intro hd
      obtain ⟨e1,e2,_⟩:=Yr o f h4 (by omega) hd
      have h8:=Tv o f (x+1) y
      rw [show rd o f (x+1) y=rd o f x (y+1) by omega] at h8
      omega
     obtain ⟨e1,e2,e3,_⟩:=QV o f h4 hx (by omega) hd
     have:=ih x y (by omega) (by omega) (by omega) h3 (by omega) (by rw [e1,e2,pw1];omega)
     rw [e3] at this
     simpa using this
theorem TY:WT o f=Xa o f:=by
 obtain ⟨_,he⟩:=Jb o f
 obtain ⟨G,Q,κ,hG⟩:=Fu o f (mu (xd o f)) (xd o f) _ _ _ (Jm o f) (TV o f)
 have hK:jq o f none (KF o f) G Q κ :=hG
 have e3:rd o f o.length f.length=0:=by unfold rd;simp [yx]
 have e4:kb o f o.length f.length=0:=by unfold kb;rw [List.drop_length,List.drop_length];rfl
 have e5:sp o f o.length f.length= []:=by unfold sp;rw [List.drop_length,List.drop_length];rfl
 obtain ⟨t1,t2⟩:=hK.top he
 have hl:=hK.low o.length f.length (Nat.le_refl _) (Nat.le_refl _) he
 have hl2:=hl.2 (by rw [e3,t1];omega)
 rw [e3,e4] at hl2
 have:=Uq o f hK (o.length+f.length) o.length f.length (Nat.le_refl _) (Nat.le_refl _) (Nat.le_refl _) he (by rw [e3,t1];omega) (by rw [e3,e4];simp at hl2 ⊢;omega)
 rw [e5] at this
 unfold WT
 simpa using this
end
end Dn
namespace Go.Proofs.YtcclgodahlinbaaGreatDoor
set_option maxHeartbeats 16000000
open Tryz Go.RowKit Go
set_option maxRecDepth 100000
theorem Db {a sep:List UInt8} {c:UInt8} {t:List UInt8} (hs:sep=c::t) (ha:c ∉ a):Lib.cut a sep=(a,[],false):=by
 have hi:Lib.index a sep= -1:=by
  refine Lib.index_none ?_
  intro j hj
  cases h:Lib.occAt a sep j with
  | false=>rfl
  | true=>
    exfalso
    have:=Lib.occAt_head hs h
    exact ha (List.mem_of_getElem? this)
 unfold Lib.cut
 rw [hi,if_neg (by omega)]
structure Rd where
 hs:List zx
 en:Nat
 gr:Int
 f:Nat
 t:Nat
 b:Bool
def Rd.start:Rd:=⟨[],0,0,0,0,false⟩
def Rd.ended (st:Rd):Prop:=st.hs= []\/(st.f=0/\st.t=0/\st.b=true)
theorem Tq {f t:Nat} (b:Bool) (h: ¬(f=0/\t=0)) (w:World):Calls prog 76 #[.agg #[.int .i64 (f:Int),.int .i64 (t:Int),.bool b]] w fun e w'=>e= .returned (.bool false)/\Below w.heap.size w w':=by
 by_cases hf:f=0
 ·have ht:((t:Int)==0)=false:=by rw [beq_eq_false_iff_ne];omega
  subst hf
  go_enter func76,ntmps76
  go_wp2
  go_ret
  exact ⟨rfl,(Below.refl _ _).alloc (Nat.le_refl _) _⟩
 ·have ht:((f:Int)==0)=false:=by rw [beq_eq_false_iff_ne];omega
  go_enter func76,ntmps76
  go_wp2
  go_ret
  exact ⟨rfl,(Below.refl _ _).alloc (Nat.le_refl _) _⟩
theorem PI {f t:Nat} {b:Bool} (h: ¬(f=0/\t=0/\b=true)) (w:World):Calls prog 80 #[.agg #[.int .i64 (f:Int),.int .i64 (t:Int),.bool b]] w fun e w'=>e= .returned (.bool false)/\Below w.heap.size w w':=by
 by_cases hf:f=0/\t=0
 ·obtain ⟨rfl,rfl⟩:=hf
  obtain rfl:b=false:=by cases b;rfl;exact absurd ⟨rfl,rfl,rfl⟩ h
  have hf:=Vr false (w.alloc (.cells #[.int .i64 0,.int .i64 0,.bool false] 86))
  go_enter func80,ntmps80
  go_wp2_with (go_at_call 76;refine hf.mono ?_;rintro e w' ⟨rfl,hb⟩;have c2:w'.cell? ⟨w.heap.size,2,none⟩=some (.bool false):=(hb.cell (p:=⟨w.heap.size,2,none⟩) (by simp)).trans (za (heap_alloc_new w _) rfl))
  go_ret
  exact ⟨rfl,((Below.refl _ _).alloc (Nat.le_refl _) _).trans (hb.mono (by simp))⟩
 ·have hf:=Tq b hf (w.alloc (.cells #[.int .i64 (f:Int),.int .i64 (t:Int),.bool b] 86))
  go_enter func80,ntmps80
  go_wp2_with (go_at_call 76;refine hf.mono ?_;rintro e w' ⟨rfl,hb⟩;have c2:w'.cell? ⟨w.heap.size,2,none⟩=some (.bool b):=(hb.cell (p:=⟨w.heap.size,2,none⟩) (by simp)).trans (za (heap_alloc_new w _) rfl))
  go_ret
  exact ⟨rfl,((Below.refl _ _).alloc (Nat.le_refl _) _).trans (hb.mono (by simp))⟩
structure RdM (S:Nat) (st:Rd) (v:Value) (hv:List HV) (w:World):Prop where
 blk:w.heap[S]? =some (.cells #[v,.int .i64 (st.en:Int),.int .i64 st.gr,.int .i64 (st.f:Int),.int .i64 (st.t:Int),.bool st.b] 88 (0,0))
 hso:HSo (S+1) v hv w
 hs:hv.map (·.1)=st.hs
theorem RdM.lt {S:Nat} {st:Rd} {v:Value} {hv:List HV} {w:World} (h:RdM S st v hv w):S<w.heap.size:=(Array.getElem?_eq_some_iff.1 h.blk).1
theorem HSo.len {base:Nat} {v:Value} {hv:List HV} {w:World} (h:HSo base v hv w): ∃a cap,v= .slice a hv.length cap:=by
 rcases h with ⟨rfl,rfl⟩ | ⟨g,cap,rfl,_,hs⟩
 ·exact ⟨_,_,rfl⟩
 ·exact ⟨_,_,rfl⟩
theorem FJ {S:Nat} {st:Rd} {v:Value} {hv:List HV} {w:World} (h:RdM S st v hv w):
 Calls prog 36 #[.pointer (some ⟨S,0,none⟩)] w fun e w'=>(∃r:Bool,e= .returned (.bool r)/\(r=true ↔ st.ended))/\Below w.heap.size w w':=by
 obtain ⟨a,cap,rfl⟩:=h.hso.len
 have hlen:Hid (hv.length=st.hs.length):=by unfold Hid;rw [<-h.hs,List.length_map]
 have c0:w.cell? ⟨S,0,none⟩=some (.slice a hv.length cap):=za (k:=0) h.blk rfl
 have c3:w.cell? ⟨S,3,none⟩=some (.int .i64 (st.f:Int)):=za (k:=3) h.blk rfl
 have c4:w.cell? ⟨S,4,none⟩=some (.int .i64 (st.t:Int)):=za (k:=4) h.blk rfl
 have c5:w.cell? ⟨S,5,none⟩=some (.bool st.b):=za (k:=5) h.blk rfl
 clear h
 generalize hv.length=n at *
 by_cases h0:n=0
 ·subst h0
  have he:st.ended:= .inl (List.eq_nil_of_length_eq_zero hlen.out.symm)
  have hE:Hid st.ended:=he
  clear he
  go_enter func36,ntmps36
  go_wp2_with fail
  go_ret
  exact ⟨⟨true,rfl,by simp [hE.out]⟩,Below.refl _ _⟩
 ·have e0:((n:Int)==0)=false:=by rw [beq_eq_false_iff_ne];omega
  by_cases hd:st.f=0/\st.t=0/\st.b=true
  ·have hE:Hid st.ended:= .inr hd
   rw [hd.1] at c3
   rw [hd.2.1] at c4
   rw [hd.2.2] at c5
   have hdn:=Pm w
   clear hd
   go_enter func36,ntmps36
   go_wp2_with (go_at_call 80;refine hdn.mono ?_;rintro e w' ⟨rfl,hb⟩)
   go_ret
   exact ⟨⟨true,rfl,by simp [hE.out]⟩,hb⟩
  ·have hE:Hid (¬st.ended):=by
    rintro (e | e)
    ·have:=hlen.out;rw [e] at this;exact h0 this
    ·exact hd e
   have hdn:=PI hd w
   generalize st.f=sf at *
   generalize st.t=sg at *
   generalize st.b=sb at *
   clear hd
   go_enter func36,ntmps36
   go_wp2_with (go_at_call 80;refine hdn.mono ?_;rintro e w' ⟨rfl,hb⟩)
   go_ret
   exact ⟨⟨false,rfl,by simp [hE.out]⟩,hb⟩
end Go.Proofs.YtcclgodahlinbaaGreatDoor
