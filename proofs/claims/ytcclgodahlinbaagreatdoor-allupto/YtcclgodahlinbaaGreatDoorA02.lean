import Derived.Test.YtcclgodahlinbaaGreatDoorA01
import Derived.Deep.QuietTactic
import Derived.BigQuiet
import Derived.BigRegion
import Derived.Deep.RegionWith
import Derived.Deep.RegionLaw
namespace Go.Proofs.YtcclgodahlinbaaGreatDoor
set_option maxHeartbeats 16000000
open Tryz Go.RowKit Go
set_option maxRecDepth 100000
theorem TG (a:Addr) (w:World):(method 353 110 (.pointer (some a)) "Push").run prog w= .ok (198,.pointer (some a)) w:=by kernel_rfl
theorem Sh (a:Addr) (w:World):(method 353 110 (.pointer (some a)) "Pop").run prog w= .ok (197,.pointer (some a)) w:=by kernel_rfl
theorem Yo (a:Addr) (w:World) (v:Value) (h:w.cell? a=some v):(loadVar 104 a).run prog w= .ok v w:=by
 go_simp
theorem Tz (a:Addr) (w:World) (v:Value) (h:w.cell? a=some v):(method 353 110 (.pointer (some a)) "Len").run prog w= .ok (194,v) w:=by
 have e:(method 353 110 (.pointer (some a)) "Len").run prog w=(do let v<-loadVar 104 a;pure (194,v):Sem (FuncId×Value)).run prog w:=by kernel_rfl
 rw [e,Sem.run_bind,Yo a w v h];rfl
theorem UJ (a:Addr) (w:World) (v:Value) (h:w.cell? a=some v):(method 353 110 (.pointer (some a)) "Less").run prog w= .ok (195,v) w:=by
 have e:(method 353 110 (.pointer (some a)) "Less").run prog w=(do let v<-loadVar 104 a;pure (195,v):Sem (FuncId×Value)).run prog w:=by kernel_rfl
 rw [e,Sem.run_bind,Yo a w v h];rfl
theorem Gf (a:Addr) (w:World) (v:Value) (h:w.cell? a=some v):(method 353 110 (.pointer (some a)) "Swap").run prog w= .ok (196,v) w:=by
 have e:(method 353 110 (.pointer (some a)) "Swap").run prog w=(do let v<-loadVar 104 a;pure (196,v):Sem (FuncId×Value)).run prog w:=by kernel_rfl
 rw [e,Sem.run_bind,Yo a w v h];rfl
def jT (s:Dn.Spot):List Value:= [.complex .f64 (fl s.x) (fl s.y),.int .i64 s.far,.int .i64 s.turn,.int .u8 s.kind]
def zS (l:List Dn.Spot):List Value:=l.flatMap jT
theorem yC (s:Dn.Spot) (l:List Dn.Spot):zS (s::l)= .complex .f64 (fl s.x) (fl s.y):: .int .i64 s.far:: .int .i64 s.turn:: .int .u8 s.kind::zS l:=rfl
theorem XX (a b:List Dn.Spot):zS (a++b)=zS a++zS b:=by simp [zS]
theorem XW (l:List Dn.Spot):(zS l).length=l.length*4:=by
 induction l with
 | nil=>rfl
 | cons s l ih=>rw [yC];simp [ih];omega
theorem KY (l:List Dn.Spot): ∀(i:Nat),i<l.length->
 (zS l)[i*4]? =some (.complex .f64 (fl (Dn.gt l i).x) (fl (Dn.gt l i).y))/\(zS l)[i*4+1]? =some (.int .i64 (Dn.gt l i).far)/\
 (zS l)[i*4+2]? =some (.int .i64 (Dn.gt l i).turn)/\(zS l)[i*4+3]? =some (.int .u8 (Dn.gt l i).kind):=by
 induction l with
 | nil=>intro i h;simp at h
 | cons s l ih=>
   intro i h
   cases i with
   | zero=>simp [yC,Dn.gt]
   | succ i=>
     have:=ih i (by simpa using h)
     rw [yC,show (i+1)*4=i*4+1+1+1+1 by omega]
     simpa [Dn.gt,List.getD] using this
def PQ (r:List Value) (i:Nat) (s:Dn.Spot):List Value:=
 (((r.set (i*4) (.complex .f64 (fl s.x) (fl s.y))).set (i*4+1) (.int .i64 s.far)).set (i*4+2) (.int .i64 s.turn)).set (i*4+3) (.int .u8 s.kind)
theorem Wt (l:List Dn.Spot) (s:Dn.Spot): ∀(i:Nat),i<l.length->PQ (zS l) i s=zS (l.set i s):=by
 induction l with
 | nil=>intro i h;simp at h
 | cons t l ih=>
   intro i h
   cases i with
   | zero=>simp [yC,PQ]
   | succ i=>
     have:=ih i (by simpa using h)
     unfold PQ at *
     rw [List.set_cons_succ,yC,yC,<-this,show (i+1)*4=i*4+1+1+1+1 by omega]
     simp
def Zm (w:World) (g i:Nat) (s:Dn.Spot):World:=
 (((w.setCell ⟨g,i*4,none⟩ (.complex .f64 (fl s.x) (fl s.y))).setCell ⟨g,i*4+1,none⟩ (.int .i64 s.far)).setCell ⟨g,i*4+2,none⟩ (.int .i64 s.turn)).setCell ⟨g,i*4+3,none⟩ (.int .u8 s.kind)
theorem zb (w:World) (g o:Nat) (v:Value) (cur:Array Value) (t:TypeId) (fr:Nat×Nat) (h:w.heap[g]? =some (.cells cur t fr)):
 (w.setCell ⟨g,o,none⟩ v).heap[g]? =some (.cells (cur.setIfInBounds o v) t fr):=by
 simp [World.setCell,Array.getElem?_modify,h]
theorem zd (w:World) (g k:Nat) (o:Nat) (v:Value) (h:k≠g):(w.setCell ⟨g,o,none⟩ v).heap[k]? =w.heap[k]? :=Below.heap_setCell _ _ _ _ h
theorem zc (w:World) (g o:Nat) (v:Value):w.grownBy (w.setCell ⟨g,o,none⟩ v) (some g):=
 ⟨rfl,rfl,rfl,by simp [World.setCell],fun k _ hne=>zd w g k o v (fun e=>hne (by rw [e]))⟩
theorem zh {a b c:World} {r:Option Nat} (h:a.grownBy b r) (k:b.grownBy c r):a.grownBy c r:=
 ⟨k.os.trans h.os,k.tape.trans h.tape,k.output.trans h.output,Nat.le_trans h.size k.size,fun i hi hne=>(k.block i (Nat.lt_of_lt_of_le hi h.size) hne).trans (h.block i hi hne)⟩
theorem kH (w:World) (g i:Nat) (s:Dn.Spot):w.grownBy (Zm w g i s) (some g):=
 zh (zh (zh (zc _ _ _ _) (zc _ _ _ _)) (zc _ _ _ _)) (zc _ _ _ _)
theorem XJ {w:World} {base g n cap i:Nat} {l:List Dn.Spot} (s:Dn.Spot) (hn:n=l.length) (hi:i<l.length)
 (h:w.ownsRow base 112 4 (.slice (some ⟨g,0,none⟩) n cap) n (zS l)):
 (Zm w g i s).ownsRow base 112 4 (.slice (some ⟨g,0,none⟩) n cap) n (zS (l.set i s)):=by
 subst hn
 obtain ⟨hl,hr⟩:=h
 rcases hr with ⟨e,_⟩ | ⟨g',cap',cur,e,hb,hg,h1,h2,h3,h4⟩
 ·cases e
 ·cases e
  refine ⟨by rw [XW];simp,.inr ⟨g,cap,_,rfl,hb,zb _ _ _ _ _ _ _ (zb _ _ _ _ _ _ _ (zb _ _ _ _ _ _ _ (zb _ _ _ _ _ _ _ hg))),h1,h2,by simpa using h3,?_⟩⟩
  rw [<-Wt l s i hi,<-h4]
  simp [PQ,List.take_set]
theorem qJ {w:World} {base e size n k:Nat} {v:Value} {xs:List Value} (h:w.ownsRow base e size v n xs):(w.drewN k).ownsRow base e size v n xs:=h
def yF (l:List Nat):List Value:=l.map fun (k:Nat)=> .int .u8 (k:Int)
structure SMv (X:List (Nat×Obj)) (base S:Nat) (vo vf:Value) (st:Dn.yl) (vop vled:Value) (w:World):Prop where
 le:base<=S
 blk:w.heap[S]? =some (.cells #[vo,vf,vop,.int .i64 st.turns,vled] 106 (0,0))
 op:w.ownsRow base 112 4 vop st.op.length (zS st.op)
 led:w.ownsRow base 5 1 vled st.led.length (yF st.led)
 ne1:vop.ownBlock≠some S
 ne2:vled.ownBlock≠some S
 ne3:vop.ownBlock=none\/vop.ownBlock≠vled.ownBlock
 fr: ∀x∈X,w.heap[x.1]? =some x.2/\x.1≠S/\vop.ownBlock≠some x.1/\vled.ownBlock≠some x.1
def SM (X:List (Nat×Obj)) (base S:Nat) (vo vf:Value) (st:Dn.yl) (w:World):Prop:= ∃vop vled,SMv X base S vo vf st vop vled w
theorem SMv.drewN {X:List (Nat×Obj)} {base S k:Nat} {vo vf vop vled:Value} {st:Dn.yl} {w:World} (h:SMv X base S vo vf st vop vled w):SMv X base S vo vf st vop vled (w.drewN k):=
 ⟨h.le,h.blk,h.op,h.led,h.ne1,h.ne2,h.ne3,h.fr⟩
theorem Below.drewN' {B k:Nat} {w w':World} (h:Below B w w'):Below B w (w'.drewN k):=⟨h.os,h.tape,h.output,h.size,h.block⟩
theorem za {w:World} {S k:Nat} {cs:Array Value} {t:TypeId} {fr:Nat×Nat} {v:Value} (h:w.heap[S]? =some (.cells cs t fr)) (hk:cs[k]? =some v):w.cell? ⟨S,k,none⟩=some v:=by
 simp [World.cell?,h,hk]
theorem zi {w:World} {S k:Nat} {cs:Array Value} {t:TypeId} (h:w.heap[S]? =some (.cells cs t (0,0))):w.frozen? ⟨S,k,none⟩=false:=by
 simp [World.frozen?,h]
theorem jL {w:World} {base n cap g:Nat} {l:List Dn.Spot} (h:w.ownsRow base 112 4 (.slice (some ⟨g,0,none⟩) n cap) n (zS l)) {i:Nat} (hi:i<l.length):
 w.cell? ⟨g,i*4,none⟩=some (.complex .f64 (fl (Dn.gt l i).x) (fl (Dn.gt l i).y))/\w.cell? ⟨g,i*4+1,none⟩=some (.int .i64 (Dn.gt l i).far)/\
 w.cell? ⟨g,i*4+2,none⟩=some (.int .i64 (Dn.gt l i).turn)/\w.cell? ⟨g,i*4+3,none⟩=some (.int .u8 (Dn.gt l i).kind):=by
 obtain ⟨hl,hr⟩:=h
 rcases hr with ⟨e,_⟩ | ⟨g',cap',cur,e,hb,hg,h1,h2,h3,h4⟩
 ·cases e
 ·cases e
  obtain ⟨a,b,c,d⟩:=KY l i hi
  rw [<-h4] at a b c d
  have f: ∀(j:Nat) (u:Value),(cur.toList.take (n*4))[j]? =some u->cur[j]? =some u:=by
   intro j u hu
   rw [List.getElem?_take] at hu
   split at hu
   ·simpa using hu
   ·cases hu
  exact ⟨za hg (f _ _ a),za hg (f _ _ b),za hg (f _ _ c),za hg (f _ _ d)⟩
theorem qK {w:World} {base n cap g e size:Nat} {xs:List Value} (h:w.ownsRow base e size (.slice (some ⟨g,0,none⟩) n cap) n xs) (k:Nat):w.frozen? ⟨g,k,none⟩=false:=by
 obtain ⟨hl,hr⟩:=h
 rcases hr with ⟨e,_⟩ | ⟨g',cap',cur,e,hb,hg,h1,h2,h3,h4⟩
 ·cases e
 ·cases e;exact zi hg
theorem zv {w:World} {base e size n:Nat} {v:Value} {xs:List Value} (h:w.ownsRow base e size v n xs) (hn:0<n): ∃g cap,v= .slice (some ⟨g,0,none⟩) n cap/\base<=g/\g<w.heap.size/\n<=cap/\cap<=maxLen:=by
 rcases h.2 with ⟨_,e⟩ | ⟨g,cap,cur,e,hb,hg,h1,h2,_⟩
 ·omega
 ·exact ⟨g,cap,e,hb,(Array.getElem?_eq_some_iff.1 hg).1,h1,h2⟩
theorem xC (P:Program) (w:World) (a:Addr) (m:Mode) (k:FloatKind) (x y:Nat):(store a (.complex k x y) m).run P w=stored P w a (.complex k x y) m:=run_store P w a _ m rfl
attribute [local go_sem] xC
theorem TF (w:World) (a b:Nat):(w.drewN a).drewN b=w.drewN (a+b):=by simp [World.drewN,Nat.add_assoc]
theorem Pg (a:Option Addr) (n cap:Nat) (w:World):Calls prog 194 #[.slice a n cap] w fun e w'=>e= .returned (.int .i64 n)/\w=w':=by
 go_enter func194,ntmps194
 go_wp2
 go_ret
 exact ⟨rfl,rfl⟩
theorem PG (b n cap i j:Nat) (fi ti fj tj:Int) (w:World) (hi:i<n) (hj:j<n) (_hn:n<=1000000)
 (hfi:w.cell? ⟨b,i*4+1,none⟩=some (.int .i64 fi)) (hti:w.cell? ⟨b,i*4+2,none⟩=some (.int .i64 ti))
 (hfj:w.cell? ⟨b,j*4+1,none⟩=some (.int .i64 fj)) (htj:w.cell? ⟨b,j*4+2,none⟩=some (.int .i64 tj)):
 Calls prog 195 #[.slice (some ⟨b,0,none⟩) n cap,.int .i64 i,.int .i64 j] w fun e w'=>e= .returned (.bool (if fi=fj then decide (ti<tj) else decide (fi<fj)))/\ ∃k,w'=w.drewN k:=by
 have hi':(i:Int)<n:=by omega
 have hj':(j:Int)<n:=by omega
 by_cases h:fi=fj
 ·subst h
  go_enter func195,ntmps195
  go_wp2_with fail
  go_quiet (fail)
  go_wp2_with fail
  go_quiet (fail)
  go_wp2_with fail
  go_ret
  exact ⟨by simp,_,rfl⟩
 ·have h':(fi==fj)=false:=by simpa using h
  have h2:(if fi=fj then decide (ti<tj) else decide (fi<fj))=decide (fi<fj):=if_neg h
  rw [h2]
  go_enter func195,ntmps195
  go_wp2_with fail
  go_quiet (fail)
  go_wp2_with fail
  go_quiet (fail)
  go_wp2_with fail
  go_ret
  exact ⟨rfl,_,TF _ _ _⟩
theorem PO (b n cap i j:Nat) (s t:Dn.Spot) (w:World) (hi:i<n) (hj:j<n) (_hn:n<=1000000)
 (hp0:w.cell? ⟨b,i*4,none⟩=some (.complex .f64 (fl s.x) (fl s.y))) (hp1:w.cell? ⟨b,i*4+1,none⟩=some (.int .i64 s.far)) (hp2:w.cell? ⟨b,i*4+2,none⟩=some (.int .i64 s.turn)) (hp3:w.cell? ⟨b,i*4+3,none⟩=some (.int .u8 s.kind))
 (hq0:w.cell? ⟨b,j*4,none⟩=some (.complex .f64 (fl t.x) (fl t.y))) (hq1:w.cell? ⟨b,j*4+1,none⟩=some (.int .i64 t.far)) (hq2:w.cell? ⟨b,j*4+2,none⟩=some (.int .i64 t.turn)) (hq3:w.cell? ⟨b,j*4+3,none⟩=some (.int .u8 t.kind))
 (hf: ∀k,w.frozen? ⟨b,k,none⟩=false) (hst:i=j->s=t):
 Calls prog 196 #[.slice (some ⟨b,0,none⟩) n cap,.int .i64 i,.int .i64 j] w fun e w'=>e= .returned (.tuple #[])/\ ∃k,w'=(Zm (Zm w b i t) b j s).drewN k:=by
 have hi':(i:Int)<n:=by omega
 have hj':(j:Int)<n:=by omega
 by_cases hij:i=j
 ·obtain rfl:=hst hij
  clear hst
  subst hij
  go_enter func196,ntmps196
  go_wp2_with fail
  go_region
  go_end0
  exact ⟨rfl,1,rfl⟩
 ·have hji: ¬j=i:=fun h=>hij h.symm
  clear hst
  go_enter func196,ntmps196
  go_wp2_with fail
  go_region
  go_end0
  exact ⟨rfl,1,rfl⟩
theorem SMv.size {X:List (Nat×Obj)} {base S:Nat} {vo vf:Value} {st:Dn.yl} {vop vled:Value} {w:World} (h:SMv X base S vo vf st vop vled w):base<w.heap.size+1/\S<w.heap.size:=by
 have:=(Array.getElem?_eq_some_iff.1 h.blk).1
 have:=h.le
 omega
theorem SM.of_setRow {X:List (Nat×Obj)} {base S g n cap:Nat} {vo vf:Value} {st:Dn.yl} {vled:Value} {w w':World} {l:List Dn.Spot}
 (h:SMv X base S vo vf st (.slice (some ⟨g,0,none⟩) n cap) vled w) (hg:w.grownBy w' (some g))
 (ho:w'.ownsRow base 112 4 (.slice (some ⟨g,0,none⟩) n cap) l.length (zS l)):SMv X base S vo vf { st with op:=l } (.slice (some ⟨g,0,none⟩) n cap) vled w':=by
 have hs:=h.size
 have e1:=h.ne1
 have e3:=h.ne3
 refine ⟨h.le,?_,ho,h.led.kept hg ?_,h.ne1,h.ne2,h.ne3,fun x hx=> ?_⟩
 ·rw [hg.block S hs.2 (fun e=>e1 (by rw [e];rfl))];exact h.blk
 ·right
  intro e
  rcases e3 with e3 | e3
  ·cases e3
  ·exact e3 e.symm
 ·obtain ⟨a,b,c,d⟩:=h.fr x hx
  exact ⟨(hg.block x.1 (Array.getElem?_eq_some_iff.1 a).1 (fun e=>c (by rw [e];rfl))).trans a,b,c,d⟩
theorem DM (l:List Dn.Spot) (i j:Nat):Dn.XK l i j=(l.set i (Dn.gt l j)).set j (Dn.gt l i):=rfl
end Go.Proofs.YtcclgodahlinbaaGreatDoor
namespace Go.Proofs.YtcclgodahlinbaaGreatDoor
set_option maxHeartbeats 16000000
open Tryz Go.RowKit Go
set_option maxRecDepth 100000
theorem yT {w w':World} {r:Option Nat} {k:Nat} (h:w.grownBy w' r):w.grownBy (w'.drewN k) r:=⟨h.os,h.tape,h.output,h.size,h.block⟩
theorem YR {X:List (Nat×Obj)} {base S g n cap i j:Nat} {vo vf:Value} {st:Dn.yl} {vled:Value} {w:World} (h:SMv X base S vo vf st (.slice (some ⟨g,0,none⟩) n cap) vled w)
 (hi:i<st.op.length) (hj:j<st.op.length) (hb:st.op.length<=1000000):
 Calls prog 196 #[.slice (some ⟨g,0,none⟩) n cap,.int .i64 i,.int .i64 j] w fun e w'=>
  e= .returned (.tuple #[])/\SMv X base S vo vf { st with op:=Dn.XK st.op i j } (.slice (some ⟨g,0,none⟩) n cap) vled w'/\Below base w w':=by
 have hop:=h.op
 obtain ⟨g',cap',e,hbg,_,_⟩:=zv hop (by omega)
 cases e
 obtain ⟨p0,p1,p2,p3⟩:=jL hop hi
 obtain ⟨q0,q1,q2,q3⟩:=jL hop hj
 have hsw:=PO g _ cap i j (Dn.gt st.op i) (Dn.gt st.op j) w hi hj hb p0 p1 p2 p3 q0 q1 q2 q3 (qK hop) (fun e=>congrArg (Dn.gt st.op) e)
 refine hsw.mono ?_
 clear hsw
 rintro e w' ⟨rfl,k,rfl⟩
 have h1:=XJ (Dn.gt st.op j) rfl hi hop
 have h2:=XJ (l:=st.op.set i (Dn.gt st.op j)) (n:=st.op.length) (i:=j) (Dn.gt st.op i) (by simp) (by simpa using hj) h1
 have hgr:=yT (k:=k) (zh (kH w g i (Dn.gt st.op j)) (kH _ g j (Dn.gt st.op i)))
 have h3:=qJ (k:=k) h2
 generalize (Zm (Zm w g i (Dn.gt st.op j)) g j (Dn.gt st.op i)).drewN k=w1 at hgr h3 ⊢
 have h4:=SM.of_setRow (l:=Dn.XK st.op i j) h hgr (by rw [Dn.yM,DM];exact h3)
 exact ⟨rfl,h4,(Below.refl base w).grown hgr (by have:=h.size;omega) (fun k e=>by cases e;exact hbg)⟩
theorem kI {P:Program} (w:World) (base:Nat) (t ty e:TypeId) (i:TypeInfo) (z:Value) (size bytes:Nat) (h1:P.underlying t=some (.slice e)) (h2:P.info? e=some i) (h3:i.zero=some z) (h4:i.size=size) (h5:i.bytes=bytes) (h6:z.cells.size=size) (h7:0<size)
 (v:Value) (n:Nat) (xs:List Value) (hown:w.ownsRow base e size v n xs)
 (ad:Addr) (m c:Nat) (news:List Value) (hn:news.length=m*size) (hc: ∀j u,news[j]? =some u->w.cell? (ad.add j)=some u) (h1c: ∀u∈news,u.oneCell'=true)
 (b1:n+m<=maxLen) (b2:(n+m)*bytes<=140737488355328) (hbase:base<=w.heap.size):
 ∃v' w',(Builtin.append_ #[t,t] ty #[v,.slice (some ad) m c]).run P w= .ok v' w'/\w'.ownsRow base e size v' (n+m) (xs++news)/\w.grownBy w' v.ownBlock/\
  (v'.ownBlock=v.ownBlock\/ ∀g,v'.ownBlock=some g->w.heap.size<=g):=by
 obtain ⟨v',w',hr,r2,r3,_⟩:=run_append_own (P:=P) w base t ty e i z size bytes h1 h2 h3 h4 h5 h6 h7 v n xs hown ad m c news hn hc h1c b1 b2 hbase
 refine ⟨v',w',hr,r2,r3,?_⟩
 rcases hown.2 with ⟨rfl,rfl⟩ | ⟨g,cap,cur,rfl,hbg,hg,hnc,hcm,hcs,htake⟩
 ·have hx:xs= []:=List.eq_nil_of_length_eq_zero (by simpa using hown.1)
  subst hx
  obtain ⟨v2,w2,hr2,s2,_,_⟩:=run_append_own (P:=P) w w.heap.size t ty e i z size bytes h1 h2 h3 h4 h5 h6 h7 (.slice none 0 0) 0 [] (World.ownsRow_nil w _ e size) ad m c news hn hc h1c b1 b2 (Nat.le_refl _)
  rw [hr] at hr2
  cases hr2
  exact .inr fun g hg=>(s2.lt g hg).1
 ·by_cases hroom:n+m<=cap
  ·subst h4
   have hfit:n*i.size+news.length<=cur.size:=by rw [hn,hcs,<-Nat.add_mul];exact Nat.mul_le_mul_right _ hroom
   have hr2:=run_append_room (P:=P) w t ty e i h1 h2 g n cap cur hg ad m c news hn hc h1c hroom hfit
   rw [hr] at hr2
   cases hr2
   exact .inl rfl
  ·have holds: ∀j u,xs[j]? =some u->w.cell? ((⟨g,0,none⟩:Addr).add j)=some u:=hown.cells (g:=g) rfl
   obtain ⟨v2,w2,hr2,s2,_⟩:=run_append_arg_grows (P:=P) w t ty e i z size bytes h1 h2 h3 h4 h5 h6 h7 ⟨g,0,none⟩ n cap xs hown.1 holds ad m c news hn hc (by omega) b1 b2
   rw [hr] at hr2
   cases hr2
   exact .inr fun k hk=>(s2.lt k hk).1
theorem yo {P:Program} {ops:Array Oper} {o:Oper} {a:Act} {w:World} {K:Act->World->Prop} {Q:Exit->Act->World->Prop} {E:Prop}
 (hg:o.guard=none) (s x:Operand) (t:TypeId) (hop:o.op=Op.call { callee:=Callee.builtin Builtin.append,args:= #[s,x],argTypes:= #[t,t] })
 (base:Nat) (e:TypeId) (i:TypeInfo) (z:Value) (size bytes:Nat) (h1:P.underlying t=some (.slice e)) (h2:P.info? e=some i) (h3:i.zero=some z) (h4:i.size=size) (h5:i.bytes=bytes) (h6:z.cells.size=size) (h7:0<size)
 (v:Value) (n:Nat) (xs:List Value) (hs:a.eval s=v) (hown:w.ownsRow base e size v n xs)
 (ad:Addr) (m c:Nat) (news:List Value) (hx:a.eval x= .slice (some ad) m c) (hn:news.length=m*size) (hc: ∀j u,news[j]? =some u->w.cell? (ad.add j)=some u) (h1c: ∀u∈news,u.oneCell'=true)
 (b1:n+m<=maxLen) (b2:(n+m)*bytes<=140737488355328) (hbase:base<=w.heap.size)
 (hK: ∀v' w',w'.ownsRow base e size v' (n+m) (xs++news)->w.grownBy w' v.ownBlock->(v'.ownBlock=v.ownBlock\/ ∀g,v'.ownBlock=some g->w.heap.size<=g)->K (a.put o.dst v') w'):
 if Region.wanted o (yielded ops a.tmps)=true then Oper.wp P o a w K Q else E:=by
 have hw:Region.wanted o (yielded ops a.tmps)=true:=by simp [Region.wanted,hg]
 rw [if_pos hw]
 obtain ⟨v',w',hr,r1,r2,r3⟩:=kI (P:=P) w base t o.type e i z size bytes h1 h2 h3 h4 h5 h6 h7 v n xs hown ad m c news hn hc h1c b1 b2 hbase
 unfold Oper.wp execOp
 simp only [hop,resolve,invoke,builtin,Sem.run_bind,Sem.run_pure,Result.andThen_ok,List.map_toArray,List.map_cons,List.map_nil,hs,hx,hr]
 exact hK v' w' r1 r2 r3
theorem zt (w:World) (cs:List Value) (T:TypeId): ∀(j:Nat) (u:Value),cs[j]? =some u->(w.alloc (.cells cs.toArray T)).cell? ((⟨w.heap.size,0,none⟩:Addr).add j)=some u:=by
 intro j u hu
 have hadd:(⟨w.heap.size,0,none⟩:Addr).add j=⟨w.heap.size,j,none⟩:=by unfold Addr.add;split<;>simp_all
 rw [hadd]
 exact za (cs:=cs.toArray) (t:=T) (fr:=(0,0)) (heap_alloc_new w _) (by simpa using hu)
theorem Jv (s:Dn.Spot): ∀u∈jT s,u.oneCell'=true:=by
 intro u hu
 simp [jT] at hu
 rcases hu with rfl | rfl | rfl | rfl<;>rfl
theorem ze {w:World} {base e size n g:Nat} {v:Value} {xs:List Value} (h:w.ownsRow base e size v n xs) (hg:v.ownBlock=some g): ∃cur,w.heap[g]? =some (.cells cur e (0,0)):=by
 rcases h.2 with ⟨rfl,_⟩ | ⟨g',cap,cur,rfl,_,hh,_⟩
 ·cases hg
 ·cases hg;exact ⟨cur,hh⟩
theorem zT {w:World} {base e size n S:Nat} {v:Value} {xs:List Value} {cs:Array Value} {t:TypeId} {fr:Nat×Nat} (h:w.ownsRow base e size v n xs) (hS:w.heap[S]? =some (.cells cs t fr)) (hne:e≠t):v.ownBlock≠some S:=by
 intro hg
 obtain ⟨cur,hh⟩:=ze h hg
 rw [hS] at hh
 cases hh
 exact hne rfl
theorem Pd {w:World} {base e size n base' e' size' n':Nat} {v v':Value} {xs xs':List Value} (h:w.ownsRow base e size v n xs) (h':w.ownsRow base' e' size' v' n' xs') (hne:e≠e'):v.ownBlock=none\/v.ownBlock≠v'.ownBlock:=by
 cases hg:v.ownBlock with
 | none=>exact .inl rfl
 | some g=>
   right
   intro hg'
   obtain ⟨cur,hh⟩:=ze h hg
   obtain ⟨cur',hh'⟩:=ze h' hg'.symm
   rw [hh] at hh'
   cases hh'
   exact hne rfl
theorem SMv.mk' {X:List (Nat×Obj)} {base S:Nat} {vo vf:Value} {st:Dn.yl} {vop vled:Value} {w:World} (le:base<=S)
 (blk:w.heap[S]? =some (.cells #[vo,vf,vop,.int .i64 st.turns,vled] 106 (0,0))) (op:w.ownsRow base 112 4 vop st.op.length (zS st.op))
 (led:w.ownsRow base 5 1 vled st.led.length (yF st.led)) (fr: ∀x∈X,w.heap[x.1]? =some x.2/\x.1≠S/\vop.ownBlock≠some x.1/\vled.ownBlock≠some x.1):SMv X base S vo vf st vop vled w:=
 ⟨le,blk,op,led,zT op blk (by decide),zT led blk (by decide),Pd op led (by decide),fr⟩
theorem Yq {w:World} {base e size n:Nat} {v:Value} {xs:List Value} (h:w.ownsRow base e size v n xs) (o:Obj):(w.alloc o).drew.ownsRow base e size v n xs:=h.alloc o
theorem EU {X:List (Nat×Obj)} {base S g cap:Nat} {vo vf:Value} {st:Dn.yl} {vop vled:Value} {w w1:World} {s:Dn.Spot} {o:Obj} (h:SMv X base S vo vf st vop vled w)
 (hgr:(w.alloc o).drew.grownBy w1 vop.ownBlock) (hS:w1.heap[S]? =w.heap[S]?) (hown:w1.ownsRow base 112 4 (.slice (some ⟨g,0,none⟩) (st.op.length+1) cap) (st.op.length+1) (zS st.op++jT s)) (hnew:(Value.slice (some ⟨g,0,none⟩) (st.op.length+1) cap).ownBlock=vop.ownBlock\/ ∀k,(Value.slice (some ⟨g,0,none⟩) (st.op.length+1) cap).ownBlock=some k->(w.alloc o).drew.heap.size<=k):
 SM X base S vo vf { st with op:=st.op++ [s] } (w1.setCell ⟨S,2,none⟩ (.slice (some ⟨g,0,none⟩) (st.op.length+1) cap))/\Below base w (w1.setCell ⟨S,2,none⟩ (.slice (some ⟨g,0,none⟩) (st.op.length+1) cap)):=by
 have hs:=h.size
 have hled:w1.ownsRow base 5 1 vled st.led.length (yF st.led):=(Yq h.led o).kept hgr (by
  rcases h.ne3 with e | e
  ·cases hv:vled.ownBlock with
   | none=>exact .inl rfl
   | some k=>right;rw [e];exact fun x=>by cases x
  ·exact .inr (fun x=>e x.symm))
 have hblk:=hS.trans h.blk
 have hg2:=zc w1 S 2 (.slice (some ⟨g,0,none⟩) (st.op.length+1) cap)
 have hn1:(Value.slice (some ⟨g,0,none⟩) (st.op.length+1) cap).ownBlock≠some S:=zT hown hblk (by decide)
 have hn2:vled.ownBlock≠some S:=zT hled hblk (by decide)
 refine ⟨⟨.slice (some ⟨g,0,none⟩) (st.op.length+1) cap,vled,SMv.mk' h.le ?_ ?_ (hled.kept hg2 (.inr hn2)) ?_⟩,?_⟩
 ·exact zb w1 S 2 _ _ _ _ hblk
 ·have:=hown.kept hg2 (.inr hn1)
  rw [XX]
  simpa [zS] using this
 ·intro x hx
  obtain ⟨a,b,c,d⟩:=h.fr x hx
  have hlt:=(Array.getElem?_eq_some_iff.1 a).1
  refine ⟨?_,b,?_,d⟩
  ·rw [zd w1 S x.1 2 _ b,hgr.block x.1 (by simp;omega) (fun e=>c e.symm)]
   exact (Below.heap_alloc w o x.1 hlt).trans a
  ·intro e
   rcases hnew with e' | e'
   ·exact c (e'.symm.trans e)
   ·have:=e' _ e;simp at this;omega
 ·refine ((((Below.refl base w).alloc (by omega) o).drew).grown hgr (by simp;omega) (fun k e=>(h.op.lt k e).1)).setCell (p:=⟨S,2,none⟩) h.le _
theorem Ev:(prog.info? 112).map (fun i=>(i.zero,i.size,i.bytes))=some (some (.agg #[.complex .f64 0 0,.int .i64 0,.int .i64 0,.int .u8 0]),4,40):=by kernel_rfl
theorem PV {X:List (Nat×Obj)} {base S:Nat} {vo vf:Value} {st:Dn.yl} {vop vled:Value} {w:World} (s:Dn.Spot) (h:SMv X base S vo vf st vop vled w) (hb:st.op.length<=1000000):
 Calls prog 198 #[.pointer (some ⟨S,2,none⟩),.iface 112 (.agg #[.complex .f64 (fl s.x) (fl s.y),.int .i64 s.far,.int .i64 s.turn,.int .u8 s.kind])] w fun e w'=>
  e= .returned (.tuple #[])/\SM X base S vo vf { st with op:=st.op++ [s] } w'/\Below base w w':=by
 have hc:=za (k:=2) (v:=vop) h.blk rfl
 have hf:w.frozen? ⟨S,2,none⟩=false:=zi h.blk
 have hop:=h.op
 obtain ⟨i0,hi,hz0,hz1,hz2⟩:=info_parts Ev
 go_enter func198,ntmps198
 have hta: ∀(v:Value) (w:World),(Instr.typeAssert (.iface 112 v) 20 112 false).run prog w= .ok v w:=fun _ _=>by kernel_rfl
 go_wp2_with fail
 have hb1:st.op.length+1<=maxLen:=by unfold maxLen;omega
 have hb2:(st.op.length+1)*40<=140737488355328:=by omega
 have hbs: ∀o,base<=(w.alloc o).drew.heap.size:=by intro o;have:=h.size;simp;omega
 have hk: ∀o w1,(w.alloc o).drew.grownBy w1 vop.ownBlock->w1.heap[S]? =w.heap[S]? :=by
  intro o w1 hg
  have hs:=h.size
  rw [hg.block S (by simp;omega) (fun e=>h.ne1 e.symm)]
  exact Below.heap_alloc w o S hs.2
 have hS:=h.size.2
 go_region_law (refine yo rfl (.tmp 7) (.tmp 10) 104 rfl base 112 i0 _ 4 40 underlying104 hi hz0 hz1 hz2 rfl (by decide) vop _ _ (by simp [Act.eval]) (hop.alloc _) ⟨w.heap.size,0,none⟩ 1 1 (jT s) (by simp [Act.eval]) rfl (zt w _ _) (Jv s) hb1 hb2 (hbs _) ?_;intro v' w1 hown' hgrow hnew;obtain ⟨g',cap',rfl,_,_⟩:=zv hown' (Nat.succ_pos _);have hkk:=hk _ w1 hgrow;have hc1:w1.cell? ⟨S,2,none⟩=some vop:=za (hkk.trans h.blk) rfl;have hf1:w1.frozen? ⟨S,2,none⟩=false:=zi (hkk.trans h.blk))
 all_goals
  go_end0
  exact ⟨rfl,EU h hgrow hkk hown' hnew⟩
attribute [local go_sem] xC
theorem ZQ (l:List Dn.Spot): ∀(k:Nat),zS (l.take k)=(zS l).take (k*4):=by
 induction l with
 | nil=>intro k;simp [zS]
 | cons s l ih=>
   intro k
   cases k with
   | zero=>simp [zS]
   | succ k=>
     rw [List.take_succ_cons,yC,yC,ih k,show (k+1)*4=k*4+1+1+1+1 by omega]
     rfl
theorem EC {w:World} {base n cap g k:Nat} {l:List Dn.Spot} (h:w.ownsRow base 112 4 (.slice (some ⟨g,0,none⟩) n cap) n (zS l)) (hk:k<=n):
 w.ownsRow base 112 4 (.slice (some ⟨g,0,none⟩) k cap) k (zS (l.take k)):=by
 obtain ⟨hl,hr⟩:=h
 rcases hr with ⟨e,_⟩ | ⟨g',cap',cur,e,hb,hg,h1,h2,h3,h4⟩
 ·cases e
 ·cases e
  refine ⟨?_,.inr ⟨g,cap,cur,rfl,hb,hg,by omega,h2,h3,?_⟩⟩
  ·rw [ZQ,List.length_take,hl];omega
  ·rw [ZQ,<-h4,List.take_take]
   congr 1;omega
theorem Tc {X:List (Nat×Obj)} {base S g cap k:Nat} {vo vf:Value} {st:Dn.yl} {vled:Value} {w:World} {o:Obj} (h:SMv X base S vo vf st (.slice (some ⟨g,0,none⟩) st.op.length cap) vled w) (hk:k<=st.op.length):
 SM X base S vo vf { st with op:=st.op.take k } ((w.setCell ⟨S,2,none⟩ (.slice (some ⟨g,0,none⟩) k cap)).alloc o)/\Below base w ((w.setCell ⟨S,2,none⟩ (.slice (some ⟨g,0,none⟩) k cap)).alloc o):=by
 have hs:=h.size
 have hg2:=zc w S 2 (.slice (some ⟨g,0,none⟩) k cap)
 have hsz:(w.setCell ⟨S,2,none⟩ (.slice (some ⟨g,0,none⟩) k cap)).heap.size=w.heap.size:=by simp [World.setCell]
 have h1:=EC h.op hk
 have hn1:(Value.slice (some ⟨g,0,none⟩) k cap).ownBlock≠some S:=h.ne1
 refine ⟨⟨.slice (some ⟨g,0,none⟩) k cap,vled,SMv.mk' h.le ?_ ?_ ((h.led.kept hg2 (.inr h.ne2)).alloc o) ?_⟩,?_⟩
 ·rw [Below.heap_alloc _ _ _ (by rw [hsz];exact hs.2)]
  exact zb w S 2 _ _ _ _ h.blk
 ·have e:(st.op.take k).length=k:=by simp;omega
  have:=(h1.kept hg2 (.inr hn1)).alloc o
  show World.ownsRow _ _ _ _ _ (st.op.take k).length (zS (st.op.take k))
  rw [e];exact this
 ·intro x hx
  obtain ⟨a,b,c,d⟩:=h.fr x hx
  have hlt:=(Array.getElem?_eq_some_iff.1 a).1
  refine ⟨?_,b,c,d⟩
  rw [Below.heap_alloc _ _ _ (by rw [hsz];exact hlt),zd w S x.1 2 _ b]
  exact a
 ·exact ((Below.refl base w).setCell (p:=⟨S,2,none⟩) h.le _).alloc (by rw [hsz];omega) o
theorem Tp {X:List (Nat×Obj)} {base S g n cap:Nat} {vo vf:Value} {st:Dn.yl} {vled:Value} {w:World} (h:SMv X base S vo vf st (.slice (some ⟨g,0,none⟩) n cap) vled w) (hn:0<st.op.length) (hb:st.op.length<=1000000):
 Calls prog 197 #[.pointer (some ⟨S,2,none⟩)] w fun e w'=>
  e= .returned (.iface 112 (.agg #[.complex .f64 (fl (Dn.gt st.op (st.op.length-1)).x) (fl (Dn.gt st.op (st.op.length-1)).y),.int .i64 (Dn.gt st.op (st.op.length-1)).far,.int .i64 (Dn.gt st.op (st.op.length-1)).turn,.int .u8 (Dn.gt st.op (st.op.length-1)).kind]))/\
  SM X base S vo vf { st with op:=st.op.take (st.op.length-1) } w'/\Below base w w':=by
 have hop:=h.op
 obtain ⟨g',cap',e,hbg,hgs,hcap,hcap2⟩:=zv hop hn
 cases e
 obtain ⟨k,hk⟩: ∃k,st.op.length=k+1:=⟨st.op.length-1,by omega⟩
 obtain ⟨p0,p1,p2,p3⟩:=jL hop (i:=k) (by omega)
 have hc:=za (k:=2) h.blk rfl
 have hf:w.frozen? ⟨S,2,none⟩=false:=zi h.blk
 have hS:=h.size.2
 have hk1:st.op.length-1=k:=by omega
 rw [hk1]
 generalize hsp:Dn.gt st.op k=sp at p0 p1 p2 p3 ⊢
 rw [hk] at hc hcap
 have hcap':((k:Nat):Int)<=cap:=by omega
 unfold maxLen at hcap2
 go_enter func197,ntmps197
 go_wp2
 go_ret
 have:=Tc (k:=k) (o:= .cells #[.complex .f64 (fl sp.x) (fl sp.y),.int .i64 sp.far,.int .i64 sp.turn,.int .u8 sp.kind] 112) h (by omega)
 exact ⟨rfl,this.1,this.2⟩
end Go.Proofs.YtcclgodahlinbaaGreatDoor
namespace Go.Proofs.YtcclgodahlinbaaGreatDoor
set_option maxHeartbeats 16000000
open Tryz Go.RowKit Go
set_option maxRecDepth 100000
theorem Ph: ∀(k k':Nat) (l:List Dn.Spot) (j:Nat),j<k->j<k'->Dn.upM k l j=Dn.upM k' l j:=by
 intro k
 induction k with
 | zero=>intro k' l j h;omega
 | succ k ih=>
   intro k' l j h h'
   cases k' with
   | zero=>omega
   | succ k'=>
     unfold Dn.upM
     simp only
     split
     ·rfl
     ·rename_i hh
      have:(j-1) / 2≠j:=fun e=>hh (.inl e)
      exact ih k' _ _ (by omega) (by omega)
theorem Below.of_drewN {B k:Nat} {w w':World} (h:Below B (w.drewN k) w'):Below B w w':=⟨h.os,h.tape,h.output,h.size,h.block⟩
theorem xJ {X:List (Nat×Obj)} {base S g n cap i j:Nat} {vo vf:Value} {st:Dn.yl} {vled:Value} {w:World} (h:SMv X base S vo vf st (.slice (some ⟨g,0,none⟩) n cap) vled w)
 (hi:i<st.op.length) (hj:j<st.op.length) (hb:st.op.length<=1000000):
 Calls prog 195 #[.slice (some ⟨g,0,none⟩) n cap,.int .i64 i,.int .i64 j] w fun e w'=>e= .returned (.bool (Dn.Spot.less (Dn.gt st.op i) (Dn.gt st.op j)))/\ ∃k,w'=w.drewN k:=by
 have hop:=h.op
 obtain ⟨g',cap',e,hbg,_,_⟩:=zv hop (by omega)
 cases e
 obtain ⟨p0,p1,p2,p3⟩:=jL hop hi
 obtain ⟨q0,q1,q2,q3⟩:=jL hop hj
 refine (PG g _ cap i j _ _ _ _ w hi hj hb p1 p2 q1 q2).mono ?_
 rintro e w' ⟨rfl,hk⟩
 refine ⟨?_,hk⟩
 congr 2
 unfold Dn.Spot.less
 simp only [Int.natCast_inj,Int.ofNat_lt]
theorem Sa {X:List (Nat×Obj)} {base S:Nat} {vo vf:Value} {st:Dn.yl} {w:World} (j:Nat) (h:SM X base S vo vf st w) (hj:j<st.op.length) (hb:st.op.length<=1000000):
 Calls prog 96 #[.iface 110 (.pointer (some ⟨S,2,none⟩)),.int .i64 j] w fun e w'=>
  e= .returned (.tuple #[])/\SM X base S vo vf { st with op:=Dn.upM (j+1) st.op j } w'/\Below base w w':=by
 go_enter func96,ntmps96
 go_wp2
 go_loopw [1] (fun t wr=> ∃(i:Nat) (l:List Dn.Spot),t= .int .i64 i/\SM X base S vo vf { st with op:=l } wr/\Below base w wr/\i<l.length/\Hid (l.length=st.op.length)/\Hid (Dn.upM (i+1) l i=Dn.upM (j+1) st.op j)) (fun t _=>(intOf t).toNat)
 case atStart=>exact ⟨j,st.op,rfl,h,Below.refl _ _,hj,rfl,rfl⟩
 case round=>
  obtain ⟨i,l,rfl,⟨vop,vled,hsm⟩,hbel,hil,hll,hup⟩:=hrel
  have hlb:l.length<=1000000:=by have:=hll.out;omega
  obtain ⟨g,cap,rfl,_,_,_⟩:=zv hsm.op (show 0<l.length by omega)
  have hc:=za (k:=2) (v:= .slice (some ⟨g,0,none⟩) l.length cap) hsm.blk rfl
  have hml:=UJ ⟨S,2,none⟩ wr _ hc
  by_cases hi0:i=0
  ·subst hi0
   have hfin:l=Dn.upM (j+1) st.op j:=by
    rw [<-hup.out];unfold Dn.upM;simp
   have hfin':Hid (l=Dn.upM (j+1) st.op j):=hfin
   clear hup hfin
   go_wp2
   go_end0
   exact ⟨rfl,hfin'.out ▸ ⟨_,_,hsm⟩,hbel⟩
  ·obtain ⟨q,hq⟩: ∃q:Nat,(i-1) / 2=q:=⟨_,rfl⟩
   have hq2:((i:Int)-1) / 2=q:=by omega
   have hq1:((i:Int)-1).tdiv 2=q:=by rw [Int.tdiv_eq_ediv_of_nonneg (by omega)];exact hq2
   have hqi:((q:Nat):Int)≠i:=by omega
   have hqi': ¬(q=i):=by omega
   have hql:q<l.length:=by omega
   have hL:=xJ hsm (i:=i) (j:=q) hil hql hlb
   have hstep:Hid (Dn.upM (i+1) l i=if (q=i\/Dn.Spot.less (Dn.gt l i) (Dn.gt l q)=false) then l else Dn.upM i (Dn.XK l q i) q):=by
    unfold Hid;rw [Dn.upM];simp only [hq]
   clear hq
   by_cases hless:Dn.Spot.less (Dn.gt l i) (Dn.gt l q)=false
   ·have hfin:Hid (l=Dn.upM (j+1) st.op j):=by
     unfold Hid;rw [<-hup.out,hstep.out,if_pos (.inr hless)]
    clear hup hstep
    rw [hless] at hL
    go_wp2_with (go_at_call 195;refine hL.mono ?_;rintro e w' ⟨rfl,k,rfl⟩)
    go_end0
    exact ⟨rfl,hfin.out ▸ ⟨_,_,hsm.drewN⟩,Below.drewN' hbel⟩
   ·have hless':Dn.Spot.less (Dn.gt l i) (Dn.gt l q)=true:=by simpa using hless
    have hgo:Hid (Dn.upM i (Dn.XK l q i) q=Dn.upM (j+1) st.op j):=by
     unfold Hid;rw [<-hup.out,hstep.out,if_neg (fun h=>h.elim hqi' hless)]
    clear hup hstep
    rw [hless'] at hL
    have hms:=fun k=>Gf ⟨S,2,none⟩ (wr.drewN k) _ hc
    have hW:=fun k=>YR (hsm.drewN (k:=k)) (i:=q) (j:=i) hql hil hlb
    clear hless hless'
    go_wp2_with (first | (go_at_call 195;refine hL.mono ?_;rintro e w' ⟨rfl,k,rfl⟩) | (go_at_call 196;refine (hW _).mono ?_;rintro e w' ⟨rfl,hsm',hbel'⟩))
    go_roundw
    case rel=>exact ⟨q,Dn.XK l q i,rfl,⟨_,_,hsm'⟩,hbel.trans (Below.of_drewN hbel'),by rw [Dn.yM];exact hql,by unfold Hid;rw [Dn.yM];exact hll.out,by unfold Hid;rw [Ph (q+1) i _ _ (by omega) (by omega)];exact hgo.out⟩
    case measure=>simp [intOf];omega
end Go.Proofs.YtcclgodahlinbaaGreatDoor
