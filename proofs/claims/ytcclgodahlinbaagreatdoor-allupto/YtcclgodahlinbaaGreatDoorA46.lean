import Derived.Test.YtcclgodahlinbaaGreatDoorA45
import Derived.Test.YtcclgodahlinbaaGreatDoorCards
import Derived.Test.YtcclgodahlinbaaGreatDoorTie
import Derived.SevenTiedAt
import Derived.JoinedCond
import Derived.ChangeSame
import Derived.ChangeSlices
namespace Go.Proofs.YtcclgodahlinbaaGreatDoor
set_option maxHeartbeats 16000000
open _root_.Go.Proofs.Tryz Go.ChangeShapes Go.WideShapes Go.ChangeAt Go.RowKit Go
set_option maxRecDepth 100000
theorem EY:laidOutB prog=true:=by kernel_rfl
theorem FT:prog.wantsStandIn 22=false:=by kernel_rfl
theorem Xd:prog.cellsOf 3=1:=by kernel_rfl
theorem QQ:prog.cellsOf 9=1:=by kernel_rfl
theorem TU:prog.cellsOf 32=1:=by kernel_rfl
theorem TI:prog.cellsOf 30=1:=by kernel_rfl
theorem DQ:prog.cellsOf 57=5:=by kernel_rfl
theorem Dx {H:Type} (d:DataW H):0<Rows.uptoBulk d:=by
 cases d with
 | lit l=>cases l<;>simp [Rows.uptoBulk]
 | nil=>simp [Rows.uptoBulk]
 | ptr d=>simp [Rows.uptoBulk]
 | slice a b=>simp [Rows.uptoBulk]
 | agg a=>simp [Rows.uptoBulk]
 | iface t d=>simp [Rows.uptoBulk]
 | map a=>simp [Rows.uptoBulk]
 | held h=>simp [Rows.uptoBulk]
theorem xF {H:Type} {d:DataW H} : ∀ {l:List (DataW H)},d∈l->Rows.uptoBulk d<=Rows.uptoBulkAll l
 | [],h=>by cases h
 | y::r,h=>by
   simp only [Rows.uptoBulkAll]
   rcases List.mem_cons.1 h with e | e
   ·rw [e];omega
   ·have:=xF e;omega
theorem Yf {H:Type} : ∀l:List (DataW H),l.length<=Rows.uptoBulkAll l
 | []=>by simp
 | y::r=>by
   have h1:=Dx y
   have h2:=Yf r
   simp only [Rows.uptoBulkAll,List.length_cons]
   omega
theorem Qc {α :Type} {l:List α} (h:l.length=5): ∃a b c d e,l= [a,b,c,d,e]:=by
 match l,h with
 | [a,b,c,d,e],_=>exact ⟨a,b,c,d,e,rfl⟩
theorem ye (b off i:Nat):(⟨b,off,none⟩:Addr).add i=⟨b,off+i,none⟩:=by unfold Addr.add;split<;>simp_all
theorem Pz:prog.cellsOf 59=1:=by kernel_rfl
theorem TL:prog.cellsOf 93=2:=by kernel_rfl
theorem PW:prog.cellsOf 61=5:=by kernel_rfl
theorem PE:prog.cellsOf 5=1:=by kernel_rfl
theorem DP {α :Type} {l:List α} (h:l.length=2): ∃a b,l= [a,b]:=by
 match l,h with
 | [a,b],_=>exact ⟨a,b,rfl⟩
theorem Wc {α :Type} {Q:Nat-> α ->Prop} : ∀n,(∀i,i<n-> ∃s,Q i s)-> ∃L:List α,L.length=n/\ ∀i (h:i<L.length),Q i L[i]
 | 0,_=>⟨[],rfl,fun i h=>absurd h (Nat.not_lt_zero i)⟩
 | n+1,h=>by
   obtain ⟨L,hl,hq⟩:=Wc n fun i hi=>h i (Nat.lt_succ_of_lt hi)
   obtain ⟨s,hs⟩:=h n (Nat.lt_succ_self n)
   refine ⟨L++ [s],by simp [hl],fun i hi=> ?_⟩
   by_cases e:i<L.length
   ·rw [List.getElem_append_left e]
    exact hq i e
   ·have e2:i=L.length:=by simp at hi;omega
    subst e2
    rw [List.getElem_append_right (Nat.le_refl _)]
    simp only [Nat.sub_self,List.getElem_cons_zero]
    rw [hl]
    exact hs
theorem EE {n:Int} (h:(Lit.int .u8 n).wf=true):0<=n/\n<=255:=by
 simp only [Lit.wf,Bool.and_eq_true,decide_eq_true_eq] at h
 exact ⟨h.1,h.2⟩
theorem Vb {H:Type} (l:List (DataW H)) (h: ∀d∈l,6<=Rows.uptoBulk d):6*l.length<=Rows.uptoBulkAll l:=by
 induction l with
 | nil=>simp
 | cons y r ih=>
   have h1:=h y List.mem_cons_self
   have h2:=ih fun d hd=>h d (List.mem_cons_of_mem _ hd)
   simp only [Rows.uptoBulkAll,List.length_cons]
   omega
theorem Ke {H:Type} (l:List (DataW H)) (h:l.length=5):6<=Rows.uptoBulk (.agg l):=by
 have:=Yf l
 simp only [Rows.uptoBulk]
 omega
theorem DW {H:Type} : ∀(L:List zk) (E:List (DataW H)),L.length=E.length->(∀(i:Nat) (s:zk) (y:DataW H),L[i]? =some s->E[i]? =some y->s.text.size+1<=Rows.uptoBulk y)->(zy (L.map (·.text))).length<=Rows.uptoBulkAll E
 | [],[],_,_=>by simp [zy,Rows.uptoBulkAll]
 | [],_::_,h,_=>by simp at h
 | _::_,[],h,_=>by simp at h
 | s::L,y::E,h,hk=>by
   have h1:=DW L E (by simpa using h) fun i s' y' h1 h2=>hk (i+1) s' y' (by simpa using h1) (by simpa using h2)
   have h2:=hk 0 s y rfl rfl
   have e:(zy ((s::L).map (·.text))).length=s.text.size+1+(zy (L.map (·.text))).length:=by
    have e1:s.text.data.toList.length=s.text.size:=rfl
    unfold zy
    rw [List.map_cons,List.flatMap_cons,List.length_append,List.length_append,e1]
    rfl
   simp only [Rows.uptoBulkAll]
   omega
theorem Dy: ∀L:List zk,(zy (Dn.Yx L)).length<=(zy (L.map (·.text))).length
 | []=>Nat.le_refl _
 | s::L=>by
   have ih:=Dy L
   unfold Dn.Yx at ih ⊢
   unfold zy at ih ⊢
   by_cases h:s.kind=45
   ·rw [List.filter_cons_of_neg (by simp [h])]
    simp only [List.map_cons,List.flatMap_cons,List.length_append]
    omega
   ·rw [List.filter_cons_of_pos (by simp [h])]
    simp only [List.map_cons,List.flatMap_cons,List.length_append]
    omega
theorem UA {H:Type} {enc:TypeId×Value->H} {W:World} {c:Value} {fuel:Nat} {x:DataW H×List MemPlace}
 (hf:DataW.trod enc prog W 0 (fun _=>true) true fuel 59 [c]=some x) (hb:Rows.uptoBulk x.1<=1048576): ∃a cap L,c= .slice a (List.length L) cap/\yk W.heap.size W (.slice a L.length cap) L/\L.length<=1048576/\(∀s∈L,s.kind<256/\s.text.size<=1048576)/\L.length<=cap/\(zy (L.map (·.text))).length<=1048576:=by
 rcases DataW.trod_slice underlying59 hf with ⟨hcs,_⟩ | ⟨a,len,cap,elems,rest,n,_,hcs,rfl,_,hl,hm,hlen,hel,_,_⟩
 ·simp at hcs
  exact ⟨none,0,[],hcs,.inl ⟨rfl,_,_,rfl⟩,by simp,by simp,by simp,by simp [zy]⟩
 ·simp at hcs
  have hbl:Rows.uptoBulkAll (elems.map (·.1))<=1048576:=by
   simp only [Rows.uptoBulk] at hb
   omega
  have hle:len<=1048576:=by
   have:=Yf (elems.map (·.1))
   rw [List.length_map,hlen] at this
   omega
  have key: ∀i,i<len-> ∃s:zk,W.cell? ((a.add (i*2)).add 0)=some (.int .u8 (s.kind:Nat))/\W.cell? ((a.add (i*2)).add 1)=some (.string s.text)/\s.kind<256/\s.text.size<=1048576/\ ∀y,elems[i]? =some y->s.text.size+1<=Rows.uptoBulk y.1:=by
   intro i hi
   have h1:=hel i hi
   have hie:i<elems.length:=by omega
   rw [TL,List.getElem?_eq_getElem hie,Option.bind_eq_some_iff] at h1
   obtain ⟨cs,hcs,hy⟩:=h1
   obtain ⟨_,hl5,hc⟩:=World.cells?_some hcs
   have hmem:Rows.uptoBulk elems[i].1<=1048576:=Nat.le_trans (xF (List.mem_map.2 ⟨elems[i],List.getElem_mem hie,rfl⟩)) hbl
   obtain ⟨y,hye⟩: ∃y,elems[i]=y:=⟨_,rfl⟩
   rw [hye] at hy hmem
   have hyH:elems[i]? =some y:=by rw [List.getElem?_eq_getElem hie,hye]
   clear hye
   obtain ⟨xs,m,_,hyx,_,hx5,hfd⟩:=DataW.trod_struct underlying93 hy
   rw [hyx] at hmem
   obtain ⟨c0,c1,rfl⟩:=DP hl5
   obtain ⟨x0,x1,rfl⟩:=DP (show xs.length=2 from hx5)
   have f0:DataW.trod enc prog W 0 (fun _=>true) true m 5 ((([c0,c1]:List Value).drop 0).take (prog.cellsOf 5))= [x0,x1][0]? :=hfd 0 _ rfl
   rw [PE] at f0
   have f0:DataW.trod enc prog W 0 (fun _=>true) true m 5 [c0]=some x0:=f0
   have f1:DataW.trod enc prog W 0 (fun _=>true) true m 9 ((([c0,c1]:List Value).drop 1).take (prog.cellsOf 9))= [x0,x1][1]? :=hfd 1 _ rfl
   rw [QQ] at f1
   have f1:DataW.trod enc prog W 0 (fun _=>true) true m 9 [c1]=some x1:=f1
   obtain ⟨kd,e0,r0,w0⟩:=DataW.trod_int underlying5 f0
   obtain ⟨X,e1,r1,_⟩:=DataW.trod_string underlying9 f1
   have wk:=EE w0
   have z0:=hc 0 (by omega)
   have z1:=hc 1 (by omega)
   simp at e0 e1 z0 z1
   have hbb:Rows.uptoBulkAll ([x0,x1].map (·.1))<=1048576:=by
    simp only [Rows.uptoBulk] at hmem
    omega
   have hX:=Nat.le_trans (xF (d:=x1.1) (l:= [x0,x1].map (·.1)) (by simp)) hbb
   rw [r1] at hX
   simp only [Rows.uptoBulk] at hX
   have sX:X.data.toList.length=X.size:=rfl
   have ek:((kd.toNat:Nat):Int)=kd:=by omega
   exact ⟨⟨kd.toNat,X⟩,by rw [z0,e0];simp only;rw [ek],by rw [z1,e1],by simp only;omega,by simp only;omega,fun y' hy'=>by
    rw [hyH] at hy'
    cases hy'
    rw [hyx]
    have hX1:=xF (d:=x1.1) (l:= [x0,x1].map (·.1)) (by simp)
    rw [r1] at hX1 ⊢
    simp only [Rows.uptoBulk] at hX1 ⊢
    omega⟩
  obtain ⟨L,hL,hq⟩:=Wc len key
  refine ⟨some a,cap,L,by rw [hL];exact hcs,?_,by omega,fun s hs=> ?_,by omega,?_⟩
  ·by_cases h0:len=0
   ·left
    have:L= []:=List.eq_nil_of_length_eq_zero (by omega)
    subst this
    exact ⟨rfl,_,_,rfl⟩
   ·right
    obtain ⟨b,off,spot⟩:=a
    obtain ⟨_,k0,_⟩:=key 0 (by omega)
    have hspot:spot=none:=by simpa [Addr.add] using World.cell?_spot k0
    subst hspot
    refine ⟨b,off,cap,rfl,?_,fun i hi=> ?_⟩
    ·have:=YH k0
     rw [ye,ye] at this
     exact this
    ·obtain ⟨k0,k1,_⟩:=hq i hi
     rw [ye,ye] at k0 k1
     exact ⟨k0,k1⟩
  ·obtain ⟨i,hi,rfl⟩:=List.getElem_of_mem hs
   exact ⟨(hq i hi).2.2.1,(hq i hi).2.2.2.1⟩
  ·refine Nat.le_trans (DW L (elems.map (·.1)) (by rw [List.length_map];omega) fun i s y h1 h2=> ?_) hbl
   obtain ⟨hi,rfl⟩:=List.getElem?_eq_some_iff.1 h1
   rw [List.getElem?_map,Option.map_eq_some_iff] at h2
   obtain ⟨y',hy',rfl⟩:=h2
   exact (hq i hi).2.2.2.2 y' hy'
theorem Gz {H:Type} {enc:TypeId×Value->H} {W:World} {c:Value} {fuel:Nat} {x:DataW H×List MemPlace}
 (hf:DataW.trod enc prog W 0 (fun _=>true) true fuel 30 [c]=some x) (hb:Rows.uptoBulk x.1<=1048576): ∃a cap hs,c= .slice a (List.length hs) cap/\yH W.heap.size W (.slice a hs.length cap) hs/\Lim hs/\Xf hs/\ZT W (.slice a hs.length cap) hs.length:=by
 rcases DataW.trod_slice underlying30 hf with ⟨hcs,_⟩ | ⟨a,len,cap,elems,rest,n,_,hcs,rfl,_,hl,hm,hlen,hel,_,_⟩
 ·simp at hcs
  exact ⟨none,0,[],hcs,.inl ⟨rfl,_,_,rfl⟩,⟨by simp,by simp⟩,fun h hh=>by simp at hh,fun b off c e i hi=>by simp at hi⟩
 ·simp at hcs
  have hbl:Rows.uptoBulkAll (elems.map (·.1))<=1048576:=by
   simp only [Rows.uptoBulk] at hb
   omega
  have key0: ∀i,i<len-> ∃cs,World.cells? W 0 (a.add (i*5)) 5=some cs/\ ∃y,elems[i]? =some y/\DataW.trod enc prog W 0 (fun _=>true) true n 61 cs=some y:=by
   intro i hi
   have h1:=hel i hi
   have hie:i<elems.length:=by omega
   rw [PW,List.getElem?_eq_getElem hie,Option.bind_eq_some_iff] at h1
   obtain ⟨cs,hcs,hy⟩:=h1
   exact ⟨cs,hcs,elems[i],List.getElem?_eq_getElem hie,hy⟩
  have hle:6*len<=1048576:=by
   have h6:=Vb (elems.map (·.1)) (fun d hd=>by
    obtain ⟨y,hy,rfl⟩:=List.mem_map.1 hd
    obtain ⟨i,hi,rfl⟩:=List.getElem_of_mem hy
    obtain ⟨cs,_,y,hy1,hy2⟩:=key0 i (by omega)
    rw [List.getElem?_eq_getElem hi] at hy1
    cases hy1
    obtain ⟨xs,m,_,e,_,hx5,_⟩:=DataW.trod_struct underlying61 hy2
    rw [e]
    exact Ke _ (by rw [List.length_map];exact hx5))
   rw [List.length_map,hlen] at h6
   omega
  have key: ∀i,i<len-> ∃h:HI,∃a' c',W.cell? ((a.add (i*5)).add 0)=some (.int .i64 h.fr)/\W.cell? ((a.add (i*5)).add 1)=some (.int .i64 h.fc)/\W.cell? ((a.add (i*5)).add 2)=some (.int .i64 h.tr)/\W.cell? ((a.add (i*5)).add 3)=some (.int .i64 h.tc)/\W.cell? ((a.add (i*5)).add 4)=some (.slice a' h.lines.length c')/\yk W.heap.size W (.slice a' h.lines.length c') h.lines/\
   (h.lines.length<=1048576/\(-9223372036854775808<=h.fr/\h.fr<=9223372036854775807)/\(-9223372036854775808<=h.fc/\h.fc<=9223372036854775807)/\(-9223372036854775808<=h.tr/\h.tr<=9223372036854775807)/\(-9223372036854775808<=h.tc/\h.tc<=9223372036854775807)/\ ∀s∈h.lines,s.kind<256/\s.text.size<=1048576)/\h.lines.length<=c'/\(zy (Dn.Yx h.lines)).length<=4000000:=by
   intro i hi
   obtain ⟨cs,hcs,y,hy1,hy⟩:=key0 i hi
   obtain ⟨_,hl5,hc⟩:=World.cells?_some hcs
   have hmem:Rows.uptoBulk y.1<=1048576:=Nat.le_trans (xF (List.mem_map.2 ⟨y,List.mem_of_getElem? hy1,rfl⟩)) hbl
   clear hy1
   obtain ⟨xs,m,_,rfl,_,hx5,hfd⟩:=DataW.trod_struct underlying61 hy
   obtain ⟨c0,c1,c2,c3,c4,rfl⟩:=Qc hl5
   obtain ⟨x0,x1,x2,x3,x4,rfl⟩:=Qc (show xs.length=5 from hx5)
   have f0:DataW.trod enc prog W 0 (fun _=>true) true m 3 ((([c0,c1,c2,c3,c4]:List Value).drop 0).take (prog.cellsOf 3))= [x0,x1,x2,x3,x4][0]? :=hfd 0 _ rfl
   rw [Xd] at f0
   have f0:DataW.trod enc prog W 0 (fun _=>true) true m 3 [c0]=some x0:=f0
   have f1:DataW.trod enc prog W 0 (fun _=>true) true m 3 ((([c0,c1,c2,c3,c4]:List Value).drop 1).take (prog.cellsOf 3))= [x0,x1,x2,x3,x4][1]? :=hfd 1 _ rfl
   rw [Xd] at f1
   have f1:DataW.trod enc prog W 0 (fun _=>true) true m 3 [c1]=some x1:=f1
   have f2:DataW.trod enc prog W 0 (fun _=>true) true m 3 ((([c0,c1,c2,c3,c4]:List Value).drop 2).take (prog.cellsOf 3))= [x0,x1,x2,x3,x4][2]? :=hfd 2 _ rfl
   rw [Xd] at f2
   have f2:DataW.trod enc prog W 0 (fun _=>true) true m 3 [c2]=some x2:=f2
   have f3:DataW.trod enc prog W 0 (fun _=>true) true m 3 ((([c0,c1,c2,c3,c4]:List Value).drop 3).take (prog.cellsOf 3))= [x0,x1,x2,x3,x4][3]? :=hfd 3 _ rfl
   rw [Xd] at f3
   have f3:DataW.trod enc prog W 0 (fun _=>true) true m 3 [c3]=some x3:=f3
   have f4:DataW.trod enc prog W 0 (fun _=>true) true m 59 ((([c0,c1,c2,c3,c4]:List Value).drop 4).take (prog.cellsOf 59))= [x0,x1,x2,x3,x4][4]? :=hfd 4 _ rfl
   rw [Pz] at f4
   have f4:DataW.trod enc prog W 0 (fun _=>true) true m 59 [c4]=some x4:=f4
   obtain ⟨n0,e0,_,w0⟩:=DataW.trod_int underlying3 f0
   obtain ⟨n1,e1,_,w1⟩:=DataW.trod_int underlying3 f1
   obtain ⟨n2,e2,_,w2⟩:=DataW.trod_int underlying3 f2
   obtain ⟨n3,e3,_,w3⟩:=DataW.trod_int underlying3 f3
   have hbb:Rows.uptoBulkAll ([x0,x1,x2,x3,x4].map (·.1))<=1048576:=by
    simp only [Rows.uptoBulk] at hmem
    omega
   obtain ⟨al,cl,L,e4,hLA,hl1,hl2,hl3,hl4⟩:=UA f4 (Nat.le_trans (xF (d:=x4.1) (l:= [x0,x1,x2,x3,x4].map (·.1)) (by simp)) hbb)
   have z0:=hc 0 (by omega)
   have z1:=hc 1 (by omega)
   have z2:=hc 2 (by omega)
   have z3:=hc 3 (by omega)
   have z4:=hc 4 (by omega)
   simp at e0 e1 e2 e3 z0 z1 z2 z3 z4
   exact ⟨⟨n0,n1,n2,n3,L⟩,al,cl,by rw [z0,e0],by rw [z1,e1],by rw [z2,e2],by rw [z3,e3],by rw [z4,e4],hLA,⟨hl1,kg w0,kg w1,kg w2,kg w3,hl2⟩,hl3,by have:=Dy L;simp only;omega⟩
  obtain ⟨hs,hL,hq⟩:=Wc len key
  refine ⟨some a,cap,hs,by rw [hL];exact hcs,?_,⟨by omega,fun h hh=> ?_⟩,fun h hh=> ?_,fun b off c e i hi a2 m c2 hcell=> ?_⟩
  ·by_cases h0:len=0
   ·left
    have:hs= []:=List.eq_nil_of_length_eq_zero (by omega)
    subst this
    exact ⟨rfl,_,_,rfl⟩
   ·right
    obtain ⟨b,off,spot⟩:=a
    obtain ⟨_,_,_,k0,_⟩:=key 0 (by omega)
    have hspot:spot=none:=by simpa [Addr.add] using World.cell?_spot k0
    subst hspot
    refine ⟨b,off,cap,rfl,?_,fun i hi=> ?_⟩
    ·have:=YH k0
     rw [ye,ye] at this
     exact this
    ·obtain ⟨a',c',k0,k1,k2,k3,k4,k5,_⟩:=hq i hi
     rw [ye,ye] at k0 k1 k2 k3 k4
     exact ⟨a',c',k0,k1,k2,k3,k4,k5⟩
  ·obtain ⟨i,hi,rfl⟩:=List.getElem_of_mem hh
   obtain ⟨_,_,_,_,_,_,_,_,r,_,_⟩:=hq i hi
   exact r
  ·obtain ⟨i,hi,rfl⟩:=List.getElem_of_mem hh
   obtain ⟨_,_,_,_,_,_,_,_,_,_,r⟩:=hq i hi
   exact r
  ·simp only [Value.slice.injEq,Option.some.injEq] at e
   obtain ⟨rfl,_,_⟩:=e
   obtain ⟨a',c',_,_,_,_,k4,_,_,r,_⟩:=hq i hi
   rw [ye,ye] at k4
   rw [k4] at hcell
   cases hcell
   exact r
theorem Vz {H:Type} {enc:TypeId×Value->H} {W:World} {a0:Option Addr} {len cap fuel:Nat} {x:DataW H×List MemPlace}
 (hf:DataW.trod enc prog W 0 (fun _=>true) true fuel 22 [.slice a0 len cap]=some x) (hb:Rows.uptoBulk x.1<=1048576):len<=200000/\Qd W (.slice a0 len cap) len:=by
 rcases DataW.trod_slice underlying22 hf with ⟨hcs,_⟩ | ⟨a,len',cap',elems,rest,n,_,hcs,rfl,_,hl,hm,hlen,hel,_,_⟩
 ·simp at hcs
  obtain ⟨rfl,rfl,rfl⟩:=hcs
  exact ⟨Nat.zero_le _,.inl ⟨rfl,_,_,rfl⟩⟩
 ·simp at hcs
  obtain ⟨rfl,rfl,rfl⟩:=hcs
  have hbl:Rows.uptoBulkAll (elems.map (·.1))<=1048576:=by
   simp only [Rows.uptoBulk] at hb
   omega
  have hle:len<=200000:=by
   have h6:=Vb (elems.map (·.1)) (fun d hd=>by
    obtain ⟨y,hy,rfl⟩:=List.mem_map.1 hd
    obtain ⟨i,hi,rfl⟩:=List.getElem_of_mem hy
    have h1:=hel i (by omega)
    rw [DQ,List.getElem?_eq_getElem hi,Option.bind_eq_some_iff] at h1
    obtain ⟨cs,_,hy2⟩:=h1
    obtain ⟨xs,m,_,e,_,hx5,_⟩:=DataW.trod_struct underlying57 hy2
    rw [e]
    exact Ke _ (by rw [List.length_map];exact hx5))
   rw [List.length_map,hlen] at h6
   omega
  refine ⟨hle,?_⟩
  have key: ∀i,i<len-> ∃(kd nn:Int) (X Y:ByteArray) (ap:Option Addr) (cp:Nat) (hs:List HI),W.cell? ((a.add (i*5)).add 0)=some (.int .i64 kd)/\W.cell? ((a.add (i*5)).add 1)=some (.int .i64 nn)/\W.cell? ((a.add (i*5)).add 2)=some (.string X)/\W.cell? ((a.add (i*5)).add 3)=some (.string Y)/\W.cell? ((a.add (i*5)).add 4)=some (.slice ap hs.length cp)/\X.size<=4000000000/\Y.size<=4000000000/\yH W.heap.size W (.slice ap hs.length cp) hs/\Lim hs/\Xf hs/\ZT W (.slice ap hs.length cp) hs.length:=by
   intro i hi
   have h1:=hel i hi
   have hie:i<elems.length:=by omega
   rw [DQ,List.getElem?_eq_getElem hie,Option.bind_eq_some_iff] at h1
   obtain ⟨cs,hcs,hy⟩:=h1
   obtain ⟨_,hl5,hc⟩:=World.cells?_some hcs
   have hmem:Rows.uptoBulk elems[i].1<=1048576:=Nat.le_trans (xF (List.mem_map.2 ⟨elems[i],List.getElem_mem hie,rfl⟩)) hbl
   generalize elems[i]=y at hy hmem
   obtain ⟨xs,m,_,rfl,_,hx5,hfd⟩:=DataW.trod_struct underlying57 hy
   obtain ⟨c0,c1,c2,c3,c4,rfl⟩:=Qc hl5
   obtain ⟨x0,x1,x2,x3,x4,rfl⟩:=Qc (show xs.length=5 from hx5)
   have f0:DataW.trod enc prog W 0 (fun _=>true) true m 3 ((([c0,c1,c2,c3,c4]:List Value).drop 0).take (prog.cellsOf 3))= [x0,x1,x2,x3,x4][0]? :=hfd 0 _ rfl
   rw [Xd] at f0
   have f0:DataW.trod enc prog W 0 (fun _=>true) true m 3 [c0]=some x0:=f0
   have f1:DataW.trod enc prog W 0 (fun _=>true) true m 3 ((([c0,c1,c2,c3,c4]:List Value).drop 1).take (prog.cellsOf 3))= [x0,x1,x2,x3,x4][1]? :=hfd 1 _ rfl
   rw [Xd] at f1
   have f1:DataW.trod enc prog W 0 (fun _=>true) true m 3 [c1]=some x1:=f1
   have f2:DataW.trod enc prog W 0 (fun _=>true) true m 9 ((([c0,c1,c2,c3,c4]:List Value).drop 2).take (prog.cellsOf 9))= [x0,x1,x2,x3,x4][2]? :=hfd 2 _ rfl
   rw [QQ] at f2
   have f2:DataW.trod enc prog W 0 (fun _=>true) true m 9 [c2]=some x2:=f2
   have f3:DataW.trod enc prog W 0 (fun _=>true) true m 9 ((([c0,c1,c2,c3,c4]:List Value).drop 3).take (prog.cellsOf 9))= [x0,x1,x2,x3,x4][3]? :=hfd 3 _ rfl
   rw [QQ] at f3
   have f3:DataW.trod enc prog W 0 (fun _=>true) true m 9 [c3]=some x3:=f3
   have f4:DataW.trod enc prog W 0 (fun _=>true) true m 32 ((([c0,c1,c2,c3,c4]:List Value).drop 4).take (prog.cellsOf 32))= [x0,x1,x2,x3,x4][4]? :=hfd 4 _ rfl
   rw [TU] at f4
   have f4:DataW.trod enc prog W 0 (fun _=>true) true m 32 [c4]=some x4:=f4
   obtain ⟨kd,e0,r0,_⟩:=DataW.trod_int underlying3 f0
   obtain ⟨nn,e1,r1,_⟩:=DataW.trod_int underlying3 f1
   obtain ⟨X,e2,r2,_⟩:=DataW.trod_string underlying9 f2
   obtain ⟨Y,e3,r3,_⟩:=DataW.trod_string underlying9 f3
   obtain ⟨ys,m2,_,ex4,_,hy1,hfp⟩:=DataW.trod_struct underlying32 f4
   have g0:DataW.trod enc prog W 0 (fun _=>true) true m2 30 ((([c4]:List Value).drop 0).take (prog.cellsOf 30))=ys[0]? :=hfp 0 _ rfl
   have hy1':ys.length=1:=hy1
   rw [TI,List.getElem?_eq_getElem (show 0<ys.length by omega)] at g0
   have g0:DataW.trod enc prog W 0 (fun _=>true) true m2 30 [c4]=some (ys[0]'(by omega)):=g0
   have z0:=hc 0 (by omega)
   have z1:=hc 1 (by omega)
   have z2:=hc 2 (by omega)
   have z3:=hc 3 (by omega)
   have z4:=hc 4 (by omega)
   simp at e0 e1 e2 e3 z0 z1 z2 z3 z4
   have hbb:Rows.uptoBulkAll ([x0,x1,x2,x3,x4].map (·.1))<=1048576:=by
    simp only [Rows.uptoBulk] at hmem
    omega
   have hX:=Nat.le_trans (xF (d:=x2.1) (l:= [x0,x1,x2,x3,x4].map (·.1)) (by simp)) hbb
   have hY:=Nat.le_trans (xF (d:=x3.1) (l:= [x0,x1,x2,x3,x4].map (·.1)) (by simp)) hbb
   rw [r2] at hX
   rw [r3] at hY
   simp only [Rows.uptoBulk] at hX hY
   have hP:=Nat.le_trans (xF (d:=x4.1) (l:= [x0,x1,x2,x3,x4].map (·.1)) (by simp)) hbb
   rw [ex4] at hP
   simp only [Rows.uptoBulk] at hP
   have hP2:=xF (d:=(ys[0]'(by omega)).1) (l:=ys.map (·.1)) (List.mem_map.2 ⟨_,List.getElem_mem _,rfl⟩)
   obtain ⟨ap,cp,hs,e4,hHI,hLim,hLimT,hCap⟩:=Gz g0 (by omega)
   have sX:X.data.toList.length=X.size:=rfl
   have sY:Y.data.toList.length=Y.size:=rfl
   exact ⟨kd,nn,X,Y,ap,cp,hs,by rw [z0,e0],by rw [z1,e1],by rw [z2,e2],by rw [z3,e3],by rw [z4,e4],by omega,by omega,hHI,hLim,hLimT,hCap⟩
  by_cases h0:len=0
  ·subst h0
   exact .inl ⟨rfl,_,_,rfl⟩
  ·right
   obtain ⟨b,off,spot⟩:=a
   obtain ⟨_,_,_,_,_,_,_,k0,_⟩:=key 0 (by omega)
   have hspot:spot=none:=by simpa [Addr.add] using World.cell?_spot k0
   subst hspot
   refine ⟨b,off,cap,rfl,?_,fun i hi=> ?_⟩
   ·have:=YH k0
    rw [ye,ye] at this
    exact this
   ·obtain ⟨kd,nn,X,Y,ap,cp,hs,k0,k1,k2,k3,k4,k5,k6,k7,k8,k9,k10⟩:=key i hi
    refine ⟨kd,nn,X,Y,ap,cp,hs,?_,?_,?_,?_,?_,k5,k6,k7,k8,k9,k10⟩
    ·rw [ye,ye] at k0;exact k0
    ·rw [ye,ye] at k1;exact k1
    ·rw [ye,ye] at k2;exact k2
    ·rw [ye,ye] at k3;exact k3
    ·rw [ye,ye] at k4;exact k4
theorem gES:prog.globalNamed "strconv.ErrSyntax" =some 4:=by kernel_rfl
theorem Tg:(prog.globals[4]?).map (·.type)=some 139:=by kernel_rfl
theorem gER:prog.globalNamed "strconv.ErrRange" =some 5:=by kernel_rfl
theorem PD:(prog.globals[5]?).map (·.type)=some 139:=by kernel_rfl
theorem JT:prog.cellsOf 240=1:=by kernel_rfl
theorem GX: "*" ++ "errors.errorString" = "*errors.errorString" :=by decide
theorem DC (u:TypeId) (h:prog.typeName? 3 u=some "*errors.errorString"):u=238:=
 typeName_ptr_named (nm:= "errors.errorString") (by rw [GX];kernel_rfl) (by kernel_rfl) (by decide) u (by rw [GX];exact h)
theorem ED:(Rows.laid_internal_strconv_uint64pow10:DataW Unit)=Lib.tabData .u64 Lib.pow10Tab:=by kernel_rfl
theorem Dl {W:World} (hL:laidMetH prog Rows.allUptoRow.laid W) (hsh:W.ShapedOpen prog):yr W:=by
 have h1:=(laidMetH_iff.1 hL).1
 have h2:laidMet prog [(_,Rows.laid_math_bits_deBruijn32tab),(_,Rows.laid_math_bits_deBruijn64tab),("internal/strconv.uint64pow10",Rows.laid_internal_strconv_uint64pow10),(_,Rows.laid_unicode_utf8_acceptRanges),("strconv.ErrRange",Rows.laid_strconv_ErrRange),("strconv.ErrSyntax",Rows.laid_strconv_ErrSyntax),(_,Rows.laid_unicode_utf8_first)] W:=h1
 have ht:=h2.tail.tail
 have hr:=h2.tail.tail.tail.tail
 have hs:=h2.tail.tail.tail.tail.tail
 rw [ED] at ht
 have htab:=Lib.tabIs_of_head (t:=220) (e:=213) (n:=20) (g:=3) (by kernel_rfl) (by kernel_rfl) underlying220 underlying213 (by kernel_rfl) (by kernel_rfl) ht
 unfold Rows.laid_strconv_ErrSyntax at hs
 unfold Rows.laid_strconv_ErrRange at hr
 obtain ⟨a0,s0,hv0, -, -, -⟩:=laid_sentinel hs gES Tg underlying139 DC underlying238 underlying240 rfl rfl underlying9 JT QQ
 obtain ⟨a1,s1,hv1, -, -, -⟩:=laid_sentinel hr gER PD underlying139 DC underlying238 underlying240 rfl rfl underlying9 JT QQ
 have h0:=World.var?_cell gES hv0 0
 have h1:=World.var?_cell gER hv1 0
 have c0:W.cell? ⟨4,0,none⟩=some (.iface 238 (.pointer (some a0))):=by simpa using h0
 have c1:W.cell? ⟨5,0,none⟩=some (.iface 238 (.pointer (some a1))):=by simpa using h1
 have k0:=YH c0
 have k1:=YH c1
 simp at k0 k1
 exact ⟨⟨Kn hsh,⟨_,c0,.inr ⟨_,_,rfl⟩⟩,by omega⟩,⟨_,c1,.inr ⟨_,_,rfl⟩⟩,htab,by omega⟩
theorem VJ (os:Os) {H:Type} (enc:TypeId×Value->H):
 (Rows.OpenSpec.upto Rows.allSpec).preRow enc prog Tryz.f5 Rows.allUptoRow.domain false Rows.allUptoRow.laid ((jW (World.holding prog os GS)).forCall (fun _ _=>0) ⟨#[],#[.slice none 0 0],[]⟩).memory #[.slice none 0 0]:=by
 have hw:(DataW.whole enc prog ((jW (World.holding prog os GS)).forCall (fun _ _=>0) ⟨#[],#[.slice none 0 0],[]⟩).memory Tryz.f5.params.toList (Rows.OpenSpec.upto Rows.allSpec).vars false (#[.slice none 0 0]:Array Value).toList 8).map (fun x=>(x.1,x.2.1))=
  some ([.nil],[]):=by kernel_rfl
 obtain ⟨⟨x1,x2,x3⟩,hx,hx1⟩:=Option.map_eq_some_iff.1 hw
 simp only [Prod.mk.injEq] at hx1
 obtain ⟨rfl,rfl⟩:=hx1
 exact OpenSpec.preRow_of_cond 8 hx (by kernel_rfl) (fun k hk=>by cases hk;kernel_rfl) (by kernel_rfl) (EH os _)
theorem Gj (os:Os) (started:os.Started) (H:Type) (enc:TypeId×Value->H) (F:Stop.Interp):
 ReturnsInHanded {} checked os 5 .any ((Rows.OpenSpec.upto Rows.allSpec).preRow enc prog Tryz.f5 Rows.allUptoRow.domain false Rows.allUptoRow.laid) (((Rows.OpenSpec.upto Rows.allSpec).at F).post enc prog Tryz.f5 false true false false):=by
 refine returnsInHanded_of_row (C:=checked) (s:=Rows.OpenSpec.upto Rows.allSpec) Sn started (by kernel_rfl) func5
  (witness_row_atRef (enc:=enc) (C:=checked) false (jW (World.holding prog os GS)) #[.slice none 0 0] rfl (by kernel_rfl) (by kernel_rfl) (by kernel_rfl) (VJ os enc)) ?_
 intro W base args ds gs before hval0 hW _ hcond _ hL hsh _
 have hval: ∀(j:Nat) t v,Tryz.f5.params[j]? =some t->args[j]? =some v->Value.okWide prog W .any base t v:=hval0
 have hW':=hW
 obtain ⟨p,q,hA0,hV,rfl,_,_⟩:=hW
 have hA:DataW.TrodAll enc prog W 0 (fun _=>true) true Tryz.f5.params.toList args.toList ds p:=hA0
 rw [params5] at hA hval
 obtain ⟨v0,vs0,d0,ds0,p0,q0,hargs,rfl,rfl,h0,r0⟩:=trodAll_cons hA
 obtain ⟨rfl,rfl,rfl⟩:=trodAll_nil r0
 obtain rfl:args= #[v0]:=by cases args;simp_all
 obtain ⟨rfl,rfl⟩:=trodVars_none hV
 obtain ⟨a0,l0,c0,rfl⟩:=okWide_slice underlying22 (hval 0 22 v0 rfl rfl)
 have h0k:=h0
 obtain ⟨fuel0,hf0⟩:=h0
 clear hA0 hval0
 simp only [List.append_nil] at hW'
 have hk:=hcond _ rfl
 have hb0:Rows.uptoBulk d0<=1048576:=by
  have h:=of_decide_eq_true hk
  simp only [List.append_nil,Rows.uptoBulkAll] at h
  omega
 have hlt: ∀x∈p0,x.block<W.heap.size:=fun x hx=>by simpa using hW'.lt x hx
 obtain ⟨hle,hS⟩:=Vz hf0 hb0
 obtain ⟨m,hm⟩:=Kn hsh
 refine (PA (m:=m) hS hle hm (Dl hL hsh)).mono fun e W' ⟨he,hb⟩=> ?_
 subst he
 refine ⟨_,rfl,_,_,_,[],p0,[],hW',?_,?_,?_,hb.frame _,fun h=>by cases h⟩
 ·exact trodAll_mk1 (shut_bool underlying4 true)
 ·have t0:=Below.trod EY (by kernel_rfl) (of_decide_eq_true (by kernel_rfl)) h0k hb (fun x hx=>hlt x hx)
  have:=trodAll_cons_mk t0 trodAll_mk0
  simp only [List.append_nil] at this
  exact this
 ·exact rfl
theorem PC:Rows.AllUptoSaid:=
 OpenClaim.holds_of_cond 5 Tryz.f5 rfl rfl rfl rfl rfl rfl rfl ⟨rfl,rfl,rfl,rfl,rfl⟩ rfl rfl rfl rfl rfl (by kernel_rfl) func5 (by kernel_rfl)
  (of_decide_eq_true (by kernel_rfl)) (by unfold Func.isWrapper;rw [if_neg (of_decide_eq_false (by kernel_rfl))];exact ⟨rfl,rfl⟩)
  (fun os started H enc _ F0=>by rw [OpenClaim.pre_eq_preRow];exact Gj os started H enc F0)
theorem all_card:Rows.AllUptoCardSaid:=
 Claim7.holds_tied_plain_at .later [] [.data,.data,.data,.data,.sentinel,.sentinel,.pinned] true (true, "7161e2264f3eed6547cfefa7174f8f11a68028a5e43b3bef197380733a8fa1fb") true
  PC (fun _ h=>by cases h) (by kernel_rfl) (fun _ h=>by cases h) allUpto_row_tie rfl ⟨rfl,rfl⟩ (by kernel_rfl) rfl
  (fun f fn hf hfn=>by
   obtain rfl:f=5:=Option.some.inj ((show prog.funcNamed Tryz.f5.name=some 5 by kernel_rfl).symm.trans hf) |>.symm
   obtain rfl:fn=Tryz.f5:=(Option.some.inj (func5.symm.trans hfn)).symm
   exact ⟨by kernel_rfl,fun j t ht=>by
    rw [params5] at ht
    rcases j with _ | j
    ·obtain rfl:t=22:=by simpa using ht.symm
     exact FT
    ·simp at ht⟩)
  (by kernel_rfl)
#print axioms all_card
end Go.Proofs.YtcclgodahlinbaaGreatDoor
