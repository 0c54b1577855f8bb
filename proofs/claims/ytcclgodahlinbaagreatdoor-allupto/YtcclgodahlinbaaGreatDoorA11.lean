import Derived.Test.YtcclgodahlinbaaGreatDoorA10
import Derived.Test.YtcclgodahlinbaaGreatDoorA08
import Derived.Lib.SplitLaws
import Derived.Test.YtcclgodahlinbaaGreatDoorA01
namespace Go.Proofs.YtcclgodahlinbaaGreatDoor
set_option maxHeartbeats 16000000
open Tryz Go.RowKit Go
set_option maxRecDepth 100000
theorem Qy:(prog.info? 101).map (fun i=>(i.zero,i.size,i.bytes))=some (some (.agg #[.int .u8 0,.string ByteArray.empty]),2,24):=by kernel_rfl
theorem Jy (l:List ByteArray) (s:ByteArray):Lib.byteCells (qd l)++Lib.strCells s=Lib.byteCells (qd (l++ [s])):=by
 rw [xH,Yt]
 simp [Lib.byteCells,Lib.strCells]
theorem YI (L:List zk) (b e:Nat):(qd (((L.take e).drop b).map (·.text))).length<=(qd (L.map (·.text))).length:=by
 have h1: ∀(a c:List zk),(qd ((a++c).map (·.text))).length=(qd (a.map (·.text))).length+(qd (c.map (·.text))).length:=by intro a c;rw [List.map_append,xH,List.length_append]
 have h2:=h1 (L.take e) (L.drop e)
 rw [List.take_append_drop] at h2
 have h3:=h1 ((L.take e).take b) ((L.take e).drop b)
 rw [List.take_append_drop] at h3
 omega
theorem FF (L:List zk) {b e:Nat} (hb:b<=e) (he:e<L.length):((L.take (e+1)).drop b).map (·.text)=((L.take e).drop b).map (·.text)++ [L[e].text]:=by
 rw [List.take_succ_eq_append_getElem he,List.drop_append_of_le_length (by rw [List.length_take];omega)]
 simp
theorem Ky {B base n:Nat} {w w':World} {v:Value} {xs:List Value} (h:w.ownsRow base 101 2 v n xs) (hb:Below B w w') (hB: ∀g,v.ownBlock=some g->g<B):w'.ownsRow base 101 2 v n xs:=by
 refine ⟨h.1,?_⟩
 rcases h.2 with h2 | ⟨g,cap,cur,e,h1,h2,h3⟩
 ·exact .inl h2
 ·exact .inr ⟨g,cap,cur,e,h1,(hb.block g (hB g (by rw [e];rfl))).trans h2,h3⟩
theorem GD {L:List zk} {a:Option Addr} {cap:Nat} {w:World} (hS:zJ w.heap.size w (.slice a L.length cap) L) (hL:L.length<=1000) (hT:(qd (L.map (·.text))).length<=100000):
 Calls prog 115 #[.slice a L.length cap] w fun e w'=> ∃v,e= .returned v/\w'.ownsRow w.heap.size 101 2 v (XC L).length (zg (XC L))/\Below w.heap.size w w':=by
 obtain ⟨i0,hi,hz0,hz1,hz2⟩:=info_parts Qy
 go_enter func115,ntmps115
 go_wp2_with fail
 go_loopg [3,4] L.length (fun g v t wr=> ∃(b fuel n:Nat) (R:List zk),g=L.length-b/\b<=L.length/\L.length<=b+fuel/\t= .int .i64 b/\n<=b/\wr.ownsRow w.heap.size 101 2 v n (zg R)/\R.length=n/\Hid (R++ZR L fuel b=XC L)/\Below w.heap.size w wr)
 case atStart=>exact ⟨0,L.length,0,[],by omega,by omega,by omega,rfl,by omega,World.ownsRow_nil _ _ _ _,rfl,rfl,Below.refl _ _⟩
 case round=>
  obtain ⟨b,fuel,n,R,hgk,hbl,hbf,rfl,hnb,hown,hRn,HR,hbw⟩:=hrel
  have hszr:=hbw.size
  obtain ⟨ar,cr,rfl⟩:=zn hown
  have hG:Hid (gk=L.length-b):=hgk
  clear hgk
  by_cases hb:b<L.length
  ·have hbI:(b:Int)<L.length:=by omega
   obtain ⟨sb,rfl,hsb,k0,_⟩:=(hS.below hbw).at hb
   obtain ⟨rp1,rp2⟩:=ZZ hb
   obtain ⟨f',rfl⟩: ∃f',fuel=f'+1:=⟨fuel-1,by omega⟩
   have HR2:Hid ((R++ [kG L b (b+runLen L b)])++ZR L f' (b+runLen L b)=XC L):=by
    have:=HR.out
    rw [ZR,if_pos hb] at this
    show _=_
    rw [<-this,List.append_assoc]
    rfl
   have hkd:(L.getD b ⟨0,ByteArray.empty⟩).kind=L[b].kind:=by simp [List.getD,hb]
   have hin:=fun j (hj:j<runLen L b)=>Zq hb hj
   have hen:=fun h'=>Qs hb h'
   rw [hkd] at hen
   have hrun:kG L b (b+runLen L b)=⟨L[b].kind,⟨(qd (((L.take (b+runLen L b)).drop b).map (·.text))).toArray⟩⟩:=by unfold kG;rw [hkd]
   rw [hrun] at HR2
   simp only [hkd] at hin
   clear hrun hkd HR
   have hinH:Hid (∀j,j<runLen L b->b+j<L.length/\ ∀h',(L[b+j]'h').kind=L[b].kind):=hin
   have henH:Hid (∀h',(L[b+runLen L b]'h').kind≠L[b].kind):=hen
   clear hin hen
   generalize runLen L b=r at *
   generalize hkk:L[b].kind=kd at *
   have hkk':Hid (L[b].kind=kd):=hkk
   clear hkk
   have hst:=hS.below hbw
   have hU:=heap_alloc_new wr (.cells #[.pointer none,.slice none 0 0] 74)
   have bU:=(Below.refl wr.heap.size wr).alloc (Nat.le_refl _) (.cells #[.pointer none,.slice none 0 0] 74)
   have sU:(wr.alloc (.cells #[.pointer none,.slice none 0 0] 74)).heap.size=wr.heap.size+1:=by simp
   have k0':(wr.alloc (.cells #[.pointer none,.slice none 0 0] 74)).cell? ⟨sb,b*2,none⟩=some (.int .u8 (kd:Nat)):=(bU.cell (p:=⟨sb,b*2,none⟩) (by show sb<wr.heap.size;omega)).trans k0
   have hB0: ∃ad vb,xT wr.heap.size ad vb (Lib.byteCells (qd (((L.take b).drop b).map (·.text)))) (wr.alloc (.cells #[.pointer none,.slice none 0 0] 74)):=by
    rw [List.drop_eq_nil_of_le (by rw [List.length_take];omega)]
    exact ⟨_,_,⟨hU,.inl rfl,World.ownsRow_nil _ _ _ _⟩⟩
   clear k0
   go_wp2_with fail
   generalize wr.alloc (.cells #[.pointer none,.slice none 0 0] 74)=U at *
   go_loopg [7] r (fun g t wi=> ∃e:Nat,g=b+r-e/\b<=e/\e<=b+r/\t= .int .i64 e/\(∃ad vb,xT wr.heap.size ad vb (Lib.byteCells (qd (((L.take e).drop b).map (·.text)))) wi)/\Below wr.heap.size U wi)
   case atStart=>exact ⟨b,by omega,by omega,by omega,rfl,hB0,Below.refl _ _⟩
   case round=>
    rename World=>wi
    obtain ⟨e,hge,he1,he2,rfl,⟨ad,vb,hbm⟩,hbi⟩:=hrel
    have hGe:Hid (_=b+r-e):=hge
    clear hge
    have hbwi:Below wr.heap.size wr wi:=bU.trans hbi
    have hsti:zJ w.heap.size wi (.slice (some ⟨sb,0,none⟩) L.length cap) L:=hst.below (hbwi.mono hszr)
    have hszi:=hbwi.size
    have hlti:=hbm.lt
    by_cases her:e<b+r
    ·obtain ⟨hel,hek⟩:=hinH.out (e-b) (by omega)
     have hel':e<L.length:=by omega
     have heI:(e:Int)<L.length:=by omega
     obtain ⟨sb2,e2,_,c0,c1⟩:=hsti.at hel'
     cases e2
     have hke:L[e].kind=kd:=by have:=hek (by omega);rw [<-this];congr 2;omega
     rw [hke] at c0
     have hst2:=FF L he1 hel'
     have htl:=YI L b (e+1)
     rw [hst2,xH,Yt,List.length_append] at htl
     have hcs:L[e].text.data.toList.length=L[e].text.size:=rfl
     have hwb:=qU L[e].text hbm (by rw [Lib.byteCells_length];omega)
     have hst3:Hid (((L.take (e+1)).drop b).map (·.text)=((L.take e).drop b).map (·.text)++ [L[e].text]):=hst2
     clear hst2 htl hcs hek hke
     go_wp2_with fail
     refine hwb.mono ?_
     rintro e' wj ⟨rfl,vb',hbm',bj,_⟩
     go_wp2_with fail
     go_roundg (b+r-(e+1))
     ·exact ⟨e+1,rfl,by omega,by omega,by push_cast;rfl,⟨_,vb',by rw [hst3.out,<-Jy];exact hbm'⟩,hbi.trans bj⟩
     ·have:=hGe.out;omega
    ·obtain rfl:e=b+r:=by omega
     have hstr:=Vl ⟨ad,vb,hbm⟩
     have hownI:=Ky hown hbwi (fun g e=>(hown.lt g e).2)
     have hlen:=YI L b (b+r)
     generalize hTX:(⟨(qd (((L.take (b+r)).drop b).map (·.text))).toArray⟩:ByteArray)=TX at *
     clear hTX
     have hfin: ∀(W:World),Below wr.heap.size wr W->W.ownsRow w.heap.size 101 2 (.slice ar n cr) n (zg R):=fun W hW=>Ky hown hW (fun g e=>(hown.lt g e).2)
     have hone: ∀u∈ [Value.int .u8 (kd:Int),Value.string TX],u.oneCell'=true:=by intro u hu;simp at hu;rcases hu with rfl | rfl<;>rfl
     have hcase:(¬((b+r:Nat):Int)<L.length)\/ ∃h':b+r<L.length,L[b+r].kind≠kd:=by
      by_cases h':b+r<L.length
      ·exact .inr ⟨h',henH.out h'⟩
      ·exact .inl (by omega)
     generalize hee:b+r=E at *
     have hEl:E<=L.length:=by omega
     rcases hcase with hc1 | ⟨h',hkn⟩
     ·go_wp2_with fail
      refine hstr.mono ?_
      rintro e' wj ⟨rfl,bj,_⟩
      have hj:=hfin wj (hbwi.trans bj)
      have hsj:=(hbwi.trans bj).size
      go_wp2_with (at_builtin;refine zm rfl (.tmp 39) (.tmp 43) 100 rfl w.heap.size 101 i0 _ 2 24 underlying100 hi hz0 hz1 hz2 rfl (by decide) (.slice ar n cr) n (zg R) rfl (hj.alloc _) ⟨wj.heap.size,0,none⟩ 1 1 [.int .u8 (kd:Int),.string TX] rfl rfl (zt wj [.int .u8 (kd:Int),.string TX] 101) hone (by unfold maxLen;omega) (by omega) (by simp;omega) ?_;intro v' w3 hown3 hgr hnew;have hb3:=((hbw.trans ((hbwi.trans bj).mono hszr)).alloc (by omega) _).grown hgr (by simp;omega) (fun j e=>(hj.lt j e).1))
      go_roundg (L.length-E)
      ·exact ⟨E,f',n+1,R++ [⟨kd,TX⟩],rfl,hEl,by omega,rfl,by omega,by rw [zB];exact hown3,by simp [hRn],HR2,hb3⟩
      ·have:=hG.out;omega
     ·have heI:(E:Int)<L.length:=by omega
      obtain ⟨sb2,e2,_,c0,c1⟩:=hsti.at h'
      cases e2
      generalize L[E].kind=ke at *
      have hkq:((ke:Int)==(kd:Int))=false:=by simp;omega
      go_wp2_with fail
      refine hstr.mono ?_
      rintro e' wj ⟨rfl,bj,_⟩
      have hj:=hfin wj (hbwi.trans bj)
      have hsj:=(hbwi.trans bj).size
      go_wp2_with (at_builtin;refine zm rfl (.tmp 39) (.tmp 43) 100 rfl w.heap.size 101 i0 _ 2 24 underlying100 hi hz0 hz1 hz2 rfl (by decide) (.slice ar n cr) n (zg R) rfl (hj.alloc _) ⟨wj.heap.size,0,none⟩ 1 1 [.int .u8 (kd:Int),.string TX] rfl rfl (zt wj [.int .u8 (kd:Int),.string TX] 101) hone (by unfold maxLen;omega) (by omega) (by simp;omega) ?_;intro v' w3 hown3 hgr hnew;have hb3:=((hbw.trans ((hbwi.trans bj).mono hszr)).alloc (by omega) _).grown hgr (by simp;omega) (fun j e=>(hj.lt j e).1))
      go_roundg (L.length-E)
      ·exact ⟨E,f',n+1,R++ [⟨kd,TX⟩],rfl,hEl,by omega,rfl,by omega,by rw [zB];exact hown3,by simp [hRn],HR2,hb3⟩
      ·have:=hG.out;omega
  ·obtain rfl:b=L.length:=by omega
   have hR:R=XC L:=by
    have:=HR.out
    cases fuel with
    | zero=>simpa [ZR] using this
    | succ k=>unfold ZR at this;rw [if_neg hb] at this;simpa using this
   go_wp2_with fail
   go_ret
   exact ⟨_,rfl,by rw [<-hR,hRn];exact hown,hbw⟩
def qA (s:ByteArray):Bool:=decide (0<=Lib.indexByte s.data.toList 10)
def checkI (old fresh:ByteArray):Nat:=if 200<old.size\/200<fresh.size then 1 else if qA old=true\/qA fresh=true then 2 else 0
theorem kl (s:ByteArray) (w:World):Calls prog 107 #[.string s,.string ⟨#[10]⟩] w fun e w'=>e= .returned (.bool (qA s))/\w=w':=by
 refine (Tryz.strings_Contains_one s 10 w).mono ?_
 rintro e w' ⟨rfl,rfl⟩
 exact ⟨rfl,rfl⟩
theorem kJ (old fresh:ByteArray) (w:World):Calls prog 114 #[.string old,.string fresh] w fun e w'=>e= .returned (.int .i64 (checkI old fresh:Nat))/\w=w':=by
 have i1:=kl old w
 have i2:=kl fresh w
 unfold checkI
 by_cases h1:200<old.size
 ·have h1I:(200:Int)<old.size:=by omega
  rw [if_pos (.inl h1)]
  go_enter func114,ntmps114
  go_wp2
  go_ret
  exact ⟨rfl,rfl⟩
 ·have h1I: ¬(200:Int)<old.size:=by omega
  by_cases h2:200<fresh.size
  ·have h2I:(200:Int)<fresh.size:=by omega
   rw [if_pos (.inr h2)]
   go_enter func114,ntmps114
   go_wp2
   go_ret
   exact ⟨rfl,rfl⟩
  ·have h2I: ¬(200:Int)<fresh.size:=by omega
   rw [if_neg (by omega)]
   cases e1:qA old with
   | true=>
     rw [e1] at i1
     rw [if_pos (.inl rfl)]
     go_enter func114,ntmps114
     go_wp2_with fail
     refine i1.mono ?_
     rintro e w' ⟨rfl,rfl⟩
     go_wp2
     go_ret
     exact ⟨rfl,rfl⟩
   | false=>
     rw [e1] at i1
     cases e2:qA fresh with
     | true=>
       rw [e2] at i2
       rw [if_pos (.inr rfl)]
       go_enter func114,ntmps114
       go_wp2_with fail
       refine i1.mono ?_
       rintro e w' ⟨rfl,rfl⟩
       go_wp2_with fail
       refine i2.mono ?_
       rintro e w' ⟨rfl,rfl⟩
       go_wp2
       go_ret
       exact ⟨rfl,rfl⟩
     | false=>
       rw [e2] at i2
       rw [if_neg (by simp)]
       go_enter func114,ntmps114
       go_wp2_with fail
       refine i1.mono ?_
       rintro e w' ⟨rfl,rfl⟩
       go_wp2_with fail
       refine i2.mono ?_
       rintro e w' ⟨rfl,rfl⟩
       go_wp2
       go_ret
       exact ⟨rfl,rfl⟩
def inlineM (old fresh:ByteArray):List zk:=XC (Dn.WT (lettersB old) (lettersB fresh))
theorem Ex {old fresh:ByteArray} {k:Nat} (w:World) (h:checkI old fresh=k) (hk:k≠0):
 Calls prog 83 #[.string old,.string fresh] w fun e w'=>e= .returned (.tuple #[.slice none 0 0,.int .i64 k])/\w=w':=by
 have hc:=kJ old fresh w
 rw [h] at hc
 have hq:((k:Int)==0)=false:=by simp;omega
 have hq2:((k:Int) !=0)=true:=by simp;omega
 go_enter func83,ntmps83
 go_wp2_with fail
 refine hc.mono ?_
 rintro e w' ⟨rfl,rfl⟩
 go_wp2
 go_ret2
 exact ⟨rfl,rfl⟩
theorem DX {l:List ByteArray} {k:Nat} (h: ∀s∈l,s.size<=k):(qd l).length<=l.length*k:=by
 induction l with
 | nil=>simp [qd]
 | cons a l ih=>
   have e:qd (a::l)=a.data.toList++qd l:=rfl
   have h1:=ih (fun s hs=>h s (List.mem_cons_of_mem _ hs))
   have h2:a.data.toList.length=a.size:=rfl
   have h3:=h a (by simp)
   rw [e,List.length_append,List.length_cons,Nat.add_mul]
   omega
theorem ju {s t:ByteArray} (h:t∈lettersB s):t.size<=s.size:=by
 have h1:=(qc s).1
 obtain ⟨a,b,e⟩:=List.append_of_mem h
 rw [e] at h1
 have h2:=congrArg List.length h1
 rw [xH] at h2
 have h3:qd (t::b)=t.data.toList++qd b:=rfl
 rw [h3] at h2
 simp only [List.length_append] at h2
 have h4:t.data.toList.length=t.size:=rfl
 have h5:s.data.toList.length=s.size:=rfl
 omega
theorem EB {old fresh:ByteArray} (w:World) (h:checkI old fresh=0):
 Calls prog 83 #[.string old,.string fresh] w fun e w'=> ∃a cap,e= .returned (.tuple #[.slice a (inlineM old fresh).length cap,.int .i64 0])/\w'.ownsRow w.heap.size 101 2 (.slice a (inlineM old fresh).length cap) (inlineM old fresh).length (zg (inlineM old fresh))/\Below w.heap.size w w':=by
 have hc:=kJ old fresh w
 rw [h] at hc
 have hsz:old.size<=200/\fresh.size<=200:=by
  unfold checkI at h
  split at h
  ·cases h
  ·omega
 have l1:=(qc old).2.2
 have l2:=(qc fresh).2.2
 have hw:=kq (lettersB old) (lettersB fresh)
 have hwt:(qd ((Dn.WT (lettersB old) (lettersB fresh)).map (·.text))).length<=100000:=by
  have:=DX (l:=(Dn.WT (lettersB old) (lettersB fresh)).map (·.text)) (k:=200) (by
   intro s hs
   obtain ⟨x,hx,rfl⟩:=List.mem_map.1 hs
   rcases way_text hx with h | h
   ·have:=ju h;omega
   ·have:=ju h;omega)
  rw [List.length_map] at this
  have h2:=Nat.mul_le_mul_right 200 (show (Dn.WT (lettersB old) (lettersB fresh)).length<=400 by omega)
  omega
 have hLo:=ZO old w (by omega)
 have hLf:Hid (∀w2:World,Calls prog 116 #[.string fresh] w2 fun e w'=> ∃v,e= .returned v/\w'.ownsRow w2.heap.size 9 1 v (lettersB fresh).length (zz (lettersB fresh))/\Below w2.heap.size w2 w'):=fun w2=>ZO fresh w2 (by omega)
 have hFi:Hid (∀(w3:World) ao capo af capf,qa w3.heap.size w3 (.slice ao (lettersB old).length capo) (lettersB old)->qa w3.heap.size w3 (.slice af (lettersB fresh).length capf) (lettersB fresh)->
   Calls prog 25 #[.slice ao (lettersB old).length capo,.slice af (lettersB fresh).length capf] w3 fun e w'=> ∃a cap,e= .returned (.slice a (Dn.WT (lettersB old) (lettersB fresh)).length cap)/\zJ w'.heap.size w' (.slice a (Dn.WT (lettersB old) (lettersB fresh)).length cap) (Dn.WT (lettersB old) (lettersB fresh))/\Below w3.heap.size w3 w'):=by
  intro w3 ao capo af capf s1 s2
  refine (Wz s1 s2 (by omega) (by omega)).mono ?_
  rintro e w' ⟨v,rfl,ho,hb⟩
  have hst:=zJ.of_owns ho
  obtain ⟨a,cap,rfl⟩:=hst.slice
  exact ⟨a,cap,rfl,hst,hb⟩
 have hRu:Hid (∀(w4:World) a cap,zJ w4.heap.size w4 (.slice a (Dn.WT (lettersB old) (lettersB fresh)).length cap) (Dn.WT (lettersB old) (lettersB fresh))->
   Calls prog 115 #[.slice a (Dn.WT (lettersB old) (lettersB fresh)).length cap] w4 fun e w'=> ∃v,e= .returned v/\w'.ownsRow w4.heap.size 101 2 v (inlineM old fresh).length (zg (inlineM old fresh))/\Below w4.heap.size w4 w'):=by
  intro w4 a cap hst
  exact GD hst (by omega) hwt
 clear hw hwt l1 l2 hsz h
 generalize inlineM old fresh=IM at *
 generalize lettersB old=Lo at *
 generalize lettersB fresh=Lf at *
 generalize Dn.WT Lo Lf=WW at *
 go_enter func83,ntmps83
 go_wp2_with fail
 refine hc.mono ?_
 rintro e w' ⟨rfl,rfl⟩
 clear hc
 go_wp2_with fail
 refine hLo.mono ?_
 clear hLo
 rintro e w1 ⟨v1,rfl,o1,b1⟩
 obtain ⟨a1,c1,rfl⟩:=zn o1
 have s1:=qa.of_owns o1
 go_wp2_with fail
 refine (hLf.out w1).mono ?_
 rintro e w2 ⟨v2,rfl,o2,b2⟩
 obtain ⟨a2,c2,rfl⟩:=zn o2
 have s2:=qa.of_owns o2
 have z1:=b1.size
 have z2:=b2.size
 have s1':=(s1.below b2).mono b2.size
 go_wp2_with fail
 refine (hFi.out w2 _ _ _ _ s1' s2).mono ?_
 rintro e w3 ⟨a3,c3,rfl,st,b3⟩
 have z3:=b3.size
 go_wp2_with fail
 refine (hRu.out w3 _ _ st).mono ?_
 rintro e w4 ⟨v4,rfl,o4,b4⟩
 obtain ⟨a4,c4,rfl⟩:=zn o4
 go_wp2_with fail
 go_ret2
 refine ⟨a4,c4,rfl,⟨o4.1,?_⟩,b1.trans ((b2.mono z1).trans ((b3.mono (by omega)).trans (b4.mono (by omega))))⟩
 rcases o4.2 with h | ⟨g,cap,cur,e,h1,h2⟩
 ·exact .inl h
 ·exact .inr ⟨g,cap,cur,e,by omega,h2⟩
theorem Wy: ∀(a r:List UInt8),(10:UInt8) ∉ a->Lib.index (a++10::r) [10]=(a.length:Int)
 | [],r,_=>by rw [List.nil_append,Lib.index];simp [List.isPrefixOf]
 | b::a,r,h=>by
   have hb:b≠10:=by intro e;exact h (by simp [e])
   have ih:=Wy a r (fun e=>h (List.mem_cons_of_mem _ e))
   have hp:([10]:List UInt8).isPrefixOf (b::(a++10::r))=false:=by simp [List.isPrefixOf,Ne.symm hb]
   rw [List.cons_append,Lib.index,hp,ih]
   simp
theorem Gc: ∀(a:List UInt8),(10:UInt8) ∉ a->Lib.index a [10]= -1
 | [],_=>by simp [Lib.index]
 | b::a,h=>by
   have hb:b≠10:=by intro e;exact h (by simp [e])
   have ih:=Gc a (fun e=>h (List.mem_cons_of_mem _ e))
   have hp:([10]:List UInt8).isPrefixOf (b::a)=false:=by simp [List.isPrefixOf,Ne.symm hb]
   rw [Lib.index,hp,ih]
   simp
def qV:List (List UInt8)->List UInt8
 | []=> []
 | [a]=>a
 | a::b::l=>a++10::qV (b::l)
theorem XQ: ∀(L:List (List UInt8)),(∀a∈L,(10:UInt8) ∉ a)->L≠ []->(qV L).count 10+1=L.length
 | [],_,h=>absurd rfl h
 | [a],h,_=>by simp [qV,List.count_eq_zero.2 (h a (by simp))]
 | a::b::l,h,_=>by
   have ih:=XQ (b::l) (fun x hx=>h x (List.mem_cons_of_mem _ hx)) (by simp)
   rw [qV,List.count_append,List.count_cons_self,List.count_eq_zero.2 (h a (by simp))]
   simp only [List.length_cons] at ih ⊢
   omega
theorem XE: ∀(L:List (List UInt8)),(∀a∈L,(10:UInt8) ∉ a)->L≠ []-> ∀k,k+1=L.length->Lib.splitK [10] 0 k (qV L)=L
 | [],_,h,_,_=>absurd rfl h
 | [a],_,_,k,hk=>by
   obtain rfl:k=0:=by simpa using hk
   rfl
 | a::b::l,h,_,k,hk=>by
   cases k with
   | zero=>simp at hk
   | succ k=>
     have ih:=XE (b::l) (fun x hx=>h x (List.mem_cons_of_mem _ hx)) (by simp) k (by simpa using hk)
     have hi:=Wy a (qV (b::l)) (h a (by simp))
     rw [qV,Lib.splitK,hi,if_neg (by simp)]
     have e1:(a++10::qV (b::l)).take (((a.length:Int)).toNat+0)=a:=by simp
     have e2:(a++10::qV (b::l)).drop (((a.length:Int)).toNat+ [(10:UInt8)].length)=qV (b::l):=by
      rw [Int.toNat_natCast,List.drop_append,List.drop_eq_nil_of_le (by simp)]
      simp
     rw [e1,e2,ih]
theorem Yg: ∀(L:List ByteArray),L≠ []->zy L=qV (L.map (·.data.toList))++ [10]
 | [],h=>absurd rfl h
 | [a],_=>by simp [zy,qV]
 | a::b::l,_=>by
   have ih:=Yg (b::l) (by simp)
   have e:zy (a::b::l)=(a.data.toList++ [10])++zy (b::l):=rfl
   rw [e,ih]
   simp [qV]
theorem FX {a b:List ByteArray} (h:a.map (·.data.toList)=b.map (·.data.toList)):a=b:=by
 refine List.map_inj_right (f:=fun s:ByteArray=>s.data.toList) ?_ |>.1 h
 intro x y e
 apply ByteArray.ext
 exact Array.toList_inj.1 e
def TB (L:List ByteArray):Prop:= ∀s∈L,(10:UInt8) ∉ s.data.toList
theorem WP {L:List ByteArray} (h:TB L):linesB (kW L)=L:=by
 by_cases h0:L= []
 ·subst h0;simp [linesB,kW,zy]
 ·have hj:=Yg L h0
  have hne:(kW L).toList.isEmpty=false:=by
   unfold kW
   rw [hj]
   simp
  have ht:trimB (kW L)=⟨(qV (L.map (·.data.toList))).toArray⟩:=by
   unfold trimB kW Lib.trimSuffix Lib.hasSuffix
   simp only [hj]
   rw [if_pos (by simp)]
   simp
  unfold linesB
  rw [hne,if_neg (by simp),ht]
  apply FX
  have hP: ∀a∈L.map (·.data.toList),(10:UInt8) ∉ a:=by
   intro a ha
   obtain ⟨s,hs,rfl⟩:=List.mem_map.1 ha
   exact h s hs
  have hc:=XQ _ hP (by simp [h0])
  rw [Lib.splitB_data]
  have e3:Lib.countB ⟨(qV (L.map (·.data.toList))).toArray⟩ nl=(qV (L.map (·.data.toList))).count 10:=by
   show Lib.count _ _=_
   exact Lib.count_one 10 _
  rw [e3]
  exact XE _ hP (by simp [h0]) _ hc
theorem KI (L:List ByteArray):yd (kW L)=true:=by
 by_cases h0:L= []
 ·subst h0;simp [yd,kW,zy]
 ·unfold yd kW Lib.hasSuffix
  simp only [Yg L h0]
  simp
end Go.Proofs.YtcclgodahlinbaaGreatDoor
namespace Dn
section
set_option linter.unusedSectionVars false
variable {α :Type} [DecidableEq α]
def Fe (a: α) (prev:List α ->Nat):List α ->Nat
 | []=>prev []+1
 | b::r=>if a=b then prev r else 1+min (prev (b::r)) (Fe a prev r)
def yY:List α ->List α ->Nat
 | []=>List.length
 | a::l=>Fe a (yY l)
theorem yx (r:List α):yY [] r=r.length:=rfl
theorem xt (l:List α):yY l []=l.length:=by
 induction l with
 | nil=>rfl
 | cons a l ih=>show yY l []+1=_;rw [ih];rfl
theorem Ff (a b: α) (l r:List α):yY (a::l) (b::r)=if a=b then yY l r else 1+min (yY l (b::r)) (yY (a::l) r):=rfl
theorem je (a: α) (l r:List α):yY (a::l) (a::r)=yY l r:=by rw [Ff,if_pos rfl]
theorem ZD {a b: α} (h:a≠b) (l r:List α):yY (a::l) (b::r)=1+min (yY l (b::r)) (yY (a::l) r):=by rw [Ff,if_neg h]
theorem Kw: ∀(n:Nat) (l r:List α),l.length+r.length<=n->yY l r=yY r l:=by
 intro n
 induction n with
 | zero=>
   intro l r h
   have h1:l= []:=List.eq_nil_of_length_eq_zero (by omega)
   have h2:r= []:=List.eq_nil_of_length_eq_zero (by omega)
   rw [h1,h2]
 | succ n ih=>
   intro l r h
   cases l with
   | nil=>rw [yx,xt]
   | cons a l=>
     cases r with
     | nil=>rw [yx,xt]
     | cons b r=>
       simp only [List.length_cons] at h
       by_cases e:a=b
       ·subst e;rw [je,je];exact ih _ _ (by omega)
       ·rw [ZD e,ZD (Ne.symm e),ih l (b::r) (by simp;omega),ih (a::l) r (by simp;omega)]
        omega
theorem Ek: ∀(n:Nat) (l r:List α),l.length+r.length<=n->(∀a,yY (a::l) r<=yY l r+1)/\(∀b,yY l r<=yY l (b::r)+1):=by
 intro n
 induction n with
 | zero=>
   intro l r h
   have h1:l= []:=List.eq_nil_of_length_eq_zero (by omega)
   have h2:r= []:=List.eq_nil_of_length_eq_zero (by omega)
   subst h1 h2
   simp [yx,xt]
 | succ n ih=>
   intro l r h
   refine ⟨fun a=> ?_,fun b=> ?_⟩
   ·cases r with
    | nil=>rw [xt,xt];simp
    | cons b r=>
      simp only [List.length_cons] at h
      by_cases e:a=b
      ·subst e
       rw [je]
       exact (ih l r (by omega)).2 a
      ·rw [ZD e];omega
   ·cases l with
    | nil=>rw [yx,yx];simp;omega
    | cons c l=>
      simp only [List.length_cons] at h
      by_cases e:c=b
      ·subst e
       rw [je]
       exact (ih l r (by omega)).1 c
      ·rw [ZD e]
       have h1:=(ih l r (by omega)).1 c
       have h2:=(ih l r (by omega)).2 b
       omega
theorem GJ (a: α) (l r:List α):yY (a::l) r<=yY l r+1:=(Ek _ l r (Nat.le_refl _)).1 a
theorem PR (b: α) (l r:List α):yY l (b::r)<=yY l r+1:=by
 rw [Kw _ l (b::r) (Nat.le_refl _),Kw _ l r (Nat.le_refl _)];exact GJ b r l
variable (o f:List α)
def rd (x y:Nat):Nat:=yY (o.drop x) (f.drop y)
theorem Ys {x y:Nat} (h:yL o f x y=true):rd o f x y=rd o f (x+1) (y+1):=by
 obtain ⟨hx,hy⟩:=qI o f h
 unfold yL at h
 simp only [decide_eq_true_eq] at h
 have e:=h.2.2
 unfold rd
 rw [List.drop_eq_getElem_cons hx,List.drop_eq_getElem_cons hy]
 rw [List.getElem?_eq_getElem hx,List.getElem?_eq_getElem hy] at e
 rw [Option.some.inj e,je]
theorem Ty {x y:Nat} (h:yL o f x y=false) (hx:x<o.length) (hy:y<f.length):rd o f x y=1+min (rd o f (x+1) y) (rd o f x (y+1)):=by
 unfold yL at h
 simp only [decide_eq_false_iff_not,not_and] at h
 have e:=h hx hy
 unfold rd
 rw [List.drop_eq_getElem_cons hx,List.drop_eq_getElem_cons hy]
 rw [List.getElem?_eq_getElem hx,List.getElem?_eq_getElem hy] at e
 rw [ZD (fun e'=>e (by rw [e']))]
theorem Tr {y:Nat} (hy:y<f.length):rd o f o.length y=1+rd o f o.length (y+1):=by
 unfold rd;rw [List.drop_length,yx,yx];simp;omega
theorem PS {x:Nat} (hx:x<o.length):rd o f x f.length=1+rd o f (x+1) f.length:=by
 unfold rd;rw [List.drop_length,xt,xt];simp;omega
def Near (st:yl) (G:Nat->Nat->Nat) (x y c:Nat):Prop:=(st.at f.length x y≠0/\G x y<=c)\/ ∃s∈st.op,s.x=x/\s.y=y/\s.far<=c
end
section
variable {α :Type} [DecidableEq α]
def GE (a: α) (l:List α) (prev:List α ->List (ZS α)):List α ->List (ZS α)
 | []=>⟨45,a⟩::prev []
 | b::r=>if a=b then ⟨32,a⟩::prev r else if yY l (b::r)<=yY (a::l) r then ⟨45,a⟩::prev (b::r) else ⟨43,b⟩::GE a l prev r
def Xa:List α ->List α ->List (ZS α)
 | []=>List.map fun b=>⟨43,b⟩
 | a::l=>GE a l (Xa l)
theorem Sj:Xa ([]:List α) []= []:=rfl
theorem Tn (b: α) (r:List α):Xa [] (b::r)=⟨43,b⟩::Xa [] r:=rfl
theorem PZ (a: α) (l:List α):Xa (a::l) []=⟨45,a⟩::Xa l []:=rfl
theorem Wu (a b: α) (l r:List α):Xa (a::l) (b::r)=if a=b then ⟨32,a⟩::Xa l r else if yY l (b::r)<=yY (a::l) r then ⟨45,a⟩::Xa l (b::r) else ⟨43,b⟩::Xa (a::l) r:=rfl
def Dw:List α ->Nat
 | []=>0
 | _::r=>2 ^ r.length+Dw r
def Dz (a: α) (l:List α) (prev:List α ->Nat):List α ->Nat
 | []=>prev []
 | b::r=>if a=b then prev r else if yY l (b::r)<=yY (a::l) r then prev (b::r) else 2 ^ yY (a::l) r+Dz a l prev r
def key:List α ->List α ->Nat
 | []=>Dw
 | a::l=>Dz a l (key l)
theorem EK:key ([]:List α) []=0:=rfl
theorem Pn (b: α) (r:List α):key [] (b::r)=2 ^ r.length+key [] r:=rfl
theorem DE (a: α) (l:List α):key (a::l) []=key l []:=rfl
theorem Jf (a b: α) (l r:List α):key (a::l) (b::r)=if a=b then key l r else if yY l (b::r)<=yY (a::l) r then key l (b::r) else 2 ^ yY (a::l) r+key (a::l) r:=rfl
theorem pw1 (k r:Nat):k*2 ^ (r+1)=2*(k*2 ^ r):=by rw [Nat.pow_succ,<-Nat.mul_assoc,Nat.mul_comm]
theorem pw2 (k p:Nat):2*k*p=2*(k*p):=Nat.mul_assoc _ _ _
theorem pw3 (k p:Nat):(2*k+1)*p=2*(k*p)+p:=by rw [Nat.add_mul,Nat.mul_assoc,Nat.one_mul]
theorem TH: ∀(n:Nat) (l r:List α),l.length+r.length<=n->key l r<2 ^ yY l r:=by
 intro n
 induction n with
 | zero=>
   intro l r h
   have h1:l= []:=List.eq_nil_of_length_eq_zero (by omega)
   have h2:r= []:=List.eq_nil_of_length_eq_zero (by omega)
   subst h1 h2
   rw [EK]
   exact Nat.two_pow_pos _
 | succ n ih=>
   intro l r h
   cases l with
   | nil=>
     cases r with
     | nil=>rw [EK];exact Nat.two_pow_pos _
     | cons b r=>
       simp only [List.length_cons] at h
       have:=ih [] r (by simp at h ⊢;omega)
       rw [yx] at this
       rw [Pn,yx,List.length_cons,Nat.pow_succ]
       omega
   | cons a l=>
     simp only [List.length_cons] at h
     cases r with
     | nil=>
       have:=ih l [] (by simp at h ⊢;omega)
       rw [xt] at this
       rw [DE,xt,List.length_cons,Nat.pow_succ]
       omega
     | cons b r=>
       simp only [List.length_cons] at h
       by_cases e:a=b
       ·subst e
        rw [Jf,if_pos rfl,je]
        exact ih l r (by omega)
       ·rw [Jf,if_neg e,ZD e]
        split
        ·rename_i hle
         have:=ih l (b::r) (by simp;omega)
         rw [Nat.min_eq_left hle,Nat.add_comm,Nat.pow_succ]
         omega
        ·rename_i hle
         have:=ih (a::l) r (by simp;omega)
         rw [Nat.min_eq_right (by omega),Nat.add_comm 1,Nat.pow_succ]
         omega
variable (o f:List α)
def kb (x y:Nat):Nat:=key (o.drop x) (f.drop y)
def sp (x y:Nat):List (ZS α):=Xa (o.drop x) (f.drop y)
def YD (x y:Nat):Prop:=x<o.length/\(f.length<=y\/rd o f (x+1) y<=rd o f x (y+1))
theorem Tv (x y:Nat):kb o f x y<2 ^ rd o f x y:=TH _ _ _ (Nat.le_refl _)
theorem Ws [Inhabited α] {x y:Nat} (h:yL o f x y=true):kb o f x y=kb o f (x+1) (y+1)/\sp o f x y=⟨32,o.getD x default⟩::sp o f (x+1) (y+1):=by
 obtain ⟨hx,hy⟩:=qI o f h
 unfold yL at h
 simp only [decide_eq_true_eq] at h
 have e:=h.2.2
 unfold kb sp
 rw [List.drop_eq_getElem_cons hx,List.drop_eq_getElem_cons hy]
 rw [List.getElem?_eq_getElem hx,List.getElem?_eq_getElem hy] at e
 rw [<-Option.some.inj e,Jf,if_pos rfl,Wu,if_pos rfl]
 simp [List.getD,hx]
theorem Yr [Inhabited α] {x y:Nat} (h:yL o f x y=false) (hy:y<=f.length) (hd:YD o f x y):rd o f x y=rd o f (x+1) y+1/\kb o f x y=kb o f (x+1) y/\sp o f x y=⟨45,o.getD x default⟩::sp o f (x+1) y:=by
 obtain ⟨hx,hd⟩:=hd
 by_cases ey:y<f.length
 ·have hd':rd o f (x+1) y<=rd o f x (y+1):=by omega
  refine ⟨by rw [Ty o f h hx ey];omega,?_⟩
  unfold yL at h
  simp only [decide_eq_false_iff_not,not_and] at h
  have e:=h hx ey
  unfold rd at hd'
  unfold kb sp
  rw [List.drop_eq_getElem_cons hx,List.drop_eq_getElem_cons ey] at *
  rw [List.getElem?_eq_getElem hx,List.getElem?_eq_getElem ey] at e
  have e':o[x]≠f[y]:=fun e'=>e (by rw [e'])
  rw [Jf,if_neg e',if_pos hd',Wu,if_neg e',if_pos hd']
  simp [List.getD,hx]
 ·obtain rfl:y=f.length:=by omega
  refine ⟨by rw [PS o f hx];omega,?_⟩
  unfold kb sp
  rw [List.drop_length,List.drop_eq_getElem_cons hx,DE,PZ]
  simp [List.getD,hx]
theorem QV [Inhabited α] {x y:Nat} (h:yL o f x y=false) (hx:x<=o.length) (hy:y<f.length) (hd: ¬YD o f x y):
 rd o f x y=rd o f x (y+1)+1/\kb o f x y=2 ^ rd o f x (y+1)+kb o f x (y+1)/\sp o f x y=⟨43,f.getD y default⟩::sp o f x (y+1)/\(x<o.length->rd o f x y<rd o f (x+1) y+1):=by
 by_cases ex:x<o.length
 ·have hd': ¬rd o f (x+1) y<=rd o f x (y+1):=fun e=>hd ⟨ex,.inr e⟩
  have hr:=Ty o f h ex hy
  refine ⟨by rw [hr];omega,?_⟩
  rw [<-and_assoc]
  refine ⟨?_,fun _=>by rw [hr];omega⟩
  unfold yL at h
  simp only [decide_eq_false_iff_not,not_and] at h
  have e:=h ex hy
  clear hr
  unfold rd at hd'
  unfold kb sp rd
  rw [List.drop_eq_getElem_cons ex,List.drop_eq_getElem_cons hy] at *
  rw [List.getElem?_eq_getElem ex,List.getElem?_eq_getElem hy] at e
  have e':o[x]≠f[y]:=fun e'=>e (by rw [e'])
  rw [Jf,if_neg e',if_neg hd',Wu,if_neg e',if_neg hd']
  simp [List.getD,hy]
 ·obtain rfl:x=o.length:=by omega
  refine ⟨by rw [Tr o f hy];omega,?_⟩
  rw [<-and_assoc]
  refine ⟨?_,fun h=>absurd h (by omega)⟩
  unfold kb sp rd
  rw [List.drop_length,List.drop_eq_getElem_cons hy,Pn,Tn,yx]
  simp [List.getD,hy]
theorem Se {x:Nat} (y:Nat) (h:x<o.length):rd o f x y<=rd o f (x+1) y+1:=by
 unfold rd;rw [List.drop_eq_getElem_cons h];exact GJ _ _ _
theorem Si {y:Nat} (x:Nat) (h:y<f.length):rd o f x y<=rd o f x (y+1)+1:=by
 unfold rd;rw [List.drop_eq_getElem_cons h];exact PR _ _ _
def Low (x y c k:Nat):Prop:=yY o f<=c+rd o f x y/\(c+rd o f x y=yY o f->key o f<=k*2 ^ rd o f x y+kb o f x y)
variable [Inhabited α]
theorem Low.keep {x y c k:Nat} (h:Low o f x y c k) (hs:yL o f x y=true):Low o f (x+1) (y+1) c k:=by
 unfold Low at *
 rw [<-(Ws o f hs).1,<-Ys o f hs]
 exact h
theorem Low.drop {x y c k:Nat} (h:Low o f x y c k) (hs:yL o f x y=false) (hx:x<o.length) (hy:y<=f.length):Low o f (x+1) y (c+1) (2*k):=by
 obtain ⟨h1,h2⟩:=h
 have hr:=Se o f y hx
 refine ⟨by omega,fun e=> ?_⟩
 have h3:=h2 (by omega)
 have hd:YD o f x y:=by
  by_cases hd:YD o f x y
  ·exact hd
  ·have hy':y<f.length:=by
    by_cases ey:y<f.length
    ·exact ey
    ·exact absurd ⟨hx,.inl (by omega)⟩ hd
   have:=(QV o f hs (by omega) hy' hd).2.2.2 hx
   omega
 obtain ⟨e1,e2,_⟩:=Yr o f hs hy hd
 rw [e1,e2,pw1] at h3
 rw [pw2]
 exact h3
theorem Low.add {x y c k:Nat} (h:Low o f x y c k) (hs:yL o f x y=false) (hx:x<=o.length) (hy:y<f.length):Low o f x (y+1) (c+1) (2*k+1):=by
 obtain ⟨h1,h2⟩:=h
 have hr:=Si o f x hy
 refine ⟨by omega,fun e=> ?_⟩
 have h3:=h2 (by omega)
 have e0:rd o f x y=rd o f x (y+1)+1:=by omega
 rw [pw3]
 rw [e0,pw1] at h3
 by_cases hd:YD o f x y
 ·obtain ⟨e1,e2,_⟩:=Yr o f hs (by omega) hd
  have h4:=Tv o f (x+1) y
  rw [show rd o f (x+1) y=rd o f x (y+1) by omega] at h4
  omega
 ·obtain ⟨_,e2,_⟩:=QV o f hs hx hy hd
  omega
def le2 (a b c d:Nat):Prop:=a<c\/(a=c/\b<=d)
def Kb (st:yl) (G Q:Nat->Nat->Nat) (x y kind c k:Nat):Prop:=
 (kind=46/\x=0/\y=0/\c=0/\k=0)\/
 (kind=32/\0<x/\0<y/\st.at f.length (x-1) (y-1)≠0/\yL o f (x-1) (y-1)=true/\c=G (x-1) (y-1)/\k=Q (x-1) (y-1))\/
 (kind=45/\0<x/\st.at f.length (x-1) y≠0/\yL o f (x-1) y=false/\c=G (x-1) y+1/\k=2*Q (x-1) y)\/
 (kind=43/\0<y/\st.at f.length x (y-1)≠0/\yL o f x (y-1)=false/\c=G x (y-1)+1/\k=2*Q x (y-1)+1)
def qq (st:yl) (G Q:Nat->Nat->Nat) (κ :Nat->Nat) (x y c k:Nat):Prop:=
 (st.at f.length x y≠0/\le2 (G x y) (Q x y) c k)\/ ∃s∈st.op,s.x=x/\s.y=y/\le2 s.far (κ s.turn) c k
def ZW (st:yl) (G Q:Nat->Nat->Nat) (κ :Nat->Nat) (x y:Nat):Prop:=
 if yL o f x y=true then qq f st G Q κ (x+1) (y+1) (G x y) (Q x y)
 else (x<o.length->qq f st G Q κ (x+1) y (G x y+1) (2*Q x y))/\(y<f.length->qq f st G Q κ x (y+1) (G x y+1) (2*Q x y+1))
structure jq (hole:Option (Nat×Nat)) (st:yl) (G Q:Nat->Nat->Nat) (κ :Nat->Nat):Prop where
 heap:Jc st.op
 uniq:(st.op.map (·.turn)).Nodup
 tle: ∀s∈st.op,s.turn<=st.turns
 far: ∀s1∈st.op,∀s2∈st.op,s1.far<=s2.far+1
 ord: ∀s1∈st.op,∀s2∈st.op,s1.far=s2.far->s1.turn<s2.turn-> κ s1.turn< κ s2.turn
 ord2: ∀s1∈st.op,∀s2∈st.op,s1.far=s2.far+1-> κ s1.turn<2 * κ s2.turn
 mono: ∀x y,x<=o.length->y<=f.length->st.at f.length x y≠0-> ∀s∈st.op,le2 (G x y) (Q x y) s.far (κ s.turn)
 spots: ∀s∈st.op,Kb o f st G Q s.x s.y s.kind s.far (κ s.turn)
 known: ∀x y,x<=o.length->y<=f.length->st.at f.length x y≠0->Kb o f st G Q x y (st.at f.length x y) (G x y) (Q x y)
 start:qq f st G Q κ 0 0 0 0
 next: ∀x y,x<=o.length->y<=f.length->st.at f.length x y≠0->hole≠some (x,y)->ZW o f st G Q κ x y
 low: ∀x y,x<=o.length->y<=f.length->st.at f.length x y≠0->Low o f x y (G x y) (Q x y)
 lowS: ∀s∈st.op,Low o f s.x s.y s.far (κ s.turn)
 top:st.at f.length o.length f.length≠0->G o.length f.length=yY o f/\Q o.length f.length<=key o f
def WS (x y c k:Nat):Prop:=c+rd o f x y=yY o f/\k*2 ^ rd o f x y+kb o f x y<=key o f
theorem Ut {st:yl} {G Q:Nat->Nat->Nat} {κ :Nat->Nat} (h:jq o f none st G Q κ) (he:st.at f.length o.length f.length=0):
 ∀n x y,x<=o.length->y<=f.length->(o.length-x)+(f.length-y)=n->st.at f.length x y≠0->WS o f x y (G x y) (Q x y)-> ∃s∈st.op,WS o f s.x s.y s.far (κ s.turn):=by
 intro n
 induction n using Nat.strongRecOn with
 | ind n ih=>
   intro x y hx hy hk hr hD
   have hn:=h.next x y hx hy hr (by simp)
   have go: ∀x' y' c k,x'<=o.length->y'<=f.length->(o.length-x')+(f.length-y')<n->WS o f x' y' c k->qq f st G Q κ x' y' c k-> ∃s∈st.op,WS o f s.x s.y s.far (κ s.turn):=by
    intro x' y' c k hx' hy' hlt hc hnear
    rcases hnear with ⟨h1,h2⟩ | ⟨s,hs,e1,e2,h2⟩
    ·have hl:=(h.low x' y' hx' hy' h1).1
     have hc1:=hc.1
     refine ih _ hlt x' y' hx' hy' rfl h1 ?_
     rcases h2 with h2 | ⟨h2,h3⟩
     ·omega
     ·refine ⟨by omega,?_⟩
      have:=Nat.mul_le_mul_right (2 ^ rd o f x' y') h3
      have:=hc.2
      omega
    ·have hl:=(h.lowS s hs).1
     have hc1:=hc.1
     rw [<-e1,<-e2] at hc1
     refine ⟨s,hs,?_⟩
     rcases h2 with h2 | ⟨h2,h3⟩
     ·omega
     ·rw [e1,e2]
      rw [e1,e2] at hc1
      refine ⟨by omega,?_⟩
      have:=Nat.mul_le_mul_right (2 ^ rd o f x' y') h3
      have:=hc.2
      omega
   obtain ⟨hD1,hD2⟩:=hD
   unfold ZW at hn
   split at hn
   ·rename_i hs
    have hlt:=qI o f hs
    refine go _ _ _ _ (by omega) (by omega) (by omega) ⟨?_,?_⟩ hn
    ·rw [<-Ys o f hs];exact hD1
    ·rw [<-Ys o f hs,<-(Ws o f hs).1];exact hD2
   ·rename_i hs
    have hs':yL o f x y=false:=by simpa using hs
    by_cases hd:YD o f x y
    ·obtain ⟨e1,e2,_⟩:=Yr o f hs' hy hd
     refine go _ _ _ _ (by have:=hd.1;omega) (by omega) (by have:=hd.1;omega) ⟨by omega,?_⟩ (hn.1 hd.1)
     rw [e1,e2,pw1] at hD2
     rw [pw2]
     exact hD2
    ·have ey:y<f.length:=by
      by_cases ey:y<f.length
      ·exact ey
      ·obtain rfl:y=f.length:=by omega
       by_cases ex:x<o.length
       ·exact absurd ⟨ex,.inl (Nat.le_refl _)⟩ hd
       ·obtain rfl:x=o.length:=by omega
        exact absurd he hr
     obtain ⟨e1,e2,_⟩:=QV o f hs' hx ey hd
     refine go _ _ _ _ (by omega) (by omega) (by omega) ⟨by omega,?_⟩ (hn.2 ey)
     rw [e1,e2,pw1] at hD2
     rw [pw3]
     omega
theorem TZ {st:yl} {G Q:Nat->Nat->Nat} {κ :Nat->Nat} (h:jq o f none st G Q κ) (he:st.at f.length o.length f.length=0): ∃s∈st.op,WS o f s.x s.y s.far (κ s.turn):=by
 have e1:rd o f 0 0=yY o f:=by simp [rd]
 have e2:kb o f 0 0=key o f:=by simp [kb]
 rcases h.start with ⟨h1,h2⟩ | ⟨s,hs,x0,y0,h2⟩
 ·have h2':G 0 0=0/\Q 0 0=0:=by unfold le2 at h2;omega
  exact Ut o f h he _ 0 0 (by omega) (by omega) rfl h1 ⟨by rw [h2'.1,e1];omega,by rw [h2'.2,e2];omega⟩
 ·have h2':s.far=0/\ κ s.turn=0:=by unfold le2 at h2;omega
  exact ⟨s,hs,by rw [x0,y0];exact ⟨by rw [h2'.1,e1];omega,by rw [h2'.2,e2];omega⟩⟩
end
end Dn
