import Derived.Test.YtcclgodahlinbaaGreatDoorA26
import Derived.Test.YtcclgodahlinbaaGreatDoorA27
import Derived.Test.YtcclgodahlinbaaGreatDoorA23
import Derived.Test.YtcclgodahlinbaaGreatDoorA22
import Derived.Laws.AppendOwnNone
namespace Go.Proofs.YtcclgodahlinbaaGreatDoor
set_option maxHeartbeats 16000000
open Tryz Go.RowKit Go
set_option maxRecDepth 100000
def ZT (w:World) (v:Value) (n:Nat):Prop:= ∀b off c,v= .slice (some ⟨b,off,none⟩) n c-> ∀i,i<n-> ∀a m c',w.cell? ⟨b,off+i*5+4,none⟩=some (.slice a m c')->m<=c'
structure GO (h:zx):Prop where
 ok:V.UI h
 chg:chg h.lines=true
theorem Vo {s:ByteArray} {ms:List zx} {fz:Nat} {a:Option Addr} {cap:Nat} {w:World} (hs4:s.size<=4000000000) (h1:xX s=true) (h2:yb s=false) (hf:fz<=10)
 (hH:yH w.heap.size w (.slice a ms.length cap) (ms.map HI.ofM)) (hcp:ZT w (.slice a ms.length cap) ms.length) (hok:zQ 0 0 (ms.map HI.ofM)=true) (hL:Lim (ms.map HI.ofM)) (hh: ∀h∈ms,GO h) (hx:(zy (linesB s)).length<=10000):
 Calls prog 92 #[.string s,.agg #[.slice a ms.length cap],.int .i64 (fz:Int)] w fun e w'=>
  ∃v,e= .returned (.tuple #[.string (applyT (linesB s) fz ms),v,.int .i64 0])/\w'.ownsRow w.heap.size 63 3 v ms.length (zL (applyS (linesB s) fz ms))/\Below w.heap.size w w':=by
 obtain ⟨i0,hi,hz0,hz1,hz2⟩:=info_parts qM
 obtain ⟨j0,ji,jz0,jz1,jz2⟩:=info_parts YW
 have hTl:=yz h2
 have hrl:=jl h1
 have hA:=fun k hk=>V.Fm (fz:=fz) (hs:=ms) (T:=linesB s) (fun h hm=>(hh h hm).ok) (by omega) hx k hk
 have hap:=fun k hk=>kQ (linesB s) fz ms k hk
 have hlen:ms.length<=300000:=by have:=hL.1;rwa [List.length_map] at this
 have hRt:=fun (W:World) (h:yH W.heap.size W (.slice a ms.length cap) (ms.map HI.ofM))=>ja (hs:=ms.map HI.ofM) (a:=a) (cap:=cap) (w:=W) (by rw [List.length_map];exact h) hL
 rw [hok,List.length_map] at hRt
 have hfinT:Hid (applyT (linesB s) fz ms=⟨((applyK (linesB s) fz ms ms.length).1.t++zy ((linesB s).drop (applyK (linesB s) fz ms ms.length).1.en)).toArray⟩/\applyS (linesB s) fz ms=(applyK (linesB s) fz ms ms.length).2):=⟨rfl,rfl⟩
 have hLimH:Hid (Lim (ms.map HI.ofM)):=hL
 obtain ⟨W0,hW0⟩: ∃W0,w.alloc (.cells #[.slice a ms.length cap] 32)=W0:=⟨_,rfl⟩
 have b0:Below w.heap.size w W0:=by rw [<-hW0];exact (Below.refl _ _).alloc (Nat.le_refl _) _
 have z0:W0.heap.size=w.heap.size+1:=by rw [<-hW0];simp
 have hP0:W0.heap[w.heap.size]? =some (.cells #[.slice a ms.length cap] 32 (0,0)):=by rw [<-hW0];exact heap_alloc_new w _
 have hl1:=xM s W0 hs4
 rw [h1,hrl] at hl1
 have hlg:=fun W:World=>Zn s W hs4
 rw [h2] at hlg
 have hRtH:Hid _:=hRt
 have hAH:Hid _:=hA
 have hapH:Hid _:=hap
 have hhH:Hid (∀h∈ms,GO h):=hh
 clear hRt hA hap hok hL hrl h2 hh
 generalize applyT (linesB s) fz ms=RT at *
 generalize applyS (linesB s) fz ms=RS at *
 generalize linesB s=T at *
 go_enter func92,ntmps92
 go_wp2_with fail
 clear hW0
 refine hl1.mono ?_
 rintro e W1 ⟨aT,cT,rfl,hoT,b1⟩
 have z1:=b1.size
 go_wp2_with fail
 refine (hlg W1).mono ?_
 rintro e W2 ⟨rfl,b2⟩
 have z2:=b2.size
 have b02:=b1.trans (b2.mono (by omega))
 have bw2:=b0.trans (b02.mono (by omega))
 have c2:W2.cell? ⟨w.heap.size,0,none⟩=some (.slice a ms.length cap):=za ((b02.block w.heap.size (by omega)).trans hP0) rfl
 have hr2:=hRtH.out W2 ((hH.below bw2).mono bw2.size)
 clear hRtH hl1 hlg
 go_wp2_with fail
 refine hr2.mono ?_
 rintro e W3 ⟨rfl,b3⟩
 have z3:=b3.size
 have b03:=b02.trans (b3.mono (by omega))
 have bw3:=b0.trans (b03.mono (by omega))
 have hP3:=(b03.block w.heap.size (by omega)).trans hP0
 have hT3:yq W3 (.slice aT T.length cT) T:=(yq.of_owns hoT).below (b2.trans (b3.mono (by omega)))
 have hnT:Hid (aT=none->cT=0):=fun e=>by
  subst e
  rcases hoT.2 with ⟨e,_⟩ | ⟨g,cc,cur,e,_⟩
  ·simp only [Value.slice.injEq] at e;exact e.2.2
  ·simp at e
 have hf0: ¬((fz:Int)<0):=by omega
 have hf1: ¬((10:Int)<fz):=by omega
 have c3:W3.cell? ⟨w.heap.size,0,none⟩=some (.slice a ms.length cap):=za hP3 rfl
 clear hr2 c2 b1 b2 b3 b02 bw2 hoT hP0 b0
 go_wp2_with fail
 go_loopg [13,14,15,16,17] ms.length (fun g t13 t14 t15 t16 t17 wr=> ∃(k:Nat) (out:List ByteArray),g=ms.length-k/\k<=ms.length/\t15= .int .i64 ((applyK T fz ms k).1.en:Nat)/\t16= .int .i64 (applyK T fz ms k).1.mv/\t17= .int .i64 k/\wr.ownsRow W3.heap.size 9 1 t13 out.length (zz out)/\wr.ownsRow W3.heap.size 63 3 t14 k (zL (applyK T fz ms k).2)/\Hid (zy out=(applyK T fz ms k).1.t)/\Below W3.heap.size W3 wr)
 case atStart=>exact ⟨0,[],by omega,by omega,rfl,rfl,rfl,World.ownsRow_nil _ _ _ _,World.ownsRow_nil _ _ _ _,rfl,Below.refl _ _⟩
 case round=>
  obtain ⟨k,out,hgk,hkl,rfl,rfl,rfl,ho,hsm,htx,hbel⟩:=hrel
  have hG:Hid (gk=ms.length-k):=hgk
  clear hgk
  have hzr:=hbel.size
  have hbwr:=bw3.trans (hbel.mono (by omega))
  have p0:wr.cell? ⟨w.heap.size,0,none⟩=some (.slice a ms.length cap):=za ((hbel.block w.heap.size (by omega)).trans hP3) rfl
  have hTr:=hT3.of_heap (w':=wr) fun b cur fr hb=>(hbel.block b (Array.getElem?_eq_some_iff.1 hb).1).trans hb
  obtain ⟨a13,c13,rfl⟩:=zn ho
  obtain ⟨a14,c14,rfl⟩:=zn hsm
  have hSO:=hAH.out k hkl
  by_cases hk:k<ms.length
  ·have hkI:(k:Int)<ms.length:=by omega
   have hapk:=hapH.out k hk
   have hSO1:=(hAH.out (k+1) hk).1
   have hR:=hhH.out _ (List.getElem_mem hk)
   obtain ⟨b,off,a',c',rfl,hbB,q0,q1,q2,q3,q4,hst⟩:=hH.at (i:=k) (by rw [List.length_map];exact hk)
   have hcapk:=hcp b off cap rfl k hk a' _ c' q4
   simp only [List.getElem_map] at q0 q1 q2 q3 q4 hst hcapk
   have r0:=(hbwr.cell (p:=⟨b,off+k*5,none⟩) hbB).trans q0
   have r1:=(hbwr.cell (p:=⟨b,off+k*5+1,none⟩) hbB).trans q1
   have r2:=(hbwr.cell (p:=⟨b,off+k*5+2,none⟩) hbB).trans q2
   have r3:=(hbwr.cell (p:=⟨b,off+k*5+3,none⟩) hbB).trans q3
   have r4:=(hbwr.cell (p:=⟨b,off+k*5+4,none⟩) hbB).trans q4
   clear q0 q1 q2 q3 q4
   have hapH2:Hid (applyK T fz ms (k+1)=((xD T (applyK T fz ms k).1 ms[k] fz).1,(applyK T fz ms k).2++ [(xD T (applyK T fz ms k).1 ms[k] fz).2])):=hapk
   rw [hapk] at hSO1
   have hSO1H:Hid (V.Pa T (xD T (applyK T fz ms k).1 ms[k] fz).1 (k+1)):=hSO1
   clear hapk hSO1
   generalize ms[k]=h at *
   generalize applyK T fz ms k=AK at *
   obtain ⟨⟨st,en,mv⟩,sm⟩:=AK
   obtain ⟨⟨hen,hmv,hstl⟩,hsml⟩:=hSO
   simp only at hen hmv hstl hsml hsm htx
   obtain ⟨fr,fc,tr,tc,L⟩:=h
   simp only [HI.ofM] at r0 r1 r2 r3 r4 hst hcapk
   have hok:=hR.ok
   have hch:=hR.chg
   simp only at hch
   have hLl:=hok.len
   have hfr:=hok.fr
   have hfc:=hok.fc
   simp only at hLl hfr hfc
   obtain ⟨bb,off2,rfl⟩: ∃bb off2,a'=some ⟨bb,off2,none⟩:=by
    rcases hst with ⟨e,_⟩ | ⟨bb,off2,_,e,_⟩
    ·subst e;simp [Go.Proofs.YtcclgodahlinbaaGreatDoor.chg] at hch
    ·cases e;exact ⟨bb,off2,rfl⟩
   have hwW3:w.heap.size<=W3.heap.size:=by omega
   have hstl2:st.length<=1500000000000:=by omega
   have holl:out.length<=1500000000000:=by have:=Xh out;rw [htx.out] at this;omega
   clear hH hcp hhH hAH hapH hLimH hx b03 hP3 c3 hTr bw3 hSO1H hR hok z0 z1 z2 z3 hf0 hf1 hstl
   obtain ⟨HC,hHC⟩: ∃HC:Array Value,#[.int .i64 (fr:Int),.int .i64 (fc:Int),.int .i64 (tr:Int),.int .i64 (tc:Int),.slice (some ⟨bb,off2,none⟩) L.length c']=HC:=⟨_,rfl⟩
   have hI0:Zf W3.heap.size wr.heap.size wr (Value.slice a13 out.length c13).ownBlock HC false 0 0 (.slice a13 out.length c13) out ((wr.alloc (.cells #[.int .i64 (fr:Int),.int .i64 (fc:Int),.int .i64 (tr:Int),.int .i64 (tc:Int),.slice (some ⟨bb,off2,none⟩) L.length c'] 61)).alloc (.cells #[.bool false,.int .i64 0,.int .i64 0] 63)):=by
    obtain ⟨y1,y2,y3,y4⟩:=Us wr (.cells #[.int .i64 (fr:Int),.int .i64 (fc:Int),.int .i64 (tr:Int),.int .i64 (tc:Int),.slice (some ⟨bb,off2,none⟩) L.length c'] 61) (.cells #[.bool false,.int .i64 0,.int .i64 0] 63)
    exact ⟨rfl,XI y2,by rw [<-hHC];exact y3,y4,zR ho y2 (fun g e=>(ho.lt g e).2),.inl rfl⟩
   have hc4:HC[4]? =some (.slice (some ⟨bb,off2,none⟩) L.length c'):=by rw [<-hHC];rfl
   have hc0:HC[0]? =some (.int .i64 (fr:Int)):=by rw [<-hHC];rfl
   have hc1:HC[1]? =some (.int .i64 (fc:Int)):=by rw [<-hHC];rfl
   have hv0:Hid ((∀g,(Value.slice a13 out.length c13).ownBlock=some g->W3.heap.size<=g)/\ ∀g,(Value.slice a13 out.length c13).ownBlock=some g-> ∃c,wr.heap[g]? =some (.cells c 9 (0,0))):=⟨fun g e=>(ho.lt g e).1,fun g e=>ze ho e⟩
   have hF0:Hid (xm T ⟨st,en,mv⟩ ⟨fr,fc,tr,tc,L⟩ fz 0 (fz+1) false 0 0 out out en):=xm.start T ⟨st,en,mv⟩ _ fz out
   clear hHC
   go_wp2_with fail
   generalize ((wr.alloc (.cells #[.int .i64 (fr:Int),.int .i64 (fc:Int),.int .i64 (tr:Int),.int .i64 (tc:Int),.slice (some ⟨bb,off2,none⟩) L.length c'] 61)).alloc (.cells #[.bool false,.int .i64 0,.int .i64 0] 63))=W5 at *
   clear r0 r1 r2 r3 r4
   generalize hV0:(Value.slice a13 out.length c13).ownBlock=V0 at *
   clear hV0
   go_loopg [13,15,20] (fz+1) (fun g t13 t15 t20 wi=> ∃(f en':Nat) (v:Value) (out':List ByteArray) (sb:Bool) (sx sf:Int),v=t13/\t15= .int .i64 (en':Nat)/\t20= .int .i64 f/\f<=fz+1/\Zf W3.heap.size wr.heap.size wr V0 HC sb sx sf v out' wi/\Hid (xm T ⟨st,en,mv⟩ ⟨fr,fc,tr,tc,L⟩ fz f g sb sx sf out out' en'))
   case atStart=>exact ⟨0,en,_,out,false,0,0,rfl,rfl,rfl,by omega,hI0,hF0⟩
   case round=>
    rename World=>wi
    obtain ⟨f,en',v,out',sb,sx,sf,rfl,rfl,rfl,hfl,hI,hFS⟩:=hrel
    clear hI0 hF0
    have hlo:=hI.low hzr hv0.out.1
    have hbwi:=hbwr.trans (hlo.mono (by omega))
    have hS0:wi.cell? ⟨wr.heap.size+1,0,none⟩=some (.bool sb):=za hI.S rfl
    cases sb with
    | true=>
      obtain ⟨gx,rfl,m1,m2,m3,m4⟩:=hFS.out.some
      have hS1:wi.cell? ⟨wr.heap.size+1,1,none⟩=some (.int .i64 sx):=za hI.S rfl
      have hS2:wi.cell? ⟨wr.heap.size+1,2,none⟩=some (.int .i64 (gx:Int)):=za hI.S rfl
      have hsmi:=hI.other hv0.out.2 hsm
      have hzi:=hI.gr.size
      have hzi3:W3.heap.size<=wi.heap.size:=by omega
      have hone3: ∀u∈ [Value.bool true,.int .i64 sx,.int .i64 (gx:Int)],u.oneCell'=true:=by intro u hu;simp at hu;rcases hu with rfl | rfl | rfl<;>rfl
      have hMH:Hid ((xD T ⟨st,en,mv⟩ ⟨fr,fc,tr,tc,L⟩ fz).2=⟨true,sx,gx⟩/\(xD T ⟨st,en,mv⟩ ⟨fr,fc,tr,tc,L⟩ fz).1.mv=sx/\zy out'=(xD T ⟨st,en,mv⟩ ⟨fr,fc,tr,tc,L⟩ fz).1.t/\en'=(xD T ⟨st,en,mv⟩ ⟨fr,fc,tr,tc,L⟩ fz).1.en):=⟨m1,m2,m3,m4⟩
      clear hFS m1 m2 m3 m4 hst hcapk hch hLl
      by_cases hff:f<=fz
      all_goals
       first
        | have hfI:(f:Int)<=fz:=by omega
        | have hfI: ¬(f:Int)<=fz:=by omega
       go_wp2_with (at_builtin;go_loud (
        refine zm rfl (.tmp 168) (.tmp 170) 37 rfl W3.heap.size 63 j0 _ 3 24 underlying37 ji jz0 jz1 jz2 rfl (by decide) (.slice a14 k c14) k (zL sm) rfl (hsmi.alloc _) ⟨wi.heap.size,0,none⟩ 1 1 [.bool true,.int .i64 sx,.int .i64 (gx:Int)] rfl rfl (zt wi [.bool true,.int .i64 sx,.int .i64 (gx:Int)] 63) hone3 (by unfold maxLen;omega) (by omega) (by rw [World.size_alloc];omega) ?_
        intro v6 w6 hown6 hgr6 _
        have ho6:w6.ownsRow W3.heap.size 9 1 v out'.length (zz out'):=zu (hI.o.alloc _) fun g hg=>hgr6.block g ((hI.o.alloc _).lt g hg).2 fun e=>by
         obtain ⟨x1,hx1⟩:=ze hsmi e.symm
         obtain ⟨x2,hx2⟩:=ze hI.o hg
         exact zq hx1 hx2 (by decide) rfl
        have hb6:=((hbel.trans hlo).alloc hzi3 _).grown hgr6 (by rw [World.size_alloc];omega) (fun g e=>(hsmi.lt g e).1)
        clear hgr6))
       go_roundg (ms.length-(k+1))
       ·refine ⟨k+1,out',rfl,by omega,?_,?_,by push_cast;rfl,ho6,?_,?_,hb6⟩
        ·rw [hapH2.out,hMH.out.2.2.2]
        ·rw [hapH2.out];simp only;rw [hMH.out.2.1]
        ·rw [hapH2.out,hMH.out.1];simp only;rw [qF];exact hown6
        ·show _=_;rw [hapH2.out];exact hMH.out.2.2.1
       ·have:=hG.out;omega
    | false=>
    by_cases hff:f<=fz
    ·have hfI:(f:Int)<=fz:=by omega
     obtain ⟨hgm,rfl,rfl,rfl,rfl⟩:=hFS.out.meas
     have hGf:Hid (_=fz+1-f):=hgm
     clear hgm
     have hH4:wi.cell? ⟨wr.heap.size,4,none⟩=some (.slice (some ⟨bb,off2,none⟩) L.length c'):=za hI.H (by simpa using hc4)
     have htr:=WU (f:=f) (hst.below hbwi) hcapk hch (by omega) (by omega)
     have htl:Hid ((jm L f).length<=L.length):=by
      show _<=_
      unfold jm
      rw [List.length_take,List.length_drop]
      omega
     have hsub:Hid (∀W,Below w.heap.size w W->yk w.heap.size W (.slice (some ⟨bb,off2+min f (zr L L.length).1*2,none⟩) (jm L f).length (c'-min f (zr L L.length).1)) (jm L f)):=fun W hb=>(hst.below hb).sub _ _
     have hP0:Hid (yc T ⟨st,en',mv⟩ ⟨fr,fc,tr,tc,L⟩ f 0 (2*T.length+1) false 0 0 out' out' en'):=yc.start T ⟨st,en',mv⟩ _ f out'
     have hpt:Hid (pieceO L f=Dn.YK (jm L f)):=(Jd f hch).1
     go_wp2_with fail
     refine htr.mono ?_
     rintro e wj ⟨rfl,hwj⟩
     subst hwj
     clear htr
     obtain ⟨n,hn⟩: ∃n,min f (zr L L.length).1=n:=⟨_,rfl⟩
     have hnf:n<=f:=by omega
     rw [hn] at hsub ⊢
     have hnH:Hid (min f (zr L L.length).1=n):=hn
     obtain ⟨tl,htle⟩: ∃tl,jm L f=tl:=⟨_,rfl⟩
     rw [htle] at htl hsub hpt ⊢
     have htlH:Hid (jm L f=tl):=htle
     clear hn htle hH4 hS0
     go_wp2_with fail
     go_loopg [13,15,23] (2*T.length+1) (fun g t13 t15 t23 wq=> ∃(k3 en2:Nat) (v2:Value) (out2:List ByteArray) (sb:Bool) (sx sf:Int),v2=t13/\t15= .int .i64 (en2:Nat)/\t23= .int .i64 k3/\k3<=2*T.length+1/\Zf W3.heap.size wr.heap.size wr V0 HC sb sx sf v2 out2 wq/\Hid (yc T ⟨st,en',mv⟩ ⟨fr,fc,tr,tc,L⟩ f k3 g sb sx sf out' out2 en2))
     case atStart=>exact ⟨0,en',_,out',false,0,0,rfl,rfl,rfl,by omega,hI,hP0⟩
     case round=>
      rename World=>wq
      obtain ⟨k3,en2,v2,out2,sb,sx,sf,rfl,rfl,rfl,hk3l,hQ,hPS⟩:=hrel
      clear hP0 hlo hbwi hI
      have hlo:=hQ.low hzr hv0.out.1
      have hbwq:=hbwr.trans (hlo.mono (by omega))
      have hS0:wq.cell? ⟨wr.heap.size+1,0,none⟩=some (.bool sb):=za hQ.S rfl
      cases sb with
      | true=>
        have hFy:Hid (xm T ⟨st,en',mv⟩ ⟨fr,fc,tr,tc,L⟩ fz (f+1) 0 true sx sf out' out2 en2):=hFS.out.yes hff hPS.out.some
        clear hFS hPS
        by_cases hk3:k3<=2*T.length
        all_goals
         first
          | have hk3I:(k3:Int)<=2*T.length:=by omega
          | have hk3I: ¬(k3:Int)<=2*T.length:=by omega
         go_wp2_with fail
         go_roundg 0
         ·exact ⟨f+1,en2,v2,out2,true,sx,sf,rfl,rfl,by push_cast;rfl,by omega,hQ,hFy⟩
         ·have:=hGf.out;omega
      | false=>
      obtain ⟨hgm,rfl,rfl,rfl,rfl⟩:=hPS.out.meas
      have hGq:Hid (_=2*T.length+1-k3):=hgm
      clear hgm
      by_cases hk3:k3<=2*T.length
      ·have hk3I:(k3:Int)<=2*T.length:=by omega
       have hH0:wq.cell? ⟨wr.heap.size,0,none⟩=some (.int .i64 (fr:Int)):=za hQ.H (by simpa using hc0)
       have hH1:wq.cell? ⟨wr.heap.size,1,none⟩=some (.int .i64 (fc:Int)):=za hQ.H (by simpa using hc1)
       have hpl:=qw (fr:Int) (fc:Int) wq (by omega) (by omega)
       rw [FD hfc] at hpl
       have hplB:placeM fr fc<=100000:=by unfold placeM;split<;>omega
       have hno:Hid (∀A:Int,A=((placeM fr fc:Nat):Int)+mv+dOf k3+n->standM T en2 (Dn.YK tl) A=false->yc T ⟨st,en2,mv⟩ ⟨fr,fc,tr,tc,L⟩ f (k3+1) (2*T.length+1-(k3+1)) false 0 0 out2 out2 en2):=fun A hA h=>hPS.out.no (by
        show standM T en2 (pieceO L f) (((placeM fr fc:Nat):Int)+mv+dOf k3+(min f (zr L L.length).1:Nat))=false
        rw [hnH.out,hpt.out,<-hA]
        exact h)
       have hys:Hid (∀at0:Nat,((placeM fr fc:Nat):Int)+mv+dOf k3+n=(at0:Nat)->standM T en2 (Dn.YK tl) (at0:Int)=true->yc T ⟨st,en2,mv⟩ ⟨fr,fc,tr,tc,L⟩ f (k3+1) 0 true (mv+dOf k3) (f:Nat) out2 (out2++(T.drop en2).take (at0-en2)++Dn.Yx tl) (at0+(Dn.YK tl).length)):=fun at0 hA h=>by
        have:=hPS.out.yes (at0:=at0) hk3 hch htx.out (by
         show ((placeM fr fc:Nat):Int)+mv+dOf k3+(min f (zr L L.length).1:Nat)=(at0:Nat)
         rw [hnH.out];exact hA) (by
         show standM T en2 (pieceO L f) (at0:Int)=true
         rw [hpt.out];exact h)
        simp only [htlH.out] at this
        exact this
       generalize placeM fr fc=PL at *
       have hhalf:=DT k3
       have hrem:=Pq k3
       have hTq:yq wq (.slice aT T.length cT) T:=hT3.below (hbel.trans hlo)
       by_cases hpar:k3 % 2=0
       case' pos=>
        have hd0:(k3:Int).tmod 2=0:=by rw [hrem,hpar];rfl
        obtain ⟨D,hD⟩: ∃D:Nat,(k3+1) / 2=D:=⟨_,rfl⟩
        rw [hD] at hhalf
        have hdO:Hid (dOf k3= -(D:Int)):=by show _=_;unfold dOf;rw [if_pos hpar,hD]
        have hDl:D<=2000:=by omega
        clear hrem hpar hD hPS
        go_wp2_with fail
        have hEl: -2000<= -(D:Int)/\ -(D:Int)<=2000:=by omega
        generalize -(D:Int)=E at *
       case' neg=>
        have hd0:(k3:Int).tmod 2=1:=by rw [hrem,show k3 % 2=1 by omega];rfl
        obtain ⟨D,hD⟩: ∃D:Nat,(k3+1) / 2=D:=⟨_,rfl⟩
        rw [hD] at hhalf
        have hdO:Hid (dOf k3=(D:Int)):=by show _=_;unfold dOf;rw [if_neg hpar,hD]
        have hDl:D<=2000:=by omega
        clear hrem hpar hD hPS
        go_wp2_with fail
        have hEl: -2000<=(D:Int)/\(D:Int)<=2000:=by omega
        generalize (D:Int)=E at *
       all_goals
        have hno2:=hno.out
        have hys2:=hys.out
        rw [hdO.out] at hno2 hys2
        have hnoH:Hid (∀A:Int,A=(PL:Int)+mv+E+n->standM T en2 (Dn.YK tl) A=false->yc T ⟨st,en2,mv⟩ ⟨fr,fc,tr,tc,L⟩ f (k3+1) (2*T.length+1-(k3+1)) false 0 0 out2 out2 en2):=hno2
        have hysH:Hid (∀at0:Nat,(PL:Int)+mv+E+n=(at0:Nat)->standM T en2 (Dn.YK tl) (at0:Int)=true->yc T ⟨st,en2,mv⟩ ⟨fr,fc,tr,tc,L⟩ f (k3+1) 0 true (mv+E) (f:Nat) out2 (out2++(T.drop en2).take (at0-en2)++Dn.Yx tl) (at0+(Dn.YK tl).length)):=hys2
        clear hno2 hys2 hdO hno hys
        refine hpl.mono ?_
        rintro e wz ⟨rfl,hwz⟩
        subst hwz
        clear hpl hH0 hH1 hhalf hd0
        by_cases g1:(PL:Int)+mv+E+n<(en2:Int)
        ·have hN:Hid (yc T ⟨st,en2,mv⟩ ⟨fr,fc,tr,tc,L⟩ f (k3+1) (2*T.length+1-(k3+1)) false 0 0 out2 out2 en2):=hnoH.out _ rfl (by unfold standM;rw [decide_eq_false_iff_not];omega)
         clear hnoH hysH
         go_wp2_with fail
         go_roundg (2*T.length+1-(k3+1))
         ·exact ⟨k3+1,en2,v2,out2,false,0,0,rfl,rfl,by push_cast;rfl,by omega,hQ,hN⟩
         ·have:=hGq.out;omega
        by_cases g2:(T.length:Int)<(PL:Int)+mv+E+n
        ·have hN:Hid (yc T ⟨st,en2,mv⟩ ⟨fr,fc,tr,tc,L⟩ f (k3+1) (2*T.length+1-(k3+1)) false 0 0 out2 out2 en2):=hnoH.out _ rfl (by unfold standM;rw [decide_eq_false_iff_not];omega)
         clear hnoH hysH
         go_wp2_with fail
         go_roundg (2*T.length+1-(k3+1))
         ·exact ⟨k3+1,en2,v2,out2,false,0,0,rfl,rfl,by push_cast;rfl,by omega,hQ,hN⟩
         ·have:=hGq.out;omega
        obtain ⟨at0,hat⟩: ∃at0:Nat,(PL:Int)+mv+E+n=(at0:Nat):=⟨((PL:Int)+mv+E+n).toNat,by omega⟩
        have hatl:en2<=at0/\at0<=T.length:=by omega
        have hsd:=UW (en:=en2) (at0:=at0) hTq ((hsub.out wq hbwq).mono hbwq.size) (by omega) (by have:=htl.out;omega) hatl.1 hatl.2
        have hN:Hid (standM T en2 (Dn.YK tl) (at0:Int)=false->yc T ⟨st,en2,mv⟩ ⟨fr,fc,tr,tc,L⟩ f (k3+1) (2*T.length+1-(k3+1)) false 0 0 out2 out2 en2):=hnoH.out _ hat.symm
        have hY:Hid (standM T en2 (Dn.YK tl) (at0:Int)=true->yc T ⟨st,en2,mv⟩ ⟨fr,fc,tr,tc,L⟩ f (k3+1) 0 true (mv+E) (f:Nat) out2 (out2++(T.drop en2).take (at0-en2)++Dn.Yx tl) (at0+(Dn.YK tl).length)):=hysH.out at0 hat
        clear hnoH hysH
        generalize standM T en2 (Dn.YK tl) (at0:Int)=r at *
        go_wp2_with fail
        clear hat g1 g2
        refine hsd.mono ?_
        rintro e wz ⟨rfl,bz⟩
        have hQz:=hQ.below bz
        clear hsd hQ hS0 hTq hbwq hlo bz
        cases r with
        | false=>
          have hN2:Hid (yc T ⟨st,en2,mv⟩ ⟨fr,fc,tr,tc,L⟩ f (k3+1) (2*T.length+1-(k3+1)) false 0 0 out2 out2 en2):=hN.out rfl
          clear hN hY
          go_wp2_with fail
          go_roundg (2*T.length+1-(k3+1))
          ·exact ⟨k3+1,en2,v2,out2,false,0,0,rfl,rfl,by push_cast;rfl,by omega,hQz,hN2⟩
          ·have:=hGq.out;omega
        | true=>
          have hY2:Hid (yc T ⟨st,en2,mv⟩ ⟨fr,fc,tr,tc,L⟩ f (k3+1) 0 true (mv+E) (f:Nat) out2 (out2++(T.drop en2).take (at0-en2)++Dn.Yx tl) (at0+(Dn.YK tl).length)):=hY.out rfl
          clear hN hY
          have hone3: ∀u∈ [Value.bool true,.int .i64 (mv+E),.int .i64 (f:Int)],u.oneCell'=true:=by intro u hu;simp at hu;rcases hu with rfl | rfl | rfl<;>rfl
          obtain ⟨VS,hVS⟩: ∃V,sliced aT en2 at0 cT 1=V:=⟨_,rfl⟩
          have hcTl:T.length<=cT:=by obtain ⟨_,_,e,h⟩:=hT3.slice;cases e;exact h
          have hrun:=fun w=>Vp (a:=aT) (n:=T.length) (c:=cT) hatl.1 (Nat.le_trans hatl.2 hcTl) hVS w
          have hVn:Hid (∀m c,VS= .slice none m c->c=0):=by
           show ∀m c,_
           intro m c e
           rw [<-hVS] at e
           unfold sliced at e
           cases aT with
           | none=>
             have:=hnT.out rfl
             simp at e
             omega
           | some ad=>simp at e;split at e<;>simp at e
          have hRl:((T.drop en2).take (at0-en2)).length=at0-en2:=by rw [List.length_take,List.length_drop];omega
          have hRow:Hid (∀W,Below W3.heap.size W3 W->yq W VS ((T.drop en2).take (at0-en2))):=fun W hb=>by rw [<-hVS];exact (hT3.below hb).sub hatl.1 hatl.2
          have hVSH:Hid (sliced aT en2 at0 cT 1=VS):=hVS
          obtain ⟨R,hR⟩: ∃R,(T.drop en2).take (at0-en2)=R:=⟨_,rfl⟩
          rw [hR] at hRl hRow hY2
          clear hVS hR
          have hRle:R.length<=201:=by omega
          have hRlH:Hid (R.length=at0-en2):=hRl
          clear hRl
          have hSz:wz.heap[wr.heap.size+1]? =some (.cells ([]++([Value.bool false,.int .i64 0,.int .i64 0]++ [])).toArray 63 (0,0)):=hQz.S
          go_wp2_with (first
           | (refine yj rfl 63 (.tmp 19) (.tmp 128) rfl (wr.heap.size+1) 0 ?_ [.bool true,.int .i64 (mv+E),.int .i64 (f:Int)] [] [.bool false,.int .i64 0,.int .i64 0] [] ?_ Ej 63 hSz rfl rfl hone3 ?_
              go_loud (rfl)
              go_loud (rfl)
              intro w1 q1 z1 o1 u1
              have hQ1:=hQz.seam (sb':=true) (sx':=mv+E) (sf':=(f:Int)) q1 z1 o1 u1
              have hRS:=hRow.out w1 (hbel.trans (hQ1.low hzr hv0.out.1))
              have hz1w:=hQ1.gr.size
              clear z1 o1 u1 q1 hSz hQz)
           | (at_builtin;go_loud (
              refine jz rfl (.tmp 129) (.tmp 133) rfl W3.heap.size v2 out2.length (zz out2) rfl hQ1.o VS R rfl hRS hVn.out (by omega) (by omega) ?_
              intro v3 w2 hown2 hgr2 hnew2
              have hQ2:=hQ1.put (Below.refl _ w1) rfl hown2 hgr2 hnew2
              clear hown2 hgr2 hnew2 hRS hQ1)))
          clear hrun
          go_loopg [13,25,27] tl.length (fun g t13 t25 t27 wp=> ∃(j:Nat) (v4:Value),g=tl.length-j/\j<=tl.length/\v4=t13/\t25= .int .i64 ((at0+(Dn.YK (tl.take j)).length:Nat):Int)/\t27= .int .i64 j/\Zf W3.heap.size wr.heap.size wr V0 HC true (mv+E) (f:Int) v4 (out2++R++Dn.Yx (tl.take j)) wp)
          case atStart=>exact ⟨0,v3,by omega,by omega,rfl,rfl,rfl,by simpa [Dn.Yx] using hQ2⟩
          case round=>
           rename World=>wp
           obtain ⟨j,v4,hgj,hjl,rfl,rfl,rfl,hQp⟩:=hrel
           have hGj:Hid (_=tl.length-j):=hgj
           clear hgj hQ2
           have hlop:=hQp.low hzr hv0.out.1
           have hbwp:=hbwr.trans (hlop.mono (by omega))
           have hszp:=hQp.gr.size
           by_cases hj:j<tl.length
           ·have hjI:(j:Int)<tl.length:=by omega
            obtain ⟨bb2,off3,he,hbB2,s0,s1⟩:=(hsub.out wp hbwp).at hj
            cases he
            have hon:=Ye tl j hj
            have hoo:=qG tl j hj
            have hnl:=Zt (tl.take j)
            have hol:=ZB (tl.take j)
            have htk:=List.length_take_le' j tl
            have htll:=htl.out
            have hNl:(out2++R++Dn.Yx (tl.take j)).length<=1600000000000:=by rw [List.length_append,List.length_append];omega
            have hjb:j<=1048576:=by omega
            have hcb:(Dn.YK (tl.take j)).length<=1048576:=by omega
            have hat2:at0<=201:=by omega
            by_cases k45:tl[j].kind=45
            ·have k43: ¬tl[j].kind=43:=by omega
             rw [if_pos k45] at hon
             rw [if_neg k43] at hoo
             rw [k45] at s0
             have honH:Hid (Dn.Yx (tl.take (j+1))=Dn.Yx (tl.take j)):=by show _=_;rw [hon];simp
             have hooH:Hid ((Dn.YK (tl.take (j+1))).length=(Dn.YK (tl.take j)).length+1):=by show _=_;rw [hoo];simp
             clear hon hoo k45 k43 hnl htk htll hNl
             generalize (Dn.YK (tl.take j)).length=c at *
             go_wp2_with fail
             go_roundg (tl.length-(j+1))
             ·exact ⟨j+1,v4,rfl,by omega,rfl,by rw [hooH.out];congr 1,by push_cast;rfl,by rw [honH.out];exact hQp⟩
             ·have:=hGj.out;omega
            ·have k45B:((tl[j].kind:Int)==45)=false:=by rw [beq_eq_false_iff_ne];omega
             rw [if_neg k45] at hon
             have hone1: ∀u∈ [Value.string tl[j].text],u.oneCell'=true:=by intro u hu;simp at hu;subst hu;rfl
             have honH:Hid (Dn.Yx (tl.take (j+1))=Dn.Yx (tl.take j)++ [tl[j].text]):=hon
             by_cases k43:tl[j].kind=43
             ·rw [if_pos k43] at hoo
              have hkH:Hid (tl[j].kind=43):=k43
              rw [k43] at s0
              have hooH:Hid ((Dn.YK (tl.take (j+1))).length=(Dn.YK (tl.take j)).length):=by show _=_;rw [hoo];simp
              clear hon hoo k45 k45B k43 hnl htk htll
              generalize (Dn.YK (tl.take j)).length=c at *
              generalize tl[j].text=tx at *
              obtain ⟨OUT,hOUT⟩: ∃O,out2++R++Dn.Yx (tl.take j)=O:=⟨_,rfl⟩
              rw [hOUT] at hQp hNl
              have hOUTH:Hid (out2++R++Dn.Yx (tl.take j)=OUT):=hOUT
              clear hOUT
              go_wp2_with (at_builtin;go_loud (
               refine zm rfl (.tmp 147) (.tmp 153) 27 rfl W3.heap.size 9 i0 _ 1 16 underlying27 hi hz0 hz1 hz2 rfl (by decide) v4 OUT.length (zz OUT) rfl (hQp.o.alloc _) ⟨wp.heap.size,0,none⟩ 1 1 [.string tx] rfl rfl (zt wp [.string tx] 9) hone1 (by unfold maxLen;omega) (by omega) (by rw [World.size_alloc];omega) ?_
               intro v5 w5 hown5 hgr5 hnew5
               have hQ5:=hQp.put (L:= [tx]) ((Below.refl _ _).alloc (Nat.le_refl _) _) rfl hown5 hgr5 hnew5
               have y0:w5.cell? ⟨bb,off2+n*2+j*2,none⟩=some (.int .u8 43):=by
                have hl5:=hbwr.trans ((hQ5.low hzr hv0.out.1).mono (by omega))
                obtain ⟨bb3,off4,he3,_,u0,_⟩:=(hsub.out w5 hl5).at hj
                cases he3
                rw [u0,hkH.out]
                rfl
               clear hown5 hgr5 hnew5))
              go_roundg (tl.length-(j+1))
              ·exact ⟨j+1,v5,rfl,by omega,rfl,by rw [hooH.out];push_cast;rfl,by push_cast;rfl,by rw [honH.out,<-List.append_assoc,hOUTH.out];exact hQ5⟩
              ·have:=hGj.out;omega
             ·rw [if_neg k43] at hoo
              have k43B:((tl[j].kind:Int)==43)=false:=by rw [beq_eq_false_iff_ne];omega
              have hooH:Hid ((Dn.YK (tl.take (j+1))).length=(Dn.YK (tl.take j)).length+1):=by show _=_;rw [hoo];simp
              clear hon hoo k45 k43 hnl htk htll
              generalize (Dn.YK (tl.take j)).length=c at *
              generalize tl[j].text=tx at *
              obtain ⟨KD,hKD⟩: ∃KD,tl[j].kind=KD:=⟨_,rfl⟩
              rw [hKD] at s0 k45B k43B
              have hkH:Hid (tl[j].kind=KD):=hKD
              clear hKD
              obtain ⟨OUT,hOUT⟩: ∃O,out2++R++Dn.Yx (tl.take j)=O:=⟨_,rfl⟩
              rw [hOUT] at hQp hNl
              have hOUTH:Hid (out2++R++Dn.Yx (tl.take j)=OUT):=hOUT
              clear hOUT
              go_wp2_with (at_builtin;go_loud (
               refine zm rfl (.tmp 147) (.tmp 153) 27 rfl W3.heap.size 9 i0 _ 1 16 underlying27 hi hz0 hz1 hz2 rfl (by decide) v4 OUT.length (zz OUT) rfl (hQp.o.alloc _) ⟨wp.heap.size,0,none⟩ 1 1 [.string tx] rfl rfl (zt wp [.string tx] 9) hone1 (by unfold maxLen;omega) (by omega) (by rw [World.size_alloc];omega) ?_
               intro v5 w5 hown5 hgr5 hnew5
               have hQ5:=hQp.put (L:= [tx]) ((Below.refl _ _).alloc (Nat.le_refl _) _) rfl hown5 hgr5 hnew5
               have y0:w5.cell? ⟨bb,off2+n*2+j*2,none⟩=some (.int .u8 (KD:Nat)):=by
                have hl5:=hbwr.trans ((hQ5.low hzr hv0.out.1).mono (by omega))
                obtain ⟨bb3,off4,he3,_,u0,_⟩:=(hsub.out w5 hl5).at hj
                cases he3
                rw [u0,hkH.out]
               clear hown5 hgr5 hnew5))
              go_roundg (tl.length-(j+1))
              ·exact ⟨j+1,v5,rfl,by omega,rfl,by rw [hooH.out];congr 1,by push_cast;rfl,by rw [honH.out,<-List.append_assoc,hOUTH.out];exact hQ5⟩
              ·have:=hGj.out;omega
           ·have hjI: ¬((j:Int)<tl.length):=by omega
            obtain rfl:j=tl.length:=by omega
            rw [List.take_length] at hQp ⊢
            go_wp2_with fail
            go_roundg 0
            ·exact ⟨k3+1,at0+(Dn.YK tl).length,v4,out2++R++Dn.Yx tl,true,mv+E,(f:Int),rfl,rfl,by push_cast;rfl,by omega,hQp,hY2⟩
            ·have:=hGq.out;omega
      ·have hFn:Hid (xm T ⟨st,en2,mv⟩ ⟨fr,fc,tr,tc,L⟩ fz (f+1) (fz+1-(f+1)) false 0 0 out2 out2 en2):=hFS.out.no hff (hPS.out.none (by omega)).1
       have hk3I: ¬(k3:Int)<=2*T.length:=by omega
       clear hFS hPS
       go_wp2_with fail
       go_roundg (fz+1-(f+1))
       ·exact ⟨f+1,en2,v2,out2,false,0,0,rfl,rfl,by push_cast;rfl,by omega,hQ,hFn⟩
       ·have:=hGf.out;omega
    ·obtain ⟨m1,rfl,rfl⟩:=hFS.out.none (by omega)
     obtain ⟨_,_,_,rfl,rfl⟩:=hFS.out.meas
     have hS1:wi.cell? ⟨wr.heap.size+1,1,none⟩=some (.int .i64 0):=za hI.S rfl
     have hS2:wi.cell? ⟨wr.heap.size+1,2,none⟩=some (.int .i64 0):=za hI.S rfl
     have hsmi:=hI.other hv0.out.2 hsm
     have hzi:=hI.gr.size
     have hzi3:W3.heap.size<=wi.heap.size:=by omega
     have hone3: ∀u∈ [Value.bool false,.int .i64 0,.int .i64 0],u.oneCell'=true:=by intro u hu;simp at hu;rcases hu with rfl | rfl<;>rfl
     have hMH:Hid (xD T ⟨st,en',mv⟩ ⟨fr,fc,tr,tc,L⟩ fz=(⟨st,en',mv⟩,⟨false,0,0⟩)):=m1
     have hfI: ¬(f:Int)<=fz:=by omega
     clear hFS m1 hst hcapk hch hLl
     go_wp2_with (at_builtin;go_loud (
      refine zm rfl (.tmp 168) (.tmp 170) 37 rfl W3.heap.size 63 j0 _ 3 24 underlying37 ji jz0 jz1 jz2 rfl (by decide) (.slice a14 k c14) k (zL sm) rfl (hsmi.alloc _) ⟨wi.heap.size,0,none⟩ 1 1 [.bool false,.int .i64 0,.int .i64 0] rfl rfl (zt wi [.bool false,.int .i64 0,.int .i64 0] 63) hone3 (by unfold maxLen;omega) (by omega) (by rw [World.size_alloc];omega) ?_
      intro v6 w6 hown6 hgr6 _
      have ho6:w6.ownsRow W3.heap.size 9 1 v out'.length (zz out'):=zu (hI.o.alloc _) fun g hg=>hgr6.block g ((hI.o.alloc _).lt g hg).2 fun e=>by
       obtain ⟨x1,hx1⟩:=ze hsmi e.symm
       obtain ⟨x2,hx2⟩:=ze hI.o hg
       exact zq hx1 hx2 (by decide) rfl
      have hb6:=((hbel.trans hlo).alloc hzi3 _).grown hgr6 (by rw [World.size_alloc];omega) (fun g e=>(hsmi.lt g e).1)
      clear hgr6))
     go_roundg (ms.length-(k+1))
     ·refine ⟨k+1,out',rfl,by omega,?_,?_,by push_cast;rfl,ho6,?_,?_,hb6⟩
      ·rw [hapH2.out,hMH.out]
      ·rw [hapH2.out,hMH.out]
      ·rw [hapH2.out,hMH.out];simp only;rw [qF];exact hown6
      ·show _=_;rw [hapH2.out,hMH.out];exact htx.out
     ·have:=hG.out;omega
  ·obtain rfl:k=ms.length:=by omega
   have hkI: ¬((ms.length:Int)<ms.length):=by omega
   obtain ⟨⟨hen,hmv,hstl⟩,hsml⟩:=hSO
   have hR1:Hid (RT=⟨(zy out++zy (T.drop (applyK T fz ms ms.length).1.en)).toArray⟩/\RS=(applyK T fz ms ms.length).2):=by rw [htx.out];exact hfinT.out
   generalize applyK T fz ms ms.length=AK at *
   obtain ⟨⟨st,en,mv⟩,sm⟩:=AK
   simp only at hen hmv hstl hsml hsm htx hR1
   have hol:out.length<=1500000000000:=by have:=Xh out;rw [htx.out] at this;omega
   have hot:(zy out).length<=1500000000000:=by rw [htx.out];omega
   obtain ⟨VS,hVS⟩: ∃V,sliced aT en T.length cT 1=V:=⟨_,rfl⟩
   have hrun: ∀w,(Instr.slice 27 (.slice aT T.length cT) (some (.int .i64 (en:Int))) none none).run prog w= .ok VS w:=fun w=>by rw [JE hen w,hVS]
   have hVn:Hid (∀m c,VS= .slice none m c->c=0):=by
    show ∀m c,_
    intro m c e
    rw [<-hVS] at e
    unfold sliced at e
    cases aT with
    | none=>
      have:=hnT.out rfl
      simp at e
      omega
    | some ad=>simp at e;split at e<;>simp at e
   have hRS:yq wr VS (T.drop en):=by
    have h1:=(hT3.below hbel).sub hen (Nat.le_refl T.length)
    rw [hVS] at h1
    have e:(T.drop en).take (T.length-en)=T.drop en:=List.take_of_length_le (by rw [List.length_drop];omega)
    rw [e] at h1
    exact h1
   have hRle:(T.drop en).length<=201:=by rw [List.length_drop];omega
   have hRt:(zy (T.drop en)).length<=10000:=by
    have h:=Zv T en (T.length-en)
    rw [List.take_of_length_le (by rw [List.length_drop];omega)] at h
    omega
   obtain ⟨R,hR⟩: ∃R,T.drop en=R:=⟨_,rfl⟩
   rw [hR] at hRS hRle hRt hR1
   clear hVS hR hAH hapH hhH hLimH hfinT hH hcp
   go_wp2_with (at_builtin;go_loud (
    refine jz rfl (.tmp 172) (.tmp 175) rfl W3.heap.size (.slice a13 out.length c13) out.length (zz out) rfl ho VS R rfl hRS hVn.out (by omega) (by omega) ?_
    intro v3 w2 hown2 hgr2 hnew2
    have hb2:=hbel.grown hgr2 hzr (fun g e=>(ho.lt g e).1)
    have hsm2:w2.ownsRow W3.heap.size 63 3 (.slice a14 ms.length c14) ms.length (zL sm):=zu hsm fun g hg=>hgr2.block g (hsm.lt g hg).2 fun e=>by
     obtain ⟨x1,hx1⟩:=ze ho e.symm
     obtain ⟨x2,hx2⟩:=ze hsm hg
     exact zq hx1 hx2 (by decide) rfl
    clear hgr2 hnew2 hrun))
   have hown3:w2.ownsRow W3.heap.size 9 1 v3 (out++R).length (zz (out++R)):=by rw [List.length_append,yi];exact hown2
   obtain ⟨a3,c3',rfl⟩:=zn hown3
   have hj:=UR (yq.of_owns hown3) (by rw [List.length_append];omega) (by rw [yt,List.length_append];omega)
   have hR2:Hid (RT=⟨(zy (out++R)).toArray⟩/\RS=sm):=by rw [yt];exact hR1.out
   refine hj.mono ?_
   rintro e w3 ⟨rfl,hw3⟩
   subst hw3
   obtain ⟨rfl,rfl⟩:=hR2.out
   clear hR1 hj hown2 hR2
   go_wp2_with fail
   refine bodyPost_ret (v:= .tuple #[.string ⟨(zy (out++R)).toArray⟩,.slice a14 ms.length c14,.int .i64 0]) ?_ rfl ⟨.slice a14 ms.length c14,rfl,qe hsm2 (by omega),bw3.trans (hb2.mono (by omega))⟩
   simp [results,results92,go_sem]
end Go.Proofs.YtcclgodahlinbaaGreatDoor
