import Derived.Test.YtcclgodahlinbaaGreatDoorA39
import Derived.Test.YtcclgodahlinbaaGreatDoorA19
import Derived.Test.YtcclgodahlinbaaGreatDoorA14
namespace Go.Proofs.YtcclgodahlinbaaGreatDoor
set_option maxHeartbeats 16000000
open Tryz Go.RowKit Go
set_option maxRecDepth 100000
theorem Uh {L:List UInt8} {e:Ending} (st:Rd) (h:YT L e): ∃(x:HI) (ok:Bool),x.lines= []/\e= .returned (.tuple #[qn x (.slice none 0 0),.bool ok])/\(ok && fitsI x st.en st.gr)=hdOk st L/\(ok=true->x=(zI L).hi):=by
 rcases h with ⟨a,b,c,d,ha,hb,hc,hd,hL,he⟩ | ⟨hno,x,hx,he⟩
 ·have hp:=FP ha hb hc hd
  refine ⟨⟨a,b,c,d,[]⟩,true,rfl,he,?_,fun _=> ?_⟩
  ·unfold hdOk
   rw [hL,hp]
   rfl
  ·rw [hL,hp]
   rfl
 ·refine ⟨x,false,hx,he,?_,fun h=>by cases h⟩
  rw [Bool.false_and]
  symm
  rw [Bool.eq_false_iff]
  intro hok
  unfold hdOk at hok
  rw [Bool.and_eq_true] at hok
  obtain ⟨a,b,c,d,e1,e2,e3,e4,hL⟩:=Uw hok.1
  obtain ⟨n1,n2,_⟩:=qj.1 hok.2
  have m1:=zH.1 n1
  have m2:=zH.1 n2
  unfold HP.hi at m1 m2
  simp only at m1 m2
  exact hno a b c d (by omega) (by omega) (by omega) (by omega) hL
structure RfM (Pb:Nat) (st:Rd) (v:Value) (hv:List HV) (w:World):Prop where
 blk:w.heap[Pb]? =some (.cells #[v] 32 (0,0))
 hso:HSo (Pb+1) v hv w
 hs:hv.map (·.1)=st.hs
theorem RfM.below {Pb:Nat} {st:Rd} {v:Value} {hv:List HV} {w w':World} (h:RfM Pb st v hv w) (hb:Below w.heap.size w w'):RfM Pb st v hv w':=⟨(hb.block Pb (Array.getElem?_eq_some_iff.1 h.blk).1).trans h.blk,h.hso.below hb,h.hs⟩
def Rd.chB (st:Rd):Bool:=st.hs.isEmpty || st.b
theorem Fc {n:Nat} {st:Rd} (h:Bi n st):st.endB=(decide (st.f=0) && decide (st.t=0) && st.chB):=by
 unfold Rd.endB Rd.chB
 cases hh:st.hs with
 | nil=>
   obtain ⟨e1,e2⟩:=h.nil hh
   simp [e1,e2]
 | cons a l=>simp
theorem UC {Ls:List (List UInt8)} {st:Rd} {m:Nat} (h:m<Ls.length):xS st (Ls.drop m) m=match rdStep st Ls[m] with
 | none=>(m,none)
 | some st'=>xS st' (Ls.drop (m+1)) (m+1):=by
 rw [List.drop_eq_getElem_cons h,xS]
 cases rdStep st Ls[m]<;>rfl
theorem Un {st:Rd} (h: ¬(st.f=0/\st.t=0)):rdStep st []=none:=by unfold rdStep;rw [if_neg h]
theorem Vf {st:Rd} {c:UInt8} {r:List UInt8} (h: ¬(st.f=0/\st.t=0)):rdStep st (c::r)=if zF c.toNat st.f st.t=true then some (lnNext st c r) else none:=by unfold rdStep;rw [if_neg h]
abbrev yW:Obj:= .cells #[.slice none 0 0] 32 (0,0)
theorem VN {s:ByteArray} {w:World} (hs4:s.size<=4000000000):
 Calls prog 90 #[.string s] w fun e w'=> ∃aq cq,e= .returned (.tuple #[.agg #[.slice aq (readA s).1.length cq],.int .i64 ((readA s).2.1:Nat),.int .i64 (readA s).2.2])/\zO w'.heap.size w' (.slice aq (readA s).1.length cq) (readA s).1/\Below w.heap.size w w':=by
 have hR0:=heap_alloc_new w yW
 have hN0:=heap_alloc_new (w.alloc yW) yW
 rw [World.size_alloc] at hN0
 have hR1:=(Below.heap_alloc (w.alloc yW) yW w.heap.size (by simp)).trans hR0
 have hb0:=((Below.refl w.heap.size w).alloc (Nat.le_refl _) yW).alloc (by simp) yW
 have hz0:((w.alloc yW).alloc yW).heap.size=w.heap.size+2:=by simp
 have hnil: ∀W:World,zO W.heap.size W (.slice none 0 0) []:=fun W=> .inl ⟨rfl,none,0,rfl⟩
 have hnilH:Hid _:=hnil
 clear hnil
 by_cases hbig:20000<s.size
 ·have hA:readA s=([],0,1):=by unfold readA;rw [if_pos hbig]
  rw [hA]
  have hbI:(20000:Int)<s.size:=by omega
  clear hA
  go_enter func90,ntmps90
  go_wp2_with fail
  generalize (w.alloc yW).alloc yW=W at *
  have p0:W.cell? ⟨w.heap.size,0,none⟩=some (.slice none 0 0):=za hR1 rfl
  have p1:W.cell? ⟨w.heap.size+1,0,none⟩=some (.slice none 0 0):=za hN0 rfl
  have pf: ∀k,W.frozen? ⟨w.heap.size,k,none⟩=false:=fun k=>zi hR1
  try go_wp2_with fail
  refine bodyPost_ret (v:= .tuple #[.agg #[.slice none 0 0],.int .i64 0,.int .i64 1]) ?_ rfl ⟨none,0,rfl,hnilH.out _,?_⟩
  ·simp [results,results90,go_sem,p0]
  ·exact hb0
 ·have hng: ¬(20000:Int)<(s.size:Int):=by omega
  have hA:Hid (readA s=JX (xX s) (xS Rd.start (yI s.data.toList).1 0)):=by
   show _=_
   unfold readA xP xX
   rw [if_neg hbig]
  have hll:(yI s.data.toList).1.length<=20000:=by
   have h1:=Za s
   have h2:s.data.toList.count 10<=s.data.toList.length:=List.count_le_length
   have h3:(qy s).length=(yI s.data.toList).1.length:=by unfold qy;rw [List.length_map]
   have h4:s.data.toList.length=s.size:=rfl
   omega
  have hlz:Hid (∀l∈(yI s.data.toList).1,l.length<=20000):=by
   intro l hl
   have h1:=(Zo s.data.toList).1
   have h2: ∀(M:List (List UInt8)),l∈M->l.length<=(M.flatMap (· ++ [10])).length:=by
    intro M
    induction M with
    | nil=>intro h;simp at h
    | cons a M ih=>
      intro h
      rw [List.flatMap_cons,List.length_append,List.length_append]
      rcases List.mem_cons.1 h with e | e
      ·rw [e];omega
      ·have:=ih e;omega
   have h3:=h2 _ hl
   have h4:=congrArg List.length h1
   rw [List.length_append] at h4
   have h5:s.data.toList.length=s.size:=rfl
   omega
  have hlines:=xM s
  have hrl:Hid (qy s=(yI s.data.toList).1.map ofL):=rfl
  have hrl2:(qy s).length=(yI s.data.toList).1.length:=by unfold qy;rw [List.length_map]
  generalize hres:readA s=RES at *
  clear hres
  go_enter func90,ntmps90
  go_wp2_with fail
  generalize (w.alloc yW).alloc yW=W at *
  refine (hlines W hs4).mono ?_
  rintro e W1 ⟨al,cl,rfl,hrow,hb1⟩
  have hz1:=hb1.size
  have hstr:=qa.of_owns hrow
  rw [hrl2] at hstr ⊢
  have hRa:=(hb1.block w.heap.size (by omega)).trans hR1
  have hNa:=(hb1.block (w.heap.size+1) (by omega)).trans hN0
  have hbW1:=hb0.trans (hb1.mono (by omega))
  clear hrow hlines
  have hP2:=heap_alloc_new W1 yW
  have hb2:=(Below.refl W1.heap.size W1).alloc (Nat.le_refl _) yW
  have hRf0:RfM W1.heap.size Rd.start (.slice none 0 0) [] (W1.alloc yW):=⟨hP2,.inl ⟨rfl,rfl⟩,rfl⟩
  generalize hLs:(yI s.data.toList).1=Ls at *
  generalize hwh:xX s=wh at *
  clear hLs hwh
  have hKeep:Hid (∀wr,Below W1.heap.size W1 wr->wr.heap[w.heap.size]? =some yW/\wr.heap[w.heap.size+1]? =some yW/\Below w.heap.size w wr/\W1.heap.size<=wr.heap.size):=fun wr hb=>⟨(hb.block w.heap.size (by omega)).trans hRa,(hb.block (w.heap.size+1) (by omega)).trans hNa,hbW1.trans (hb.mono (by omega)),hb.size⟩
  have hErr:Hid (∀(W':World) (i:Nat),RES=([],i,4)->W'.heap[w.heap.size]? =some yW->Below w.heap.size w W'-> ∃aq cq,(Ending.returned (.tuple #[.agg #[.slice none 0 0],.int .i64 (i:Int),.int .i64 4]))= .returned (.tuple #[.agg #[.slice aq RES.1.length cq],.int .i64 (RES.2.1:Nat),.int .i64 RES.2.2])/\zO (W'.setCell ⟨w.heap.size,0,none⟩ (.slice none 0 0)).heap.size (W'.setCell ⟨w.heap.size,0,none⟩ (.slice none 0 0)) (.slice aq RES.1.length cq) RES.1/\Below w.heap.size w (W'.setCell ⟨w.heap.size,0,none⟩ (.slice none 0 0))):=by
   intro W' i hr _ hb
   rw [hr]
   exact ⟨none,0,rfl,hnilH.out _,hb.setCell (p:=⟨w.heap.size,0,none⟩) (Nat.le_refl _) _⟩
  have hQ:Hid (∀W':World,W'.heap[w.heap.size]? =some yW-> ∀v,(W'.setCell ⟨w.heap.size,0,none⟩ v).cell? ⟨w.heap.size,0,none⟩=some v):=fun W' hp v=>za (zb _ _ _ _ _ _ _ hp) rfl
  clear hR0 hN0 hR1 hRa hNa hb0 hb1 hP2
  go_wp2_with fail
  generalize W1.alloc yW=W2 at *
  go_loopg [9,10,11,12,13,14] Ls.length (fun g t9 t10 t11 t12 t13 t14 wr=> ∃(m:Nat) (st:Rd) (v:Value) (hv:List HV),g=Ls.length-m/\m<=Ls.length/\t9= .int .i64 (st.en:Int)/\t10= .int .i64 st.gr/\t11= .int .i64 (st.f:Int)/\t12= .int .i64 (st.t:Int)/\t13= .bool st.chB/\t14= .int .i64 m/\Hid (xS Rd.start Ls 0=xS st (Ls.drop m) m)/\Hid (Bi m st)/\RfM W1.heap.size st v hv wr/\Below W1.heap.size W1 wr)
  case atStart=>exact ⟨0,Rd.start,_,_,by omega,by omega,rfl,rfl,rfl,rfl,rfl,rfl,rfl,Bi.start,hRf0,hb2⟩
  case round=>
   obtain ⟨m,st,v,hv,hgk,hml,rfl,rfl,rfl,rfl,rfl,rfl,hrun,hB,hRf,hbel⟩:=hrel
   have hG:Hid (_=Ls.length-m):=hgk
   clear hgk hRf0 hb2
   obtain ⟨hRr,hNr,hbw,hszr⟩:=hKeep.out wr hbel
   have hPl:W1.heap.size<wr.heap.size:=(Array.getElem?_eq_some_iff.1 hRf.blk).1
   have hf5:=hB.out.f
   have ht5:=hB.out.t
   have he5:=hB.out.en
   have hg5:=hB.out.g1
   have hg6:=hB.out.g2
   have hn5:=hB.out.hn
   have c0:wr.cell? ⟨w.heap.size,0,none⟩=some (.slice none 0 0):=za hRr rfl
   have c1:wr.cell? ⟨w.heap.size+1,0,none⟩=some (.slice none 0 0):=za hNr rfl
   have cf: ∀k,wr.frozen? ⟨w.heap.size,k,none⟩=false:=fun k=>zi hRr
   by_cases hm:m<Ls.length
   ·have hmI:(m:Int)<Ls.length:=by omega
    have hml2:m<(qy s).length:=by omega
    obtain ⟨bL,oL,rfl,hbL,hcL⟩:=(hstr.below hbel).at hml2
    have hgl:Hid ((qy s).getD m ByteArray.empty=ofL Ls[m]):=by
     show _=_
     rw [hrl.out]
     simp [List.getD,hm]
    rw [hgl.out] at hcL
    have hl2:=hlz.out _ (List.getElem_mem hm)
    have hrun2:Hid (xS Rd.start Ls 0=match rdStep st Ls[m] with
        | none=>(m,none)
        | some st'=>xS st' (Ls.drop (m+1)) (m+1)):=by show _=_;rw [hrun.out,UC hm]
    have hBs:Hid (∀st',rdStep st Ls[m]=some st'->Bi (m+1) st'):=fun st' h=>hB.out.step hl2 h
    generalize Ls[m]=l at *
    have hsz:(ofL l).size=l.length:=by unfold ofL;exact xq l
    have hlt:(ofL l).data.toList=l:=by unfold ofL;simp
    have hbad:Hid (rdStep st l=none->RES=([],m,4)):=by
     intro h
     rw [hA.out,hrun2.out,h]
     rfl
    by_cases hf:st.f=0/\st.t=0
    ·have hst:rdStep st l=if (st.endB && hdOk st l)=true then some (hdNext st l) else none:=by unfold rdStep;rw [if_pos hf]
     have hee:st.endB=st.chB:=by rw [Fc hB.out,hf.1,hf.2];simp
     rw [hee] at hst
     have hstH:Hid _:=hst
     have f1:((st.f:Int)==0)=true:=by rw [hf.1];rfl
     have f2:((st.t:Int)==0)=true:=by rw [hf.2];rfl
     have f3:st.f=0:=hf.1
     have f4:st.t=0:=hf.2
     have hhd:=UB (ofL l) wr (by omega)
     rw [hlt] at hhd
     generalize hsl:ofL l=sl at *
     clear hst hf hee hsl hlt
     go_wp2_with fail
     refine hhd.mono ?_
     rintro e U ⟨hhe,hbU⟩
     obtain ⟨x,ok,hx0,rfl,hok,hxe⟩:=Uh st hhe
     have hokH:Hid _:=hok
     have hxeH:Hid _:=hxe
     have hzU:=hbU.size
     have hRfU:=hRf.below hbU
     have hvU:Hid (∀k,v.ownBlock=some k->k<U.heap.size):=fun k e=>(hRfU.hso.owns.lt k e).2
     have hbelU:=hbel.trans (hbU.mono (by omega))
     have hX1:=heap_alloc_new U (ya x (.slice none 0 0))
     have hbX:=(Below.refl U.heap.size U).alloc (Nat.le_refl _) (ya x (.slice none 0 0))
     have hzX:(U.alloc (ya x (.slice none 0 0))).heap.size=U.heap.size+1:=by simp
     have hfo:=XH x (.slice none 0 0) (st.en:Int) st.gr (U.alloc (ya x (.slice none 0 0))) (by omega) (by omega)
     have hRfX:=hRfU.below hbX
     have hbelX:=hbelU.trans (hbX.mono (by omega))
     clear hhd hhe hok hxe hRf hbel c0 c1 cf
     unfold qn at hfo ⊢
     have y0:=za (k:=0) hX1 rfl
     have y1:=za (k:=1) hX1 rfl
     have y2:=za (k:=2) hX1 rfl
     have y3:=za (k:=3) hX1 rfl
     have y4:=za (k:=4) hX1 rfl
     unfold ya at *
     go_wp2_with fail
     generalize U.alloc (.cells #[.int .i64 x.fr,.int .i64 x.fc,.int .i64 x.tr,.int .i64 x.tc,.slice none 0 0] 61 (0,0))=V at *
     refine hfo.mono ?_
     rintro e V2 ⟨rfl,hbV⟩
     have hzV:=hbV.size
     have hRfV:=hRfX.below hbV
     have hbelV:=hbelX.trans (hbV.mono (by omega))
     obtain ⟨hRv,hNv,hbwv,hszv⟩:=hKeep.out V2 hbelV
     have d0:V2.cell? ⟨w.heap.size,0,none⟩=some (.slice none 0 0):=za hRv rfl
     have d1:V2.cell? ⟨w.heap.size+1,0,none⟩=some (.slice none 0 0):=za hNv rfl
     have df: ∀k,V2.frozen? ⟨w.heap.size,k,none⟩=false:=fun k=>zi hRv
     have hXV:=(hbV.block U.heap.size (by omega)).trans hX1
     clear y0 y1 y2 y3 y4 hX1 hRfX hRfU hbX hbelX hbelU hfo hbV
     by_cases hacc:ok=true/\fitsI x st.en st.gr=true/\st.chB=true
     ·obtain ⟨a1,a2,a3⟩:=hacc
      have hk:hdOk st l=true:=by rw [<-hokH.out,a1,a2];rfl
      have hxx:=hxeH.out a1
      have hnext:Hid (rdStep st l=some (hdNext st l)):=by show _=_;rw [hstH.out,a3,hk];rfl
      obtain ⟨hnm,n1,n2, -⟩:=KN hk
      have hpr:=xE n1
      have hm1:=zH.1 n1
      have hm2:=zH.1 n2
      have hEn:Hid (((placeI (zI l).fr (zI l).fc+(zI l).fc).toNat:Int)=placeI x.fr x.fc+x.fc):=by
       rw [hxx]
       show ((placeI (zI l).fr (zI l).fc+(zI l).fc).toNat:Int)=placeI (zI l).fr (zI l).fc+(zI l).fc
       omega
      have hNx:Hid (hdNext st l=⟨st.hs++ [hdM l],(placeI (zI l).fr (zI l).fc+(zI l).fc).toNat,st.gr+x.tc-x.fc,(hdM l).fc,(hdM l).tc,false⟩):=by rw [hxx];exact rfl
      have hxm:x=HI.ofM (hdM l):=by rw [hxx,hnm]
      have hb5:0<=placeI x.fr x.fc/\placeI x.fr x.fc<=100000/\0<=x.fr/\x.fr<=100000/\0<=x.fc/\x.fc<=100000/\0<=x.tc/\x.tc<=100000:=by
       rw [hxx]
       unfold HP.hi
       exact ⟨hpr.1,hpr.2,hm1.1,hm1.2.1,hm1.2.2.1,hm1.2.2.2.1,hm2.2.2.1,hm2.2.2.2.1⟩
      have hpl:=fun w=>qw x.fr x.fc w hb5.2.2.1 (by omega)
      have w1:IntKind.i64.wrap (placeI x.fr x.fc+x.fc)=placeI x.fr x.fc+x.fc:=by rw [IntKind.wrap_i64];omega
      have w2:IntKind.i64.wrap (st.gr+x.tc)=st.gr+x.tc:=by rw [IntKind.wrap_i64];omega
      have w3:IntKind.i64.wrap (st.gr+x.tc-x.fc)=st.gr+x.tc-x.fc:=by rw [IntKind.wrap_i64];omega
      have hB2:Hid (Bi (m+1) (hdNext st l)):=hBs.out _ hnext.out
      have hrun3:Hid (xS Rd.start Ls 0=xS (hdNext st l) (Ls.drop (m+1)) (m+1)):=by show _=_;rw [hrun2.out,hnext.out]
      rw [a1,a2,a3]
      have hM0:(hdM l).lines= []:=rfl
      clear hk hxx hnm n1 n2 hpr hm1 hm2 a1 a2 a3 hokH hxeH hstH hnext hrun2 hbad hBs
      generalize hdNext st l=stN at *
      generalize hdM l=H at *
      generalize (placeI (zI l).fr (zI l).fc+(zI l).fc).toNat=EN at *
      rw [hxm] at hXV hb5 hpl w1 w2 w3 hEn hNx ⊢
      unfold HI.ofM at hXV hb5 hpl w1 w2 w3 hEn hNx ⊢
      simp only at hXV hb5 hpl w1 w2 w3 ⊢
      clear hxm
      obtain ⟨i0,hi,hz0',hz1',hz2'⟩:=info_parts qk
      have hvl:hv.length<=100000:=by have:=congrArg List.length hRfV.hs;rw [List.length_map] at this;omega
      have hone: ∀u∈ [Value.int .i64 (H.fr:Int),.int .i64 (H.fc:Int),.int .i64 (H.tr:Int),.int .i64 (H.tc:Int),.slice none 0 0],u.oneCell'=true:=by intro u hu;simp at hu;rcases hu with rfl | rfl | rfl | rfl | rfl<;>rfl
      obtain ⟨av,cv,hve⟩:=hRfV.hso.len
      subst hve
      have y0:V2.cell? ⟨U.heap.size,0,none⟩=some (.int .i64 (H.fr:Int)):=za hXV rfl
      have y1:V2.cell? ⟨U.heap.size,1,none⟩=some (.int .i64 (H.fc:Int)):=za hXV rfl
      have y2:V2.cell? ⟨U.heap.size,2,none⟩=some (.int .i64 (H.tr:Int)):=za hXV rfl
      have y3:V2.cell? ⟨U.heap.size,3,none⟩=some (.int .i64 (H.tc:Int)):=za hXV rfl
      have y4:V2.cell? ⟨U.heap.size,4,none⟩=some (.slice none 0 0):=za hXV rfl
      have x0:V2.cell? ⟨W1.heap.size,0,none⟩=some (.slice av hv.length cv):=za hRfV.blk rfl
      have hps:Hid (∀ob w4 g cap,w4.ownsRow (W1.heap.size+1) 61 5 (.slice (some ⟨g,0,none⟩) (hv.length+1) cap) (hv.length+1) (hunkCells hv++xo (H,.slice none 0 0))->(V2.alloc ob).grownBy w4 (Value.slice av hv.length cv).ownBlock->
          w4.heap[W1.heap.size]? =some (.cells #[.slice av hv.length cv] 32 (0,0))/\w4.heap[U.heap.size]? =some (.cells #[.int .i64 (H.fr:Int),.int .i64 (H.fc:Int),.int .i64 (H.tr:Int),.int .i64 (H.tc:Int),.slice none 0 0] 61 (0,0))/\U.heap.size<w4.heap.size/\
          RfM W1.heap.size stN (.slice (some ⟨g,0,none⟩) (hv.length+1) cap) (hv++ [(H,.slice none 0 0)]) (w4.setCell ⟨W1.heap.size,0,none⟩ (.slice (some ⟨g,0,none⟩) (hv.length+1) cap))/\Below W1.heap.size W1 (w4.setCell ⟨W1.heap.size,0,none⟩ (.slice (some ⟨g,0,none⟩) (hv.length+1) cap))):=by
       intro ob w4 g cap hown hgr
       have hsz4:=hgr.size
       rw [World.size_alloc] at hsz4
       have hvb: ∀k,(Value.slice av hv.length cv).ownBlock=some k->W1.heap.size+1<=k/\k<V2.heap.size:=fun k e=>hRfV.hso.owns.lt k e
       have hpv:=hRfV.hso.push H hM0 hgr hown
       have hgb:W1.heap.size+1<=g:=(hown.lt g rfl).1
       have hkeep: ∀k,k<V2.heap.size->some k≠(Value.slice av hv.length cv).ownBlock->w4.heap[k]? =V2.heap[k]? :=fun k hk hne=>(hgr.block k (by simp;omega) hne).trans (Below.heap_alloc V2 ob k hk)
       have hP4:=(hkeep W1.heap.size (by omega) (fun e=>by have:=hvb _ e.symm;omega)).trans hRfV.blk
       have hX4:w4.heap[U.heap.size]? =_:=(hkeep U.heap.size (by omega) (fun e=>by have:=hvU.out _ e.symm;omega)).trans hXV
       refine ⟨hP4,hX4,by omega,⟨zb _ _ _ _ _ _ _ hP4,?_,?_⟩,?_⟩
       ·have hl1:(hv++ [(H,Value.slice none 0 0)]).length=hv.length+1:=by simp
        have hso4:HSo (W1.heap.size+1) (.slice (some ⟨g,0,none⟩) (hv.length+1) cap) (hv++ [(H,.slice none 0 0)]) w4:= .inr ⟨g,cap,by rw [hl1],hgb,hpv⟩
        exact hso4.kept (zc w4 W1.heap.size 0 _) (fun k e=>by cases e;exact .inr ⟨_,_,_,hP4,by decide,by decide⟩)
       ·rw [List.map_append,hRfV.hs,hNx.out]
        rfl
       ·exact ((hbelV.alloc (by omega) ob).grown hgr (by simp;omega) (fun k e=>by have:=hvb k e;omega)).setCell (p:=⟨W1.heap.size,0,none⟩) (Nat.le_refl _) _
      go_wp2_with (first | (at_builtin;(refine zm rfl (.tmp 70) (.tmp 72) 30 rfl (W1.heap.size+1) 61 i0 _ 5 56 underlying30 hi hz0' hz1' hz2' rfl (by decide) (.slice av hv.length cv) hv.length (hunkCells hv) rfl (hRfV.hso.owns.alloc _) ⟨V2.heap.size,0,none⟩ 1 1 [.int .i64 (H.fr:Int),.int .i64 (H.fc:Int),.int .i64 (H.tr:Int),.int .i64 (H.tc:Int),.slice none 0 0] rfl rfl (zt V2 _ _) hone (by unfold maxLen;omega) (by omega) (by rw [World.size_alloc];omega) ?_;intro v' w4 hown4 hgr4 _;obtain ⟨g',cap',rfl,hg',_⟩:=zv hown4 (Nat.succ_pos _);obtain ⟨p1,p2,p3,p4,p5⟩:=hps.out _ w4 g' cap' hown4 hgr4;have z0:w4.cell? ⟨W1.heap.size,0,none⟩=some (.slice av hv.length cv):=za p1 rfl;have zf: ∀k,w4.frozen? ⟨W1.heap.size,k,none⟩=false:=fun k=>zi p1;have zne: ¬U.heap.size=W1.heap.size:=(by omega);have q0:w4.cell? ⟨U.heap.size,0,none⟩=some (.int .i64 (H.fr:Int)):=za p2 rfl;have q1:w4.cell? ⟨U.heap.size,1,none⟩=some (.int .i64 (H.fc:Int)):=za p2 rfl;have q3:w4.cell? ⟨U.heap.size,3,none⟩=some (.int .i64 (H.tc:Int)):=za p2 rfl)) | (go_at_call 121;refine (hpl _).mono ?_;rintro e w3 ⟨rfl,rfl⟩))
      go_roundg (Ls.length-(m+1))
      ·refine ⟨m+1,stN,_,_,rfl,by omega,?_,?_,?_,?_,?_,by push_cast;rfl,hrun3.out,hB2.out,p4,p5⟩
       ·rw [hNx.out]
        show _=Value.int .i64 (EN:Int)
        rw [hEn.out]
       ·rw [hNx.out]
       ·rw [hNx.out]
       ·rw [hNx.out]
       ·rw [hNx.out]
        simp [Rd.chB]
      ·have:=hG.out;omega
     ·have hno:Hid (RES=([],m,4)):=by
       refine hbad.out ?_
       rw [hstH.out,if_neg]
       intro hh
       rw [Bool.and_eq_true] at hh
       have h2:(ok && fitsI x st.en st.gr)=true:=by rw [hokH.out];exact hh.2
       rw [Bool.and_eq_true] at h2
       exact hacc ⟨h2.1,h2.2,hh.1⟩
      clear hokH hxeH hstH hrun2 hbad hBs
      have hcase:ok=false\/(ok=true/\fitsI x st.en st.gr=false)\/(ok=true/\fitsI x st.en st.gr=true/\st.chB=false):=by
       cases ok with
       | false=>exact .inl rfl
       | true=>
         cases hq:fitsI x st.en st.gr with
         | false=>exact .inr (.inl ⟨rfl,rfl⟩)
         | true=>
           cases hq2:st.chB with
           | false=>exact .inr (.inr ⟨rfl,rfl,rfl⟩)
           | true=>exact absurd ⟨rfl,hq,hq2⟩ hacc
      clear hacc
      have hqv:=hQ.out V2 hRv (.slice none 0 0)
      rcases hcase with e1 | ⟨e1,e2⟩ | ⟨e1,e2,e3⟩
      ·rw [e1]
       clear e1
       generalize fitsI x st.en st.gr=fq at *
       generalize st.chB=cq at *
       go_wp2_with fail
       refine bodyPost_ret (v:= .tuple #[.agg #[.slice none 0 0],.int .i64 (m:Int),.int .i64 4]) ?_ rfl (hErr.out V2 m hno.out hRv hbwv)
       simp [results,results90,go_sem,hqv]
      ·rw [e1,e2]
       clear e1 e2
       generalize st.chB=cq at *
       go_wp2_with fail
       refine bodyPost_ret (v:= .tuple #[.agg #[.slice none 0 0],.int .i64 (m:Int),.int .i64 4]) ?_ rfl (hErr.out V2 m hno.out hRv hbwv)
       simp [results,results90,go_sem,hqv]
      ·rw [e1,e2,e3]
       clear e1 e2 e3
       go_wp2_with fail
       refine bodyPost_ret (v:= .tuple #[.agg #[.slice none 0 0],.int .i64 (m:Int),.int .i64 4]) ?_ rfl (hErr.out V2 m hno.out hRv hbwv)
       simp [results,results90,go_sem,hqv]
    ·have hfH:Hid (¬(st.f=0/\st.t=0)):=hf
     have hnf:(((st.f:Int)==0)=true/\((st.t:Int)==0)=false)\/((st.f:Int)==0)=false:=by
      by_cases h0:st.f=0
      ·left
       exact ⟨by rw [h0];rfl,by rw [beq_eq_false_iff_ne];omega⟩
      ·right
       rw [beq_eq_false_iff_ne];omega
     have hnfH:Hid _:=hnf
     clear hnf
     have hne:st.hs≠ []:=fun e=>hf (hB.out.nil e)
     have hqv:=hQ.out wr hRr (.slice none 0 0)
     cases l with
     | nil=>
       have hno:Hid (RES=([],m,4)):=hbad.out (Un hfH.out)
       have hem:ofL []=⟨#[]⟩:=rfl
       rw [hem] at hcL
       clear hbad hBs hrun2 hne hf hem hlt hsz
       generalize st.chB=cq at *
       rcases hnfH.out with ⟨f1,f2⟩ | f1
       ·go_wp2_with fail
        refine bodyPost_ret (v:= .tuple #[.agg #[.slice none 0 0],.int .i64 (m:Int),.int .i64 4]) ?_ rfl (hErr.out wr m hno.out hRr hbw)
        simp [results,results90,go_sem,hqv]
       ·go_wp2_with fail
        refine bodyPost_ret (v:= .tuple #[.agg #[.slice none 0 0],.int .i64 (m:Int),.int .i64 4]) ?_ rfl (hErr.out wr m hno.out hRr hbw)
        simp [results,results90,go_sem,hqv]
     | cons c r=>
       have hst1:Hid (rdStep st (c::r)=if zF c.toNat st.f st.t=true then some (lnNext st c r) else none):=Vf hfH.out
       obtain ⟨kk,hkk⟩: ∃kk,c.toNat=kk:=⟨_,rfl⟩
       have hk8:kk<256:=by rw [<-hkk];exact UInt8.toNat_lt c
       have hls:Hid (kV c r=⟨kk,⟨r.toArray⟩⟩):=by show _=_;rw [<-hkk];rfl
       have hS00:Hid (0<(ofL (c::r)).size):=by show _<_;rw [hsz];simp
       have hK0: ∀hh:0<(ofL (c::r)).size,((ofL (c::r))[0]'hh).toNat=kk:=by
        intro hh
        rw [<-hkk]
        rfl
       have hEm:((ofL (c::r)).toList== [])=false:=by rw [Lib.toList_data,hlt];rfl
       have hEm2:((ofL (c::r)).toList != [])=true:=by rw [bne,hEm];rfl
       have hEm3:(ofL (c::r)).toList.isEmpty=false:=by rw [Lib.toList_data,hlt];rfl
       have hT1:Hid ((ofL (c::r)).extract 1 (ofL (c::r)).size=⟨r.toArray⟩):=by
        unfold Hid
        rw [Lib.extract_eq,hlt,hsz]
        show (⟨(((c::r)).drop 1 |>.take _).toArray⟩:ByteArray)=_
        rw [List.drop_succ_cons,List.drop_zero,List.take_of_length_le (by simp)]
       have hrs:(⟨r.toArray⟩:ByteArray).size=r.length:=xq r
       have hsz2:(ofL (c::r)).size=r.length+1:=by rw [hsz];rfl
       simp only [List.length_cons] at hl2
       have hsI:(0:Int)<(ofL (c::r)).size:=by omega
       rw [hkk] at hst1
       clear hlt hsz
       generalize ofL (c::r)=sx at *
       generalize hrr:(⟨r.toArray⟩:ByteArray)=rr at *
       by_cases hq:zF kk st.f st.t=true
       ·obtain ⟨k1,k2,k3,k4,k5,k6,k7⟩:=kFT hq
        obtain ⟨init,h,e0, -, -⟩:=KJ hne
        have hh:=hB.out.ln h (by rw [e0];simp)
        have hnext:Hid (rdStep st (c::r)=some (lnNext st c r)):=by show _=_;rw [hst1.out,hq];rfl
        have hB2:Hid (Bi (m+1) (lnNext st c r)):=hBs.out _ hnext.out
        have hrun3:Hid (xS Rd.start Ls 0=xS (lnNext st c r) (Ls.drop (m+1)) (m+1)):=by show _=_;rw [hrun2.out,hnext.out]
        have hnx2:Hid (lnNext st c r=⟨init++ [{ h with lines:=h.lines++ [⟨kk,rr⟩] }],st.en,st.gr,((st.f:Int)-kF kk).toNat,((st.t:Int)-kT kk).toNat,st.b || kk !=32⟩):=by
         show _=_
         unfold lnNext
         rw [e0,ZY,hls.out,hkk]
        have hF2:Hid ((((st.f:Int)-kF kk).toNat:Int)=(st.f:Int)-kF kk/\(((st.t:Int)-kT kk).toNat:Int)=(st.t:Int)-kT kk):=⟨by omega,by omega⟩
        have hcb:Hid (st.chB=st.b):=by
         show _=_
         unfold Rd.chB
         rw [e0]
         simp
        obtain ⟨g,cap,i1,vl,rfl,hgb,rfl,him,hsv⟩:=hRf.hso.last (hRf.hs.trans e0)
        have hil:i1.length<=100000:=by have:=congrArg List.length him;rw [List.length_map] at this;rw [e0] at hn5;simp at hn5;omega
        have hvl:wr.ownsRow (W1.heap.size+1) 93 2 vl h.lines.length (zg h.lines):=hsv.lines (h,vl) (by simp)
        obtain ⟨cur,hcur⟩:=ze hsv.row (g:=g) rfl
        have hgw:g<wr.heap.size:=(Array.getElem?_eq_some_iff.1 hcur).1
        have hge:vl.ownBlock≠some g:=zT hvl hcur (by decide)
        have hcells:=xN hsv.row (i:=i1.length) (by simp)
        simp only [qt] at hcells
        obtain ⟨c0',c1',c2',c3',c4'⟩:=hcells
        have hfz: ∀k,wr.frozen? ⟨g,k,none⟩=false:=fun k=>zi hcur
        have hget:=yQ (i1++ [(h,vl)]) i1.length (by simp)
        simp only [qt] at hget
        have Gh:Hid _:=hget
        have x0:wr.cell? ⟨W1.heap.size,0,none⟩=some (.slice (some ⟨g,0,none⟩) (i1.length+1) cap):=za hRf.blk rfl
        have hPblk:Hid (wr.heap[W1.heap.size]? =some (.cells #[.slice (some ⟨g,0,none⟩) (i1.length+1) cap] 32 (0,0))):=hRf.blk
        have hwv2:IntKind.i64.wrap (i1.length:Int)=i1.length:=by rw [IntKind.wrap_i64];omega
        have hix3:(i1.length:Int)<((i1.length+1:Nat):Int):=by omega
        have hix4:(i1.length:Int)<(i1.length:Int)+1:=by omega
        have hix5:(0:Int)<=(i1.length:Int):=by omega
        have hll5:h.lines.length<=100000:=by have:=hh.1;omega
        have hbk: ∀k,vl.ownBlock=some k->W1.heap.size+1<=k/\k<wr.heap.size:=fun k e=>hvl.lt k e
        obtain ⟨avl,cvl,hvle⟩:=zn hvl
        subst hvle
        have hone: ∀u∈ [Value.int .u8 (kk:Int),Value.string rr],u.oneCell'=true:=by intro u hu;simp at hu;rcases hu with rfl | rfl<;>rfl
        obtain ⟨i0,hi,hz0',hz1',hz2'⟩:=info_parts yJ
        have hm1:h.lines.length+1<=maxLen:=by unfold maxLen;omega
        have hm2:(h.lines.length+1)*24<=140737488355328:=by omega
        have hI0w:wr.drew.cell? ⟨g,i1.length*5+4,none⟩=some (.slice avl h.lines.length cvl):=c4'
        have hgs:Hid ((kk=32->1<=st.f/\1<=st.t)/\(kk=45->1<=st.f)/\(kk=43->1<=st.t)):=
         ⟨fun e=>by subst e;simp only [kF,kT] at k1 k2;simp at k1 k2;omega,fun e=>by subst e;simp only [kF] at k1;simp at k1;omega,fun e=>by subst e;simp only [kT] at k2;simp at k2;omega⟩
        have hfin:Hid (∀(w4:World) (g' cap':Nat),w4.ownsRow (W1.heap.size+1) 93 2 (.slice (some ⟨g',0,none⟩) (h.lines.length+1) cap') (h.lines.length+1) (zg h.lines++ [.int .u8 (kk:Int),.string rr])->(∀k,k<wr.heap.size->some k≠(Value.slice avl h.lines.length cvl).ownBlock->w4.heap[k]? =wr.heap[k]?)->
         ((Value.slice (some ⟨g',0,none⟩) (h.lines.length+1) cap').ownBlock=(Value.slice avl h.lines.length cvl).ownBlock\/ ∀k,(Value.slice (some ⟨g',0,none⟩) (h.lines.length+1) cap').ownBlock=some k->wr.heap.size<=k)->
         RfM W1.heap.size (lnNext st c r) (.slice (some ⟨g,0,none⟩) (i1.length+1) cap) (i1++ [({ h with lines:=h.lines++ [⟨kk,rr⟩] },.slice (some ⟨g',0,none⟩) (h.lines.length+1) cap')]) (w4.setCell ⟨g,i1.length*5+4,none⟩ (.slice (some ⟨g',0,none⟩) (h.lines.length+1) cap'))):=by
         intro w4 g' cap' hown' e3 hnew
         refine ⟨?_,?_,?_⟩
         ·rw [zd _ _ _ _ _ (by omega),e3 W1.heap.size hPl (fun e=>by have:=hbk _ e.symm;omega)]
          exact hPblk.out
         ·refine .inr ⟨g,cap,by simp,hgb,?_⟩
          have hlen:(i1++ [(({ h with lines:=h.lines++ [⟨kk,rr⟩] } :zx),Value.slice (some ⟨g',0,none⟩) (h.lines.length+1) cap')]).length=i1.length+1:=by simp
          rw [hlen]
          refine YA (s:=⟨kk,rr⟩) hsv hown' e3 hnew (zc _ _ _ _) ?_
          intro cu hcu htk
          obtain ⟨cu',q1,q2,q3⟩:=TE (o1:=i1.length*5+4) (v1:= .slice (some ⟨g',0,none⟩) (h.lines.length+1) cap') hcu ((i1.length+1)*5)
          refine ⟨cu',q1,q2,?_⟩
          obtain ⟨G0,G1,G2,G3,G4⟩:=Gh.out
          rw [q3,htk,yK G0,yK G1,yK G2,yK G3]
         ·rw [List.map_append,him,hnx2.out]
          rfl
        have hst3:Hid ((lnNext st c r).en=st.en/\(lnNext st c r).gr=st.gr/\((lnNext st c r).f:Int)=(st.f:Int)-kF kk/\((lnNext st c r).t:Int)=(st.t:Int)-kT kk/\(lnNext st c r).chB=(st.b || kk !=32)):=by
         rw [hnx2.out]
         refine ⟨rfl,rfl,hF2.out.1,hF2.out.2,?_⟩
         unfold Rd.chB
         simp
        have hk3:Hid (kk=32\/kk=45\/kk=43):=k3
        rw [hcb.out]
        clear hcur hst1 hbad hBs hrun2 hnext hq hls hne hh hf hRf hget k1 k2 k3 k4 k5 k6 k7 hcb hsv Gh hnx2 hF2 hkk e0 him
        generalize lnNext st c r=stN at *
        have hcs:(kk=32/\Hid (((st.f:Int)==0)=false/\(0:Int)<st.f/\(0:Int)<st.t))\/(kk=45/\Hid (((st.f:Int)==0)=false/\(0:Int)<st.f))\/(kk=43/\Hid (((st.f:Int)==0)=false/\(0:Int)<st.t))\/(kk=43/\Hid (((st.f:Int)==0)=true/\((st.t:Int)==0)=false/\(0:Int)<st.t)):=by
         rcases hk3.out with e | e | e
         ·have:=hgs.out.1 e
          exact .inl ⟨e,by rw [beq_eq_false_iff_ne];omega,by omega,by omega⟩
         ·have:=hgs.out.2.1 e
          exact .inr (.inl ⟨e,by rw [beq_eq_false_iff_ne];omega,by omega⟩)
         ·have:=hgs.out.2.2 e
          rcases hnfH.out with ⟨f1,f2⟩ | f1
          ·exact .inr (.inr (.inr ⟨e,f1,f2,by omega⟩))
          ·exact .inr (.inr (.inl ⟨e,f1,by omega⟩))
        rcases hcs with ⟨rfl,hx⟩ | ⟨rfl,hx⟩ | ⟨rfl,hx⟩ | ⟨rfl,hx⟩
        ·obtain ⟨f1,h1I,h2I⟩:=hx.out
         clear hx
         go_wp2_with fail
         refine wp_region_any yg (jp.any (st:=13) (I:=fun w'=>w'.cell? ⟨g,i1.length*5+4,none⟩=some (.slice avl h.lines.length cvl)) ?_)
         refine zw (i:=0) (n:=13) (v:= .pointer (some ⟨g,i1.length*5,none⟩)) rfl (by kernel_rfl) (fun c a w h=>h) ⟨by simp [Region.wanted],fun w' hw=> ?_⟩ ?_
         ·simp [execOp,go_sem,Act.eval]
         refine zw (i:=1) (n:=12) (v:= .pointer (some ⟨g,i1.length*5,none⟩)) rfl (by kernel_rfl) (fun c a w h=>h) ⟨by simp [Region.wanted],fun w' hw=> ?_⟩ ?_
         ·simp [execOp,go_sem,Act.eval,Act.put]
         refine zw (i:=2) (n:=11) (v:= .pointer (some ⟨g,i1.length*5,none⟩)) rfl (by kernel_rfl) (fun c a w h=>h) ⟨by simp [Region.wanted],fun w' hw=> ?_⟩ ?_
         ·simp [execOp,go_sem,Act.eval,Act.put]
         refine zw (i:=3) (n:=10) (v:= .pointer (some ⟨g,i1.length*5+4,none⟩)) rfl (by kernel_rfl) (fun c a w h=>h) ⟨by simp [Region.wanted],fun w' hw=> ?_⟩ ?_
         ·simp [execOp,go_sem,Act.eval,Act.put]
         refine zw (i:=4) (n:=9) (v:= .slice avl h.lines.length cvl) rfl (by kernel_rfl) (fun c a w h=>h) ⟨by simp [Region.wanted],fun w' hw=> ?_⟩ ?_
         ·have hc:w'.cell? ⟨g,i1.length*5+4,none⟩=some (.slice avl h.lines.length cvl):=hw;simp [execOp,go_sem,Act.eval,Act.put,hc]
         refine zw (i:=5) (n:=8) (v:= .int .u8 32) rfl (by kernel_rfl) (fun c a w h=>h) ⟨by simp [Region.wanted],fun w' hw=> ?_⟩ ?_
         ·simp [execOp,go_sem,Act.eval,Act.put]
         refine zw (i:=6) (n:=7) (v:= .string sx) rfl (by kernel_rfl) (fun c a w h=>h) ⟨by simp [Region.wanted],fun w' hw=> ?_⟩ ?_
         ·simp [execOp,go_sem,Act.eval,Act.put]
         refine zw (i:=7) (n:=6) (v:= .string rr) rfl (by kernel_rfl) (fun c a w h=>h) ⟨by simp [Region.wanted],fun w' hw=> ?_⟩ ?_
         ·have hs2: ¬(sx.size:Int)<1:=(by omega);have hs3:sx.extract 1 sx.size=rr:=hT1.out;simp [execOp,go_sem,Act.eval,Act.put,hs2,hs3]
         refine zw (i:=8) (n:=5) (v:= .agg #[.int .u8 32,.string rr]) rfl (by kernel_rfl) (fun c a w h=>h) ⟨by simp [Region.wanted],fun w' hw=> ?_⟩ ?_
         ·simp [execOp,go_sem,Act.eval,Act.put]
         refine zE (i:=9) (n:=4) hI0w (by kernel_rfl) ?_
         refine zX (w':=wr.drew.alloc (.cells #[.int .u8 32,.string rr] 93)) (v:= .slice (some ⟨wr.heap.size,0,none⟩) 1 1) rfl rfl ?_ ?_
         ·simp [execOp,go_sem,Act.eval,Act.put]
         have hI2w:(wr.drew.alloc (.cells #[.int .u8 32,.string rr] 93)).cell? ⟨g,i1.length*5+4,none⟩=some (.slice avl h.lines.length cvl):=(World.cell?_of_block (Below.heap_alloc wr.drew _ g hgw)).trans hI0w
         refine zE (i:=10) (n:=3) hI2w (by kernel_rfl) ?_
         have hvd:wr.drew.ownsRow (W1.heap.size+1) 93 2 (.slice avl h.lines.length cvl) h.lines.length (zg h.lines):=hvl
         refine xj rfl rfl (.tmp 140) (.tmp 145) 59 rfl (W1.heap.size+1) 93 i0 _ 2 24 underlying59 hi hz0' hz1' hz2' rfl (by decide) (.slice avl h.lines.length cvl) h.lines.length (zg h.lines) (by simp [Act.eval,Act.put]) (hvd.alloc _) ⟨wr.heap.size,0,none⟩ 1 1 [.int .u8 32,.string rr] (by simp [Act.eval,Act.put]) rfl (zt wr.drew _ _) hone hm1 hm2 (by rw [World.size_alloc];show W1.heap.size+1<=wr.heap.size+1;omega) ?_
         intro vl' w4 hown' hgr0
         obtain ⟨hgr,hnew⟩:=qP hgr0
         clear hgr0 hvd
         obtain ⟨g',cap',rfl,_,_⟩:=zv hown' (Nat.succ_pos _)
         have hz4:=hgr.size
         rw [World.size_alloc] at hz4
         have hz4':wr.heap.size+1<=w4.heap.size:=hz4
         have e3: ∀k,k<wr.heap.size->some k≠(Value.slice avl h.lines.length cvl).ownBlock->w4.heap[k]? =wr.heap[k]? :=fun k hk hne=>(hgr.block k (by rw [World.size_alloc];show k<wr.heap.size+1;omega) hne).trans (Below.heap_alloc wr.drew _ k hk)
         have e1:=e3 g hgw (fun e=>hge e.symm)
         have f4:w4.cell? ⟨g,i1.length*5+4,none⟩=some (.slice avl h.lines.length cvl):=(World.cell?_of_block (a:=⟨g,i1.length*5+4,none⟩) e1).trans c4'
         have ff: ∀k,w4.frozen? ⟨g,k,none⟩=false:=fun k=>(World.frozen?_of_block (a:=⟨g,k,none⟩) e1).trans (hfz k)
         have hb4:Below W1.heap.size W1 w4:=((hbel.drew).alloc (by show W1.heap.size<=wr.heap.size;omega) _).grown hgr (by rw [World.size_alloc];show W1.heap.size<=wr.heap.size+1;omega) (fun k e=>by have:=hbk k e;omega)
         refine zE (i:=11) (n:=2) f4 (by kernel_rfl) ?_
         refine zX (w':=w4) (v:= .pointer (some ⟨g,i1.length*5,none⟩)) rfl rfl (by simp [execOp,go_sem,Act.eval,Act.put]) ?_
         refine zE (i:=12) (n:=1) f4 (by kernel_rfl) ?_
         refine zX (w':=w4) (v:= .pointer (some ⟨g,i1.length*5+4,none⟩)) rfl rfl (by simp [execOp,go_sem,Act.eval,Act.put]) ?_
         refine zE (i:=13) (n:=0) f4 (by kernel_rfl) ?_
         refine xv (w':=w4.setCell ⟨g,i1.length*5+4,none⟩ (.slice (some ⟨g',0,none⟩) (h.lines.length+1) cap')) rfl rfl ?_ ?_
         ·simp [execOp,go_sem,Act.eval,Act.put,f4,ff]
         have hF:Hid _:=hfin.out w4 g' cap' hown' e3 (by rcases hnew with hn | hn;exact .inl hn;exact .inr fun k e=>by have h1:=hn k e;rw [World.size_alloc] at h1;have h2:wr.drew.heap.size=wr.heap.size:=rfl;omega)
         have hbF:=hb4.setCell (p:=⟨g,i1.length*5+4,none⟩) (by show W1.heap.size<=g;omega) (.slice (some ⟨g',0,none⟩) (h.lines.length+1) cap')
         refine ql (by kernel_rfl) (by kernel_rfl) ?_
         clear hown' e3 e1 f4 ff hb4 hgr hnew hI2w
         generalize w4.setCell ⟨g,i1.length*5+4,none⟩ (.slice (some ⟨g',0,none⟩) (h.lines.length+1) cap')=WF at *
         simp only [Act.put]
         go_wp2_with fail
         go_roundg (Ls.length-(m+1))
         ·refine ⟨m+1,stN,_,_,rfl,by omega,?_,?_,?_,?_,?_,by push_cast;rfl,hrun3.out,hB2.out,hF.out,hbF⟩
          ·rw [hst3.out.1]
          ·rw [hst3.out.2.1]
          ·rw [hst3.out.2.2.1];simp [kF]
          ·rw [hst3.out.2.2.2.1];simp [kT]
          ·rw [hst3.out.2.2.2.2];simp
         ·have:=hG.out;omega
        ·obtain ⟨f1,h1I⟩:=hx.out
         clear hx
         go_wp2_with fail
         refine wp_region_any yg (jp.any (st:=13) (I:=fun w'=>w'.cell? ⟨g,i1.length*5+4,none⟩=some (.slice avl h.lines.length cvl)) ?_)
         refine zw (i:=0) (n:=13) (v:= .pointer (some ⟨g,i1.length*5,none⟩)) rfl (by kernel_rfl) (fun c a w h=>h) ⟨by simp [Region.wanted],fun w' hw=> ?_⟩ ?_
         ·simp [execOp,go_sem,Act.eval]
         refine zw (i:=1) (n:=12) (v:= .pointer (some ⟨g,i1.length*5,none⟩)) rfl (by kernel_rfl) (fun c a w h=>h) ⟨by simp [Region.wanted],fun w' hw=> ?_⟩ ?_
         ·simp [execOp,go_sem,Act.eval,Act.put]
         refine zw (i:=2) (n:=11) (v:= .pointer (some ⟨g,i1.length*5,none⟩)) rfl (by kernel_rfl) (fun c a w h=>h) ⟨by simp [Region.wanted],fun w' hw=> ?_⟩ ?_
         ·simp [execOp,go_sem,Act.eval,Act.put]
         refine zw (i:=3) (n:=10) (v:= .pointer (some ⟨g,i1.length*5+4,none⟩)) rfl (by kernel_rfl) (fun c a w h=>h) ⟨by simp [Region.wanted],fun w' hw=> ?_⟩ ?_
         ·simp [execOp,go_sem,Act.eval,Act.put]
         refine zw (i:=4) (n:=9) (v:= .slice avl h.lines.length cvl) rfl (by kernel_rfl) (fun c a w h=>h) ⟨by simp [Region.wanted],fun w' hw=> ?_⟩ ?_
         ·have hc:w'.cell? ⟨g,i1.length*5+4,none⟩=some (.slice avl h.lines.length cvl):=hw;simp [execOp,go_sem,Act.eval,Act.put,hc]
         refine zw (i:=5) (n:=8) (v:= .int .u8 45) rfl (by kernel_rfl) (fun c a w h=>h) ⟨by simp [Region.wanted],fun w' hw=> ?_⟩ ?_
         ·simp [execOp,go_sem,Act.eval,Act.put]
         refine zw (i:=6) (n:=7) (v:= .string sx) rfl (by kernel_rfl) (fun c a w h=>h) ⟨by simp [Region.wanted],fun w' hw=> ?_⟩ ?_
         ·simp [execOp,go_sem,Act.eval,Act.put]
         refine zw (i:=7) (n:=6) (v:= .string rr) rfl (by kernel_rfl) (fun c a w h=>h) ⟨by simp [Region.wanted],fun w' hw=> ?_⟩ ?_
         ·have hs2: ¬(sx.size:Int)<1:=(by omega);have hs3:sx.extract 1 sx.size=rr:=hT1.out;simp [execOp,go_sem,Act.eval,Act.put,hs2,hs3]
         refine zw (i:=8) (n:=5) (v:= .agg #[.int .u8 45,.string rr]) rfl (by kernel_rfl) (fun c a w h=>h) ⟨by simp [Region.wanted],fun w' hw=> ?_⟩ ?_
         ·simp [execOp,go_sem,Act.eval,Act.put]
         refine zE (i:=9) (n:=4) hI0w (by kernel_rfl) ?_
         refine zX (w':=wr.drew.alloc (.cells #[.int .u8 45,.string rr] 93)) (v:= .slice (some ⟨wr.heap.size,0,none⟩) 1 1) rfl rfl ?_ ?_
         ·simp [execOp,go_sem,Act.eval,Act.put]
         have hI2w:(wr.drew.alloc (.cells #[.int .u8 45,.string rr] 93)).cell? ⟨g,i1.length*5+4,none⟩=some (.slice avl h.lines.length cvl):=(World.cell?_of_block (Below.heap_alloc wr.drew _ g hgw)).trans hI0w
         refine zE (i:=10) (n:=3) hI2w (by kernel_rfl) ?_
         have hvd:wr.drew.ownsRow (W1.heap.size+1) 93 2 (.slice avl h.lines.length cvl) h.lines.length (zg h.lines):=hvl
         refine xj rfl rfl (.tmp 140) (.tmp 145) 59 rfl (W1.heap.size+1) 93 i0 _ 2 24 underlying59 hi hz0' hz1' hz2' rfl (by decide) (.slice avl h.lines.length cvl) h.lines.length (zg h.lines) (by simp [Act.eval,Act.put]) (hvd.alloc _) ⟨wr.heap.size,0,none⟩ 1 1 [.int .u8 45,.string rr] (by simp [Act.eval,Act.put]) rfl (zt wr.drew _ _) hone hm1 hm2 (by rw [World.size_alloc];show W1.heap.size+1<=wr.heap.size+1;omega) ?_
         intro vl' w4 hown' hgr0
         obtain ⟨hgr,hnew⟩:=qP hgr0
         clear hgr0 hvd
         obtain ⟨g',cap',rfl,_,_⟩:=zv hown' (Nat.succ_pos _)
         have hz4:=hgr.size
         rw [World.size_alloc] at hz4
         have hz4':wr.heap.size+1<=w4.heap.size:=hz4
         have e3: ∀k,k<wr.heap.size->some k≠(Value.slice avl h.lines.length cvl).ownBlock->w4.heap[k]? =wr.heap[k]? :=fun k hk hne=>(hgr.block k (by rw [World.size_alloc];show k<wr.heap.size+1;omega) hne).trans (Below.heap_alloc wr.drew _ k hk)
         have e1:=e3 g hgw (fun e=>hge e.symm)
         have f4:w4.cell? ⟨g,i1.length*5+4,none⟩=some (.slice avl h.lines.length cvl):=(World.cell?_of_block (a:=⟨g,i1.length*5+4,none⟩) e1).trans c4'
         have ff: ∀k,w4.frozen? ⟨g,k,none⟩=false:=fun k=>(World.frozen?_of_block (a:=⟨g,k,none⟩) e1).trans (hfz k)
         have hb4:Below W1.heap.size W1 w4:=((hbel.drew).alloc (by show W1.heap.size<=wr.heap.size;omega) _).grown hgr (by rw [World.size_alloc];show W1.heap.size<=wr.heap.size+1;omega) (fun k e=>by have:=hbk k e;omega)
         refine zE (i:=11) (n:=2) f4 (by kernel_rfl) ?_
         refine zX (w':=w4) (v:= .pointer (some ⟨g,i1.length*5,none⟩)) rfl rfl (by simp [execOp,go_sem,Act.eval,Act.put]) ?_
         refine zE (i:=12) (n:=1) f4 (by kernel_rfl) ?_
         refine zX (w':=w4) (v:= .pointer (some ⟨g,i1.length*5+4,none⟩)) rfl rfl (by simp [execOp,go_sem,Act.eval,Act.put]) ?_
         refine zE (i:=13) (n:=0) f4 (by kernel_rfl) ?_
         refine xv (w':=w4.setCell ⟨g,i1.length*5+4,none⟩ (.slice (some ⟨g',0,none⟩) (h.lines.length+1) cap')) rfl rfl ?_ ?_
         ·simp [execOp,go_sem,Act.eval,Act.put,f4,ff]
         have hF:Hid _:=hfin.out w4 g' cap' hown' e3 (by rcases hnew with hn | hn;exact .inl hn;exact .inr fun k e=>by have h1:=hn k e;rw [World.size_alloc] at h1;have h2:wr.drew.heap.size=wr.heap.size:=rfl;omega)
         have hbF:=hb4.setCell (p:=⟨g,i1.length*5+4,none⟩) (by show W1.heap.size<=g;omega) (.slice (some ⟨g',0,none⟩) (h.lines.length+1) cap')
         refine ql (by kernel_rfl) (by kernel_rfl) ?_
         clear hown' e3 e1 f4 ff hb4 hgr hnew hI2w
         generalize w4.setCell ⟨g,i1.length*5+4,none⟩ (.slice (some ⟨g',0,none⟩) (h.lines.length+1) cap')=WF at *
         simp only [Act.put]
         go_wp2_with fail
         go_roundg (Ls.length-(m+1))
         ·refine ⟨m+1,stN,_,_,rfl,by omega,?_,?_,?_,?_,?_,by push_cast;rfl,hrun3.out,hB2.out,hF.out,hbF⟩
          ·rw [hst3.out.1]
          ·rw [hst3.out.2.1]
          ·rw [hst3.out.2.2.1];simp [kF]
          ·rw [hst3.out.2.2.2.1];simp [kT]
          ·rw [hst3.out.2.2.2.2];simp
         ·have:=hG.out;omega
        ·obtain ⟨f1,h2I⟩:=hx.out
         clear hx
         go_wp2_with fail
         refine wp_region_any yg (jp.any (st:=13) (I:=fun w'=>w'.cell? ⟨g,i1.length*5+4,none⟩=some (.slice avl h.lines.length cvl)) ?_)
         refine zw (i:=0) (n:=13) (v:= .pointer (some ⟨g,i1.length*5,none⟩)) rfl (by kernel_rfl) (fun c a w h=>h) ⟨by simp [Region.wanted],fun w' hw=> ?_⟩ ?_
         ·simp [execOp,go_sem,Act.eval]
         refine zw (i:=1) (n:=12) (v:= .pointer (some ⟨g,i1.length*5,none⟩)) rfl (by kernel_rfl) (fun c a w h=>h) ⟨by simp [Region.wanted],fun w' hw=> ?_⟩ ?_
         ·simp [execOp,go_sem,Act.eval,Act.put]
         refine zw (i:=2) (n:=11) (v:= .pointer (some ⟨g,i1.length*5,none⟩)) rfl (by kernel_rfl) (fun c a w h=>h) ⟨by simp [Region.wanted],fun w' hw=> ?_⟩ ?_
         ·simp [execOp,go_sem,Act.eval,Act.put]
         refine zw (i:=3) (n:=10) (v:= .pointer (some ⟨g,i1.length*5+4,none⟩)) rfl (by kernel_rfl) (fun c a w h=>h) ⟨by simp [Region.wanted],fun w' hw=> ?_⟩ ?_
         ·simp [execOp,go_sem,Act.eval,Act.put]
         refine zw (i:=4) (n:=9) (v:= .slice avl h.lines.length cvl) rfl (by kernel_rfl) (fun c a w h=>h) ⟨by simp [Region.wanted],fun w' hw=> ?_⟩ ?_
         ·have hc:w'.cell? ⟨g,i1.length*5+4,none⟩=some (.slice avl h.lines.length cvl):=hw;simp [execOp,go_sem,Act.eval,Act.put,hc]
         refine zw (i:=5) (n:=8) (v:= .int .u8 43) rfl (by kernel_rfl) (fun c a w h=>h) ⟨by simp [Region.wanted],fun w' hw=> ?_⟩ ?_
         ·simp [execOp,go_sem,Act.eval,Act.put]
         refine zw (i:=6) (n:=7) (v:= .string sx) rfl (by kernel_rfl) (fun c a w h=>h) ⟨by simp [Region.wanted],fun w' hw=> ?_⟩ ?_
         ·simp [execOp,go_sem,Act.eval,Act.put]
         refine zw (i:=7) (n:=6) (v:= .string rr) rfl (by kernel_rfl) (fun c a w h=>h) ⟨by simp [Region.wanted],fun w' hw=> ?_⟩ ?_
         ·have hs2: ¬(sx.size:Int)<1:=(by omega);have hs3:sx.extract 1 sx.size=rr:=hT1.out;simp [execOp,go_sem,Act.eval,Act.put,hs2,hs3]
         refine zw (i:=8) (n:=5) (v:= .agg #[.int .u8 43,.string rr]) rfl (by kernel_rfl) (fun c a w h=>h) ⟨by simp [Region.wanted],fun w' hw=> ?_⟩ ?_
         ·simp [execOp,go_sem,Act.eval,Act.put]
         refine zE (i:=9) (n:=4) hI0w (by kernel_rfl) ?_
         refine zX (w':=wr.drew.alloc (.cells #[.int .u8 43,.string rr] 93)) (v:= .slice (some ⟨wr.heap.size,0,none⟩) 1 1) rfl rfl ?_ ?_
         ·simp [execOp,go_sem,Act.eval,Act.put]
         have hI2w:(wr.drew.alloc (.cells #[.int .u8 43,.string rr] 93)).cell? ⟨g,i1.length*5+4,none⟩=some (.slice avl h.lines.length cvl):=(World.cell?_of_block (Below.heap_alloc wr.drew _ g hgw)).trans hI0w
         refine zE (i:=10) (n:=3) hI2w (by kernel_rfl) ?_
         have hvd:wr.drew.ownsRow (W1.heap.size+1) 93 2 (.slice avl h.lines.length cvl) h.lines.length (zg h.lines):=hvl
         refine xj rfl rfl (.tmp 140) (.tmp 145) 59 rfl (W1.heap.size+1) 93 i0 _ 2 24 underlying59 hi hz0' hz1' hz2' rfl (by decide) (.slice avl h.lines.length cvl) h.lines.length (zg h.lines) (by simp [Act.eval,Act.put]) (hvd.alloc _) ⟨wr.heap.size,0,none⟩ 1 1 [.int .u8 43,.string rr] (by simp [Act.eval,Act.put]) rfl (zt wr.drew _ _) hone hm1 hm2 (by rw [World.size_alloc];show W1.heap.size+1<=wr.heap.size+1;omega) ?_
         intro vl' w4 hown' hgr0
         obtain ⟨hgr,hnew⟩:=qP hgr0
         clear hgr0 hvd
         obtain ⟨g',cap',rfl,_,_⟩:=zv hown' (Nat.succ_pos _)
         have hz4:=hgr.size
         rw [World.size_alloc] at hz4
         have hz4':wr.heap.size+1<=w4.heap.size:=hz4
         have e3: ∀k,k<wr.heap.size->some k≠(Value.slice avl h.lines.length cvl).ownBlock->w4.heap[k]? =wr.heap[k]? :=fun k hk hne=>(hgr.block k (by rw [World.size_alloc];show k<wr.heap.size+1;omega) hne).trans (Below.heap_alloc wr.drew _ k hk)
         have e1:=e3 g hgw (fun e=>hge e.symm)
         have f4:w4.cell? ⟨g,i1.length*5+4,none⟩=some (.slice avl h.lines.length cvl):=(World.cell?_of_block (a:=⟨g,i1.length*5+4,none⟩) e1).trans c4'
         have ff: ∀k,w4.frozen? ⟨g,k,none⟩=false:=fun k=>(World.frozen?_of_block (a:=⟨g,k,none⟩) e1).trans (hfz k)
         have hb4:Below W1.heap.size W1 w4:=((hbel.drew).alloc (by show W1.heap.size<=wr.heap.size;omega) _).grown hgr (by rw [World.size_alloc];show W1.heap.size<=wr.heap.size+1;omega) (fun k e=>by have:=hbk k e;omega)
         refine zE (i:=11) (n:=2) f4 (by kernel_rfl) ?_
         refine zX (w':=w4) (v:= .pointer (some ⟨g,i1.length*5,none⟩)) rfl rfl (by simp [execOp,go_sem,Act.eval,Act.put]) ?_
         refine zE (i:=12) (n:=1) f4 (by kernel_rfl) ?_
         refine zX (w':=w4) (v:= .pointer (some ⟨g,i1.length*5+4,none⟩)) rfl rfl (by simp [execOp,go_sem,Act.eval,Act.put]) ?_
         refine zE (i:=13) (n:=0) f4 (by kernel_rfl) ?_
         refine xv (w':=w4.setCell ⟨g,i1.length*5+4,none⟩ (.slice (some ⟨g',0,none⟩) (h.lines.length+1) cap')) rfl rfl ?_ ?_
         ·simp [execOp,go_sem,Act.eval,Act.put,f4,ff]
         have hF:Hid _:=hfin.out w4 g' cap' hown' e3 (by rcases hnew with hn | hn;exact .inl hn;exact .inr fun k e=>by have h1:=hn k e;rw [World.size_alloc] at h1;have h2:wr.drew.heap.size=wr.heap.size:=rfl;omega)
         have hbF:=hb4.setCell (p:=⟨g,i1.length*5+4,none⟩) (by show W1.heap.size<=g;omega) (.slice (some ⟨g',0,none⟩) (h.lines.length+1) cap')
         refine ql (by kernel_rfl) (by kernel_rfl) ?_
         clear hown' e3 e1 f4 ff hb4 hgr hnew hI2w
         generalize w4.setCell ⟨g,i1.length*5+4,none⟩ (.slice (some ⟨g',0,none⟩) (h.lines.length+1) cap')=WF at *
         simp only [Act.put]
         go_wp2_with fail
         go_roundg (Ls.length-(m+1))
         ·refine ⟨m+1,stN,_,_,rfl,by omega,?_,?_,?_,?_,?_,by push_cast;rfl,hrun3.out,hB2.out,hF.out,hbF⟩
          ·rw [hst3.out.1]
          ·rw [hst3.out.2.1]
          ·rw [hst3.out.2.2.1];simp [kF]
          ·rw [hst3.out.2.2.2.1];simp [kT]
          ·rw [hst3.out.2.2.2.2];simp
         ·have:=hG.out;omega
        ·obtain ⟨f1,f2,h2I⟩:=hx.out
         clear hx
         go_wp2_with fail
         refine wp_region_any yg (jp.any (st:=13) (I:=fun w'=>w'.cell? ⟨g,i1.length*5+4,none⟩=some (.slice avl h.lines.length cvl)) ?_)
         refine zw (i:=0) (n:=13) (v:= .pointer (some ⟨g,i1.length*5,none⟩)) rfl (by kernel_rfl) (fun c a w h=>h) ⟨by simp [Region.wanted],fun w' hw=> ?_⟩ ?_
         ·simp [execOp,go_sem,Act.eval]
         refine zw (i:=1) (n:=12) (v:= .pointer (some ⟨g,i1.length*5,none⟩)) rfl (by kernel_rfl) (fun c a w h=>h) ⟨by simp [Region.wanted],fun w' hw=> ?_⟩ ?_
         ·simp [execOp,go_sem,Act.eval,Act.put]
         refine zw (i:=2) (n:=11) (v:= .pointer (some ⟨g,i1.length*5,none⟩)) rfl (by kernel_rfl) (fun c a w h=>h) ⟨by simp [Region.wanted],fun w' hw=> ?_⟩ ?_
         ·simp [execOp,go_sem,Act.eval,Act.put]
         refine zw (i:=3) (n:=10) (v:= .pointer (some ⟨g,i1.length*5+4,none⟩)) rfl (by kernel_rfl) (fun c a w h=>h) ⟨by simp [Region.wanted],fun w' hw=> ?_⟩ ?_
         ·simp [execOp,go_sem,Act.eval,Act.put]
         refine zw (i:=4) (n:=9) (v:= .slice avl h.lines.length cvl) rfl (by kernel_rfl) (fun c a w h=>h) ⟨by simp [Region.wanted],fun w' hw=> ?_⟩ ?_
         ·have hc:w'.cell? ⟨g,i1.length*5+4,none⟩=some (.slice avl h.lines.length cvl):=hw;simp [execOp,go_sem,Act.eval,Act.put,hc]
         refine zw (i:=5) (n:=8) (v:= .int .u8 43) rfl (by kernel_rfl) (fun c a w h=>h) ⟨by simp [Region.wanted],fun w' hw=> ?_⟩ ?_
         ·simp [execOp,go_sem,Act.eval,Act.put]
         refine zw (i:=6) (n:=7) (v:= .string sx) rfl (by kernel_rfl) (fun c a w h=>h) ⟨by simp [Region.wanted],fun w' hw=> ?_⟩ ?_
         ·simp [execOp,go_sem,Act.eval,Act.put]
         refine zw (i:=7) (n:=6) (v:= .string rr) rfl (by kernel_rfl) (fun c a w h=>h) ⟨by simp [Region.wanted],fun w' hw=> ?_⟩ ?_
         ·have hs2: ¬(sx.size:Int)<1:=(by omega);have hs3:sx.extract 1 sx.size=rr:=hT1.out;simp [execOp,go_sem,Act.eval,Act.put,hs2,hs3]
         refine zw (i:=8) (n:=5) (v:= .agg #[.int .u8 43,.string rr]) rfl (by kernel_rfl) (fun c a w h=>h) ⟨by simp [Region.wanted],fun w' hw=> ?_⟩ ?_
         ·simp [execOp,go_sem,Act.eval,Act.put]
         refine zE (i:=9) (n:=4) hI0w (by kernel_rfl) ?_
         refine zX (w':=wr.drew.alloc (.cells #[.int .u8 43,.string rr] 93)) (v:= .slice (some ⟨wr.heap.size,0,none⟩) 1 1) rfl rfl ?_ ?_
         ·simp [execOp,go_sem,Act.eval,Act.put]
         have hI2w:(wr.drew.alloc (.cells #[.int .u8 43,.string rr] 93)).cell? ⟨g,i1.length*5+4,none⟩=some (.slice avl h.lines.length cvl):=(World.cell?_of_block (Below.heap_alloc wr.drew _ g hgw)).trans hI0w
         refine zE (i:=10) (n:=3) hI2w (by kernel_rfl) ?_
         have hvd:wr.drew.ownsRow (W1.heap.size+1) 93 2 (.slice avl h.lines.length cvl) h.lines.length (zg h.lines):=hvl
         refine xj rfl rfl (.tmp 140) (.tmp 145) 59 rfl (W1.heap.size+1) 93 i0 _ 2 24 underlying59 hi hz0' hz1' hz2' rfl (by decide) (.slice avl h.lines.length cvl) h.lines.length (zg h.lines) (by simp [Act.eval,Act.put]) (hvd.alloc _) ⟨wr.heap.size,0,none⟩ 1 1 [.int .u8 43,.string rr] (by simp [Act.eval,Act.put]) rfl (zt wr.drew _ _) hone hm1 hm2 (by rw [World.size_alloc];show W1.heap.size+1<=wr.heap.size+1;omega) ?_
         intro vl' w4 hown' hgr0
         obtain ⟨hgr,hnew⟩:=qP hgr0
         clear hgr0 hvd
         obtain ⟨g',cap',rfl,_,_⟩:=zv hown' (Nat.succ_pos _)
         have hz4:=hgr.size
         rw [World.size_alloc] at hz4
         have hz4':wr.heap.size+1<=w4.heap.size:=hz4
         have e3: ∀k,k<wr.heap.size->some k≠(Value.slice avl h.lines.length cvl).ownBlock->w4.heap[k]? =wr.heap[k]? :=fun k hk hne=>(hgr.block k (by rw [World.size_alloc];show k<wr.heap.size+1;omega) hne).trans (Below.heap_alloc wr.drew _ k hk)
         have e1:=e3 g hgw (fun e=>hge e.symm)
         have f4:w4.cell? ⟨g,i1.length*5+4,none⟩=some (.slice avl h.lines.length cvl):=(World.cell?_of_block (a:=⟨g,i1.length*5+4,none⟩) e1).trans c4'
         have ff: ∀k,w4.frozen? ⟨g,k,none⟩=false:=fun k=>(World.frozen?_of_block (a:=⟨g,k,none⟩) e1).trans (hfz k)
         have hb4:Below W1.heap.size W1 w4:=((hbel.drew).alloc (by show W1.heap.size<=wr.heap.size;omega) _).grown hgr (by rw [World.size_alloc];show W1.heap.size<=wr.heap.size+1;omega) (fun k e=>by have:=hbk k e;omega)
         refine zE (i:=11) (n:=2) f4 (by kernel_rfl) ?_
         refine zX (w':=w4) (v:= .pointer (some ⟨g,i1.length*5,none⟩)) rfl rfl (by simp [execOp,go_sem,Act.eval,Act.put]) ?_
         refine zE (i:=12) (n:=1) f4 (by kernel_rfl) ?_
         refine zX (w':=w4) (v:= .pointer (some ⟨g,i1.length*5+4,none⟩)) rfl rfl (by simp [execOp,go_sem,Act.eval,Act.put]) ?_
         refine zE (i:=13) (n:=0) f4 (by kernel_rfl) ?_
         refine xv (w':=w4.setCell ⟨g,i1.length*5+4,none⟩ (.slice (some ⟨g',0,none⟩) (h.lines.length+1) cap')) rfl rfl ?_ ?_
         ·simp [execOp,go_sem,Act.eval,Act.put,f4,ff]
         have hF:Hid _:=hfin.out w4 g' cap' hown' e3 (by rcases hnew with hn | hn;exact .inl hn;exact .inr fun k e=>by have h1:=hn k e;rw [World.size_alloc] at h1;have h2:wr.drew.heap.size=wr.heap.size:=rfl;omega)
         have hbF:=hb4.setCell (p:=⟨g,i1.length*5+4,none⟩) (by show W1.heap.size<=g;omega) (.slice (some ⟨g',0,none⟩) (h.lines.length+1) cap')
         refine ql (by kernel_rfl) (by kernel_rfl) ?_
         clear hown' e3 e1 f4 ff hb4 hgr hnew hI2w
         generalize w4.setCell ⟨g,i1.length*5+4,none⟩ (.slice (some ⟨g',0,none⟩) (h.lines.length+1) cap')=WF at *
         simp only [Act.put]
         go_wp2_with fail
         go_roundg (Ls.length-(m+1))
         ·refine ⟨m+1,stN,_,_,rfl,by omega,?_,?_,?_,?_,?_,by push_cast;rfl,hrun3.out,hB2.out,hF.out,hbF⟩
          ·rw [hst3.out.1]
          ·rw [hst3.out.2.1]
          ·rw [hst3.out.2.2.1];simp [kF]
          ·rw [hst3.out.2.2.2.1];simp [kT]
          ·rw [hst3.out.2.2.2.2];simp
         ·have:=hG.out;omega
       ·have hno:Hid (RES=([],m,4)):=hbad.out (by rw [hst1.out,if_neg hq])
        have hq2:(kk=32/\(st.f=0\/st.t=0))\/(kk=45/\st.f=0)\/(kk=43/\st.t=0)\/(kk≠32/\kk≠45/\kk≠43):=by
         by_cases e1:kk=32
         ·left
          refine ⟨e1,?_⟩
          by_cases h0:st.f=0
          ·exact .inl h0
          ·right
           apply Classical.byContradiction
           intro h1
           apply hq
           subst e1
           simp [zF,yn,kF,kT]
           omega
         ·by_cases e2:kk=45
          ·right;left
           refine ⟨e2,?_⟩
           apply Classical.byContradiction
           intro h1
           apply hq
           subst e2
           simp [zF,yn,kF,kT]
           omega
          ·by_cases e3:kk=43
           ·right;right;left
            refine ⟨e3,?_⟩
            apply Classical.byContradiction
            intro h1
            apply hq
            subst e3
            simp [zF,yn,kF,kT]
            omega
           ·exact .inr (.inr (.inr ⟨e1,e2,e3⟩))
        have hq2H:Hid _:=hq2
        clear hq2 hq hbad hst1 hBs hrun2 hne hls hkk hT1
        generalize st.chB=cq at *
        have hcs:(kk=32/\Hid (((st.f:Int)==0)=false/\(0:Int)<st.f/\ ¬(0:Int)<st.t))\/(kk=32/\Hid (((st.f:Int)==0)=true/\((st.t:Int)==0)=false/\ ¬(0:Int)<st.f))\/(kk=45/\Hid (((st.f:Int)==0)=true/\((st.t:Int)==0)=false/\ ¬(0:Int)<st.f))\/(kk=43/\Hid (((st.f:Int)==0)=false/\ ¬(0:Int)<st.t))\/
          (Hid (((kk:Int)==32)=false/\((kk:Int)==45)=false/\((kk:Int)==43)=false)/\Hid (((st.f:Int)==0)=false))\/(Hid (((kk:Int)==32)=false/\((kk:Int)==45)=false/\((kk:Int)==43)=false)/\Hid (((st.f:Int)==0)=true/\((st.t:Int)==0)=false)):=by
         rcases hq2H.out with ⟨e,h0⟩ | ⟨e,h0⟩ | ⟨e,h0⟩ | ⟨e1,e2,e3⟩
         ·rcases hnfH.out with ⟨f1,f2⟩ | f1
          ·refine .inr (.inl ⟨e,f1,f2,?_⟩)
           simp at f1;omega
          ·refine .inl ⟨e,f1,?_,?_⟩
           ·rw [beq_eq_false_iff_ne] at f1;omega
           ·rw [beq_eq_false_iff_ne] at f1;rcases h0 with h0 | h0<;>omega
         ·rcases hnfH.out with ⟨f1,f2⟩ | f1
          ·exact .inr (.inr (.inl ⟨e,f1,f2,by omega⟩))
          ·rw [beq_eq_false_iff_ne] at f1;omega
         ·rcases hnfH.out with ⟨f1,f2⟩ | f1
          ·rw [beq_eq_false_iff_ne] at f2;omega
          ·exact .inr (.inr (.inr (.inl ⟨e,f1,by omega⟩)))
         ·have h3:Hid (((kk:Int)==32)=false/\((kk:Int)==45)=false/\((kk:Int)==43)=false):=⟨by rw [beq_eq_false_iff_ne];omega,by rw [beq_eq_false_iff_ne];omega,by rw [beq_eq_false_iff_ne];omega⟩
          rcases hnfH.out with ⟨f1,f2⟩ | f1
          ·exact .inr (.inr (.inr (.inr (.inr ⟨h3,f1,f2⟩))))
          ·exact .inr (.inr (.inr (.inr (.inl ⟨h3,f1⟩))))
        clear hq2H hnfH
        rcases hcs with ⟨rfl,hx⟩ | ⟨rfl,hx⟩ | ⟨rfl,hx⟩ | ⟨rfl,hx⟩ | ⟨hk3,hx⟩ | ⟨hk3,hx⟩
        ·obtain ⟨f1,h1I,h2I⟩:=hx.out
         clear hx
         go_wp2_with fail
         refine bodyPost_ret (v:= .tuple #[.agg #[.slice none 0 0],.int .i64 (m:Int),.int .i64 4]) ?_ rfl (hErr.out wr m hno.out hRr hbw)
         simp [results,results90,go_sem,hqv]
        ·obtain ⟨f1,f2,h1I⟩:=hx.out
         clear hx
         go_wp2_with fail
         refine bodyPost_ret (v:= .tuple #[.agg #[.slice none 0 0],.int .i64 (m:Int),.int .i64 4]) ?_ rfl (hErr.out wr m hno.out hRr hbw)
         simp [results,results90,go_sem,hqv]
        ·obtain ⟨f1,f2,h1I⟩:=hx.out
         clear hx
         go_wp2_with fail
         refine bodyPost_ret (v:= .tuple #[.agg #[.slice none 0 0],.int .i64 (m:Int),.int .i64 4]) ?_ rfl (hErr.out wr m hno.out hRr hbw)
         simp [results,results90,go_sem,hqv]
        ·obtain ⟨f1,h1I⟩:=hx.out
         clear hx
         go_wp2_with fail
         refine bodyPost_ret (v:= .tuple #[.agg #[.slice none 0 0],.int .i64 (m:Int),.int .i64 4]) ?_ rfl (hErr.out wr m hno.out hRr hbw)
         simp [results,results90,go_sem,hqv]
        ·have f1:=hx.out
         obtain ⟨x1,x2,x3⟩:=hk3.out
         clear hx
         go_wp2_with fail
         refine bodyPost_ret (v:= .tuple #[.agg #[.slice none 0 0],.int .i64 (m:Int),.int .i64 4]) ?_ rfl (hErr.out wr m hno.out hRr hbw)
         simp [results,results90,go_sem,hqv]
        ·obtain ⟨f1,f2⟩:=hx.out
         obtain ⟨x1,x2,x3⟩:=hk3.out
         clear hx
         go_wp2_with fail
         refine bodyPost_ret (v:= .tuple #[.agg #[.slice none 0 0],.int .i64 (m:Int),.int .i64 4]) ?_ rfl (hErr.out wr m hno.out hRr hbw)
         simp [results,results90,go_sem,hqv]
   ·have hE:Hid (Ls.drop m= []):=List.drop_eq_nil_of_le (by omega)
    obtain rfl:m=Ls.length:=by omega
    have hmI: ¬((Ls.length:Int)<Ls.length):=by omega
    have hR5:Hid (RES=if (wh && st.endB)=true then (st.hs,0,0) else ([],Ls.length,4)):=by
     show _=_
     rw [hA.out,hrun.out,hE.out]
     rfl
    have hec:=Fc hB.out
    have hecH:Hid _:=hec
    have hqv:=hQ.out wr hRr (.slice none 0 0)
    obtain ⟨av,cv,hve⟩:=hRf.hso.len
    subst hve
    have x0:wr.cell? ⟨W1.heap.size,0,none⟩=some (.slice av hv.length cv):=za hRf.blk rfl
    have hqw:=hQ.out wr hRr (.slice av hv.length cv)
    have hbad:Hid ((wh && st.endB)=false->RES=([],Ls.length,4)):=fun h=>by rw [hR5.out,h];rfl
    have hgood:Hid ((wh && st.endB)=true->RES=(st.hs,0,0)):=fun h=>by rw [hR5.out,if_pos h]
    have hsF:Hid (zO (wr.setCell ⟨w.heap.size,0,none⟩ (.slice av hv.length cv)).heap.size (wr.setCell ⟨w.heap.size,0,none⟩ (.slice av hv.length cv)) (.slice av hv.length cv) st.hs):=by
     have h1:=hRf.hso.kept (zc wr w.heap.size 0 (.slice av hv.length cv)) (fun k e=>by cases e;exact .inr ⟨_,_,_,hRr,by decide,by decide⟩)
     have h2:=zO.of_owns h1
     rw [hRf.hs] at h2
     exact h2
    have hhl:Hid (hv.length=st.hs.length):=by show _=_;rw [<-hRf.hs,List.length_map]
    clear hec hR5 hrun hRf hE
    cases wh with
    | false=>
      have hno:Hid (RES=([],Ls.length,4)):=hbad.out rfl
      clear hbad hgood
      generalize st.chB=cq at *
      go_wp2_with fail
      refine bodyPost_ret (v:= .tuple #[.agg #[.slice none 0 0],.int .i64 (Ls.length:Int),.int .i64 4]) ?_ rfl (hErr.out wr Ls.length hno.out hRr hbw)
      simp [results,results90,go_sem,hqv]
    | true=>
      by_cases h1:st.f=0
      ·by_cases h2:st.t=0
       ·cases h3:st.chB with
        | true=>
          have hg2:RES=(st.hs,0,0):=hgood.out (by rw [hecH.out,h1,h2,h3];rfl)
          rw [h1,h2]
          have hgH:Hid _:=hg2
          clear hg2 hbad hgood hecH h3
          go_wp2_with fail
          refine bodyPost_ret (v:= .tuple #[.agg #[.slice av hv.length cv],.int .i64 0,.int .i64 0]) ?_ rfl ⟨av,cv,?_,?_,?_⟩
          ·simp [results,results90,go_sem,hqw]
          ·rw [hgH.out,hhl.out]<;>rfl
          ·rw [hgH.out]
           have:=hsF.out
           rw [hhl.out] at this ⊢
           exact this
          ·exact hbw.setCell (p:=⟨w.heap.size,0,none⟩) (Nat.le_refl _) _
        | false=>
          have hno:Hid (RES=([],Ls.length,4)):=hbad.out (by rw [hecH.out,h3];simp)
          rw [h1,h2]
          clear hbad hgood hecH h3
          go_wp2_with fail
          refine bodyPost_ret (v:= .tuple #[.agg #[.slice none 0 0],.int .i64 (Ls.length:Int),.int .i64 4]) ?_ rfl (hErr.out wr Ls.length hno.out hRr hbw)
          simp [results,results90,go_sem,hqv]
       ·have hno:Hid (RES=([],Ls.length,4)):=hbad.out (by rw [hecH.out,decide_eq_false h2];simp)
        have h2I:(0:Int)<(st.t:Int):=by omega
        rw [h1]
        clear hbad hgood hecH h2
        generalize st.chB=cq at *
        go_wp2_with fail
        refine bodyPost_ret (v:= .tuple #[.agg #[.slice none 0 0],.int .i64 (Ls.length:Int),.int .i64 4]) ?_ rfl (hErr.out wr Ls.length hno.out hRr hbw)
        simp [results,results90,go_sem,hqv]
      ·have hno:Hid (RES=([],Ls.length,4)):=hbad.out (by rw [hecH.out,decide_eq_false h1];simp)
       have h1I:(0:Int)<(st.f:Int):=by omega
       clear hbad hgood hecH h1
       generalize st.chB=cq at *
       go_wp2_with fail
       refine bodyPost_ret (v:= .tuple #[.agg #[.slice none 0 0],.int .i64 (Ls.length:Int),.int .i64 4]) ?_ rfl (hErr.out wr Ls.length hno.out hRr hbw)
       simp [results,results90,go_sem,hqv]
end Go.Proofs.YtcclgodahlinbaaGreatDoor
