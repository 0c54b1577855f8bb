import Derived.Test.YtcclgodahlinbaaGreatDoorA14
import Derived.Test.YtcclgodahlinbaaGreatDoorA15
import Derived.Test.YtcclgodahlinbaaGreatDoorA19
namespace Go.Proofs.YtcclgodahlinbaaGreatDoor
set_option maxHeartbeats 16000000
open Tryz Go.RowKit Go
set_option maxRecDepth 100000
theorem GY {s:zk} :qQ s=true ↔ (s.kind=32\/s.kind=45\/s.kind=43)/\qA s.text=false:=by
 unfold qQ yn;simp [or_assoc]
theorem Ei {h:HI} (ha:h.lines.all qQ=true):yw h=(chg h.lines && decide ((cntF h.lines:Int)=h.fc) && decide ((cntT h.lines:Int)=h.tc)):=by
 unfold yw;rw [ha,Bool.true_and]
theorem ja {hs:List HI} {a:Option Addr} {cap:Nat} {w:World} (hH:yH w.heap.size w (.slice a hs.length cap) hs) (hL:Lim hs):
 Calls prog 88 #[.agg #[.slice a hs.length cap]] w fun e w'=>e= .returned (.bool (zQ 0 0 hs))/\Below w.heap.size w w':=by
 have hw0:Below w.heap.size w (w.alloc (.cells #[.slice a hs.length cap] 32)):=(Below.refl _ _).alloc (Nat.le_refl _) _
 have hP0:=heap_alloc_new w (.cells #[.slice a hs.length cap] 32)
 have hz0:(w.alloc (.cells #[.slice a hs.length cap] 32)).heap.size=w.heap.size+1:=by simp
 obtain ⟨hL1,hL2⟩:=hL
 go_enter func88,ntmps88
 go_wp2_with fail
 generalize w.alloc (.cells #[.slice a hs.length cap] 32)=W0 at *
 go_loopg [3,4,5] hs.length (fun g t3 t4 t5 wr=> ∃(k:Nat) (en gr:Int),g=hs.length-k/\k<=hs.length/\t3= .int .i64 en/\t4= .int .i64 gr/\t5= .int .i64 k/\Hid (zQ 0 0 hs=zQ en gr (hs.drop k))/\ -(100000*(k:Int))<=gr/\gr<=100000*(k:Int)/\Below W0.heap.size W0 wr)
 case atStart=>exact ⟨0,0,0,by omega,by omega,rfl,rfl,rfl,rfl,by omega,by omega,Below.refl _ _⟩
 case round=>
  obtain ⟨k,en,gr,hgk,hkl,rfl,rfl,rfl,hm,hg1,hg2,hbel⟩:=hrel
  have hG:Hid (gk=hs.length-k):=hgk
  clear hgk
  have hsz:=hbel.size
  have hbw:=hw0.trans (hbel.mono (by omega))
  have p0:wr.cell? ⟨w.heap.size,0,none⟩=some (.slice a hs.length cap):=za ((hbel.block w.heap.size (by omega)).trans hP0) rfl
  by_cases hk:k<hs.length
  ·have hkI:(k:Int)<hs.length:=by omega
   obtain ⟨b,off,a',c',rfl,hbB,r0,r1,r2,r3,r4,hst⟩:=(hH.below hbw).at hk
   obtain ⟨l1, -, -, -, -,l2⟩:=hL2 _ (List.getElem_mem hk)
   have hm2:Hid (zQ 0 0 hs=(fitsI hs[k] en gr && yw hs[k] && zQ (placeI hs[k].fr hs[k].fc+hs[k].fc) (gr+hs[k].tc-hs[k].fc) (hs.drop (k+1)))):=by
    show _=_
    rw [hm.out,List.drop_eq_getElem_cons hk,zQ]
   generalize hs[k]=h at r0 r1 r2 r3 r4 hst hm2 l1 l2
   clear hm
   have hB1:=heap_alloc_new wr (ya h (.slice a' h.lines.length c'))
   have q1:=(Below.refl wr.heap.size wr).alloc (Nat.le_refl _) (ya h (.slice a' h.lines.length c'))
   have hz1:(wr.alloc (ya h (.slice a' h.lines.length c'))).heap.size=wr.heap.size+1:=by simp
   go_wp2_with fail
   generalize wr.alloc (ya h (.slice a' h.lines.length c'))=U at *
   have hbU:=hbel.trans (q1.mono (by omega))
   have hst':=hst.below (q1.mono (by omega))
   have hE:Hid (∀wi,Below U.heap.size U wi->Below w.heap.size w wi/\Below W0.heap.size W0 wi/\wi.heap[wr.heap.size]? =some (ya h (.slice a' h.lines.length c'))/\yk w.heap.size wi (.slice a' h.lines.length c') h.lines/\wr.heap.size<wi.heap.size):=by
    intro wi hbi
    have hzi:=hbi.size
    exact ⟨(hw0.trans (hbU.mono (by omega))).trans (hbi.mono (by have:=hw0.size;omega)),hbU.trans (hbi.mono (by omega)),(hbi.block wr.heap.size (by omega)).trans hB1,hst'.below (hbi.mono (by omega)),by omega⟩
   clear r0 r1 r2 r3 r4 p0 hst hst' hB1 hbU q1 hbel hbw
   unfold ya at hE
   go_loopg [7,8,9,10] h.lines.length (fun g t7 t8 t9 t10 wi=> ∃j:Nat,g=h.lines.length-j/\j<=h.lines.length/\t7= .int .i64 (cntF (h.lines.take j):Nat)/\t8= .int .i64 (cntT (h.lines.take j):Nat)/\t9= .bool (chg (h.lines.take j))/\t10= .int .i64 j/\Hid ((h.lines.take j).all qQ=true)/\Below U.heap.size U wi)
   case atStart=>exact ⟨0,by omega,by omega,rfl,rfl,rfl,rfl,rfl,Below.refl _ _⟩
   case round=>
    rename World=>wi
    obtain ⟨j,hgj,hjl,rfl,rfl,rfl,rfl,hal,hbi⟩:=hrel
    have hGj:Hid (_=h.lines.length-j):=hgj
    clear hgj
    obtain ⟨hbwi,hb0i,hBi,hsi,hlti⟩:=hE.out wi hbi
    have hszi:=hbi.size
    have x4:wi.cell? ⟨wr.heap.size,4,none⟩=some (.slice a' h.lines.length c'):=za hBi rfl
    have hn1:cntF (h.lines.take j)<=1048576:=by have:=Dg (h.lines.take j);simp at this;omega
    have hn2:cntT (h.lines.take j)<=1048576:=by have:=DU (h.lines.take j);simp at this;omega
    by_cases hj:j<h.lines.length
    ·have hjI:(j:Int)<h.lines.length:=by omega
     obtain ⟨bb,off2,rfl,hbB2,s0,s1⟩:=hsi.at hj
     have hF1:Hid (cntF (h.lines.take (j+1))=cntF (h.lines.take j)+if h.lines[j].kind=43 then 0 else 1):=Xc hj
     have hT1:Hid (cntT (h.lines.take (j+1))=cntT (h.lines.take j)+if h.lines[j].kind=45 then 0 else 1):=Xg hj
     have hC1:Hid (chg (h.lines.take (j+1))=(chg (h.lines.take j) || h.lines[j].kind !=32)):=VD hj
     have hA1:Hid ((h.lines.take (j+1)).all qQ=((h.lines.take j).all qQ && qQ h.lines[j])):=VX hj
     have hbad:Hid (qQ h.lines[j]=false->zQ 0 0 hs=false):=fun hl=>by rw [hm2.out,YV hj hl];simp
     obtain ⟨m1,m2⟩:=l2 _ (List.getElem_mem hj)
     generalize h.lines[j]=s at *
     have hli:=fun w=>Xm s.text w (by omega)
     have hB2:=heap_alloc_new wi (.cells #[.int .u8 (s.kind:Int),.string s.text] 93)
     have q2:=(Below.refl wi.heap.size wi).alloc (Nat.le_refl _) (.cells #[.int .u8 (s.kind:Int),.string s.text] 93)
     have hzV:(wi.alloc (.cells #[.int .u8 (s.kind:Int),.string s.text] 93)).heap.size=wi.heap.size+1:=by simp
     have hbV:=hbi.trans (q2.mono (by omega))
     have hbV0:=hbwi.trans (q2.mono (by have:=hbwi.size;omega))
     have y0:(wi.alloc (.cells #[.int .u8 (s.kind:Int),.string s.text] 93)).cell? ⟨wi.heap.size,0,none⟩=some (.int .u8 (s.kind:Int)):=za hB2 rfl
     have y1:(wi.alloc (.cells #[.int .u8 (s.kind:Int),.string s.text] 93)).cell? ⟨wi.heap.size,1,none⟩=some (.string s.text):=za hB2 rfl
     cases hn:qA s.text with
     | true=>
       have hR:Hid (zQ 0 0 hs=false):=hbad.out (by unfold qQ;rw [hn];simp)
       rw [hn] at hli
       clear hn hbad
       go_wp2_with (go_at_call 117;refine (hli _).mono ?_;rintro e w' ⟨rfl,rfl⟩)
       go_ret
       exact ⟨by rw [hR.out]<;>rfl,hbV0⟩
     | false=>
       rw [hn] at hli
       by_cases hkk:s.kind=32\/s.kind=45\/s.kind=43
       ·have hA2:Hid ((h.lines.take (j+1)).all qQ=true):=by show _=_;rw [hA1.out,hal.out,GY.2 ⟨hkk,hn⟩];rfl
        clear hn hbad hA1 hal
        generalize cntF (h.lines.take j)=cF at *
        generalize cntT (h.lines.take j)=cT at *
        generalize chg (h.lines.take j)=cC at *
        generalize hsk:s.kind=sk at *
        clear hsk
        rcases hkk with rfl | rfl | rfl
        all_goals cases cC
        all_goals (go_wp2_with (go_at_call 117;refine (hli _).mono ?_;rintro e w' ⟨rfl,rfl⟩))
        all_goals go_roundg (h.lines.length-(j+1))
        all_goals first | (have:=hGj.out;omega) | exact ⟨j+1,rfl,by omega,by rw [hF1.out];first | rfl | simp,by rw [hT1.out];first | rfl | simp,by rw [hC1.out];rfl,by push_cast;rfl,hA2,hbV⟩
       ·have hR:Hid (zQ 0 0 hs=false):=hbad.out (by rw [Bool.eq_false_iff];intro h2;exact hkk (GY.1 h2).1)
        have x1:((s.kind:Int)==32)=false:=by rw [beq_eq_false_iff_ne];omega
        have x2:((s.kind:Int)==45)=false:=by rw [beq_eq_false_iff_ne];omega
        have x3:((s.kind:Int)==43)=false:=by rw [beq_eq_false_iff_ne];omega
        have x1':((s.kind:Int) !=32)=true:=by simp [bne,x1]
        have x2':((s.kind:Int) !=45)=true:=by simp [bne,x2]
        have x3':((s.kind:Int) !=43)=true:=by simp [bne,x3]
        clear hn hbad hkk
        go_wp2_with (go_at_call 117;refine (hli _).mono ?_;rintro e w' ⟨rfl,rfl⟩)
        go_ret
        exact ⟨by rw [hR.out]<;>rfl,hbV0⟩
    ·have hjI: ¬((j:Int)<h.lines.length):=by omega
     have hEj:Hid (h.lines.take j=h.lines):=List.take_of_length_le (by omega)
     rw [hEj.out] at hal hn1 hn2 ⊢
     have hbr:=Ei hal.out
     have x0:wi.cell? ⟨wr.heap.size,0,none⟩=some (.int .i64 h.fr):=za hBi rfl
     have x1:wi.cell? ⟨wr.heap.size,1,none⟩=some (.int .i64 h.fc):=za hBi rfl
     have x2:wi.cell? ⟨wr.heap.size,2,none⟩=some (.int .i64 h.tr):=za hBi rfl
     have x3:wi.cell? ⟨wr.heap.size,3,none⟩=some (.int .i64 h.tc):=za hBi rfl
     have hfo:=XH h (.slice a' h.lines.length c') en gr wi (by omega) (by omega)
     unfold qn at hfo
     have hcell:Hid (∀w2,Below wi.heap.size wi w2->w2.heap[wr.heap.size]? =some (.cells #[.int .i64 h.fr,.int .i64 h.fc,.int .i64 h.tr,.int .i64 h.tc,.slice a' h.lines.length c'] 61 (0,0))/\Below w.heap.size w w2/\Below W0.heap.size W0 w2):=fun w2 hb2=>
      ⟨(hb2.block wr.heap.size hlti).trans hBi,hbwi.trans (hb2.mono hbwi.size),hb0i.trans (hb2.mono hb0i.size)⟩
     cases hf:fitsI h en gr with
     | false=>
       have hR:Hid (zQ 0 0 hs=false):=by show _=_;rw [hm2.out,hf];rfl
       rw [hf] at hfo
       clear hf hbr hal hm2
       generalize cntF h.lines=cF at *
       generalize cntT h.lines=cT at *
       generalize chg h.lines=cC at *
       go_wp2_with (go_at_call 120;refine hfo.mono ?_;rintro e w2 ⟨rfl,hb2⟩;obtain ⟨hB2,hbw2,hb02⟩:=hcell.out w2 hb2)
       go_ret
       exact ⟨by rw [hR.out]<;>rfl,hbw2⟩
     | true=>
       rw [hf] at hfo
       obtain ⟨n1,n2,_⟩:=qj.1 hf
       have hN1:=zH.1 n1
       have hN2:=zH.1 n2
       have hpr:=xE n1
       cases hc:chg h.lines with
       | false=>
         have hR:Hid (zQ 0 0 hs=false):=by show _=_;rw [hm2.out,hbr,hc];simp
         clear hf hbr hal hm2 hc n1 n2 hN1 hN2
         generalize cntF h.lines=cF at *
         generalize cntT h.lines=cT at *
         go_wp2_with (go_at_call 120;refine hfo.mono ?_;rintro e w2 ⟨rfl,hb2⟩;obtain ⟨hB2,hbw2,hb02⟩:=hcell.out w2 hb2)
         go_ret
         exact ⟨by rw [hR.out]<;>rfl,hbw2⟩
       | true=>
         by_cases e1:(cntF h.lines:Int)=h.fc
         ·by_cases e2:(cntT h.lines:Int)=h.tc
          ·have hR:Hid (zQ 0 0 hs=zQ (placeI h.fr h.fc+h.fc) (gr+h.tc-h.fc) (hs.drop (k+1))):=by show _=_;rw [hm2.out,hbr,hc,hf,decide_eq_true e1,decide_eq_true e2];rfl
           have hpl:=fun w=>qw h.fr h.fc w (by omega) (by omega)
           rw [e1,e2]
           have e3:(h.fc !=h.fc)=false:=by simp
           have e4:(h.tc !=h.tc)=false:=by simp
           have w1:IntKind.i64.wrap (placeI h.fr h.fc+h.fc)=placeI h.fr h.fc+h.fc:=by rw [IntKind.wrap_i64];omega
           have w2:IntKind.i64.wrap (gr+h.tc)=gr+h.tc:=by rw [IntKind.wrap_i64];omega
           have w3:IntKind.i64.wrap (gr+h.tc-h.fc)=gr+h.tc-h.fc:=by rw [IntKind.wrap_i64];omega
           have hb1: -(100000*((k+1:Nat):Int))<=gr+h.tc-h.fc/\gr+h.tc-h.fc<=100000*((k+1:Nat):Int):=⟨by omega,by omega⟩
           have hbH:Hid _:=hb1
           clear hf hbr hal hm2 hc n1 n2 hN1 hN2 e1 e2 hb1 hn1 hn2
           generalize placeI h.fr h.fc=PL at *
           go_wp2_with (first | (go_at_call 120;refine hfo.mono ?_;rintro e w2 ⟨rfl,hb2⟩;obtain ⟨hB2,hbw2,hb02⟩:=hcell.out w2 hb2;have z0:w2.cell? ⟨wr.heap.size,0,none⟩=some (.int .i64 h.fr):=za hB2 rfl;have z1:w2.cell? ⟨wr.heap.size,1,none⟩=some (.int .i64 h.fc):=za hB2 rfl;have z3:w2.cell? ⟨wr.heap.size,3,none⟩=some (.int .i64 h.tc):=za hB2 rfl) | (go_at_call 121;refine (hpl _).mono ?_;rintro e w3 ⟨rfl,rfl⟩))
           go_roundg (hs.length-(k+1))
           ·exact ⟨k+1,_,_,rfl,by omega,rfl,rfl,by push_cast;rfl,hR,hbH.out.1,hbH.out.2,hb02⟩
           ·have:=hG.out;omega
          ·have hR:Hid (zQ 0 0 hs=false):=by show _=_;rw [hm2.out,hbr,decide_eq_false e2];simp
           rw [e1]
           have e3:(h.fc !=h.fc)=false:=by simp
           have e4:(((cntT h.lines:Nat):Int) !=h.tc)=true:=by simpa using e2
           clear hf hbr hal hm2 hc n1 n2 hN1 hN2 e1 e2 hn1
           generalize cntT h.lines=cT at *
           go_wp2_with (go_at_call 120;refine hfo.mono ?_;rintro e w2 ⟨rfl,hb2⟩;obtain ⟨hB2,hbw2,hb02⟩:=hcell.out w2 hb2;have z1:w2.cell? ⟨wr.heap.size,1,none⟩=some (.int .i64 h.fc):=za hB2 rfl;have z3:w2.cell? ⟨wr.heap.size,3,none⟩=some (.int .i64 h.tc):=za hB2 rfl)
           go_ret
           exact ⟨by rw [hR.out]<;>rfl,hbw2⟩
         ·have hR:Hid (zQ 0 0 hs=false):=by show _=_;rw [hm2.out,hbr,decide_eq_false e1];simp
          have e3:(((cntF h.lines:Nat):Int) !=h.fc)=true:=by simpa using e1
          clear hf hbr hal hm2 hc n1 n2 hN1 hN2 e1
          generalize cntF h.lines=cF at *
          generalize cntT h.lines=cT at *
          go_wp2_with (go_at_call 120;refine hfo.mono ?_;rintro e w2 ⟨rfl,hb2⟩;obtain ⟨hB2,hbw2,hb02⟩:=hcell.out w2 hb2;have z1:w2.cell? ⟨wr.heap.size,1,none⟩=some (.int .i64 h.fc):=za hB2 rfl)
          go_ret
          exact ⟨by rw [hR.out]<;>rfl,hbw2⟩
  ·have hkI: ¬((k:Int)<hs.length):=by omega
   have hF:Hid (zQ 0 0 hs=true):=by show _=_;rw [hm.out,List.drop_eq_nil_of_le (by omega)];rfl
   clear hm
   go_wp2_with fail
   go_ret
   exact ⟨by rw [hF.out]<;>rfl,hbw⟩
section
variable {P:Program} {ops:Array Oper} {Q:Exit->Act->World->Prop}
theorem zX {i:Nat} {o:Oper} {a:Act} {w w':World} {v:Value} {K:Act->World->Prop} (hi:ops[i]? =some o) (hg:o.guard=none) (hrun:(execOp a.eval o).run P w= .ok (.value v) w') (hK:K (a.put o.dst v) w'):wpOp P ops Q i K a w:=by
 have hw:Region.wanted o (yielded ops a.tmps)=true:=by simp [Region.wanted,hg]
 unfold wpOp
 simp only [hi]
 rw [if_pos hw]
 left
 unfold Oper.wp
 rw [hrun]
 exact hK
theorem xj {k:Nat} {o:Oper} {a:Act} {w:World} {K:Act->World->Prop} (hk:ops[k]? =some o) (hgd:o.guard=none) (s x:Operand) (t:TypeId)
 (ho:o.op= .call { callee:= .builtin .append,args:= #[s,x],argTypes:= #[t,t] })
 (base:Nat) (e:TypeId) (i:TypeInfo) (z:Value) (size bytes:Nat) (ht:P.underlying t=some (.slice e)) (hi:P.info? e=some i) (hz:i.zero=some z)
 (hsize:i.size=size) (hby:i.bytes=bytes) (hzs:z.cells.size=size) (hsz:0<size)
 (v:Value) (n:Nat) (xs:List Value) (hs:a.eval s=v) (hown:w.ownsRow base e size v n xs)
 (ad:Addr) (m c:Nat) (news:List Value) (hx:a.eval x= .slice (some ad) m c) (hl:news.length=m*size) (hnews: ∀j u,news[j]? =some u->w.cell? (ad.add j)=some u) (h1: ∀u∈news,u.oneCell'=true)
 (h63:n+m<=maxLen) (hbytes:(n+m)*bytes<=140737488355328) (hbase:base<=w.heap.size)
 (h: ∀v' w',w'.ownsRow base e size v' (n+m) (xs++news)->((v'.ownBlock=v.ownBlock/\w.grownBy w' v.ownBlock)\/((∀g,v'.ownBlock=some g->w.heap.size<=g)/\w.grownBy w' none))->K (a.put o.dst v') w'):wpOp P ops Q k K a w:=by
 obtain ⟨v',w',hr,r1,r2⟩:=kD (P:=P) w base t o.type e i z size bytes ht hi hz hsize hby hzs hsz v n xs hown ad m c news hl hnews h1 h63 hbytes hbase
 refine zX hk hgd (w':=w') (v:=v') ?_ (h v' w' r1 r2)
 unfold execOp
 simp only [ho,resolve,invoke,builtin,Sem.run_bind,Sem.run_pure,Result.andThen_ok,List.map_toArray,List.map_cons,List.map_nil,hs,hx,hr]
def jp (P:Program) (md:Region.Mode) (ops:Array Oper) (Q:Exit->Act->World->Prop) (st:Nat) (I:World->Prop):Nat->Array Bool->Act->World->Prop
 | 0,l,a,w=>(l.getD st true=false->I w)/\Region.ready md ops l= []/\Q .normal a w
 | n+1,l,a,w=>(l.getD st true=false->I w)/\(Region.ready md ops l= []->Q .normal a w)/\ ∀i∈Region.ready md ops l,wpOp P ops Q i (jp P md ops Q st I n (l.setIfInBounds i true)) a w
variable {md:Region.Mode}
theorem jp.world {st:Nat} {I:World->Prop} {n:Nat} {l:Array Bool} {a:Act} {w:World} (h:jp P md ops Q st I n l a w):l.getD st true=false->I w:=by
 cases n with
 | zero=>exact h.1
 | succ n=>exact h.1
theorem jp.any {st:Nat} {I:World->Prop} : ∀ {n:Nat} {l:Array Bool} {a:Act} {w:World},jp P md ops Q st I n l a w->wpAny P md ops Q n l a w
 | 0,_,_,_,h=>h.2
 | _+1,_,_,_,h=>⟨h.2.1,fun i hi=>wpOp_mono (fun _ _ h'=>jp.any h') (h.2.2 i hi)⟩
theorem QC {st:Nat} {I:World->Prop} {i:Nat} {o:Oper} {v:Value} (hi:ops[i]? =some o) (hsel:Region.noSelect ops=true) (hQ: ∀c a w,Q (.panic c) (a.put o.dst v) w->Q (.panic c) a w)
 (hdep: ∀p,ops[st]? =some p-> ∃e∈p.after,Region.binds md e=true/\e.on=i) (hsi:i≠st):
 ∀(n:Nat) (l:Array Bool) (a:Act) (w:World),l.getD st true=false->(∀j p,ops[j]? =some p->j≠i->l.getD j true=false->(∀e∈p.after,Region.binds md e=true->e.on≠i)->o.apart ops p=true)->
  i∈Region.ready md ops l->yP P ops I o v a->jp P md ops Q st I n (l.setIfInBounds i true) (a.put o.dst v) w->jp P md ops Q st I (n+1) l a w
 | n,l,a,w,hst,hf,hr,hy,h=>by
   have hns:=Region.noSelect_spec hsel
   have hIw:I w:=h.world (by rw [getD_set_ne true hsi];exact hst)
   refine ⟨fun _=>hIw,fun h0=>(by rw [h0] at hr;cases hr),fun j hj=> ?_⟩
   by_cases hji:j=i
   ·subst hji
    exact hy.op hi hIw h
   ·have hj2:=ready_mono hj hji
    cases n with
    | zero=>rw [h.2.1] at hj2;cases hj2
    | succ n=>
      obtain ⟨hju,p,hp,hall⟩:=mem_ready.1 hj
      have hiu:=(mem_ready.1 hr).1
      have hno: ∀e∈p.after,Region.binds md e=true->e.on≠i:=fun e he hb heq=>by
       have h2:=hall e he hb
       rw [heq] at h2
       by_cases hs:i<l.size
       ·simp [hs] at hiu h2;rw [hiu] at h2;cases h2
       ·simp [Array.getElem?_eq_none (Nat.le_of_not_lt hs)] at h2
      have hjs:j≠st:=by
       rintro rfl
       obtain ⟨e,he,hb,heq⟩:=hdep p hp
       exact hno e he hb heq
      have h2:=Kx hp (hf j p hp hji hju hno) (fun cs b=>hns i o cs b hi) (fun cs b=>hns j p cs b hp) hQ hy (h.2.2 j hj2)
      refine wpOp_mono (fun a' w' h3=>QC hi hsel hQ hdep hsi n _ a' w' (by rw [getD_set_ne true hjs];exact hst) (fun k q hk hki hun hno=>hf k q hk hki ?_ hno) (ready_mono hr (Ne.symm hji)) h3.1 (by rw [Array.setIfInBounds_comm _ _ hji];exact h3.2)) h2
      by_cases hjk:j=k
      ·subst hjk;exact hju
      ·rw [getD_set_ne true hjk] at hun;exact hun
def Gu (md:Region.Mode) (ops:Array Oper) (st i:Nat):Bool:=match ops[st]? with
 | some p=>p.after.any fun e=>Region.binds md e && decide (e.on=i)
 | none=>false
theorem FO {st:Nat} {I:World->Prop} {i:Nat} {o:Oper} {v:Value} {n:Nat} {l:Array Bool} {a:Act} {w:World} (hi:ops[i]? =some o) (hs:Region.noSelect ops=true) (hf:Region.free md ops l i=true) (hr:(Region.ready md ops l).contains i=true)
 (hst:l.getD st true=false) (hdep:Gu md ops st i=true) (hsi:decide (i≠st)=true)
 (hQ: ∀c a w,Q (.panic c) (a.put o.dst v) w->Q (.panic c) a w) (hy:yP P ops I o v a) (h:jp P md ops Q st I n (l.setIfInBounds i true) (a.put o.dst v) w):jp P md ops Q st I (n+1) l a w:=by
 refine QC hi hs hQ ?_ (of_decide_eq_true hsi) n l a w hst (fun j p hj hji hun hno=>Region.free_spec hi hf j p hj hji hun hno) (by simpa using hr) hy h
 intro p hp
 unfold Gu at hdep
 rw [hp] at hdep
 simp only [Array.any_eq_true',Bool.and_eq_true,decide_eq_true_eq] at hdep
 obtain ⟨e,he,h1,h2⟩:=hdep
 exact ⟨e,he,h1,h2⟩
theorem zw {st:Nat} {I:World->Prop} {i:Nat} {o:Oper} {v:Value} {n:Nat} {l:Array Bool} {a:Act} {w:World} (hi:ops[i]?=some o) (hh:(Region.noSelect ops && (Region.free md ops l i && ((Region.ready md ops l).contains i && (!(l.getD st true) && (Gu md ops st i && decide (i≠st))))))=true) (hQ: ∀c a w,Q (.panic c) (a.put o.dst v) w->Q (.panic c) a w) (hy:yP P ops I o v a) (h:jp P md ops Q st I n (l.setIfInBounds i true) (a.put o.dst v) w):jp P md ops Q st I (n+1) l a w:=by
 simp only [Bool.and_eq_true,Bool.not_eq_true'] at hh
 obtain ⟨h1,h2,h3,h4,h5,h6⟩:=hh
 exact FO hi h1 h2 h3 h4 h5 h6 hQ hy h
theorem zE {st:Nat} {I:World->Prop} {i:Nat} {n:Nat} {l:Array Bool} {a:Act} {w:World} (hw:I w) (hr:Region.ready md ops l= [i]) (h:wpOp P ops Q i (jp P md ops Q st I n (l.setIfInBounds i true)) a w):jp P md ops Q st I (n+1) l a w:=
 ⟨fun _=>hw,fun h0=>(by rw [hr] at h0;cases h0),fun j hj=>by rw [hr,List.mem_singleton] at hj;subst hj;exact h⟩
theorem ql {st:Nat} {I:World->Prop} {l:Array Bool} {a:Act} {w:World} (hd:l.getD st true=true) (hr:Region.ready md ops l= []) (h:Q .normal a w):jp P md ops Q st I 0 l a w:=⟨fun h=>(by rw [hd] at h;cases h),hr,h⟩
theorem qP {w w':World} {v v':Value} (h:(v'.ownBlock=v.ownBlock/\w.grownBy w' v.ownBlock)\/((∀g,v'.ownBlock=some g->w.heap.size<=g)/\w.grownBy w' none)):w.grownBy w' v.ownBlock/\(v'.ownBlock=v.ownBlock\/ ∀g,v'.ownBlock=some g->w.heap.size<=g):=by
 rcases h with ⟨h1,h2⟩ | ⟨h1,h2⟩
 ·exact ⟨h2,.inl h1⟩
 ·exact ⟨⟨h2.os,h2.tape,h2.output,h2.size,fun g hg _=>h2.block g hg (by simp)⟩,.inr h1⟩
end
end Go.Proofs.YtcclgodahlinbaaGreatDoor
