import Derived.Test.YtcclgodahlinbaaGreatDoorA22
import Derived.Test.YtcclgodahlinbaaGreatDoorA23
namespace Go.Proofs.YtcclgodahlinbaaGreatDoor
set_option maxHeartbeats 16000000
open Tryz Go.RowKit Go
set_option maxRecDepth 100000
structure XAt (XB:Nat) (a b c d:Value) (v:Value) (acc:List zk) (w:World):Prop where
 blk:w.heap[XB]? =some (.cells #[a,b,c,d,v] 61 (0,0))
 own:w.ownsRow (XB+1) 93 2 v acc.length (zg acc)
theorem XAt.push {XB k:Nat} {a b c d v v':Value} {acc:List zk} {w w4:World} {ob:Obj} {t:ByteArray} (h:XAt XB a b c d v acc w) (hown:w4.ownsRow (XB+1) 93 2 v' (acc.length+1) (zg acc++ [.int .u8 (k:Nat),.string t])) (hg:(w.alloc ob).grownBy w4 v.ownBlock):
 w4.heap[XB]? =some (.cells #[a,b,c,d,v] 61 (0,0))/\XAt XB a b c d v' (acc++ [⟨k,t⟩]) (w4.setCell ⟨XB,4,none⟩ v')/\ ∀N,N<=XB->Below N w (w4.setCell ⟨XB,4,none⟩ v'):=by
 have hlt:XB<w.heap.size:=(Array.getElem?_eq_some_iff.1 h.blk).1
 have hne:v.ownBlock≠some XB:=zT h.own h.blk (by decide)
 have hb4:w4.heap[XB]? =some (.cells #[a,b,c,d,v] 61 (0,0)):=((hg.block XB (by rw [World.size_alloc];omega) (fun e=>hne e.symm)).trans (Below.heap_alloc w ob XB hlt)).trans h.blk
 refine ⟨hb4,⟨zb _ _ _ _ _ _ _ hb4,?_⟩,fun N hN=> ?_⟩
 ·rw [List.length_append,zB]
  exact hown.kept (zc w4 XB 4 v') (.inr (zT hown hb4 (by decide)))
 ·have hz:=hg.size
  rw [World.size_alloc] at hz
  exact (((Below.refl N w).alloc (by omega) ob).grown hg (by rw [World.size_alloc];omega) (fun k e=>by have:=(h.own.lt k e).1;omega)).setCell (p:=⟨XB,4,none⟩) hN _
theorem XAt.drew {XB:Nat} {a b c d v:Value} {acc:List zk} {w:World} (h:XAt XB a b c d v acc w):XAt XB a b c d v acc w.drew:=⟨h.blk,h.own⟩
theorem EP {L:List zk} {k:Nat} (h:k<L.length) (hk:L[k].kind=32):yX (L.take (k+1))=yX (L.take k)++ [⟨32,L[k].text⟩]/\(revF (L.take (k+1))).2= []:=by
 unfold yX
 rw [Zw h]
 unfold xZ
 rw [if_neg (by omega),if_neg (by omega)]
 simp
theorem Vg {L:List zk} {k:Nat} (h:k<L.length) (hk:L[k].kind=43):(revF (L.take (k+1))).1=(revF (L.take k)).1++ [⟨45,L[k].text⟩]/\(revF (L.take (k+1))).2=(revF (L.take k)).2:=by
 rw [Zw h]
 unfold xZ
 rw [if_neg (by omega),if_pos hk]
 simp
theorem JY {L:List zk} {k:Nat} (h:k<L.length) (hk:L[k].kind=45):(revF (L.take (k+1))).1=(revF (L.take k)).1/\(revF (L.take (k+1))).2=(revF (L.take k)).2++ [⟨43,L[k].text⟩]:=by
 rw [Zw h]
 unfold xZ
 rw [if_pos hk]
 simp
theorem jH (L:List zk) (k:Nat) (hk:k<=L.length):(revF (L.take k)).1.length+(revF (L.take k)).2.length=k:=by
 rw [Qh,List.length_take]
 omega
theorem Qi {hs:List HI} {a:Option Addr} {cap:Nat} {w:World} (hH:yH w.heap.size w (.slice a hs.length cap) hs) (hL:Lim hs):
 Calls prog 91 #[.agg #[.slice a hs.length cap]] w fun e w'=> ∃aq cq,e= .returned (.tuple #[.agg #[.slice aq (revA hs).1.length cq],.int .i64 (revA hs).2])/\Yc w.heap.size w' (.slice aq (revA hs).1.length cq) (revA hs).1/\Below w.heap.size w w':=by
 have hb0:=((Below.refl w.heap.size w).alloc (Nat.le_refl _) (.cells #[.slice a hs.length cap] 32)).alloc (by simp) (.cells #[.slice none 0 0] 32)
 have hP1:=heap_alloc_new w (.cells #[.slice a hs.length cap] 32)
 have hP2:=heap_alloc_new (w.alloc (.cells #[.slice a hs.length cap] 32)) (.cells #[.slice none 0 0] 32)
 rw [World.size_alloc] at hP2
 have hP1':=(Below.heap_alloc (w.alloc (.cells #[.slice a hs.length cap] 32)) (.cells #[.slice none 0 0] 32) w.heap.size (by simp)).trans hP1
 have hz:((w.alloc (.cells #[.slice a hs.length cap] 32)).alloc (.cells #[.slice none 0 0] 32)).heap.size=w.heap.size+2:=by simp
 have hir:=ja ((hH.below hb0).mono hb0.size) hL
 cases hr:zQ 0 0 hs with
 | false=>
   have hA:revA hs=([],4):=by unfold revA;rw [hr];rfl
   rw [hA]
   rw [hr] at hir
   clear hA hr
   go_enter func91,ntmps91
   go_wp2_with fail
   generalize (w.alloc (.cells #[.slice a hs.length cap] 32)).alloc (.cells #[.slice none 0 0] 32)=W0 at *
   refine hir.mono ?_
   rintro e W1 ⟨rfl,b1⟩
   have hQ2:=(b1.block (w.heap.size+1) (by omega)).trans hP2
   have q0:W1.cell? ⟨w.heap.size+1,0,none⟩=some (.slice none 0 0):=za hQ2 rfl
   have qf: ∀k,W1.frozen? ⟨w.heap.size+1,k,none⟩=false:=fun k=>zi hQ2
   go_wp2_with fail
   refine bodyPost_ret (v:= .tuple #[.agg #[.slice none 0 0],.int .i64 4]) ?_ rfl ⟨none,0,rfl,⟨[],.inl ⟨rfl,rfl⟩,rfl⟩,?_⟩
   ·have hq:(W1.setCell ⟨w.heap.size+1,0,none⟩ (.slice none 0 0)).cell? ⟨w.heap.size+1,0,none⟩=some (.slice none 0 0):=za (zb _ _ _ _ _ _ _ hQ2) rfl
    simp [results,results91,go_sem,hq]
   ·exact (hb0.trans (b1.mono (by omega))).setCell (p:=⟨w.heap.size+1,0,none⟩) (Nat.le_succ _) _
 | true=>
   have hA:Hid (revA hs=(hs.map fun h=>qE h.toM,0)):=by show _=_;unfold revA;rw [hr];rfl
   have hal:Hid _:=xL hr
   rw [hr] at hir
   clear hr
   obtain ⟨hL1,hL2⟩:=hL
   generalize hres:revA hs=RES at *
   have hresH:Hid (revA hs=RES):=hres
   clear hres
   go_enter func91,ntmps91
   go_wp2_with fail
   generalize (w.alloc (.cells #[.slice a hs.length cap] 32)).alloc (.cells #[.slice none 0 0] 32)=W0 at *
   refine hir.mono ?_
   rintro e W1 ⟨rfl,b1⟩
   have hz1:=b1.size
   have hQ1:=(b1.block w.heap.size (by omega)).trans hP1'
   have hQ2:=(b1.block (w.heap.size+1) (by omega)).trans hP2
   have hbW1:=hb0.trans (b1.mono (by omega))
   have hO0:=heap_alloc_new W1 (.cells #[.slice none 0 0] 32)
   have hbO:=(Below.refl W1.heap.size W1).alloc (Nat.le_refl _) (.cells #[.slice none 0 0] 32)
   clear hir hP1 hP2 hP1' hb0 b1
   go_wp2_with fail
   generalize W1.alloc (.cells #[.slice none 0 0] 32)=W2 at *
   go_loopg [6] hs.length (fun g t6 wr=> ∃(k:Nat) (v:Value) (hv:List HV),g=hs.length-k/\k<=hs.length/\t6= .int .i64 k/\wr.heap[W1.heap.size]? =some (.cells #[v] 32 (0,0))/\HSo (W1.heap.size+1) v hv wr/\Hid (hv.map (·.1)=(hs.take k).map fun h=>qE h.toM)/\Below W1.heap.size W1 wr)
   case atStart=>exact ⟨0,_,[],by omega,by omega,rfl,hO0,.inl ⟨rfl,rfl⟩,rfl,hbO⟩
   case round=>
    obtain ⟨k,v,hv,hgk,hkl,rfl,hO,hso,hmap,hbel⟩:=hrel
    have hG:Hid (gk=hs.length-k):=hgk
    clear hgk hO0 hbO
    have hsz:=hbel.size
    have hbw:=hbW1.trans (hbel.mono (by omega))
    have hOl:W1.heap.size<wr.heap.size:=(Array.getElem?_eq_some_iff.1 hO).1
    have p0:wr.cell? ⟨w.heap.size,0,none⟩=some (.slice a hs.length cap):=za ((hbel.block w.heap.size (by omega)).trans hQ1) rfl
    have hRr:=(hbel.block (w.heap.size+1) (by omega)).trans hQ2
    have hvlH:Hid (hv.length=k):=by show _=_;have:=congrArg List.length hmap.out;simp at this;omega
    have hvl':hv.length<=300000:=by have:=hvlH.out;omega
    obtain ⟨av,cv,hve⟩:=hso.len
    subst hve
    by_cases hk:k<hs.length
    ·have hkI:(k:Int)<hs.length:=by omega
     obtain ⟨b,off,a',c',rfl,hbB,r0,r1,r2,r3,r4,hst⟩:=(hH.below hbw).at hk
     obtain ⟨l1, -, -, -, -,l2⟩:=hL2 _ (List.getElem_mem hk)
     obtain ⟨n1,n2,nb⟩:=hal.out _ (List.getElem_mem hk)
     have hfn:=Kh nb l2
     have hmk:Hid ((hs.take (k+1)).map (fun h=>qE h.toM)=(hs.take k).map (fun h=>qE h.toM)++ [qE hs[k].toM]):=by show _=_;rw [List.take_succ_eq_append_getElem hk,List.map_append];rfl
     obtain ⟨A,B,C,D,hnn⟩:=YL n1 n2
     have hrv:Hid (qE hs[k].toM=⟨C,D,A,B,yX hs[k].lines⟩):=by
      show _=_
      unfold qE HI.toM
      rw [hnn.e1,hnn.e2,hnn.e3,hnn.e4]
      rfl
     generalize hs[k]=h at *
     rw [hnn.e1] at r0
     rw [hnn.e2] at r1
     rw [hnn.e3] at r2
     rw [hnn.e4] at r3
     clear n1 n2 nb hnn
     generalize h.lines=L at *
     have hB1:=heap_alloc_new wr (.cells #[.int .i64 (A:Int),.int .i64 (B:Int),.int .i64 (C:Int),.int .i64 (D:Int),.slice a' L.length c'] 61)
     have q1:=(Below.refl wr.heap.size wr).alloc (Nat.le_refl _) (.cells #[.int .i64 (A:Int),.int .i64 (B:Int),.int .i64 (C:Int),.int .i64 (D:Int),.slice a' L.length c'] 61)
     have hzB:(wr.alloc (.cells #[.int .i64 (A:Int),.int .i64 (B:Int),.int .i64 (C:Int),.int .i64 (D:Int),.slice a' L.length c'] 61)).heap.size=wr.heap.size+1:=by simp
     have y0:=za (k:=0) hB1 rfl
     have y1:=za (k:=1) hB1 rfl
     have y2:=za (k:=2) hB1 rfl
     have y3:=za (k:=3) hB1 rfl
     go_wp2_with fail
     generalize wr.alloc (.cells #[.int .i64 (A:Int),.int .i64 (B:Int),.int .i64 (C:Int),.int .i64 (D:Int),.slice a' L.length c'] 61)=V1 at *
     have hX1:=heap_alloc_new V1 (.cells #[.int .i64 (C:Int),.int .i64 (D:Int),.int .i64 (A:Int),.int .i64 (B:Int),.slice none 0 0] 61)
     have q2:=(Below.refl V1.heap.size V1).alloc (Nat.le_refl _) (.cells #[.int .i64 (C:Int),.int .i64 (D:Int),.int .i64 (A:Int),.int .i64 (B:Int),.slice none 0 0] 61)
     have hzX:(V1.alloc (.cells #[.int .i64 (C:Int),.int .i64 (D:Int),.int .i64 (A:Int),.int .i64 (B:Int),.slice none 0 0] 61)).heap.size=wr.heap.size+2:=by simp;omega
     have hq12:=q1.trans (q2.mono (by omega))
     have hB2:=(q2.block wr.heap.size (by omega)).trans hB1
     rw [hzB] at hX1
     have hxa0:XAt (wr.heap.size+1) (.int .i64 (C:Int)) (.int .i64 (D:Int)) (.int .i64 (A:Int)) (.int .i64 (B:Int)) (.slice none 0 0) (yX (L.take 0)) (V1.alloc (.cells #[.int .i64 (C:Int),.int .i64 (D:Int),.int .i64 (A:Int),.int .i64 (B:Int),.slice none 0 0] 61)):=⟨hX1,World.ownsRow_nil _ _ _ _⟩
     have hst2:=hst.below (hq12.mono (by have:=hbw.size;omega))
     clear y0 y1 y2 y3 r0 r1 r2 r3 r4 hst q1 q2 hX1 hB1 p0
     generalize V1.alloc (.cells #[.int .i64 (C:Int),.int .i64 (D:Int),.int .i64 (A:Int),.int .i64 (B:Int),.slice none 0 0] 61)=V2 at *
     have hIn:Hid (∀wi,Below (wr.heap.size+1) V2 wi->wi.heap[wr.heap.size]? =some (.cells #[.int .i64 (A:Int),.int .i64 (B:Int),.int .i64 (C:Int),.int .i64 (D:Int),.slice a' L.length c'] 61 (0,0))/\yk w.heap.size wi (.slice a' L.length c') L/\Below wr.heap.size wr wi):=fun wi hb=>
      ⟨(hb.block wr.heap.size (by omega)).trans hB2,hst2.below (hb.mono (by have:=hbw.size;omega)),hq12.trans (hb.mono (by omega))⟩
     go_loopg [9] L.length (fun g t9 wi=> ∃(j:Nat) (vx:Value),g=L.length-j/\j<=L.length/\t9= .int .i64 j/\XAt (wr.heap.size+1) (.int .i64 (C:Int)) (.int .i64 (D:Int)) (.int .i64 (A:Int)) (.int .i64 (B:Int)) vx (yX (L.take j)) wi/\Hid ((revF (L.take j)).2= []\/ ∀hj:j<L.length,L[j].kind=32)/\Below (wr.heap.size+1) V2 wi)
     case atStart=>exact ⟨0,_,by omega,by omega,rfl,hxa0,.inl rfl,Below.refl _ _⟩
     case round=>
      rename World=>wi
      obtain ⟨j,vx,hgj,hjl,rfl,hxa,hbd,hbi⟩:=hrel
      have hGj:Hid (_=L.length-j):=hgj
      clear hgj hxa0
      obtain ⟨hBi,hsti,hbri⟩:=hIn.out wi hbi
      have hszi:=hbri.size
      have x4:wi.cell? ⟨wr.heap.size,4,none⟩=some (.slice a' L.length c'):=za hBi rfl
      have hlx:wr.heap.size+1<wi.heap.size:=(Array.getElem?_eq_some_iff.1 hxa.blk).1
      have hrl:(yX (L.take j)).length<=1048576:=by unfold yX;rw [List.length_append,jH L j hjl];omega
      by_cases hj:j<L.length
      ·have hjI:(j:Int)<L.length:=by omega
       obtain ⟨bb,off2,rfl,hbB2,s0,s1⟩:=hsti.at hj
       have hF:=hfn _ (List.getElem_mem hj)
       by_cases hkeep:L[j].kind=32
       ·have hrk:Hid (yX (L.take (j+1))=yX (L.take j)++ [⟨32,L[j].text⟩]/\(revF (L.take (j+1))).2= []):=EP hj hkeep
        rw [hkeep] at s0
        generalize L[j].text=tx at *
        generalize hacc:yX (L.take j)=acc at *
        have haccH:Hid (yX (L.take j)=acc):=hacc
        clear hkeep hF hacc
        obtain ⟨avx,cvx,hvxe⟩:=zn hxa.own
        subst hvxe
        have hidx:(j:Int)<L.length:=hjI
        have hIw:wi.drew.cell? ⟨wr.heap.size+1,4,none⟩=some (.slice avx acc.length cvx)/\wi.drew.cell? ⟨wr.heap.size,4,none⟩=some (.slice (some ⟨bb,off2,none⟩) L.length c')/\wi.drew.cell? ⟨bb,off2+j*2,none⟩=some (.int .u8 32)/\wi.drew.cell? ⟨bb,off2+j*2+1,none⟩=some (.string tx):=⟨za hxa.blk rfl,x4,s0,s1⟩
        obtain ⟨i0,hi,hz0',hz1',hz2'⟩:=info_parts yJ
        have hone: ∀u∈ [Value.int .u8 32,Value.string tx],u.oneCell'=true:=by intro u hu;simp at hu;rcases hu with rfl | rfl<;>rfl
        have hbb:bb<wi.heap.size:=by have:=hbw.size;omega
        go_wp2_with fail
        refine wp_region_any yg (jp.any (st:=10) (I:=fun w'=>w'.cell? ⟨wr.heap.size+1,4,none⟩=some (.slice avx acc.length cvx)/\w'.cell? ⟨wr.heap.size,4,none⟩=some (.slice (some ⟨bb,off2,none⟩) L.length c')/\w'.cell? ⟨bb,off2+j*2,none⟩=some (.int .u8 32)/\w'.cell? ⟨bb,off2+j*2+1,none⟩=some (.string tx)) ?_)
        refine zw (i:=0) (n:=10) (v:= .pointer (some ⟨wr.heap.size+1,4,none⟩)) rfl (by kernel_rfl) (fun c a w h=>h) ⟨by simp [Region.wanted],fun w' hw=> ?_⟩ ?_
        ·simp [execOp,go_sem,Act.eval]
        refine zw (i:=1) (n:=9) (v:= .slice avx acc.length cvx) rfl (by kernel_rfl) (fun c a w h=>h) ⟨by simp [Region.wanted],fun w' hw=> ?_⟩ ?_
        ·have hc:w'.cell? ⟨wr.heap.size+1,4,none⟩=some (.slice avx acc.length cvx):=hw.1;simp [execOp,go_sem,Act.eval,Act.put,hc]
        refine zw (i:=2) (n:=8) (v:= .pointer (some ⟨wr.heap.size,4,none⟩)) rfl (by kernel_rfl) (fun c a w h=>h) ⟨by simp [Region.wanted],fun w' hw=> ?_⟩ ?_
        ·simp [execOp,go_sem,Act.eval,Act.put]
        refine zw (i:=3) (n:=7) (v:= .slice (some ⟨bb,off2,none⟩) L.length c') rfl (by kernel_rfl) (fun c a w h=>h) ⟨by simp [Region.wanted],fun w' hw=> ?_⟩ ?_
        ·have hc:w'.cell? ⟨wr.heap.size,4,none⟩=some (.slice (some ⟨bb,off2,none⟩) L.length c'):=hw.2.1;simp [execOp,go_sem,Act.eval,Act.put,hc]
        refine zw (i:=4) (n:=6) (v:= .int .i64 (j:Int)) rfl (by kernel_rfl) (fun c a w h=>h) ⟨by simp [Region.wanted],fun w' hw=> ?_⟩ ?_
        ·simp [execOp,go_sem,Act.eval,Act.put]
        refine zw (i:=5) (n:=5) (v:= .pointer (some ⟨bb,off2+j*2,none⟩)) rfl (by kernel_rfl) (fun c a w h=>h) ⟨by simp [Region.wanted],fun w' hw=> ?_⟩ ?_
        ·have hjj:(j:Int)<L.length:=hidx;simp [execOp,go_sem,Act.eval,Act.put,hjj]
        refine zw (i:=6) (n:=4) (v:= .agg #[.int .u8 32,.string tx]) rfl (by kernel_rfl) (fun c a w h=>h) ⟨by simp [Region.wanted],fun w' hw=> ?_⟩ ?_
        ·have hc1:w'.cell? ⟨bb,off2+j*2,none⟩=some (.int .u8 32):=hw.2.2.1;have hc2:w'.cell? ⟨bb,off2+j*2+1,none⟩=some (.string tx):=hw.2.2.2;simp [execOp,go_sem,Act.eval,Act.put,hc1,hc2]
        refine zE (i:=7) (n:=3) hIw (by kernel_rfl) ?_
        refine zX (w':=wi.drew.alloc (.cells #[.int .u8 32,.string tx] 93)) (v:= .slice (some ⟨wi.heap.size,0,none⟩) 1 1) rfl rfl ?_ ?_
        ·simp [execOp,go_sem,Act.eval,Act.put]
        have hIa:(wi.drew.alloc (.cells #[.int .u8 32,.string tx] 93)).cell? ⟨wr.heap.size+1,4,none⟩=some (.slice avx acc.length cvx)/\(wi.drew.alloc (.cells #[.int .u8 32,.string tx] 93)).cell? ⟨wr.heap.size,4,none⟩=some (.slice (some ⟨bb,off2,none⟩) L.length c')/\(wi.drew.alloc (.cells #[.int .u8 32,.string tx] 93)).cell? ⟨bb,off2+j*2,none⟩=some (.int .u8 32)/\(wi.drew.alloc (.cells #[.int .u8 32,.string tx] 93)).cell? ⟨bb,off2+j*2+1,none⟩=some (.string tx):=⟨(World.cell?_of_block (Below.heap_alloc wi.drew _ (wr.heap.size+1) hlx)).trans hIw.1,(World.cell?_of_block (Below.heap_alloc wi.drew _ wr.heap.size (by show wr.heap.size<wi.heap.size;omega))).trans hIw.2.1,(World.cell?_of_block (Below.heap_alloc wi.drew _ bb hbb)).trans hIw.2.2.1,(World.cell?_of_block (Below.heap_alloc wi.drew _ bb hbb)).trans hIw.2.2.2⟩
        refine zE (i:=8) (n:=2) hIa (by kernel_rfl) ?_
        have hxd:=hxa.drew
        refine xj rfl rfl (.tmp 53) (.tmp 59) 59 rfl (wr.heap.size+1+1) 93 i0 _ 2 24 underlying59 hi hz0' hz1' hz2' rfl (by decide) (.slice avx acc.length cvx) acc.length (zg acc) (by simp [Act.eval,Act.put]) (hxd.own.alloc _) ⟨wi.heap.size,0,none⟩ 1 1 [.int .u8 32,.string tx] (by simp [Act.eval,Act.put]) rfl (zt wi.drew _ _) hone (by unfold maxLen;omega) (by omega) (by rw [World.size_alloc];show wr.heap.size+1+1<=wi.heap.size+1;omega) ?_
        intro vl' w4 hown' hgr0
        obtain ⟨hgr, -⟩:=qP hgr0
        clear hgr0
        obtain ⟨g',cap',rfl,_,_⟩:=zv hown' (Nat.succ_pos _)
        obtain ⟨hb4,hx4,hbw4⟩:=hxd.push (k:=32) (t:=tx) hown' hgr
        have f4:w4.cell? ⟨wr.heap.size+1,4,none⟩=some (.slice avx acc.length cvx):=za hb4 rfl
        have ff: ∀k,w4.frozen? ⟨wr.heap.size+1,k,none⟩=false:=fun k=>zi hb4
        have hb5: ∀g,g<wi.heap.size->some g≠Value.ownBlock (.slice avx acc.length cvx)->w4.heap[g]? =wi.heap[g]? :=fun g hg hne=>(hgr.block g (by rw [World.size_alloc];show g<wi.heap.size+1;omega) hne).trans (Below.heap_alloc wi.drew _ g hg)
        have hvbk: ∀g,Value.ownBlock (.slice avx acc.length cvx)=some g->wr.heap.size+1+1<=g:=fun g e=>(hxa.own.lt g e).1
        have hI4:w4.cell? ⟨wr.heap.size+1,4,none⟩=some (.slice avx acc.length cvx)/\w4.cell? ⟨wr.heap.size,4,none⟩=some (.slice (some ⟨bb,off2,none⟩) L.length c')/\w4.cell? ⟨bb,off2+j*2,none⟩=some (.int .u8 32)/\w4.cell? ⟨bb,off2+j*2+1,none⟩=some (.string tx):=⟨f4,(World.cell?_of_block (hb5 wr.heap.size (by omega) (fun e=>by have:=hvbk _ e.symm;omega))).trans hIw.2.1,(World.cell?_of_block (hb5 bb hbb (fun e=>by have:=hvbk _ e.symm;have:=hbw.size;omega))).trans hIw.2.2.1,(World.cell?_of_block (hb5 bb hbb (fun e=>by have:=hvbk _ e.symm;have:=hbw.size;omega))).trans hIw.2.2.2⟩
        refine zE (i:=9) (n:=1) hI4 (by kernel_rfl) ?_
        refine zX (w':=w4) (v:= .pointer (some ⟨wr.heap.size+1,4,none⟩)) rfl rfl (by simp [execOp,go_sem,Act.eval,Act.put]) ?_
        refine zE (i:=10) (n:=0) hI4 (by kernel_rfl) ?_
        refine xv (w':=w4.setCell ⟨wr.heap.size+1,4,none⟩ (.slice (some ⟨g',0,none⟩) (acc.length+1) cap')) rfl rfl ?_ ?_
        ·simp [execOp,go_sem,Act.eval,Act.put,f4,ff]
        have hbF:Below (wr.heap.size+1) V2 (w4.setCell ⟨wr.heap.size+1,4,none⟩ (.slice (some ⟨g',0,none⟩) (acc.length+1) cap')):=hbi.drew.trans (hbw4 (wr.heap.size+1) (Nat.le_refl _))
        refine ql (by kernel_rfl) (by kernel_rfl) ?_
        clear hown' f4 ff hb4 hgr hb5 hI4 hIa hIw hbw4
        generalize w4.setCell ⟨wr.heap.size+1,4,none⟩ (.slice (some ⟨g',0,none⟩) (acc.length+1) cap')=WF at *
        simp only [Act.put]
        go_wp2_with fail
        go_roundg (L.length-(j+1))
        ·refine ⟨j+1,.slice (some ⟨g',0,none⟩) (acc.length+1) cap',rfl,by omega,by push_cast;rfl,?_,.inl hrk.out.2,hbF⟩
         rw [hrk.out.1]
         exact hx4
        ·have:=hGj.out;omega
       ·have hb2:(revF (L.take j)).2= []:=by
         rcases hbd.out with e | e
         ·exact e
         ·exact absurd (e hj) hkeep
        have hr1:yX (L.take j)=(revF (L.take j)).1:=by unfold yX;rw [hb2];simp
        rw [hr1] at hxa
        have hkk:((L[j].kind:Int)==32)=false:=by rw [beq_eq_false_iff_ne];omega
        have hb2H:Hid ((revF (L.take j)).2= []):=hb2
        have hkeepH:Hid (L[j].kind≠32):=hkeep
        clear hb2 hr1 hrl hbd
        go_wp2_with fail
        clear s0 s1 hkk hF
        go_loopg [10] (L.length-j) (fun g t10 wj=> ∃e:Nat,g=L.length-e/\j<=e/\e<=L.length/\(e=j\/j<e)/\t10= .int .i64 e/\Hid (∀i (hi:i<L.length),j<=i->i<e->L[i].kind≠32)/\wi=wj)
        case atStart=>exact ⟨j,by omega,by omega,by omega,.inl rfl,rfl,fun i hi h1 h2=>by omega,rfl⟩
        case round=>
         obtain ⟨e,hge,hje,hel, -,rfl,hnk,rfl⟩:=hrel
         have hGe:Hid (_=L.length-e):=hge
         clear hge
         by_cases hgo: ∃he:e<L.length,L[e].kind≠32
         ·obtain ⟨he,hne⟩:=hgo
          have heI:(e:Int)<L.length:=by omega
          obtain ⟨bb',off2',he1,hbB2',s0',s1'⟩:=hsti.at he
          cases he1
          have hne':((L[e].kind:Int) !=32)=true:=by simp;omega
          have hne'':((L[e].kind:Int)==32)=false:=by rw [beq_eq_false_iff_ne];omega
          have hnk2:Hid (∀i (hi:i<L.length),j<=i->i<e+1->L[i].kind≠32):=by
           intro i hi h1 h2
           by_cases h3:i<e
           ·exact hnk.out i hi h1 h3
           ·obtain rfl:i=e:=by omega
            exact hne
          clear hnk hne
          generalize L[e].kind=ke at *
          go_wp2_with fail
          go_roundg (L.length-(e+1))
          ·exact ⟨e+1,rfl,by omega,by omega,.inr (by omega),by push_cast;rfl,hnk2.out,rfl⟩
          ·have:=hGe.out;omega
         ·have hend:Hid (∀he:e<L.length,L[e].kind=32):=by
           intro he
           apply Classical.byContradiction
           intro h
           exact hgo ⟨he,h⟩
          have hje2:Hid (j<e):=by
           show _<_
           rcases Nat.lt_or_ge j e with h | h
           ·exact h
           ·exfalso
            obtain rfl:e=j:=by omega
            exact hgo ⟨hj,hkeepH.out⟩
          have hout:(¬(e:Int)<L.length)\/(∃he:e<L.length,((L[e].kind:Int) !=32)=false/\wi.cell? ⟨bb,off2+e*2,none⟩=some (.int .u8 32)):=by
           by_cases he:e<L.length
           ·right
            refine ⟨he,by rw [hend.out he];rfl,?_⟩
            obtain ⟨bb',off2',he1,_,s0',_⟩:=hsti.at he
            cases he1
            rw [s0',hend.out he]
            rfl
           ·left;omega
          clear hgo
          have hP0:XAt (wr.heap.size+1) (.int .i64 (C:Int)) (.int .i64 (D:Int)) (.int .i64 (A:Int)) (.int .i64 (B:Int)) vx (revF (L.take j)).1 wi:=hxa
          have hcut:Hid (∀K':Prop,K'->K'):=fun _ h=>h
          rcases hout with ho | ⟨he,ho,ho2⟩
          all_goals try have heI:(e:Int)<L.length:=by omega
          all_goals
           go_wp2_with fail
           go_loopg [11] (e-j) (fun g t wq=> ∃(q:Nat) (vx:Value),g=e-q/\j<=q/\q<=e/\t= .int .i64 q/\XAt (wr.heap.size+1) (.int .i64 (C:Int)) (.int .i64 (D:Int)) (.int .i64 (A:Int)) (.int .i64 (B:Int)) vx (revF (L.take q)).1 wq/\Below (wr.heap.size+1) V2 wq)
           case atStart=>exact ⟨j,_,by omega,by omega,by omega,rfl,hxa,hbi⟩
           case round=>
            rename World=>wq
            obtain ⟨q,vx,hgq,hjq,hqe,rfl,hxa,hbi⟩:=hrel
            have hGq:Hid (_=e-q):=hgq
            clear hgq
            obtain ⟨hBi,hsti,hbri⟩:=hIn.out wq hbi
            have hszi:=hbri.size
            have x4:wq.cell? ⟨wr.heap.size,4,none⟩=some (.slice (some ⟨bb,off2,none⟩) L.length c'):=za hBi rfl
            have hlx:wr.heap.size+1<wq.heap.size:=(Array.getElem?_eq_some_iff.1 hxa.blk).1
            have hal:(revF (L.take q)).1.length<=1048576:=by have h1:=jH L q (by omega);have h2:=jH L e (by omega);omega
            by_cases hlt:q<e
            ·have hltI:(q:Int)<(e:Int):=by omega
             have hqL:q<L.length:=by omega
             have hidx:(q:Int)<L.length:=by omega
             obtain ⟨bb',off2',he1,hbB2',s0,s1⟩:=hsti.at hqL
             cases he1
             have hF:=(hfn _ (List.getElem_mem hqL)).1
             have hnk3:=hnk.out q hqL hjq hlt
             by_cases hkd:L[q].kind=43
             ·have hrk:Hid _:=Vg hqL hkd
              rw [hkd] at s0
              generalize L[q].text=tx at *
              have hnew:Hid ((revF (L.take (q+1))).1=(revF (L.take q)).1++ [⟨45,tx⟩]):=hrk.out.1
              generalize (revF (L.take q)).1=acc at *
              clear hkd hF hnk3 hrk
              obtain ⟨avx,cvx,hvxe⟩:=zn hxa.own
              subst hvxe
              have hIw:wq.drew.cell? ⟨wr.heap.size+1,4,none⟩=some (.slice avx acc.length cvx)/\wq.drew.cell? ⟨wr.heap.size,4,none⟩=some (.slice (some ⟨bb,off2,none⟩) L.length c')/\wq.drew.cell? ⟨bb,off2+q*2,none⟩=some (.int .u8 43)/\wq.drew.cell? ⟨bb,off2+q*2+1,none⟩=some (.string tx):=⟨za hxa.blk rfl,x4,s0,s1⟩
              obtain ⟨i0,hi,hz0',hz1',hz2'⟩:=info_parts yJ
              have hone: ∀u∈ [Value.int .u8 45,Value.string tx],u.oneCell'=true:=by intro u hu;simp at hu;rcases hu with rfl | rfl<;>rfl
              have hbb:bb<wq.heap.size:=by have:=hbw.size;omega
              go_wp2_with fail
              refine wp_region_any yg (jp.any (st:=12) (I:=fun w'=>w'.cell? ⟨wr.heap.size+1,4,none⟩=some (.slice avx acc.length cvx)/\w'.cell? ⟨wr.heap.size,4,none⟩=some (.slice (some ⟨bb,off2,none⟩) L.length c')/\w'.cell? ⟨bb,off2+q*2,none⟩=some (.int .u8 43)/\w'.cell? ⟨bb,off2+q*2+1,none⟩=some (.string tx)) ?_)
              refine zw (i:=0) (n:=12) (v:= .pointer (some ⟨wr.heap.size+1,4,none⟩)) rfl (by kernel_rfl) (fun c a w h=>h) ⟨by simp [Region.wanted],fun w' hw=> ?_⟩ ?_
              ·simp [execOp,go_sem,Act.eval]
              refine zw (i:=1) (n:=11) (v:= .slice avx acc.length cvx) rfl (by kernel_rfl) (fun c a w h=>h) ⟨by simp [Region.wanted],fun w' hw=> ?_⟩ ?_
              ·have hc:w'.cell? ⟨wr.heap.size+1,4,none⟩=some (.slice avx acc.length cvx):=hw.1;simp [execOp,go_sem,Act.eval,Act.put,hc]
              refine zw (i:=2) (n:=10) (v:= .pointer (some ⟨wr.heap.size,4,none⟩)) rfl (by kernel_rfl) (fun c a w h=>h) ⟨by simp [Region.wanted],fun w' hw=> ?_⟩ ?_
              ·simp [execOp,go_sem,Act.eval,Act.put]
              refine zw (i:=3) (n:=9) (v:= .slice (some ⟨bb,off2,none⟩) L.length c') rfl (by kernel_rfl) (fun c a w h=>h) ⟨by simp [Region.wanted],fun w' hw=> ?_⟩ ?_
              ·have hc:w'.cell? ⟨wr.heap.size,4,none⟩=some (.slice (some ⟨bb,off2,none⟩) L.length c'):=hw.2.1;simp [execOp,go_sem,Act.eval,Act.put,hc]
              refine zw (i:=4) (n:=8) (v:= .int .i64 (q:Int)) rfl (by kernel_rfl) (fun c a w h=>h) ⟨by simp [Region.wanted],fun w' hw=> ?_⟩ ?_
              ·simp [execOp,go_sem,Act.eval,Act.put]
              refine zw (i:=5) (n:=7) (v:= .pointer (some ⟨bb,off2+q*2,none⟩)) rfl (by kernel_rfl) (fun c a w h=>h) ⟨by simp [Region.wanted],fun w' hw=> ?_⟩ ?_
              ·have hjj:(q:Int)<L.length:=hidx;simp [execOp,go_sem,Act.eval,Act.put,hjj]
              refine zw (i:=6) (n:=6) (v:= .pointer (some ⟨bb,off2+q*2+1,none⟩)) rfl (by kernel_rfl) (fun c a w h=>h) ⟨by simp [Region.wanted],fun w' hw=> ?_⟩ ?_
              ·simp [execOp,go_sem,Act.eval,Act.put]
              refine zw (i:=7) (n:=5) (v:= .string tx) rfl (by kernel_rfl) (fun c a w h=>h) ⟨by simp [Region.wanted],fun w' hw=> ?_⟩ ?_
              ·have hc2:w'.cell? ⟨bb,off2+q*2+1,none⟩=some (.string tx):=hw.2.2.2;simp [execOp,go_sem,Act.eval,Act.put,hc2]
              refine zw (i:=8) (n:=4) (v:= .agg #[.int .u8 45,.string tx]) rfl (by kernel_rfl) (fun c a w h=>h) ⟨by simp [Region.wanted],fun w' hw=> ?_⟩ ?_
              ·simp [execOp,go_sem,Act.eval,Act.put]
              refine zE (i:=9) (n:=3) hIw (by kernel_rfl) ?_
              refine zX (w':=wq.drew.alloc (.cells #[.int .u8 45,.string tx] 93)) (v:= .slice (some ⟨wq.heap.size,0,none⟩) 1 1) rfl rfl ?_ ?_
              ·simp [execOp,go_sem,Act.eval,Act.put]
              have hIa:(wq.drew.alloc (.cells #[.int .u8 45,.string tx] 93)).cell? ⟨wr.heap.size+1,4,none⟩=some (.slice avx acc.length cvx)/\(wq.drew.alloc (.cells #[.int .u8 45,.string tx] 93)).cell? ⟨wr.heap.size,4,none⟩=some (.slice (some ⟨bb,off2,none⟩) L.length c')/\(wq.drew.alloc (.cells #[.int .u8 45,.string tx] 93)).cell? ⟨bb,off2+q*2,none⟩=some (.int .u8 43)/\(wq.drew.alloc (.cells #[.int .u8 45,.string tx] 93)).cell? ⟨bb,off2+q*2+1,none⟩=some (.string tx):=⟨(World.cell?_of_block (Below.heap_alloc wq.drew _ (wr.heap.size+1) hlx)).trans hIw.1,(World.cell?_of_block (Below.heap_alloc wq.drew _ wr.heap.size (by show wr.heap.size<wq.heap.size;omega))).trans hIw.2.1,(World.cell?_of_block (Below.heap_alloc wq.drew _ bb hbb)).trans hIw.2.2.1,(World.cell?_of_block (Below.heap_alloc wq.drew _ bb hbb)).trans hIw.2.2.2⟩
              refine zE (i:=10) (n:=2) hIa (by kernel_rfl) ?_
              have hxd:=hxa.drew
              refine xj rfl rfl (.tmp 95) (.tmp 103) 59 rfl (wr.heap.size+1+1) 93 i0 _ 2 24 underlying59 hi hz0' hz1' hz2' rfl (by decide) (.slice avx acc.length cvx) acc.length (zg acc) (by simp [Act.eval,Act.put]) (hxd.own.alloc _) ⟨wq.heap.size,0,none⟩ 1 1 [.int .u8 45,.string tx] (by simp [Act.eval,Act.put]) rfl (zt wq.drew _ _) hone (by unfold maxLen;omega) (by omega) (by rw [World.size_alloc];show wr.heap.size+1+1<=wq.heap.size+1;omega) ?_
              intro vl' w4 hown' hgr0
              obtain ⟨hgr, -⟩:=qP hgr0
              clear hgr0
              obtain ⟨g',cap',rfl,_,_⟩:=zv hown' (Nat.succ_pos _)
              obtain ⟨hb4,hx4,hbw4⟩:=hxd.push (k:=45) (t:=tx) hown' hgr
              have f4:w4.cell? ⟨wr.heap.size+1,4,none⟩=some (.slice avx acc.length cvx):=za hb4 rfl
              have ff: ∀k,w4.frozen? ⟨wr.heap.size+1,k,none⟩=false:=fun k=>zi hb4
              have hb5: ∀g,g<wq.heap.size->some g≠Value.ownBlock (.slice avx acc.length cvx)->w4.heap[g]? =wq.heap[g]? :=fun g hg hne=>(hgr.block g (by rw [World.size_alloc];show g<wq.heap.size+1;omega) hne).trans (Below.heap_alloc wq.drew _ g hg)
              have hvbk: ∀g,Value.ownBlock (.slice avx acc.length cvx)=some g->wr.heap.size+1+1<=g:=fun g e=>(hxa.own.lt g e).1
              have hI4:w4.cell? ⟨wr.heap.size+1,4,none⟩=some (.slice avx acc.length cvx)/\w4.cell? ⟨wr.heap.size,4,none⟩=some (.slice (some ⟨bb,off2,none⟩) L.length c')/\w4.cell? ⟨bb,off2+q*2,none⟩=some (.int .u8 43)/\w4.cell? ⟨bb,off2+q*2+1,none⟩=some (.string tx):=⟨f4,(World.cell?_of_block (hb5 wr.heap.size (by omega) (fun e=>by have:=hvbk _ e.symm;omega))).trans hIw.2.1,(World.cell?_of_block (hb5 bb hbb (fun e=>by have:=hvbk _ e.symm;have:=hbw.size;omega))).trans hIw.2.2.1,(World.cell?_of_block (hb5 bb hbb (fun e=>by have:=hvbk _ e.symm;have:=hbw.size;omega))).trans hIw.2.2.2⟩
              refine zE (i:=11) (n:=1) hI4 (by kernel_rfl) ?_
              refine zX (w':=w4) (v:= .pointer (some ⟨wr.heap.size+1,4,none⟩)) rfl rfl (by simp [execOp,go_sem,Act.eval,Act.put]) ?_
              refine zE (i:=12) (n:=0) hI4 (by kernel_rfl) ?_
              refine xv (w':=w4.setCell ⟨wr.heap.size+1,4,none⟩ (.slice (some ⟨g',0,none⟩) (acc.length+1) cap')) rfl rfl ?_ ?_
              ·simp [execOp,go_sem,Act.eval,Act.put,f4,ff]
              have hbF:Below (wr.heap.size+1) V2 (w4.setCell ⟨wr.heap.size+1,4,none⟩ (.slice (some ⟨g',0,none⟩) (acc.length+1) cap')):=hbi.drew.trans (hbw4 (wr.heap.size+1) (Nat.le_refl _))
              refine ql (by kernel_rfl) (by kernel_rfl) ?_
              clear hown' f4 ff hb4 hgr hb5 hI4 hIa hIw hbw4
              generalize w4.setCell ⟨wr.heap.size+1,4,none⟩ (.slice (some ⟨g',0,none⟩) (acc.length+1) cap')=WF at *
              simp only [Act.put]
              go_wp2_with fail
              go_roundg (e-(q+1))
              ·refine ⟨q+1,.slice (some ⟨g',0,none⟩) (acc.length+1) cap',rfl,by omega,by omega,by push_cast;rfl,?_,hbF⟩
               rw [hnew.out]
               exact hx4
              ·have:=hGq.out;omega
             ·have hke:((L[q].kind:Int)==43)=false:=by rw [beq_eq_false_iff_ne];omega
              have hrk:Hid _:=JY hqL (show L[q].kind=45 by omega)
              have hnew:Hid ((revF (L.take (q+1))).1=(revF (L.take q)).1):=hrk.out.1
              clear hkd hF hnk3 hrk
              go_wp2_with fail
              go_roundg (e-(q+1))
              ·exact ⟨q+1,vx,rfl,by omega,by omega,by push_cast;rfl,by rw [hnew.out];exact hxa,hbi⟩
              ·have:=hGq.out;omega
            ·have hltI: ¬(q:Int)<(e:Int):=by omega
             obtain rfl:q=e:=by omega
             have hxs:XAt (wr.heap.size+1) (.int .i64 (C:Int)) (.int .i64 (D:Int)) (.int .i64 (A:Int)) (.int .i64 (B:Int)) vx ((revF (L.take q)).1++(revF (L.take j)).2) wq:=by rw [hb2H.out,List.append_nil];exact hxa
             clear hal
             go_wp2_with fail
             go_loopg [12] (q-j) (fun g t wp=> ∃(p:Nat) (vx:Value),g=q-p/\j<=p/\p<=q/\t= .int .i64 p/\XAt (wr.heap.size+1) (.int .i64 (C:Int)) (.int .i64 (D:Int)) (.int .i64 (A:Int)) (.int .i64 (B:Int)) vx ((revF (L.take q)).1++(revF (L.take p)).2) wp/\Below (wr.heap.size+1) V2 wp)
             case atStart=>exact ⟨j,_,by omega,by omega,by omega,rfl,hxs,hbi⟩
             case round=>
              rename World=>wp
              obtain ⟨p,vx,hgp,hjp,hpe,rfl,hxa,hbi⟩:=hrel
              have hGp:Hid (_=q-p):=hgp
              clear hgp hxs
              obtain ⟨hBi,hsti,hbri⟩:=hIn.out wp hbi
              have hszi:=hbri.size
              have x4:wp.cell? ⟨wr.heap.size,4,none⟩=some (.slice (some ⟨bb,off2,none⟩) L.length c'):=za hBi rfl
              have hlx:wr.heap.size+1<wp.heap.size:=(Array.getElem?_eq_some_iff.1 hxa.blk).1
              have hal:((revF (L.take q)).1++(revF (L.take p)).2).length<=2097152:=by have h1:=jH L p (by omega);have h2:=jH L q (by omega);rw [List.length_append];omega
              by_cases hlt:p<q
              ·have hltI:(p:Int)<(q:Int):=by omega
               have hpL:p<L.length:=by omega
               have hidx:(p:Int)<L.length:=by omega
               obtain ⟨bb',off2',he1,hbB2',s0,s1⟩:=hsti.at hpL
               cases he1
               have hF:=(hfn _ (List.getElem_mem hpL)).1
               have hnk3:=hnk.out p hpL hjp hlt
               by_cases hkd:L[p].kind=45
               ·have hrk:Hid _:=JY hpL hkd
                rw [hkd] at s0
                generalize L[p].text=tx at *
                have hnew:Hid ((revF (L.take q)).1++(revF (L.take (p+1))).2=(revF (L.take q)).1++(revF (L.take p)).2++ [⟨43,tx⟩]):=by show _=_;rw [hrk.out.2,List.append_assoc]
                generalize ((revF (L.take q)).1++(revF (L.take p)).2)=acc at *
                clear hkd hF hnk3 hrk
                obtain ⟨avx,cvx,hvxe⟩:=zn hxa.own
                subst hvxe
                have hIw:wp.drew.cell? ⟨wr.heap.size+1,4,none⟩=some (.slice avx acc.length cvx)/\wp.drew.cell? ⟨wr.heap.size,4,none⟩=some (.slice (some ⟨bb,off2,none⟩) L.length c')/\wp.drew.cell? ⟨bb,off2+p*2,none⟩=some (.int .u8 45)/\wp.drew.cell? ⟨bb,off2+p*2+1,none⟩=some (.string tx):=⟨za hxa.blk rfl,x4,s0,s1⟩
                obtain ⟨i0,hi,hz0',hz1',hz2'⟩:=info_parts yJ
                have hone: ∀u∈ [Value.int .u8 43,Value.string tx],u.oneCell'=true:=by intro u hu;simp at hu;rcases hu with rfl | rfl<;>rfl
                have hbb:bb<wp.heap.size:=by have:=hbw.size;omega
                go_wp2_with fail
                refine wp_region_any yg (jp.any (st:=12) (I:=fun w'=>w'.cell? ⟨wr.heap.size+1,4,none⟩=some (.slice avx acc.length cvx)/\w'.cell? ⟨wr.heap.size,4,none⟩=some (.slice (some ⟨bb,off2,none⟩) L.length c')/\w'.cell? ⟨bb,off2+p*2,none⟩=some (.int .u8 45)/\w'.cell? ⟨bb,off2+p*2+1,none⟩=some (.string tx)) ?_)
                refine zw (i:=0) (n:=12) (v:= .pointer (some ⟨wr.heap.size+1,4,none⟩)) rfl (by kernel_rfl) (fun c a w h=>h) ⟨by simp [Region.wanted],fun w' hw=> ?_⟩ ?_
                ·simp [execOp,go_sem,Act.eval]
                refine zw (i:=1) (n:=11) (v:= .slice avx acc.length cvx) rfl (by kernel_rfl) (fun c a w h=>h) ⟨by simp [Region.wanted],fun w' hw=> ?_⟩ ?_
                ·have hc:w'.cell? ⟨wr.heap.size+1,4,none⟩=some (.slice avx acc.length cvx):=hw.1;simp [execOp,go_sem,Act.eval,Act.put,hc]
                refine zw (i:=2) (n:=10) (v:= .pointer (some ⟨wr.heap.size,4,none⟩)) rfl (by kernel_rfl) (fun c a w h=>h) ⟨by simp [Region.wanted],fun w' hw=> ?_⟩ ?_
                ·simp [execOp,go_sem,Act.eval,Act.put]
                refine zw (i:=3) (n:=9) (v:= .slice (some ⟨bb,off2,none⟩) L.length c') rfl (by kernel_rfl) (fun c a w h=>h) ⟨by simp [Region.wanted],fun w' hw=> ?_⟩ ?_
                ·have hc:w'.cell? ⟨wr.heap.size,4,none⟩=some (.slice (some ⟨bb,off2,none⟩) L.length c'):=hw.2.1;simp [execOp,go_sem,Act.eval,Act.put,hc]
                refine zw (i:=4) (n:=8) (v:= .int .i64 (p:Int)) rfl (by kernel_rfl) (fun c a w h=>h) ⟨by simp [Region.wanted],fun w' hw=> ?_⟩ ?_
                ·simp [execOp,go_sem,Act.eval,Act.put]
                refine zw (i:=5) (n:=7) (v:= .pointer (some ⟨bb,off2+p*2,none⟩)) rfl (by kernel_rfl) (fun c a w h=>h) ⟨by simp [Region.wanted],fun w' hw=> ?_⟩ ?_
                ·have hjj:(p:Int)<L.length:=hidx;simp [execOp,go_sem,Act.eval,Act.put,hjj]
                refine zw (i:=6) (n:=6) (v:= .pointer (some ⟨bb,off2+p*2+1,none⟩)) rfl (by kernel_rfl) (fun c a w h=>h) ⟨by simp [Region.wanted],fun w' hw=> ?_⟩ ?_
                ·simp [execOp,go_sem,Act.eval,Act.put]
                refine zw (i:=7) (n:=5) (v:= .string tx) rfl (by kernel_rfl) (fun c a w h=>h) ⟨by simp [Region.wanted],fun w' hw=> ?_⟩ ?_
                ·have hc2:w'.cell? ⟨bb,off2+p*2+1,none⟩=some (.string tx):=hw.2.2.2;simp [execOp,go_sem,Act.eval,Act.put,hc2]
                refine zw (i:=8) (n:=4) (v:= .agg #[.int .u8 43,.string tx]) rfl (by kernel_rfl) (fun c a w h=>h) ⟨by simp [Region.wanted],fun w' hw=> ?_⟩ ?_
                ·simp [execOp,go_sem,Act.eval,Act.put]
                refine zE (i:=9) (n:=3) hIw (by kernel_rfl) ?_
                refine zX (w':=wp.drew.alloc (.cells #[.int .u8 43,.string tx] 93)) (v:= .slice (some ⟨wp.heap.size,0,none⟩) 1 1) rfl rfl ?_ ?_
                ·simp [execOp,go_sem,Act.eval,Act.put]
                have hIa:(wp.drew.alloc (.cells #[.int .u8 43,.string tx] 93)).cell? ⟨wr.heap.size+1,4,none⟩=some (.slice avx acc.length cvx)/\(wp.drew.alloc (.cells #[.int .u8 43,.string tx] 93)).cell? ⟨wr.heap.size,4,none⟩=some (.slice (some ⟨bb,off2,none⟩) L.length c')/\(wp.drew.alloc (.cells #[.int .u8 43,.string tx] 93)).cell? ⟨bb,off2+p*2,none⟩=some (.int .u8 45)/\(wp.drew.alloc (.cells #[.int .u8 43,.string tx] 93)).cell? ⟨bb,off2+p*2+1,none⟩=some (.string tx):=⟨(World.cell?_of_block (Below.heap_alloc wp.drew _ (wr.heap.size+1) hlx)).trans hIw.1,(World.cell?_of_block (Below.heap_alloc wp.drew _ wr.heap.size (by show wr.heap.size<wp.heap.size;omega))).trans hIw.2.1,(World.cell?_of_block (Below.heap_alloc wp.drew _ bb hbb)).trans hIw.2.2.1,(World.cell?_of_block (Below.heap_alloc wp.drew _ bb hbb)).trans hIw.2.2.2⟩
                refine zE (i:=10) (n:=2) hIa (by kernel_rfl) ?_
                have hxd:=hxa.drew
                refine xj rfl rfl (.tmp 120) (.tmp 128) 59 rfl (wr.heap.size+1+1) 93 i0 _ 2 24 underlying59 hi hz0' hz1' hz2' rfl (by decide) (.slice avx acc.length cvx) acc.length (zg acc) (by simp [Act.eval,Act.put]) (hxd.own.alloc _) ⟨wp.heap.size,0,none⟩ 1 1 [.int .u8 43,.string tx] (by simp [Act.eval,Act.put]) rfl (zt wp.drew _ _) hone (by unfold maxLen;omega) (by omega) (by rw [World.size_alloc];show wr.heap.size+1+1<=wp.heap.size+1;omega) ?_
                intro vl' w4 hown' hgr0
                obtain ⟨hgr, -⟩:=qP hgr0
                clear hgr0
                obtain ⟨g',cap',rfl,_,_⟩:=zv hown' (Nat.succ_pos _)
                obtain ⟨hb4,hx4,hbw4⟩:=hxd.push (k:=43) (t:=tx) hown' hgr
                have f4:w4.cell? ⟨wr.heap.size+1,4,none⟩=some (.slice avx acc.length cvx):=za hb4 rfl
                have ff: ∀k,w4.frozen? ⟨wr.heap.size+1,k,none⟩=false:=fun k=>zi hb4
                have hb5: ∀g,g<wp.heap.size->some g≠Value.ownBlock (.slice avx acc.length cvx)->w4.heap[g]? =wp.heap[g]? :=fun g hg hne=>(hgr.block g (by rw [World.size_alloc];show g<wp.heap.size+1;omega) hne).trans (Below.heap_alloc wp.drew _ g hg)
                have hvbk: ∀g,Value.ownBlock (.slice avx acc.length cvx)=some g->wr.heap.size+1+1<=g:=fun g e=>(hxa.own.lt g e).1
                have hI4:w4.cell? ⟨wr.heap.size+1,4,none⟩=some (.slice avx acc.length cvx)/\w4.cell? ⟨wr.heap.size,4,none⟩=some (.slice (some ⟨bb,off2,none⟩) L.length c')/\w4.cell? ⟨bb,off2+p*2,none⟩=some (.int .u8 45)/\w4.cell? ⟨bb,off2+p*2+1,none⟩=some (.string tx):=⟨f4,(World.cell?_of_block (hb5 wr.heap.size (by omega) (fun e=>by have:=hvbk _ e.symm;omega))).trans hIw.2.1,(World.cell?_of_block (hb5 bb hbb (fun e=>by have:=hvbk _ e.symm;have:=hbw.size;omega))).trans hIw.2.2.1,(World.cell?_of_block (hb5 bb hbb (fun e=>by have:=hvbk _ e.symm;have:=hbw.size;omega))).trans hIw.2.2.2⟩
                refine zE (i:=11) (n:=1) hI4 (by kernel_rfl) ?_
                refine zX (w':=w4) (v:= .pointer (some ⟨wr.heap.size+1,4,none⟩)) rfl rfl (by simp [execOp,go_sem,Act.eval,Act.put]) ?_
                refine zE (i:=12) (n:=0) hI4 (by kernel_rfl) ?_
                refine xv (w':=w4.setCell ⟨wr.heap.size+1,4,none⟩ (.slice (some ⟨g',0,none⟩) (acc.length+1) cap')) rfl rfl ?_ ?_
                ·simp [execOp,go_sem,Act.eval,Act.put,f4,ff]
                have hbF:Below (wr.heap.size+1) V2 (w4.setCell ⟨wr.heap.size+1,4,none⟩ (.slice (some ⟨g',0,none⟩) (acc.length+1) cap')):=hbi.drew.trans (hbw4 (wr.heap.size+1) (Nat.le_refl _))
                refine ql (by kernel_rfl) (by kernel_rfl) ?_
                clear hown' f4 ff hb4 hgr hb5 hI4 hIa hIw hbw4
                generalize w4.setCell ⟨wr.heap.size+1,4,none⟩ (.slice (some ⟨g',0,none⟩) (acc.length+1) cap')=WF at *
                simp only [Act.put]
                go_wp2_with fail
                go_roundg (q-(p+1))
                ·refine ⟨p+1,.slice (some ⟨g',0,none⟩) (acc.length+1) cap',rfl,by omega,by omega,by push_cast;rfl,?_,hbF⟩
                 rw [hnew.out]
                 exact hx4
                ·have:=hGp.out;omega
               ·have hke:((L[p].kind:Int)==45)=false:=by rw [beq_eq_false_iff_ne];omega
                have hrk:Hid _:=Vg hpL (show L[p].kind=43 by omega)
                have hnew:Hid ((revF (L.take q)).1++(revF (L.take (p+1))).2=(revF (L.take q)).1++(revF (L.take p)).2):=by show _=_;rw [hrk.out.2]
                clear hkd hF hnk3 hrk
                go_wp2_with fail
                go_roundg (q-(p+1))
                ·exact ⟨p+1,vx,rfl,by omega,by omega,by push_cast;rfl,by rw [hnew.out];exact hxa,hbi⟩
                ·have:=hGp.out;omega
              ·have hltI: ¬(p:Int)<(q:Int):=by omega
               obtain rfl:p=q:=by omega
               have hxf:XAt (wr.heap.size+1) (.int .i64 (C:Int)) (.int .i64 (D:Int)) (.int .i64 (A:Int)) (.int .i64 (B:Int)) vx (yX (L.take p)) wp:=hxa
               clear hal
               go_wp2_with fail
               go_roundg (L.length-p)
               ·exact ⟨p,vx,rfl,by omega,rfl,hxf,.inr hend.out,hbi⟩
               ·have:=hGj.out;have:=hje2.out;omega
      ·have hjI: ¬((j:Int)<L.length):=by omega
       have hE:L.take j=L:=List.take_of_length_le (by omega)
       rw [hE] at hxa hrl
       obtain ⟨i0,hi,hz0',hz1',hz2'⟩:=info_parts qk
       obtain ⟨avx,cvx,hvxe⟩:=zn hxa.own
       subst hvxe
       have hOi:=(hbri.block W1.heap.size hOl).trans hO
       have o0:wi.cell? ⟨W1.heap.size,0,none⟩=some (.slice av hv.length cv):=za hOi rfl
       have u0:wi.cell? ⟨wr.heap.size+1,0,none⟩=some (.int .i64 (C:Int)):=za hxa.blk rfl
       have u1:wi.cell? ⟨wr.heap.size+1,1,none⟩=some (.int .i64 (D:Int)):=za hxa.blk rfl
       have u2:wi.cell? ⟨wr.heap.size+1,2,none⟩=some (.int .i64 (A:Int)):=za hxa.blk rfl
       have u3:wi.cell? ⟨wr.heap.size+1,3,none⟩=some (.int .i64 (B:Int)):=za hxa.blk rfl
       have u4:wi.cell? ⟨wr.heap.size+1,4,none⟩=some (.slice avx (yX L).length cvx):=za hxa.blk rfl
       have hsoi:=hso.below hbri
       have hone: ∀u∈ [Value.int .i64 (C:Int),.int .i64 (D:Int),.int .i64 (A:Int),.int .i64 (B:Int),.slice avx (yX L).length cvx],u.oneCell'=true:=by intro u hu;simp at hu;rcases hu with rfl | rfl | rfl | rfl | rfl<;>rfl
       have hps:Hid (∀ob w4 g cap,w4.ownsRow (W1.heap.size+1) 61 5 (.slice (some ⟨g,0,none⟩) (hv.length+1) cap) (hv.length+1) (hunkCells hv++xo (⟨C,D,A,B,yX L⟩,.slice avx (yX L).length cvx))->(wi.alloc ob).grownBy w4 (Value.slice av hv.length cv).ownBlock->
           w4.heap[W1.heap.size]? =some (.cells #[.slice av hv.length cv] 32 (0,0))/\(w4.setCell ⟨W1.heap.size,0,none⟩ (.slice (some ⟨g,0,none⟩) (hv.length+1) cap)).heap[W1.heap.size]? =some (.cells #[.slice (some ⟨g,0,none⟩) (hv.length+1) cap] 32 (0,0))/\
           HSo (W1.heap.size+1) (.slice (some ⟨g,0,none⟩) (hv.length+1) cap) (hv++ [(⟨C,D,A,B,yX L⟩,.slice avx (yX L).length cvx)]) (w4.setCell ⟨W1.heap.size,0,none⟩ (.slice (some ⟨g,0,none⟩) (hv.length+1) cap))/\Below W1.heap.size W1 (w4.setCell ⟨W1.heap.size,0,none⟩ (.slice (some ⟨g,0,none⟩) (hv.length+1) cap))):=by
        intro ob w4 g cap hown hgr
        have hvb: ∀k,(Value.slice av hv.length cv).ownBlock=some k->W1.heap.size+1<=k/\k<wi.heap.size:=fun k e=>hsoi.owns.lt k e
        have hO4:w4.heap[W1.heap.size]? =some (.cells #[.slice av hv.length cv] 32 (0,0)):=((hgr.block W1.heap.size (by rw [World.size_alloc];omega) (fun e=>by have:=hvb _ e.symm;omega)).trans (Below.heap_alloc wi ob W1.heap.size (by omega))).trans hOi
        have hso4:=hso.push2 ⟨C,D,A,B,yX L⟩ hbri (qe hxa.own (by omega)) (by omega) hgr hown
        refine ⟨hO4,zb _ _ _ _ _ _ _ hO4,hso4.kept (zc w4 W1.heap.size 0 _) (fun k e=>by cases e;exact .inr ⟨_,_,_,hO4,by decide,by decide⟩),?_⟩
        exact (((hbel.trans (hbri.mono (by omega))).alloc (by omega) ob).grown hgr (by rw [World.size_alloc];omega) (fun k e=>by have:=hvb k e;omega)).setCell (p:=⟨W1.heap.size,0,none⟩) (Nat.le_refl _) _
       go_wp2_with (at_builtin;go_loud (refine zm rfl (.tmp 133) (.tmp 135) 30 rfl (W1.heap.size+1) 61 i0 _ 5 56 underlying30 hi hz0' hz1' hz2' rfl (by decide) (.slice av hv.length cv) hv.length (hunkCells hv) rfl (hsoi.owns.alloc _) ⟨wi.heap.size,0,none⟩ 1 1 [.int .i64 (C:Int),.int .i64 (D:Int),.int .i64 (A:Int),.int .i64 (B:Int),.slice avx (yX L).length cvx] rfl rfl (zt wi _ _) hone (by unfold maxLen;omega) (by omega) (by rw [World.size_alloc];omega) ?_;intro v' w4 hown4 hgr4 _;obtain ⟨g',cap',rfl,hg',_⟩:=zv hown4 (Nat.succ_pos _);obtain ⟨p1,p2,p3,p4⟩:=hps.out _ w4 g' cap' hown4 hgr4;have z0:w4.cell? ⟨W1.heap.size,0,none⟩=some (.slice av hv.length cv):=za p1 rfl;have zf: ∀k,w4.frozen? ⟨W1.heap.size,k,none⟩=false:=fun k=>zi p1))
       go_roundg (hs.length-(k+1))
       ·exact ⟨k+1,_,_,rfl,by omega,by push_cast;rfl,p2,p3,by show _=_;rw [hmk.out,List.map_append,hmap.out,hrv.out];rfl,p4⟩
       ·have:=hG.out;omega
    ·have hkI: ¬((k:Int)<hs.length):=by omega
     have hE:hs.take k=hs:=List.take_of_length_le (by omega)
     rw [hE] at hmap
     have q0:wr.cell? ⟨w.heap.size+1,0,none⟩=some (.slice none 0 0):=za hRr rfl
     have qf: ∀k,wr.frozen? ⟨w.heap.size+1,k,none⟩=false:=fun k=>zi hRr
     have o0:wr.cell? ⟨W1.heap.size,0,none⟩=some (.slice av hv.length cv):=za hO rfl
     have hR1:Hid (RES.1=hv.map (·.1)/\RES.2=0):=by rw [hA.out];exact ⟨hmap.out.symm,rfl⟩
     have hR2:Hid (RES.1.length=hv.length):=by show _=_;rw [hR1.out.1,List.length_map]
     go_wp2_with fail
     refine bodyPost_ret (v:= .tuple #[.agg #[.slice av hv.length cv],.int .i64 0]) ?_ rfl ⟨av,cv,by rw [hR2.out,hR1.out.2],?_,?_⟩
     ·have hq:(wr.setCell ⟨w.heap.size+1,0,none⟩ (.slice av hv.length cv)).cell? ⟨w.heap.size+1,0,none⟩=some (.slice av hv.length cv):=za (zb _ _ _ _ _ _ _ hRr) rfl
      simp [results,results91,go_sem,hq]
     ·have h1:=hso.kept (zc wr (w.heap.size+1) 0 (.slice av hv.length cv)) (fun k e=>by cases e;exact .inr ⟨_,_,_,hRr,by decide,by decide⟩)
      rw [hR2.out]
      exact ⟨hv,h1.mono (by omega),hR1.out.1.symm⟩
     ·exact hbw.setCell (p:=⟨w.heap.size+1,0,none⟩) (Nat.le_succ _) _
end Go.Proofs.YtcclgodahlinbaaGreatDoor
