import Derived.Test.YtcclgodahlinbaaGreatDoorA21
import Derived.Test.YtcclgodahlinbaaGreatDoorA11
import Derived.Deep.RegionLaw
import Derived.Deep.DeepCutAuto
import Derived.Test.YtcclgodahlinbaaGreatDoorA13
namespace Go.Proofs.YtcclgodahlinbaaGreatDoor
set_option maxHeartbeats 16000000
open Tryz Go.RowKit Go
set_option maxRecDepth 100000
theorem QM {w:World} {base e size n cl:Nat} {al:Option Addr} {xs:List Value} (h:w.ownsRow base e size (.slice al n cl) n xs): ∀a,al=some a->a=⟨a.block,0,none⟩:=by
 intro a ha
 subst ha
 rcases h.2 with ⟨e,_⟩ | ⟨g,cap,cur,e,_⟩
 ·cases e
 ·cases e;rfl
theorem Pv:(prog.info? 100).map (fun i=>(i.zero,i.size,i.bytes))=some (some (.slice none 0 0),1,24):=by kernel_rfl
theorem Up {w:World} {bl n i:Nat} {xs:List Value} {a b:Value} {al:Option Addr} {cl:Nat} (h:w.ownsRow bl 101 2 (.slice al n cl) n (zP [a,b] i++xs.drop (i*2))) (hx:xs.length=n*2) (hi:i<n):
 ∃g,al=some ⟨g,0,none⟩/\g<w.heap.size/\(∃cur,w.heap[g]? =some (.cells cur 101 (0,0))/\i*2+1<cur.size)/\((w.setCell ⟨g,i*2,none⟩ a).setCell ⟨g,i*2+1,none⟩ b).ownsRow bl 101 2 (.slice al n cl) n (zP [a,b] (i+1)++xs.drop ((i+1)*2)):=by
 rcases h.2 with ⟨_,h0⟩ | ⟨g,cap,cur,e,hb,hg,h1,h2,h3,h4⟩
 ·omega
 ·cases e
  have hsz:i*2+1<cur.size:=by rw [h3];omega
  have hpl:(zP [a,b] i).length=i*2:=zW [a,b] i
  refine ⟨g,rfl,(Array.getElem?_eq_some_iff.1 hg).1,⟨cur,hg,hsz⟩,?_,.inr ⟨g,cl,_,rfl,hb,zb _ _ _ _ _ _ _ (zb _ _ _ _ _ _ _ hg),h1,h2,by simp [h3],?_⟩⟩
  ·rw [List.length_append,zW,List.length_drop,hx]
   show (i+1)*2+_=_
   omega
  ·have h5:List.take (n*2) ((cur.setIfInBounds (i*2) a).setIfInBounds (i*2+1) b).toList=((List.take (n*2) cur.toList).set (i*2) a).set (i*2+1) b:=by
    simp [List.take_set]
   rw [h5,h4]
   apply List.ext_getElem?
   intro j
   rw [List.getElem?_set,List.getElem?_set]
   have hl1:(zP [a,b] i++xs.drop (i*2)).length=n*2:=by rw [List.length_append,hpl,List.length_drop,hx];omega
   have hl2:(zP [a,b] (i+1)).length=(i+1)*2:=zW [a,b] (i+1)
   by_cases e1:i*2+1=j
   ·subst e1
    rw [if_pos rfl,if_pos (by rw [List.length_set,hl1];omega),List.getElem?_append_left (by rw [hl2];omega)]
    have:=jn [a,b] (i+1) i 1 (by omega) (by simp)
    simpa using this.symm
   ·rw [if_neg e1]
    by_cases e2:i*2=j
    ·subst e2
     rw [if_pos rfl,if_pos (by rw [hl1];omega),List.getElem?_append_left (by rw [hl2];omega)]
     have:=jn [a,b] (i+1) i 0 (by omega) (by simp)
     simpa using this.symm
    ·rw [if_neg e2]
     by_cases e3:j<i*2
     ·rw [List.getElem?_append_left (by rw [hpl];omega),List.getElem?_append_left (by rw [hl2];omega)]
      rw [zP,List.getElem?_append_left (by rw [hpl];omega)]
     ·rw [List.getElem?_append_right (by rw [hpl];omega),List.getElem?_append_right (by rw [hl2];omega),List.getElem?_drop,List.getElem?_drop,hpl,hl2]
      congr 1
      omega
theorem Vh {base wb bl N cl':Nat} {al':Option Addr} {x:WV} {B:Bk} {E:List (Value×Value)} {w4 w5:World} {t:ByteArray} {v':Value} {ob:Obj} (K:zC base wb x { B with r:=B.r++E } w4) (hN:N<=1990)
 (row4:w4.ownsRow bl 101 2 (.slice al' N cl') N (zP (xu (.string t)) N)) (hE: ∀p∈E,p.2= .string t/\ ∃al m cl,p.1= .slice al m cl/\m<=N/\ ∀a,al=some a->a=⟨a.block,0,none⟩) (hfr: ∀p∈B.r,p.1.ownBlock=none\/p.1.ownBlock≠(Value.slice al' N cl').ownBlock)
 (row5:w5.ownsRow bl 101 2 v' (N+1) (zP (xu (.string t)) N++ [.int .u8 63,.string t]))
 (h3:(v'.ownBlock=(Value.slice al' N cl').ownBlock/\(w4.alloc ob).grownBy w5 (Value.slice al' N cl').ownBlock)\/((∀g,v'.ownBlock=some g->(w4.alloc ob).heap.size<=g)/\(w4.alloc ob).grownBy w5 none)):
 zC base wb x { B with r:=B.r++E } w5/\zs base w4 w5 (fun g=>some g=(Value.slice al' N cl').ownBlock)/\w5.ownsRow bl 101 2 v' (N+1) (zP (xu (.string t)) (N+1))/\(∀p∈B.r,p.1.ownBlock=none\/p.1.ownBlock≠v'.ownBlock)/\(∀g,g<w4.heap.size->some g≠(Value.slice al' N cl').ownBlock->w5.heap[g]? =w4.heap[g]?):=by
 have hrow:w5.ownsRow bl 101 2 v' (N+1) (zP (xu (.string t)) (N+1)):=row5
 have hold: ∀g,g<w4.heap.size->some g≠(Value.slice al' N cl').ownBlock->w5.heap[g]? =w4.heap[g]? :=fun g hg hne=>by
  rcases h3 with ⟨_,h⟩ | ⟨_,h⟩
  ·rw [h.block g (by simp;omega) hne];exact Below.heap_alloc w4 ob g hg
  ·rw [h.block g (by simp;omega) (by simp)];exact Below.heap_alloc w4 ob g hg
 have hz:w4.heap.size<=w5.heap.size:=by
  rcases h3 with ⟨_,h⟩ | ⟨_,h⟩
  ·have:=h.size;simp at this;omega
  ·have:=h.size;simp at this;omega
 have hOut:zD w4 w5:=by
  rcases h3 with ⟨_,h⟩ | ⟨_,h⟩
  ·exact (zD.alloc w4 ob).trans (zD.of_grown h)
  ·exact (zD.alloc w4 ob).trans (zD.of_grown h)
 refine ⟨?_,⟨hz,fun g hg=> ?_,hOut⟩,hrow,?_,hold⟩
 ·refine K.skip_r (vb:=(Value.slice al' N cl').ownBlock) (fun g hg _=> ?_) hold (fun p hp=> ?_)
  ·obtain ⟨c,hc⟩:=ze row4 hg
   exact ⟨c,_,hc⟩
  ·rcases List.mem_append.1 hp with hp' | hp'
   ·exact .inl (hfr p hp')
   ·by_cases hq:p.1.ownBlock=(Value.slice al' N cl').ownBlock
    ·right
     rcases h3 with ⟨e,_⟩ | ⟨_,h⟩
     ·obtain ⟨e2,al,m,cl,e1,hm,ha⟩:=hE p hp'
      rw [e2]
      rw [e1] at hq ⊢
      exact qx.of_owns (pat:=xu (.string t)) hrow (by omega) (by omega) (e.trans hq.symm) ha
     ·exact (K.r.ok p hp).same fun g _ ⟨c,f,hg⟩=>by
       have hlt:=(Array.getElem?_eq_some_iff.1 hg).1
       rw [h.block g (by simp;omega) (by simp)];exact Below.heap_alloc w4 ob g hlt
    ·exact .inl (.inr hq)
 ·by_cases hq:some g=(Value.slice al' N cl').ownBlock
  ·exact .inr (.inl hq)
  ·exact .inl (hold g hg hq)
 ·intro p hp
  rcases h3 with ⟨e,_⟩ | ⟨e,_⟩
  ·rw [e];exact hfr p hp
  ·cases hv:p.1.ownBlock with
   | none=>exact .inl rfl
   | some g=>
     right
     intro e2
     have h1:=e g e2.symm
     have hM:=((K.r.ok p (List.mem_append_left _ hp)).lt g hv).1
     simp at h1
     omega
theorem FV {base wb bl n cl:Nat} {al:Option Addr} {x:WV} {B:Bk} {w:World} {xs:List Value} (K:zC base wb x B w) (hv:w.ownsRow bl 101 2 (.slice al n cl) n xs) (hn:n<=1900)
 (hfresh: ∀p∈B.r,p.1.ownBlock=none\/p.1.ownBlock≠(Value.slice al n cl).ownBlock) (hbase:base<=w.heap.size) (hbl:bl<=w.heap.size) (hc:x.c<=8000000000000) (hl:B.r.length<=800000000000):
 Calls prog 85 #[.pointer (some ⟨wb,0,none⟩),.slice al n cl] w fun e w'=>e= .returned (.tuple #[])/\ ∃(x':WV) (E:List (Value×Value)),zC base wb x' { B with r:=B.r++E } w'/\E.length=4/\x'.c=x.c+1/\
  (∀p∈E,p.1.ownBlock=(Value.slice al n cl).ownBlock\/ ∀g,p.1.ownBlock=some g->w.heap.size<=g)/\zs base w w' (fun g=>some g=(Value.slice al n cl).ownBlock):=by
 obtain ⟨i0,hi,ix0,ix1,ix2⟩:=info_parts Pv
 obtain ⟨j0,ji,jx0,jx1,jx2⟩:=info_parts qM
 obtain ⟨k0,ki,kx0,kx1,kx2⟩:=info_parts Qy
 have hwb:wb<w.heap.size:=(Array.getElem?_eq_some_iff.1 K.blk).1
 go_enter func85,ntmps85
 go_wp2_with fail
 refine (GL K.blk hc).mono ?_
 rintro e w1 ⟨t,rfl,ht8,hk1,hs1,hz1,hO1⟩
 have K1:=K.count hk1 hs1
 have hnw: ∀g,(Value.slice al n cl).ownBlock=some g->g≠wb:=fun g hg=>by
  obtain ⟨c,hc⟩:=ze hv hg
  exact zq hc K.blk (by decide)
 have hv1:w1.ownsRow bl 101 2 (.slice al n cl) n xs:=zu hv fun g hg=>hs1 g (hv.lt g hg).2 (hnw g hg)
 have hxb:(w1.alloc (.cells #[.int .u8 63,.string t] 101)).heap[w1.heap.size]? =some (.cells #[.int .u8 63,.string t] 101 (0,0)):=heap_alloc_new w1 _
 have hw2:Hid (∀g,g<w1.heap.size->(w1.alloc (.cells #[.int .u8 63,.string t] 101)).heap[g]? =w1.heap[g]?):=fun g hg=>Below.heap_alloc w1 _ g hg
 have hz2:(w1.alloc (.cells #[.int .u8 63,.string t] 101)).heap.size=w1.heap.size+1:=by simp
 have hv2:=hv1.alloc (.cells #[.int .u8 63,.string t] 101)
 have hgx:Hid (∀g,(Value.slice al n cl).ownBlock=some g->g<w1.heap.size):=fun g hg=>(hv1.lt g hg).2
 have hlen:Hid (xs.length=n*2):=hv.1
 have hF1:Hid (∀g,g<w.heap.size->w1.heap[g]? =w.heap[g]? \/ ∃cur t fr,w.heap[g]? =some (.cells cur t fr)/\t∈Tys/\base<=g):=fun g hg=>by
  by_cases e:g=wb
  ·subst e;exact .inr ⟨_,_,_,K.blk,by decide,K.wlo⟩
  ·exact .inl (hs1 g hg e)
 have hO2:Hid (zD w (w1.alloc (.cells #[.int .u8 63,.string t] 101))):=hO1.trans (zD.alloc _ _)
 have hv0:Hid (∀g,(Value.slice al n cl).ownBlock=some g-> ∃cur fr,w1.heap[g]? =some (.cells cur 101 fr)):=fun g hg=>by
  obtain ⟨c,hc⟩:=ze hv1 hg
  exact ⟨c,_,hc⟩
 go_wp2_with fail
 obtain ⟨xb,hxbE⟩: ∃xb,w1.heap.size=xb:=⟨_,rfl⟩
 rw [hxbE] at hxb hz2 ⊢
 generalize w1.alloc (.cells #[.int .u8 63,.string t] 101)=w2 at *
 clear hk1 hs1 hv1
 go_loopg [5] n (fun g t5 wr=> ∃i:Nat,g=n-i/\i<=n/\t5= .int .i64 i/\wr.ownsRow bl 101 2 (.slice al n cl) n (zP (xu (.string t)) i++xs.drop (i*2))/\Hid ((∀g,some g≠(Value.slice al n cl).ownBlock->wr.heap[g]? =w2.heap[g]?)/\zD w wr)/\wr.heap.size=xb+1)
 case atStart=>exact ⟨0,by omega,by omega,rfl,by simpa [zP] using hv2,⟨fun g _=>rfl,hO2.out⟩,hz2⟩
 case round=>
  rename World=>wr
  obtain ⟨i,hgi,hin,rfl,hrow,hoth,hzr⟩:=hrel
  have hG:Hid (_=n-i):=hgi
  clear hgi
  have hxr:wr.heap[xb]? =some (.cells #[.int .u8 63,.string t] 101 (0,0)):=by
   rw [hoth.out.1 xb (fun e=>by have:=hgx.out xb e.symm;omega)];exact hxb
  by_cases hi2:i<n
  ·have hiI:(i:Int)<n:=by omega
   obtain ⟨g,rfl,hg,⟨cur,hcur,hsz⟩,hrow2⟩:=Up (a:= .int .u8 63) (b:= .string t) hrow hlen.out hi2
   have c0:wr.cell? ⟨g,i*2,none⟩=some (cur[i*2]'(by omega)):=za hcur (by simp)
   have c1:wr.cell? ⟨g,i*2+1,none⟩=some (cur[i*2+1]'hsz):=za hcur (by simp [hsz])
   have fz: ∀k,wr.frozen? ⟨g,k,none⟩=false:=fun k=>zi hcur
   have y0:wr.cell? ⟨xb,0,none⟩=some (.int .u8 63):=za hxr rfl
   have y1:wr.cell? ⟨xb,1,none⟩=some (.string t):=za hxr rfl
   have hR:(∃j:Nat,n-(i+1)=n-j/\j<=n/\Value.int .i64 ((i:Int)+1)= .int .i64 j/\((wr.setCell ⟨g,i*2,none⟩ (.int .u8 63)).setCell ⟨g,i*2+1,none⟩ (.string t)).ownsRow bl 101 2 (.slice (some ⟨g,0,none⟩) n cl) n (zP (xu (.string t)) j++xs.drop (j*2))/\Hid ((∀g',some g'≠(Value.slice (some ⟨g,0,none⟩) n cl).ownBlock->((wr.setCell ⟨g,i*2,none⟩ (.int .u8 63)).setCell ⟨g,i*2+1,none⟩ (.string t)).heap[g']? =w2.heap[g']?)/\zD w ((wr.setCell ⟨g,i*2,none⟩ (.int .u8 63)).setCell ⟨g,i*2+1,none⟩ (.string t)))/\((wr.setCell ⟨g,i*2,none⟩ (.int .u8 63)).setCell ⟨g,i*2+1,none⟩ (.string t)).heap.size=xb+1):=by
    refine ⟨i+1,rfl,by omega,by push_cast;rfl,hrow2,⟨fun g' hne=> ?_,hoth.out.2.trans ((zD.setCell _ _ _).trans (zD.setCell _ _ _))⟩,by simp;exact hzr⟩
    have hgg:g'≠g:=fun e=>hne (by rw [e];rfl)
    rw [zd _ _ _ _ _ hgg,zd _ _ _ _ _ hgg]
    exact hoth.out.1 g' hne
   have hRH:Hid _:=hR
   clear hR hrow2 hrow hoth hcur hxr
   go_wp2_with fail
   go_roundg (n-(i+1))
   ·exact hRH.out
   ·have:=hG.out;omega
  ·obtain rfl:i=n:=by omega
   have hiI: ¬((i:Int)<i):=by omega
   have hrow3:wr.ownsRow bl 101 2 (.slice al i cl) i (zP (xu (.string t)) i):=by
    have h:=hrow
    rw [List.drop_of_length_le (by rw [hlen.out];exact Nat.le_refl _),List.append_nil] at h
    exact h
   have K3:zC base wb { x with c:=x.c+1 } B wr:=by
    refine zC.skip_r (vb:=(Value.slice al i cl).ownBlock) K1 (fun g hg _=>hv0.out g hg) (fun g hg hne=>(hoth.out.1 g hne).trans (hw2.out g hg)) (fun p hp=> .inl (hfresh p hp))
   have hFr:zs base w wr (fun g=>some g=(Value.slice al i cl).ownBlock):=by
    refine ⟨by omega,fun g hg=> ?_,hoth.out.2⟩
    by_cases e:some g=(Value.slice al i cl).ownBlock
    ·exact .inr (.inl e)
    ·rw [hoth.out.1 g e,hw2.out g (by omega)]
     rcases hF1.out g hg with h | h
     ·exact .inl h
     ·exact .inr (.inr h)
   have hKH:Hid (zC base wb { x with c:=x.c+1 } B wr/\zs base w wr (fun g=>some g=(Value.slice al i cl).ownBlock)):=⟨K3,hFr⟩
   have hnx:Hid ((Value.slice al i cl).ownBlock≠some xb):=fun e=>by have:=hgx.out xb e;omega
   clear K1 K3 hFr hrow hoth hv2 hxb hF1 hv0 hgx
   go_wp2_with fail
   go_loopg [1,6] 4 (fun g t1 t6 wk=> ∃(j:Nat) (al':Option Addr) (cl':Nat) (x':WV) (E:List (Value×Value)),g=4-j/\j<=4/\t6= .int .i64 j/\t1= .slice al' (i+j) cl'/\wk.ownsRow bl 101 2 (.slice al' (i+j) cl') (i+j) (zP (xu (.string t)) (i+j))/\zC base wb x' { B with r:=B.r++E } wk/\E.length=j/\x'.c=x.c+1/\
    Hid ((∀p∈E,p.1.ownBlock=(Value.slice al i cl).ownBlock\/ ∀g,p.1.ownBlock=some g->w.heap.size<=g)/\(∀p∈E,p.2= .string t/\ ∃al m cl,p.1= .slice al m cl/\m<=i+j/\ ∀a,al=some a->a=⟨a.block,0,none⟩)/\(∀p∈B.r,p.1.ownBlock=none\/p.1.ownBlock≠(Value.slice al' (i+j) cl').ownBlock)/\((Value.slice al' (i+j) cl').ownBlock=(Value.slice al i cl).ownBlock\/ ∀g,(Value.slice al' (i+j) cl').ownBlock=some g->w.heap.size<=g)/\(Value.slice al' (i+j) cl').ownBlock≠some xb/\zs base w wk (fun g=>some g=(Value.slice al i cl).ownBlock))/\wk.heap[xb]? =some (.cells #[.int .u8 63,.string t] 101 (0,0)))
   case atStart=>exact ⟨0,al,cl,{ x with c:=x.c+1 },[],rfl,by omega,rfl,rfl,hrow3,by simpa using hKH.out.1,rfl,rfl,⟨by simp,by simp,hfresh,.inl rfl,hnx.out,hKH.out.2⟩,hxr⟩
   case round=>
    rename World=>wk
    obtain ⟨j,al',cl',x',E,hgj,hj4,rfl,rfl,hrowk,Kk,hEl,hxc,hH,hxk⟩:=hrel
    have hG2:Hid (_=4-j):=hgj
    have hxbk:xb<wk.heap.size:=(Array.getElem?_eq_some_iff.1 hxk).1
    clear hgj hKH hnx hrow3 hxr
    by_cases hj2:j<4
    ·have hjI:(j:Int)<4:=by omega
     obtain ⟨N,hNe⟩: ∃N,(B.r++E).length=N:=⟨_,rfl⟩
     have hNN:Hid ((B.r++E).length=N):=hNe
     have hN:N=B.r.length+j:=by rw [<-hNe,List.length_append,hEl]
     have hwbk:wb<wk.heap.size:=(Array.getElem?_eq_some_iff.1 Kk.blk).1
     have hbk:base<=wk.heap.size:=by have:=hH.out.2.2.2.2.2.1;omega
     have hblk:bl<=wk.heap.size:=by have:=hH.out.2.2.2.2.2.1;omega
     have c2:wk.cell? ⟨wb,6,none⟩=some x'.r:=za Kk.blk rfl
     have hor:wk.ownsRow base 100 1 x'.r N ((B.r++E).map (·.1)):=by rw [<-hNe];exact Kk.r.row
     have hmar:wk.ownsRow base 9 1 x'.rm N ((B.r++E).map (·.2)):=by rw [<-hNe];exact Kk.r.marks
     have hon1: ∀u∈ [Value.slice al' (i+j) cl'],u.oneCell'=true:=by intro u hu;simp at hu;subst hu;rfl
     have hon2: ∀u∈ [Value.string t],u.oneCell'=true:=by intro u hu;simp at hu;subst hu;rfl
     have hon3: ∀u∈ [Value.int .u8 63,Value.string t],u.oneCell'=true:=by intro u hu;simp at hu;rcases hu with rfl | rfl<;>rfl
     have hm2:(N+1)*24<=140737488355328:=by omega
     have hm3:(N+1)*16<=140737488355328:=by omega
     have hm6:i+j+1<=1990:=Nat.le_trans (Nat.add_le_add_right (Nat.add_le_add hn (Nat.le_of_lt hj2)) 1) (by decide)
     have hm5:(i+j+1)*24<=140737488355328:=Nat.le_trans (Nat.mul_le_mul_right 24 hm6) (by decide)
     have hxcb:x'.c<=8000000000001:=by rw [hxc];exact Nat.succ_le_succ hc
     have hm1:N+1<=maxLen:=by unfold maxLen;omega
     have hm4:i+j+1<=maxLen:=Nat.le_trans hm6 (by decide)
     have hnr:Hid (x'.r.ownBlock≠some wb/\x'.rm.ownBlock≠some wb/\x'.r.ownBlock≠some xb/\x'.rm.ownBlock≠some xb/\ ∀g,x'.rm.ownBlock=some g->g≠wb/\some g≠x'.r.ownBlock):=by
      refine ⟨fun e=> ?_,fun e=> ?_,fun e=> ?_,fun e=> ?_,fun g e=>⟨?_,fun e2=> ?_⟩⟩
      ·obtain ⟨c,hc⟩:=ze Kk.r.row e;exact zq hc Kk.blk (by decide) rfl
      ·obtain ⟨c,hc⟩:=ze Kk.r.marks e;exact zq hc Kk.blk (by decide) rfl
      ·obtain ⟨c,hc⟩:=ze Kk.r.row e;exact zq hc hxk (by decide) rfl
      ·obtain ⟨c,hc⟩:=ze Kk.r.marks e;exact zq hc hxk (by decide) rfl
      ·obtain ⟨c,hc⟩:=ze Kk.r.marks e;exact zq hc Kk.blk (by decide)
      ·obtain ⟨c,hc⟩:=ze Kk.r.marks e;obtain ⟨c2,hc2⟩:=ze Kk.r.row e2.symm;exact zq hc hc2 (by decide) rfl
     have hA:Hid (∀(ob:Obj) (wA:World),(wk.alloc ob).grownBy wA x'.r.ownBlock->wA.heap[wb]? =some x'.obj/\wA.heap[xb]? =some (.cells #[.int .u8 63,.string t] 101 (0,0))/\wA.ownsRow base 9 1 x'.rm N ((B.r++E).map (·.2))/\wk.heap.size<=wA.heap.size):=by
      intro ob wA g1
      have k1: ∀g,g<wk.heap.size->some g≠x'.r.ownBlock->wA.heap[g]? =wk.heap[g]? :=fun g hg hne=>by
       rw [g1.block g (by simp;omega) hne];exact Below.heap_alloc wk ob g hg
      have z1:=g1.size
      simp at z1
      exact ⟨(k1 wb hwbk (fun e=>hnr.out.1 e.symm)).trans Kk.blk,(k1 xb hxbk (fun e=>hnr.out.2.2.1 e.symm)).trans hxk,zu hmar fun g hg=>k1 g (Kk.r.marks.lt g hg).2 (hnr.out.2.2.2.2 g hg).2,by omega⟩
     have hM:Hid (qx 101 2 (xu (.string t)) wk (.slice al' (i+j) cl')):=qx.of_owns (pat:=xu (.string t)) hrowk (Nat.le_refl _) (by exact Nat.le_trans (Nat.le_succ _) (Nat.le_trans hm6 (by decide))) rfl (QM hrowk)
     have hKH:Hid (zC base wb x' { B with r:=B.r++E } wk):=Kk
     have hrH:Hid (wk.ownsRow bl 101 2 (.slice al' (i+j) cl') (i+j) (zP (xu (.string t)) (i+j))):=hrowk
     have haddr:Hid (∀a,al'=some a->a=⟨a.block,0,none⟩):=QM hrowk
     have hfzk: ∀k,wk.frozen? ⟨wb,k,none⟩=false:=fun k=>zi Kk.blk
     have hxkH:Hid (wk.heap[xb]? =some (.cells #[.int .u8 63,.string t] 101 (0,0))):=hxk
     have hxw:xb≠wb:=zq hxk Kk.blk (by decide)
     clear Kk hrowk hxk hlen hw2 hN hNe
     go_wp2_with (at_builtin;refine zm rfl (.tmp 28) (.tmp 30) 53 rfl base 100 i0 _ 1 24 underlying53 hi ix0 ix1 ix2 rfl (by decide) x'.r N ((B.r++E).map (·.1)) rfl (hor.alloc _) ⟨wk.heap.size,0,none⟩ 1 1 [.slice al' (i+j) cl'] rfl rfl (zt wk _ _) hon1 hm1 hm2 (by simp;omega) ?_;intro v1 wA o1 g1 n1;obtain ⟨a1,c1,rfl⟩:=zn o1;obtain ⟨bA,xA,mA,zA⟩:=hA.out _ wA g1;have cA:wA.cell? ⟨wb,6,none⟩=some x'.r:=za bA rfl;have fA: ∀k,wA.frozen? ⟨wb,k,none⟩=false:=fun k=>zi bA;have o1H:Hid _:=o1;have g1H:Hid _:=g1;clear o1 g1 n1)
     obtain ⟨U,hUe⟩: ∃U,wA.setCell ⟨wb,6,none⟩ (.slice a1 (N+1) c1)=U:=⟨_,rfl⟩
     have bU:U.heap[wb]? =some ({ x' with r:= .slice a1 (N+1) c1 } :WV).obj:=by rw [<-hUe,zb _ _ _ _ _ _ _ bA];rfl
     have xU:U.heap[xb]? =some (.cells #[.int .u8 63,.string t] 101 (0,0)):=by rw [<-hUe,zd _ _ _ _ _ hxw];exact xA
     have mU:U.ownsRow base 9 1 x'.rm N ((B.r++E).map (·.2)):=by rw [<-hUe];exact zu mA fun g hg=>zd _ _ _ _ _ (hnr.out.2.2.2.2 g hg).1
     have zU:wk.heap.size<=U.heap.size:=by rw [<-hUe];simpa using zA
     have d3:U.cell? ⟨wb,7,none⟩=some x'.rm:=za bU rfl
     have dx:U.cell? ⟨xb,1,none⟩=some (.string t):=za xU rfl
     have dfz: ∀k,U.frozen? ⟨wb,k,none⟩=false:=fun k=>zi bU
     have hxbU:xb<U.heap.size:=Nat.lt_of_lt_of_le hxbk zU
     have hwbU:wb<U.heap.size:=Nat.lt_of_lt_of_le hwbk zU
     have hbs: ∀ob,base<=((U.alloc ob).drew).heap.size:=by intro ob;simp;exact Nat.le_trans (Nat.le_trans hbk zU) (Nat.le_succ _)
     have mUd:((U.alloc (.cells #[.string t] 9)).drew).ownsRow base 9 1 x'.rm N ((B.r++E).map (·.2)):=mU.alloc _
     have hcn: ∀(j:Nat) (u:Value),[Value.string t][j]? =some u->((U.alloc (.cells #[.string t] 9)).drew).cell? ((⟨U.heap.size,0,none⟩:Addr).add j)=some u:=zt U [.string t] 9
     have hY:Hid (∀(ob:Obj) (w3:World),((U.alloc ob).drew).grownBy w3 x'.rm.ownBlock->w3.heap[wb]? =U.heap[wb]?):=by
      intro ob w3 g2
      rw [g2.block wb (by simp;exact Nat.lt_of_lt_of_le hwbU (Nat.le_succ _)) (fun e=>hnr.out.2.1 e.symm)]
      exact Below.heap_alloc U ob wb hwbU
     have hpush:Hid (∀(ob:Obj) (v2:Value) (w3:World),((U.alloc ob).drew).grownBy w3 x'.rm.ownBlock->w3.ownsRow base 9 1 v2 (N+1) ((B.r++E).map (·.2)++ [.string t])->(v2.ownBlock=x'.rm.ownBlock\/ ∀g,v2.ownBlock=some g->((U.alloc ob).drew).heap.size<=g)->
       ∃x2:WV,zC base wb x2 { B with r:=B.r++(E++ [(.slice al' (i+j) cl',.string t)]) } (w3.setCell ⟨wb,7,none⟩ v2)/\x2.c=x'.c/\zs base wk (w3.setCell ⟨wb,7,none⟩ v2) (fun _=>False)):=by
      intro ob v2 w3 g2 o2 n2
      obtain ⟨k1,k2⟩:=hKH.out.push_r (m:= .string t) (v1:= .slice a1 (N+1) c1) (v2:=v2) (w3:=w3) g1H.out (by show wA.ownsRow base 100 1 _ ((B.r++E).length+1) _;rw [hNN.out];exact o1H.out) (by rw [hUe];exact ⟨g2.os,g2.tape,g2.output,g2.size,g2.block⟩) (by show w3.ownsRow base 9 1 _ ((B.r++E).length+1) _;rw [hNN.out];exact o2) (n2.imp id fun h g e=>by have h1:=h g e;simp at h1;omega) hM.out ⟨fun h=>absurd h (by decide),fun _=>⟨t,rfl⟩⟩
      refine ⟨{ x' with r:= .slice a1 (N+1) c1,rm:=v2 },?_,rfl,k2⟩
      rw [<-List.append_assoc]
      exact k1
     clear bA xA mA zA cA fA
     rw [hUe]
     clear hUe o1H g1H bU xU hA hor c2 hfzk hmar
     go_cut [] (fun wx=> ∃x2:WV,zC base wb x2 { B with r:=B.r++(E++ [(.slice al' (i+j) cl',.string t)]) } wx/\x2.c=x'.c/\zs base wk wx (fun _=>False))
     case first=>
      go_region_law (refine yo rfl (.tmp 38) (.tmp 41) 27 rfl base 9 j0 _ 1 16 underlying27 ji jx0 jx1 jx2 rfl (by decide) x'.rm N ((B.r++E).map (·.2)) (by simp [Act.eval]) mUd ⟨U.heap.size,0,none⟩ 1 1 [.string t] (by simp [Act.eval]) rfl hcn hon2 hm1 hm3 (hbs _) ?_;intro v2 w3 o2 g2 n2;obtain ⟨a2,c2,rfl⟩:=zn o2;have b3:=hY.out _ w3 g2;have e3:=(World.cell?_of_block (a:=⟨wb,7,none⟩) b3).trans d3;have f3:=fun k=>(World.frozen?_of_block (a:=⟨wb,k,none⟩) b3).trans (dfz k))
      all_goals
       have hR:=hpush.out _ _ w3 g2 o2 n2
       have hRH:Hid _:=hR
       clear hR hpush hY g2 o2 n2
       go_wp2_with fail
       go_meet
       case rel=>exact hRH.out
     case rest=>
      obtain ⟨x2,K4,hx2c,F4⟩:=hcut
      obtain ⟨W4,rfl⟩: ∃W4,W4=wc:=⟨_,rfl⟩
      have hx4:W4.heap[xb]? =some (.cells #[.int .u8 63,.string t] 101 (0,0)):=(F4.at hxkH.out (by decide) (fun h=>h)).trans hxkH.out
      have row4:W4.ownsRow bl 101 2 (.slice al' (i+j) cl') (i+j) (zP (xu (.string t)) (i+j)):=zu hrH.out fun g hg=>by
       obtain ⟨c,hc⟩:=ze hrH.out hg
       exact F4.at hc (by decide) (fun h=>h)
      have hbl4:bl<=W4.heap.size:=Nat.le_trans hblk F4.1
      have e0:W4.cell? ⟨xb,0,none⟩=some (.int .u8 63):=za hx4 rfl
      have e1:W4.cell? ⟨xb,1,none⟩=some (.string t):=za hx4 rfl
      have hFin:Hid (∀(ob:Obj) (v5:Value) (w5:World),w5.ownsRow bl 101 2 v5 (i+j+1) (zP (xu (.string t)) (i+j)++ [.int .u8 63,.string t])->((v5.ownBlock=(Value.slice al' (i+j) cl').ownBlock/\(W4.alloc ob).grownBy w5 (Value.slice al' (i+j) cl').ownBlock)\/((∀g,v5.ownBlock=some g->(W4.alloc ob).heap.size<=g)/\(W4.alloc ob).grownBy w5 none))->
       ∃(j':Nat) (al5:Option Addr) (cl5:Nat) (x5:WV) (E5:List (Value×Value)),4-(j+1)=4-j'/\j'<=4/\Value.int .i64 ((j:Int)+1)= .int .i64 j'/\v5= .slice al5 (i+j') cl5/\w5.ownsRow bl 101 2 (.slice al5 (i+j') cl5) (i+j') (zP (xu (.string t)) (i+j'))/\zC base wb x5 { B with r:=B.r++E5 } w5/\E5.length=j'/\x5.c=x.c+1/\
       Hid ((∀p∈E5,p.1.ownBlock=(Value.slice al i cl).ownBlock\/ ∀g,p.1.ownBlock=some g->w.heap.size<=g)/\(∀p∈E5,p.2= .string t/\ ∃al m cl,p.1= .slice al m cl/\m<=i+j'/\ ∀a,al=some a->a=⟨a.block,0,none⟩)/\(∀p∈B.r,p.1.ownBlock=none\/p.1.ownBlock≠(Value.slice al5 (i+j') cl5).ownBlock)/\((Value.slice al5 (i+j') cl5).ownBlock=(Value.slice al i cl).ownBlock\/ ∀g,(Value.slice al5 (i+j') cl5).ownBlock=some g->w.heap.size<=g)/\(Value.slice al5 (i+j') cl5).ownBlock≠some xb/\zs base w w5 (fun g=>some g=(Value.slice al i cl).ownBlock))/\w5.heap[xb]? =some (.cells #[.int .u8 63,.string t] 101 (0,0))):=by
       intro ob v5 w5 row5 h3
       obtain ⟨q1,q2,q3,q4,q5,q6⟩:=hH.out
       have hE2: ∀p∈E++ [(Value.slice al' (i+j) cl',Value.string t)],p.2= .string t/\ ∃al m cl,p.1= .slice al m cl/\m<=i+j/\ ∀a,al=some a->a=⟨a.block,0,none⟩:=by
        intro p hp
        rcases List.mem_append.1 hp with hp | hp
        ·exact q2 p hp
        ·rw [List.mem_singleton] at hp
         subst hp
         exact ⟨rfl,al',i+j,cl',rfl,Nat.le_refl _,haddr.out⟩
       obtain ⟨s1,s2,s3,s4,s5⟩:=Vh (ob:=ob) K4 (Nat.le_of_succ_le hm6) row4 hE2 q3 row5 h3
       obtain ⟨al5,cl5,rfl⟩:=zn row5
       have hFz:=F4.1
       have hq61:=q6.1
       have hold:(Value.slice al5 (i+j+1) cl5).ownBlock=(Value.slice al' (i+j) cl').ownBlock\/ ∀g,(Value.slice al5 (i+j+1) cl5).ownBlock=some g->W4.heap.size<=g:=h3.imp (fun h=>h.1) (fun h g e=>by have:=h.1 g e;simp at this;omega)
       refine ⟨j+1,al5,cl5,x2,_,rfl,hj2,by push_cast;rfl,rfl,s3,s1,by rw [List.length_append,hEl];rfl,hx2c.trans hxc,⟨?_,?_,s4,?_,?_,?_⟩,?_⟩
       ·intro p hp
        rcases List.mem_append.1 hp with hp | hp
        ·exact q1 p hp
        ·rw [List.mem_singleton] at hp
         subst hp
         exact q4
       ·intro p hp
        obtain ⟨r1,al,m,cl,r2,r3,r4⟩:=hE2 p hp
        exact ⟨r1,al,m,cl,r2,Nat.le_succ_of_le r3,r4⟩
       ·rcases hold with h | h
        ·have h':(Value.slice al5 (i+(j+1)) cl5).ownBlock=(Value.slice al' (i+j) cl').ownBlock:=h
         rw [h'];exact q4
        ·right
         intro g e
         have:=h g e
         omega
       ·rcases hold with h | h
        ·have h':(Value.slice al5 (i+(j+1)) cl5).ownBlock=(Value.slice al' (i+j) cl').ownBlock:=h
         rw [h'];exact q5
        ·intro e
         have:=h xb e
         omega
       ·have hF:=(q6.trans F4).trans s2
        refine hF.mono fun g hg h=> ?_
        rcases h with (h | h) | h
        ·exact h
        ·exact h.elim
        ·rcases q4 with e | e
         ·exact h.trans e
         ·have:=e g h.symm;omega
       ·rw [s5 xb (by omega) (fun e=>q5 e.symm)]
        exact hx4
      clear hH hKH hM K4 F4 hnr hrH
      go_wp2_with (at_builtin;refine xr rfl (.tmp 45) (.tmp 47) 100 rfl bl 101 k0 _ 2 24 underlying100 ki kx0 kx1 kx2 rfl (by decide) (.slice al' (i+j) cl') (i+j) (zP (xu (.string t)) (i+j)) rfl (row4.alloc _) ⟨W4.heap.size,0,none⟩ 1 1 [.int .u8 63,.string t] rfl rfl (zt W4 _ _) hon3 hm4 hm5 (by simp;omega) ?_;intro v5 w5 row5 h3;have hR:=hFin.out _ v5 w5 row5 h3;have hRH:Hid _:=hR;clear hR row5 h3)
      go_roundg (4-(j+1))
      ·exact hRH.out
      ·have:=hG2.out;omega
    ·obtain rfl:j=4:=by omega
     have hR: ∃(x':WV) (E:List (Value×Value)),zC base wb x' { B with r:=B.r++E } wk/\E.length=4/\x'.c=x.c+1/\(∀p∈E,p.1.ownBlock=(Value.slice al i cl).ownBlock\/ ∀g,p.1.ownBlock=some g->w.heap.size<=g)/\zs base w wk (fun g=>some g=(Value.slice al i cl).ownBlock):=⟨x',E,Kk,hEl,hxc,hH.out.1,hH.out.2.2.2.2.2⟩
     have hRH:Hid _:=hR
     clear hR Kk hH hrowk hxk
     go_wp2_with fail
     go_end0
     exact ⟨rfl,hRH.out⟩
theorem Eh {hs:List zx} {a b:Option Addr} {ca cb:Nat} {w:World} (hA:zO w.heap.size w (.slice a hs.length ca) hs) (hB:zO w.heap.size w (.slice b hs.length cb) hs) (hL:hs.length<=1000) (hl: ∀h∈hs,h.lines.length<=1000):
 Calls prog 81 #[.agg #[.slice a hs.length ca],.agg #[.slice b hs.length cb]] w fun e w'=>e= .returned (.bool true)/\Below w.heap.size w w':=by
 have hb0:=((Below.refl w.heap.size w).alloc (Nat.le_refl _) (.cells #[.slice a hs.length ca] 32)).alloc (by simp) (.cells #[.slice b hs.length cb] 32)
 have hP1:=heap_alloc_new w (.cells #[.slice a hs.length ca] 32)
 have hP2:=heap_alloc_new (w.alloc (.cells #[.slice a hs.length ca] 32)) (.cells #[.slice b hs.length cb] 32)
 rw [World.size_alloc] at hP2
 have hP1':=(Below.heap_alloc (w.alloc (.cells #[.slice a hs.length ca] 32)) (.cells #[.slice b hs.length cb] 32) w.heap.size (by simp)).trans hP1
 have hz:((w.alloc (.cells #[.slice a hs.length ca] 32)).alloc (.cells #[.slice b hs.length cb] 32)).heap.size=w.heap.size+2:=by simp
 go_enter func81,ntmps81
 go_wp2_with fail
 generalize (w.alloc (.cells #[.slice a hs.length ca] 32)).alloc (.cells #[.slice b hs.length cb] 32)=W0 at *
 clear hP1
 go_loopg [5] hs.length (fun g t wr=> ∃k:Nat,g=hs.length-k/\k<=hs.length/\t= .int .i64 k/\Below W0.heap.size W0 wr)
 case atStart=>exact ⟨0,by omega,by omega,rfl,Below.refl _ _⟩
 case round=>
  obtain ⟨k,hgk,hkl,rfl,hbel⟩:=hrel
  have hG:Hid (gk=hs.length-k):=hgk
  clear hgk
  have hsw:=hbel.size
  have hbw:=hb0.trans (hbel.mono (by omega))
  have p1:wr.cell? ⟨w.heap.size,0,none⟩=some (.slice a hs.length ca):=za ((hbel.block w.heap.size (by omega)).trans hP1') rfl
  have p2:wr.cell? ⟨w.heap.size+1,0,none⟩=some (.slice b hs.length cb):=za ((hbel.block (w.heap.size+1) (by omega)).trans hP2) rfl
  by_cases hk:k<hs.length
  ·have hkI:(k:Int)<hs.length:=by omega
   obtain ⟨bA,a1,c1,rfl,hbA,r0,r1,r2,r3,r4,hsA⟩:=(hA.below hbw).at hk
   obtain ⟨bB,a2,c2,rfl,hbB,t0,t1,t2,t3,t4,hsB⟩:=(hB.below hbw).at hk
   have l1:=hl _ (List.getElem_mem hk)
   generalize hs[k]=h at *
   have q1:=(Below.refl wr.heap.size wr).alloc (Nat.le_refl _) (qC h a1 c1)
   have q2:=q1.alloc q1.size (qC h a2 c2)
   have hX1:=heap_alloc_new wr (qC h a1 c1)
   have hX2:=heap_alloc_new (wr.alloc (qC h a1 c1)) (qC h a2 c2)
   rw [World.size_alloc] at hX2
   have hX1':=(Below.heap_alloc (wr.alloc (qC h a1 c1)) (qC h a2 c2) wr.heap.size (by simp)).trans hX1
   have hzU:((wr.alloc (qC h a1 c1)).alloc (qC h a2 c2)).heap.size=wr.heap.size+2:=by simp
   have t0':(wr.alloc (qC h a1 c1)).cell? ⟨bB,k*5,none⟩=some (.int .i64 (h.fr:Int)):=(q1.cell (p:=⟨bB,k*5,none⟩) (by show bB<wr.heap.size;omega)).trans t0
   have t1':(wr.alloc (qC h a1 c1)).cell? ⟨bB,k*5+1,none⟩=some (.int .i64 (h.fc:Int)):=(q1.cell (p:=⟨bB,k*5+1,none⟩) (by show bB<wr.heap.size;omega)).trans t1
   have t2':(wr.alloc (qC h a1 c1)).cell? ⟨bB,k*5+2,none⟩=some (.int .i64 (h.tr:Int)):=(q1.cell (p:=⟨bB,k*5+2,none⟩) (by show bB<wr.heap.size;omega)).trans t2
   have t3':(wr.alloc (qC h a1 c1)).cell? ⟨bB,k*5+3,none⟩=some (.int .i64 (h.tc:Int)):=(q1.cell (p:=⟨bB,k*5+3,none⟩) (by show bB<wr.heap.size;omega)).trans t3
   have t4':(wr.alloc (qC h a1 c1)).cell? ⟨bB,k*5+4,none⟩=some (.slice a2 h.lines.length c2):=(q1.cell (p:=⟨bB,k*5+4,none⟩) (by show bB<wr.heap.size;omega)).trans t4
   have p2':(wr.alloc (qC h a1 c1)).cell? ⟨w.heap.size+1,0,none⟩=some (.slice (some ⟨bB,0,none⟩) hs.length cb):=(q1.cell (p:=⟨w.heap.size+1,0,none⟩) (by show w.heap.size+1<wr.heap.size;omega)).trans p2
   clear hX1 t0 t1 t2 t3 t4
   have e0: ∀x:Int,(x !=x)=false:=by simp
   go_wp2_with fail
   generalize (wr.alloc (qC h a1 c1)).alloc (qC h a2 c2)=U at *
   have hbU:=hbel.trans (q2.mono (by omega))
   have hsA':=hsA.below (q2.mono (by omega))
   have hsB':=hsB.below (q2.mono (by omega))
   clear t0' t1' t2' t3' t4' p2' r0 r1 r2 r3 r4 p1 p2 hsA hsB q1
   unfold qC at hX1' hX2
   generalize h.lines=M at *
   go_loopg [8] M.length (fun g t wi=> ∃j:Nat,g=M.length-j/\j<=M.length/\t= .int .i64 j/\Below U.heap.size U wi)
   case atStart=>exact ⟨0,by omega,by omega,rfl,Below.refl _ _⟩
   case round=>
    rename World=>wi
    obtain ⟨j,hgj,hjl,rfl,hbi⟩:=hrel
    have hGj:Hid (_=M.length-j):=hgj
    clear hgj
    have hsi:=hbi.size
    have x1:wi.cell? ⟨wr.heap.size,4,none⟩=some (.slice a1 M.length c1):=za ((hbi.block wr.heap.size (by omega)).trans hX1') rfl
    have x2:wi.cell? ⟨wr.heap.size+1,4,none⟩=some (.slice a2 M.length c2):=za ((hbi.block (wr.heap.size+1) (by omega)).trans hX2) rfl
    by_cases hj:j<M.length
    ·have hjI:(j:Int)<M.length:=by omega
     obtain ⟨g1,rfl,hg1,u0,u1⟩:=(hsA'.below (hbi.mono (by omega))).at hj
     obtain ⟨g2,rfl,hg2,v0,v1⟩:=(hsB'.below (hbi.mono (by omega))).at hj
     generalize M[j]=sx at *
     have hjI0:(0:Int)<=(j:Int):=by omega
     go_wp2_with fail
     go_quiet (fail)
     go_wp2_with fail
     go_roundg (M.length-(j+1))
     ·exact ⟨j+1,rfl,by omega,by push_cast;rfl,Below.drewN' hbi⟩
     ·have:=hGj.out;omega
    ·have hjI: ¬((j:Int)<M.length):=by omega
     go_wp2_with fail
     go_roundg (hs.length-(k+1))
     ·exact ⟨k+1,rfl,by omega,by push_cast;rfl,hbU.trans (hbi.mono (by omega))⟩
     ·have:=hG.out;omega
  ·have hkI: ¬((k:Int)<hs.length):=by omega
   go_wp2_with fail
   go_ret
   exact ⟨rfl,hbw⟩
end Go.Proofs.YtcclgodahlinbaaGreatDoor
