import Derived.Test.YtcclgodahlinbaaGreatDoorA21
import Derived.Deep.RegionLaw
import Derived.Deep.DeepCutAuto
namespace Go.Proofs.YtcclgodahlinbaaGreatDoor
set_option maxHeartbeats 16000000
open Tryz Go.RowKit Go
set_option maxRecDepth 100000
theorem qb {w:World} {base e size n cl:Nat} {al:Option Addr} {xs:List Value} (h:w.ownsRow base e size (.slice al n cl) n xs): ∀a,al=some a->a=⟨a.block,0,none⟩:=by
 intro a ha
 subst ha
 rcases h.2 with ⟨e,_⟩ | ⟨g,cap,cur,e,_⟩
 ·cases e
 ·cases e;rfl
theorem GT:(prog.info? 59).map (fun i=>(i.zero,i.size,i.bytes))=some (some (.slice none 0 0),1,24):=by kernel_rfl
theorem UD {w:World} {bl n i:Nat} {xs:List Value} {a b:Value} {al:Option Addr} {cl:Nat} (h:w.ownsRow bl 93 2 (.slice al n cl) n (zP [a,b] i++xs.drop (i*2))) (hx:xs.length=n*2) (hi:i<n):
 ∃g,al=some ⟨g,0,none⟩/\g<w.heap.size/\(∃cur,w.heap[g]? =some (.cells cur 93 (0,0))/\i*2+1<cur.size)/\((w.setCell ⟨g,i*2,none⟩ a).setCell ⟨g,i*2+1,none⟩ b).ownsRow bl 93 2 (.slice al n cl) n (zP [a,b] (i+1)++xs.drop ((i+1)*2)):=by
 rcases h.2 with ⟨_,h0⟩ | ⟨g,cap,cur,e,hb,hg,h1,h2,h3,h4⟩
 ·omega
 ·cases e
  have hsz:i*2+1<cur.size:=by rw [h3];omega
  have hpl:(zP [a,b] i).length=i*2:=zW [a,b] i
  refine ⟨g,rfl,(Array.getElem?_eq_some_iff.1 hg).1,⟨cur,hg,hsz⟩,?_,.inr ⟨g,cl,_,rfl,hb,zb _ _ _ _ _ _ _ (zb _ _ _ _ _ _ _ hg),h1,h2,by simp [h3],?_⟩⟩
  ·rw [List.length_append,zW,List.length_drop,hx]
   show (i+1)*2+_=_
   omega
  ·have h5:List.take (n*2) ((cur.setIfInBounds (i*2) a).setIfInBounds (i*2+1) b).toList=((List.take (n*2) cur.toList).set (i*2) a).set (i*2+1) b:=by
    simp [List.take_set]
   rw [h5,h4]
   apply List.ext_getElem?
   intro j
   rw [List.getElem?_set,List.getElem?_set]
   have hl1:(zP [a,b] i++xs.drop (i*2)).length=n*2:=by rw [List.length_append,hpl,List.length_drop,hx];omega
   have hl2:(zP [a,b] (i+1)).length=(i+1)*2:=zW [a,b] (i+1)
   by_cases e1:i*2+1=j
   ·subst e1
    rw [if_pos rfl,if_pos (by rw [List.length_set,hl1];omega),List.getElem?_append_left (by rw [hl2];omega)]
    have:=jn [a,b] (i+1) i 1 (by omega) (by simp)
    simpa using this.symm
   ·rw [if_neg e1]
    by_cases e2:i*2=j
    ·subst e2
     rw [if_pos rfl,if_pos (by rw [hl1];omega),List.getElem?_append_left (by rw [hl2];omega)]
     have:=jn [a,b] (i+1) i 0 (by omega) (by simp)
     simpa using this.symm
    ·rw [if_neg e2]
     by_cases e3:j<i*2
     ·rw [List.getElem?_append_left (by rw [hpl];omega),List.getElem?_append_left (by rw [hl2];omega)]
      rw [zP,List.getElem?_append_left (by rw [hpl];omega)]
     ·rw [List.getElem?_append_right (by rw [hpl];omega),List.getElem?_append_right (by rw [hl2];omega),List.getElem?_drop,List.getElem?_drop,hpl,hl2]
      congr 1
      omega
theorem Wq {base wb bl N cl':Nat} {al':Option Addr} {x:WV} {B:Bk} {E:List (Value×Value)} {w4 w5:World} {t:ByteArray} {v':Value} {ob:Obj} (K:zC base wb x { B with l:=B.l++E } w4) (hN:N<=1990000)
 (row4:w4.ownsRow bl 93 2 (.slice al' N cl') N (zP (xu (.string t)) N)) (hE: ∀p∈E,p.2= .string t/\ ∃al m cl,p.1= .slice al m cl/\m<=N/\ ∀a,al=some a->a=⟨a.block,0,none⟩) (hfr: ∀p∈B.l,p.1.ownBlock=none\/p.1.ownBlock≠(Value.slice al' N cl').ownBlock)
 (row5:w5.ownsRow bl 93 2 v' (N+1) (zP (xu (.string t)) N++ [.int .u8 63,.string t]))
 (h3:(v'.ownBlock=(Value.slice al' N cl').ownBlock/\(w4.alloc ob).grownBy w5 (Value.slice al' N cl').ownBlock)\/((∀g,v'.ownBlock=some g->(w4.alloc ob).heap.size<=g)/\(w4.alloc ob).grownBy w5 none)):
 zC base wb x { B with l:=B.l++E } w5/\zs base w4 w5 (fun g=>some g=(Value.slice al' N cl').ownBlock)/\w5.ownsRow bl 93 2 v' (N+1) (zP (xu (.string t)) (N+1))/\(∀p∈B.l,p.1.ownBlock=none\/p.1.ownBlock≠v'.ownBlock)/\(∀g,g<w4.heap.size->some g≠(Value.slice al' N cl').ownBlock->w5.heap[g]? =w4.heap[g]?):=by
 have hrow:w5.ownsRow bl 93 2 v' (N+1) (zP (xu (.string t)) (N+1)):=row5
 have hold: ∀g,g<w4.heap.size->some g≠(Value.slice al' N cl').ownBlock->w5.heap[g]? =w4.heap[g]? :=fun g hg hne=>by
  rcases h3 with ⟨_,h⟩ | ⟨_,h⟩
  ·rw [h.block g (by simp;omega) hne];exact Below.heap_alloc w4 ob g hg
  ·rw [h.block g (by simp;omega) (by simp)];exact Below.heap_alloc w4 ob g hg
 have hz:w4.heap.size<=w5.heap.size:=by
  rcases h3 with ⟨_,h⟩ | ⟨_,h⟩
  ·have:=h.size;simp at this;omega
  ·have:=h.size;simp at this;omega
 have hOut:zD w4 w5:=by
  rcases h3 with ⟨_,h⟩ | ⟨_,h⟩
  ·exact (zD.alloc w4 ob).trans (zD.of_grown h)
  ·exact (zD.alloc w4 ob).trans (zD.of_grown h)
 refine ⟨?_,⟨hz,fun g hg=> ?_,hOut⟩,hrow,?_,hold⟩
 ·refine K.skip_l (vb:=(Value.slice al' N cl').ownBlock) (fun g hg _=> ?_) hold (fun p hp=> ?_)
  ·obtain ⟨c,hc⟩:=ze row4 hg
   exact ⟨c,_,hc⟩
  ·rcases List.mem_append.1 hp with hp' | hp'
   ·exact .inl (hfr p hp')
   ·by_cases hq:p.1.ownBlock=(Value.slice al' N cl').ownBlock
    ·right
     rcases h3 with ⟨e,_⟩ | ⟨_,h⟩
     ·obtain ⟨e2,al,m,cl,e1,hm,ha⟩:=hE p hp'
      rw [e2]
      rw [e1] at hq ⊢
      exact qx.of_owns (pat:=xu (.string t)) hrow (by omega) (by omega) (e.trans hq.symm) ha
     ·exact (K.l.ok p hp).same fun g _ ⟨c,f,hg⟩=>by
       have hlt:=(Array.getElem?_eq_some_iff.1 hg).1
       rw [h.block g (by simp;omega) (by simp)];exact Below.heap_alloc w4 ob g hlt
    ·exact .inl (.inr hq)
 ·by_cases hq:some g=(Value.slice al' N cl').ownBlock
  ·exact .inr (.inl hq)
  ·exact .inl (hold g hg hq)
 ·intro p hp
  rcases h3 with ⟨e,_⟩ | ⟨e,_⟩
  ·rw [e];exact hfr p hp
  ·cases hv:p.1.ownBlock with
   | none=>exact .inl rfl
   | some g=>
     right
     intro e2
     have h1:=e g e2.symm
     have hM:=((K.l.ok p (List.mem_append_left _ hp)).lt g hv).1
     simp at h1
     omega
theorem XF {F:Nat->Prop} {base wb bl n cl:Nat} {al:Option Addr} {x:WV} {B:Bk} {w:World} {xs:List Value} (K:zC base wb x B w) (hv:w.ownsRow bl 93 2 (.slice al n cl) n xs) (hn:n<=1900000)
 (hfresh: ∀p∈B.l,p.1.ownBlock=none\/p.1.ownBlock≠(Value.slice al n cl).ownBlock) (hbase:base<=w.heap.size) (hbl:bl<=w.heap.size) (hc:x.c<=8000000000000) (hl:B.l.length<=800000000000)
 (hFar:Hid (∀g,F g->g<w.heap.size/\g≠wb/\x.l.ownBlock≠some g/\x.lm.ownBlock≠some g/\(Value.slice al n cl).ownBlock≠some g)):
 Calls prog 113 #[.pointer (some ⟨wb,0,none⟩),.slice al n cl] w fun e w'=>e= .returned (.tuple #[])/\ ∃(x':WV) (E:List (Value×Value)),zC base wb x' { B with l:=B.l++E } w'/\E.length=4/\x'.c=x.c+1/\
  (∀p∈E,p.1.ownBlock=(Value.slice al n cl).ownBlock\/ ∀g,p.1.ownBlock=some g->w.heap.size<=g)/\zs base w w' (fun g=>some g=(Value.slice al n cl).ownBlock)/\(∀g,F g->w'.heap[g]? =w.heap[g]? /\x'.l.ownBlock≠some g/\x'.lm.ownBlock≠some g):=by
 obtain ⟨i0,hi,ix0,ix1,ix2⟩:=info_parts GT
 obtain ⟨j0,ji,jx0,jx1,jx2⟩:=info_parts qM
 obtain ⟨k0,ki,kx0,kx1,kx2⟩:=info_parts yJ
 have hwb:wb<w.heap.size:=(Array.getElem?_eq_some_iff.1 K.blk).1
 go_enter func113,ntmps113
 go_wp2_with fail
 refine (GL K.blk hc).mono ?_
 rintro e w1 ⟨t,rfl,ht8,hk1,hs1,hz1,hO1⟩
 have K1:=K.count hk1 hs1
 have hFw:Hid (∀g,F g->w1.heap[g]? =w.heap[g]?):=fun g hg=>hs1 g (hFar.out g hg).1 (hFar.out g hg).2.1
 have hnw: ∀g,(Value.slice al n cl).ownBlock=some g->g≠wb:=fun g hg=>by
  obtain ⟨c,hc⟩:=ze hv hg
  exact zq hc K.blk (by decide)
 have hv1:w1.ownsRow bl 93 2 (.slice al n cl) n xs:=zu hv fun g hg=>hs1 g (hv.lt g hg).2 (hnw g hg)
 have hxb:(w1.alloc (.cells #[.int .u8 63,.string t] 93)).heap[w1.heap.size]? =some (.cells #[.int .u8 63,.string t] 93 (0,0)):=heap_alloc_new w1 _
 have hw2:Hid (∀g,g<w1.heap.size->(w1.alloc (.cells #[.int .u8 63,.string t] 93)).heap[g]? =w1.heap[g]?):=fun g hg=>Below.heap_alloc w1 _ g hg
 have hz2:(w1.alloc (.cells #[.int .u8 63,.string t] 93)).heap.size=w1.heap.size+1:=by simp
 have hv2:=hv1.alloc (.cells #[.int .u8 63,.string t] 93)
 have hgx:Hid (∀g,(Value.slice al n cl).ownBlock=some g->g<w1.heap.size):=fun g hg=>(hv1.lt g hg).2
 have hlen:Hid (xs.length=n*2):=hv.1
 have hF1:Hid (∀g,g<w.heap.size->w1.heap[g]? =w.heap[g]? \/ ∃cur t fr,w.heap[g]? =some (.cells cur t fr)/\t∈Tys/\base<=g):=fun g hg=>by
  by_cases e:g=wb
  ·subst e;exact .inr ⟨_,_,_,K.blk,by decide,K.wlo⟩
  ·exact .inl (hs1 g hg e)
 have hO2:Hid (zD w (w1.alloc (.cells #[.int .u8 63,.string t] 93))):=hO1.trans (zD.alloc _ _)
 have hv0:Hid (∀g,(Value.slice al n cl).ownBlock=some g-> ∃cur fr,w1.heap[g]? =some (.cells cur 93 fr)):=fun g hg=>by
  obtain ⟨c,hc⟩:=ze hv1 hg
  exact ⟨c,_,hc⟩
 go_wp2_with fail
 obtain ⟨xb,hxbE⟩: ∃xb,w1.heap.size=xb:=⟨_,rfl⟩
 rw [hxbE] at hxb hz2 ⊢
 generalize w1.alloc (.cells #[.int .u8 63,.string t] 93)=w2 at *
 clear hk1 hs1 hv1
 go_loopg [5] n (fun g t5 wr=> ∃i:Nat,g=n-i/\i<=n/\t5= .int .i64 i/\wr.ownsRow bl 93 2 (.slice al n cl) n (zP (xu (.string t)) i++xs.drop (i*2))/\Hid ((∀g,some g≠(Value.slice al n cl).ownBlock->wr.heap[g]? =w2.heap[g]?)/\zD w wr)/\wr.heap.size=xb+1)
 case atStart=>exact ⟨0,by omega,by omega,rfl,by simpa [zP] using hv2,⟨fun g _=>rfl,hO2.out⟩,hz2⟩
 case round=>
  rename World=>wr
  obtain ⟨i,hgi,hin,rfl,hrow,hoth,hzr⟩:=hrel
  have hG:Hid (_=n-i):=hgi
  clear hgi
  have hxr:wr.heap[xb]? =some (.cells #[.int .u8 63,.string t] 93 (0,0)):=by
   rw [hoth.out.1 xb (fun e=>by have:=hgx.out xb e.symm;omega)];exact hxb
  by_cases hi2:i<n
  ·have hiI:(i:Int)<n:=by omega
   obtain ⟨g,rfl,hg,⟨cur,hcur,hsz⟩,hrow2⟩:=UD (a:= .int .u8 63) (b:= .string t) hrow hlen.out hi2
   have c0:wr.cell? ⟨g,i*2,none⟩=some (cur[i*2]'(by omega)):=za hcur (by simp)
   have c1:wr.cell? ⟨g,i*2+1,none⟩=some (cur[i*2+1]'hsz):=za hcur (by simp [hsz])
   have fz: ∀k,wr.frozen? ⟨g,k,none⟩=false:=fun k=>zi hcur
   have y0:wr.cell? ⟨xb,0,none⟩=some (.int .u8 63):=za hxr rfl
   have y1:wr.cell? ⟨xb,1,none⟩=some (.string t):=za hxr rfl
   have hR:(∃j:Nat,n-(i+1)=n-j/\j<=n/\Value.int .i64 ((i:Int)+1)= .int .i64 j/\((wr.setCell ⟨g,i*2,none⟩ (.int .u8 63)).setCell ⟨g,i*2+1,none⟩ (.string t)).ownsRow bl 93 2 (.slice (some ⟨g,0,none⟩) n cl) n (zP (xu (.string t)) j++xs.drop (j*2))/\Hid ((∀g',some g'≠(Value.slice (some ⟨g,0,none⟩) n cl).ownBlock->((wr.setCell ⟨g,i*2,none⟩ (.int .u8 63)).setCell ⟨g,i*2+1,none⟩ (.string t)).heap[g']? =w2.heap[g']?)/\zD w ((wr.setCell ⟨g,i*2,none⟩ (.int .u8 63)).setCell ⟨g,i*2+1,none⟩ (.string t)))/\((wr.setCell ⟨g,i*2,none⟩ (.int .u8 63)).setCell ⟨g,i*2+1,none⟩ (.string t)).heap.size=xb+1):=by
    refine ⟨i+1,rfl,by omega,by push_cast;rfl,hrow2,⟨fun g' hne=> ?_,hoth.out.2.trans ((zD.setCell _ _ _).trans (zD.setCell _ _ _))⟩,by simp;exact hzr⟩
    have hgg:g'≠g:=fun e=>hne (by rw [e];rfl)
    rw [zd _ _ _ _ _ hgg,zd _ _ _ _ _ hgg]
    exact hoth.out.1 g' hne
   have hRH:Hid _:=hR
   clear hR hrow2 hrow hoth hcur hxr
   go_wp2_with fail
   go_roundg (n-(i+1))
   ·exact hRH.out
   ·have:=hG.out;omega
  ·obtain rfl:i=n:=by omega
   have hiI: ¬((i:Int)<i):=by omega
   have hrow3:wr.ownsRow bl 93 2 (.slice al i cl) i (zP (xu (.string t)) i):=by
    have h:=hrow
    rw [List.drop_of_length_le (by rw [hlen.out];exact Nat.le_refl _),List.append_nil] at h
    exact h
   have K3:zC base wb { x with c:=x.c+1 } B wr:=by
    refine zC.skip_l (vb:=(Value.slice al i cl).ownBlock) K1 (fun g hg _=>hv0.out g hg) (fun g hg hne=>(hoth.out.1 g hne).trans (hw2.out g hg)) (fun p hp=> .inl (hfresh p hp))
   have hFr:zs base w wr (fun g=>some g=(Value.slice al i cl).ownBlock):=by
    refine ⟨by omega,fun g hg=> ?_,hoth.out.2⟩
    by_cases e:some g=(Value.slice al i cl).ownBlock
    ·exact .inr (.inl e)
    ·rw [hoth.out.1 g e,hw2.out g (by omega)]
     rcases hF1.out g hg with h | h
     ·exact .inl h
     ·exact .inr (.inr h)
   have hKH:Hid (zC base wb { x with c:=x.c+1 } B wr/\zs base w wr (fun g=>some g=(Value.slice al i cl).ownBlock)):=⟨K3,hFr⟩
   have hF3:Hid (∀g,F g->wr.heap[g]? =w.heap[g]?):=fun g hg=>by
    obtain ⟨f1,f2,f3,f4,f5⟩:=hFar.out g hg
    rw [hoth.out.1 g (fun e=>f5 e.symm),hw2.out g (by omega)]
    exact hFw.out g hg
   have hnx:Hid ((Value.slice al i cl).ownBlock≠some xb):=fun e=>by have:=hgx.out xb e;omega
   clear K1 K3 hFr hrow hoth hv2 hxb hF1 hv0 hgx
   go_wp2_with fail
   go_loopg [1,6] 4 (fun g t1 t6 wk=> ∃(j:Nat) (al':Option Addr) (cl':Nat) (x':WV) (E:List (Value×Value)),g=4-j/\j<=4/\t6= .int .i64 j/\t1= .slice al' (i+j) cl'/\wk.ownsRow bl 93 2 (.slice al' (i+j) cl') (i+j) (zP (xu (.string t)) (i+j))/\zC base wb x' { B with l:=B.l++E } wk/\E.length=j/\x'.c=x.c+1/\
    Hid ((∀p∈E,p.1.ownBlock=(Value.slice al i cl).ownBlock\/ ∀g,p.1.ownBlock=some g->w.heap.size<=g)/\(∀p∈E,p.2= .string t/\ ∃al m cl,p.1= .slice al m cl/\m<=i+j/\ ∀a,al=some a->a=⟨a.block,0,none⟩)/\(∀p∈B.l,p.1.ownBlock=none\/p.1.ownBlock≠(Value.slice al' (i+j) cl').ownBlock)/\((Value.slice al' (i+j) cl').ownBlock=(Value.slice al i cl).ownBlock\/ ∀g,(Value.slice al' (i+j) cl').ownBlock=some g->w.heap.size<=g)/\(Value.slice al' (i+j) cl').ownBlock≠some xb/\zs base w wk (fun g=>some g=(Value.slice al i cl).ownBlock)/\ ∀g,F g->wk.heap[g]? =w.heap[g]? /\x'.l.ownBlock≠some g/\x'.lm.ownBlock≠some g/\(Value.slice al' (i+j) cl').ownBlock≠some g)/\wk.heap[xb]? =some (.cells #[.int .u8 63,.string t] 93 (0,0)))
   case atStart=>exact ⟨0,al,cl,{ x with c:=x.c+1 },[],rfl,by omega,rfl,rfl,hrow3,by simpa using hKH.out.1,rfl,rfl,⟨by simp,by simp,hfresh,.inl rfl,hnx.out,hKH.out.2,fun g hg=>⟨hF3.out g hg,(hFar.out g hg).2.2.1,(hFar.out g hg).2.2.2.1,(hFar.out g hg).2.2.2.2⟩⟩,hxr⟩
   case round=>
    rename World=>wk
    obtain ⟨j,al',cl',x',E,hgj,hj4,rfl,rfl,hrowk,Kk,hEl,hxc,hH,hxk⟩:=hrel
    have hG2:Hid (_=4-j):=hgj
    have hxbk:xb<wk.heap.size:=(Array.getElem?_eq_some_iff.1 hxk).1
    clear hgj hKH hnx hrow3 hxr
    by_cases hj2:j<4
    ·have hjI:(j:Int)<4:=by omega
     obtain ⟨N,hNe⟩: ∃N,(B.l++E).length=N:=⟨_,rfl⟩
     have hNN:Hid ((B.l++E).length=N):=hNe
     have hN:N=B.l.length+j:=by rw [<-hNe,List.length_append,hEl]
     have hwbk:wb<wk.heap.size:=(Array.getElem?_eq_some_iff.1 Kk.blk).1
     have hbk:base<=wk.heap.size:=by have:=hH.out.2.2.2.2.2.1.1;omega
     have hblk:bl<=wk.heap.size:=by have:=hH.out.2.2.2.2.2.1.1;omega
     have c2:wk.cell? ⟨wb,2,none⟩=some x'.l:=za Kk.blk rfl
     have hor:wk.ownsRow base 59 1 x'.l N ((B.l++E).map (·.1)):=by rw [<-hNe];exact Kk.l.row
     have hmar:wk.ownsRow base 9 1 x'.lm N ((B.l++E).map (·.2)):=by rw [<-hNe];exact Kk.l.marks
     have hon1: ∀u∈ [Value.slice al' (i+j) cl'],u.oneCell'=true:=by intro u hu;simp at hu;subst hu;rfl
     have hon2: ∀u∈ [Value.string t],u.oneCell'=true:=by intro u hu;simp at hu;subst hu;rfl
     have hon3: ∀u∈ [Value.int .u8 63,Value.string t],u.oneCell'=true:=by intro u hu;simp at hu;rcases hu with rfl | rfl<;>rfl
     have hm2:(N+1)*24<=140737488355328:=by omega
     have hm3:(N+1)*16<=140737488355328:=by omega
     have hm6:i+j+1<=1990000:=Nat.le_trans (Nat.add_le_add_right (Nat.add_le_add hn (Nat.le_of_lt hj2)) 1) (by decide)
     have hm5:(i+j+1)*24<=140737488355328:=Nat.le_trans (Nat.mul_le_mul_right 24 hm6) (by decide)
     have hxcb:x'.c<=8000000000001:=by rw [hxc];exact Nat.succ_le_succ hc
     have hm1:N+1<=maxLen:=by unfold maxLen;omega
     have hm4:i+j+1<=maxLen:=Nat.le_trans hm6 (by decide)
     have hnr:Hid (x'.l.ownBlock≠some wb/\x'.lm.ownBlock≠some wb/\x'.l.ownBlock≠some xb/\x'.lm.ownBlock≠some xb/\ ∀g,x'.lm.ownBlock=some g->g≠wb/\some g≠x'.l.ownBlock):=by
      refine ⟨fun e=> ?_,fun e=> ?_,fun e=> ?_,fun e=> ?_,fun g e=>⟨?_,fun e2=> ?_⟩⟩
      ·obtain ⟨c,hc⟩:=ze Kk.l.row e;exact zq hc Kk.blk (by decide) rfl
      ·obtain ⟨c,hc⟩:=ze Kk.l.marks e;exact zq hc Kk.blk (by decide) rfl
      ·obtain ⟨c,hc⟩:=ze Kk.l.row e;exact zq hc hxk (by decide) rfl
      ·obtain ⟨c,hc⟩:=ze Kk.l.marks e;exact zq hc hxk (by decide) rfl
      ·obtain ⟨c,hc⟩:=ze Kk.l.marks e;exact zq hc Kk.blk (by decide)
      ·obtain ⟨c,hc⟩:=ze Kk.l.marks e;obtain ⟨c2,hc2⟩:=ze Kk.l.row e2.symm;exact zq hc hc2 (by decide) rfl
     have hA:Hid (∀(ob:Obj) (wA:World),(wk.alloc ob).grownBy wA x'.l.ownBlock->wA.heap[wb]? =some x'.obj/\wA.heap[xb]? =some (.cells #[.int .u8 63,.string t] 93 (0,0))/\wA.ownsRow base 9 1 x'.lm N ((B.l++E).map (·.2))/\wk.heap.size<=wA.heap.size):=by
      intro ob wA g1
      have k1: ∀g,g<wk.heap.size->some g≠x'.l.ownBlock->wA.heap[g]? =wk.heap[g]? :=fun g hg hne=>by
       rw [g1.block g (by simp;omega) hne];exact Below.heap_alloc wk ob g hg
      have z1:=g1.size
      simp at z1
      exact ⟨(k1 wb hwbk (fun e=>hnr.out.1 e.symm)).trans Kk.blk,(k1 xb hxbk (fun e=>hnr.out.2.2.1 e.symm)).trans hxk,zu hmar fun g hg=>k1 g (Kk.l.marks.lt g hg).2 (hnr.out.2.2.2.2 g hg).2,by omega⟩
     have hM:Hid (qx 93 2 (xu (.string t)) wk (.slice al' (i+j) cl')):=qx.of_owns (pat:=xu (.string t)) hrowk (Nat.le_refl _) (by exact Nat.le_trans (Nat.le_succ _) (Nat.le_trans hm6 (by decide))) rfl (qb hrowk)
     have hKH:Hid (zC base wb x' { B with l:=B.l++E } wk):=Kk
     have hrH:Hid (wk.ownsRow bl 93 2 (.slice al' (i+j) cl') (i+j) (zP (xu (.string t)) (i+j))):=hrowk
     have haddr:Hid (∀a,al'=some a->a=⟨a.block,0,none⟩):=qb hrowk
     have hfzk: ∀k,wk.frozen? ⟨wb,k,none⟩=false:=fun k=>zi Kk.blk
     have hxkH:Hid (wk.heap[xb]? =some (.cells #[.int .u8 63,.string t] 93 (0,0))):=hxk
     have hxw:xb≠wb:=zq hxk Kk.blk (by decide)
     clear Kk hrowk hxk hlen hw2 hN hNe
     go_wp2_with (at_builtin;refine zm rfl (.tmp 28) (.tmp 30) 51 rfl base 59 i0 _ 1 24 underlying51 hi ix0 ix1 ix2 rfl (by decide) x'.l N ((B.l++E).map (·.1)) rfl (hor.alloc _) ⟨wk.heap.size,0,none⟩ 1 1 [.slice al' (i+j) cl'] rfl rfl (zt wk _ _) hon1 hm1 hm2 (by simp;omega) ?_;intro v1 wA o1 g1 n1;obtain ⟨a1,c1,rfl⟩:=zn o1;obtain ⟨bA,xA,mA,zA⟩:=hA.out _ wA g1;have cA:wA.cell? ⟨wb,2,none⟩=some x'.l:=za bA rfl;have fA: ∀k,wA.frozen? ⟨wb,k,none⟩=false:=fun k=>zi bA;have o1H:Hid _:=o1;have g1H:Hid _:=g1;have n1H:Hid _:=n1;clear o1 g1 n1)
     obtain ⟨U,hUe⟩: ∃U,wA.setCell ⟨wb,2,none⟩ (.slice a1 (N+1) c1)=U:=⟨_,rfl⟩
     have bU:U.heap[wb]? =some ({ x' with l:= .slice a1 (N+1) c1 } :WV).obj:=by rw [<-hUe,zb _ _ _ _ _ _ _ bA];rfl
     have xU:U.heap[xb]? =some (.cells #[.int .u8 63,.string t] 93 (0,0)):=by rw [<-hUe,zd _ _ _ _ _ hxw];exact xA
     have mU:U.ownsRow base 9 1 x'.lm N ((B.l++E).map (·.2)):=by rw [<-hUe];exact zu mA fun g hg=>zd _ _ _ _ _ (hnr.out.2.2.2.2 g hg).1
     have zU:wk.heap.size<=U.heap.size:=by rw [<-hUe];simpa using zA
     have d3:U.cell? ⟨wb,3,none⟩=some x'.lm:=za bU rfl
     have dx:U.cell? ⟨xb,1,none⟩=some (.string t):=za xU rfl
     have dfz: ∀k,U.frozen? ⟨wb,k,none⟩=false:=fun k=>zi bU
     have hxbU:xb<U.heap.size:=Nat.lt_of_lt_of_le hxbk zU
     have hwbU:wb<U.heap.size:=Nat.lt_of_lt_of_le hwbk zU
     have hbs: ∀ob,base<=((U.alloc ob).drew).heap.size:=by intro ob;simp;exact Nat.le_trans (Nat.le_trans hbk zU) (Nat.le_succ _)
     have mUd:((U.alloc (.cells #[.string t] 9)).drew).ownsRow base 9 1 x'.lm N ((B.l++E).map (·.2)):=mU.alloc _
     have hcn: ∀(j:Nat) (u:Value),[Value.string t][j]? =some u->((U.alloc (.cells #[.string t] 9)).drew).cell? ((⟨U.heap.size,0,none⟩:Addr).add j)=some u:=zt U [.string t] 9
     have hY:Hid (∀(ob:Obj) (w3:World),((U.alloc ob).drew).grownBy w3 x'.lm.ownBlock->w3.heap[wb]? =U.heap[wb]?):=by
      intro ob w3 g2
      rw [g2.block wb (by simp;exact Nat.lt_of_lt_of_le hwbU (Nat.le_succ _)) (fun e=>hnr.out.2.1 e.symm)]
      exact Below.heap_alloc U ob wb hwbU
     have hpush:Hid (∀(ob:Obj) (v2:Value) (w3:World),((U.alloc ob).drew).grownBy w3 x'.lm.ownBlock->w3.ownsRow base 9 1 v2 (N+1) ((B.l++E).map (·.2)++ [.string t])->(v2.ownBlock=x'.lm.ownBlock\/ ∀g,v2.ownBlock=some g->((U.alloc ob).drew).heap.size<=g)->
       ∃x2:WV,zC base wb x2 { B with l:=B.l++(E++ [(.slice al' (i+j) cl',.string t)]) } (w3.setCell ⟨wb,3,none⟩ v2)/\x2.c=x'.c/\zs base wk (w3.setCell ⟨wb,3,none⟩ v2) (fun _=>False)/\(∀g,F g->(w3.setCell ⟨wb,3,none⟩ v2).heap[g]? =w.heap[g]? /\x2.l.ownBlock≠some g/\x2.lm.ownBlock≠some g)):=by
      intro ob v2 w3 g2 o2 n2
      obtain ⟨k1,k2,k3⟩:=hKH.out.push_l (m:= .string t) (v1:= .slice a1 (N+1) c1) (v2:=v2) (w3:=w3) g1H.out (by show wA.ownsRow base 59 1 _ ((B.l++E).length+1) _;rw [hNN.out];exact o1H.out) (by rw [hUe];exact ⟨g2.os,g2.tape,g2.output,g2.size,g2.block⟩) (by show w3.ownsRow base 9 1 _ ((B.l++E).length+1) _;rw [hNN.out];exact o2) (n2.imp id fun h g e=>by have h1:=h g e;simp at h1;omega) hM.out ⟨fun h=>absurd h (by decide),fun _=>⟨t,rfl⟩⟩
      refine ⟨{ x' with l:= .slice a1 (N+1) c1,lm:=v2 },?_,rfl,k2,fun g hg=> ?_⟩
      ·rw [<-List.append_assoc]
       exact k1
      ·obtain ⟨f1,f2,f3,f4⟩:=hH.out.2.2.2.2.2.2 g hg
       have hgw:=(hFar.out g hg).1
       have hwk:=hH.out.2.2.2.2.2.1.1
       refine ⟨(k3 g (by omega) (hFar.out g hg).2.1 (fun e=>f2 e.symm) (fun e=>f3 e.symm)).trans f1,?_,?_⟩
       ·rcases n1H.out with e | e
        ·intro e2;exact f2 (e.symm.trans e2)
        ·intro e2
         have h1:=e g e2
         simp at h1
         omega
       ·rcases n2 with e | e
        ·intro e2;exact f3 (e.symm.trans e2)
        ·intro e2
         have h1:=e g e2
         simp at h1
         omega
     clear bA xA mA zA cA fA
     rw [hUe]
     clear hUe o1H g1H n1H bU xU hA hor c2 hfzk hmar
     go_cut [] (fun wx=> ∃x2:WV,zC base wb x2 { B with l:=B.l++(E++ [(.slice al' (i+j) cl',.string t)]) } wx/\x2.c=x'.c/\zs base wk wx (fun _=>False)/\(∀g,F g->wx.heap[g]? =w.heap[g]? /\x2.l.ownBlock≠some g/\x2.lm.ownBlock≠some g))
     case first=>
      go_region_law (refine yo rfl (.tmp 38) (.tmp 41) 27 rfl base 9 j0 _ 1 16 underlying27 ji jx0 jx1 jx2 rfl (by decide) x'.lm N ((B.l++E).map (·.2)) (by simp [Act.eval]) mUd ⟨U.heap.size,0,none⟩ 1 1 [.string t] (by simp [Act.eval]) rfl hcn hon2 hm1 hm3 (hbs _) ?_;intro v2 w3 o2 g2 n2;obtain ⟨a2,c2,rfl⟩:=zn o2;have b3:=hY.out _ w3 g2;have e3:=(World.cell?_of_block (a:=⟨wb,3,none⟩) b3).trans d3;have f3:=fun k=>(World.frozen?_of_block (a:=⟨wb,k,none⟩) b3).trans (dfz k))
      all_goals
       have hR:=hpush.out _ _ w3 g2 o2 n2
       have hRH:Hid _:=hR
       clear hR hpush hY g2 o2 n2
       go_wp2_with fail
       go_meet
       case rel=>exact hRH.out
     case rest=>
      obtain ⟨x2,K4,hx2c,F4,hF4⟩:=hcut
      have hF4H:Hid _:=hF4
      clear hF4
      obtain ⟨W4,rfl⟩: ∃W4,W4=wc:=⟨_,rfl⟩
      have hx4:W4.heap[xb]? =some (.cells #[.int .u8 63,.string t] 93 (0,0)):=(F4.at hxkH.out (by decide) (fun h=>h)).trans hxkH.out
      have row4:W4.ownsRow bl 93 2 (.slice al' (i+j) cl') (i+j) (zP (xu (.string t)) (i+j)):=zu hrH.out fun g hg=>by
       obtain ⟨c,hc⟩:=ze hrH.out hg
       exact F4.at hc (by decide) (fun h=>h)
      have hbl4:bl<=W4.heap.size:=Nat.le_trans hblk F4.1
      have e0:W4.cell? ⟨xb,0,none⟩=some (.int .u8 63):=za hx4 rfl
      have e1:W4.cell? ⟨xb,1,none⟩=some (.string t):=za hx4 rfl
      have hFin:Hid (∀(ob:Obj) (v5:Value) (w5:World),w5.ownsRow bl 93 2 v5 (i+j+1) (zP (xu (.string t)) (i+j)++ [.int .u8 63,.string t])->((v5.ownBlock=(Value.slice al' (i+j) cl').ownBlock/\(W4.alloc ob).grownBy w5 (Value.slice al' (i+j) cl').ownBlock)\/((∀g,v5.ownBlock=some g->(W4.alloc ob).heap.size<=g)/\(W4.alloc ob).grownBy w5 none))->
       ∃(j':Nat) (al5:Option Addr) (cl5:Nat) (x5:WV) (E5:List (Value×Value)),4-(j+1)=4-j'/\j'<=4/\Value.int .i64 ((j:Int)+1)= .int .i64 j'/\v5= .slice al5 (i+j') cl5/\w5.ownsRow bl 93 2 (.slice al5 (i+j') cl5) (i+j') (zP (xu (.string t)) (i+j'))/\zC base wb x5 { B with l:=B.l++E5 } w5/\E5.length=j'/\x5.c=x.c+1/\
       Hid ((∀p∈E5,p.1.ownBlock=(Value.slice al i cl).ownBlock\/ ∀g,p.1.ownBlock=some g->w.heap.size<=g)/\(∀p∈E5,p.2= .string t/\ ∃al m cl,p.1= .slice al m cl/\m<=i+j'/\ ∀a,al=some a->a=⟨a.block,0,none⟩)/\(∀p∈B.l,p.1.ownBlock=none\/p.1.ownBlock≠(Value.slice al5 (i+j') cl5).ownBlock)/\((Value.slice al5 (i+j') cl5).ownBlock=(Value.slice al i cl).ownBlock\/ ∀g,(Value.slice al5 (i+j') cl5).ownBlock=some g->w.heap.size<=g)/\(Value.slice al5 (i+j') cl5).ownBlock≠some xb/\zs base w w5 (fun g=>some g=(Value.slice al i cl).ownBlock)/\ ∀g,F g->w5.heap[g]? =w.heap[g]? /\x5.l.ownBlock≠some g/\x5.lm.ownBlock≠some g/\(Value.slice al5 (i+j') cl5).ownBlock≠some g)/\w5.heap[xb]? =some (.cells #[.int .u8 63,.string t] 93 (0,0))):=by
       intro ob v5 w5 row5 h3
       obtain ⟨q1,q2,q3,q4,q5,q6,q7⟩:=hH.out
       have hE2: ∀p∈E++ [(Value.slice al' (i+j) cl',Value.string t)],p.2= .string t/\ ∃al m cl,p.1= .slice al m cl/\m<=i+j/\ ∀a,al=some a->a=⟨a.block,0,none⟩:=by
        intro p hp
        rcases List.mem_append.1 hp with hp | hp
        ·exact q2 p hp
        ·rw [List.mem_singleton] at hp
         subst hp
         exact ⟨rfl,al',i+j,cl',rfl,Nat.le_refl _,haddr.out⟩
       obtain ⟨s1,s2,s3,s4,s5⟩:=Wq (ob:=ob) K4 (Nat.le_of_succ_le hm6) row4 hE2 q3 row5 h3
       obtain ⟨al5,cl5,rfl⟩:=zn row5
       have hFz:=F4.1
       have hq61:=q6.1
       have hold:(Value.slice al5 (i+j+1) cl5).ownBlock=(Value.slice al' (i+j) cl').ownBlock\/ ∀g,(Value.slice al5 (i+j+1) cl5).ownBlock=some g->W4.heap.size<=g:=h3.imp (fun h=>h.1) (fun h g e=>by have:=h.1 g e;simp at this;omega)
       refine ⟨j+1,al5,cl5,x2,_,rfl,hj2,by push_cast;rfl,rfl,s3,s1,by rw [List.length_append,hEl];rfl,hx2c.trans hxc,⟨?_,?_,s4,?_,?_,?_,?_⟩,?_⟩
       ·intro p hp
        rcases List.mem_append.1 hp with hp | hp
        ·exact q1 p hp
        ·rw [List.mem_singleton] at hp
         subst hp
         exact q4
       ·intro p hp
        obtain ⟨r1,al,m,cl,r2,r3,r4⟩:=hE2 p hp
        exact ⟨r1,al,m,cl,r2,Nat.le_succ_of_le r3,r4⟩
       ·rcases hold with h | h
        ·have h':(Value.slice al5 (i+(j+1)) cl5).ownBlock=(Value.slice al' (i+j) cl').ownBlock:=h
         rw [h'];exact q4
        ·right
         intro g e
         have:=h g e
         omega
       ·rcases hold with h | h
        ·have h':(Value.slice al5 (i+(j+1)) cl5).ownBlock=(Value.slice al' (i+j) cl').ownBlock:=h
         rw [h'];exact q5
        ·intro e
         have:=h xb e
         omega
       ·have hF:=(q6.trans F4).trans s2
        refine hF.mono fun g hg h=> ?_
        rcases h with (h | h) | h
        ·exact h
        ·exact h.elim
        ·rcases q4 with e | e
         ·exact h.trans e
         ·have:=e g h.symm;omega
       ·intro g hg
        obtain ⟨f1,f2,f3⟩:=hF4H.out g hg
        have f4:=(q7 g hg).2.2.2
        have hgw:=(hFar.out g hg).1
        refine ⟨(s5 g (by omega) (fun e=>f4 e.symm)).trans f1,f2,f3,?_⟩
        rcases hold with h | h
        ·have h':(Value.slice al5 (i+(j+1)) cl5).ownBlock=(Value.slice al' (i+j) cl').ownBlock:=h
         rw [h'];exact f4
        ·intro e
         have:=h g e
         omega
       ·rw [s5 xb (by omega) (fun e=>q5 e.symm)]
        exact hx4
      clear hH hKH hM K4 F4 hnr hrH
      go_wp2_with (at_builtin;refine xr rfl (.tmp 45) (.tmp 47) 59 rfl bl 93 k0 _ 2 24 underlying59 ki kx0 kx1 kx2 rfl (by decide) (.slice al' (i+j) cl') (i+j) (zP (xu (.string t)) (i+j)) rfl (row4.alloc _) ⟨W4.heap.size,0,none⟩ 1 1 [.int .u8 63,.string t] rfl rfl (zt W4 _ _) hon3 hm4 hm5 (by simp;omega) ?_;intro v5 w5 row5 h3;have hR:=hFin.out _ v5 w5 row5 h3;have hRH:Hid _:=hR;clear hR row5 h3)
      go_roundg (4-(j+1))
      ·exact hRH.out
      ·have:=hG2.out;omega
    ·obtain rfl:j=4:=by omega
     have hR: ∃(x':WV) (E:List (Value×Value)),zC base wb x' { B with l:=B.l++E } wk/\E.length=4/\x'.c=x.c+1/\(∀p∈E,p.1.ownBlock=(Value.slice al i cl).ownBlock\/ ∀g,p.1.ownBlock=some g->w.heap.size<=g)/\zs base w wk (fun g=>some g=(Value.slice al i cl).ownBlock)/\(∀g,F g->wk.heap[g]? =w.heap[g]? /\x'.l.ownBlock≠some g/\x'.lm.ownBlock≠some g):=⟨x',E,Kk,hEl,hxc,hH.out.1,hH.out.2.2.2.2.2.1,fun g hg=>⟨(hH.out.2.2.2.2.2.2 g hg).1,(hH.out.2.2.2.2.2.2 g hg).2.1,(hH.out.2.2.2.2.2.2 g hg).2.2.1⟩⟩
     have hRH:Hid _:=hR
     clear hR Kk hH hrowk hxk
     go_wp2_with fail
     go_end0
     exact ⟨rfl,hRH.out⟩
theorem GB {base wb bl n cl:Nat} {al:Option Addr} {x:WV} {B:Bk} {w:World} {xs:List Value} (K:zC base wb x B w) (hv:w.ownsRow bl 93 2 (.slice al n cl) n xs) (hn:n<=1900000)
 (hfresh: ∀p∈B.l,p.1.ownBlock=none\/p.1.ownBlock≠(Value.slice al n cl).ownBlock) (hbase:base<=w.heap.size) (hbl:bl<=w.heap.size) (hc:x.c<=8000000000000) (hl:B.l.length<=800000000000):
 Calls prog 113 #[.pointer (some ⟨wb,0,none⟩),.slice al n cl] w fun e w'=>e= .returned (.tuple #[])/\ ∃(x':WV) (E:List (Value×Value)),zC base wb x' { B with l:=B.l++E } w'/\E.length=4/\x'.c=x.c+1/\
  (∀p∈E,p.1.ownBlock=(Value.slice al n cl).ownBlock\/ ∀g,p.1.ownBlock=some g->w.heap.size<=g)/\zs base w w' (fun g=>some g=(Value.slice al n cl).ownBlock):=by
 refine (XF (F:=fun _=>False) K hv hn hfresh hbase hbl hc hl (fun g h=>h.elim)).mono ?_
 rintro e w' ⟨rfl,x',E,k1,k2,k3,k4,k5,_⟩
 exact ⟨rfl,x',E,k1,k2,k3,k4,k5⟩
end Go.Proofs.YtcclgodahlinbaaGreatDoor
