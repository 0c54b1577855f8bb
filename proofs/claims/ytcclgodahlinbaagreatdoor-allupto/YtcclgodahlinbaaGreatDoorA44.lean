import Derived.Test.YtcclgodahlinbaaGreatDoorA30
import Derived.Test.YtcclgodahlinbaaGreatDoorA10
import Derived.Test.YtcclgodahlinbaaGreatDoorA43
import Derived.BigQuiet
namespace Go.Proofs.YtcclgodahlinbaaGreatDoor
set_option maxHeartbeats 16000000
open Tryz Go.RowKit Go
set_option maxRecDepth 100000
theorem Py:(prog.info? 37).map (fun i=>(i.zero,i.size,i.bytes))=some (some (.slice none 0 0),1,24):=by kernel_rfl
theorem EA {w:World} {bl n i:Nat} {xs:List Value} {a b c:Value} {al:Option Addr} {cl:Nat} (h:w.ownsRow bl 63 3 (.slice al n cl) n (zP [a,b,c] i++xs.drop (i*3))) (hx:xs.length=n*3) (hi:i<n):
 ∃g,al=some ⟨g,0,none⟩/\g<w.heap.size/\(∃cur,w.heap[g]? =some (.cells cur 63 (0,0))/\i*3+2<cur.size)/\(((w.setCell ⟨g,i*3,none⟩ a).setCell ⟨g,i*3+1,none⟩ b).setCell ⟨g,i*3+2,none⟩ c).ownsRow bl 63 3 (.slice (some ⟨g,0,none⟩) n cl) n (zP [a,b,c] (i+1)++xs.drop ((i+1)*3)):=by
 rcases h.2 with ⟨_,h0⟩ | ⟨g,cap,cur,e,hb,hg,h1,h2,h3,h4⟩
 ·omega
 ·cases e
  have hsz:i*3+2<cur.size:=by rw [h3];omega
  have hpl:(zP [a,b,c] i).length=i*3:=zW [a,b,c] i
  refine ⟨g,rfl,(Array.getElem?_eq_some_iff.1 hg).1,⟨cur,hg,hsz⟩,?_,.inr ⟨g,cl,_,rfl,hb,zb _ _ _ _ _ _ _ (zb _ _ _ _ _ _ _ (zb _ _ _ _ _ _ _ hg)),h1,h2,by simp [h3],?_⟩⟩
  ·rw [List.length_append,zW,List.length_drop,hx]
   show (i+1)*3+_=_
   omega
  ·have h5:List.take (n*3) (((cur.setIfInBounds (i*3) a).setIfInBounds (i*3+1) b).setIfInBounds (i*3+2) c).toList=(((List.take (n*3) cur.toList).set (i*3) a).set (i*3+1) b).set (i*3+2) c:=by
    simp [List.take_set]
   rw [h5,h4]
   apply List.ext_getElem?
   intro j
   rw [List.getElem?_set,List.getElem?_set,List.getElem?_set]
   have hl1:(zP [a,b,c] i++xs.drop (i*3)).length=n*3:=by rw [List.length_append,hpl,List.length_drop,hx];omega
   have hl2:(zP [a,b,c] (i+1)).length=(i+1)*3:=zW [a,b,c] (i+1)
   have hp:zP [a,b,c] (i+1)=zP [a,b,c] i++ [a,b,c]:=rfl
   have hlen:(((zP [a,b,c] i++xs.drop (i*3)).set (i*3) a).set (i*3+1) b).length=n*3:=by simp [hl1]
   simp only [List.length_set,hl1]
   by_cases e2:i*3+2=j
   ·subst e2
    rw [if_pos rfl,if_pos (by omega),List.getElem?_append_left (by omega),hp,List.getElem?_append_right (by omega),hpl]
    rw [show i*3+2-i*3=2 by omega];rfl
   rw [if_neg e2]
   by_cases e1:i*3+1=j
   ·subst e1
    rw [if_pos rfl,if_pos (by omega),List.getElem?_append_left (by omega),hp,List.getElem?_append_right (by omega),hpl]
    rw [show i*3+1-i*3=1 by omega];rfl
   rw [if_neg e1]
   by_cases e0:i*3=j
   ·subst e0
    rw [if_pos rfl,if_pos (by omega),List.getElem?_append_left (by omega),hp,List.getElem?_append_right (by omega),hpl]
    rw [show i*3-i*3=0 by omega];rfl
   rw [if_neg e0]
   by_cases hj:j<i*3
   ·rw [List.getElem?_append_left (by omega),List.getElem?_append_left (by omega),hp,List.getElem?_append_left (by omega)]
   ·rw [List.getElem?_append_right (by omega),List.getElem?_append_right (by omega),hpl,hl2,List.getElem?_drop,List.getElem?_drop]
    congr 1
    omega
theorem Um {base wb bl N cl':Nat} {al':Option Addr} {x:WV} {B:Bk} {E:List (Value×Value)} {w4 w5:World} {c:Int} {v':Value} {ob:Obj} (K:zC base wb x { B with s:=B.s++E } w4) (hN:N<=1990000)
 (row4:w4.ownsRow bl 63 3 (.slice al' N cl') N (zP (jG (.int .i64 c)) N)) (hE: ∀p∈E,p.2= .int .i64 c/\ ∃al m cl,p.1= .slice al m cl/\m<=N/\ ∀a,al=some a->a=⟨a.block,0,none⟩) (hfr: ∀p∈B.s,p.1.ownBlock=none\/p.1.ownBlock≠(Value.slice al' N cl').ownBlock)
 (row5:w5.ownsRow bl 63 3 v' (N+1) (zP (jG (.int .i64 c)) N++jG (.int .i64 c)))
 (h3:(v'.ownBlock=(Value.slice al' N cl').ownBlock/\(w4.alloc ob).grownBy w5 (Value.slice al' N cl').ownBlock)\/((∀g,v'.ownBlock=some g->(w4.alloc ob).heap.size<=g)/\(w4.alloc ob).grownBy w5 none)):
 zC base wb x { B with s:=B.s++E } w5/\zs base w4 w5 (fun g=>some g=(Value.slice al' N cl').ownBlock)/\w5.ownsRow bl 63 3 v' (N+1) (zP (jG (.int .i64 c)) (N+1))/\(∀p∈B.s,p.1.ownBlock=none\/p.1.ownBlock≠v'.ownBlock)/\(∀g,g<w4.heap.size->some g≠(Value.slice al' N cl').ownBlock->w5.heap[g]? =w4.heap[g]?):=by
 have hrow:w5.ownsRow bl 63 3 v' (N+1) (zP (jG (.int .i64 c)) (N+1)):=row5
 have hold: ∀g,g<w4.heap.size->some g≠(Value.slice al' N cl').ownBlock->w5.heap[g]? =w4.heap[g]? :=fun g hg hne=>by
  rcases h3 with ⟨_,h⟩ | ⟨_,h⟩
  ·rw [h.block g (by simp;omega) hne];exact Below.heap_alloc w4 ob g hg
  ·rw [h.block g (by simp;omega) (by simp)];exact Below.heap_alloc w4 ob g hg
 have hz:w4.heap.size<=w5.heap.size:=by
  rcases h3 with ⟨_,h⟩ | ⟨_,h⟩
  ·have:=h.size;simp at this;omega
  ·have:=h.size;simp at this;omega
 have hOut:zD w4 w5:=by
  rcases h3 with ⟨_,h⟩ | ⟨_,h⟩
  ·exact (zD.alloc w4 ob).trans (zD.of_grown h)
  ·exact (zD.alloc w4 ob).trans (zD.of_grown h)
 refine ⟨?_,⟨hz,fun g hg=> ?_,hOut⟩,hrow,?_,hold⟩
 ·refine K.skip_s (vb:=(Value.slice al' N cl').ownBlock) (fun g hg _=> ?_) hold (fun p hp=> ?_)
  ·obtain ⟨c,hc⟩:=ze row4 hg
   exact ⟨c,_,hc⟩
  ·rcases List.mem_append.1 hp with hp' | hp'
   ·exact .inl (hfr p hp')
   ·by_cases hq:p.1.ownBlock=(Value.slice al' N cl').ownBlock
    ·right
     rcases h3 with ⟨e,_⟩ | ⟨_,h⟩
     ·obtain ⟨e2,al,m,cl,e1,hm,ha⟩:=hE p hp'
      rw [e2]
      rw [e1] at hq ⊢
      exact qx.of_owns (pat:=jG (.int .i64 c)) hrow (by omega) (by omega) (e.trans hq.symm) ha
     ·exact (K.s.ok p hp).same fun g _ ⟨c,f,hg⟩=>by
       have hlt:=(Array.getElem?_eq_some_iff.1 hg).1
       rw [h.block g (by simp;omega) (by simp)];exact Below.heap_alloc w4 ob g hlt
    ·exact .inl (.inr hq)
 ·by_cases hq:some g=(Value.slice al' N cl').ownBlock
  ·exact .inr (.inl hq)
  ·exact .inl (hold g hg hq)
 ·intro p hp
  rcases h3 with ⟨e,_⟩ | ⟨e,_⟩
  ·rw [e];exact hfr p hp
  ·cases hv:p.1.ownBlock with
   | none=>exact .inl rfl
   | some g=>
     right
     intro e2
     have h1:=e g e2.symm
     have hM:=((K.s.ok p (List.mem_append_left _ hp)).lt g hv).1
     simp at h1
     omega
theorem UX {base wb bl i cl:Nat} {al:Option Addr} {x1:WV} {B1:Bk} {w wi:World} {xs:List Value} (K1:zC base wb x1 B1 wi) (hrw:wi.ownsRow bl 63 3 (.slice al i cl) i xs) (hn:i<=400000)
 (hfh: ∀p∈B1.s,∀g,p.1.ownBlock=some g->g<bl) (hFi:zs base w wi (fun g=>bl<=g)) (hbase:base<=w.heap.size) (hbl:bl<=w.heap.size) (hc:x1.c<=7000000000000) (hlh:B1.s.length<=700000000000):
 Calls prog 93 #[.pointer (some ⟨wb,0,none⟩),.slice al i cl] wi fun e w'=>e= .returned (.tuple #[])/\ ∃(x':WV) (B':Bk),zC base wb x' B' w'/\B'.h=B1.h/\B'.l=B1.l/\B'.r=B1.r/\B'.s.length=B1.s.length+4/\x'.c=x1.c+1/\zs base w w' (fun g=>bl<=g):=by
 obtain ⟨i0,hi,ix0,ix1,ix2⟩:=info_parts Py
 obtain ⟨j0,ji,jx0,jx1,jx2⟩:=info_parts Pf
 obtain ⟨k0,ki,kx0,kx1,kx2⟩:=info_parts YW
 have hxs:Hid (xs.length=i*3):=hrw.1
 have hvbl:Hid (∀g,(Value.slice al i cl).ownBlock=some g->bl<=g):=fun g e=>(hrw.lt g e).1
 have hfhH:Hid (∀p∈B1.s,∀g,p.1.ownBlock=some g->g<bl):=hfh
 have hzi:=hFi.1
 go_enter func93,ntmps93
 have hwbi:wb<wi.heap.size:=(Array.getElem?_eq_some_iff.1 K1.blk).1
 have c8:wi.cell? ⟨wb,8,none⟩=some (.int .i64 (x1.c:Int)):=za K1.blk rfl
 have fz8: ∀k,wi.frozen? ⟨wb,k,none⟩=false:=fun k=>zi K1.blk
 have hk2:(wi.setCell ⟨wb,8,none⟩ (.int .i64 ((x1.c:Int)+1))).heap[wb]? =some ({ x1 with c:=x1.c+1 } :WV).obj:=by
  rw [zb _ _ _ _ _ _ _ K1.blk];simp [WV.obj]
 have K2:=K1.count hk2 (fun g _ hne=>zd _ _ _ _ _ hne)
 have hF2:zs base w (wi.setCell ⟨wb,8,none⟩ (.int .i64 ((x1.c:Int)+1))) (fun g=>bl<=g):=by
  refine (hFi.trans (s2:=fun _=>False) ⟨by simp,fun g hg=> ?_,zD.setCell _ _ _⟩).mono fun g _ h=>h.elim id False.elim
  by_cases e:g=wb
  ·subst e;exact .inr (.inr ⟨_,_,_,K1.blk,by decide,K1.wlo⟩)
  ·exact .inl (zd _ _ _ _ _ e)
 have hv2:(wi.setCell ⟨wb,8,none⟩ (.int .i64 ((x1.c:Int)+1))).ownsRow bl 63 3 (.slice al i cl) i (xs):=zu hrw fun g hg=>by
  obtain ⟨c,hc⟩:=ze hrw hg
  exact zd _ _ _ _ _ (zq hc K1.blk (by decide))
 have hz2:(wi.setCell ⟨wb,8,none⟩ (.int .i64 ((x1.c:Int)+1))).heap.size=wi.heap.size:=by simp
 have hxcb:x1.c<=7000000400000:=by omega
 go_wp2_with fail
 have c9:(wi.setCell ⟨wb,8,none⟩ (.int .i64 ((x1.c:Int)+1))).cell? ⟨wb,8,none⟩=some (.int .i64 ((x1.c:Int)+1)):=za (zb _ _ _ _ _ _ _ K1.blk) rfl
 clear c8 fz8 hk2 K1 hFi hrw
 generalize wi.setCell ⟨wb,8,none⟩ (.int .i64 ((x1.c:Int)+1))=w2 at *
 obtain ⟨C,hCe⟩: ∃C:Nat,x1.c+1=C:=⟨_,rfl⟩
 have hCI:((x1.c:Int)+1)=(C:Int):=by rw [<-hCe];push_cast;rfl
 have hCH:Hid (C=x1.c+1):=hCe.symm
 rw [hCe] at K2
 rw [hCI] at c9
 have hCb:C<=8000000000000:=by omega
 obtain ⟨xb,hxbE⟩: ∃xb,w2.heap.size=xb:=⟨_,rfl⟩
 have hwb2:wb<w2.heap.size:=(Array.getElem?_eq_some_iff.1 K2.blk).1
 have K2H:Hid (zC base wb { x1 with c:=C } B1 w2):=K2
 have hv2H:Hid (w2.ownsRow bl 63 3 (.slice al i cl) i (xs)/\zs base w w2 (fun g=>bl<=g)):=⟨hv2,hF2⟩
 clear K2 hv2 hF2 hCe
 go_cut [4] (fun s6 wx=>s6= .pointer (some ⟨xb,0,none⟩)/\((∀g,g<w2.heap.size->wx.heap[g]? =w2.heap[g]?)/\zD w2 wx)/\wx.heap[xb]? =some (.cells #[.bool false,.int .i64 (C:Int),.int .i64 (-(C:Int))] 63 (0,0))/\wx.heap.size=xb+1)
 case first=>
  go_region
  all_goals
   go_wp2_with fail
   go_meet
   case rel=>exact ⟨by rw [<-hxbE,hz2],⟨fun g hg=>Below.heap_alloc w2 _ g hg,(zD.alloc w2 _).trans (zD.drew _)⟩,by rw [<-hxbE];exact heap_alloc_new w2 _,by rw [<-hxbE];simp⟩
 case rest=>
  obtain ⟨rfl,⟨hw3,hO3⟩,hxb,hz3⟩:=hcut
  obtain ⟨w3,rfl⟩: ∃w3,w3=wc:=⟨_,rfl⟩
  have hv3:w3.ownsRow bl 63 3 (.slice al i cl) i (xs):=zu hv2H.out.1 fun g hg=>hw3 g (hv2H.out.1.lt g hg).2
  have hgx:Hid (∀g,(Value.slice al i cl).ownBlock=some g->g<xb):=fun g hg=>by have:=(hv2H.out.1.lt g hg).2;omega
  have hv0:Hid (∀g,(Value.slice al i cl).ownBlock=some g-> ∃cur fr,w3.heap[g]? =some (.cells cur 63 fr)):=fun g hg=>by
   obtain ⟨c,hc⟩:=ze hv3 hg
   exact ⟨c,_,hc⟩
  have K3H:Hid (zC base wb { x1 with c:=C } B1 w3):=K2H.out.old hw3
  have hF3:Hid (zs base w w3 (fun g=>bl<=g)):=(hv2H.out.2.trans (s2:=fun _=>False) ⟨by omega,fun g hg=> .inl (hw3 g hg),hO3⟩).mono fun g _ h=>h.elim id False.elim
  have hfresh:Hid (∀p∈B1.s,p.1.ownBlock=none\/p.1.ownBlock≠(Value.slice al i cl).ownBlock):=fun p hp=>by
   cases hq:p.1.ownBlock with
   | none=>exact .inl rfl
   | some g=>
     right
     intro e
     have h1:=hfhH.out p hp g hq
     have h2:=hvbl.out g e.symm
     omega
  have hz23:Hid (w.heap.size<=w3.heap.size/\w.heap.size<=xb):=⟨by omega,by omega⟩
  have hbb:base<=xb/\bl<=xb:=⟨by omega,by omega⟩
  clear K2H hv2H hw3 hfhH c9 hz2 hxbE hwb2 hwbi hxcb
  go_wp2_with fail
  go_loopg [5] i (fun g t7 wr=> ∃k:Nat,g=i-k/\k<=i/\t7= .int .i64 k/\wr.ownsRow bl 63 3 (.slice al i cl) i (zP (jG (.int .i64 (C:Int))) k++xs.drop (k*3))/\Hid ((∀g,some g≠(Value.slice al i cl).ownBlock->wr.heap[g]? =w3.heap[g]?)/\zD w3 wr)/\wr.heap.size=xb+1)
  case atStart=>exact ⟨0,by omega,by omega,rfl,by simpa [zP] using hv3,⟨fun g _=>rfl,zD.refl _⟩,hz3⟩
  case round=>
   rename World=>wr
   obtain ⟨k,hgk,hkn,rfl,hrow,hoth,hzr⟩:=hrel
   have hG3:Hid (_=i-k):=hgk
   clear hgk
   have hxr:wr.heap[xb]? =some (.cells #[.bool false,.int .i64 (C:Int),.int .i64 (-(C:Int))] 63 (0,0)):=by
    rw [hoth.out.1 xb (fun e=>by have:=hgx.out xb e.symm;omega)];exact hxb
   by_cases hk2:k<i
   ·have hkI:(k:Int)<i:=by omega
    obtain ⟨g,rfl,hg,⟨cur,hcur,hsz⟩,hrow2⟩:=EA hrow hxs.out hk2
    have c0:wr.cell? ⟨g,k*3,none⟩=some (cur[k*3]'(by omega)):=za hcur (by simp)
    have c1:wr.cell? ⟨g,k*3+1,none⟩=some (cur[k*3+1]'(by omega)):=za hcur (by simp)
    have c2:wr.cell? ⟨g,k*3+2,none⟩=some (cur[k*3+2]'hsz):=za hcur (by simp)
    have fz: ∀k,wr.frozen? ⟨g,k,none⟩=false:=fun k=>zi hcur
    have y0:wr.cell? ⟨xb,0,none⟩=some (.bool false):=za hxr rfl
    have y1:wr.cell? ⟨xb,1,none⟩=some (.int .i64 (C:Int)):=za hxr rfl
    have y2:wr.cell? ⟨xb,2,none⟩=some (.int .i64 (-(C:Int))):=za hxr rfl
    have hR:(∃j:Nat,i-(k+1)=i-j/\j<=i/\Value.int .i64 ((k:Int)+1)= .int .i64 j/\(((wr.setCell ⟨g,k*3,none⟩ (.bool false)).setCell ⟨g,k*3+1,none⟩ (.int .i64 (C:Int))).setCell ⟨g,k*3+2,none⟩ (.int .i64 (-(C:Int)))).ownsRow bl 63 3 (.slice (some ⟨g,0,none⟩) i cl) i (zP (jG (.int .i64 (C:Int))) j++xs.drop (j*3))/\Hid ((∀g',some g'≠(Value.slice (some ⟨g,0,none⟩) i cl).ownBlock->(((wr.setCell ⟨g,k*3,none⟩ (.bool false)).setCell ⟨g,k*3+1,none⟩ (.int .i64 (C:Int))).setCell ⟨g,k*3+2,none⟩ (.int .i64 (-(C:Int)))).heap[g']? =w3.heap[g']?)/\zD w3 (((wr.setCell ⟨g,k*3,none⟩ (.bool false)).setCell ⟨g,k*3+1,none⟩ (.int .i64 (C:Int))).setCell ⟨g,k*3+2,none⟩ (.int .i64 (-(C:Int)))))/\(((wr.setCell ⟨g,k*3,none⟩ (.bool false)).setCell ⟨g,k*3+1,none⟩ (.int .i64 (C:Int))).setCell ⟨g,k*3+2,none⟩ (.int .i64 (-(C:Int)))).heap.size=xb+1):=by
     refine ⟨k+1,rfl,by omega,by push_cast;rfl,hrow2,⟨fun g' hne=> ?_,hoth.out.2.trans ((zD.setCell _ _ _).trans ((zD.setCell _ _ _).trans (zD.setCell _ _ _)))⟩,by simp;exact hzr⟩
     have hgg:g'≠g:=fun e=>hne (by rw [e];rfl)
     rw [zd _ _ _ _ _ hgg,zd _ _ _ _ _ hgg,zd _ _ _ _ _ hgg]
     exact hoth.out.1 g' hne
    have hRH:Hid _:=hR
    clear hR hrow2 hrow hoth hcur hxr
    obtain ⟨O,hO⟩: ∃O,k*3=O:=⟨_,rfl⟩
    simp only [hO] at c0 c1 c2 hRH
    go_wp2_with fail
    go_roundg (i-(k+1))
    ·exact hRH.out
    ·have:=hG3.out;omega
   ·obtain rfl:k=i:=by omega
    have hkI: ¬((k:Int)<k):=by omega
    have hrow3:wr.ownsRow bl 63 3 (.slice al k cl) k (zP (jG (.int .i64 (C:Int))) k):=by
     have h:=hrow
     rw [List.drop_of_length_le (by rw [hxs.out];exact Nat.le_refl _),List.append_nil] at h
     exact h
    have K3:zC base wb { x1 with c:=C } B1 wr:=zC.skip_s (vb:=(Value.slice al k cl).ownBlock) K3H.out (fun g hg _=>hv0.out g hg) (fun g hg hne=>hoth.out.1 g hne) (fun p hp=> .inl (hfresh.out p hp))
    have hFr:zs base w wr (fun g=>bl<=g):=by
     refine (hF3.out.trans (s2:=fun g=>some g=(Value.slice al k cl).ownBlock) ⟨by omega,fun g hg=> ?_,hoth.out.2⟩).mono fun g _ h=> ?_
     ·by_cases e:some g=(Value.slice al k cl).ownBlock
      ·exact .inr (.inl e)
      ·exact .inl (hoth.out.1 g e)
     ·rcases h with h | h
      ·exact h
      ·exact hvbl.out g h.symm
    have hKH:Hid (zC base wb { x1 with c:=C } B1 wr/\zs base w wr (fun g=>bl<=g)):=⟨K3,hFr⟩
    have hnx:Hid ((Value.slice al k cl).ownBlock≠some xb):=fun e=>by have:=hgx.out xb e;omega
    clear K3H K3 hFr hrow hoth hv3 hxb hF3 hv0 hgx hxs
    go_wp2_with fail
    go_loopg [1,6] 4 (fun g t4 t8 wk=> ∃(j:Nat) (al':Option Addr) (cl':Nat) (x':WV) (E:List (Value×Value)),g=4-j/\j<=4/\t8= .int .i64 j/\t4= .slice al' (k+j) cl'/\wk.ownsRow bl 63 3 (.slice al' (k+j) cl') (k+j) (zP (jG (.int .i64 (C:Int))) (k+j))/\zC base wb x' { B1 with s:=B1.s++E } wk/\E.length=j/\x'.c=C/\
     Hid ((∀p∈E,p.2=(.int .i64 (C:Int))/\ ∃al m cl,p.1= .slice al m cl/\m<=k+j/\ ∀a,al=some a->a=⟨a.block,0,none⟩)/\(∀p∈B1.s,p.1.ownBlock=none\/p.1.ownBlock≠(Value.slice al' (k+j) cl').ownBlock)/\(Value.slice al' (k+j) cl').ownBlock≠some xb/\zs base w wk (fun g=>bl<=g))/\wk.heap[xb]? =some (.cells #[.bool false,.int .i64 (C:Int),.int .i64 (-(C:Int))] 63 (0,0)))
    case atStart=>exact ⟨0,al,cl,{ x1 with c:=C },[],rfl,by omega,rfl,rfl,hrow3,by simpa using hKH.out.1,rfl,rfl,⟨by simp,hfresh.out,hnx.out,hKH.out.2⟩,hxr⟩
    case round=>
     rename World=>wk
     obtain ⟨j,al',cl',x',E,hgj,hj4,rfl,rfl,hrowk,Kk,hEl,hxc,hH,hxk⟩:=hrel
     have hG2:Hid (_=4-j):=hgj
     have hxbk:xb<wk.heap.size:=(Array.getElem?_eq_some_iff.1 hxk).1
     clear hgj hKH hnx hrow3 hxr hfresh
     by_cases hj2:j<4
     ·have hjI:(j:Int)<4:=by omega
      obtain ⟨N,hNe⟩: ∃N,(B1.s++E).length=N:=⟨_,rfl⟩
      have hNN:Hid ((B1.s++E).length=N):=hNe
      have hN:N<=700000000004:=by
       rw [<-hNe,List.length_append,hEl]
       omega
      have hwbk:wb<wk.heap.size:=(Array.getElem?_eq_some_iff.1 Kk.blk).1
      have hzk:=hH.out.2.2.2.1
      have hbk:base<=wk.heap.size:=Nat.le_trans hbase hzk
      have hblk:bl<=wk.heap.size:=Nat.le_trans hbl hzk
      have c2:wk.cell? ⟨wb,4,none⟩=some x'.s:=za Kk.blk rfl
      have hor:wk.ownsRow base 37 1 x'.s N ((B1.s++E).map (·.1)):=by rw [<-hNe];exact Kk.s.row
      have hmar:wk.ownsRow base 3 1 x'.sm N ((B1.s++E).map (·.2)):=by rw [<-hNe];exact Kk.s.marks
      have hon1: ∀u∈ [Value.slice al' (k+j) cl'],u.oneCell'=true:=by intro u hu;simp at hu;subst hu;rfl
      have hon2: ∀u∈ [Value.int .i64 (C:Int)],u.oneCell'=true:=by intro u hu;simp at hu;subst hu;rfl
      have hon3: ∀u∈ [Value.bool false,.int .i64 (C:Int),.int .i64 (-(C:Int))],u.oneCell'=true:=by intro u hu;simp at hu;rcases hu with rfl | rfl | rfl<;>rfl
      have hm2:(N+1)*24<=140737488355328:=by clear hxc;omega
      have hm3:(N+1)*8<=140737488355328:=by clear hxc;omega
      have hm6:k+j+1<=1990000:=Nat.le_trans (Nat.add_le_add_right (Nat.add_le_add hn (Nat.le_of_lt hj2)) 1) (by decide)
      have hm5:(k+j+1)*24<=140737488355328:=Nat.le_trans (Nat.mul_le_mul_right 24 hm6) (by decide)
      have hm1:N+1<=maxLen:=Nat.le_trans (Nat.succ_le_succ hN) (by decide)
      have hm4:k+j+1<=maxLen:=Nat.le_trans hm6 (by decide)
      have hnr:Hid (x'.s.ownBlock≠some wb/\x'.sm.ownBlock≠some wb/\x'.s.ownBlock≠some xb/\x'.sm.ownBlock≠some xb/\ ∀g,x'.sm.ownBlock=some g->g≠wb/\some g≠x'.s.ownBlock):=by
       refine ⟨fun e=> ?_,fun e=> ?_,fun e=> ?_,fun e=> ?_,fun g e=>⟨?_,fun e2=> ?_⟩⟩
       ·obtain ⟨c,hc⟩:=ze Kk.s.row e;exact zq hc Kk.blk (by decide) rfl
       ·obtain ⟨c,hc⟩:=ze Kk.s.marks e;exact zq hc Kk.blk (by decide) rfl
       ·obtain ⟨c,hc⟩:=ze Kk.s.row e;exact zq hc hxk (by decide) rfl
       ·obtain ⟨c,hc⟩:=ze Kk.s.marks e;exact zq hc hxk (by decide) rfl
       ·obtain ⟨c,hc⟩:=ze Kk.s.marks e;exact zq hc Kk.blk (by decide)
       ·obtain ⟨c,hc⟩:=ze Kk.s.marks e;obtain ⟨c2,hc2⟩:=ze Kk.s.row e2.symm;exact zq hc hc2 (by decide) rfl
      have hA:Hid (∀(ob:Obj) (wA:World),(wk.alloc ob).grownBy wA x'.s.ownBlock->wA.heap[wb]? =some x'.obj/\wA.ownsRow base 3 1 x'.sm N ((B1.s++E).map (·.2))/\wk.heap.size<=wA.heap.size):=by
       intro ob wA g1
       have k1: ∀g,g<wk.heap.size->some g≠x'.s.ownBlock->wA.heap[g]? =wk.heap[g]? :=fun g hg hne=>by
        rw [g1.block g (by simp;omega) hne];exact Below.heap_alloc wk ob g hg
       have z1:=g1.size
       simp at z1
       exact ⟨(k1 wb hwbk (fun e=>hnr.out.1 e.symm)).trans Kk.blk,zu hmar fun g hg=>k1 g (Kk.s.marks.lt g hg).2 (hnr.out.2.2.2.2 g hg).2,by omega⟩
      have hM:Hid (qx 63 3 (jG (.int .i64 (C:Int))) wk (.slice al' (k+j) cl')):=qx.of_owns (pat:=jG (.int .i64 (C:Int))) hrowk (Nat.le_refl _) (Nat.le_trans (Nat.le_succ _) (Nat.le_trans hm6 (by decide))) rfl (qb hrowk)
      have hKH:Hid (zC base wb x' { B1 with s:=B1.s++E } wk):=Kk
      have hrH:Hid (wk.ownsRow bl 63 3 (.slice al' (k+j) cl') (k+j) (zP (jG (.int .i64 (C:Int))) (k+j))):=hrowk
      have haddr:Hid (∀a,al'=some a->a=⟨a.block,0,none⟩):=qb hrowk
      have hfzk: ∀k,wk.frozen? ⟨wb,k,none⟩=false:=fun k=>zi Kk.blk
      have hxkH:Hid (wk.heap[xb]? =some (.cells #[.bool false,.int .i64 (C:Int),.int .i64 (-(C:Int))] 63 (0,0))):=hxk
      have hxcH:Hid (x'.c=C):=hxc
      have hElH:Hid (E.length=j):=hEl
      clear Kk hrowk hxk hNe hxc hEl hN
      go_wp2_with (at_builtin;refine zm rfl (.tmp 43) (.tmp 45) 52 rfl base 37 i0 _ 1 24 underlying52 hi ix0 ix1 ix2 rfl (by decide) x'.s N ((B1.s++E).map (·.1)) rfl (hor.alloc _) ⟨wk.heap.size,0,none⟩ 1 1 [.slice al' (k+j) cl'] rfl rfl (zt wk _ _) hon1 hm1 hm2 (by simp;omega) ?_;intro v1 wA o1 g1 n1;obtain ⟨a1,c1,rfl⟩:=zn o1;obtain ⟨bA,mA,zA⟩:=hA.out _ wA g1;have cA:wA.cell? ⟨wb,4,none⟩=some x'.s:=za bA rfl;have fA: ∀k,wA.frozen? ⟨wb,k,none⟩=false:=fun k=>zi bA;have o1H:Hid _:=o1;have g1H:Hid _:=g1;clear o1 g1 n1)
      obtain ⟨U,hUe⟩: ∃U,wA.setCell ⟨wb,4,none⟩ (.slice a1 (N+1) c1)=U:=⟨_,rfl⟩
      have bU:U.heap[wb]? =some ({ x' with s:= .slice a1 (N+1) c1 } :WV).obj:=by rw [<-hUe,zb _ _ _ _ _ _ _ bA];rfl
      have mU:U.ownsRow base 3 1 x'.sm N ((B1.s++E).map (·.2)):=by rw [<-hUe];exact zu mA fun g hg=>zd _ _ _ _ _ (hnr.out.2.2.2.2 g hg).1
      have zU:wk.heap.size<=U.heap.size:=by rw [<-hUe];simpa using zA
      have d1:U.cell? ⟨wb,5,none⟩=some x'.sm:=za bU rfl
      have d8:U.cell? ⟨wb,8,none⟩=some (.int .i64 (C:Int)):=by rw [<-hxcH.out];exact za bU rfl
      have dfz: ∀k,U.frozen? ⟨wb,k,none⟩=false:=fun k=>zi bU
      have hwbU:wb<U.heap.size:=Nat.lt_of_lt_of_le hwbk zU
      have hbs: ∀ob,base<=((U.alloc ob).drew).heap.size:=by intro ob;simp;exact Nat.le_trans (Nat.le_trans hbk zU) (Nat.le_succ _)
      have mUd:((U.alloc (.cells #[.int .i64 (C:Int)] 3)).drew).ownsRow base 3 1 x'.sm N ((B1.s++E).map (·.2)):=mU.alloc _
      have hcn: ∀(j:Nat) (u:Value),[Value.int .i64 (C:Int)][j]? =some u->((U.alloc (.cells #[.int .i64 (C:Int)] 3)).drew).cell? ((⟨U.heap.size,0,none⟩:Addr).add j)=some u:=zt U [.int .i64 (C:Int)] 3
      have hY:Hid (∀(ob:Obj) (w3:World),((U.alloc ob).drew).grownBy w3 x'.sm.ownBlock->w3.heap[wb]? =U.heap[wb]?):=by
       intro ob w3 g2
       rw [g2.block wb (by simp;exact Nat.lt_of_lt_of_le hwbU (Nat.le_succ _)) (fun e=>hnr.out.2.1 e.symm)]
       exact Below.heap_alloc U ob wb hwbU
      have hpush:Hid (∀(ob:Obj) (v2:Value) (w3:World),((U.alloc ob).drew).grownBy w3 x'.sm.ownBlock->w3.ownsRow base 3 1 v2 (N+1) ((B1.s++E).map (·.2)++ [(.int .i64 (C:Int))])->(v2.ownBlock=x'.sm.ownBlock\/ ∀g,v2.ownBlock=some g->((U.alloc ob).drew).heap.size<=g)->
        ∃x2:WV,zC base wb x2 { B1 with s:=B1.s++(E++ [(.slice al' (k+j) cl',(.int .i64 (C:Int)))]) } (w3.setCell ⟨wb,5,none⟩ v2)/\x2.c=x'.c/\zs base wk (w3.setCell ⟨wb,5,none⟩ v2) (fun _=>False)):=by
       intro ob v2 w3 g2 o2 n2
       obtain ⟨k1,k2⟩:=hKH.out.push_s (m:=(.int .i64 (C:Int))) (v1:= .slice a1 (N+1) c1) (v2:=v2) (w3:=w3) g1H.out (by show wA.ownsRow base 37 1 _ ((B1.s++E).length+1) _;rw [hNN.out];exact o1H.out) (by rw [hUe];exact ⟨g2.os,g2.tape,g2.output,g2.size,g2.block⟩) (by show w3.ownsRow base 3 1 _ ((B1.s++E).length+1) _;rw [hNN.out];exact o2) (n2.imp id fun h g e=>by have h1:=h g e;simp at h1;omega) hM.out ⟨fun _=>⟨C,by omega,rfl⟩,fun h=>absurd h (by decide)⟩
       refine ⟨{ x' with s:= .slice a1 (N+1) c1,sm:=v2 },?_,rfl,k2⟩
       rw [<-List.append_assoc]
       exact k1
      clear bA mA zA cA fA
      rw [hUe]
      clear hUe o1H g1H bU hA hor c2 hfzk hmar
      go_cut [] (fun wx=> ∃x2:WV,zC base wb x2 { B1 with s:=B1.s++(E++ [(.slice al' (k+j) cl',(.int .i64 (C:Int)))]) } wx/\x2.c=x'.c/\zs base wk wx (fun _=>False))
      case first=>
       go_region_law (refine yo rfl (.tmp 53) (.tmp 58) 25 rfl base 3 j0 _ 1 8 underlying25 ji jx0 jx1 jx2 rfl (by decide) x'.sm N ((B1.s++E).map (·.2)) (by simp [Act.eval]) mUd ⟨U.heap.size,0,none⟩ 1 1 [.int .i64 (C:Int)] (by simp [Act.eval]) rfl hcn hon2 hm1 hm3 (hbs _) ?_;intro v2 w3 o2 g2 n2;obtain ⟨a2,c2,rfl⟩:=zn o2;have b3:=hY.out _ w3 g2;have e3:=(World.cell?_of_block (a:=⟨wb,5,none⟩) b3).trans d1;have f3:=fun k=>(World.frozen?_of_block (a:=⟨wb,k,none⟩) b3).trans (dfz k))
       all_goals
        have hR:=hpush.out _ _ w3 g2 o2 n2
        have hRH:Hid _:=hR
        clear hR hpush hY g2 o2 n2
        go_wp2_with fail
        go_meet
        case rel=>exact hRH.out
      case rest=>
       obtain ⟨x2,K4,hx2c,F4⟩:=hcut
       obtain ⟨W4,rfl⟩: ∃W4,W4=wc:=⟨_,rfl⟩
       have hx4:W4.heap[xb]? =some (.cells #[.bool false,.int .i64 (C:Int),.int .i64 (-(C:Int))] 63 (0,0)):=(F4.at hxkH.out (by decide) (fun h=>h)).trans hxkH.out
       have row4:W4.ownsRow bl 63 3 (.slice al' (k+j) cl') (k+j) (zP (jG (.int .i64 (C:Int))) (k+j)):=zu hrH.out fun g hg=>by
        obtain ⟨c,hc⟩:=ze hrH.out hg
        exact F4.at hc (by decide) (fun h=>h)
       have hbl4:bl<=W4.heap.size:=Nat.le_trans hblk F4.1
       have e0:W4.cell? ⟨xb,0,none⟩=some (.bool false):=za hx4 rfl
       have e1:W4.cell? ⟨xb,1,none⟩=some (.int .i64 (C:Int)):=za hx4 rfl
       have e2:W4.cell? ⟨xb,2,none⟩=some (.int .i64 (-(C:Int))):=za hx4 rfl
       have hFin:Hid (∀(ob:Obj) (v5:Value) (w5:World),w5.ownsRow bl 63 3 v5 (k+j+1) (zP (jG (.int .i64 (C:Int))) (k+j)++ [.bool false,.int .i64 (C:Int),.int .i64 (-(C:Int))])->((v5.ownBlock=(Value.slice al' (k+j) cl').ownBlock/\(W4.alloc ob).grownBy w5 (Value.slice al' (k+j) cl').ownBlock)\/((∀g,v5.ownBlock=some g->(W4.alloc ob).heap.size<=g)/\(W4.alloc ob).grownBy w5 none))->
        ∃(j':Nat) (al5:Option Addr) (cl5:Nat) (x5:WV) (E5:List (Value×Value)),4-(j+1)=4-j'/\j'<=4/\Value.int .i64 ((j:Int)+1)= .int .i64 j'/\v5= .slice al5 (k+j') cl5/\w5.ownsRow bl 63 3 (.slice al5 (k+j') cl5) (k+j') (zP (jG (.int .i64 (C:Int))) (k+j'))/\zC base wb x5 { B1 with s:=B1.s++E5 } w5/\E5.length=j'/\x5.c=C/\
        Hid ((∀p∈E5,p.2=(.int .i64 (C:Int))/\ ∃al m cl,p.1= .slice al m cl/\m<=k+j'/\ ∀a,al=some a->a=⟨a.block,0,none⟩)/\(∀p∈B1.s,p.1.ownBlock=none\/p.1.ownBlock≠(Value.slice al5 (k+j') cl5).ownBlock)/\(Value.slice al5 (k+j') cl5).ownBlock≠some xb/\zs base w w5 (fun g=>bl<=g))/\w5.heap[xb]? =some (.cells #[.bool false,.int .i64 (C:Int),.int .i64 (-(C:Int))] 63 (0,0))):=by
        intro ob v5 w5 row5 h3
        obtain ⟨q2,q3,q5,q6⟩:=hH.out
        have hE2: ∀p∈E++ [(Value.slice al' (k+j) cl',Value.int .i64 (C:Int))],p.2=(.int .i64 (C:Int))/\ ∃al m cl,p.1= .slice al m cl/\m<=k+j/\ ∀a,al=some a->a=⟨a.block,0,none⟩:=by
         intro p hp
         rcases List.mem_append.1 hp with hp | hp
         ·exact q2 p hp
         ·rw [List.mem_singleton] at hp
          subst hp
          exact ⟨rfl,al',k+j,cl',rfl,Nat.le_refl _,haddr.out⟩
        obtain ⟨s1,s2,s3,s4,s5⟩:=Um (ob:=ob) (c:=(C:Int)) K4 (Nat.le_of_succ_le hm6) row4 hE2 q3 row5 h3
        obtain ⟨al5,cl5,rfl⟩:=zn row5
        have hFz:=F4.1
        have hold:(Value.slice al5 (k+j+1) cl5).ownBlock=(Value.slice al' (k+j) cl').ownBlock\/ ∀g,(Value.slice al5 (k+j+1) cl5).ownBlock=some g->W4.heap.size<=g:=h3.imp (fun h=>h.1) (fun h g e=>by have:=h.1 g e;simp at this;omega)
        refine ⟨j+1,al5,cl5,x2,_,rfl,hj2,by push_cast;rfl,rfl,s3,s1,by rw [List.length_append,hElH.out];rfl,hx2c.trans hxcH.out,⟨?_,s4,?_,?_⟩,?_⟩
        ·intro p hp
         obtain ⟨r1,al,m,cl,r2,r3,r4⟩:=hE2 p hp
         exact ⟨r1,al,m,cl,r2,Nat.le_succ_of_le r3,r4⟩
        ·rcases hold with h | h
         ·have h':(Value.slice al5 (k+(j+1)) cl5).ownBlock=(Value.slice al' (k+j) cl').ownBlock:=h
          rw [h'];exact q5
         ·intro e
          have:=h xb e
          omega
        ·have hF:=(q6.trans F4).trans s2
         refine hF.mono fun g hg h=> ?_
         rcases h with (h | h) | h
         ·exact h
         ·exact h.elim
         ·exact (row4.lt g h.symm).1
        ·rw [s5 xb (by omega) (fun e=>q5 e.symm)]
         exact hx4
       clear hH hKH hM K4 F4 hnr hrH
       go_wp2_with (at_builtin;refine xr rfl (.tmp 62) (.tmp 64) 37 rfl bl 63 k0 _ 3 24 underlying37 ki kx0 kx1 kx2 rfl (by decide) (.slice al' (k+j) cl') (k+j) (zP (jG (.int .i64 (C:Int))) (k+j)) rfl (row4.alloc _) ⟨W4.heap.size,0,none⟩ 1 1 [.bool false,.int .i64 (C:Int),.int .i64 (-(C:Int))] rfl rfl (zt W4 _ _) hon3 hm4 hm5 (by simp;omega) ?_;intro v5 w5 row5 h3;have hR:=hFin.out _ v5 w5 row5 h3;have hRH:Hid _:=hR;clear hR row5 h3)
       go_roundg (4-(j+1))
       ·exact hRH.out
       ·have:=hG2.out;omega
     ·obtain rfl:j=4:=by omega
      have hR: ∃(x':WV) (B':Bk),zC base wb x' B' wk/\B'.h=B1.h/\B'.l=B1.l/\B'.r=B1.r/\B'.s.length=B1.s.length+4/\x'.c=x1.c+1/\zs base w wk (fun g=>bl<=g):=
       ⟨x',{ B1 with s:=B1.s++E },Kk,rfl,rfl,rfl,by show (B1.s++E).length=_;rw [List.length_append,hEl],by rw [hxc];exact hCH.out,hH.out.2.2.2⟩
      have hRH:Hid _:=hR
      clear hR Kk hH hrowk hxk
      go_wp2_with fail
      go_end0
      exact ⟨rfl,hRH.out⟩
theorem Ga {s:ByteArray} {hs:List HI} {fz:Int} (hL:Lim hs) (hT:Xf hs):(applyA s hs fz).2.1.length<=300000:=by
 unfold applyA
 by_cases hk:chkA s hs fz=0
 ·rw [if_pos hk]
  obtain ⟨k1,k2,k3,_,_⟩:=Xe hk
  simp only
  rw [Yn (Jn k3 hL hT) (by have:=yz k2;omega) (kj k1 k2),List.length_map]
  exact hL.1
 ·rw [if_neg hk]
  simp
theorem Ql {base wb M:Nat} {x:WV} {B:Bk} {w:World} {hs:List HI} {a:Option Addr} {cap:Nat} {s:ByteArray} {fz m:Int} (K:zC base wb x B w) (R:jc M x B) (hM:M<=600000000000) (hm:w.cell? ⟨0,0,none⟩=some (.int .i64 m)) (hbase:base<=w.heap.size)
 (S:xy base w (.slice a hs.length cap) hs) (hL:Lim hs) (hT:Xf hs) (hsz:s.size<=4000000000):
 Calls prog 46 #[.pointer (some ⟨wb,0,none⟩),.string s,.agg #[.slice a hs.length cap],.int .i64 fz] w fun e w'=>e= .returned (.bool true)/\yh base wb (M+4*hs.length+4) w w':=by
 have hmlt:=World.block_lt_of_cell? _ _ hm
 have hlh:=hL.1
 have hal:=Ga (s:=s) (fz:=fz) hL hT
 have hap:=fun (W:World) (ax:Option Addr) (cx:Nat) (h:KC W.heap.size W (.slice ax hs.length cx) hs) (h2:W.cell? ⟨0,0,none⟩=some (.int .i64 m))=>Fg (s:=s) (fz:=fz) h hL hT hsz h2
 have hra:=fun (W:World) (h:yH W.heap.size W (.slice a hs.length cap) hs) (hc:ZT W (.slice a hs.length cap) hs.length)=>KS (s:=s) (fz:=fz) h hc hL hT hsz
 generalize applyA s hs fz=AA at *
 obtain ⟨txt,sm,er⟩:=AA
 simp only at hal hap hra
 have hapH:Hid _:=hap
 have hraH:Hid _:=hra
 clear hap hra
 obtain ⟨W0,hW0⟩: ∃W0,w.alloc (.cells #[.slice a hs.length cap] 32)=W0:=⟨_,rfl⟩
 have b0:Below w.heap.size w W0:=by rw [<-hW0];exact (Below.refl _ _).alloc (Nat.le_refl _) _
 have z0:W0.heap.size=w.heap.size+1:=by rw [<-hW0];simp
 have hP0:W0.heap[w.heap.size]? =some (.cells #[.slice a hs.length cap] 32 (0,0)):=by rw [<-hW0];exact heap_alloc_new w _
 have K0:=K.old (W':=W0) fun g hg=>b0.block g hg
 have S0:=S.on (zs.of_below (base:=base) b0) (fun _ h=>h.elim)
 have c0:W0.cell? ⟨w.heap.size,0,none⟩=some (.slice a hs.length cap):=za hP0 rfl
 have hlent:=QH S0.1 hL (by omega)
 have hrl:=R.l
 have hrc:=R.c
 go_enter func46,ntmps46
 go_wp2_with fail
 clear hW0
 refine hlent.mono ?_
 rintro e W1 ⟨ax,cx,va,vr,rfl,hLO,b1⟩
 have z1:=b1.size
 obtain ⟨W2,hW2⟩: ∃W2,W1.alloc (.cells #[.slice ax hs.length cx] 32)=W2:=⟨_,rfl⟩
 have b2:Below W1.heap.size W1 W2:=by rw [<-hW2];exact (Below.refl _ _).alloc (Nat.le_refl _) _
 have z2:W2.heap.size=W1.heap.size+1:=by rw [<-hW2];simp
 have hP2:W2.heap[W1.heap.size]? =some (.cells #[.slice ax hs.length cx] 32 (0,0)):=by rw [<-hW2];exact heap_alloc_new W1 _
 have q0:W2.cell? ⟨W1.heap.size,0,none⟩=some (.slice ax hs.length cx):=za hP2 rfl
 have b02:=b1.trans (b2.mono z1)
 have bw2:=b0.trans (b02.mono (by omega))
 have hw:=hapH.out W2 ax cx (hLO.1.later b2) ((bw2.cell (p:=⟨0,0,none⟩) hmlt).trans hm)
 have hLOH:Hid (KL base W0 a cap hs (.slice ax hs.length cx) va vr W1):=hLO
 clear c0 hLO hlent hapH
 go_wp2_with fail
 clear hW2
 refine hw.mono ?_
 rintro e W3 ⟨v,rfl,hrow,b3⟩
 have z3:=b3.size
 obtain ⟨al,cl,rfl⟩:=zn hrow
 have b03:=b02.trans (b3.mono (by omega))
 have S3:=S0.on (zs.of_below (base:=base) b03) (fun _ h=>h.elim)
 have c3:W3.cell? ⟨w.heap.size,0,none⟩=some (.slice a hs.length cap):=za ((b03.block w.heap.size (by omega)).trans hP0) rfl
 have hr:=hraH.out W3 S3.1.now S3.cap
 clear hw q0 hP2 hraH
 go_wp2_with fail
 refine hr.mono ?_
 rintro e W4 ⟨v',rfl,hrow',b4⟩
 have z4:=b4.size
 obtain ⟨aq,cq,rfl⟩:=zn hrow'
 have b04:=b03.trans (b4.mono (by omega))
 have hrow4:=zR hrow b4 (fun k e=>(hrow.lt k e).2)
 have e0: ∀x:Int,(x==x)=true:=by simp
 have hrow4H:Hid (W4.ownsRow W2.heap.size 63 3 (.slice al sm.length cl) sm.length (zL sm)):=hrow4
 have hrowqH:Hid (W4.ownsRow W3.heap.size 63 3 (.slice aq sm.length cq) sm.length (zL sm)):=hrow'
 clear hr c3 S3 hrow hrow' hrow4
 go_wp2_with fail
 go_loopg [18,19] sm.length (fun g t18 t19 wr=> ∃i:Nat,g=sm.length-i/\i<=sm.length/\t18= .bool true/\t19= .int .i64 i/\Below W4.heap.size W4 wr)
 case atStart=>exact ⟨0,by omega,by omega,by first | rfl | simp,rfl,Below.refl _ _⟩
 case round=>
  obtain ⟨i,hgi,hil,rfl,rfl,hbel⟩:=hrel
  have hG:Hid (gk=sm.length-i):=hgi
  clear hgi
  have hzr:=hbel.size
  by_cases hi:i<sm.length
  ·have hiI:(i:Int)<sm.length:=by omega
   have hi0:(0:Int)<=(i:Int):=by omega
   obtain ⟨g1,rfl,hg1,u0,u1,u2⟩:=Fa (zR hrow4H.out hbel (fun k e=>(hrow4H.out.lt k e).2)) hi
   obtain ⟨g2,rfl,hg2,v0,v1,v2⟩:=Fa (zR hrowqH.out hbel (fun k e=>(hrowqH.out.lt k e).2)) hi
   generalize sm[i]=sx at *
   clear K K0 S S0 R hLOH hrow4H hrowqH
   go_wp2_with fail
   go_quiet (fail)
   go_wp2_with fail
   go_roundg (sm.length-(i+1))
   ·exact ⟨i+1,rfl,by omega,by first | rfl | simp,by push_cast;rfl,Below.drewN' hbel⟩
   ·have:=hG.out;omega
  ·have hiI: ¬((i:Int)<sm.length):=by omega
   have b0r:=b04.trans (hbel.mono (by omega))
   have b1r:=(b2.trans (b3.mono (by omega))).trans ((b4.mono (by omega)).trans (hbel.mono (by omega)))
   have cr:wr.cell? ⟨w.heap.size,0,none⟩=some (.slice a hs.length cap):=za ((b0r.block w.heap.size (by omega)).trans hP0) rfl
   have hrowr:=zR hrow4H.out hbel (fun k e=>(hrow4H.out.lt k e).2)
   have hu:Hid (Calls prog 87 #[.pointer (some ⟨wb,0,none⟩),va,vr,.agg #[.slice a hs.length cap]] wr fun e w'=>e= .returned (.bool true)/\(Calls prog 93 #[.pointer (some ⟨wb,0,none⟩),.slice al sm.length cl] w' fun e w''=>e= .returned (.tuple #[])/\yh base wb (M+4*hs.length+4) w w'')):=by
    refine (hLOH.out.2 wb x B wr K0 b1r (by omega) (by omega)).mono ?_
    rintro e w' ⟨rfl,x',E,k1,k2,k3,k4,k5⟩
    refine ⟨rfl,?_⟩
    have hz':=k4.1
    have hrw':w'.ownsRow W2.heap.size 63 3 (.slice al sm.length cl) sm.length (zL sm):=zu hrowr fun g hg=>by
     obtain ⟨c,hc⟩:=ze hrowr hg
     have hlo:=(hrowr.lt g hg).1
     exact k4.at hc (by decide) (by omega)
    refine (UX (w:=w') (bl:=W2.heap.size) k1 hrw' (by omega) (fun p hp g e=> ?_) ((zs.refl base w').mono fun _ _ h=>h.elim) (by omega) (by omega) (by omega) (by show B.s.length<=_;have:=R.s;omega)).mono ?_
    ·have:=((K.s.ok p hp).lt g e).1
     omega
    ·rintro e w'' ⟨rfl,x2,B2,m1,m2,m3,m4,m5,m6,m7⟩
     refine ⟨rfl,x2,B2,m1,⟨?_,?_,?_,?_,?_⟩,(((zs.of_below (base:=base) (b0.trans (b0r.mono (by omega)))).trans k4).trans m7).mono fun g hg h=> ?_⟩
     ·rw [m6];omega
     ·rw [m2];have:=R.h;show B.h.length<=_;omega
     ·rw [m3];show (B.l++E).length<=_;rw [List.length_append];omega
     ·rw [m5];have:=R.s;show B.s.length+4<=_;omega
     ·rw [m4];have:=R.r;show B.r.length<=_;omega
     ·rcases h with (h | h) | h
      ·exact h
      ·omega
      ·omega
   clear hLOH hrow4H hrowqH hrowr K K0 S S0 R hP0
   go_wp2_with fail
   refine hu.out.mono ?_
   rintro e W6 ⟨rfl,hs6⟩
   clear hu
   go_wp2_with fail
   refine hs6.mono ?_
   rintro e W7 ⟨rfl,hR7⟩
   have hRH:Hid (yh base wb (M+4*hs.length+4) w W7):=hR7
   clear hR7 hs6
   go_wp2_with fail
   go_ret
   exact ⟨by first | rfl | simp,hRH.out⟩
end Go.Proofs.YtcclgodahlinbaaGreatDoor
