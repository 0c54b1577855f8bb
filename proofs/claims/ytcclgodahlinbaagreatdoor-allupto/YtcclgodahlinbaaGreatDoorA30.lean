import Derived.Test.YtcclgodahlinbaaGreatDoorA26
import Derived.BigRegion
namespace Go.Proofs.YtcclgodahlinbaaGreatDoor
set_option maxHeartbeats 16000000
open Tryz Go.RowKit Go
set_option maxRecDepth 100000
theorem JM {base wb bl cl:Nat} {al:Option Addr} {x:WV} {B:Bk} {w:World} {hv:List HV} (K:zC base wb x B w) (hso:HSo bl (.slice al hv.length cl) hv w) (hn:hv.length<=400000) (hln: ∀p∈hv,p.1.lines.length<=1900000)
 (hfl: ∀p∈B.l,∀q∈hv,p.1.ownBlock=none\/p.1.ownBlock≠q.2.ownBlock) (hfh: ∀p∈B.h,∀g,p.1.ownBlock=some g->g<bl) (hbase:base<=w.heap.size) (hbl:bl<=w.heap.size) (hc:x.c<=7000000000000) (hll:B.l.length<=700000000000) (hlh:B.h.length<=700000000000):
 Calls prog 82 #[.pointer (some ⟨wb,0,none⟩),.agg #[.slice al hv.length cl]] w fun e w'=>e= .returned (.tuple #[])/\ ∃(x':WV) (B':Bk),zC base wb x' B' w'/\B'.s=B.s/\B'.r=B.r/\B'.h.length=B.h.length+4/\B'.l.length=B.l.length+4*hv.length/\x'.c=x.c+hv.length+1/\zs base w w' (fun g=>bl<=g):=by
 obtain ⟨i0,hi,ix0,ix1,ix2⟩:=info_parts Th
 obtain ⟨j0,ji,jx0,jx1,jx2⟩:=info_parts Pf
 obtain ⟨k0,ki,kx0,kx1,kx2⟩:=info_parts qk
 have hap:Hid (hv.Pairwise fun p q=>p.2.ownBlock=none\/p.2.ownBlock≠q.2.ownBlock):=by
  rcases hso with ⟨rfl,_⟩ | ⟨g,cap,_,_,hs⟩
  ·exact List.Pairwise.nil
  ·exact hs.apart
 have hadr:Hid (∀a,al=some a->a=⟨a.block,0,none⟩):=qb hso.owns
 have hw0:Below w.heap.size w (w.alloc (.cells #[.slice al hv.length cl] 32)):=(Below.refl _ _).alloc (Nat.le_refl _) _
 have hpb:(w.alloc (.cells #[.slice al hv.length cl] 32)).heap[w.heap.size]? =some (.cells #[.slice al hv.length cl] 32 (0,0)):=heap_alloc_new w _
 have c0:(w.alloc (.cells #[.slice al hv.length cl] 32)).cell? ⟨w.heap.size,0,none⟩=some (.slice al hv.length cl):=za hpb rfl
 have hst:Hid (xI base wb bl x B (.slice al hv.length cl) hv w 0 (w.alloc (.cells #[.slice al hv.length cl] 32))):=xI.start (K.old fun g hg=>hw0.block g hg) (hso.alloc _) ((zs.of_below hw0).mono fun g _ h=>h.elim) hfl
 have hz0:(w.alloc (.cells #[.slice al hv.length cl] 32)).heap.size=w.heap.size+1:=by simp
 have hfhH:Hid (∀p∈B.h,∀g,p.1.ownBlock=some g->g<bl):=hfh
 have hlnH:Hid (∀p∈hv,p.1.lines.length<=1900000):=hln
 have hwb:wb<w.heap.size:=(Array.getElem?_eq_some_iff.1 K.blk).1
 have hvbl:Hid (∀g,(Value.slice al hv.length cl).ownBlock=some g->bl<=g):=fun g e=>(hso.owns.lt g e).1
 go_enter func82,ntmps82
 go_wp2_with fail
 clear K hso hw0 hpb c0 hfl hfh hln
 generalize w.alloc (.cells #[.slice al hv.length cl] 32)=w0 at *
 obtain ⟨n,hne⟩: ∃n,hv.length=n:=⟨_,rfl⟩
 have hnE:Hid (hv.length=n):=hne
 rw [hne] at hn hst hvbl ⊢
 clear hne
 go_loopg [5] n (fun g t5 wi=> ∃i:Nat,g=n-i/\i<=n/\t5= .int .i64 i/\Hid (xI base wb bl x B (.slice al n cl) hv w i wi)/\w.heap.size<=wi.heap.size)
 case atStart=>exact ⟨0,by omega,by omega,rfl,hst,by omega⟩
 case round=>
  rename World=>wi
  obtain ⟨i,hgi,hin,rfl,hL,hzi⟩:=hrel
  have hG:Hid (_=n-i):=hgi
  clear hgi hst
  by_cases hi2:i<n
  ·have hiI:(i:Int)<n:=by omega
   obtain ⟨x1,E,hP⟩:=hL.out
   have hi3:i<hv.length:=by rw [hnE.out];exact hi2
   have hPr:=hP.2.2.2.2.1
   have hrl:=hP.2.2.2.1 hv[i] (by rw [List.drop_eq_getElem_cons hi3];exact List.mem_cons_self)
   obtain ⟨g,cap,e,hgb,hgi,_⟩:=zv hPr (by omega)
   have hag:al=some ⟨g,0,none⟩:=by cases e;rfl
   have hrow5:=hPr
   rw [hag,hnE.out] at hrow5
   obtain ⟨_,_,_,_,d4⟩:=xN hrow5 hi3
   obtain ⟨alq,clq,hq⟩:=zn hrl
   have hcall:Hid (Calls prog 113 #[.pointer (some ⟨wb,0,none⟩),.slice alq hv[i].1.lines.length clq] wi fun e w'=>e= .returned (.tuple #[])/\xI base wb bl x B (.slice al n cl) hv w (i+1) w'/\w.heap.size<=w'.heap.size):=by
    have hz:=hP.2.2.2.2.2.2.1.1
    refine (GB (bl:=bl) hP.1 (by rw [<-hq];exact hrl) (hlnH.out _ (List.getElem_mem hi3)) (fun p hp=>by rw [<-hq];exact hP.2.2.2.2.2.1 p hp _ (by rw [List.drop_eq_getElem_cons hi3];exact List.mem_cons_self)) (by omega) (by omega) (by have:=hP.2.2.1;omega) (by
     show (B.l++E).length<=_
     have:=hP.2.1;rw [List.length_append];omega)).mono ?_
    rintro e w' ⟨rfl,x2,E2,k1,k2,k3,k4,k5⟩
    rw [<-hq] at k4 k5
    exact ⟨rfl,xI.next hi3 hap.out hP k1 k2 k3 k4 k5 (by omega),Nat.le_trans hzi k5.1⟩
   rw [hq] at d4
   generalize hv[i].1.lines.length=ll at *
   subst hag
   clear hP hPr hrl hq e hrow5 hL
   go_wp2_with fail
   refine hcall.out.mono ?_
   rintro e w' ⟨rfl,hL',hz'⟩
   go_wp2_with fail
   go_roundg (n-(i+1))
   ·exact ⟨i+1,rfl,by omega,by push_cast;rfl,hL',hz'⟩
   ·have:=hG.out;omega
  ·obtain rfl:i=n:=by omega
   have hiI: ¬((i:Int)<i):=by omega
   obtain ⟨x1,E,hP⟩:=hL.out
   have hxs:Hid ((hunkCells hv).length=i*5):=by
    have:=hP.2.2.2.2.1.1
    rw [hnE.out] at this
    exact this
   have hrw:wi.ownsRow bl 61 5 (.slice al i cl) i (hunkCells hv):=by
    have:=hP.2.2.2.2.1
    rw [hnE.out] at this
    exact this
   obtain ⟨B1,hB1⟩: ∃B1:Bk,{ B with l:=B.l++E } =B1:=⟨_,rfl⟩
   have hBH:Hid (B1.h=B.h/\B1.s=B.s/\B1.r=B.r/\B1.l.length=B.l.length+4*i):=by
    rw [<-hB1]
    exact ⟨rfl,rfl,rfl,by show (B.l++E).length=_;rw [List.length_append,hP.2.1]⟩
   have K1:=hP.1
   rw [hB1] at K1
   have hxc:=hP.2.2.1
   have hFi:=hP.2.2.2.2.2.2.1
   clear hL hP hB1
   have hwbi:wb<wi.heap.size:=(Array.getElem?_eq_some_iff.1 K1.blk).1
   have c8:wi.cell? ⟨wb,8,none⟩=some (.int .i64 (x1.c:Int)):=za K1.blk rfl
   have fz8: ∀k,wi.frozen? ⟨wb,k,none⟩=false:=fun k=>zi K1.blk
   have hk2:(wi.setCell ⟨wb,8,none⟩ (.int .i64 ((x1.c:Int)+1))).heap[wb]? =some ({ x1 with c:=x1.c+1 } :WV).obj:=by
    rw [zb _ _ _ _ _ _ _ K1.blk];simp [WV.obj]
   have K2:=K1.count hk2 (fun g _ hne=>zd _ _ _ _ _ hne)
   have hF2:zs base w (wi.setCell ⟨wb,8,none⟩ (.int .i64 ((x1.c:Int)+1))) (fun g=>bl<=g):=by
    refine (hFi.trans (s2:=fun _=>False) ⟨by simp,fun g hg=> ?_,zD.setCell _ _ _⟩).mono fun g _ h=>h.elim id False.elim
    by_cases e:g=wb
    ·subst e;exact .inr (.inr ⟨_,_,_,K1.blk,by decide,K1.wlo⟩)
    ·exact .inl (zd _ _ _ _ _ e)
   have hv2:(wi.setCell ⟨wb,8,none⟩ (.int .i64 ((x1.c:Int)+1))).ownsRow bl 61 5 (.slice al i cl) i (hunkCells hv):=zu hrw fun g hg=>by
    obtain ⟨c,hc⟩:=ze hrw hg
    exact zd _ _ _ _ _ (zq hc K1.blk (by decide))
   have hz2:(wi.setCell ⟨wb,8,none⟩ (.int .i64 ((x1.c:Int)+1))).heap.size=wi.heap.size:=by simp
   have hxcb:x1.c<=7000000400000:=by omega
   have hxcH:Hid (x1.c=x.c+i):=hxc
   clear hxc
   go_wp2_with fail
   have c9:(wi.setCell ⟨wb,8,none⟩ (.int .i64 ((x1.c:Int)+1))).cell? ⟨wb,8,none⟩=some (.int .i64 ((x1.c:Int)+1)):=za (zb _ _ _ _ _ _ _ K1.blk) rfl
   clear c8 fz8 hk2 K1 hFi hrw
   generalize wi.setCell ⟨wb,8,none⟩ (.int .i64 ((x1.c:Int)+1))=w2 at *
   obtain ⟨C,hCe⟩: ∃C:Nat,x1.c+1=C:=⟨_,rfl⟩
   have hCI:((x1.c:Int)+1)=(C:Int):=by rw [<-hCe];push_cast;rfl
   have hCH:Hid (C=x.c+i+1):=by show _=_;rw [<-hCe,hxcH.out]
   rw [hCe] at K2
   rw [hCI] at c9
   have hCb:C<=8000000000000:=by omega
   obtain ⟨xb,hxbE⟩: ∃xb,w2.heap.size=xb:=⟨_,rfl⟩
   have hwb2:wb<w2.heap.size:=(Array.getElem?_eq_some_iff.1 K2.blk).1
   have K2H:Hid (zC base wb { x1 with c:=C } B1 w2):=K2
   have hv2H:Hid (w2.ownsRow bl 61 5 (.slice al i cl) i (hunkCells hv)/\zs base w w2 (fun g=>bl<=g)):=⟨hv2,hF2⟩
   clear K2 hv2 hF2 hCe
   go_cut [6] (fun s6 wx=>s6= .pointer (some ⟨xb,0,none⟩)/\((∀g,g<w2.heap.size->wx.heap[g]? =w2.heap[g]?)/\zD w2 wx)/\wx.heap[xb]? =some (.cells #[.int .i64 (-(C:Int)),.int .i64 0,.int .i64 (C:Int),.int .i64 0,.slice none 0 0] 61 (0,0))/\wx.heap.size=xb+1)
   case first=>
    go_region
    all_goals
     go_wp2_with fail
     go_meet
     case rel=>exact ⟨by rw [<-hxbE,hz2],⟨fun g hg=>Below.heap_alloc w2 _ g hg,(zD.alloc w2 _).trans (zD.drew _)⟩,by rw [<-hxbE];exact heap_alloc_new w2 _,by rw [<-hxbE];simp⟩
   case rest=>
    obtain ⟨rfl,⟨hw3,hO3⟩,hxb,hz3⟩:=hcut
    obtain ⟨w3,rfl⟩: ∃w3,w3=wc:=⟨_,rfl⟩
    have hv3:w3.ownsRow bl 61 5 (.slice al i cl) i (hunkCells hv):=zu hv2H.out.1 fun g hg=>hw3 g (hv2H.out.1.lt g hg).2
    have hgx:Hid (∀g,(Value.slice al i cl).ownBlock=some g->g<xb):=fun g hg=>by have:=(hv2H.out.1.lt g hg).2;omega
    have hv0:Hid (∀g,(Value.slice al i cl).ownBlock=some g-> ∃cur fr,w3.heap[g]? =some (.cells cur 61 fr)):=fun g hg=>by
     obtain ⟨c,hc⟩:=ze hv3 hg
     exact ⟨c,_,hc⟩
    have K3H:Hid (zC base wb { x1 with c:=C } B1 w3):=K2H.out.old hw3
    have hF3:Hid (zs base w w3 (fun g=>bl<=g)):=(hv2H.out.2.trans (s2:=fun _=>False) ⟨by omega,fun g hg=> .inl (hw3 g hg),hO3⟩).mono fun g _ h=>h.elim id False.elim
    have hfresh:Hid (∀p∈B1.h,p.1.ownBlock=none\/p.1.ownBlock≠(Value.slice al i cl).ownBlock):=fun p hp=>by
     rw [hBH.out.1] at hp
     cases hq:p.1.ownBlock with
     | none=>exact .inl rfl
     | some g=>
       right
       intro e
       have h1:=hfhH.out p hp g hq
       have h2:=hvbl.out g e.symm
       omega
    have hz23:Hid (w.heap.size<=w3.heap.size/\w.heap.size<=xb):=⟨by omega,by omega⟩
    have hbb:base<=xb/\bl<=xb:=⟨by omega,by omega⟩
    clear K2H hv2H hw3 hfhH c9 hz2 hxbE hwb2 hadr hap hlnH hzi hwbi hxcb hxcH
    generalize hunkCells hv=xs at *
    go_wp2_with fail
    go_loopg [7] i (fun g t7 wr=> ∃k:Nat,g=i-k/\k<=i/\t7= .int .i64 k/\wr.ownsRow bl 61 5 (.slice al i cl) i (zP (jF (.int .i64 (C:Int))) k++xs.drop (k*5))/\Hid ((∀g,some g≠(Value.slice al i cl).ownBlock->wr.heap[g]? =w3.heap[g]?)/\zD w3 wr)/\wr.heap.size=xb+1)
    case atStart=>exact ⟨0,by omega,by omega,rfl,by simpa [zP] using hv3,⟨fun g _=>rfl,zD.refl _⟩,hz3⟩
    case round=>
     rename World=>wr
     obtain ⟨k,hgk,hkn,rfl,hrow,hoth,hzr⟩:=hrel
     have hG3:Hid (_=i-k):=hgk
     clear hgk
     have hxr:wr.heap[xb]? =some (.cells #[.int .i64 (-(C:Int)),.int .i64 0,.int .i64 (C:Int),.int .i64 0,.slice none 0 0] 61 (0,0)):=by
      rw [hoth.out.1 xb (fun e=>by have:=hgx.out xb e.symm;omega)];exact hxb
     by_cases hk2:k<i
     ·have hkI:(k:Int)<i:=by omega
      obtain ⟨g,rfl,hg,⟨cur,hcur,hsz⟩,hrow2⟩:=Fp hrow hxs.out hk2
      have c0:wr.cell? ⟨g,k*5,none⟩=some (cur[k*5]'(by omega)):=za hcur (by simp)
      have c1:wr.cell? ⟨g,k*5+1,none⟩=some (cur[k*5+1]'(by omega)):=za hcur (by simp)
      have c2:wr.cell? ⟨g,k*5+2,none⟩=some (cur[k*5+2]'(by omega)):=za hcur (by simp)
      have c3:wr.cell? ⟨g,k*5+3,none⟩=some (cur[k*5+3]'(by omega)):=za hcur (by simp)
      have c4:wr.cell? ⟨g,k*5+4,none⟩=some (cur[k*5+4]'hsz):=za hcur (by simp)
      have fz: ∀k,wr.frozen? ⟨g,k,none⟩=false:=fun k=>zi hcur
      have y0:wr.cell? ⟨xb,0,none⟩=some (.int .i64 (-(C:Int))):=za hxr rfl
      have y1:wr.cell? ⟨xb,1,none⟩=some (.int .i64 0):=za hxr rfl
      have y2:wr.cell? ⟨xb,2,none⟩=some (.int .i64 (C:Int)):=za hxr rfl
      have y3:wr.cell? ⟨xb,3,none⟩=some (.int .i64 0):=za hxr rfl
      have y4:wr.cell? ⟨xb,4,none⟩=some (.slice none 0 0):=za hxr rfl
      have hR:(∃j:Nat,i-(k+1)=i-j/\j<=i/\Value.int .i64 ((k:Int)+1)= .int .i64 j/\(((((wr.setCell ⟨g,k*5,none⟩ (.int .i64 (-(C:Int)))).setCell ⟨g,k*5+1,none⟩ (.int .i64 0)).setCell ⟨g,k*5+2,none⟩ (.int .i64 (C:Int))).setCell ⟨g,k*5+3,none⟩ (.int .i64 0)).setCell ⟨g,k*5+4,none⟩ (.slice none 0 0)).ownsRow bl 61 5 (.slice (some ⟨g,0,none⟩) i cl) i (zP (jF (.int .i64 (C:Int))) j++xs.drop (j*5))/\Hid ((∀g',some g'≠(Value.slice (some ⟨g,0,none⟩) i cl).ownBlock->(((((wr.setCell ⟨g,k*5,none⟩ (.int .i64 (-(C:Int)))).setCell ⟨g,k*5+1,none⟩ (.int .i64 0)).setCell ⟨g,k*5+2,none⟩ (.int .i64 (C:Int))).setCell ⟨g,k*5+3,none⟩ (.int .i64 0)).setCell ⟨g,k*5+4,none⟩ (.slice none 0 0)).heap[g']? =w3.heap[g']?)/\zD w3 (((((wr.setCell ⟨g,k*5,none⟩ (.int .i64 (-(C:Int)))).setCell ⟨g,k*5+1,none⟩ (.int .i64 0)).setCell ⟨g,k*5+2,none⟩ (.int .i64 (C:Int))).setCell ⟨g,k*5+3,none⟩ (.int .i64 0)).setCell ⟨g,k*5+4,none⟩ (.slice none 0 0)))/\(((((wr.setCell ⟨g,k*5,none⟩ (.int .i64 (-(C:Int)))).setCell ⟨g,k*5+1,none⟩ (.int .i64 0)).setCell ⟨g,k*5+2,none⟩ (.int .i64 (C:Int))).setCell ⟨g,k*5+3,none⟩ (.int .i64 0)).setCell ⟨g,k*5+4,none⟩ (.slice none 0 0)).heap.size=xb+1):=by
       refine ⟨k+1,rfl,by omega,by push_cast;rfl,hrow2,⟨fun g' hne=> ?_,hoth.out.2.trans ((zD.setCell _ _ _).trans ((zD.setCell _ _ _).trans ((zD.setCell _ _ _).trans ((zD.setCell _ _ _).trans (zD.setCell _ _ _)))))⟩,by simp;exact hzr⟩
       have hgg:g'≠g:=fun e=>hne (by rw [e];rfl)
       rw [zd _ _ _ _ _ hgg,zd _ _ _ _ _ hgg,zd _ _ _ _ _ hgg,zd _ _ _ _ _ hgg,zd _ _ _ _ _ hgg]
       exact hoth.out.1 g' hne
      have hRH:Hid _:=hR
      clear hR hrow2 hrow hoth hcur hxr
      obtain ⟨O,hO⟩: ∃O,k*5=O:=⟨_,rfl⟩
      simp only [hO] at c0 c1 c2 c3 c4 hRH
      go_wp2_with fail
      go_roundg (i-(k+1))
      ·exact hRH.out
      ·have:=hG3.out;omega
     ·obtain rfl:k=i:=by omega
      have hkI: ¬((k:Int)<k):=by omega
      have hrow3:wr.ownsRow bl 61 5 (.slice al k cl) k (zP (jF (.int .i64 (C:Int))) k):=by
       have h:=hrow
       rw [List.drop_of_length_le (by rw [hxs.out];exact Nat.le_refl _),List.append_nil] at h
       exact h
      have K3:zC base wb { x1 with c:=C } B1 wr:=zC.skip_h (vb:=(Value.slice al k cl).ownBlock) K3H.out (fun g hg _=>hv0.out g hg) (fun g hg hne=>hoth.out.1 g hne) (fun p hp=> .inl (hfresh.out p hp))
      have hFr:zs base w wr (fun g=>bl<=g):=by
       refine (hF3.out.trans (s2:=fun g=>some g=(Value.slice al k cl).ownBlock) ⟨by omega,fun g hg=> ?_,hoth.out.2⟩).mono fun g _ h=> ?_
       ·by_cases e:some g=(Value.slice al k cl).ownBlock
        ·exact .inr (.inl e)
        ·exact .inl (hoth.out.1 g e)
       ·rcases h with h | h
        ·exact h
        ·exact hvbl.out g h.symm
      have hKH:Hid (zC base wb { x1 with c:=C } B1 wr/\zs base w wr (fun g=>bl<=g)):=⟨K3,hFr⟩
      have hnx:Hid ((Value.slice al k cl).ownBlock≠some xb):=fun e=>by have:=hgx.out xb e;omega
      clear K3H K3 hFr hrow hoth hv3 hxb hF3 hv0 hgx hxs
      go_wp2_with fail
      go_loopg [4,8] 4 (fun g t4 t8 wk=> ∃(j:Nat) (al':Option Addr) (cl':Nat) (x':WV) (E:List (Value×Value)),g=4-j/\j<=4/\t8= .int .i64 j/\t4= .slice al' (k+j) cl'/\wk.ownsRow bl 61 5 (.slice al' (k+j) cl') (k+j) (zP (jF (.int .i64 (C:Int))) (k+j))/\zC base wb x' { B1 with h:=B1.h++E } wk/\E.length=j/\x'.c=C/\
       Hid ((∀p∈E,p.2=(.int .i64 (C:Int))/\ ∃al m cl,p.1= .slice al m cl/\m<=k+j/\ ∀a,al=some a->a=⟨a.block,0,none⟩)/\(∀p∈B1.h,p.1.ownBlock=none\/p.1.ownBlock≠(Value.slice al' (k+j) cl').ownBlock)/\(Value.slice al' (k+j) cl').ownBlock≠some xb/\zs base w wk (fun g=>bl<=g))/\wk.heap[xb]? =some (.cells #[.int .i64 (-(C:Int)),.int .i64 0,.int .i64 (C:Int),.int .i64 0,.slice none 0 0] 61 (0,0)))
      case atStart=>exact ⟨0,al,cl,{ x1 with c:=C },[],rfl,by omega,rfl,rfl,hrow3,by simpa using hKH.out.1,rfl,rfl,⟨by simp,hfresh.out,hnx.out,hKH.out.2⟩,hxr⟩
      case round=>
       rename World=>wk
       obtain ⟨j,al',cl',x',E,hgj,hj4,rfl,rfl,hrowk,Kk,hEl,hxc,hH,hxk⟩:=hrel
       have hG2:Hid (_=4-j):=hgj
       have hxbk:xb<wk.heap.size:=(Array.getElem?_eq_some_iff.1 hxk).1
       clear hgj hKH hnx hrow3 hxr hfresh
       by_cases hj2:j<4
       ·have hjI:(j:Int)<4:=by omega
        obtain ⟨N,hNe⟩: ∃N,(B1.h++E).length=N:=⟨_,rfl⟩
        have hNN:Hid ((B1.h++E).length=N):=hNe
        have hN:N<=700000000004:=by
         have h1:=hBH.out.1
         rw [<-hNe,List.length_append,hEl,h1]
         omega
        have hwbk:wb<wk.heap.size:=(Array.getElem?_eq_some_iff.1 Kk.blk).1
        have hzk:=hH.out.2.2.2.1
        have hbk:base<=wk.heap.size:=Nat.le_trans hbase hzk
        have hblk:bl<=wk.heap.size:=Nat.le_trans hbl hzk
        have c2:wk.cell? ⟨wb,0,none⟩=some x'.h:=za Kk.blk rfl
        have hor:wk.ownsRow base 30 1 x'.h N ((B1.h++E).map (·.1)):=by rw [<-hNe];exact Kk.h.row
        have hmar:wk.ownsRow base 3 1 x'.hm N ((B1.h++E).map (·.2)):=by rw [<-hNe];exact Kk.h.marks
        have hon1: ∀u∈ [Value.slice al' (k+j) cl'],u.oneCell'=true:=by intro u hu;simp at hu;subst hu;rfl
        have hon2: ∀u∈ [Value.int .i64 (C:Int)],u.oneCell'=true:=by intro u hu;simp at hu;subst hu;rfl
        have hon3: ∀u∈ [Value.int .i64 (-(C:Int)),.int .i64 0,.int .i64 (C:Int),.int .i64 0,.slice none 0 0],u.oneCell'=true:=by intro u hu;simp at hu;rcases hu with rfl | rfl | rfl | rfl | rfl<;>rfl
        have hm2:(N+1)*24<=140737488355328:=by clear hxc;omega
        have hm3:(N+1)*8<=140737488355328:=by clear hxc;omega
        have hm6:k+j+1<=1990000:=Nat.le_trans (Nat.add_le_add_right (Nat.add_le_add hn (Nat.le_of_lt hj2)) 1) (by decide)
        have hm5:(k+j+1)*56<=140737488355328:=Nat.le_trans (Nat.mul_le_mul_right 56 hm6) (by decide)
        have hm1:N+1<=maxLen:=Nat.le_trans (Nat.succ_le_succ hN) (by decide)
        have hm4:k+j+1<=maxLen:=Nat.le_trans hm6 (by decide)
        have hnr:Hid (x'.h.ownBlock≠some wb/\x'.hm.ownBlock≠some wb/\x'.h.ownBlock≠some xb/\x'.hm.ownBlock≠some xb/\ ∀g,x'.hm.ownBlock=some g->g≠wb/\some g≠x'.h.ownBlock):=by
         refine ⟨fun e=> ?_,fun e=> ?_,fun e=> ?_,fun e=> ?_,fun g e=>⟨?_,fun e2=> ?_⟩⟩
         ·obtain ⟨c,hc⟩:=ze Kk.h.row e;exact zq hc Kk.blk (by decide) rfl
         ·obtain ⟨c,hc⟩:=ze Kk.h.marks e;exact zq hc Kk.blk (by decide) rfl
         ·obtain ⟨c,hc⟩:=ze Kk.h.row e;exact zq hc hxk (by decide) rfl
         ·obtain ⟨c,hc⟩:=ze Kk.h.marks e;exact zq hc hxk (by decide) rfl
         ·obtain ⟨c,hc⟩:=ze Kk.h.marks e;exact zq hc Kk.blk (by decide)
         ·obtain ⟨c,hc⟩:=ze Kk.h.marks e;obtain ⟨c2,hc2⟩:=ze Kk.h.row e2.symm;exact zq hc hc2 (by decide) rfl
        have hA:Hid (∀(ob:Obj) (wA:World),(wk.alloc ob).grownBy wA x'.h.ownBlock->wA.heap[wb]? =some x'.obj/\wA.ownsRow base 3 1 x'.hm N ((B1.h++E).map (·.2))/\wk.heap.size<=wA.heap.size):=by
         intro ob wA g1
         have k1: ∀g,g<wk.heap.size->some g≠x'.h.ownBlock->wA.heap[g]? =wk.heap[g]? :=fun g hg hne=>by
          rw [g1.block g (by simp;omega) hne];exact Below.heap_alloc wk ob g hg
         have z1:=g1.size
         simp at z1
         exact ⟨(k1 wb hwbk (fun e=>hnr.out.1 e.symm)).trans Kk.blk,zu hmar fun g hg=>k1 g (Kk.h.marks.lt g hg).2 (hnr.out.2.2.2.2 g hg).2,by omega⟩
        have hM:Hid (qx 61 5 (jF (.int .i64 (C:Int))) wk (.slice al' (k+j) cl')):=qx.of_owns (pat:=jF (.int .i64 (C:Int))) hrowk (Nat.le_refl _) (Nat.le_trans (Nat.le_succ _) (Nat.le_trans hm6 (by decide))) rfl (qb hrowk)
        have hKH:Hid (zC base wb x' { B1 with h:=B1.h++E } wk):=Kk
        have hrH:Hid (wk.ownsRow bl 61 5 (.slice al' (k+j) cl') (k+j) (zP (jF (.int .i64 (C:Int))) (k+j))):=hrowk
        have haddr:Hid (∀a,al'=some a->a=⟨a.block,0,none⟩):=qb hrowk
        have hfzk: ∀k,wk.frozen? ⟨wb,k,none⟩=false:=fun k=>zi Kk.blk
        have hxkH:Hid (wk.heap[xb]? =some (.cells #[.int .i64 (-(C:Int)),.int .i64 0,.int .i64 (C:Int),.int .i64 0,.slice none 0 0] 61 (0,0))):=hxk
        have hxcH:Hid (x'.c=C):=hxc
        have hElH:Hid (E.length=j):=hEl
        clear Kk hrowk hxk hNe hxc hEl hN
        go_wp2_with (at_builtin;refine zm rfl (.tmp 60) (.tmp 62) 50 rfl base 30 i0 _ 1 24 underlying50 hi ix0 ix1 ix2 rfl (by decide) x'.h N ((B1.h++E).map (·.1)) rfl (hor.alloc _) ⟨wk.heap.size,0,none⟩ 1 1 [.slice al' (k+j) cl'] rfl rfl (zt wk _ _) hon1 hm1 hm2 (by simp;omega) ?_;intro v1 wA o1 g1 n1;obtain ⟨a1,c1,rfl⟩:=zn o1;obtain ⟨bA,mA,zA⟩:=hA.out _ wA g1;have cA:wA.cell? ⟨wb,0,none⟩=some x'.h:=za bA rfl;have fA: ∀k,wA.frozen? ⟨wb,k,none⟩=false:=fun k=>zi bA;have o1H:Hid _:=o1;have g1H:Hid _:=g1;clear o1 g1 n1)
        obtain ⟨U,hUe⟩: ∃U,wA.setCell ⟨wb,0,none⟩ (.slice a1 (N+1) c1)=U:=⟨_,rfl⟩
        have bU:U.heap[wb]? =some ({ x' with h:= .slice a1 (N+1) c1 } :WV).obj:=by rw [<-hUe,zb _ _ _ _ _ _ _ bA];rfl
        have mU:U.ownsRow base 3 1 x'.hm N ((B1.h++E).map (·.2)):=by rw [<-hUe];exact zu mA fun g hg=>zd _ _ _ _ _ (hnr.out.2.2.2.2 g hg).1
        have zU:wk.heap.size<=U.heap.size:=by rw [<-hUe];simpa using zA
        have d1:U.cell? ⟨wb,1,none⟩=some x'.hm:=za bU rfl
        have d8:U.cell? ⟨wb,8,none⟩=some (.int .i64 (C:Int)):=by rw [<-hxcH.out];exact za bU rfl
        have dfz: ∀k,U.frozen? ⟨wb,k,none⟩=false:=fun k=>zi bU
        have hwbU:wb<U.heap.size:=Nat.lt_of_lt_of_le hwbk zU
        have hbs: ∀ob,base<=((U.alloc ob).drew).heap.size:=by intro ob;simp;exact Nat.le_trans (Nat.le_trans hbk zU) (Nat.le_succ _)
        have mUd:((U.alloc (.cells #[.int .i64 (C:Int)] 3)).drew).ownsRow base 3 1 x'.hm N ((B1.h++E).map (·.2)):=mU.alloc _
        have hcn: ∀(j:Nat) (u:Value),[Value.int .i64 (C:Int)][j]? =some u->((U.alloc (.cells #[.int .i64 (C:Int)] 3)).drew).cell? ((⟨U.heap.size,0,none⟩:Addr).add j)=some u:=zt U [.int .i64 (C:Int)] 3
        have hY:Hid (∀(ob:Obj) (w3:World),((U.alloc ob).drew).grownBy w3 x'.hm.ownBlock->w3.heap[wb]? =U.heap[wb]?):=by
         intro ob w3 g2
         rw [g2.block wb (by simp;exact Nat.lt_of_lt_of_le hwbU (Nat.le_succ _)) (fun e=>hnr.out.2.1 e.symm)]
         exact Below.heap_alloc U ob wb hwbU
        have hpush:Hid (∀(ob:Obj) (v2:Value) (w3:World),((U.alloc ob).drew).grownBy w3 x'.hm.ownBlock->w3.ownsRow base 3 1 v2 (N+1) ((B1.h++E).map (·.2)++ [(.int .i64 (C:Int))])->(v2.ownBlock=x'.hm.ownBlock\/ ∀g,v2.ownBlock=some g->((U.alloc ob).drew).heap.size<=g)->
          ∃x2:WV,zC base wb x2 { B1 with h:=B1.h++(E++ [(.slice al' (k+j) cl',(.int .i64 (C:Int)))]) } (w3.setCell ⟨wb,1,none⟩ v2)/\x2.c=x'.c/\zs base wk (w3.setCell ⟨wb,1,none⟩ v2) (fun _=>False)):=by
         intro ob v2 w3 g2 o2 n2
         obtain ⟨k1,k2⟩:=hKH.out.push_h (m:=(.int .i64 (C:Int))) (v1:= .slice a1 (N+1) c1) (v2:=v2) (w3:=w3) g1H.out (by show wA.ownsRow base 30 1 _ ((B1.h++E).length+1) _;rw [hNN.out];exact o1H.out) (by rw [hUe];exact ⟨g2.os,g2.tape,g2.output,g2.size,g2.block⟩) (by show w3.ownsRow base 3 1 _ ((B1.h++E).length+1) _;rw [hNN.out];exact o2) (n2.imp id fun h g e=>by have h1:=h g e;simp at h1;omega) hM.out ⟨fun _=>⟨C,by omega,rfl⟩,fun h=>absurd h (by decide)⟩
         refine ⟨{ x' with h:= .slice a1 (N+1) c1,hm:=v2 },?_,rfl,k2⟩
         rw [<-List.append_assoc]
         exact k1
        clear bA mA zA cA fA
        rw [hUe]
        clear hUe o1H g1H bU hA hor c2 hfzk hmar
        go_cut [] (fun wx=> ∃x2:WV,zC base wb x2 { B1 with h:=B1.h++(E++ [(.slice al' (k+j) cl',(.int .i64 (C:Int)))]) } wx/\x2.c=x'.c/\zs base wk wx (fun _=>False))
        case first=>
         go_region_law (refine yo rfl (.tmp 70) (.tmp 75) 25 rfl base 3 j0 _ 1 8 underlying25 ji jx0 jx1 jx2 rfl (by decide) x'.hm N ((B1.h++E).map (·.2)) (by simp [Act.eval]) mUd ⟨U.heap.size,0,none⟩ 1 1 [.int .i64 (C:Int)] (by simp [Act.eval]) rfl hcn hon2 hm1 hm3 (hbs _) ?_;intro v2 w3 o2 g2 n2;obtain ⟨a2,c2,rfl⟩:=zn o2;have b3:=hY.out _ w3 g2;have e3:=(World.cell?_of_block (a:=⟨wb,1,none⟩) b3).trans d1;have f3:=fun k=>(World.frozen?_of_block (a:=⟨wb,k,none⟩) b3).trans (dfz k))
         all_goals
          have hR:=hpush.out _ _ w3 g2 o2 n2
          have hRH:Hid _:=hR
          clear hR hpush hY g2 o2 n2
          go_wp2_with fail
          go_meet
          case rel=>exact hRH.out
        case rest=>
         obtain ⟨x2,K4,hx2c,F4⟩:=hcut
         obtain ⟨W4,rfl⟩: ∃W4,W4=wc:=⟨_,rfl⟩
         have hx4:W4.heap[xb]? =some (.cells #[.int .i64 (-(C:Int)),.int .i64 0,.int .i64 (C:Int),.int .i64 0,.slice none 0 0] 61 (0,0)):=(F4.at hxkH.out (by decide) (fun h=>h)).trans hxkH.out
         have row4:W4.ownsRow bl 61 5 (.slice al' (k+j) cl') (k+j) (zP (jF (.int .i64 (C:Int))) (k+j)):=zu hrH.out fun g hg=>by
          obtain ⟨c,hc⟩:=ze hrH.out hg
          exact F4.at hc (by decide) (fun h=>h)
         have hbl4:bl<=W4.heap.size:=Nat.le_trans hblk F4.1
         have e0:W4.cell? ⟨xb,0,none⟩=some (.int .i64 (-(C:Int))):=za hx4 rfl
         have e1:W4.cell? ⟨xb,1,none⟩=some (.int .i64 0):=za hx4 rfl
         have e2:W4.cell? ⟨xb,2,none⟩=some (.int .i64 (C:Int)):=za hx4 rfl
         have e3:W4.cell? ⟨xb,3,none⟩=some (.int .i64 0):=za hx4 rfl
         have e4:W4.cell? ⟨xb,4,none⟩=some (.slice none 0 0):=za hx4 rfl
         have hFin:Hid (∀(ob:Obj) (v5:Value) (w5:World),w5.ownsRow bl 61 5 v5 (k+j+1) (zP (jF (.int .i64 (C:Int))) (k+j)++ [.int .i64 (-(C:Int)),.int .i64 0,.int .i64 (C:Int),.int .i64 0,.slice none 0 0])->((v5.ownBlock=(Value.slice al' (k+j) cl').ownBlock/\(W4.alloc ob).grownBy w5 (Value.slice al' (k+j) cl').ownBlock)\/((∀g,v5.ownBlock=some g->(W4.alloc ob).heap.size<=g)/\(W4.alloc ob).grownBy w5 none))->
          ∃(j':Nat) (al5:Option Addr) (cl5:Nat) (x5:WV) (E5:List (Value×Value)),4-(j+1)=4-j'/\j'<=4/\Value.int .i64 ((j:Int)+1)= .int .i64 j'/\v5= .slice al5 (k+j') cl5/\w5.ownsRow bl 61 5 (.slice al5 (k+j') cl5) (k+j') (zP (jF (.int .i64 (C:Int))) (k+j'))/\zC base wb x5 { B1 with h:=B1.h++E5 } w5/\E5.length=j'/\x5.c=C/\
          Hid ((∀p∈E5,p.2=(.int .i64 (C:Int))/\ ∃al m cl,p.1= .slice al m cl/\m<=k+j'/\ ∀a,al=some a->a=⟨a.block,0,none⟩)/\(∀p∈B1.h,p.1.ownBlock=none\/p.1.ownBlock≠(Value.slice al5 (k+j') cl5).ownBlock)/\(Value.slice al5 (k+j') cl5).ownBlock≠some xb/\zs base w w5 (fun g=>bl<=g))/\w5.heap[xb]? =some (.cells #[.int .i64 (-(C:Int)),.int .i64 0,.int .i64 (C:Int),.int .i64 0,.slice none 0 0] 61 (0,0))):=by
          intro ob v5 w5 row5 h3
          obtain ⟨q2,q3,q5,q6⟩:=hH.out
          have hE2: ∀p∈E++ [(Value.slice al' (k+j) cl',Value.int .i64 (C:Int))],p.2=(.int .i64 (C:Int))/\ ∃al m cl,p.1= .slice al m cl/\m<=k+j/\ ∀a,al=some a->a=⟨a.block,0,none⟩:=by
           intro p hp
           rcases List.mem_append.1 hp with hp | hp
           ·exact q2 p hp
           ·rw [List.mem_singleton] at hp
            subst hp
            exact ⟨rfl,al',k+j,cl',rfl,Nat.le_refl _,haddr.out⟩
          obtain ⟨s1,s2,s3,s4,s5⟩:=Gm (ob:=ob) (c:=(C:Int)) K4 (Nat.le_of_succ_le hm6) row4 hE2 q3 row5 h3
          obtain ⟨al5,cl5,rfl⟩:=zn row5
          have hFz:=F4.1
          have hold:(Value.slice al5 (k+j+1) cl5).ownBlock=(Value.slice al' (k+j) cl').ownBlock\/ ∀g,(Value.slice al5 (k+j+1) cl5).ownBlock=some g->W4.heap.size<=g:=h3.imp (fun h=>h.1) (fun h g e=>by have:=h.1 g e;simp at this;omega)
          refine ⟨j+1,al5,cl5,x2,_,rfl,hj2,by push_cast;rfl,rfl,s3,s1,by rw [List.length_append,hElH.out];rfl,hx2c.trans hxcH.out,⟨?_,s4,?_,?_⟩,?_⟩
          ·intro p hp
           obtain ⟨r1,al,m,cl,r2,r3,r4⟩:=hE2 p hp
           exact ⟨r1,al,m,cl,r2,Nat.le_succ_of_le r3,r4⟩
          ·rcases hold with h | h
           ·have h':(Value.slice al5 (k+(j+1)) cl5).ownBlock=(Value.slice al' (k+j) cl').ownBlock:=h
            rw [h'];exact q5
           ·intro e
            have:=h xb e
            omega
          ·have hF:=(q6.trans F4).trans s2
           refine hF.mono fun g hg h=> ?_
           rcases h with (h | h) | h
           ·exact h
           ·exact h.elim
           ·exact (row4.lt g h.symm).1
          ·rw [s5 xb (by omega) (fun e=>q5 e.symm)]
           exact hx4
         clear hH hKH hM K4 F4 hnr hrH
         go_wp2_with (at_builtin;refine xr rfl (.tmp 79) (.tmp 81) 30 rfl bl 61 k0 _ 5 56 underlying30 ki kx0 kx1 kx2 rfl (by decide) (.slice al' (k+j) cl') (k+j) (zP (jF (.int .i64 (C:Int))) (k+j)) rfl (row4.alloc _) ⟨W4.heap.size,0,none⟩ 1 1 [.int .i64 (-(C:Int)),.int .i64 0,.int .i64 (C:Int),.int .i64 0,.slice none 0 0] rfl rfl (zt W4 _ _) hon3 hm4 hm5 (by simp;omega) ?_;intro v5 w5 row5 h3;have hR:=hFin.out _ v5 w5 row5 h3;have hRH:Hid _:=hR;clear hR row5 h3)
         go_roundg (4-(j+1))
         ·exact hRH.out
         ·have:=hG2.out;omega
       ·obtain rfl:j=4:=by omega
        have hR: ∃(x':WV) (B':Bk),zC base wb x' B' wk/\B'.s=B.s/\B'.r=B.r/\B'.h.length=B.h.length+4/\B'.l.length=B.l.length+4*hv.length/\x'.c=x.c+hv.length+1/\zs base w wk (fun g=>bl<=g):=by
         obtain ⟨r1,r2,r3,r4⟩:=hBH.out
         exact ⟨x',{ B1 with h:=B1.h++E },Kk,r2,r3,by show (B1.h++E).length=_;rw [List.length_append,hEl,r1],by rw [hnE.out];exact r4,by rw [hxc,hnE.out];exact hCH.out,hH.out.2.2.2⟩
        have hRH:Hid _:=hR
        clear hR Kk hH hrowk hxk
        go_wp2_with fail
        go_end0
        exact ⟨rfl,hRH.out⟩
theorem ER {base wb bl cl:Nat} {al:Option Addr} {x:WV} {B:Bk} {w:World} {hv:List HV} (K:zC base wb x B w) (hso:HSo bl (.slice al hv.length cl) hv w) (hn:hv.length<=400000) (hln: ∀p∈hv,p.1.lines.length<=1900000)
 (hfl: ∀p∈B.l,∀g,p.1.ownBlock=some g->g<bl) (hfh: ∀p∈B.h,∀g,p.1.ownBlock=some g->g<bl) (hbase:base<=w.heap.size) (hbl:bl<=w.heap.size) (hc:x.c<=7000000000000) (hll:B.l.length<=700000000000) (hlh:B.h.length<=700000000000):
 Calls prog 82 #[.pointer (some ⟨wb,0,none⟩),.agg #[.slice al hv.length cl]] w fun e w'=>e= .returned (.tuple #[])/\ ∃(x':WV) (B':Bk),zC base wb x' B' w'/\B'.s=B.s/\B'.r=B.r/\B'.h.length=B.h.length+4/\B'.l.length=B.l.length+4*hv.length/\x'.c=x.c+hv.length+1/\zs base w w' (fun g=>bl<=g):=by
 refine JM K hso hn hln (fun p hp q hq=> ?_) hfh hbase hbl hc hll hlh
 cases hv':p.1.ownBlock with
 | none=>exact .inl rfl
 | some g=>
   right
   intro e
   have h1:=hfl p hp g hv'
   rcases hso with ⟨rfl,_⟩ | ⟨g',cap,_,_,hs⟩
   ·simp at hq
   ·have h2:=((hs.lines q hq).lt g e.symm).1
    omega
end Go.Proofs.YtcclgodahlinbaaGreatDoor
