import Derived.Test.YtcclgodahlinbaaGreatDoorA06
import Derived.Deep.Cut
import Derived.Deep.CutRange
namespace Go.Proofs.YtcclgodahlinbaaGreatDoor
set_option maxHeartbeats 16000000
open Tryz Go.RowKit Go
set_option maxRecDepth 100000
theorem qt {α :Type} (l:List α) (x: α):(l++ [x])[l.length]'(by simp)=x:=by simp
theorem yK {l:List Value} {i:Nat} {v:Value} (h:l[i]? =some v):l.set i v=l:=by
 apply List.ext_getElem?
 intro j
 rw [List.getElem?_set]
 split
 ·rename_i e;subst e
  split
  ·exact h.symm
  ·rename_i hh;rw [List.getElem?_eq_none (by omega)] at h;cases h
 ·rfl
theorem FA {l:List Value} {O:Nat} {f a t b c:Value} (h0:l[O]? =some f) (h2:l[O+2]? =some t):
 ((((l.set O f).set (O+1) a).set (O+2) t).set (O+3) b).set (O+4) c=((l.set (O+4) c).set (O+1) a).set (O+3) b:=by
 rw [yK h0]
 have e:((l.set (O+1) a)).set (O+2) t=l.set (O+1) a:=yK (by rw [List.getElem?_set];simp [h2])
 rw [e,List.set_comm b c (by omega),List.set_comm a c (by omega)]
theorem TC {w:World} {g o1 o2 o3:Nat} {v1 v2 v3:Value} {cur:Array Value} {t:TypeId} (h:w.heap[g]? =some (.cells cur t (0,0))) (n:Nat):
 ∃cur',(((w.setCell ⟨g,o1,none⟩ v1).setCell ⟨g,o2,none⟩ v2).setCell ⟨g,o3,none⟩ v3).heap[g]? =some (.cells cur' t (0,0))/\cur'.size=cur.size/\cur'.toList.take n=(((cur.toList.take n).set o1 v1).set o2 v2).set o3 v3:=
 ⟨_,zb _ _ _ _ _ _ _ (zb _ _ _ _ _ _ _ (zb _ _ _ _ _ _ _ h)),by simp,by simp [List.take_set]⟩
theorem Fb {w:World} {g o1 o2:Nat} {v1 v2:Value} {cur:Array Value} {t:TypeId} (h:w.heap[g]? =some (.cells cur t (0,0))) (n:Nat):
 ∃cur',((w.setCell ⟨g,o1,none⟩ v1).setCell ⟨g,o2,none⟩ v2).heap[g]? =some (.cells cur' t (0,0))/\cur'.size=cur.size/\cur'.toList.take n=((cur.toList.take n).set o1 v1).set o2 v2:=
 ⟨_,zb _ _ _ _ _ _ _ (zb _ _ _ _ _ _ _ h),by simp,by simp [List.take_set]⟩
theorem qg {base g n cap:Nat} {init:List HV} {h:zx} {vl vl':Value} {s:zk} {w w2 w3:World} (hs:HSv base g n cap (init++ [(h,vl)]) w)
 (hown:w2.ownsRow base 93 2 vl' (h.lines.length+1) (zg h.lines++ [.int .u8 (s.kind:Nat),.string s.text]))
 (hold: ∀k,k<w.heap.size->some k≠vl.ownBlock->w2.heap[k]? =w.heap[k]?)
 (hnew:vl'.ownBlock=vl.ownBlock\/ ∀k,vl'.ownBlock=some k->w.heap.size<=k)
 (hg:w2.grownBy w3 (some g))
 (hw3: ∀cur,w2.heap[g]? =some (.cells cur 61 (0,0))->cur.toList.take (n*5)=hunkCells (init++ [(h,vl)])-> ∃cur',w3.heap[g]? =some (.cells cur' 61 (0,0))/\cur'.size=cur.size/\
  cur'.toList.take (n*5)=((((cur.toList.take (n*5)).set (init.length*5) (.int .i64 (h.fr:Nat))).set (init.length*5+1) (.int .i64 ((xp h s).fc:Nat))).set (init.length*5+2) (.int .i64 (h.tr:Nat)) |>.set (init.length*5+3) (.int .i64 ((xp h s).tc:Nat))).set (init.length*5+4) vl'):
 HSv base g n cap (init++ [(xp h s,vl')]) w3:=by
 have hn:=hs.len
 have hmem: ∀p∈init,w.ownsRow base 93 2 p.2 p.1.lines.length (zg p.1.lines):=fun p hp=>hs.lines p (by simp [hp])
 have hvl:=hs.lines (h,vl) (by simp)
 have hap: ∀p∈init,p.2.ownBlock=none\/p.2.ownBlock≠vl.ownBlock:=by
  have:=hs.apart
  rw [List.pairwise_append] at this
  exact fun p hp=>this.2.2 p hp (h,vl) (by simp)
 have hgl: ∀ {v:Value} {m:Nat} {xs:List Value} {w':World},w'.ownsRow base 93 2 v m xs->(∃cur,w'.heap[g]? =some (.cells cur 61 (0,0)))->v.ownBlock≠some g:=by
  intro v m xs w' ho ⟨cur,hc⟩
  exact zT ho hc (by decide)
 obtain ⟨cur,hcur⟩:=ze hs.row (g:=g) rfl
 have hgw:g<w.heap.size:=(Array.getElem?_eq_some_iff.1 hcur).1
 have hg2:w2.heap[g]? =w.heap[g]? :=hold g hgw (fun e=>hgl hvl ⟨cur,hcur⟩ e.symm)
 have hrow2:w2.ownsRow base 61 5 (.slice (some ⟨g,0,none⟩) n cap) n (hunkCells (init++ [(h,vl)])):=by
  obtain ⟨a,b⟩:=hs.row
  refine ⟨a,?_⟩
  rcases b with b | ⟨g',cap',cur',e,hb,hg',r⟩
  ·exact .inl b
  ·cases e
   exact .inr ⟨g,cap,cur',rfl,hb,hg2.trans hg',r⟩
 refine ⟨by simp at hn ⊢;exact hn,?_,?_,?_⟩
 ·have:=jd hrow2 hn (i:=init.length) (by simp) (xp h s,vl') hw3
  simpa using this
 ·intro p hp
  rw [List.mem_append] at hp
  rcases hp with hp | hp
  ·have ho:=hmem p hp
   have ho2:w2.ownsRow base 93 2 p.2 p.1.lines.length (zg p.1.lines):=by
    obtain ⟨a,b⟩:=ho
    refine ⟨a,?_⟩
    rcases b with b | ⟨g',cap',cur',e,hb,hg',r⟩
    ·exact .inl b
    ·refine .inr ⟨g',cap',cur',e,hb,(hold g' (Array.getElem?_eq_some_iff.1 hg').1 ?_).trans hg',r⟩
     intro e2
     rcases hap p hp with h3 | h3
     ·rw [e] at h3;cases h3
     ·exact h3 (by rw [<-e2,e];rfl)
   exact ho2.kept hg (.inr (hgl ho2 ⟨cur,hg2.trans hcur⟩))
  ·simp at hp
   subst hp
   have:=hown.kept hg (.inr (hgl hown ⟨cur,hg2.trans hcur⟩))
   show World.ownsRow _ _ _ _ _ (h.lines++ [s]).length (zg (h.lines++ [s]))
   rw [zB,List.length_append]
   exact this
 ·rw [List.pairwise_append]
  have:=hs.apart
  rw [List.pairwise_append] at this
  refine ⟨this.1,by simp,fun p hp q hq=> ?_⟩
  simp at hq
  subst hq
  rcases hap p hp with h3 | h3
  ·exact .inl h3
  ·rcases hnew with h4 | h4
   ·right;show p.2.ownBlock≠vl'.ownBlock;rw [h4];exact h3
   ·cases hb:p.2.ownBlock with
    | none=>exact .inl rfl
    | some k=>
      right
      intro e
      have h5:=h4 k e.symm
      have h6:=((hmem p hp).lt k hb).2
      omega
theorem UO {base g n cap:Nat} {init:List HV} {h:zx} {vl:Value} {w:World} (s:zk) (hs:HSv base g n cap (init++ [(h,vl)]) w) (hbase:base<=w.heap.size) (hgb:base<=g)
 (hk:s.kind=32\/s.kind=45\/s.kind=43) (hfc:h.fc<=1000) (htc:h.tc<=1000) (hll:h.lines.length<=1000) (hT:s.text.size<=281474976710656):
 Calls prog 57 #[.pointer (some ⟨g,init.length*5,none⟩),.agg #[.int .u8 (s.kind:Nat),.string s.text]] w fun e w'=>
  e= .returned (.tuple #[])/\ ∃vl',HSv base g n cap (init++ [(xp h s,vl')]) w'/\Below base w w'/\ ∀k,k<w.heap.size->k≠g->some k≠vl.ownBlock->w'.heap[k]? =w.heap[k]? :=by
 obtain ⟨i0,hi,hz0,hz1,hz2⟩:=info_parts yJ
 have hvl:=hs.lines (h,vl) (by simp)
 obtain ⟨cur,hcur⟩:=ze hs.row (g:=g) rfl
 have hgw:g<w.heap.size:=(Array.getElem?_eq_some_iff.1 hcur).1
 have hge:vl.ownBlock≠some g:=zT hvl hcur (by decide)
 have hcells:=xN hs.row (i:=init.length) (by simp)
 simp only [qt] at hcells
 obtain ⟨c0,c1,c2,c3,c4⟩:=hcells
 have hfz: ∀k,w.frozen? ⟨g,k,none⟩=false:=fun k=>zi hcur
 generalize hO:init.length*5=O at c0 c1 c2 c3 c4 ⊢
 go_enter func57,ntmps57
 go_wp2_with fail
 have hB0:=heap_alloc_new w (.cells #[.int .u8 (s.kind:Int),.string s.text] 120)
 have hO0:=fun k (hk:k<w.heap.size)=>Below.heap_alloc w (.cells #[.int .u8 (s.kind:Int),.string s.text] 120) k hk
 have hZ0:(w.alloc (.cells #[.int .u8 (s.kind:Int),.string s.text] 120)).heap.size=w.heap.size+1:=by simp
 have hbel0:Below base w (w.alloc (.cells #[.int .u8 (s.kind:Int),.string s.text] 120)):=(Below.refl _ _).alloc hbase _
 have hvl0:=hvl.alloc (.cells #[.int .u8 (s.kind:Int),.string s.text] 120)
 generalize w.alloc (.cells #[.int .u8 (s.kind:Int),.string s.text] 120)=W0 at hB0 hO0 hZ0 hbel0 hvl0 ⊢
 have hZ0':Hid (W0.heap.size=w.heap.size+1):=hZ0
 have hB0':Hid (W0.heap[w.heap.size]? =some (.cells #[.int .u8 (s.kind:Int),.string s.text] 120 (0,0))):=hB0
 have hO0':Hid (∀k,k<w.heap.size->W0.heap[k]? =w.heap[k]?):=hO0
 have b0:W0.cell? ⟨w.heap.size,0,none⟩=some (.int .u8 (s.kind:Int)):=za hB0 rfl
 have b1:W0.cell? ⟨w.heap.size,1,none⟩=some (.string s.text):=za hB0 rfl
 have d4:W0.cell? ⟨g,O+4,none⟩=some vl:=by rw [<-c4];exact World.cell?_of_block (hO0 g hgw)
 have hbk: ∀k,vl.ownBlock=some k->k<w.heap.size:=fun k e=>(hvl.lt k e).2
 have hX:Hid (∀w1,Below W0.heap.size W0.drew w1->w1.ownsRow base 93 2 vl h.lines.length (zg h.lines)/\base<=w1.heap.size/\w1.cell? ⟨g,O+4,none⟩=some vl/\w1.cell? ⟨w.heap.size,0,none⟩=some (.int .u8 (s.kind:Int))/\g<w1.heap.size/\w.heap.size<w1.heap.size):=by
  intro w1 hb
  refine ⟨zR (w:=W0.drew) hvl0 hb (fun k e=>by have:=hbk k e;omega),by have:=hb.size;have:=hZ0;simp at *;omega,?_,?_,by have:=hb.size;have:=hZ0;simp at *;omega,by have:=hb.size;have:=hZ0;simp at *;omega⟩
  ·exact (hb.cell (p:=⟨g,O+4,none⟩) (by show g<_;omega)).trans d4
  ·exact (hb.cell (p:=⟨w.heap.size,0,none⟩) (by show w.heap.size<_;omega)).trans b0
 have hY:Hid (∀w1 ob w2,Below W0.heap.size W0.drew w1->(w1.alloc ob).grownBy w2 vl.ownBlock->w2.heap[g]? =w.heap[g]? /\w2.heap[w.heap.size]? =some (.cells #[.int .u8 (s.kind:Int),.string s.text] 120 (0,0))/\(∀k,k<w.heap.size->some k≠vl.ownBlock->w2.heap[k]? =w.heap[k]?)/\Below base w w2):=by
  intro w1 ob w2 hb hg
  have hz1:=hb.size
  have hk1: ∀k,k<=w.heap.size->some k≠vl.ownBlock->w2.heap[k]? =W0.heap[k]? :=by
   intro k hk hne
   rw [hg.block k (by simp at *;omega) hne,Below.heap_alloc w1 ob k (by simp at *;omega)]
   exact hb.block k (by omega)
  refine ⟨(hk1 g (by omega) (fun e=>hge e.symm)).trans (hO0 g hgw),(hk1 w.heap.size (by omega) (fun e=>by have:=hbk _ e.symm;omega)).trans hB0,fun k hk hne=>(hk1 k (by omega) hne).trans (hO0 k hk),?_⟩
  exact ((hbel0.drew.trans (hb.mono (by omega))).alloc (by simp at *;omega) ob).grown hg (by simp at *;omega) (fun k e=>(hvl.lt k e).1)
 have hone: ∀u∈ [Value.int .u8 (s.kind:Int),Value.string s.text],u.oneCell'=true:=by intro u hu;simp at hu;rcases hu with rfl | rfl<;>rfl
 have hm1:h.lines.length+1<=maxLen:=by unfold maxLen;omega
 have hm2:(h.lines.length+1)*24<=140737488355328:=by omega
 have hbs: ∀(w1:World) ob,base<=w1.heap.size->base<=(w1.alloc ob).heap.size:=by intro w1 ob hh;simp;omega
 clear hB0 hO0 hZ0 hbel0 hvl0
 go_cut [] from 4 (fun wc=> ∃g' cap' w2,w2.ownsRow base 93 2 (.slice (some ⟨g',0,none⟩) (h.lines.length+1) cap') (h.lines.length+1) (zg h.lines++ [.int .u8 (s.kind:Int),.string s.text])/\
   w2.heap[g]? =w.heap[g]? /\w2.heap[w.heap.size]? =some (.cells #[.int .u8 (s.kind:Int),.string s.text] 120 (0,0))/\(∀k,k<w.heap.size->some k≠vl.ownBlock->w2.heap[k]? =w.heap[k]?)/\Below base w w2/\
   ((Value.slice (some ⟨g',0,none⟩) (h.lines.length+1) cap').ownBlock=vl.ownBlock\/ ∀k,(Value.slice (some ⟨g',0,none⟩) (h.lines.length+1) cap').ownBlock=some k->w.heap.size<=k)/\wc=w2.setCell ⟨g,O+4,none⟩ (.slice (some ⟨g',0,none⟩) (h.lines.length+1) cap'))
 case first=>
  go_region_law (first | (refine Km rfl 79 _ _ rfl #[.string s.text] (by simp [Act.eval]) (Fw _ _) (fun v w'=>v= .string s.text/\Below W0.heap.size W0.drew w') ((Xo s.text W0.drew hT).mono (fun e w' h=>⟨_,h.1,rfl,h.2⟩)) ?_;rintro v w1 ⟨rfl,hb1⟩;obtain ⟨hl1,hz1',d41,b01,hgw1,hbw1⟩:=hX.out w1 hb1) | (refine yo rfl (.tmp 8) (.tmp 15) 59 rfl base 93 i0 _ 2 24 underlying59 hi hz0 hz1 hz2 rfl (by decide) vl h.lines.length (zg h.lines) (by simp [Act.eval]) (hl1.alloc _) ⟨w1.heap.size,0,none⟩ 1 1 [.int .u8 (s.kind:Int),.string s.text] (by simp [Act.eval]) rfl (zt w1 _ _) hone hm1 hm2 (hbs w1 _ hz1') ?_;intro vl' w2 hown' hgrow hnew;obtain ⟨g',cap',rfl,_,_⟩:=zv hown' (Nat.succ_pos _);obtain ⟨e1,e2,e3,e4⟩:=hY.out w1 _ w2 hb1 hgrow;have f1:=(World.cell?_of_block (a:=⟨g,O+1,none⟩) e1).trans c1;have f3:=(World.cell?_of_block (a:=⟨g,O+3,none⟩) e1).trans c3;have f4:=(World.cell?_of_block (a:=⟨g,O+4,none⟩) e1).trans c4;have ff:=fun k=>(World.frozen?_of_block (a:=⟨g,k,none⟩) e1).trans (hfz k);have b02:w2.cell? ⟨w.heap.size,0,none⟩=some (.int .u8 (s.kind:Int)):=za e2 rfl))
  all_goals
   go_wp2_with fail
   go_meet
   case rel=>exact ⟨g',cap',w2,hown',e1,e2,e3,e4,hnew.imp id (fun hh k e=>by have h1:=hh k e;have h2:=hb1.size;have h3:=hZ0'.out;simp at h1 h2;omega),rfl⟩
 case rest=>
  obtain ⟨g',cap',w2,hown',e1,e2,e3,e4,hnew,rfl⟩:=hcut
  have f1:=(World.cell?_of_block (a:=⟨g,O+1,none⟩) e1).trans c1
  have f3:=(World.cell?_of_block (a:=⟨g,O+3,none⟩) e1).trans c3
  have f4:=(World.cell?_of_block (a:=⟨g,O+4,none⟩) e1).trans c4
  have ff:=fun k=>(World.frozen?_of_block (a:=⟨g,k,none⟩) e1).trans (hfz k)
  have b02:w2.cell? ⟨w.heap.size,0,none⟩=some (.int .u8 (s.kind:Int)):=za e2 rfl
  have hgB: ¬g=w.heap.size:=by omega
  have hgB': ¬w.heap.size=g:=by omega
  clear hX hY b0 b1 d4 c0 c1 c2 c3 c4 hone hm1 hm2 hbs hZ0' hB0' hO0'
  have E:Hid ((∀k,k<w.heap.size->some k≠vl.ownBlock->w2.heap[k]? =w.heap[k]?)/\Below base w w2/\((Value.slice (some ⟨g',0,none⟩) (h.lines.length+1) cap').ownBlock=vl.ownBlock\/ ∀k,(Value.slice (some ⟨g',0,none⟩) (h.lines.length+1) cap').ownBlock=some k->w.heap.size<=k)):=⟨e3,e4,hnew⟩
  have hget:=yQ (init++ [(h,vl)]) init.length (by simp)
  simp only [qt,hO] at hget
  have G:Hid _:=hget
  clear e1 e2 e3 e4 hnew hget hfz hcur hbk hge
  rcases hk with hk | hk | hk
  ·have b03:w2.cell? ⟨w.heap.size,0,none⟩=some (.int .u8 32):=by rw [b02,hk];rfl
   clear b02
   have hA:Hid ((xp h s).fc=h.fc+1/\(xp h s).tc=h.tc+1):=by unfold Hid xp;simp [hk]
   clear hk
   go_wp2
   go_end0
   refine ⟨rfl,_,qg hs hown' E.out.1 E.out.2.2 (zh (zh (zc _ _ _ _) (zc _ _ _ _)) (zc _ _ _ _)) ?_,((E.out.2.1.setCell (p:=⟨g,O+4,none⟩) hgb _).setCell (p:=⟨g,O+1,none⟩) hgb _).setCell (p:=⟨g,O+3,none⟩) hgb _,fun k h1 h2 h3=>(zd _ g k _ _ h2).trans ((zd _ g k _ _ h2).trans ((zd _ g k _ _ h2).trans (E.out.1 k h1 h3)))⟩
   intro cu hcu htk
   obtain ⟨cu',k1,k2,k3⟩:=TC (o1:=O+4) (o2:=O+1) (o3:=O+3) (v1:= .slice (some ⟨g',0,none⟩) (h.lines.length+1) cap') (v2:= .int .i64 ((h.fc:Int)+1)) (v3:= .int .i64 ((h.tc:Int)+1)) hcu (n*5)
   refine ⟨cu',k1,k2,?_⟩
   rw [k3,hO,FA (by rw [htk];exact G.out.1) (by rw [htk];exact G.out.2.2.1),hA.out.1,hA.out.2]
   rfl
  ·have b03:w2.cell? ⟨w.heap.size,0,none⟩=some (.int .u8 45):=by rw [b02,hk];rfl
   clear b02
   have hA:Hid ((xp h s).fc=h.fc+1/\(xp h s).tc=h.tc):=by unfold Hid xp;simp [hk]
   clear hk
   go_wp2
   go_end0
   refine ⟨rfl,_,qg hs hown' E.out.1 E.out.2.2 (zh (zc _ _ _ _) (zc _ _ _ _)) ?_,(E.out.2.1.setCell (p:=⟨g,O+4,none⟩) hgb _).setCell (p:=⟨g,O+1,none⟩) hgb _,fun k h1 h2 h3=>(zd _ g k _ _ h2).trans ((zd _ g k _ _ h2).trans (E.out.1 k h1 h3))⟩
   intro cu hcu htk
   obtain ⟨cu',k1,k2,k3⟩:=Fb (o1:=O+4) (o2:=O+1) (v1:= .slice (some ⟨g',0,none⟩) (h.lines.length+1) cap') (v2:= .int .i64 ((h.fc:Int)+1)) hcu (n*5)
   refine ⟨cu',k1,k2,?_⟩
   rw [k3,hO,FA (by rw [htk];exact G.out.1) (by rw [htk];exact G.out.2.2.1),hA.out.1,hA.out.2]
   refine (yK ?_).symm
   rw [List.getElem?_set,List.getElem?_set,htk]
   simp [G.out.2.2.2.1]
  ·have b03:w2.cell? ⟨w.heap.size,0,none⟩=some (.int .u8 43):=by rw [b02,hk];rfl
   clear b02
   have hA:Hid ((xp h s).fc=h.fc/\(xp h s).tc=h.tc+1):=by unfold Hid xp;simp [hk]
   clear hk
   go_wp2
   go_end0
   refine ⟨rfl,_,qg hs hown' E.out.1 E.out.2.2 (zh (zc _ _ _ _) (zc _ _ _ _)) ?_,(E.out.2.1.setCell (p:=⟨g,O+4,none⟩) hgb _).setCell (p:=⟨g,O+3,none⟩) hgb _,fun k h1 h2 h3=>(zd _ g k _ _ h2).trans ((zd _ g k _ _ h2).trans (E.out.1 k h1 h3))⟩
   intro cu hcu htk
   obtain ⟨cu',k1,k2,k3⟩:=Fb (o1:=O+4) (o2:=O+3) (v1:= .slice (some ⟨g',0,none⟩) (h.lines.length+1) cap') (v2:= .int .i64 ((h.tc:Int)+1)) hcu (n*5)
   refine ⟨cu',k1,k2,?_⟩
   rw [k3,hO,FA (by rw [htk];exact G.out.1) (by rw [htk];exact G.out.2.2.1),hA.out.1,hA.out.2]
   rw [yK (l:=(List.take (n*5) cu.toList).set (O+4) _) (i:=O+1)]
   ·rfl
   ·rw [List.getElem?_set,htk];simp [G.out.2.1]
def zV (h:zx):zx:= { h with fr:=h.fr+(if h.fc=0 then 0 else 1),tr:=h.tr+(if h.tc=0 then 0 else 1) }
theorem Es (g O:Nat) (h:zx) (w:World) (hf: ∀k,w.frozen? ⟨g,k,none⟩=false) (b1:h.fr<=100000) (b2:h.tr<=100000)
 (c0:w.cell? ⟨g,O,none⟩=some (.int .i64 (h.fr:Nat))) (c1:w.cell? ⟨g,O+1,none⟩=some (.int .i64 (h.fc:Nat)))
 (c2:w.cell? ⟨g,O+2,none⟩=some (.int .i64 (h.tr:Nat))) (c3:w.cell? ⟨g,O+3,none⟩=some (.int .i64 (h.tc:Nat))):
 Calls prog 58 #[.pointer (some ⟨g,O,none⟩)] w fun e w'=>e= .returned (.tuple #[])/\
  ∃l:List (Nat×Value),w'=l.foldl (fun w p=>w.setCell ⟨g,p.1,none⟩ p.2) w/\
   ((l= []/\zV h=h)\/(l= [(O,.int .i64 ((zV h).fr:Nat))]/\(zV h).tr=h.tr)\/(l= [(O+2,.int .i64 ((zV h).tr:Nat))]/\(zV h).fr=h.fr)\/l= [(O,.int .i64 ((zV h).fr:Nat)),(O+2,.int .i64 ((zV h).tr:Nat))]):=by
 have e1:((h.fr+1:Nat):Int)=(h.fr:Int)+1:=by omega
 have e2:((h.tr+1:Nat):Int)=(h.tr:Int)+1:=by omega
 by_cases h1:h.fc=0
 ·have t1: ¬((0:Int)<(h.fc:Int)):=by omega
  by_cases h2:h.tc=0
  ·have t2: ¬((0:Int)<(h.tc:Int)):=by omega
   have hN:Hid (zV h=h):=by unfold Hid zV;cases h;simp_all
   clear h1 h2
   go_enter func58,ntmps58
   go_wp2
   go_end0
   exact ⟨rfl,[],rfl,.inl ⟨rfl,hN.out⟩⟩
  ·have t2:((0:Int)<(h.tc:Int)):=by omega
   have hN:Hid ((zV h).fr=h.fr/\(zV h).tr=h.tr+1):=by unfold Hid zV;simp [h1,h2]
   clear h1 h2
   go_enter func58,ntmps58
   go_wp2
   go_end0
   exact ⟨rfl,_,rfl,.inr (.inr (.inl ⟨by rw [hN.out.2,e2],hN.out.1⟩))⟩
 ·have t1:((0:Int)<(h.fc:Int)):=by omega
  by_cases h2:h.tc=0
  ·have t2: ¬((0:Int)<(h.tc:Int)):=by omega
   have hN:Hid ((zV h).fr=h.fr+1/\(zV h).tr=h.tr):=by unfold Hid zV;simp [h1,h2]
   clear h1 h2
   go_enter func58,ntmps58
   go_wp2
   go_end0
   exact ⟨rfl,_,rfl,.inr (.inl ⟨by rw [hN.out.1,e1],hN.out.2⟩)⟩
  ·have t2:((0:Int)<(h.tc:Int)):=by omega
   have hN:Hid ((zV h).fr=h.fr+1/\(zV h).tr=h.tr+1):=by unfold Hid zV;simp [h1,h2]
   clear h1 h2
   go_enter func58,ntmps58
   go_wp2
   go_end0
   exact ⟨rfl,_,rfl,.inr (.inr (.inr (by rw [hN.out.1,hN.out.2,e1,e2])))⟩
theorem yZ {l:List Value} {i:Nat} {v:Value} (h:l[i]? =some v):l.set i v=l:=by
 apply List.ext_getElem?
 intro j
 rw [List.getElem?_set]
 split
 ·rename_i e;subst e
  split
  ·exact h.symm
  ·rename_i hh;rw [List.getElem?_eq_none (by omega)] at h;cases h
 ·rfl
theorem two {l:List Value} {O:Nat} {f a t b c:Value} (h1:l[O+1]? =some a) (h3:l[O+3]? =some b) (h4:l[O+4]? =some c):
 ((((l.set O f).set (O+1) a).set (O+2) t).set (O+3) b).set (O+4) c=(l.set O f).set (O+2) t:=by
 have e1:(l.set O f).set (O+1) a=l.set O f:=yZ (by rw [List.getElem?_set];simp [h1])
 rw [e1]
 have e2:((l.set O f).set (O+2) t).set (O+3) b=(l.set O f).set (O+2) t:=yZ (by rw [List.getElem?_set,List.getElem?_set];simp [h3])
 rw [e2]
 exact yZ (by rw [List.getElem?_set,List.getElem?_set];simp [h4])
theorem FY {base g n cap i:Nat} {hv:List HV} {w:World} (hs:HSv base g n cap hv w) (hbase:base<=w.heap.size) (hgb:base<=g) (hi:i<hv.length) (b1:hv[i].1.fr<=100000) (b2:hv[i].1.tr<=100000):
 Calls prog 58 #[.pointer (some ⟨g,i*5,none⟩)] w fun e w'=>e= .returned (.tuple #[])/\HSv base g n cap (hv.set i (zV hv[i].1,hv[i].2)) w'/\Below base w w':=by
 obtain ⟨c0,c1,c2,c3,c4⟩:=xN hs.row hi
 obtain ⟨cur,hcur⟩:=ze hs.row (g:=g) rfl
 have hG:=yQ hv i hi
 refine (Es g (i*5) hv[i].1 w (fun k=>zi hcur) b1 b2 c0 c1 c2 c3).mono ?_
 rintro e w' ⟨rfl,l,rfl,hl⟩
 have hgr: ∀(l:List (Nat×Value)) (w:World),w.grownBy (l.foldl (fun w p=>w.setCell ⟨g,p.1,none⟩ p.2) w) (some g):=by
  intro l
  induction l with
  | nil=>intro w;exact ⟨rfl,rfl,rfl,Nat.le_refl _,fun _ _ _=>rfl⟩
  | cons p l ih=>intro w;exact zh (zc w g p.1 p.2) (ih _)
 have hgw:=hgr l w
 have hrow:(l.foldl (fun w p=>w.setCell ⟨g,p.1,none⟩ p.2) w).ownsRow base 61 5 (.slice (some ⟨g,0,none⟩) n cap) n (hunkCells (hv.set i (zV hv[i].1,hv[i].2))):=by
  refine jd hs.row hs.len hi _ (fun cu hcu htk=> ?_)
  have hb:(zV hv[i].1).fc=hv[i].1.fc/\(zV hv[i].1).tc=hv[i].1.tc:=⟨rfl,rfl⟩
  simp only [hb.1,hb.2]
  rw [two (by rw [htk];exact hG.2.1) (by rw [htk];exact hG.2.2.2.1) (by rw [htk];exact hG.2.2.2.2)]
  rcases hl with ⟨rfl,e⟩ | ⟨rfl,e⟩ | ⟨rfl,e⟩ | rfl
  ·refine ⟨cu,hcu,rfl,?_⟩
   rw [e,yZ (l:=List.take (n*5) cu.toList) (by rw [htk];exact hG.1),yZ (by rw [htk];exact hG.2.2.1)]
  ·refine ⟨_,zb _ _ _ _ _ _ _ hcu,by simp,?_⟩
   rw [e,yZ (i:=i*5+2) (by rw [List.getElem?_set,htk];simp [hG.2.2.1])]
   simp [List.take_set]
  ·refine ⟨_,zb _ _ _ _ _ _ _ hcu,by simp,?_⟩
   rw [e,yZ (i:=i*5) (by rw [htk];exact hG.1)]
   simp [List.take_set]
  ·refine ⟨_,zb _ _ _ _ _ _ _ (zb _ _ _ _ _ _ _ hcu),by simp,?_⟩
   simp [List.take_set]
 refine ⟨rfl,⟨by simp [hs.len],hrow,fun p hp=> ?_,?_⟩,(Below.refl base w).grown hgw hbase (fun k e=>by cases e;exact hgb)⟩
 ·have key: ∃q∈hv,q.2=p.2/\q.1.lines=p.1.lines:=by
   rcases List.mem_or_eq_of_mem_set hp with h | h
   ·exact ⟨p,h,rfl,rfl⟩
   ·exact ⟨hv[i],List.getElem_mem hi,by rw [h],by rw [h];rfl⟩
  obtain ⟨q,hq,e1,e2⟩:=key
  have ho:=hs.lines q hq
  have:=ho.kept hgw (.inr (zT ho hcur (by decide)))
  rw [e1,e2] at this
  exact this
 ·have h0:=hs.apart
  have h1:(hv.map (·.2)).Pairwise (fun a b:Value=>a.ownBlock=none\/a.ownBlock≠b.ownBlock):=List.pairwise_map.2 h0
  have h2:(hv.set i (zV hv[i].1,hv[i].2)).map (·.2)=hv.map (·.2):=by
   rw [List.map_set]
   apply List.ext_getElem?
   intro j
   rw [List.getElem?_set]
   split
   ·rename_i e;subst e;simp [hi]
   ·rfl
  rw [<-h2] at h1
  exact List.pairwise_map.1 h1
structure TA where
 hs:List zx
 og:Nat
 fg:Nat
def yp (og fg:Nat):zx:=⟨og,0,fg,0,[]⟩
def qp (hs:List zx) (s:zk):List zx:=match hs.reverse with | []=> [] | h::t=>t.reverse++ [xp h s]
def xQ (nb:Bool) (pb:Bool) (s:zk) (st:TA):List zx:=
 if nb=true then qp (if pb=true then st.hs else st.hs++ [yp st.og st.fg]) s else st.hs
def foldH (L:List zk) (nb:List Bool):Nat->TA
 | 0=>⟨[],0,0⟩
 | k+1=>
   match L[k]? with
   | none=>foldH L nb k
   | some s=>⟨xQ (nb.getD k false) (decide (0<k) && nb.getD (k-1) false) s (foldH L nb k),(foldH L nb k).og+(if s.kind=43 then 0 else 1),(foldH L nb k).fg+(if s.kind=45 then 0 else 1)⟩
def jj (L:List zk) (c:Nat):List zx:=(foldH L (kU L c) L.length).hs.map zV
theorem xG (l:List zx) (h:zx) (s:zk):qp (l++ [h]) s=l++ [xp h s]:=by simp [qp]
theorem Qo {l:List zx} {s:zk} (h:l≠ []): ∃i x,l=i++ [x]/\qp l s=i++ [xp x s]:=by
 refine ⟨l.dropLast,l.getLast h,(List.dropLast_concat_getLast h).symm,?_⟩
 conv=>lhs;rw [<-List.dropLast_concat_getLast h]
 exact xG _ _ _
theorem kw {L:List zk} {nb:List Bool} {k:Nat} (hk:k<L.length):
 foldH L nb (k+1)=⟨xQ (nb.getD k false) (decide (0<k) && nb.getD (k-1) false) L[k] (foldH L nb k),(foldH L nb k).og+(if L[k].kind=43 then 0 else 1),(foldH L nb k).fg+(if L[k].kind=45 then 0 else 1)⟩:=by
 rw [foldH,List.getElem?_eq_getElem hk]
theorem qY (L:List zk) (nb:List Bool): ∀k,(foldH L nb k).og<=k/\(foldH L nb k).fg<=k/\(foldH L nb k).hs.length<=k/\
 (∀h∈(foldH L nb k).hs,h.fc<=k/\h.tc<=k/\h.lines.length<=k/\h.fr<=k/\h.tr<=k)/\(0<k->k<=L.length->nb.getD (k-1) false=true->(foldH L nb k).hs≠ []):=by
 intro k
 induction k with
 | zero=>simp [foldH]
 | succ k ih=>
   obtain ⟨a,b,c,d,e⟩:=ih
   by_cases hk:k<L.length
   ·rw [kw hk]
    have key: ∀(l:List zx) (s:zk),(∀h∈l,h.fc<=k/\h.tc<=k/\h.lines.length<=k/\h.fr<=k/\h.tr<=k)->(qp l s).length=l.length/\(l≠ []->qp l s≠ [])/\ ∀h∈qp l s,h.fc<=k+1/\h.tc<=k+1/\h.lines.length<=k+1/\h.fr<=k+1/\h.tr<=k+1:=by
     intro l s hl
     by_cases h0:l= []
     ·subst h0;simp [qp]
     ·obtain ⟨i,x,e1,e2⟩:=Qo (s:=s) h0
      rw [e2]
      subst e1
      refine ⟨by simp,by simp,?_⟩
      intro h hh
      rw [List.mem_append] at hh
      rcases hh with hh | hh
      ·have:=hl h (by simp [hh]);omega
      ·simp at hh
       subst hh
       have:=hl x (by simp)
       simp only [xp,List.length_append,List.length_singleton]
       refine ⟨?_,?_,by omega,by omega,by omega⟩<;>split<;>omega
    refine ⟨by simp only;split<;>omega,by simp only;split<;>omega,?_,?_,?_⟩
    ·simp only [xQ]
     split
     ·rw [(key _ _ (by
       split
       ·exact d
       ·intro h hh
        rw [List.mem_append] at hh
        rcases hh with hh | hh
        ·exact d h hh
        ·simp at hh;subst hh;simp [yp];omega)).1]
      split
      ·omega
      ·rw [List.length_append,List.length_singleton];omega
     ·omega
    ·simp only [xQ]
     split
     ·exact (key _ _ (by
       split
       ·exact d
       ·intro h hh
        rw [List.mem_append] at hh
        rcases hh with hh | hh
        ·exact d h hh
        ·simp at hh;subst hh;simp [yp];omega)).2.2
     ·intro h hh;have:=d h hh;omega
    ·intro _ _ hnb
     simp only [xQ]
     rw [Nat.add_sub_cancel] at hnb
     rw [if_pos hnb]
     refine (key _ _ (by
         split
         ·exact d
         ·intro h hh
          rw [List.mem_append] at hh
          rcases hh with hh | hh
          ·exact d h hh
          ·simp at hh;subst hh;simp [yp];omega)).2.1 ?_
     split
     ·rename_i hp
      simp at hp
      exact e hp.1 (by omega) hp.2
     ·simp
   ·have e1:foldH L nb (k+1)=foldH L nb k:=by rw [foldH,List.getElem?_eq_none (by omega)]
    rw [e1]
    refine ⟨by omega,by omega,by omega,fun h hh=>by have:=d h hh;omega,fun _ h2 _=>by omega⟩
def HSo (base:Nat) (v:Value) (hv:List HV) (w:World):Prop:=
 (hv= []/\v= .slice none 0 0)\/ ∃g cap,v= .slice (some ⟨g,0,none⟩) hv.length cap/\base<=g/\HSv base g hv.length cap hv w
theorem qe {w:World} {base base' e size n:Nat} {v:Value} {xs:List Value} (h:w.ownsRow base e size v n xs) (hb:base'<=base):w.ownsRow base' e size v n xs:=by
 obtain ⟨a,b⟩:=h
 refine ⟨a,?_⟩
 rcases b with b | ⟨g,cap,cur,e,hg,r⟩
 ·exact .inl b
 ·exact .inr ⟨g,cap,cur,e,Nat.le_trans hb hg,r⟩
theorem HSo.mono {base base':Nat} {v:Value} {hv:List HV} {w:World} (h:HSo base v hv w) (hb:base'<=base):HSo base' v hv w:=by
 rcases h with h | ⟨g,cap,e,hg,hs⟩
 ·exact .inl h
 ·exact .inr ⟨g,cap,e,Nat.le_trans hb hg,hs.len,qe hs.row hb,fun p hp=>qe (hs.lines p hp) hb,hs.apart⟩
theorem HSv.kept {base g n cap:Nat} {hv:List HV} {w w':World} {row:Option Nat} (h:HSv base g n cap hv w) (hg:w.grownBy w' row) (hr: ∀k,row=some k->w.heap.size<=k\/ ∃cur t fr,w.heap[k]? =some (.cells cur t fr)/\t≠61/\t≠93):HSv base g n cap hv w':=by
 have key: ∀ {e size n:Nat} {v:Value} {xs:List Value},w.ownsRow base e size v n xs->(e=61\/e=93)->v.ownBlock=none\/v.ownBlock≠row:=by
  intro e size n v xs ho he
  cases hv:v.ownBlock with
  | none=>exact .inl rfl
  | some k=>
    right
    intro e'
    rcases hr k e'.symm with h1 | ⟨cur,t,fr,hc,h1,h2⟩
    ·have:=(ho.lt k hv).2;omega
    ·obtain ⟨cur',hc'⟩:=ze ho hv
     rw [hc] at hc'
     cases hc'
     rcases he with he | he
     ·exact h1 he
     ·exact h2 he
 exact ⟨h.len,h.row.kept hg (key h.row (.inl rfl)),fun p hp=>(h.lines p hp).kept hg (key (h.lines p hp) (.inr rfl)),h.apart⟩
theorem HSo.kept {base:Nat} {v:Value} {hv:List HV} {w w':World} {row:Option Nat} (h:HSo base v hv w) (hg:w.grownBy w' row) (hr: ∀k,row=some k->w.heap.size<=k\/ ∃cur t fr,w.heap[k]? =some (.cells cur t fr)/\t≠61/\t≠93):HSo base v hv w':=by
 rcases h with h | ⟨g,cap,e,hb,hs⟩
 ·exact .inl h
 ·exact .inr ⟨g,cap,e,hb,hs.kept hg hr⟩
theorem HSo.alloc {base:Nat} {v:Value} {hv:List HV} {w:World} (h:HSo base v hv w) (o:Obj):HSo base v hv (w.alloc o):=h.kept (World.grownBy_alloc w o none) (fun k e=>by cases e)
theorem qk:(prog.info? 61).map (fun i=>(i.zero,i.size,i.bytes))=some (some (.agg #[.int .i64 0,.int .i64 0,.int .i64 0,.int .i64 0,.slice none 0 0]),5,56):=by kernel_rfl
theorem HSo.owns {base:Nat} {v:Value} {hv:List HV} {w:World} (h:HSo base v hv w):w.ownsRow base 61 5 v hv.length (hunkCells hv):=by
 rcases h with ⟨rfl,rfl⟩ | ⟨g,cap,rfl,_,hs⟩
 ·exact World.ownsRow_nil _ _ _ _
 ·exact hs.row
theorem HSo.push {base g cap:Nat} {v:Value} {hv:List HV} {w w1:World} {ob:Obj} (h:HSo base v hv w) (H:zx) (hl:H.lines= []) (hgr:(w.alloc ob).grownBy w1 v.ownBlock)
 (hown:w1.ownsRow base 61 5 (.slice (some ⟨g,0,none⟩) (hv.length+1) cap) (hv.length+1) (hunkCells hv++xo (H,.slice none 0 0))):
 HSv base g (hv++ [(H,Value.slice none 0 0)]).length cap (hv++ [(H,.slice none 0 0)]) w1:=by
 have hlen:(hv++ [(H,Value.slice none 0 0)]).length=hv.length+1:=by simp
 refine ⟨rfl,?_,?_,?_⟩
 ·rw [hlen,jI];simpa [hunkCells] using hown
 ·intro p hp
  rw [List.mem_append] at hp
  rcases hp with hp | hp
  ·rcases h with ⟨rfl,_⟩ | ⟨g0,cap0,e,_,hs⟩
   ·simp at hp
   ·have ho:=(hs.lines p hp).alloc ob
    refine ho.kept hgr ?_
    cases hb:p.2.ownBlock with
    | none=>exact .inl rfl
    | some k=>
      right
      rw [e]
      intro e2
      obtain ⟨c1,h1⟩:=ze (hs.lines p hp) hb
      obtain ⟨c2,h2⟩:=ze hs.row (g:=g0) rfl
      cases e2
      rw [h1] at h2
      cases h2
  ·simp at hp
   subst hp
   rw [hl]
   exact World.ownsRow_nil _ _ _ _
 ·rw [List.pairwise_append]
  refine ⟨?_,by simp,fun p _ q hq=> ?_⟩
  ·rcases h with ⟨rfl,_⟩ | ⟨g0,cap0,e,_,hs⟩
   ·exact List.Pairwise.nil
   ·exact hs.apart
  ·simp at hq;subst hq
   cases p.2.ownBlock with
   | none=>exact .inl rfl
   | some k=>right;intro e;cases e
end Go.Proofs.YtcclgodahlinbaaGreatDoor
