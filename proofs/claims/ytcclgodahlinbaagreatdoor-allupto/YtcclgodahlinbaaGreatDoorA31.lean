import Derived.Test.YtcclgodahlinbaaGreatDoorA29
import Derived.Test.YtcclgodahlinbaaGreatDoorA22
import Derived.Test.YtcclgodahlinbaaGreatDoorA30
import Derived.Test.YtcclgodahlinbaaGreatDoorA13
import Derived.Test.YtcclgodahlinbaaGreatDoorA14
import Derived.BigQuiet
namespace Go.Proofs.YtcclgodahlinbaaGreatDoor
set_option maxHeartbeats 16000000
open Tryz Go.RowKit Go
set_option maxRecDepth 100000
theorem ZP (bs:List (HI×Nat)) (Z:List Value) {i:Nat} (h:i<bs.length):
 (zM bs++Z)[i*5]? =some (.int .i64 bs[i].1.fr)/\(zM bs++Z)[i*5+1]? =some (.int .i64 bs[i].1.fc)/\(zM bs++Z)[i*5+2]? =some (.int .i64 bs[i].1.tr)/\(zM bs++Z)[i*5+3]? =some (.int .i64 bs[i].1.tc)/\
 (zM bs++Z)[i*5+4]? =some (.slice (some ⟨bs[i].2,0,none⟩) bs[i].1.lines.length (bs[i].1.lines.length+2)):=by
 induction bs generalizing i with
 | nil=>simp at h
 | cons p l ih=>
   cases i with
   | zero=>simp [zM,QE]
   | succ i=>
     have hi:i<l.length:=by simpa using h
     obtain ⟨h0,h1,h2,h3,h4⟩:=ih hi
     have e: ∀k,(zM (p::l)++Z)[(i+1)*5+k]? =(zM l++Z)[i*5+k]? :=fun k=>by
      have:(i+1)*5+k=(i*5+k)+5:=by omega
      rw [this]
      simp [zM,QE]
     exact ⟨(e 0).trans h0,(e 1).trans h1,(e 2).trans h2,(e 3).trans h3,(e 4).trans h4⟩
theorem qO.hunks {base ga cap:Nat} {vr:Value} {bs:List (HI×Nat)} {Z:List Value} {W:World} (L:qO base ga vr bs Z W) {hs:List HI} (hm:bs.map (·.1)=hs):yH W.heap.size W (.slice (some ⟨ga,0,none⟩) hs.length cap) hs:=by
 subst hm
 refine .inr ⟨ga,0,cap,rfl,(Array.getElem?_eq_some_iff.1 L.all).1,fun i hi=> ?_⟩
 have hi':i<bs.length:=by simpa using hi
 obtain ⟨h0,h1,h2,h3,h4⟩:=ZP bs Z hi'
 have hl:=(L.line bs[i] (List.getElem_mem hi')).2
 simp only [List.getElem_map,Nat.zero_add]
 refine ⟨_,_,za L.all (by simpa using h0),za L.all (by simpa using h1),za L.all (by simpa using h2),za L.all (by simpa using h3),za L.all (by simpa using h4),.inr ⟨bs[i].2,0,_,rfl,(Array.getElem?_eq_some_iff.1 hl).1,fun j hj=> ?_⟩⟩
 have hj':j<(bs[i].1.lines++ [ym,ym]).length:=by simp;omega
 obtain ⟨c0,c1⟩:=yR (bs[i].1.lines++ [ym,ym]) j hj'
 rw [List.getElem_append_left hj] at c0 c1
 rw [Nat.zero_add]
 exact ⟨za hl (by simpa [yO] using c0),za hl (by simpa [yO] using c1)⟩
theorem qO.row {base ga:Nat} {vr:Value} {bs:List (HI×Nat)} {Z:List Value} {W:World} (L:qO base ga vr bs Z W) {p:HI×Nat} (hp:p∈bs) (hl:p.1.lines.length<=1048576):W.ownsRow base 93 2 (qZ p) (p.1.lines.length+2) (yO p.1):=by
 obtain ⟨h1,h2⟩:=L.line p hp
 have hz:(yO p.1).length=(p.1.lines.length+2)*2:=by unfold yO;rw [zG];simp
 exact ⟨hz,.inr ⟨p.2,p.1.lines.length+2,_,rfl,h1,h2,Nat.le_refl _,by unfold maxLen;omega,by simpa using hz,by simp [<-hz]⟩⟩
theorem qO.behind {base ga:Nat} {vr:Value} {bs:List (HI×Nat)} {Z:List Value} {W:World} (L:qO base ga vr bs Z W) {p:HI×Nat} (hp:p∈bs):
 W.cell? ⟨p.2,p.1.lines.length*2,none⟩=some (.int .u8 33)/\W.cell? ⟨p.2,p.1.lines.length*2+1,none⟩=some (.string ym.text)/\W.cell? ⟨p.2,(p.1.lines.length+1)*2,none⟩=some (.int .u8 33)/\W.cell? ⟨p.2,(p.1.lines.length+1)*2+1,none⟩=some (.string ym.text):=by
 obtain ⟨h1,h2⟩:=L.line p hp
 have e:yO p.1=zg p.1.lines++ [.int .u8 33,.string ym.text,.int .u8 33,.string ym.text]:=by unfold yO;rw [zB];rfl
 rw [e] at h2
 have g: ∀k,(zg p.1.lines++ [Value.int .u8 33,.string ym.text,.int .u8 33,.string ym.text])[p.1.lines.length*2+k]? = [Value.int .u8 33,.string ym.text,.int .u8 33,.string ym.text][k]? :=fun k=>by
  rw [List.getElem?_append_right (by rw [zG];omega),zG]
  congr 1
  omega
 refine ⟨za h2 (by simpa using g 0),za h2 (by simpa using g 1),za h2 ?_,za h2 ?_⟩
 ·rw [show (p.1.lines.length+1)*2=p.1.lines.length*2+2 by omega];simpa using g 2
 ·rw [show (p.1.lines.length+1)*2+1=p.1.lines.length*2+3 by omega];simpa using g 3
structure yA (base wb ga:Nat) (x:WV) (B:Bk) (vr:Value) (bs:List (HI×Nat)) (w:World) (i:Nat) (x':WV) (E:List (Value×Value)) (wi:World):Prop where
 kept:zC base wb x' { B with l:=B.l++E } wi
 len:E.length=4*i
 c:x'.c=x.c+i
 line: ∀q∈bs.drop i,wi.heap[q.2]? =w.heap[q.2]?
 all:wi.heap[ga]? =w.heap[ga]?
 rows: ∀g,vr.ownBlock=some g->wi.heap[g]? =w.heap[g]? /\x'.l.ownBlock≠some g/\x'.lm.ownBlock≠some g
 far: ∀p∈B.l++E,∀q∈bs.drop i,p.1.ownBlock=none\/p.1.ownBlock≠some q.2
 fr:zs base w wi (fun g=> ∃q∈bs,q.2=g)
 new: ∀p∈E,∀g,p.1.ownBlock=some g->(∃q∈bs,q.2=g)\/w.heap.size<=g
theorem yA.start {base wb bl ga:Nat} {x:WV} {B:Bk} {vr:Value} {bs:List (HI×Nat)} {Z:List Value} {w wi:World} (K:zC base wb x B wi) (L:qO bl ga vr bs Z w) (hb:Below w.heap.size w wi) (hfl: ∀p∈B.l,∀q∈bs,p.1.ownBlock=none\/p.1.ownBlock≠some q.2)
 (hown: ∀g,vr.ownBlock=some g->x.l.ownBlock≠some g/\x.lm.ownBlock≠some g):yA base wb ga x B vr bs w 0 x [] wi:=
 ⟨by simpa using K,rfl,rfl,fun q hq=>hb.block q.2 (Array.getElem?_eq_some_iff.1 (L.line q (by simpa using hq)).2).1,hb.block ga (Array.getElem?_eq_some_iff.1 L.all).1,fun g hg=>⟨hb.block g (L.rows.lt g hg).2,hown g hg⟩,fun p hp q hq=>hfl p (by simpa using hp) q (by simpa using hq),(zs.of_below hb).mono (fun _ _ h=>h.elim),by simp⟩
theorem yA.next {base wb bl ga i:Nat} {x x1 x2:WV} {B:Bk} {vr:Value} {bs:List (HI×Nat)} {Z:List Value} {w wi w':World} {E E2:List (Value×Value)} (h:yA base wb ga x B vr bs w i x1 E wi) (L:qO bl ga vr bs Z w) (hi:i<bs.length)
 (k:zC base wb x2 { B with l:=B.l++E++E2 } w') (he:E2.length=4) (hc:x2.c=x1.c+1) (ho: ∀p∈E2,p.1.ownBlock=some bs[i].2\/ ∀g,p.1.ownBlock=some g->wi.heap.size<=g) (hF:zs base wi w' (fun g=>some g=some bs[i].2))
 (hR: ∀g,vr.ownBlock=some g->w'.heap[g]? =wi.heap[g]? /\x2.l.ownBlock≠some g/\x2.lm.ownBlock≠some g):yA base wb ga x B vr bs w (i+1) x2 (E++E2) w':=by
 have hdrop:bs.drop i=bs[i]::bs.drop (i+1):=List.drop_eq_getElem_cons hi
 have hsub: ∀q∈bs.drop (i+1),q∈bs.drop i:=fun q hq=>by rw [hdrop];exact List.mem_cons_of_mem _ hq
 have hap: ∀q∈bs.drop (i+1),bs[i].2≠q.2:=by
  have h0:=List.Pairwise.sublist (List.drop_sublist i bs) L.apart
  rw [hdrop] at h0
  exact (List.pairwise_cons.1 h0).1
 have hbs: ∀q∈bs.drop i,q∈bs:=fun q hq=>List.mem_of_mem_drop hq
 have hsz:=h.fr.1
 refine ⟨by rw [<-List.append_assoc];exact k,by rw [List.length_append,h.len,he];omega,by rw [hc,h.c];omega,fun q hq=> ?_,?_,fun g hg=> ?_,fun p hp q hq=> ?_,?_,fun p hp g e=> ?_⟩
 ·have h1:=h.line q (hsub q hq)
  have h2:=h1.trans (L.line q (hbs q (hsub q hq))).2
  rw [hF.at h2 (by decide) (fun e=>hap q hq (Option.some.inj e).symm)]
  exact h1
 ·have h2:=h.all.trans L.all
  rw [hF.at h2 (by decide) (fun e=> ?_)]
  ·exact h.all
  ·exact zq (L.line bs[i] (List.getElem_mem hi)).2 L.all (by decide) (Option.some.inj e).symm
 ·obtain ⟨h1,h2,h3⟩:=hR g hg
  exact ⟨h1.trans (h.rows g hg).1,h2,h3⟩
 ·rw [<-List.append_assoc] at hp
  rcases List.mem_append.1 hp with hp | hp
  ·exact h.far p hp q (hsub q hq)
  ·rcases ho p hp with e | e
   ·right
    rw [e]
    exact fun e2=>hap q hq (Option.some.inj e2)
   ·cases hv:p.1.ownBlock with
    | none=>exact .inl rfl
    | some g=>
      right
      intro e2
      cases e2
      have h1:=e q.2 hv
      have h2:=(Array.getElem?_eq_some_iff.1 (L.line q (hbs q (hsub q hq))).2).1
      omega
 ·refine (h.fr.trans hF).mono fun g _ hg=> ?_
  rcases hg with hg | hg
  ·exact hg
  ·exact ⟨bs[i],List.getElem_mem hi,(Option.some.inj hg).symm⟩
 ·rcases List.mem_append.1 hp with hp | hp
  ·exact h.new p hp g e
  ·rcases ho p hp with e2 | e2
   ·rw [e2] at e
    exact .inl ⟨bs[i],List.getElem_mem hi,Option.some.inj e⟩
   ·right
    have:=e2 g e
    omega
theorem yA.old {base wb bl ga i:Nat} {x x1:WV} {B:Bk} {vr:Value} {bs:List (HI×Nat)} {Z:List Value} {w wi W:World} {E:List (Value×Value)} (L:qO bl ga vr bs Z w) (h:yA base wb ga x B vr bs w i x1 E wi) (hW: ∀k,k<wi.heap.size->W.heap[k]? =wi.heap[k]?) (hz:wi.heap.size<=W.heap.size) (hO:zD wi W):yA base wb ga x B vr bs w i x1 E W:=by
 have hs:=h.fr.1
 refine ⟨h.kept.old hW,h.len,h.c,fun q hq=> ?_,?_,fun g hg=> ?_,h.far,?_,h.new⟩
 ·have:=(Array.getElem?_eq_some_iff.1 (L.line q (List.mem_of_mem_drop hq)).2).1
  exact (hW q.2 (by omega)).trans (h.line q hq)
 ·have:=(Array.getElem?_eq_some_iff.1 L.all).1
  exact (hW ga (by omega)).trans h.all
 ·have:=(L.rows.lt g hg).2
  exact ⟨(hW g (by omega)).trans (h.rows g hg).1,(h.rows g hg).2⟩
 ·have hF:zs base wi W (fun _=>False):=⟨hz,fun g hg=> .inl (hW g hg),hO⟩
  exact (h.fr.trans hF).mono fun g _ hg=>hg.elim id (fun h=>h.elim)
theorem yA.call {base wb bl ga i:Nat} {x x1:WV} {B:Bk} {vr:Value} {bs:List (HI×Nat)} {Z:List Value} {w W:World} {E:List (Value×Value)} (L:qO bl ga vr bs Z w) (h:yA base wb ga x B vr bs w i x1 E W) (hi:i<bs.length) (hl:bs[i].1.lines.length<=1048576) (hbl:bl<=w.heap.size) (hbase:base<=w.heap.size) (hn:bs.length<=300000) (hc:x.c<=7000000000000) (hll:B.l.length<=700000000000)
 {pb:Nat} {ob:Array Value} {t:Nat} (hpb:W.heap[pb]? =some (.cells ob t (0,0))) (ht:t ∉ Tys) (hne:w.heap.size<=pb):
 Calls prog 113 #[.pointer (some ⟨wb,0,none⟩),.slice (some ⟨bs[i].2,0,none⟩) (bs[i].1.lines.length+2) (bs[i].1.lines.length+2)] W fun e w'=>e= .returned (.tuple #[])/\ ∃(x2:WV) (E2:List (Value×Value)),yA base wb ga x B vr bs w (i+1) x2 E2 w'/\w'.heap[pb]? =some (.cells ob t (0,0)):=by
 have hpm:bs[i]∈bs:=List.getElem_mem hi
 have hin:bs[i]∈bs.drop i:=by rw [List.drop_eq_getElem_cons hi];exact List.mem_cons_self
 have hlt:bs[i].2<w.heap.size:=(Array.getElem?_eq_some_iff.1 (L.line bs[i] hpm).2).1
 have hs:=h.fr.1
 have hwb:=(Array.getElem?_eq_some_iff.1 h.kept.blk).1
 have hrow:W.ownsRow bl 93 2 (.slice (some ⟨bs[i].2,0,none⟩) (bs[i].1.lines.length+2) (bs[i].1.lines.length+2)) (bs[i].1.lines.length+2) (yO bs[i].1):=zu (L.row hpm hl) fun g hg=>by cases hg;exact h.line bs[i] hin
 refine (XF (F:=fun g=>vr.ownBlock=some g) (bl:=bl) h.kept hrow (by omega) (fun p hp=>h.far p hp bs[i] hin) (by omega) (by omega) (by rw [h.c];omega) (by show (B.l++E).length<=_;rw [List.length_append,h.len];omega) ?_).mono ?_
 ·intro g hg
  have h1:=L.rows.lt g hg
  refine ⟨by omega,fun e=> ?_,(h.rows g hg).2.1,(h.rows g hg).2.2,fun e=> ?_⟩
  ·obtain ⟨c,hcb⟩:=ze L.rows hg
   exact zq ((h.rows g hg).1.trans hcb) h.kept.blk (by decide) e
  ·obtain ⟨c,hcb⟩:=ze L.rows hg
   exact zq (L.line bs[i] hpm).2 hcb (by decide) (Option.some.inj e)
 ·rintro e w' ⟨rfl,x2,E2,k1,k2,k3,k4,k5,k6⟩
  refine ⟨rfl,x2,E++E2,h.next L hi k1 k2 k3 k4 k5 (fun g hg=>⟨(k6 g hg).1,(k6 g hg).2⟩),?_⟩
  rw [k5.at hpb ht (fun e=> ?_)]
  ·exact hpb
  ·have e2:pb=bs[i].2:=Option.some.inj e
   omega
theorem Xw {hs:List HI} {a b:Option Addr} {ca cb:Nat} {w:World} (hA:yH w.heap.size w (.slice a hs.length ca) hs) (hB:yH w.heap.size w (.slice b hs.length cb) hs) (hL:hs.length<=300000) (hl: ∀h∈hs,h.lines.length<=1048576):
 Calls prog 81 #[.agg #[.slice a hs.length ca],.agg #[.slice b hs.length cb]] w fun e w'=>e= .returned (.bool true)/\Below w.heap.size w w':=by
 have hb0:=((Below.refl w.heap.size w).alloc (Nat.le_refl _) (.cells #[.slice a hs.length ca] 32)).alloc (by simp) (.cells #[.slice b hs.length cb] 32)
 have hP1:=heap_alloc_new w (.cells #[.slice a hs.length ca] 32)
 have hP2:=heap_alloc_new (w.alloc (.cells #[.slice a hs.length ca] 32)) (.cells #[.slice b hs.length cb] 32)
 rw [World.size_alloc] at hP2
 have hP1':=(Below.heap_alloc (w.alloc (.cells #[.slice a hs.length ca] 32)) (.cells #[.slice b hs.length cb] 32) w.heap.size (by simp)).trans hP1
 have hz:((w.alloc (.cells #[.slice a hs.length ca] 32)).alloc (.cells #[.slice b hs.length cb] 32)).heap.size=w.heap.size+2:=by simp
 go_enter func81,ntmps81
 go_wp2_with fail
 generalize (w.alloc (.cells #[.slice a hs.length ca] 32)).alloc (.cells #[.slice b hs.length cb] 32)=W0 at *
 clear hP1
 go_loopg [5] hs.length (fun g t wr=> ∃k:Nat,g=hs.length-k/\k<=hs.length/\t= .int .i64 k/\Below W0.heap.size W0 wr)
 case atStart=>exact ⟨0,by omega,by omega,rfl,Below.refl _ _⟩
 case round=>
  obtain ⟨k,hgk,hkl,rfl,hbel⟩:=hrel
  have hG:Hid (gk=hs.length-k):=hgk
  clear hgk
  have hsw:=hbel.size
  have hbw:=hb0.trans (hbel.mono (by omega))
  have p1:wr.cell? ⟨w.heap.size,0,none⟩=some (.slice a hs.length ca):=za ((hbel.block w.heap.size (by omega)).trans hP1') rfl
  have p2:wr.cell? ⟨w.heap.size+1,0,none⟩=some (.slice b hs.length cb):=za ((hbel.block (w.heap.size+1) (by omega)).trans hP2) rfl
  by_cases hk:k<hs.length
  ·have hkI:(k:Int)<hs.length:=by omega
   obtain ⟨bA,oA,a1,c1,rfl,hbA,r0,r1,r2,r3,r4,hsA⟩:=(hA.below hbw).at hk
   obtain ⟨bB,oB,a2,c2,rfl,hbB,t0,t1,t2,t3,t4,hsB⟩:=(hB.below hbw).at hk
   have l1:=hl _ (List.getElem_mem hk)
   generalize hs[k]=h at *
   have q1:=(Below.refl wr.heap.size wr).alloc (Nat.le_refl _) (ya h (.slice a1 h.lines.length c1))
   have q2:=q1.alloc q1.size (ya h (.slice a2 h.lines.length c2))
   have hX1:=heap_alloc_new wr (ya h (.slice a1 h.lines.length c1))
   have hX2:=heap_alloc_new (wr.alloc (ya h (.slice a1 h.lines.length c1))) (ya h (.slice a2 h.lines.length c2))
   rw [World.size_alloc] at hX2
   have hX1':=(Below.heap_alloc (wr.alloc (ya h (.slice a1 h.lines.length c1))) (ya h (.slice a2 h.lines.length c2)) wr.heap.size (by simp)).trans hX1
   have hzU:((wr.alloc (ya h (.slice a1 h.lines.length c1))).alloc (ya h (.slice a2 h.lines.length c2))).heap.size=wr.heap.size+2:=by simp
   have t0':(wr.alloc (ya h (.slice a1 h.lines.length c1))).cell? ⟨bB,oB+k*5,none⟩=some (.int .i64 h.fr):=(q1.cell (p:=⟨bB,oB+k*5,none⟩) (by show bB<wr.heap.size;omega)).trans t0
   have t1':(wr.alloc (ya h (.slice a1 h.lines.length c1))).cell? ⟨bB,oB+k*5+1,none⟩=some (.int .i64 h.fc):=(q1.cell (p:=⟨bB,oB+k*5+1,none⟩) (by show bB<wr.heap.size;omega)).trans t1
   have t2':(wr.alloc (ya h (.slice a1 h.lines.length c1))).cell? ⟨bB,oB+k*5+2,none⟩=some (.int .i64 h.tr):=(q1.cell (p:=⟨bB,oB+k*5+2,none⟩) (by show bB<wr.heap.size;omega)).trans t2
   have t3':(wr.alloc (ya h (.slice a1 h.lines.length c1))).cell? ⟨bB,oB+k*5+3,none⟩=some (.int .i64 h.tc):=(q1.cell (p:=⟨bB,oB+k*5+3,none⟩) (by show bB<wr.heap.size;omega)).trans t3
   have t4':(wr.alloc (ya h (.slice a1 h.lines.length c1))).cell? ⟨bB,oB+k*5+4,none⟩=some (.slice a2 h.lines.length c2):=(q1.cell (p:=⟨bB,oB+k*5+4,none⟩) (by show bB<wr.heap.size;omega)).trans t4
   have p2':(wr.alloc (ya h (.slice a1 h.lines.length c1))).cell? ⟨w.heap.size+1,0,none⟩=some (.slice (some ⟨bB,oB,none⟩) hs.length cb):=(q1.cell (p:=⟨w.heap.size+1,0,none⟩) (by show w.heap.size+1<wr.heap.size;omega)).trans p2
   clear hX1 t0 t1 t2 t3 t4
   have e0: ∀x:Int,(x !=x)=false:=by simp
   go_wp2_with fail
   generalize (wr.alloc (ya h (.slice a1 h.lines.length c1))).alloc (ya h (.slice a2 h.lines.length c2))=U at *
   have hbU:=hbel.trans (q2.mono (by omega))
   have hsA':=hsA.below (q2.mono (by omega))
   have hsB':=hsB.below (q2.mono (by omega))
   clear t0' t1' t2' t3' t4' p2' r0 r1 r2 r3 r4 p1 p2 hsA hsB q1
   unfold ya at hX1' hX2
   generalize h.lines=M at *
   go_loopg [8] M.length (fun g t wi=> ∃j:Nat,g=M.length-j/\j<=M.length/\t= .int .i64 j/\Below U.heap.size U wi)
   case atStart=>exact ⟨0,by omega,by omega,rfl,Below.refl _ _⟩
   case round=>
    rename World=>wi
    obtain ⟨j,hgj,hjl,rfl,hbi⟩:=hrel
    have hGj:Hid (_=M.length-j):=hgj
    clear hgj
    have hsi:=hbi.size
    have x1:wi.cell? ⟨wr.heap.size,4,none⟩=some (.slice a1 M.length c1):=za ((hbi.block wr.heap.size (by omega)).trans hX1') rfl
    have x2:wi.cell? ⟨wr.heap.size+1,4,none⟩=some (.slice a2 M.length c2):=za ((hbi.block (wr.heap.size+1) (by omega)).trans hX2) rfl
    by_cases hj:j<M.length
    ·have hjI:(j:Int)<M.length:=by omega
     obtain ⟨g1,o1,rfl,hg1,u0,u1⟩:=(hsA'.below (hbi.mono (by omega))).at hj
     obtain ⟨g2,o2,rfl,hg2,v0,v1⟩:=(hsB'.below (hbi.mono (by omega))).at hj
     generalize M[j]=sx at *
     have hjI0:(0:Int)<=(j:Int):=by omega
     go_wp2_with fail
     go_quiet (fail)
     go_wp2_with fail
     go_roundg (M.length-(j+1))
     ·exact ⟨j+1,rfl,by omega,by push_cast;rfl,Below.drewN' hbi⟩
     ·have:=hGj.out;omega
    ·have hjI: ¬((j:Int)<M.length):=by omega
     go_wp2_with fail
     go_roundg (hs.length-(k+1))
     ·exact ⟨k+1,rfl,by omega,by push_cast;rfl,hbU.trans (hbi.mono (by omega))⟩
     ·have:=hG.out;omega
  ·have hkI: ¬((k:Int)<hs.length):=by omega
   go_wp2_with fail
   go_ret
   exact ⟨rfl,hbw⟩
def GH (base wb ga:Nat) (x:WV) (B:Bk) (bs:List (HI×Nat)) (n:Nat) (w w':World):Prop:=
 ∃(x':WV) (E:List (Value×Value)),zC base wb x' { B with l:=B.l++E } w'/\E.length=4*n/\x'.c=x.c+n/\zs base w w' (fun g=>g=ga\/ ∃q∈bs,q.2=g)/\ ∀p∈E,∀g,p.1.ownBlock=some g->(∃q∈bs,q.2=g)\/w.heap.size<=g
theorem wr1 {M:Nat} (h:M<=1048576):IntKind.i64.wrap ((M:Int)+1)=(M:Int)+1:=by rw [IntKind.wrap_i64];omega
theorem FC (args:Array Value) (w:World):(callFunc 81 args).run prog w= .ok (.enter 81 args) w:=enters_of func81 (by kernel_rfl) rfl args w
theorem KM {base wb bl ga:Nat} {x:WV} {B:Bk} {w:World} {hs:List HI} {vr:Value} {bs:List (HI×Nat)} {a:Option Addr} {cap:Nat} (K:zC base wb x B w) (L:qO bl ga vr bs qX w) (hmap:bs.map (·.1)=hs) (hn:0<hs.length) (hLim:Lim hs) (hbl:bl<=w.heap.size) (hbase:base<=w.heap.size)
 (hfl: ∀p∈B.l,∀q∈bs,p.1.ownBlock=none\/p.1.ownBlock≠some q.2) (hfh:Hid (∀p∈B.h,p.1.ownBlock=none\/p.1.ownBlock≠some ga)) (hown: ∀g,vr.ownBlock=some g->x.l.ownBlock≠some g/\x.lm.ownBlock≠some g)
 (hp: ∀w',zs base w w' (fun g=>g=ga\/ ∃q∈bs,q.2=g)->yH w.heap.size w' (.slice a hs.length cap) hs) (hc:x.c<=7000000000000) (hll:B.l.length<=700000000000):
 Calls prog 87 #[.pointer (some ⟨wb,0,none⟩),.slice (some ⟨ga,0,none⟩) (hs.length+2) (hs.length+2),vr,.agg #[.slice a hs.length cap]] w fun e w'=>e= .returned (.bool true)/\GH base wb ga x B bs hs.length w w':=by
 have hb0:=(Below.refl w.heap.size w).alloc (Nat.le_refl _) (.cells #[.slice a hs.length cap] 32)
 have hP1:=heap_alloc_new w (.cells #[.slice a hs.length cap] 32)
 have hz:(w.alloc (.cells #[.slice a hs.length cap] 32)).heap.size=w.heap.size+1:=by simp
 have hp0:=hp _ ((zs.of_below hb0.drew).mono fun _ _ h=>h.elim)
 have hga:=(Array.getElem?_eq_some_iff.1 L.all).1
 have hL0:yH w.heap.size w (.slice (some ⟨ga,0,none⟩) hs.length (hs.length+2)) hs:=L.hunks hmap
 have hsame:=Xw (w:=(w.alloc (.cells #[.slice a hs.length cap] 32)).drew) ((hL0.below hb0.drew).mono hb0.size) (hp0.mono hb0.size) hLim.1 (fun h hh=>(hLim.2 h hh).1)
 have hlh:=hLim.1
 have c0:(w.alloc (.cells #[.slice a hs.length cap] 32)).cell? ⟨w.heap.size,0,none⟩=some (.slice a hs.length cap):=za hP1 rfl
 obtain ⟨n,hnE⟩: ∃n,hs.length=n:=⟨_,rfl⟩
 have hnH:Hid (hs.length=n):=hnE
 have hpH:Hid (∀w',zs base w w' (fun g=>g=ga\/ ∃q∈bs,q.2=g)->yH w.heap.size w' (.slice a n cap) hs):=by rw [<-hnE];exact hp
 have hsH:Hid _:=hsame
 have hLimH:Hid (Lim hs):=hLim
 clear hp hp0 hsame hLim hL0
 rw [hnE] at hn hb0 hP1 hz hlh hsH c0 ⊢
 have hnz: ¬((n:Int)=0):=by omega
 clear hnE
 go_enter func87,ntmps87
 go_wp2_with fail
 generalize w.alloc (.cells #[.slice a n cap] 32)=W0 at *
 have hI0:W0.drew.cell? ⟨w.heap.size,0,none⟩=some (.slice a n cap):=c0
 have hcall:Calls prog 81 #[.agg #[.slice (some ⟨ga,0,none⟩) n (n+2)],.agg #[.slice a n cap]] W0.drew fun e w'=> ∃v,e= .returned v/\(v= .bool true/\Below W0.drew.heap.size W0.drew w'):=Calls.mono hsH.out fun e w' h=>⟨_,h.1,rfl,h.2⟩
 refine wp_region_any yg (yS.any (I:=fun w'=>w'.cell? ⟨w.heap.size,0,none⟩=some (.slice a n cap)) ?_)
 refine zp (i:=0) (n:=6) (v:= .slice (some ⟨ga,0,none⟩) (n+2) (n+2)) rfl (by kernel_rfl) (fun c a w h=>h) ⟨by simp [Region.wanted],fun w' hw=> ?_⟩ ?_
 ·simp [execOp,go_sem,Act.eval]
 refine zp (i:=1) (n:=5) (v:= .int .i64 (n:Int)) rfl (by kernel_rfl) (fun c a w h=>h) ⟨by simp [Region.wanted],fun w' hw=> ?_⟩ ?_
 ·simp [execOp,go_sem,Act.eval,Act.put]
 refine zp (i:=2) (n:=4) (v:= .slice (some ⟨ga,0,none⟩) n (n+2)) rfl (by kernel_rfl) (fun c a w h=>h) ⟨by simp [Region.wanted],fun w' hw=> ?_⟩ ?_
 ·have k1:(n:Int)<=(n:Int)+2:=(by omega);simp [execOp,go_sem,Act.eval,Act.put,k1]
 refine zp (i:=3) (n:=3) (v:= .agg #[.slice (some ⟨ga,0,none⟩) n (n+2)]) rfl (by kernel_rfl) (fun c a w h=>h) ⟨by simp [Region.wanted],fun w' hw=> ?_⟩ ?_
 ·simp [execOp,go_sem,Act.eval,Act.put]
 refine zp (i:=4) (n:=2) (v:= .agg #[.slice a n cap]) rfl (by kernel_rfl) (fun c a w h=>h) ⟨by simp [Region.wanted],fun w' hw=> ?_⟩ ?_
 ·simp [execOp,go_sem,Act.eval,Act.put,hw]
 refine yy (i:=5) (n:=1) hI0 (by kernel_rfl) ?_
 refine xK rfl rfl 81 _ _ rfl #[.agg #[.slice (some ⟨ga,0,none⟩) n (n+2)],.agg #[.slice a n cap]] (by simp [Act.eval,Act.put]) (FC _ _) (fun v w'=>v= .bool true/\Below W0.drew.heap.size W0.drew w') hcall ?_
 rintro v W1 ⟨rfl,b1⟩
 have hI1:W1.cell? ⟨w.heap.size,0,none⟩=some (.slice a n cap):=(b1.cell (p:=⟨w.heap.size,0,none⟩) (by show w.heap.size<W0.heap.size;omega)).trans hI0
 refine zp (i:=6) (n:=0) (v:= .bool true) rfl (by kernel_rfl) (fun c a w h=>h) ⟨by simp [Region.wanted],fun w' hw=> ?_⟩ ?_
 ·simp [execOp,go_sem,Act.eval,Act.put]
 refine qi hI1 (by kernel_rfl) ?_
 have hbW:Below w.heap.size w W1:=hb0.drew.trans (b1.mono (by show w.heap.size<=W0.heap.size;omega))
 have hPW:W1.heap[w.heap.size]? =some (.cells #[.slice a n cap] 32 (0,0)):=(b1.block w.heap.size (by show w.heap.size<W0.heap.size;omega)).trans hP1
 have hzW:=b1.size
 clear hcall hsH hI0 c0 b1 hP1 hb0
 simp only [Act.put]
 have hll2:Hid (∀h∈hs,h.lines.length<=1048576):=fun h hh=>(hLimH.out.2 h hh).1
 have hallW:=(hbW.block ga hga).trans L.all
 have hbn:Hid (bs.length=n):=by
  have h1:=congrArg List.length hmap
  rw [List.length_map,hnH.out] at h1
  exact h1
 have g7: ∀k,(zM bs++qX)[n*5+k]? =qX[k]? :=fun k=>by
  rw [List.getElem?_append_right (by rw [xh,hbn.out];omega),xh,hbn.out]
  congr 1
  omega
 have z0:W1.cell? ⟨ga,n*5,none⟩=some (.int .i64 77):=za hallW (by simpa [qX] using g7 0)
 have z4:W1.cell? ⟨ga,n*5+4,none⟩=some (.slice none 0 0):=za hallW (by simpa [qX] using g7 4)
 have z5:W1.cell? ⟨ga,(n+1)*5,none⟩=some (.int .i64 78):=za hallW (by rw [show (n+1)*5=n*5+5 by omega];simpa [qX] using g7 5)
 have z9:W1.cell? ⟨ga,(n+1)*5+4,none⟩=some (.slice none 0 0):=za hallW (by rw [show (n+1)*5+4=n*5+9 by omega];simpa [qX] using g7 9)
 go_wp2_with fail
 obtain ⟨gr,cr,rfl,hgr,hgrl,_⟩:=zv L.rows (by rw [hbn.out];exact hn)
 rw [hbn.out] at L hown ⊢
 have hst:Hid (yA base wb ga x B (.slice (some ⟨gr,0,none⟩) n cr) bs w 0 x [] W1):=yA.start (K.old fun g hg=>hbW.block g hg) L hbW hfl hown
 clear z0 z4 z5 z9 g7 hallW hI1
 go_loopg [10,11] n (fun g t10 t11 wi=> ∃(i:Nat) (x':WV) (E:List (Value×Value)),g=n-i/\i<=n/\t11= .int .i64 i/\t10= .bool true/\Hid (yA base wb ga x B (.slice (some ⟨gr,0,none⟩) n cr) bs w i x' E wi)/\wi.heap[w.heap.size]? =some (.cells #[.slice a n cap] 32 (0,0)))
 case atStart=>exact ⟨0,x,[],by omega,by omega,rfl,rfl,hst,hPW⟩
 case round=>
  rename World=>wi
  obtain ⟨i,x1,E,hgi,hin,rfl,rfl,hLL,hPi⟩:=hrel
  have hG:Hid (_=n-i):=hgi
  clear hgi hst hPW
  have hzi:w.heap.size<wi.heap.size:=(Array.getElem?_eq_some_iff.1 hPi).1
  have p0:wi.cell? ⟨w.heap.size,0,none⟩=some (.slice a n cap):=za hPi rfl
  by_cases hi2:i<n
  ·have hiI:(i:Int)<n:=by omega
   have hib:i<bs.length:=by rw [hbn.out];exact hi2
   have his:i<hs.length:=by rw [hnH.out];exact hi2
   obtain ⟨b,off,a1,c1,rfl,hbA,_,_,_,_,r4,_⟩:=(hpH.out wi (hLL.out.fr.mono fun g _ h=> .inr h)).at his
   have hhi:hs[i]=bs[i].1:=by simp [<-hmap]
   have l1:bs[i].1.lines.length<=1048576:=by rw [<-hhi];exact hll2.out _ (List.getElem_mem his)
   rw [hhi] at r4
   have hpm:bs[i]∈bs:=List.getElem_mem hib
   have hrc:wi.cell? ⟨gr,i,none⟩=some (qZ bs[i]):=by
    obtain ⟨hl,hr⟩:=L.rows
    rcases hr with ⟨e,_⟩ | ⟨g',cap',cur,e,hb,hg,h1,h2,h3,h4⟩
    ·cases e
    ·cases e
     refine za (((hLL.out.rows gr rfl).1).trans hg) ?_
     have h5:(cur.toList.take (bs.length*1))[i]? =(bs.map qZ)[i]? :=by rw [h4]
     rw [List.getElem?_take_of_lt (by omega)] at h5
     simpa [hib] using h5
   unfold qZ at hrc
   have hline:=(hLL.out.line bs[i] (by rw [List.drop_eq_getElem_cons hib];exact List.mem_cons_self)).trans (L.line bs[i] hpm).2
   have hrow:wi.ownsRow bl 93 2 (qZ bs[i]) (bs[i].1.lines.length+2) (yO bs[i].1):=zu (L.row hpm l1) fun g hg=>by cases hg;exact hLL.out.line bs[i] (by rw [List.drop_eq_getElem_cons hib];exact List.mem_cons_self)
   have hbeh:=L.behind hpm
   have hqlt:bs[i].2<w.heap.size:=(Array.getElem?_eq_some_iff.1 (L.line bs[i] hpm).2).1
   have hbq: ∀k,wi.cell? ⟨bs[i].2,k,none⟩=w.cell? ⟨bs[i].2,k,none⟩:=fun k=>World.cell?_of_block (a:=⟨bs[i].2,k,none⟩) (hLL.out.line bs[i] (by rw [List.drop_eq_getElem_cons hib];exact List.mem_cons_self))
   have hrowH:Hid _:=hrow
   have hpmH:Hid (bs[i]∈bs):=hpm
   have hone2: ∀u∈ [Value.int .u8 33,.string ym.text],u.oneCell'=true:=by intro u hu;simp at hu;rcases hu with rfl | rfl<;>rfl
   have hnewB:=heap_alloc_new wi (.cells #[.int .u8 0,.string ByteArray.empty] 93)
   clear hrow hpm
   obtain ⟨q,hqE⟩: ∃q,bs[i].2=q:=⟨_,rfl⟩
   obtain ⟨M,hME⟩: ∃M,bs[i].1.lines.length=M:=⟨_,rfl⟩
   have hqH:Hid (bs[i].2=q):=hqE
   have hMH:Hid (bs[i].1.lines.length=M):=hME
   rw [hqE] at hrc hbeh hbq hqlt
   rw [hME] at hrc hbeh l1 r4
   clear hqE hME hhi hline
   go_wp2_with (refine yj rfl 93 (.tmp 14) (.tmp 83) rfl wi.heap.size 0 ?_ [.int .u8 33,.string ym.text] [] [.int .u8 0,.string ByteArray.empty] [] ?_ Zh 93 hnewB rfl rfl hone2 ?_
                go_loud (rfl)
                go_loud (rfl)
                intro wj hj zj oj uj
                have bj0:wj.cell? ⟨wi.heap.size,0,none⟩=some (.int .u8 33):=za hj rfl
                have bj1:wj.cell? ⟨wi.heap.size,1,none⟩=some (.string ym.text):=za hj rfl
                have oj': ∀k,k<wi.heap.size->wj.heap[k]? =wi.heap[k]? :=fun k hk=>(oj k (by omega)).trans (Below.heap_alloc wi _ k hk)
                have hqj: ∀k,wj.cell? ⟨q,k,none⟩=w.cell? ⟨q,k,none⟩:=fun k=>(World.cell?_of_block (a:=⟨q,k,none⟩) (oj' q (by omega))).trans (hbq k)
                have y0:=(hqj _).trans hbeh.1
                have y1:=(hqj _).trans hbeh.2.1
                have y2:=(hqj _).trans hbeh.2.2.1
                have y3:=(hqj _).trans hbeh.2.2.2
                clear hj oj hqj)
   have hM0:(0:Int)<=(M:Int):=by omega
   have hM1:(M:Int)<(M:Int)+2:=by omega
   have hM2:(M:Int)<((M+2:Nat):Int):=by omega
   have hM3:(M:Int)+1<((M+2:Nat):Int):=by omega
   have hM4:(M:Int)+1<(M:Int)+2:=by omega
   have hM5:(0:Int)<=(M:Int)+1:=by omega
   have hM6:=wr1 l1
   go_quiet (fail)
   go_wp2_with fail
   have hcall:=yA.call (W:=wj.drewN nq) L (yA.old (W:=wj.drewN nq) L hLL.out (fun k hk=>oj' k hk) (by show wi.heap.size<=wj.heap.size;rw [zj,World.size_alloc];exact Nat.le_succ _) ((zD.alloc wi _).trans uj)) hib (by rw [hMH.out];exact l1) hbl hbase (by rw [hbn.out];exact hlh) hc hll ((oj' w.heap.size hzi).trans hPi) (by decide) (Nat.le_refl _)
   rw [hqH.out,hMH.out] at hcall
   refine hcall.mono ?_
   rintro e w2 ⟨rfl,x2,E2,hLL2,hP2⟩
   have hLL2H:Hid _:=hLL2
   clear hLL2 hcall y0 y1 y2 y3 bj0 bj1 hrc r4 p0
   go_wp2_with fail
   go_roundg (n-(i+1))
   ·exact ⟨i+1,x2,E2,rfl,by omega,by push_cast;rfl,rfl,hLL2H,hP2⟩
   ·have:=hG.out;omega
  ·obtain rfl:i=n:=by omega
   have hiI: ¬((i:Int)<i):=by omega
   obtain ⟨C,hC,hCl⟩: ∃C:List Value,wi.heap[ga]? =some (.cells C.toArray 61 (0,0))/\Hid (C.length=(i+2)*5):=⟨_,hLL.out.all.trans L.all,by show _=_;rw [List.length_append,xh,hbn.out];show _+10=_;omega⟩
   have hone5: ∀u∈ [Value.int .i64 0,.int .i64 0,.int .i64 0,.int .i64 0,.slice none 0 0],u.oneCell'=true:=by intro u hu;simp at hu;rcases hu with rfl | rfl<;>rfl
   go_wp2_with fail
   go_loopg [15] (i+2) (fun g t15 wk=> ∃(j:Nat) (C:List Value),g=i+2-j/\j<=i+2/\t15= .int .i64 j/\wk.heap[ga]? =some (.cells C.toArray 61 (0,0))/\Hid (C.length=(i+2)*5)/\Hid ((∀k,k≠ga->wk.heap[k]? =wi.heap[k]?)/\wk.heap.size=wi.heap.size/\zD wi wk))
   case atStart=>exact ⟨0,C,by omega,by omega,rfl,hC,hCl,⟨fun _ _=>rfl,rfl,zD.refl _⟩⟩
   case round=>
    rename World=>wk
    obtain ⟨j,C2,hgj,hj,rfl,hC2,hC2l,hk⟩:=hrel
    have hGj:Hid (_=i+2-j):=hgj
    clear hgj
    by_cases hj2:j<i+2
    ·have hjI:(j:Int)<(i:Int)+2:=by omega
     have hsp:wk.heap[ga]? =some (.cells (C2.take (j*5)++((C2.drop (j*5)).take 5++(C2.drop (j*5)).drop 5)).toArray 61 (0,0)):=by rw [List.take_append_drop,List.take_append_drop];exact hC2
     have hl1:(C2.take (j*5)).length=j*5:=by rw [List.length_take,hC2l.out];omega
     have hl2:((C2.drop (j*5)).take 5).length=5:=by rw [List.length_take,List.length_drop,hC2l.out];omega
     have hl3:Hid ((C2.take (j*5)++([Value.int .i64 0,.int .i64 0,.int .i64 0,.int .i64 0,.slice none 0 0]++(C2.drop (j*5)).drop 5)).length=(i+2)*5):=by
      show _=_
      rw [List.length_append,hl1,List.length_append,List.length_drop,List.length_drop,hC2l.out]
      show j*5+(5+_)=_
      omega
     go_wp2_with (refine yj rfl 61 (.tmp 111) (.tmp 110) rfl ga (j*5) ?_ [.int .i64 0,.int .i64 0,.int .i64 0,.int .i64 0,.slice none 0 0] (C2.take (j*5)) ((C2.drop (j*5)).take 5) ((C2.drop (j*5)).drop 5) ?_ ZA 61 hsp hl1 hl2 hone5 ?_
                  go_loud (rfl)
                  go_loud (rfl)
                  intro wl hl zl ol ul)
     go_roundg (i+2-(j+1))
     ·exact ⟨j+1,_,rfl,by omega,by push_cast;rfl,hl,hl3,⟨fun k hk'=>(ol k hk').trans (hk.out.1 k hk'),zl.trans hk.out.2.1,hk.out.2.2.trans ul⟩⟩
     ·have:=hGj.out;omega
    ·have hjI: ¬((j:Int)<(i:Int)+2):=by omega
     have hR:Hid (GH base wb ga x B bs i w wk):=by
      have h:=hLL.out
      refine ⟨x1,E,zC.skip_h (vb:=some ga) h.kept (fun g hg _=>by cases hg;exact ⟨_,_,hC⟩) (fun g _ hne=>hk.out.1 g (fun e=>hne (by rw [e]))) (fun p hp=> .inl (hfh.out p hp)),h.len,h.c,?_,h.new⟩
      have hF:zs base wi wk (fun g=>g=ga):=⟨Nat.le_of_eq hk.out.2.1.symm,fun g _=>(Decidable.em (g=ga)).elim (fun e=> .inr (.inl e)) (fun e=> .inl (hk.out.1 g e)),hk.out.2.2⟩
      exact (h.fr.trans hF).mono fun g _ hg=>hg.elim .inr .inl
     go_wp2_with fail
     go_ret
     exact ⟨rfl,hR.out⟩
theorem Eq {a:Option Addr} {cap:Nat} {w:World} :
 Calls prog 86 #[.agg #[.slice a 0 cap]] w fun e w'=>e= .returned (.tuple #[.agg #[.slice none 0 0],.slice none 0 0,.slice none 0 0])/\Below w.heap.size w w':=by
 have hb0:=((Below.refl w.heap.size w).alloc (Nat.le_refl _) (.cells #[.slice a 0 cap] 32)).alloc (by simp) (.cells #[.slice none 0 0] 32)
 have hP2:=heap_alloc_new (w.alloc (.cells #[.slice a 0 cap] 32)) (.cells #[.slice none 0 0] 32)
 rw [World.size_alloc] at hP2
 go_enter func86,ntmps86
 go_wp2_with fail
 generalize (w.alloc (.cells #[.slice a 0 cap] 32)).alloc (.cells #[.slice none 0 0] 32)=W0 at *
 refine bodyPost_ret (v:= .tuple #[.agg #[.slice none 0 0],.slice none 0 0,.slice none 0 0]) ?_ rfl ⟨rfl,?_⟩
 ·have hq:W0.cell? ⟨w.heap.size+1,0,none⟩=some (.slice none 0 0):=za hP2 rfl
  simp [results,results86,go_sem,hq]
 ·exact hb0
theorem Jg {wb:Nat} {v vr:Value} {a:Option Addr} {cap:Nat} {w:World} :
 Calls prog 87 #[.pointer (some ⟨wb,0,none⟩),v,vr,.agg #[.slice a 0 cap]] w fun e w'=>e= .returned (.bool true)/\Below w.heap.size w w':=by
 have hb0:=(Below.refl w.heap.size w).alloc (Nat.le_refl _) (.cells #[.slice a 0 cap] 32)
 go_enter func87,ntmps87
 go_wp2_with fail
 go_ret
 exact ⟨rfl,hb0⟩
end Go.Proofs.YtcclgodahlinbaaGreatDoor
