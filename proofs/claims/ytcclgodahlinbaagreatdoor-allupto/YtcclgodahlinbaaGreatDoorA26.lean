import Derived.Test.YtcclgodahlinbaaGreatDoorA25
import Derived.Test.YtcclgodahlinbaaGreatDoorA08
import Derived.Test.YtcclgodahlinbaaGreatDoorA24
import Derived.Laws.CopyRow
import Derived.Test.YtcclgodahlinbaaGreatDoorA15
import Derived.Laws.AppendOwnNone
namespace Go.Proofs.YtcclgodahlinbaaGreatDoor
set_option maxHeartbeats 16000000
open Tryz Go.RowKit Go
set_option maxRecDepth 100000
theorem Th:(prog.info? 30).map (fun i=>(i.zero,i.size,i.bytes))=some (some (.slice none 0 0),1,24):=by kernel_rfl
theorem Pf:(prog.info? 3).map (fun i=>(i.zero,i.size,i.bytes))=some (some (.int .i64 0),1,8):=by kernel_rfl
theorem Fp {w:World} {bl n i:Nat} {xs:List Value} {a b c d e:Value} {al:Option Addr} {cl:Nat} (h:w.ownsRow bl 61 5 (.slice al n cl) n (zP [a,b,c,d,e] i++xs.drop (i*5))) (hx:xs.length=n*5) (hi:i<n):
 ∃g,al=some ⟨g,0,none⟩/\g<w.heap.size/\(∃cur,w.heap[g]? =some (.cells cur 61 (0,0))/\i*5+4<cur.size)/\(((((w.setCell ⟨g,i*5,none⟩ a).setCell ⟨g,i*5+1,none⟩ b).setCell ⟨g,i*5+2,none⟩ c).setCell ⟨g,i*5+3,none⟩ d).setCell ⟨g,i*5+4,none⟩ e).ownsRow bl 61 5 (.slice al n cl) n (zP [a,b,c,d,e] (i+1)++xs.drop ((i+1)*5)):=by
 rcases h.2 with ⟨_,h0⟩ | ⟨g,cap,cur,e',hb,hg,h1,h2,h3,h4⟩
 ·omega
 ·cases e'
  have hsz:i*5+4<cur.size:=by rw [h3];omega
  have hpl:(zP [a,b,c,d,e] i).length=i*5:=zW [a,b,c,d,e] i
  refine ⟨g,rfl,(Array.getElem?_eq_some_iff.1 hg).1,⟨cur,hg,hsz⟩,?_,.inr ⟨g,cl,_,rfl,hb,zb _ _ _ _ _ _ _ (zb _ _ _ _ _ _ _ (zb _ _ _ _ _ _ _ (zb _ _ _ _ _ _ _ (zb _ _ _ _ _ _ _ hg)))),h1,h2,by simp [h3],?_⟩⟩
  ·rw [List.length_append,zW,List.length_drop,hx]
   show (i+1)*5+_=_
   omega
  ·have h5:List.take (n*5) (((((cur.setIfInBounds (i*5) a).setIfInBounds (i*5+1) b).setIfInBounds (i*5+2) c).setIfInBounds (i*5+3) d).setIfInBounds (i*5+4) e).toList=(((((List.take (n*5) cur.toList).set (i*5) a).set (i*5+1) b).set (i*5+2) c).set (i*5+3) d).set (i*5+4) e:=by
    simp [List.take_set]
   rw [h5,h4]
   apply List.ext_getElem?
   intro j
   have hl1:(zP [a,b,c,d,e] i++xs.drop (i*5)).length=n*5:=by rw [List.length_append,hpl,List.length_drop,hx];omega
   have hl2:(zP [a,b,c,d,e] (i+1)).length=(i+1)*5:=zW [a,b,c,d,e] (i+1)
   simp only [List.getElem?_set,List.length_set,hl1]
   have hp:=fun k hk=>jn [a,b,c,d,e] (i+1) i k (Nat.lt_succ_self i) hk
   by_cases e4:i*5+4=j
   ·subst e4
    rw [if_pos rfl,if_pos (by omega),List.getElem?_append_left (by rw [hl2];omega)]
    simpa using (hp 4 (by simp)).symm
   rw [if_neg e4]
   by_cases e3:i*5+3=j
   ·subst e3
    rw [if_pos rfl,if_pos (by omega),List.getElem?_append_left (by rw [hl2];omega)]
    simpa using (hp 3 (by simp)).symm
   rw [if_neg e3]
   by_cases e2:i*5+2=j
   ·subst e2
    rw [if_pos rfl,if_pos (by omega),List.getElem?_append_left (by rw [hl2];omega)]
    simpa using (hp 2 (by simp)).symm
   rw [if_neg e2]
   by_cases e1:i*5+1=j
   ·subst e1
    rw [if_pos rfl,if_pos (by omega),List.getElem?_append_left (by rw [hl2];omega)]
    simpa using (hp 1 (by simp)).symm
   rw [if_neg e1]
   by_cases e0:i*5=j
   ·subst e0
    rw [if_pos rfl,if_pos (by omega),List.getElem?_append_left (by rw [hl2];omega)]
    simpa using (hp 0 (by simp)).symm
   rw [if_neg e0]
   by_cases ej:j<i*5
   ·rw [List.getElem?_append_left (by rw [hpl];omega),List.getElem?_append_left (by rw [hl2];omega)]
    rw [zP,List.getElem?_append_left (by rw [hpl];omega)]
   ·rw [List.getElem?_append_right (by rw [hpl];omega),List.getElem?_append_right (by rw [hl2];omega),List.getElem?_drop,List.getElem?_drop,hpl,hl2]
    congr 1
    omega
theorem Gm {base wb bl N cl':Nat} {al':Option Addr} {x:WV} {B:Bk} {E:List (Value×Value)} {w4 w5:World} {c:Int} {v':Value} {ob:Obj} (K:zC base wb x { B with h:=B.h++E } w4) (hN:N<=1990000)
 (row4:w4.ownsRow bl 61 5 (.slice al' N cl') N (zP (jF (.int .i64 c)) N)) (hE: ∀p∈E,p.2= .int .i64 c/\ ∃al m cl,p.1= .slice al m cl/\m<=N/\ ∀a,al=some a->a=⟨a.block,0,none⟩) (hfr: ∀p∈B.h,p.1.ownBlock=none\/p.1.ownBlock≠(Value.slice al' N cl').ownBlock)
 (row5:w5.ownsRow bl 61 5 v' (N+1) (zP (jF (.int .i64 c)) N++jF (.int .i64 c)))
 (h3:(v'.ownBlock=(Value.slice al' N cl').ownBlock/\(w4.alloc ob).grownBy w5 (Value.slice al' N cl').ownBlock)\/((∀g,v'.ownBlock=some g->(w4.alloc ob).heap.size<=g)/\(w4.alloc ob).grownBy w5 none)):
 zC base wb x { B with h:=B.h++E } w5/\zs base w4 w5 (fun g=>some g=(Value.slice al' N cl').ownBlock)/\w5.ownsRow bl 61 5 v' (N+1) (zP (jF (.int .i64 c)) (N+1))/\(∀p∈B.h,p.1.ownBlock=none\/p.1.ownBlock≠v'.ownBlock)/\(∀g,g<w4.heap.size->some g≠(Value.slice al' N cl').ownBlock->w5.heap[g]? =w4.heap[g]?):=by
 have hrow:w5.ownsRow bl 61 5 v' (N+1) (zP (jF (.int .i64 c)) (N+1)):=row5
 have hold: ∀g,g<w4.heap.size->some g≠(Value.slice al' N cl').ownBlock->w5.heap[g]? =w4.heap[g]? :=fun g hg hne=>by
  rcases h3 with ⟨_,h⟩ | ⟨_,h⟩
  ·rw [h.block g (by simp;omega) hne];exact Below.heap_alloc w4 ob g hg
  ·rw [h.block g (by simp;omega) (by simp)];exact Below.heap_alloc w4 ob g hg
 have hz:w4.heap.size<=w5.heap.size:=by
  rcases h3 with ⟨_,h⟩ | ⟨_,h⟩
  ·have:=h.size;simp at this;omega
  ·have:=h.size;simp at this;omega
 have hOut:zD w4 w5:=by
  rcases h3 with ⟨_,h⟩ | ⟨_,h⟩
  ·exact (zD.alloc w4 ob).trans (zD.of_grown h)
  ·exact (zD.alloc w4 ob).trans (zD.of_grown h)
 refine ⟨?_,⟨hz,fun g hg=> ?_,hOut⟩,hrow,?_,hold⟩
 ·refine K.skip_h (vb:=(Value.slice al' N cl').ownBlock) (fun g hg _=> ?_) hold (fun p hp=> ?_)
  ·obtain ⟨c,hc⟩:=ze row4 hg
   exact ⟨c,_,hc⟩
  ·rcases List.mem_append.1 hp with hp' | hp'
   ·exact .inl (hfr p hp')
   ·by_cases hq:p.1.ownBlock=(Value.slice al' N cl').ownBlock
    ·right
     rcases h3 with ⟨e,_⟩ | ⟨_,h⟩
     ·obtain ⟨e2,al,m,cl,e1,hm,ha⟩:=hE p hp'
      rw [e2]
      rw [e1] at hq ⊢
      exact qx.of_owns (pat:=jF (.int .i64 c)) hrow (by omega) (by omega) (e.trans hq.symm) ha
     ·exact (K.h.ok p hp).same fun g _ ⟨c,f,hg⟩=>by
       have hlt:=(Array.getElem?_eq_some_iff.1 hg).1
       rw [h.block g (by simp;omega) (by simp)];exact Below.heap_alloc w4 ob g hlt
    ·exact .inl (.inr hq)
 ·by_cases hq:some g=(Value.slice al' N cl').ownBlock
  ·exact .inr (.inl hq)
  ·exact .inl (hold g hg hq)
 ·intro p hp
  rcases h3 with ⟨e,_⟩ | ⟨e,_⟩
  ·rw [e];exact hfr p hp
  ·cases hv:p.1.ownBlock with
   | none=>exact .inl rfl
   | some g=>
     right
     intro e2
     have h1:=e g e2.symm
     have hM:=((K.h.ok p (List.mem_append_left _ hp)).lt g hv).1
     simp at h1
     omega
def xI (base wb bl:Nat) (x:WV) (B:Bk) (v:Value) (hv:List HV) (w:World) (i:Nat) (wi:World):Prop:=
 ∃(x':WV) (E:List (Value×Value)),zC base wb x' { B with l:=B.l++E } wi/\E.length=4*i/\x'.c=x.c+i/\(∀q∈hv.drop i,wi.ownsRow bl 93 2 q.2 q.1.lines.length (zg q.1.lines))/\wi.ownsRow bl 61 5 v hv.length (hunkCells hv)/\
  (∀p∈B.l++E,∀q∈hv.drop i,p.1.ownBlock=none\/p.1.ownBlock≠q.2.ownBlock)/\zs base w wi (fun g=>bl<=g)/\ ∀p∈E,∀g,p.1.ownBlock=some g->bl<=g
theorem xI.start {base wb bl:Nat} {x:WV} {B:Bk} {v:Value} {hv:List HV} {w w0:World} (K:zC base wb x B w0) (hso:HSo bl v hv w0) (hF:zs base w w0 (fun g=>bl<=g)) (hfr: ∀p∈B.l,∀q∈hv,p.1.ownBlock=none\/p.1.ownBlock≠q.2.ownBlock):xI base wb bl x B v hv w 0 w0:=by
 refine ⟨x,[],by simpa using K,rfl,rfl,fun q hq=> ?_,hso.owns,fun p hp q hq=> ?_,hF,by simp⟩
 ·rw [List.drop_zero] at hq
  rcases hso with ⟨rfl,_⟩ | ⟨g,cap,_,_,hs⟩
  ·simp at hq
  ·exact hs.lines q hq
 ·rw [List.drop_zero] at hq
  rw [List.append_nil] at hp
  exact hfr p hp q hq
theorem xI.next {base wb bl:Nat} {x:WV} {B:Bk} {v:Value} {hv:List HV} {w:World} {i:Nat} {wi w':World} (hi:i<hv.length) (hap:hv.Pairwise fun p q=>p.2.ownBlock=none\/p.2.ownBlock≠q.2.ownBlock) {x1:WV} {E:List (Value×Value)}
 (h:zC base wb x1 { B with l:=B.l++E } wi/\E.length=4*i/\x1.c=x.c+i/\(∀q∈hv.drop i,wi.ownsRow bl 93 2 q.2 q.1.lines.length (zg q.1.lines))/\wi.ownsRow bl 61 5 v hv.length (hunkCells hv)/\(∀p∈B.l++E,∀q∈hv.drop i,p.1.ownBlock=none\/p.1.ownBlock≠q.2.ownBlock)/\zs base w wi (fun g=>bl<=g)/\ ∀p∈E,∀g,p.1.ownBlock=some g->bl<=g)
 {x2:WV} {E2:List (Value×Value)} (k:zC base wb x2 { B with l:=B.l++E++E2 } w') (he:E2.length=4) (hc:x2.c=x1.c+1) (ho: ∀p∈E2,p.1.ownBlock=hv[i].2.ownBlock\/ ∀g,p.1.ownBlock=some g->wi.heap.size<=g) (hF:zs base wi w' (fun g=>some g=hv[i].2.ownBlock)) (hbl:bl<=wi.heap.size):
 xI base wb bl x B v hv w (i+1) w':=by
 obtain ⟨h1,h2,h3,h4,h5,h6,h7,h8⟩:=h
 have hdrop:hv.drop i=hv[i]::hv.drop (i+1):=List.drop_eq_getElem_cons hi
 have hap2: ∀q∈hv.drop (i+1),hv[i].2.ownBlock=none\/hv[i].2.ownBlock≠q.2.ownBlock:=by
  have h0:=List.Pairwise.sublist (List.drop_sublist i hv) hap
  rw [hdrop] at h0
  exact (List.pairwise_cons.1 h0).1
 have hi0:=h4 hv[i] (by rw [hdrop];exact List.mem_cons_self)
 refine ⟨x2,E++E2,by rw [<-List.append_assoc];exact k,by rw [List.length_append,h2,he];omega,by rw [hc,h3];omega,fun q hq=> ?_,?_,fun p hp q hq=> ?_,?_,fun p hp g e=> ?_⟩
 ·refine zu (h4 q (by rw [hdrop];exact List.mem_cons_of_mem _ hq)) fun g hg=> ?_
  obtain ⟨c,hcc⟩:=ze (h4 q (by rw [hdrop];exact List.mem_cons_of_mem _ hq)) hg
  refine hF.at hcc (by decide) (fun e=> ?_)
  rcases hap2 q hq with e2 | e2
  ·rw [e2] at e;cases e
  ·exact e2 (e.symm.trans hg.symm)
 ·refine zu h5 fun g hg=> ?_
  obtain ⟨c,hcc⟩:=ze h5 hg
  refine hF.at hcc (by decide) (fun e=> ?_)
  obtain ⟨c2,hc2⟩:=ze hi0 e.symm
  exact zq hcc hc2 (by decide) rfl
 ·rw [<-List.append_assoc] at hp
  rcases List.mem_append.1 hp with hp | hp
  ·exact h6 p hp q (by rw [hdrop];exact List.mem_cons_of_mem _ hq)
  ·rcases ho p hp with e | e
   ·rw [e]
    exact hap2 q hq
   ·cases hv':p.1.ownBlock with
    | none=>exact .inl rfl
    | some g=>
      right
      intro e2
      have q1:=e g hv'
      have q2:=((h4 q (by rw [hdrop];exact List.mem_cons_of_mem _ hq)).lt g e2.symm).2
      omega
 ·refine (h7.trans hF).mono fun g hg h=> ?_
  rcases h with h | h
  ·exact h
  ·exact (hi0.lt g h.symm).1
 ·rcases List.mem_append.1 hp with hp | hp
  ·exact h8 p hp g e
  ·rcases ho p hp with e2 | e2
   ·rw [e2] at e
    exact (hi0.lt g e).1
   ·have:=e2 g e
    omega
theorem Wg (P:Program) (w:World) (dT sT ty elem:TypeId) (g dLen dCap:Nat) (sp:Option Addr) (sLen sCap:Nat) (cur:Array Value) (t:TypeId) (cs:List Value)
 (hu:P.underlying dT=some (.slice elem)) (hs:(P.info? elem).map (·.size)=some 2)
 (hg:w.heap[g]? =some (.cells cur t (0,0))) (hle:sLen<=dLen) (hn:cs.length=sLen*2)
 (hsrc:sLen=0\/ ∃a,sp=some a/\ ∀j v,cs[j]? =some v->w.cell? (a.add j)=some v) (hfit:cs.length<=cur.size) (h1: ∀v∈cs,v.oneCell'=true):
 (Builtin.copy_ #[dT,sT] ty #[.slice (some ⟨g,0,none⟩) dLen dCap,.slice sp sLen sCap]).run P w=
  .ok (goInt sLen) (w.setRow g (cs++cur.toList.drop cs.length).toArray):=by
 have hmin:Nat.min sLen dLen=sLen:=Nat.min_eq_left hle
 have hst:=run_storeCells_at P g 0 t cs 0 cur w hg (by simpa using hfit) h1
 simp only [Nat.add_zero,Nat.zero_add,List.take_zero,List.nil_append] at hst
 cases hq:P.info? elem with
 | none=>simp [hq] at hs
 | some i=>
   have hi:i.size=2:=by simpa [hq] using hs
   rcases hsrc with rfl | ⟨a,rfl,hc⟩
   ·obtain rfl:cs= []:=List.eq_nil_of_length_eq_zero (by simpa using hn)
    have hself:w.setRow g ([]++cur.toList.drop ([]:List Value).length).toArray=w:=by simpa using setRow_self w g cur t (0,0) hg
    rw [hself]
    cases sp with
    | none=>simp [Builtin.copy_,run_underlying hu,Builtin.lenOf,Builtin.firstCells,sizeOf,typeInfo,hq,storeCells]
    | some a=>
      have hl:=run_loadCells_list (P:=P) w a [] (by simp)
      simp only [List.length_nil] at hl
      simp [Builtin.copy_,run_underlying hu,Builtin.lenOf,Builtin.firstCells,sizeOf,typeInfo,hq,hl,storeCells]
   ·have hl:=run_loadCells_list (P:=P) w a cs hc
    rw [hn] at hl
    simp [Builtin.copy_,run_underlying hu,Builtin.lenOf,Builtin.firstCells,sizeOf,typeInfo,hq,hi,hmin,hl,hst]
def yf (ga:Nat) (w w':World):Prop:=w.heap.size<=w'.heap.size/\(∀k,k<w.heap.size->k≠ga->w'.heap[k]? =w.heap[k]?)/\zD w w'
theorem yf.trans {ga:Nat} {a b c:World} (h:yf ga a b) (k:yf ga b c):yf ga a c:=⟨Nat.le_trans h.1 k.1,fun i hi hn=>(k.2.1 i (Nat.lt_of_lt_of_le hi h.1) hn).trans (h.2.1 i hi hn),h.2.2.trans k.2.2⟩
theorem yf.new {ga g:Nat} {a b c:World} (h:yf ga a b) (hg:a.heap.size<=g) (hs:c.heap.size=b.heap.size) (hb: ∀k,k≠g->c.heap[k]? =b.heap[k]?) (ho:zD b c):yf ga a c:=⟨by have:=h.1;omega,fun i hi hn=>(hb i (by omega)).trans (h.2.1 i hi hn),h.2.2.trans ho⟩
theorem yf.at {ga:Nat} {a b:World} (hs:b.heap.size=a.heap.size) (hb: ∀k,k≠ga->b.heap[k]? =a.heap[k]?) (ho:zD a b):yf ga a b:=⟨by omega,fun i _ hn=>hb i hn,ho⟩
theorem yf.grown {ga:Nat} {a b:World} (h:a.grownBy b none):yf ga a b:=⟨h.size,fun i hi _=>h.block i hi (by simp),zD.of_grown h⟩
theorem yf.below {ga B:Nat} {w a b:World} (h:Below B w a) (k:yf ga a b) (hB:B<=ga) (hz:B<=a.heap.size):Below B w b:=
 ⟨k.2.2.1.trans h.os,k.2.2.2.1.trans h.tape,k.2.2.2.2.trans h.output,Nat.le_trans h.size k.1,fun i hi=>(k.2.1 i (by omega) (by omega)).trans (h.block i hi)⟩
theorem yf.cell {ga k off:Nat} {a b:World} (h:yf ga a b) (hk:k<a.heap.size) (hn:k≠ga):b.cell? ⟨k,off,none⟩=a.cell? ⟨k,off,none⟩:=World.cell?_of_block (a:=⟨k,off,none⟩) (h.2.1 k hk hn)
theorem XZ {P:Program} {w:World} {ops:Array Oper} {rest:List Oper} {o:Oper} {a:Act} {Q:Exit->Act->World->Prop} (hgd:o.guard=none) (d s:Operand) (dT sT:TypeId)
 (ho:o.op= .call { callee:= .builtin .copy,args:= #[d,s],argTypes:= #[dT,sT] }) (elem:TypeId) (hu:P.underlying dT=some (.slice elem)) (hsz:(P.info? elem).map (·.size)=some 2)
 (g dLen dCap:Nat) (sp:Option Addr) (sLen sCap:Nat) (hd:a.eval d= .slice (some ⟨g,0,none⟩) dLen dCap) (hs:a.eval s= .slice sp sLen sCap)
 (cs old Z:List Value) (t:TypeId) (hg:w.heap[g]? =some (.cells (old++Z).toArray t (0,0))) (hle:sLen<=dLen) (hn:cs.length=sLen*2) (hol:old.length=cs.length)
 (hsrc:sLen=0\/ ∃ad,sp=some ad/\ ∀j v,cs[j]? =some v->w.cell? (ad.add j)=some v) (h1: ∀v∈cs,v.oneCell'=true)
 (h: ∀w',w'.heap[g]? =some (.cells (cs++Z).toArray t (0,0))->w'.heap.size=w.heap.size->(∀k,k≠g->w'.heap[k]? =w.heap[k]?)->zD w w'->wpList P ops Q rest (a.put o.dst (goInt sLen)) w'):wpList P ops Q (o::rest) a w:=by
 refine wpList_plain hgd fun K hK=> ?_
 have hrun:=Wg P w dT sT o.type elem g dLen dCap sp sLen sCap _ t cs hu hsz hg hle hn hsrc (by simp;omega) h1
 have hd2:(old++Z).toArray.toList.drop cs.length=Z:=by simp [<-hol]
 rw [hd2] at hrun
 unfold Oper.wp
 simp [execOp,ho,resolve,invoke,builtin,hd,hs,hrun,Result.andThen]
 exact hK _ _ (h _ (setRow_heap w g _ _ t _ hg) (by simp) (fun k hk=>setRow_other w g k _ hk) ⟨rfl,rfl,rfl⟩)
theorem yj {P:Program} {w:World} {ops:Array Oper} {rest:List Oper} {o:Oper} {a:Act} {Q:Exit->Act->World->Prop} (hgd:o.guard=none) (ty:TypeId) (x y:Operand) (ho:o.op= .store ty x y)
 (g off:Nat) (hx:a.eval x= .pointer (some ⟨g,off,none⟩)) (cs A old Z:List Value) (hy:(a.eval y).cells=cs.toArray) (hi:(P.info? ty).map (·.size)=some cs.length) (t:TypeId)
 (hg:w.heap[g]? =some (.cells (A++(old++Z)).toArray t (0,0))) (hA:A.length=off) (hold:old.length=cs.length) (h1: ∀u∈cs,u.oneCell'=true)
 (h: ∀w',w'.heap[g]? =some (.cells (A++(cs++Z)).toArray t (0,0))->w'.heap.size=w.heap.size->(∀k,k≠g->w'.heap[k]? =w.heap[k]?)->zD w w'->wpList P ops Q rest (a.put o.dst undef) w'):wpList P ops Q (o::rest) a w:=by
 refine wpList_plain hgd fun K hK=> ?_
 have hst:=run_storeCells_at P g off t cs 0 _ w hg (by simp;omega) h1
 have hl:((A++(old++Z)).toArray.toList.take (off+0)++cs++(A++(old++Z)).toArray.toList.drop (off+0+cs.length))=A++(cs++Z):=by
  simp [<-hA,<-hold,List.drop_append]
 rw [hl] at hst
 cases hq:P.info? ty with
 | none=>simp [hq] at hi
 | some i=>
   have hs:i.size=cs.length:=by simpa [hq] using hi
   unfold Oper.wp execOp
   simp only [ho,hx,Instr.storeAt,Instr.sureAddr,Sem.run_bind,Sem.run_pure,Result.andThen_ok]
   simp [storeVar,sizeOf,typeInfo,hq,hy,hs,hst]
   exact hK _ _ (h _ (setRow_heap w g _ _ t _ hg) (by simp) (fun k hk=>setRow_other w g k _ hk) ⟨rfl,rfl,rfl⟩)
def ym:zk:=⟨33,⟨#[98,101,104,105,110,100]⟩⟩
def QE (p:HI×Nat):List Value:= [.int .i64 p.1.fr,.int .i64 p.1.fc,.int .i64 p.1.tr,.int .i64 p.1.tc,.slice (some ⟨p.2,0,none⟩) p.1.lines.length (p.1.lines.length+2)]
def zM (bs:List (HI×Nat)):List Value:=bs.flatMap QE
theorem xh (bs:List (HI×Nat)):(zM bs).length=bs.length*5:=by
 induction bs with
 | nil=>rfl
 | cons p l ih=>simp [zM,QE] at ih ⊢;omega
theorem Qp (bs:List (HI×Nat)) (p:HI×Nat):zM (bs++ [p])=zM bs++QE p:=by simp [zM]
def qZ (p:HI×Nat):Value:= .slice (some ⟨p.2,0,none⟩) (p.1.lines.length+2) (p.1.lines.length+2)
def yO (h:HI):List Value:=zg (h.lines++ [ym,ym])
structure qO (base ga:Nat) (vr:Value) (bs:List (HI×Nat)) (Z:List Value) (W:World):Prop where
 all:W.heap[ga]? =some (.cells (zM bs++Z).toArray 61 (0,0))
 lo:base<=ga
 rows:W.ownsRow base 59 1 vr bs.length (bs.map qZ)
 line: ∀p∈bs,base<=p.2/\W.heap[p.2]? =some (.cells (yO p.1).toArray 93 (0,0))
 apart:bs.Pairwise fun p q=>p.2≠q.2
theorem qO.push {base ga g:Nat} {vr v':Value} {bs:List (HI×Nat)} {Z Z':List Value} {wr w6 w7:World} {h:HI} {ob:Obj} (L:qO base ga vr bs Z wr) (hO:yf ga wr w6) (hg:wr.heap.size<=g) (hb:base<=g)
 (hgl:w6.heap[g]? =some (.cells (yO h).toArray 93 (0,0))) (hga:w6.heap[ga]? =some (.cells (zM bs++(QE (h,g)++Z')).toArray 61 (0,0)))
 (hgr:(w6.alloc ob).grownBy w7 vr.ownBlock) (hown:w7.ownsRow base 59 1 v' (bs.length+1) (bs.map qZ++ [qZ (h,g)])):qO base ga v' (bs++ [(h,g)]) Z' w7:=by
 have key: ∀k o,w6.heap[k]? =some o->some k≠vr.ownBlock->w7.heap[k]? =some o:=fun k o hk hn=>by
  have hlt:=(Array.getElem?_eq_some_iff.1 hk).1
  rw [hgr.block k (by simp;omega) hn,Below.heap_alloc w6 ob k hlt]
  exact hk
 have hvr: ∀k c t f,wr.heap[k]? =some (.cells c t f)->t≠59->some k≠vr.ownBlock:=fun k c t f hk ht e=>zT L.rows hk (fun e2=>ht e2.symm) e.symm
 refine ⟨?_,L.lo,?_,fun p hp=> ?_,?_⟩
 ·rw [Qp,List.append_assoc]
  exact key ga _ hga (hvr ga _ _ _ L.all (by decide))
 ·rw [List.map_append,List.length_append]
  exact hown
 ·rcases List.mem_append.1 hp with hp | hp
  ·obtain ⟨h1,h2⟩:=L.line p hp
   refine ⟨h1,key _ _ ((hO.2.1 p.2 (Array.getElem?_eq_some_iff.1 h2).1 (zq h2 L.all (by decide))).trans h2) (hvr p.2 _ _ _ h2 (by decide))⟩
  ·rw [List.mem_singleton] at hp
   subst hp
   refine ⟨hb,key g _ hgl fun e=> ?_⟩
   have:=(L.rows.lt g e.symm).2
   omega
 ·rw [List.pairwise_append]
  refine ⟨L.apart,List.pairwise_singleton _ _,fun p hp q hq=> ?_⟩
  rw [List.mem_singleton] at hq
  subst hq
  have:=(Array.getElem?_eq_some_iff.1 (L.line p hp).2).1
  show p.2≠g
  omega
theorem Qw {a b c:World} {r r':Option Nat} (h:a.grownBy b r) (k:b.grownBy c r') (hr:r'=r\/ ∀g,r'=some g->a.heap.size<=g):a.grownBy c r:=by
 have hz:=h.size
 refine ⟨k.os.trans h.os,k.tape.trans h.tape,k.output.trans h.output,Nat.le_trans h.size k.size,fun g hg hn=> ?_⟩
 refine (k.block g (by omega) fun e=> ?_).trans (h.block g hg hn)
 rcases hr with hr | hr
 ·rw [hr] at e;exact hn e
 ·have:=hr g e.symm;omega
theorem XI {a b:World} {r:Option Nat} (hb:Below a.heap.size a b):a.grownBy b r:=⟨hb.os,hb.tape,hb.output,hb.size,fun g hg _=>hb.block g hg⟩
abbrev GW (b:Bool) (x f:Int):Obj:= .cells #[.bool b,.int .i64 x,.int .i64 f] 63 (0,0)
structure Zf (Bs Z:Nat) (wr:World) (v0:Option Nat) (hc:Array Value) (sb:Bool) (sx sf:Int) (v:Value) (out:List ByteArray) (wi:World):Prop where
 z:wr.heap.size=Z
 gr:wr.grownBy wi v0
 H:wi.heap[Z]? =some (.cells hc 61 (0,0))
 S:wi.heap[Z+1]? =some (GW sb sx sf)
 o:wi.ownsRow Bs 9 1 v out.length (zz out)
 nw:v.ownBlock=v0\/ ∀g,v.ownBlock=some g->Z<=g
theorem Zf.below {Bs Z:Nat} {wr wi wi':World} {v0:Option Nat} {hc:Array Value} {sb:Bool} {sx sf:Int} {v:Value} {out:List ByteArray} (h:Zf Bs Z wr v0 hc sb sx sf v out wi) (hb:Below wi.heap.size wi wi'):Zf Bs Z wr v0 hc sb sx sf v out wi':=
 ⟨h.z,Qw h.gr (XI (r:=v0) hb) (.inl rfl),(hb.block _ (Array.getElem?_eq_some_iff.1 h.H).1).trans h.H,(hb.block _ (Array.getElem?_eq_some_iff.1 h.S).1).trans h.S,zR h.o hb (fun k e=>(h.o.lt k e).2),h.nw⟩
theorem Zf.put {Bs Z m:Nat} {wr wi wa w3:World} {v0:Option Nat} {hc:Array Value} {sb:Bool} {sx sf:Int} {v v':Value} {out L:List ByteArray} (h:Zf Bs Z wr v0 hc sb sx sf v out wi) (hb:Below wi.heap.size wi wa) (hm:L.length=m)
 (hown:w3.ownsRow Bs 9 1 v' (out.length+m) (zz out++zz L)) (hgr:wa.grownBy w3 v.ownBlock) (hnew:v'.ownBlock=v.ownBlock\/ ∀g,v'.ownBlock=some g->wa.heap.size<=g):Zf Bs Z wr v0 hc sb sx sf v' (out++L) w3:=by
 have h2:=h.below hb
 have hz:=h2.gr.size
 have hzz:=h.z
 have hne: ∀g c t f,wa.heap[g]? =some (.cells c t f)->t≠9->some g≠v.ownBlock:=fun g c t f hg ht e=>zT h2.o hg (fun e2=>ht e2.symm) e.symm
 refine ⟨h.z,Qw h2.gr hgr ?_,(hgr.block _ (Array.getElem?_eq_some_iff.1 h2.H).1 (hne _ _ _ _ h2.H (by decide))).trans h2.H,(hgr.block _ (Array.getElem?_eq_some_iff.1 h2.S).1 (hne _ _ _ _ h2.S (by decide))).trans h2.S,?_,?_⟩
 ·rcases h.nw with e | e
  ·exact .inl e
  ·exact .inr fun g hg=>by have:=e g hg;omega
 ·rw [List.length_append,hm,yi];exact hown
 ·rcases hnew with e | e
  ·rw [e];exact h.nw
  ·exact .inr fun g hg=>by have:=e g hg;omega
theorem Zf.seam {Bs Z:Nat} {wr wi w':World} {v0:Option Nat} {hc:Array Value} {sb sb':Bool} {sx sf sx' sf':Int} {v:Value} {out:List ByteArray} (h:Zf Bs Z wr v0 hc sb sx sf v out wi)
 (h1:w'.heap[Z+1]? =some (GW sb' sx' sf')) (h2:w'.heap.size=wi.heap.size) (h3: ∀k,k≠Z+1->w'.heap[k]? =wi.heap[k]?) (h4:zD wi w'):Zf Bs Z wr v0 hc sb' sx' sf' v out w':=by
 have hz:=h.z
 have hzi:=h.gr.size
 refine ⟨h.z,⟨h4.1.trans h.gr.os,h4.2.1.trans h.gr.tape,h4.2.2.trans h.gr.output,by omega,fun g hg hn=>(h3 g (by omega)).trans (h.gr.block g hg hn)⟩,(h3 Z (by omega)).trans h.H,h1,?_,h.nw⟩
 refine zu h.o fun g hg=>h3 g fun e=> ?_
 subst e
 obtain ⟨c,hcb⟩:=ze h.o hg
 exact zq hcb h.S (by decide) rfl
theorem Zf.low {Bs Z:Nat} {wr wi:World} {v0:Option Nat} {hc:Array Value} {sb:Bool} {sx sf:Int} {v:Value} {out:List ByteArray} (h:Zf Bs Z wr v0 hc sb sx sf v out wi) (hBs:Bs<=wr.heap.size) (hv0: ∀g,v0=some g->Bs<=g):Below Bs wr wi:=
 ⟨h.gr.os,h.gr.tape,h.gr.output,h.gr.size,fun g hg=>h.gr.block g (by omega) fun e=>by have:=hv0 g e.symm;omega⟩
theorem Zf.other {Bs Z n k:Nat} {wr wi:World} {v0:Option Nat} {hc:Array Value} {sb:Bool} {sx sf:Int} {v vs:Value} {out:List ByteArray} {xs:List Value} (h:Zf Bs Z wr v0 hc sb sx sf v out wi) (hv0: ∀g,v0=some g-> ∃c,wr.heap[g]? =some (.cells c 9 (0,0))) (hs:wr.ownsRow Bs 63 k vs n xs):wi.ownsRow Bs 63 k vs n xs:=
 zu hs fun g hg=>h.gr.block g (hs.lt g hg).2 fun e=>by
  obtain ⟨c,hcb⟩:=hv0 g e.symm
  obtain ⟨c2,hcb2⟩:=ze hs hg
  exact zq hcb hcb2 (by decide) rfl
theorem FD {f c:Nat} (h:min c 1<=f):placeI (f:Int) (c:Int)=((placeM f c:Nat):Int):=by
 unfold placeI placeM
 by_cases h0:c=0
 ·subst h0;simp
 ·rw [if_neg h0,if_pos (by omega)];omega
theorem DT (k:Nat):((k:Int)+1).tdiv 2=(((k+1) / 2:Nat):Int):=by
 rw [show (k:Int)+1=((k+1:Nat):Int) by push_cast;rfl]
 exact (Int.ofNat_tdiv (k+1) 2).symm
theorem Pq (k:Nat):(k:Int).tmod 2=((k % 2:Nat):Int):=(Int.ofNat_tmod k 2).symm
theorem Ej:(prog.info? 63).map (·.size)=some 3:=by kernel_rfl
theorem jz {ops:Array Oper} {rest:List Oper} {o:Oper} {a:Act} {w:World} {Q:Exit->Act->World->Prop} (hgd:o.guard=none) (s x:Operand)
 (ho:o.op= .call { callee:= .builtin .append,args:= #[s,x],argTypes:= #[27,27] }) (base:Nat) (v:Value) (n:Nat) (xs:List Value) (hs:a.eval s=v) (hown:w.ownsRow base 9 1 v n xs)
 (vx:Value) (R:List ByteArray) (hx:a.eval x=vx) (hR:yq w vx R) (h0: ∀m c,vx= .slice none m c->c=0) (hbig:n+R.length<=4000000000000) (hbase:base<=w.heap.size)
 (h: ∀v' w',w'.ownsRow base 9 1 v' (n+R.length) (xs++zz R)->w.grownBy w' v.ownBlock->(v'.ownBlock=v.ownBlock\/ ∀g,v'.ownBlock=some g->w.heap.size<=g)->wpList prog ops Q rest (a.put o.dst v') w'):wpList prog ops Q (o::rest) a w:=by
 obtain ⟨i0,hi,hz0,hz1,hz2⟩:=info_parts qM
 rcases hR with ⟨rfl,ax,cx,rfl⟩ | ⟨b,off,cap,cur,fr,rfl,hc,hb,hcell⟩
 ·cases ax with
  | none=>
    obtain rfl:cx=0:=h0 0 cx rfl
    refine wpList_append_own_none hgd s x 27 ho base 9 i0 1 underlying27 hi v n xs hs hown hx ?_
    exact h v w (by simpa [zz] using hown) ⟨rfl,rfl,rfl,Nat.le_refl _,fun _ _ _=>rfl⟩ (.inl rfl)
  | some ad=>
    exact zm hgd s x 27 ho base 9 i0 _ 1 16 underlying27 hi hz0 hz1 hz2 rfl (by decide) v n xs hs hown ad 0 cx [] hx rfl (fun j u hu=>by simp at hu) (fun u hu=>by simp at hu) (by unfold maxLen;simp at hbig;omega) (by simp at hbig;omega) hbase h
 ·refine zm hgd s x 27 ho base 9 i0 _ 1 16 underlying27 hi hz0 hz1 hz2 rfl (by decide) v n xs hs hown ⟨b,off,none⟩ R.length cap (zz R) hx (by simp [zz]) (fun j u hu=> ?_) (Wj R) (by unfold maxLen;omega) (by omega) hbase h
  have hj:j<R.length:=by
   have:=(List.getElem?_eq_some_iff.1 hu).1
   simpa [zz] using this
  have hu2:u= .string (R.getD j ByteArray.empty):=by
   simp [zz,hj] at hu
   rw [<-hu]
   simp [List.getD,hj]
  rw [hu2]
  have e:(⟨b,off,none⟩:Addr).add j=⟨b,off+j,none⟩:=by simp [Addr.add]
  rw [e]
  exact za hb (hcell j hj)
def yc (T:List ByteArray) (s:qu) (h:zx) (f k g:Nat) (sb:Bool) (sx sf:Int) (out out':List ByteArray) (en':Nat):Prop:=
 (sb=false/\g=2*T.length+1-k/\out'=out/\en'=s.en/\(sx=0/\sf=0)/\ ∀j,j<k->standM T s.en (pieceO h.lines f) ((placeM h.fr h.fc:Nat)+s.mv+dOf j+(min f (zr h.lines h.lines.length).1:Nat))=false)\/
 (sb=true/\g=0/\ ∃x,xW T s.en s.mv h f=some x/\sx=x-(placeM h.fr h.fc:Nat)/\sf=(f:Nat)/\zy out'=(qo T s h f x).t/\en'=(qo T s h f x).en)
def xm (T:List ByteArray) (s:qu) (h:zx) (fz f g:Nat) (sb:Bool) (sx sf:Int) (out out':List ByteArray) (en':Nat):Prop:=
 (sb=false/\g=fz+1-f/\out'=out/\en'=s.en/\(sx=0/\sf=0)/\zZ T s.en s.mv h 0 (fz+1)=zZ T s.en s.mv h f (fz+1-f))\/
 (sb=true/\g=0/\ ∃gx x,zZ T s.en s.mv h 0 (fz+1)=some (gx,x)/\sx=x-(placeM h.fr h.fc:Nat)/\sf=(gx:Nat)/\zy out'=(qo T s h gx x).t/\en'=(qo T s h gx x).en)
theorem yc.start (T:List ByteArray) (s:qu) (h:zx) (f:Nat) (out:List ByteArray):yc T s h f 0 (2*T.length+1) false 0 0 out out s.en:= .inl ⟨rfl,by omega,rfl,rfl,⟨rfl,rfl⟩,fun j hj=>by omega⟩
theorem yc.no {T:List ByteArray} {s:qu} {h:zx} {f k g:Nat} {sx sf:Int} {out out':List ByteArray} {en':Nat} (hp:yc T s h f k g false sx sf out out' en')
 (hn:standM T s.en (pieceO h.lines f) ((placeM h.fr h.fc:Nat)+s.mv+dOf k+(min f (zr h.lines h.lines.length).1:Nat))=false):yc T s h f (k+1) (2*T.length+1-(k+1)) false sx sf out out' en':=by
 rcases hp with ⟨_,_,h3,h4,hz,h5⟩ | ⟨e,_⟩
 ·refine .inl ⟨rfl,rfl,h3,h4,hz,fun j hj=> ?_⟩
  by_cases hjk:j=k
  ·subst hjk;exact hn
  ·exact h5 j (by omega)
 ·cases e
theorem yc.yes {T:List ByteArray} {s:qu} {h:zx} {f k g at0:Nat} {sx sf:Int} {out out':List ByteArray} {en':Nat} (hp:yc T s h f k g false sx sf out out' en') (hk:k<=2*T.length) (hc:chg h.lines=true) (ht:zy out=s.t)
 (ha:((placeM h.fr h.fc:Nat):Int)+s.mv+dOf k+(min f (zr h.lines h.lines.length).1:Nat)=(at0:Nat)) (hy:standM T s.en (pieceO h.lines f) (at0:Int)=true):
 yc T s h f (k+1) 0 true (s.mv+dOf k) (f:Nat) out (out++(T.drop s.en).take (at0-s.en)++Dn.Yx (jm h.lines f)) (at0+(Dn.YK (jm h.lines f)).length):=by
 rcases hp with ⟨_,_,h3,h4,hz,h5⟩ | ⟨e,_⟩
 ·obtain ⟨p1,p2⟩:=Jd f hc
  refine .inr ⟨rfl,rfl,(placeM h.fr h.fc:Nat)+s.mv+dOf k,?_,by omega,rfl,?_,?_⟩
  ·unfold xW
   refine PK (k:=k) (jv _ _ _ hk) (fun j hj y hy2=> ?_) ?_
   ·rw [jv _ _ _ (by omega)] at hy2
    cases hy2
    exact h5 j hj
   ·rw [ha];exact hy
  ·unfold qo
   simp only
   rw [ha,yt,yt,ht,p2]
   simp
  ·unfold qo
   simp only
   rw [ha,p1]
   simp
 ·cases e
theorem yc.none {T:List ByteArray} {s:qu} {h:zx} {f k g:Nat} {sx sf:Int} {out out':List ByteArray} {en':Nat} (hp:yc T s h f k g false sx sf out out' en') (hk:2*T.length<k):xW T s.en s.mv h f=none/\out'=out/\en'=s.en:=by
 rcases hp with ⟨_,_,h3,h4,hz,h5⟩ | ⟨e,_⟩
 ·refine ⟨?_,h3,h4⟩
  unfold xW
  refine Tf fun j hj y hy=> ?_
  rw [jg] at hj
  rw [jv _ _ _ (by omega)] at hy
  cases hy
  exact h5 j (by omega)
 ·cases e
theorem yc.some {T:List ByteArray} {s:qu} {h:zx} {f k g:Nat} {sx sf:Int} {out out':List ByteArray} {en':Nat} (hp:yc T s h f k g true sx sf out out' en'): ∃x,xW T s.en s.mv h f=some x/\sx=x-(placeM h.fr h.fc:Nat)/\sf=(f:Nat)/\zy out'=(qo T s h f x).t/\en'=(qo T s h f x).en:=by
 rcases hp with ⟨e,_⟩ | ⟨_,_,r⟩
 ·cases e
 ·exact r
theorem yc.meas {T:List ByteArray} {s:qu} {h:zx} {f k g:Nat} {sx sf:Int} {out out':List ByteArray} {en':Nat} (hp:yc T s h f k g false sx sf out out' en'):g=2*T.length+1-k/\out'=out/\en'=s.en/\sx=0/\sf=0:=by
 rcases hp with ⟨_,h2,h3,h4,hz,_⟩ | ⟨e,_⟩
 ·exact ⟨h2,h3,h4,hz⟩
 ·cases e
theorem xm.start (T:List ByteArray) (s:qu) (h:zx) (fz:Nat) (out:List ByteArray):xm T s h fz 0 (fz+1) false 0 0 out out s.en:= .inl ⟨rfl,by omega,rfl,rfl,⟨rfl,rfl⟩,rfl⟩
theorem xm.meas {T:List ByteArray} {s:qu} {h:zx} {fz f g:Nat} {sx sf:Int} {out out':List ByteArray} {en':Nat} (hp:xm T s h fz f g false sx sf out out' en'):g=fz+1-f/\out'=out/\en'=s.en/\sx=0/\sf=0:=by
 rcases hp with ⟨_,h2,h3,h4,hz,_⟩ | ⟨e,_⟩
 ·exact ⟨h2,h3,h4,hz⟩
 ·cases e
theorem xm.no {T:List ByteArray} {s:qu} {h:zx} {fz f g:Nat} {sx sf:Int} {out out':List ByteArray} {en':Nat} (hp:xm T s h fz f g false sx sf out out' en') (hf:f<=fz) (hn:xW T s.en s.mv h f=none):xm T s h fz (f+1) (fz+1-(f+1)) false sx sf out out' en':=by
 rcases hp with ⟨_,_,h3,h4,hz,h5⟩ | ⟨e,_⟩
 ·refine .inl ⟨rfl,rfl,h3,h4,hz,?_⟩
  rw [h5,show fz+1-f=(fz+1-(f+1))+1 by omega]
  conv=>lhs;unfold zZ
  rw [hn]
 ·cases e
theorem xm.yes {T:List ByteArray} {s:qu} {h:zx} {fz f g:Nat} {sx sf sx2 sf2:Int} {out out' out2:List ByteArray} {en' en2:Nat} (hp:xm T s h fz f g false sx sf out out' en') (hf:f<=fz)
 (hy: ∃x,xW T s.en s.mv h f=some x/\sx2=x-(placeM h.fr h.fc:Nat)/\sf2=(f:Nat)/\zy out2=(qo T s h f x).t/\en2=(qo T s h f x).en):xm T s h fz (f+1) 0 true sx2 sf2 out out2 en2:=by
 rcases hp with ⟨_,_,h3,h4,hz,h5⟩ | ⟨e,_⟩
 ·obtain ⟨x,hx,r⟩:=hy
  refine .inr ⟨rfl,rfl,f,x,?_,r⟩
  rw [h5,show fz+1-f=(fz+1-(f+1))+1 by omega]
  unfold zZ
  rw [hx]
 ·cases e
theorem xm.none {T:List ByteArray} {s:qu} {h:zx} {fz f g:Nat} {sx sf:Int} {out out':List ByteArray} {en':Nat} (hp:xm T s h fz f g false sx sf out out' en') (hf:fz<f):xD T s h fz=(s,⟨false,0,0⟩)/\out'=out/\en'=s.en:=by
 rcases hp with ⟨_,_,h3,h4,hz,h5⟩ | ⟨e,_⟩
 ·refine ⟨?_,h3,h4⟩
  unfold xD
  rw [<-XM,h5,show fz+1-f=0 by omega]
  rfl
 ·cases e
theorem xm.some {T:List ByteArray} {s:qu} {h:zx} {fz f g:Nat} {sx sf:Int} {out out':List ByteArray} {en':Nat} (hp:xm T s h fz f g true sx sf out out' en'): ∃gx:Nat,sf=gx/\(xD T s h fz).2=⟨true,sx,gx⟩/\(xD T s h fz).1.mv=sx/\zy out'=(xD T s h fz).1.t/\en'=(xD T s h fz).1.en:=by
 rcases hp with ⟨e,_⟩ | ⟨_,_,gx,x,h1,h2,h3,h4,h5⟩
 ·cases e
 ·refine ⟨gx,h3,?_⟩
  unfold xD
  rw [<-XM,h1]
  simp only
  exact ⟨by rw [h2],by rw [h2];rfl,h4,h5⟩
end Go.Proofs.YtcclgodahlinbaaGreatDoor
