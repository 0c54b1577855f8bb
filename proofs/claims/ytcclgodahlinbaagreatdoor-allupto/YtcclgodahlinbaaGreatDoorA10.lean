import Derived.Test.YtcclgodahlinbaaGreatDoorA09
import Derived.Lib.OthersKept
import Derived.Lib.RuneCount
import Derived.WalkSmall
import Derived.Laws.IdiomStrings
namespace Go.Proofs.YtcclgodahlinbaaGreatDoor
set_option maxHeartbeats 16000000
open Tryz Go.RowKit Go Go.Shelf
attribute [local go_sem] Oper.semAt_some
set_option maxRecDepth 100000
theorem TP (w:World) (A B C D:Obj):let W:=(((w.alloc A).alloc B).alloc C).alloc D
 W.heap.size=w.heap.size+4/\Below w.heap.size w W/\W.heap[w.heap.size]? =some A/\W.heap[w.heap.size+1]? =some B/\W.heap[w.heap.size+2]? =some C/\W.heap[w.heap.size+3]? =some D:=by
 intro W
 have e1:(w.alloc A).heap.size=w.heap.size+1:=by simp
 have e2:((w.alloc A).alloc B).heap.size=w.heap.size+2:=by simp
 have e3:(((w.alloc A).alloc B).alloc C).heap.size=w.heap.size+3:=by simp
 refine ⟨by simp [W],((((Below.refl _ w).alloc (Nat.le_refl _) A).alloc (by simp) B).alloc (by omega) C).alloc (by omega) D,?_,?_,?_,?_⟩
 ·exact (Below.heap_alloc _ D _ (by omega)).trans ((Below.heap_alloc _ C _ (by omega)).trans ((Below.heap_alloc _ B _ (by omega)).trans (World.alloc_heap_new w A)))
 ·have:=World.alloc_heap_new (w.alloc A) B
  rw [e1] at this
  exact (Below.heap_alloc _ D _ (by omega)).trans ((Below.heap_alloc _ C _ (by omega)).trans this)
 ·have:=World.alloc_heap_new ((w.alloc A).alloc B) C
  rw [e2] at this
  exact (Below.heap_alloc _ D _ (by omega)).trans this
 ·have:=World.alloc_heap_new (((w.alloc A).alloc B).alloc C) D
  rw [e3] at this
  exact this
def GF (D:Nat):Deferred:= { target:= .collected D,args:= #[] }
def Qr (Ds:List Nat) (w:World):Prop:=Ds.Nodup/\ ∀D∈Ds,w.heap[D]? =some (.deferred (some []))
theorem Ps:List.range 86= [0,1,2,3,4,5,6,7,8,9,10,11,12,13,14,15,16,17,18,19,20,21,22,23,24,25,26,27,28,29,30,31,32,33,34,35,36,37,38,39,40,41,42,43,44,45,46,47,48,49,50,51,52,53,54,55,56,57,58,59,60,61,62,63,64,65,66,67,68,69,70,71,72,73,74,75,76,77,78,79,80,81,82,83,84,85]:=by decide
theorem Sc {A:Array Value} {x0 x1 x2 x3 x4 x6 x7 x8 x9 x10 x34 x35:Value} (hz:A.size=86) (h0:A[0]? =some x0) (h1:A[1]? =some x1) (h2:A[2]? =some x2) (h3:A[3]? =some x3) (h4:A[4]? =some x4) (h6:A[6]? =some x6) (h7:A[7]? =some x7) (h8:A[8]? =some x8) (h9:A[9]? =some x9) (h10:A[10]? =some x10) (h34:A[34]? =some x34) (h35:A[35]? =some x35): ∃u:Nat->Value,A= #[x0,x1,x2,x3,x4,u 5,x6,x7,x8,x9,x10,u 11,u 12,u 13,u 14,u 15,u 16,u 17,u 18,u 19,u 20,u 21,u 22,u 23,u 24,u 25,u 26,u 27,u 28,u 29,u 30,u 31,u 32,u 33,x34,x35,u 36,u 37,u 38,u 39,u 40,u 41,u 42,u 43,u 44,u 45,u 46,u 47,u 48,u 49,u 50,u 51,u 52,u 53,u 54,u 55,u 56,u 57,u 58,u 59,u 60,u 61,u 62,u 63,u 64,u 65,u 66,u 67,u 68,u 69,u 70,u 71,u 72,u 73,u 74,u 75,u 76,u 77,u 78,u 79,u 80,u 81,u 82,u 83,u 84,u 85]:=by
 refine ⟨fun i=>A.getD i undef,?_⟩
 have e:A.toList=(List.range 86).map (fun i=>A.getD i undef):=by
  apply List.ext_getElem
  ·simp [hz]
  ·intro i h1 h2
   simp at h1
   simp [Array.getD,h1]
 have f: ∀i x,A[i]? =some x->A.getD i undef=x:=by intro i x hx;rw [Array.getD_eq_getD_getElem?,hx];rfl
 rw [Ps] at e
 simp only [List.map_cons,List.map_nil] at e
 rw [f 0 _ h0,f 1 _ h1,f 2 _ h2,f 3 _ h3,f 4 _ h4,f 6 _ h6,f 7 _ h7,f 8 _ h8,f 9 _ h9,f 10 _ h10,f 34 _ h34,f 35 _ h35] at e
 exact Array.toList_inj.1 e
theorem Us (w:World) (A B:Obj):let W:=(w.alloc A).alloc B
 W.heap.size=w.heap.size+2/\Below w.heap.size w W/\W.heap[w.heap.size]? =some A/\W.heap[w.heap.size+1]? =some B:=by
 intro W
 have e1:(w.alloc A).heap.size=w.heap.size+1:=by simp
 refine ⟨by simp [W],((Below.refl _ w).alloc (Nat.le_refl _) A).alloc (by simp) B,?_,?_⟩
 ·exact (Below.heap_alloc _ B _ (by omega)).trans (World.alloc_heap_new w A)
 ·have:=World.alloc_heap_new (w.alloc A) B
  rw [e1] at this
  exact this
theorem Zv (l:List ByteArray) (i n:Nat):(zy ((l.drop i).take n)).length<=(zy l).length:=by
 conv=>rhs;rw [<-List.take_append_drop i l,yt,List.length_append,<-List.take_append_drop n (l.drop i),yt,List.length_append]
 omega
theorem yE.below {S:Nat} {vl:Value} {t:List UInt8} {en mv:Int} {w w':World} (h:yE S vl t en mv w) (hb:Below w.heap.size w w'):yE S vl t en mv w':=by
 obtain ⟨ad,vb,h⟩:=h
 exact ⟨ad,vb,(hb.block S h.lt).trans h.blk,h.adr,zR h.own hb (fun k e=>(h.own.lt k e).2)⟩
theorem yE.grow {S:Nat} {vl:Value} {t:List UInt8} {en mv:Int} {W W':World} {row:Option Nat} (h:yE S vl t en mv W) (hg:W.grownBy W' row) (hr: ∀r,row=some r-> ∃o:Obj,W.heap[r]? =some o/\o.isCells=false):yE S vl t en mv W':=by
 obtain ⟨ad,vb,h⟩:=h
 have hS:some S≠row:=by
  intro e
  obtain ⟨o,ho,hc⟩:=hr S e.symm
  rw [h.blk] at ho;cases ho;cases hc
 refine ⟨ad,vb,(hg.block S h.lt hS).trans h.blk,h.adr,h.own.kept hg ?_⟩
 cases hb:vb.ownBlock with
 | none=>exact .inl rfl
 | some g=>
   right
   intro e
   obtain ⟨cur,hc⟩:=ze h.own hb
   obtain ⟨o,ho,hn⟩:=hr g e.symm
   rw [hc] at ho;cases ho;cases hn
theorem XG {e:TypeId} {b:Option Nat} {w W W':World} {row:Option Nat} (h:Lib.OthersKept e b w W) (hg:W.grownBy W' row) (hz:w.heap.size<=W.heap.size) (hr: ∀r,row=some r->w.heap.size<=r):Lib.OthersKept e b w W':=by
 intro k o hk hb ho
 have hl:=(Array.getElem?_eq_some_iff.1 hk).1
 rw [hg.block k (by omega) (by intro e;have:=hr k e.symm;omega)]
 exact h k o hk hb ho
theorem ks {e:TypeId} {b:Option Nat} {w w':World} (h:Below w.heap.size w w'):Lib.OthersKept e b w w':=fun k _ hk _ _=>(h.block k (Array.getElem?_eq_some_iff.1 hk).1).trans hk
theorem Ud {w w':World} (h:Below w.heap.size w w'):KeepsOthers w w':=⟨h.size,fun k _ hk _=>(h.block k (Array.getElem?_eq_some_iff.1 hk).1).trans hk⟩
theorem KA {S:Nat} {w w':World} {cs:Array Value} {t:TypeId} {fr:Nat×Nat} (hS:w.heap[S]? =some (.cells cs t fr)) (hz:w.heap.size<=w'.heap.size) (h:Lib.OthersKept 5 (some S) w w'):KeepsOthers w w':=
 ⟨hz,fun k o hk hc=>h k o hk (by intro e;cases e;rw [hS] at hk;cases hk;cases hc) (by rintro c z rfl;cases hc)⟩
theorem Wi {fn:Func} {tmps:Array Value} {R:Ending->World->Prop} {n:Nat} {P:Program} (B:Nat) (G:World->Prop)
 (hG: ∀W D,B<=D->G W->W.heap[D]? =some (.deferred (some []))->G (W.putObj D (.deferred none))) (hfin: ∀W,G W-> ∃v,(results fn tmps).run P W= .ok v W/\R (.returned v) W):
 ∀Ds W,Qr Ds W->(∀D∈Ds,B<=D)->G W->LeavesInM Fence.wide n P fn tmps R (Ds.map GF) .returning W:=by
 intro Ds
 induction Ds with
 | nil=>intro W _ _ hg;exact hfin W hg
 | cons D Ds ih=>
   intro W hm hB hg
   have hD:=hm.2 D (by simp)
   refine ⟨by simp,.inl ⟨D,_,rfl,run_takeDeferred hD,ih _ ⟨(List.nodup_cons.1 hm.1).2,fun D' h'=> ?_⟩ (fun D' h'=>hB D' (by simp [h'])) (hG W D (hB D (by simp)) hg hD)⟩⟩
   have hne:D'≠D:=fun e=>(List.nodup_cons.1 hm.1).1 (e ▸ h')
   rw [World.putObj_heap_other hne]
   exact hm.2 D' (by simp [h'])
def jC (S:Nat) (w:World) (vl:Value) (b6:Nat) (st:qu) (sm:jS) (W:World):Prop:=
 yE S vl st.t (st.en:Nat) st.mv W/\W.heap[b6]? =some (.cells #[.bool sm.done,.int .i64 sm.at',.int .i64 (sm.fz:Nat)] 63 (0,0))/\Below S w W/\Lib.OthersKept 5 (some S) w W
theorem jC.grow {S B:Nat} {w:World} {vl:Value} {b6:Nat} {st:qu} {sm:jS} {W W':World} {row:Option Nat} (h:jC S w vl b6 st sm W) (hg:W.grownBy W' row)
 (hr: ∀r,row=some r->B<=r/\ ∃o:Obj,W.heap[r]? =some o/\o.isCells=false) (hB:w.heap.size<=B) (hS:S<w.heap.size):jC S w vl b6 st sm W':=by
 obtain ⟨h1,h2,h3,h4⟩:=h
 refine ⟨h1.grow hg (fun r e=>(hr r e).2),?_,h3.grown hg (by have:=h3.size;omega) (fun k e=>by have:=(hr k e).1;omega),XG h4 hg h3.size (fun r e=>by have:=(hr r e).1;omega)⟩
 have hl:=(Array.getElem?_eq_some_iff.1 h2).1
 rw [hg.block b6 hl ?_]
 ·exact h2
 ·intro e
  obtain ⟨_,o,ho,hc⟩:=hr b6 e.symm
  rw [h2] at ho;cases ho;cases hc
theorem yE.setOther {S b o:Nat} {vl v:Value} {t:List UInt8} {en mv:Int} {w:World} {cs:Array Value} {ty:TypeId} {fr:Nat×Nat} (h:yE S vl t en mv w) (hb:w.heap[b]? =some (.cells cs ty fr)) (ht:5≠ty) (hS:b≠S):yE S vl t en mv (w.setCell ⟨b,o,none⟩ v):=
 let ⟨ad,vb,h⟩:=h
 ⟨ad,vb,(zd _ _ _ _ _ (fun e=>hS e.symm)).trans h.blk,h.adr,h.own.kept (zc _ _ _ _) (.inr (zT h.own hb ht))⟩
theorem qD {e:TypeId} {b:Option Nat} {w W:World} {k o:Nat} {v:Value} (h:Lib.OthersKept e b w W) (hz:w.heap.size<=W.heap.size) (hk:w.heap.size<=k):Lib.OthersKept e b w (W.setCell ⟨k,o,none⟩ v):=
 XG h (zc _ _ _ _) hz (fun r e=>by cases e;exact hk)
theorem En {S:Nat} {w W W10:World} {vl:Value} {t:List UInt8} {en:Nat} {mv:Int} {f:Nat} {Ds:List Nat} (hw7:Below w.heap.size w W) (htag: ∃cs,W.heap[S]? =some (.cells cs 76 (0,0)))
 (hs:yE S vl t (en:Int) mv W10) (m6:W10.heap[w.heap.size+2]? =some (.cells #[.bool false,.int .i64 0,.int .i64 0] 63 (0,0))) (hb:Below S W W10) (jo:Lib.OthersKept 5 (some S) W W10) (hS:S<w.heap.size)
 (hm: ∀D∈Ds,W.heap[D]? =some (.deferred (some []))):
 let WF:=(((W10.setCell ⟨w.heap.size+1+1,0,none⟩ (.bool true)).setCell ⟨w.heap.size+1+1,1,none⟩ (.int .i64 mv)).setCell ⟨w.heap.size+1+1,2,none⟩ (.int .i64 (f:Int))).drew
 KeepsOthers W WF/\jC S w vl (w.heap.size+2) ⟨t,en,mv⟩ ⟨true,mv,f⟩ WF/\ ∀D∈Ds,WF.heap[D]? =some (.deferred (some [])):=by
 intro WF
 obtain ⟨cs7,hcs7⟩:=htag
 have n1:=zb W10 (w.heap.size+2) 0 (.bool true) _ _ _ m6
 have n2:=zb (W10.setCell ⟨w.heap.size+2,0,none⟩ (.bool true)) (w.heap.size+2) 1 (.int .i64 mv) _ _ _ n1
 have n3:=zb ((W10.setCell ⟨w.heap.size+2,0,none⟩ (.bool true)).setCell ⟨w.heap.size+2,1,none⟩ (.int .i64 mv)) (w.heap.size+2) 2 (.int .i64 (f:Int)) _ _ _ n2
 have hz:=hb.size
 have hz7:=hw7.size
 have hbw:Below S w W10:=(hw7.mono (by omega)).trans hb
 have how:Lib.OthersKept 5 (some S) w W10:=(ks hw7).trans jo
 have hzz:w.heap.size<=W10.heap.size:=by omega
 refine ⟨(((KA hcs7 hz jo).trans (KeepsOthers.setCell _ _ _)).trans (KeepsOthers.setCell _ _ _)).trans ((KeepsOthers.setCell _ _ _).trans (KeepsOthers.drew _)),⟨?_,n3,?_,?_⟩,?_⟩
 ·have h1:=hs.setOther (o:=0) (v:= .bool true) m6 (by decide) (by omega)
  have h2:=h1.setOther (o:=1) (v:= .int .i64 mv) n1 (by decide) (by omega)
  have h3:=h2.setOther (o:=2) (v:= .int .i64 (f:Int)) n2 (by decide) (by omega)
  exact h3.drew
 ·exact (((hbw.setCell (p:=⟨w.heap.size+1+1,0,none⟩) (by show S<=w.heap.size+1+1;omega) _).setCell (p:=⟨w.heap.size+1+1,1,none⟩) (by show S<=w.heap.size+1+1;omega) _).setCell (p:=⟨w.heap.size+1+1,2,none⟩) (by show S<=w.heap.size+1+1;omega) _).drew
 ·exact qD (qD (qD how hzz (by omega)) (by simpa using hzz) (by omega)) (by simpa using hzz) (by omega)
 ·intro D hD
  have h1:=hm D hD
  have hDS:some D≠some S:=by intro e;cases e;rw [hcs7] at h1;cases h1
  have h2:=jo D _ h1 hDS (by intro c z e;cases e)
  have hDb:D≠w.heap.size+1+1:=by intro e;subst e;rw [m6] at h2;cases h2
  show (((W10.setCell ⟨w.heap.size+1+1,0,none⟩ (.bool true)).setCell ⟨w.heap.size+1+1,1,none⟩ (.int .i64 mv)).setCell ⟨w.heap.size+1+1,2,none⟩ (.int .i64 (f:Int))).heap[D]? =_
  rw [zd _ _ _ _ _ hDb,zd _ _ _ _ _ hDb,zd _ _ _ _ _ hDb]
  exact h2
theorem Kj {S:Nat} {w:World} {vl:Value} {st:qu} {sm:jS} {tmps:Array Value} {Ds:List Nat} {W:World} (hfin:jC S w vl (w.heap.size+2) st sm W) (hS:S<w.heap.size) (hM:Qr Ds W) (hB: ∀D∈Ds,w.heap.size<=D)
 (hres: ∀W:World,W.cell? ⟨w.heap.size+1+1,0,none⟩=some (.bool sm.done)->W.cell? ⟨w.heap.size+1+1,1,none⟩=some (.int .i64 sm.at')->W.cell? ⟨w.heap.size+1+1,2,none⟩=some (.int .i64 (sm.fz:Nat))->(results Tryz.f29 tmps).run prog W= .ok (.agg #[.bool sm.done,.int .i64 sm.at',.int .i64 (sm.fz:Nat)]) W):
 LeavesInM Fence.wide 9 prog Tryz.f29 tmps (fun e w'=>e= .returned (.agg #[.bool sm.done,.int .i64 sm.at',.int .i64 (sm.fz:Nat)])/\yE S vl st.t (st.en:Nat) st.mv w'/\Below S w w'/\Lib.OthersKept 5 (some S) w w') (Ds.map GF) .returning W:=by
 refine Wi w.heap.size (fun W=>jC S w vl (w.heap.size+2) st sm W) (fun W D hD hg hd=>hg.grow (grownBy_putObj' W D _) (fun r e=>by cases e;exact ⟨hD,_,hd,rfl⟩) (Nat.le_refl _) hS) (fun W hg=> ?_) Ds W hM hB hfin
 obtain ⟨g1,g2,g3,g4⟩:=hg
 exact ⟨_,hres W (za g2 rfl) (za g2 rfl) (za g2 rfl),rfl,g1,g3,g4⟩
theorem KU {T:List ByteArray} {ei:Nat} {mv:Int} {h:zx} {f n:Nat} {x:Int} (hn:0<n) (hx:xW T ei mv h f=some x):zZ T ei mv h f n=some (f,x):=by
 obtain ⟨m,rfl⟩: ∃m,n=m+1:=⟨n-1,by omega⟩
 unfold zZ;rw [hx]
theorem Wd {T:List ByteArray} {ei:Nat} {mv:Int} {h:zx} {f n:Nat} (hx:xW T ei mv h f=none):zZ T ei mv h f (n+1)=zZ T ei mv h (f+1) n:=by
 conv=>lhs;unfold zZ
 rw [hx]
theorem EV {S:Nat} {w W:World} {vl:Value} {s:qu} (hS:S<w.heap.size) (hs:yE S vl s.t (s.en:Nat) s.mv W) (m6:W.heap[w.heap.size+2]? =some (.cells #[.bool false,.int .i64 0,.int .i64 0] 63 (0,0))) (hb:Below w.heap.size w W):
 jC S w vl (w.heap.size+2) s ⟨false,0,0⟩ (((W.setCell ⟨w.heap.size+1+1,0,none⟩ (.bool false)).setCell ⟨w.heap.size+1+1,1,none⟩ (.int .i64 0)).setCell ⟨w.heap.size+1+1,2,none⟩ (.int .i64 0)):=by
 have n1:=zb W (w.heap.size+2) 0 (.bool false) _ _ _ m6
 have n2:=zb (W.setCell ⟨w.heap.size+2,0,none⟩ (.bool false)) (w.heap.size+2) 1 (.int .i64 0) _ _ _ n1
 have n3:=zb ((W.setCell ⟨w.heap.size+2,0,none⟩ (.bool false)).setCell ⟨w.heap.size+2,1,none⟩ (.int .i64 0)) (w.heap.size+2) 2 (.int .i64 0) _ _ _ n2
 have hbw:Below S w W:=hb.mono (by omega)
 have how:Lib.OthersKept 5 (some S) w W:=ks hb
 have hzz:=hb.size
 refine ⟨?_,n3,?_,?_⟩
 ·have h1:=hs.setOther (o:=0) (v:= .bool false) m6 (by decide) (by omega)
  have h2:=h1.setOther (o:=1) (v:= .int .i64 0) n1 (by decide) (by omega)
  exact h2.setOther (o:=2) (v:= .int .i64 0) n2 (by decide) (by omega)
 ·exact ((hbw.setCell (p:=⟨w.heap.size+1+1,0,none⟩) (by show S<=w.heap.size+1+1;omega) _).setCell (p:=⟨w.heap.size+1+1,1,none⟩) (by show S<=w.heap.size+1+1;omega) _).setCell (p:=⟨w.heap.size+1+1,2,none⟩) (by show S<=w.heap.size+1+1;omega) _
 ·exact qD (qD (qD how hzz (by omega)) (by simpa using hzz) (by omega)) (by simpa using hzz) (by omega)
end Go.Proofs.YtcclgodahlinbaaGreatDoor
namespace Go.Proofs.YtcclgodahlinbaaGreatDoor
set_option maxHeartbeats 16000000
open Tryz Go.RowKit Go
set_option maxRecDepth 100000
theorem Gk {T:List ByteArray} {ei:Nat} {mv:Int} {h:zx} : ∀n f {g:Nat} {x:Int},zZ T ei mv h f n=some (g,x)->xW T ei mv h g=some x:=by
 intro n
 induction n with
 | zero=>intro f g x e;simp [zZ] at e
 | succ n ih=>
   intro f g x e
   unfold zZ at e
   cases hx:xW T ei mv h f with
   | some y=>rw [hx] at e;simp at e;obtain ⟨rfl,rfl⟩:=e;exact hx
   | none=>rw [hx] at e;exact ih (f+1) e
def qH (T:List ByteArray) (fz:Nat) (s:qu):List zx->qu×List jS
 | []=>(s,[])
 | h::l=>let r:=xD T s h fz;let q:=qH T fz r.1 l;(q.1,r.2::q.2)
def applyK (T:List ByteArray) (fz:Nat) (hs:List zx) (k:Nat):qu×List jS:=qH T fz ⟨[],0,0⟩ (hs.take k)
theorem Qn (T:List ByteArray) (fz:Nat) (h:zx): ∀(l:List zx) (s:qu),qH T fz s (l++ [h])=((xD T (qH T fz s l).1 h fz).1,(qH T fz s l).2++ [(xD T (qH T fz s l).1 h fz).2]):=by
 intro l
 induction l with
 | nil=>intro s;rfl
 | cons a l ih=>intro s;simp only [List.cons_append,qH,ih]
theorem kQ (T:List ByteArray) (fz:Nat) (hs:List zx) (k:Nat) (h:k<hs.length):applyK T fz hs (k+1)=((xD T (applyK T fz hs k).1 hs[k] fz).1,(applyK T fz hs k).2++ [(xD T (applyK T fz hs k).1 hs[k] fz).2]):=by
 unfold applyK
 rw [List.take_succ_eq_append_getElem h,Qn]
def applyT (T:List ByteArray) (fz:Nat) (hs:List zx):ByteArray:=⟨((applyK T fz hs hs.length).1.t++zy (T.drop (applyK T fz hs hs.length).1.en)).toArray⟩
def applyS (T:List ByteArray) (fz:Nat) (hs:List zx):List jS:=(applyK T fz hs hs.length).2
def zL (l:List jS):List Value:=l.flatMap fun m=> [.bool m.done,.int .i64 m.at',.int .i64 (m.fz:Nat)]
theorem qF (a b:List jS):zL (a++b)=zL a++zL b:=by unfold zL;rw [List.flatMap_append]
theorem YW:(prog.info? 63).map (fun i=>(i.zero,i.size,i.bytes))=some (some (.agg #[.bool false,.int .i64 0,.int .i64 0]),3,24):=by kernel_rfl
theorem yE.keep {S:Nat} {vl:Value} {t:List UInt8} {en mv:Int} {W W':World} {row:Option Nat} (h:yE S vl t en mv W) (hg:W.grownBy W' row) (hr: ∀r,row=some r-> ∃c fz,W.heap[r]? =some (.cells c 63 fz)):yE S vl t en mv W':=by
 obtain ⟨ad,vb,h⟩:=h
 have hS:some S≠row:=by
  intro e
  obtain ⟨c,z,ho⟩:=hr S e.symm
  rw [h.blk] at ho;injection ho with ho;injection ho with _ e2;exact absurd e2 (by decide)
 refine ⟨ad,vb,(hg.block S h.lt hS).trans h.blk,h.adr,h.own.kept hg ?_⟩
 cases hb:vb.ownBlock with
 | none=>exact .inl rfl
 | some g=>
   right
   intro e
   obtain ⟨cur,hc⟩:=ze h.own hb
   obtain ⟨c,z,ho⟩:=hr g e.symm
   rw [hc] at ho;injection ho with ho;injection ho with _ e2;exact absurd e2 (by decide)
theorem yq.keep {v:Value} {L:List ByteArray} {W W':World} {row:Option Nat} (h:yq W v L) (hg:W.grownBy W' row) (hr: ∀r,row=some r-> ∃c fz,W.heap[r]? =some (.cells c 63 fz)):yq W' v L:=
 h.of_heap fun b cur fr hb=>(hg.block b (Array.getElem?_eq_some_iff.1 hb).1 (fun e=>by
  obtain ⟨c,z,ho⟩:=hr b e.symm
  rw [hb] at ho;injection ho with ho;injection ho with _ e2;exact absurd e2 (by decide))).trans hb
theorem XA {S base n:Nat} {w w':World} {v:Value} {xs:List Value} {cs:Array Value} {fr:Nat×Nat} (h:w.ownsRow base 63 3 v n xs) (hS:w.heap[S]? =some (.cells cs 76 fr)) (hk:Lib.OthersKept 5 (some S) w w'):w'.ownsRow base 63 3 v n xs:=by
 obtain ⟨a,b⟩:=h
 refine ⟨a,?_⟩
 rcases b with b | ⟨g,cap,cur,e,hb,hg,r⟩
 ·exact .inl b
 ·refine .inr ⟨g,cap,cur,e,hb,hk g _ hg ?_ ?_,r⟩
  ·rintro ⟨⟩;rw [hS] at hg;injection hg with hg;injection hg with _ e2;exact absurd e2 (by decide)
  ·intro c z e2;injection e2 with _ e2;exact absurd e2 (by decide)
theorem WI (s:ByteArray) (m:Int) (w:World) (hs:s.size<4294967281) (hm:w.cell? ⟨0,0,none⟩=some (.int .i64 m)):
 Calls prog 26 #[.string s] w fun e w'=> ∃a c,e= .returned (.slice a (linesB s).length c)/\yq w' (.slice a (linesB s).length c) (linesB s)/\Below w.heap.size w w':=by
 by_cases h0:s.toList.isEmpty=true
 ·have hl:linesB s= []:=by unfold linesB;rw [if_pos h0]
  rw [hl]
  have:=kE h0
  subst this
  refine (XR w).mono ?_
  rintro e w' ⟨rfl,rfl⟩
  exact ⟨none,0,rfl,.inl ⟨rfl,none,0,rfl⟩,Below.refl _ _⟩
 ·replace h0:s.toList.isEmpty=false:=by simpa using h0
  have hl:=jE s h0
  refine (Yz s m w hs h0 hm).mono ?_
  rintro e w' ⟨rfl,rfl⟩
  refine ⟨_,_,by rw [hl],.inr ⟨w.heap.size,0,_,_,_,rfl,by omega,heap_alloc_new w _,fun i hi=> ?_⟩,(Below.refl _ _).alloc (Nat.le_refl _) _⟩
  simp [hi,List.getD]
structure xT (S:Nat) (ad vb:Value) (bs:List Value) (w:World):Prop where
 blk:w.heap[S]? =some (.cells #[ad,vb] 74 (0,0))
 adr:ad= .pointer none\/ad= .pointer (some ⟨S,0,none⟩)
 own:w.ownsRow (S+1) 5 1 vb bs.length bs
theorem DA:liesAt prog prog.depth 74 (2 / prog.cellsOf 74) 0 74 1=true:=by kernel_rfl
theorem xT.lt {S:Nat} {ad vb:Value} {bs:List Value} {w:World} (h:xT S ad vb bs w):S<w.heap.size:=(Array.getElem?_eq_some_iff.1 h.blk).1
theorem xT.ne {S:Nat} {ad vb:Value} {bs:List Value} {w:World} (h:xT S ad vb bs w):vb.ownBlock≠some S:=zT h.own h.blk (by decide)
theorem xT.set1 {S:Nat} {ad vb:Value} {bs:List Value} {w:World} (h:xT S ad vb bs w):xT S (.pointer (some ⟨S,0,none⟩)) vb bs (w.setCell ⟨S,0,none⟩ (.pointer (some ⟨S,0,none⟩))):=
 ⟨zb _ _ _ _ _ _ _ h.blk,.inr rfl,h.own.kept (zc _ _ _ _) (.inr h.ne)⟩
theorem ZV {S:Nat} {ad vb:Value} {bs:List Value} {w:World} (h:xT S ad vb bs w):
 Calls prog 108 #[.pointer (some ⟨S,0,none⟩)] w fun e w'=>e= .returned (.tuple #[])/\xT S (.pointer (some ⟨S,0,none⟩)) vb bs w'/\Below S w w'/\Lib.OthersKept 5 (some S) w w':=by
 obtain ⟨j,hj,hjs⟩:=Option.map_eq_some_iff.1 YP
 have c1:w.cell? ⟨S,0,none⟩=some ad:=za h.blk rfl
 have hsh:w.shape? S=some (74,2):=by simp [World.shape?,h.blk]
 have hfz:w.frozen? ⟨S,0,none⟩=false:=zi h.blk
 rcases h.adr with rfl | rfl
 ·go_enter func108,ntmps108
  go_wp2_with fail
  rw [Lib.run_to_unsafe w ⟨S,0,none⟩ underlying71 underlying190 hj (by rw [hjs];decide) hsh (by show 0<2;decide)]
  simp only [Result.andThen]
  rw [Oper.upon_value]
  go_wp2_with fail
  rw [run_callFunc_extern func132 (by kernel_rfl) (by kernel_rfl) (by kernel_rfl) (e:=Extern.AbiNoEscape.same) (by kernel_rfl)]
  rw [Lib.run_noEscape]
  simp only [Result.andThen]
  rw [Oper.upon_value]
  go_wp2
  rw [Lib.run_from_unsafe w ⟨S,0,none⟩ underlying190 underlying71 hj hsh DA]
  simp only [Result.andThen]
  rw [Oper.upon_value]
  go_wp2
  go_end0
  exact ⟨rfl,h.set1,(Below.refl _ w).setCell (p:=⟨S,0,none⟩) (Nat.le_refl _) _,(Lib.OthersKept.refl _ _ w).setCell ⟨S,0,none⟩ rfl _⟩
 ·go_enter func108,ntmps108
  go_wp2
  rw [Lib.run_neq_ptr_same w _ underlying71 hj]
  go_wp2
  go_end0
  exact ⟨rfl,h,Below.refl _ _,Lib.OthersKept.refl _ _ _⟩
theorem xT.put2 {S:Nat} {ad vb:Value} {bs bs':List Value} {w w2:World} (h:xT S ad vb bs w) (hb:w2.heap[S]? =w.heap[S]?) {vb':Value} (hown:w2.ownsRow (S+1) 5 1 vb' bs'.length bs'):
 xT S ad vb' bs' (w2.setCell ⟨S,1,none⟩ vb'):=by
 have hb2:=hb.trans h.blk
 exact ⟨zb _ _ _ _ _ _ _ hb2,h.adr,hown.kept (zc _ _ _ _) (.inr (zT hown hb2 (by decide)))⟩
theorem qU {S:Nat} {ad vb:Value} {bs:List Value} {w:World} (s:ByteArray) (h:xT S ad vb bs w) (hlen:bs.length+s.size<=140737488355328):
 Calls prog 71 #[.pointer (some ⟨S,0,none⟩),.string s] w fun e w'=>e= .returned (.tuple #[.int .i64 s.size,.nilIface])/\ ∃vb',xT S (.pointer (some ⟨S,0,none⟩)) vb' (bs++Lib.strCells s) w'/\Below S w w'/\Lib.OthersKept 5 (some S) w w':=by
 obtain ⟨i0,hi,hz0,hz1,hz2⟩:=info_parts Zy
 have hlt:=h.lt
 go_enter func71,ntmps71
 go_wp2_with (go_at_call 108;refine (ZV h).mono ?_)
 rintro e w1 ⟨rfl,h1,hb1,hk1⟩
 have hz:=hb1.size
 have hlt1:=h1.lt
 have c2:w1.cell? ⟨S,1,none⟩=some vb:=za h1.blk rfl
 go_wp2_with (at_builtin;refine Lib.wpList_append_own_string _ rfl _ _ 72 9 rfl (S+1) 5 i0 underlying72 underlying9 hi hz0 hz1 hz2 _ _ _ rfl h1.own s rfl (by unfold maxLen;omega) (by omega) (by omega) ?_)
 intro vb' w2 hown' hgrow _
 have hb2:w2.heap[S]? =w1.heap[S]? :=hgrow.block S hlt1 (fun e=>h1.ne e.symm)
 have d2:w2.cell? ⟨S,1,none⟩=some vb:=za (hb2.trans h1.blk) rfl
 have f2:w2.frozen? ⟨S,1,none⟩=false:=zi (hb2.trans h1.blk)
 obtain ⟨ab,cb,rfl⟩:=zn hown'
 go_wp2
 go_ret2
 refine ⟨rfl,_,h1.put2 hb2 (bs':=bs++Lib.strCells s) (by simpa [Lib.strCells_length] using hown'),?_,(hk1.grown hgrow (jV h1.own)).setCell ⟨S,1,none⟩ rfl _⟩
 exact (hb1.grown hgrow (by omega) (fun k hk=>by have:=(h1.own.lt k hk).1;omega)).setCell (p:=⟨S,1,none⟩) (Nat.le_refl _) _
theorem Vl {S:Nat} {t:List UInt8} {w:World} (h: ∃ad vb,xT S ad vb (Lib.byteCells t) w):
 Calls prog 67 #[.pointer (some ⟨S,0,none⟩)] w fun e w'=>e= .returned (.string ⟨t.toArray⟩)/\Below S w w'/\Lib.OthersKept 5 (some S) w w':=by
 obtain ⟨ad,vb,h⟩:=h
 have hlt:=h.lt
 have hUN:=fun (W:World) (q:Option Addr)=>Lib.run_unsafeString_none (P:=prog) W 172 3 9 q
 have c2:w.drew.cell? ⟨S,1,none⟩=some vb:=za (w:=w.drew) h.blk rfl
 have hown:=h.own
 rw [Lib.byteCells_length] at hown
 rcases hown.2 with ⟨rfl,h0⟩ | ⟨g,cap,cur,rfl,hbg,hg,hnc,hcm,hcs,htake⟩
 ·obtain rfl:t= []:=List.eq_nil_of_length_eq_zero h0
  have hSD:(Builtin.unsafeSliceData_ #[72] 172 #[.slice none 0 0]).run prog w.drew= .ok (.pointer none) w.drew:=rfl
  go_enter func67,ntmps67
  go_wp2
  go_region
  all_goals (go_wp2;go_ret;exact ⟨rfl,Below.drew (Below.refl S w),(Lib.OthersKept.refl _ _ w).drew⟩)
 ·by_cases ht0:t= []
  ·subst ht0
   by_cases hc0:cap=0
   ·subst hc0
    have hSD:(Builtin.unsafeSliceData_ #[72] 172 #[.slice (some ⟨g,0,none⟩) 0 0]).run prog w.drew= .ok (.pointer (some ⟨w.heap.size,0,none⟩)) (w.drew.alloc (.view ⟨g,0,none⟩ 5)):=
     Lib.run_unsafeSliceData_zero w.drew _ _ _ underlying172 _ _ (5,cur.size) (by have hg':w.drew.heap[g]? =some (.cells cur 5 (0,0)):=hg;simp [World.shape?,hg'])
    have c2w:w.cell? ⟨S,1,none⟩=some (.slice (some ⟨g,0,none⟩) 0 0):=c2
    have c2':(w.drew.alloc (.view ⟨g,0,none⟩ 5)).cell? ⟨S,1,none⟩=some (.slice (some ⟨g,0,none⟩) 0 0):=(World.cell?_of_block (Below.heap_alloc w.drew _ S hlt)).trans c2
    go_enter func67,ntmps67
    go_wp2
    go_region
    all_goals (go_wp2;go_ret;exact ⟨rfl,((Below.refl S w).drew).alloc (by show S<=w.heap.size;omega) _,((Lib.OthersKept.refl _ _ w).drew).alloc _⟩)
   ·have hSD:(Builtin.unsafeSliceData_ #[72] 172 #[.slice (some ⟨g,0,none⟩) 0 cap]).run prog w.drew= .ok (.pointer (some ⟨g,0,none⟩)) w.drew:=Lib.run_unsafeSliceData_row _ _ _ _ _ _ (by omega)
    go_enter func67,ntmps67
    go_wp2
    go_region
    all_goals (go_wp2;go_ret;exact ⟨rfl,(Below.refl S w).drew,(Lib.OthersKept.refl _ _ w).drew⟩)
  ·have hl0:t.length≠0:=by simpa using ht0
   have hSD:(Builtin.unsafeSliceData_ #[72] 172 #[.slice (some ⟨g,0,none⟩) t.length cap]).run prog w.drew= .ok (.pointer (some ⟨g,0,none⟩)) w.drew:=
    Lib.run_unsafeSliceData_row _ _ _ _ _ _ (by omega)
   have hUS:(Builtin.unsafeString_ #[172,3] 9 #[.pointer (some ⟨g,0,none⟩),.int .i64 t.length]).run prog w.drew= .ok (.string ⟨t.toArray⟩) (w.drew.freeze ⟨g,0,none⟩ t.length):=by
    refine Lib.run_unsafeString_row w.drew 172 3 9 5 underlying172 (by kernel_rfl) g cur.size (by have hg':w.drew.heap[g]? =some (.cells cur 5 (0,0)):=hg;simp [World.shape?,hg']) t ht0 (by omega) (by unfold maxLen at hcm;omega) ?_
    intro j x hx
    have:=hown.cells (g:=g) rfl j (.int .u8 x.toNat) (by simp [Lib.byteCells,hx])
    exact this
   go_enter func67,ntmps67
   go_wp2
   go_region
   all_goals (go_wp2;go_ret;exact ⟨rfl,Lib.below_freeze (Below.drew (Below.refl S w)) (p:=⟨g,0,none⟩) (by show S<=g;omega) _,((Lib.OthersKept.refl _ _ w).drew).freeze ⟨g,0,none⟩ _ ⟨cur,_,hg⟩⟩)
def kW (l:List ByteArray):ByteArray:=⟨(zy l).toArray⟩
theorem Wj (L:List ByteArray): ∀u∈zz L,u.oneCell'=true:=by
 intro u hu
 obtain ⟨s,_,rfl⟩:=List.mem_map.1 hu
 rfl
theorem strCells_length (L:List ByteArray):(zz L).length=L.length:=by simp [zz]
def zN (s:ByteArray):Nat->Nat->Nat->List ByteArray->Nat×List ByteArray
 | 0,_,begin',acc=>(begin',acc)
 | k+1,pos,begin',acc=>if pos<s.size then zN s k (pos+(Utf8.decode s pos).2) (if begin'<pos then pos else begin') (if begin'<pos then acc++ [s.extract begin' pos] else acc) else (begin',acc)
def lettersB (s:ByteArray):List ByteArray:=if (zN s (s.size+1) 0 0 []).1<s.size then (zN s (s.size+1) 0 0 []).2++ [s.extract (zN s (s.size+1) 0 0 []).1 s.size] else (zN s (s.size+1) 0 0 []).2
def qd (l:List ByteArray):List UInt8:=l.flatMap fun s=>s.data.toList
theorem xH (a b:List ByteArray):qd (a++b)=qd a++qd b:=by unfold qd;rw [List.flatMap_append]
theorem Yt (s:ByteArray):qd [s]=s.data.toList:=by simp [qd]
theorem kv (s:ByteArray) (a b:Nat):(s.extract a b).data.toList=(s.data.toList.drop a).take (b-a):=by
 rw [Lib.extract_data]
theorem JQ {α :Type} (l:List α) {a b:Nat} (h:a<=b):l.take a++(l.drop a).take (b-a)=l.take b:=by
 conv=>rhs;rw [show b=a+(b-a) by omega,List.take_add]
theorem XL {s:ByteArray} {a b:Nat} (h:a<b) (hb:b<=s.size):(s.extract a b).size≠0:=by
 rw [ByteArray.size_extract];omega
theorem Vi (s:ByteArray): ∀(k pos begin':Nat) (acc:List ByteArray),begin'<=s.size->qd acc=s.data.toList.take begin'->(∀t∈acc,t.size≠0)->acc.length<=begin'->
 (zN s k pos begin' acc).1<=s.size/\qd (zN s k pos begin' acc).2=s.data.toList.take (zN s k pos begin' acc).1/\(∀t∈(zN s k pos begin' acc).2,t.size≠0)/\(zN s k pos begin' acc).2.length<=(zN s k pos begin' acc).1:=by
 intro k
 induction k with
 | zero=>intro pos b acc h1 h2 h3 h4;exact ⟨h1,h2,h3,h4⟩
 | succ k ih=>
   intro pos b acc h1 h2 h3 h4
   unfold zN
   split
   ·rename_i hp
    by_cases hb:b<pos
    ·rw [if_pos hb,if_pos hb]
     refine ih _ _ _ (by omega) ?_ ?_ (by simp;omega)
     ·rw [xH,Yt,h2,kv,JQ _ (by omega)]
     ·intro t ht
      rw [List.mem_append,List.mem_singleton] at ht
      rcases ht with ht | rfl
      ·exact h3 t ht
      ·exact XL hb (by omega)
    ·rw [if_neg hb,if_neg hb]
     exact ih _ _ _ h1 h2 h3 h4
   ·exact ⟨h1,h2,h3,h4⟩
theorem qc (s:ByteArray):qd (lettersB s)=s.data.toList/\(∀t∈lettersB s,t.size≠0)/\(lettersB s).length<=s.size:=by
 obtain ⟨h1,h2,h3,h4⟩:=Vi s (s.size+1) 0 0 [] (Nat.zero_le _) (by simp [qd]) (by simp) (by simp)
 have hs:s.data.toList.length=s.size:=rfl
 unfold lettersB
 split
 ·rename_i hl
  refine ⟨?_,?_,by simp;omega⟩
  ·rw [xH,Yt,h2,kv,JQ _ (by omega),List.take_of_length_le (by omega)]
  ·intro t ht
   rw [List.mem_append,List.mem_singleton] at ht
   rcases ht with ht | rfl
   ·exact h3 t ht
   ·exact XL hl (Nat.le_refl _)
 ·rename_i hl
  exact ⟨by rw [h2,List.take_of_length_le (by omega)],h3,by omega⟩
theorem ZO (s:ByteArray) (w:World) (hs:s.size<=1000):
 Calls prog 116 #[.string s] w fun e w'=> ∃v,e= .returned v/\w'.ownsRow w.heap.size 9 1 v (lettersB s).length (zz (lettersB s))/\Below w.heap.size w w':=by
 obtain ⟨i0,hi,hz0,hz1,hz2⟩:=info_parts qM
 have hend:Hid (∀b acc,zN s (s.size+1) 0 0 []=(b,acc)->lettersB s=if b<s.size then acc++ [s.extract b s.size] else acc):=by
  intro b acc e;unfold lettersB;rw [e]
 go_enter func116,ntmps116
 go_wp2_with fail
 go_loopg [3,4] (s.size+1) (fun g v vb wr=> ∃(pos fuel b n:Nat) (acc:List ByteArray),g=fuel/\s.size<pos+fuel/\b<=pos/\b<=s.size/\n<=b/\vb= .int .i64 b/\wr.heap[w.heap.size]? =some (.stringIter s pos)/\wr.ownsRow (w.heap.size+1) 9 1 v n (zz acc)/\Hid (zN s fuel pos b acc=zN s (s.size+1) 0 0 [])/\Below w.heap.size w wr)
 case atStart=>exact ⟨0,s.size+1,0,0,[],rfl,by omega,by omega,by omega,by omega,rfl,World.iter_heap w s 0,World.ownsRow_nil _ _ _ _,rfl,(Below.refl _ _).alloc (Nat.le_refl _) _⟩
 case round=>
  obtain ⟨pos,fuel,b,n,acc,rfl,hpf,hbp,hbs,hnb,rfl,hit,hown,HS,hbw⟩:=hrel
  have hszr:=hbw.size
  obtain ⟨al,cl,rfl⟩:=zn hown
  have hwlt:w.heap.size<wr.heap.size:=(Array.getElem?_eq_some_iff.1 hit).1
  have hlen:acc.length=n:=by have:=hown.1;rw [strCells_length] at this;omega
  have hon: ∀t:ByteArray,∀u∈ [Value.string t],u.oneCell'=true:=by intro t u hu;simp at hu;subst hu;rfl
  by_cases hp:pos<s.size
  ·have hnx: ∀ty,(Instr.next (.pointer (some ⟨w.heap.size,0,none⟩)) true ty).run prog wr=_:=fun ty=>Lib.run_next_any_at wr w.heap.size s pos ty hit hp
   have hwd:=Lib.decode_width_pos s pos hp
   obtain ⟨f',rfl⟩: ∃f',gk=f'+1:=⟨gk-1,by omega⟩
   have hit2:=Lib.iterAt_heap wr w.heap.size s pos (pos+(Utf8.decode s pos).2) hit
   have hbw2:=Lib.below_iterAt hbw (k:=w.heap.size) (Nat.le_refl _) s (pos+(Utf8.decode s pos).2)
   have hown2:=ownsRow_iterAt hown (k:=w.heap.size) (by omega) s (pos+(Utf8.decode s pos).2)
   have hs2:(wr.iterAt w.heap.size s (pos+(Utf8.decode s pos).2)).heap.size=wr.heap.size:=Lib.iterAt_size _ _ _ _
   have HS2:Hid (zN s f' (pos+(Utf8.decode s pos).2) (if b<pos then pos else b) (if b<pos then acc++ [s.extract b pos] else acc)=zN s (s.size+1) 0 0 []):=by
    have:=HS.out
    unfold zN at this
    rw [if_pos hp] at this
    exact this
   clear HS hend
   generalize (Utf8.decode s pos).2=wd at *
   by_cases hb:b<pos
   ·have hbI:(b:Int)<pos:=by omega
    have hb0:(b:Int)<=pos:=by omega
    have hpI:(pos:Int)<=s.size:=by omega
    rw [if_pos hb,if_pos hb] at HS2
    go_wp2_with (at_builtin;refine zm rfl (.tmp 14) (.tmp 19) 27 rfl (w.heap.size+1) 9 i0 _ 1 16 underlying27 hi hz0 hz1 hz2 rfl (by decide) (.slice al n cl) n (zz acc) rfl (hown2.alloc _) ⟨wr.heap.size,0,none⟩ 1 1 [.string (s.extract b pos)] rfl rfl (Ji hs2 [.string (s.extract b pos)] 9) (hon _) (by unfold maxLen;omega) (by omega) (by simp [hs2];omega) ?_;intro v' w3 hown3 hgr hnew;have hb3:=(hbw2.alloc (by omega) _).grown hgr (by simp [hs2];omega) (fun j e=>by have:=(hown2.lt j e).1;omega))
    have hit3:w3.heap[w.heap.size]? =some (.stringIter s (pos+wd)):=by
     rw [hgr.block w.heap.size (by simp [hs2];omega) (fun e=>by have:=(hown2.lt _ e.symm).1;omega),Below.heap_alloc _ _ _ (by omega)]
     exact hit2
    go_roundg f'
    ·exact ⟨pos+wd,f',pos,n+1,acc++ [s.extract b pos],rfl,by omega,by omega,by omega,by omega,rfl,hit3,by rw [yi];exact hown3,HS2,hb3⟩
    ·omega
   ·have hbI: ¬(b:Int)<pos:=by omega
    rw [if_neg hb,if_neg hb] at HS2
    go_wp2_with fail
    go_roundg f'
    ·exact ⟨pos+wd,f',b,n,acc,rfl,by omega,by omega,by omega,by omega,rfl,hit2,hown2,HS2,hbw2⟩
    ·omega
  ·have hnx: ∀ty,(Instr.next (.pointer (some ⟨w.heap.size,0,none⟩)) true ty).run prog wr=_:=fun ty=>Lib.run_next_end_at wr w.heap.size s pos ty hit hp
   have hfe:zN s (s.size+1) 0 0 []=(b,acc):=by
    rw [<-HS.out]
    cases gk with
    | zero=>rfl
    | succ k=>unfold zN;rw [if_neg hp]
   have hB:=hend.out b acc hfe
   clear hend HS hfe
   by_cases hb:b<s.size
   ·rw [if_pos hb] at hB
    have hbI:(b:Int)<s.size:=by omega
    have hB':Hid (lettersB s=acc++ [s.extract b s.size]):=hB
    clear hB
    go_wp2_with (at_builtin;refine zm rfl (.tmp 26) (.tmp 30) 27 rfl (w.heap.size+1) 9 i0 _ 1 16 underlying27 hi hz0 hz1 hz2 rfl (by decide) (.slice al n cl) n (zz acc) rfl (hown.alloc _) ⟨wr.heap.size,0,none⟩ 1 1 [.string (s.extract b s.size)] rfl rfl (zt wr [.string (s.extract b s.size)] 9) (hon _) (by unfold maxLen;omega) (by omega) (by simp;omega) ?_;intro v' w3 hown3 hgr hnew;have hb3:=(hbw.alloc (by omega) _).grown hgr (by simp;omega) (fun j e=>by have:=(hown.lt j e).1;omega))
    go_ret
    refine ⟨_,rfl,?_,hb3⟩
    rw [hB'.out,yi,List.length_append,hlen]
    refine ⟨hown3.1,?_⟩
    rcases hown3.2 with h | ⟨g,cap,cur,e,h1,h2⟩
    ·exact .inl h
    ·exact .inr ⟨g,cap,cur,e,by omega,h2⟩
   ·rw [if_neg hb] at hB
    have hbI: ¬(b:Int)<s.size:=by omega
    have hB':Hid (lettersB s=acc):=hB
    clear hB
    go_wp2_with fail
    go_ret
    refine ⟨_,rfl,?_,hbw⟩
    rw [hB'.out,hlen]
    refine ⟨hown.1,?_⟩
    rcases hown.2 with h | ⟨g,cap,cur,e,h1,h2⟩
    ·exact .inl h
    ·exact .inr ⟨g,cap,cur,e,by omega,h2⟩
def runLen (L:List zk) (k:Nat):Nat:=((L.drop k).takeWhile (fun s=>decide (s.kind=(L.getD k ⟨0,ByteArray.empty⟩).kind))).length
def kG (L:List zk) (b e:Nat):zk:=⟨(L.getD b ⟨0,ByteArray.empty⟩).kind,⟨(qd (((L.take e).drop b).map (·.text))).toArray⟩⟩
def ZR (L:List zk):Nat->Nat->List zk
 | 0,_=> []
 | k+1,b=>if b<L.length then kG L b (b+runLen L b)::ZR L k (b+runLen L b) else []
def XC (L:List zk):List zk:=ZR L L.length 0
theorem ZZ {L:List zk} {k:Nat} (h:k<L.length):0<runLen L k/\k+runLen L k<=L.length:=by
 unfold runLen
 refine ⟨?_,?_⟩
 ·rw [List.drop_eq_getElem_cons h,List.takeWhile_cons_of_pos (by simp [List.getD,h])]
  simp
 ·have:=(List.takeWhile_prefix (l:=L.drop k) (fun s=>decide (s.kind=(L.getD k ⟨0,ByteArray.empty⟩).kind))).length_le
  rw [List.length_drop] at this
  omega
theorem Zq {L:List zk} {k j:Nat} (h:k<L.length) (hj:j<runLen L k):k+j<L.length/\ ∀h',(L[k+j]'h').kind=(L.getD k ⟨0,ByteArray.empty⟩).kind:=by
 have hp:=(ZZ h).2
 refine ⟨by omega,fun h'=> ?_⟩
 unfold runLen at hj
 have hm:=List.getElem_mem hj
 have h1:=List.all_eq_true.1 (List.all_takeWhile (l:=L.drop k) (p:=fun s=>decide (s.kind=(L.getD k ⟨0,ByteArray.empty⟩).kind))) _ hm
 simp only [decide_eq_true_eq] at h1
 rw [<-h1,(List.takeWhile_prefix (l:=L.drop k) (fun s=>decide (s.kind=(L.getD k ⟨0,ByteArray.empty⟩).kind))).getElem hj,List.getElem_drop]
theorem Qs {L:List zk} {k:Nat} (h:k<L.length) (h':k+runLen L k<L.length):L[k+runLen L k].kind≠(L.getD k ⟨0,ByteArray.empty⟩).kind:=by
 have key: ∀(l:List zk) (p:zk->Bool) (hl:(l.takeWhile p).length<l.length),p (l[(l.takeWhile p).length])=false:=by
  intro l p
  induction l with
  | nil=>intro hl;simp at hl
  | cons a l ih=>
    intro hl
    by_cases ha:p a=true
    ·have e:(a::l).takeWhile p=a::l.takeWhile p:=List.takeWhile_cons_of_pos ha
     simp only [e,List.length_cons,List.getElem_cons_succ]
     exact ih (by have h2:=hl;rw [e] at h2;simpa using h2)
    ·have e:(a::l).takeWhile p= []:=List.takeWhile_cons_of_neg ha
     simp only [e,List.length_nil,List.getElem_cons_zero]
     simpa using ha
 have hl:((L.drop k).takeWhile (fun s=>decide (s.kind=(L.getD k ⟨0,ByteArray.empty⟩).kind))).length<(L.drop k).length:=by
  rw [List.length_drop]
  unfold runLen at h'
  omega
 have:=key (L.drop k) _ hl
 simp only [decide_eq_false_iff_not,List.getElem_drop] at this
 exact this
end Go.Proofs.YtcclgodahlinbaaGreatDoor
