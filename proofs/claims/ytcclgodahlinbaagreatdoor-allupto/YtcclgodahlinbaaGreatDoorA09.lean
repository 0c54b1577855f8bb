import Derived.Test.YtcclgodahlinbaaGreatDoorA08
import Derived.Lib.OthersKept
import Derived.Lib.Builder
import Derived.Lib.AppendStr
import Derived.RangeFuncNested
import Derived.RangeFuncBound
import Derived.RangeFuncCalls
import Derived.RangeFuncLeaves
import Derived.Shelf.Abstract
import Derived.Shelf.RegionOpen
import Derived.WalkKit
import Derived.OwnWalkIn
import Derived.TacticsInMore
import Derived.LoopNIn
import Derived.LoopIn
namespace Go.Proofs.YtcclgodahlinbaaGreatDoor
set_option maxHeartbeats 16000000
open Tryz Go.RowKit Go
set_option maxRecDepth 100000
theorem zm {P:Program} {ops:Array Oper} {rest:List Oper} {o:Oper} {a:Act} {w:World} {Q:Exit->Act->World->Prop} (hgd:o.guard=none) (s x:Operand) (t:TypeId)
 (ho:o.op= .call { callee:= .builtin .append,args:= #[s,x],argTypes:= #[t,t] })
 (base:Nat) (e:TypeId) (i:TypeInfo) (z:Value) (size bytes:Nat) (ht:P.underlying t=some (.slice e)) (hi:P.info? e=some i) (hz:i.zero=some z)
 (hsize:i.size=size) (hby:i.bytes=bytes) (hzs:z.cells.size=size) (hsz:0<size)
 (v:Value) (n:Nat) (xs:List Value) (hs:a.eval s=v) (hown:w.ownsRow base e size v n xs)
 (ad:Addr) (m c:Nat) (news:List Value) (hx:a.eval x= .slice (some ad) m c) (hl:news.length=m*size) (hnews: ∀j u,news[j]? =some u->w.cell? (ad.add j)=some u) (h1: ∀u∈news,u.oneCell'=true)
 (h63:n+m<=maxLen) (hbytes:(n+m)*bytes<=140737488355328) (hbase:base<=w.heap.size)
 (h: ∀v' w',w'.ownsRow base e size v' (n+m) (xs++news)->w.grownBy w' v.ownBlock->(v'.ownBlock=v.ownBlock\/ ∀g,v'.ownBlock=some g->w.heap.size<=g)->wpList P ops Q rest (a.put o.dst v') w'):wpList P ops Q (o::rest) a w:=by
 refine wpList_plain hgd fun K hK=> ?_
 obtain ⟨v',w',hr,r1,r2,r3⟩:=kI (P:=P) w base t o.type e i z size bytes ht hi hz hsize hby hzs hsz v n xs hown ad m c news hl hnews h1 h63 hbytes hbase
 unfold Oper.wp execOp
 simp only [ho,resolve,invoke,builtin,Sem.run_bind,Sem.run_pure,Result.andThen_ok,List.map_toArray,List.map_cons,List.map_nil,hs,hx,hr]
 exact hK _ _ (h v' w' r1 r2 r3)
def zz (l:List ByteArray):List Value:=l.map fun s=> .string s
theorem yi (a b:List ByteArray):zz (a++b)=zz a++zz b:=by simp [zz]
theorem qM:(prog.info? 9).map (fun i=>(i.zero,i.size,i.bytes))=some (some (.string ByteArray.empty),1,16):=by kernel_rfl
theorem qa.of_owns {base:Nat} {w:World} {v:Value} {l:List ByteArray} (h:w.ownsRow base 9 1 v l.length (zz l)):qa w.heap.size w v l:=by
 by_cases h0:l.length=0
 ·have:l= []:=List.eq_nil_of_length_eq_zero h0
  subst this
  rcases h.2 with ⟨e,_⟩ | ⟨g,cap,cur,e,_⟩
  ·exact .inl ⟨rfl,_,_,e⟩
  ·exact .inl ⟨rfl,_,_,e⟩
 ·obtain ⟨g,cap,rfl,_,hg,_⟩:=zv h (by omega)
  refine .inr ⟨g,0,cap,rfl,hg,fun i hi=> ?_⟩
  obtain ⟨hl,hr⟩:=h
  rcases hr with ⟨e,_⟩ | ⟨g',cap',cur,e,hb,hg',h1,h2,h3,h4⟩
  ·cases e
  ·cases e
   have a:(zz l)[i]? =some (.string (l.getD i ByteArray.empty)):=by simp [zz,List.getD,hi]
   rw [<-h4,List.getElem?_take] at a
   rw [Nat.zero_add]
   split at a
   ·exact za hg' (by simpa using a)
   ·cases a
structure PM (base P:Nat) (vo vf:Value) (lo lf:List ByteArray) (w:World):Prop where
 le:base<=P
 blk:w.heap[P]? =some (.cells #[vo,vf] 125 (0,0))
 o:w.ownsRow base 9 1 vo lo.length (zz lo)
 f:w.ownsRow base 9 1 vf lf.length (zz lf)
 ne:vo.ownBlock=none\/vo.ownBlock≠vf.ownBlock
theorem PM.alloc {base P:Nat} {vo vf:Value} {lo lf:List ByteArray} {w:World} (h:PM base P vo vf lo lf w) (ob:Obj):PM base P vo vf lo lf (w.alloc ob):=
 ⟨h.le,(Below.heap_alloc w ob P (Array.getElem?_eq_some_iff.1 h.blk).1).trans h.blk,h.o.alloc ob,h.f.alloc ob,h.ne⟩
theorem PM.addO {base P g n cap:Nat} {vo vf:Value} {lo lf:List ByteArray} {w w1:World} {ob:Obj} {t:ByteArray} (h:PM base P vo vf lo lf w)
 (hown:w1.ownsRow base 9 1 (.slice (some ⟨g,0,none⟩) n cap) (lo.length+1) (zz lo++ [.string t])) (hgr:(w.alloc ob).grownBy w1 vo.ownBlock)
 (hnew:(Value.slice (some ⟨g,0,none⟩) n cap).ownBlock=vo.ownBlock\/ ∀k,(Value.slice (some ⟨g,0,none⟩) n cap).ownBlock=some k->(w.alloc ob).heap.size<=k):
 PM base P (.slice (some ⟨g,0,none⟩) n cap) vf (lo++ [t]) lf (w1.setCell ⟨P,0,none⟩ (.slice (some ⟨g,0,none⟩) n cap)):=by
 have hPw:P<w.heap.size:=(Array.getElem?_eq_some_iff.1 h.blk).1
 have hP1:w1.heap[P]? =some (.cells #[vo,vf] 125 (0,0)):=by
  rw [hgr.block P (by simp;omega) (fun e=>zT h.o h.blk (by decide) e.symm),Below.heap_alloc w ob P hPw];exact h.blk
 have hf1:w1.ownsRow base 9 1 vf lf.length (zz lf):=(h.f.alloc ob).kept hgr (by
  cases hv:vf.ownBlock with
  | none=>exact .inl rfl
  | some k=>
    right
    intro e
    rcases h.ne with h1 | h1
    ·rw [h1] at e;cases e
    ·exact h1 (e.symm.trans hv.symm))
 have hg2:=zc w1 P 0 (.slice (some ⟨g,0,none⟩) n cap)
 refine ⟨h.le,zb _ _ _ _ _ _ _ hP1,?_,hf1.kept hg2 (.inr (zT hf1 hP1 (by decide))),?_⟩
 ·rw [yi,List.length_append]
  exact hown.kept hg2 (.inr (zT hown hP1 (by decide)))
 ·rcases hnew with e | e
  ·rw [e];exact h.ne
  ·right
   intro e2
   have h1:=e g rfl
   have h2:=(h.f.lt g e2.symm).2
   simp at h1;omega
theorem PM.addF {base P g n cap:Nat} {vo vf:Value} {lo lf:List ByteArray} {w w1:World} {ob:Obj} {t:ByteArray} (h:PM base P vo vf lo lf w)
 (hown:w1.ownsRow base 9 1 (.slice (some ⟨g,0,none⟩) n cap) (lf.length+1) (zz lf++ [.string t])) (hgr:(w.alloc ob).grownBy w1 vf.ownBlock)
 (hnew:(Value.slice (some ⟨g,0,none⟩) n cap).ownBlock=vf.ownBlock\/ ∀k,(Value.slice (some ⟨g,0,none⟩) n cap).ownBlock=some k->(w.alloc ob).heap.size<=k):
 PM base P vo (.slice (some ⟨g,0,none⟩) n cap) lo (lf++ [t]) (w1.setCell ⟨P,1,none⟩ (.slice (some ⟨g,0,none⟩) n cap)):=by
 have hPw:P<w.heap.size:=(Array.getElem?_eq_some_iff.1 h.blk).1
 have hP1:w1.heap[P]? =some (.cells #[vo,vf] 125 (0,0)):=by
  rw [hgr.block P (by simp;omega) (fun e=>zT h.f h.blk (by decide) e.symm),Below.heap_alloc w ob P hPw];exact h.blk
 have ho1:w1.ownsRow base 9 1 vo lo.length (zz lo):=(h.o.alloc ob).kept hgr h.ne
 have hg2:=zc w1 P 1 (.slice (some ⟨g,0,none⟩) n cap)
 refine ⟨h.le,zb _ _ _ _ _ _ _ hP1,ho1.kept hg2 (.inr (zT ho1 hP1 (by decide))),?_,?_⟩
 ·rw [yi,List.length_append]
  exact hown.kept hg2 (.inr (zT hown hP1 (by decide)))
 ·rcases hnew with e | e
  ·rw [e];exact h.ne
  ·cases hv:vo.ownBlock with
   | none=>exact .inl rfl
   | some k=>
     right
     intro e2
     have h2:=(h.o.lt k hv).2
     have e3:g=k:=(Option.some.inj e2).symm
     have h1:=e g rfl
     simp at h1;omega
theorem qG (L:List zk) (k:Nat) (h:k<L.length):Dn.YK (L.take (k+1))=Dn.YK (L.take k)++(if L[k].kind=43 then [] else [L[k].text]):=by
 rw [List.take_succ_eq_append_getElem h,Dn.ku]
 congr 1
 unfold Dn.YK
 by_cases e:L[k].kind=43<;>simp [e]
theorem Ye (L:List zk) (k:Nat) (h:k<L.length):Dn.Yx (L.take (k+1))=Dn.Yx (L.take k)++(if L[k].kind=45 then [] else [L[k].text]):=by
 rw [List.take_succ_eq_append_getElem h,Dn.jZ]
 congr 1
 unfold Dn.Yx
 by_cases e:L[k].kind=45<;>simp [e]
theorem ZB (l:List zk):(Dn.YK l).length<=l.length:=by unfold Dn.YK;rw [List.length_map];exact List.length_filter_le _ _
theorem Zt (l:List zk):(Dn.Yx l).length<=l.length:=by unfold Dn.Yx;rw [List.length_map];exact List.length_filter_le _ _
theorem zn {w:World} {base e size:Nat} {v:Value} {n:Nat} {xs:List Value} (h:w.ownsRow base e size v n xs): ∃a c,v= .slice a n c:=by
 rcases h.2 with ⟨e,h0⟩ | ⟨g,cap,cur,e,_⟩
 ·exact ⟨none,0,by rw [e,h0]⟩
 ·exact ⟨_,_,e⟩
theorem ZU {W w1:World} {ob:Obj} {base n x:Nat} {v:Value} {xs:List Value} {cs:Array Value} {t:TypeId} {fr:Nat×Nat} (hg:(W.alloc ob).grownBy w1 v.ownBlock) (ho:W.ownsRow base 9 1 v n xs) (hk:W.heap[x]? =some (.cells cs t fr)) (hne:9≠t):w1.heap[x]? =some (.cells cs t fr):=by
 have hx:x<W.heap.size:=(Array.getElem?_eq_some_iff.1 hk).1
 rw [hg.block x (by simp;omega) (fun e=>zT ho hk hne e.symm),Below.heap_alloc W ob x hx];exact hk
theorem Ji {W:World} {n:Nat} (h:W.heap.size=n) (cs:List Value) (T:TypeId): ∀(j:Nat) (u:Value),cs[j]? =some u->(W.alloc (.cells cs.toArray T)).cell? ((⟨n,0,none⟩:Addr).add j)=some u:=by subst h;exact zt W cs T
structure kY (S:Nat) (vl ad vb:Value) (bs:List Value) (en mv:Int) (w:World):Prop where
 blk:w.heap[S]? =some (.cells #[vl,ad,vb,.int .i64 en,.int .i64 mv] 76 (0,0))
 adr:ad= .pointer none\/ad= .pointer (some ⟨S,1,none⟩)
 own:w.ownsRow (S+1) 5 1 vb bs.length bs
theorem Zy:(prog.info? 5).map (fun i=>(i.zero,i.size,i.bytes))=some (some (.int .u8 0),1,1):=by kernel_rfl
theorem YP:(prog.info? 74).map (·.size)=some 2:=by kernel_rfl
theorem KO:liesAt prog prog.depth 76 (5 / prog.cellsOf 76) 1 74 1=true:=by kernel_rfl
theorem jV {w:World} {B:Nat} {e size:TypeId} {v:Value} {n:Nat} {xs:List Value} (h:w.ownsRow B e size v n xs): ∀g,v.ownBlock=some g-> ∃c fz,w.heap[g]? =some (.cells c e fz):=by
 intro g hg
 obtain ⟨cur,hc⟩:=ze h hg
 exact ⟨cur,_,hc⟩
theorem kY.lt {S:Nat} {vl ad vb:Value} {bs:List Value} {en mv:Int} {w:World} (h:kY S vl ad vb bs en mv w):S<w.heap.size:=(Array.getElem?_eq_some_iff.1 h.blk).1
theorem kY.ne {S:Nat} {vl ad vb:Value} {bs:List Value} {en mv:Int} {w:World} (h:kY S vl ad vb bs en mv w):vb.ownBlock≠some S:=zT h.own h.blk (by decide)
theorem kY.set1 {S:Nat} {vl ad vb:Value} {bs:List Value} {en mv:Int} {w:World} (h:kY S vl ad vb bs en mv w):kY S vl (.pointer (some ⟨S,1,none⟩)) vb bs en mv (w.setCell ⟨S,1,none⟩ (.pointer (some ⟨S,1,none⟩))):=
 ⟨zb _ _ _ _ _ _ _ h.blk,.inr rfl,h.own.kept (zc _ _ _ _) (.inr h.ne)⟩
theorem ZI {S:Nat} {vl ad vb:Value} {bs:List Value} {en mv:Int} {w:World} (h:kY S vl ad vb bs en mv w):
 Calls prog 108 #[.pointer (some ⟨S,1,none⟩)] w fun e w'=>e= .returned (.tuple #[])/\kY S vl (.pointer (some ⟨S,1,none⟩)) vb bs en mv w'/\Below S w w'/\Lib.OthersKept 5 (some S) w w':=by
 obtain ⟨j,hj,hjs⟩:=Option.map_eq_some_iff.1 YP
 have c1:w.cell? ⟨S,1,none⟩=some ad:=za h.blk rfl
 have hsh:w.shape? S=some (76,5):=by simp [World.shape?,h.blk]
 have hfz:w.frozen? ⟨S,1,none⟩=false:=zi h.blk
 rcases h.adr with rfl | rfl
 ·go_enter func108,ntmps108
  go_wp2_with fail
  rw [Lib.run_to_unsafe w ⟨S,1,none⟩ underlying71 underlying190 hj (by rw [hjs];decide) hsh (by show 1<5;decide)]
  simp only [Result.andThen]
  rw [Oper.upon_value]
  go_wp2_with fail
  rw [run_callFunc_extern func132 (by kernel_rfl) (by kernel_rfl) (by kernel_rfl) (e:=Extern.AbiNoEscape.same) (by kernel_rfl)]
  rw [Lib.run_noEscape]
  simp only [Result.andThen]
  rw [Oper.upon_value]
  go_wp2
  rw [Lib.run_from_unsafe w ⟨S,1,none⟩ underlying190 underlying71 hj hsh KO]
  simp only [Result.andThen]
  rw [Oper.upon_value]
  go_wp2
  go_end0
  exact ⟨rfl,h.set1,(Below.refl _ w).setCell (p:=⟨S,1,none⟩) (Nat.le_refl _) _,(Lib.OthersKept.refl _ _ w).setCell ⟨S,1,none⟩ rfl _⟩
 ·go_enter func108,ntmps108
  go_wp2
  rw [Lib.run_neq_ptr_same w _ underlying71 hj]
  go_wp2
  go_end0
  exact ⟨rfl,h,Below.refl _ _,Lib.OthersKept.refl _ _ _⟩
theorem kY.put2 {S:Nat} {vl ad vb:Value} {bs bs':List Value} {en mv:Int} {w w2:World} (h:kY S vl ad vb bs en mv w) (hb:w2.heap[S]? =w.heap[S]?) {vb':Value} (hown:w2.ownsRow (S+1) 5 1 vb' bs'.length bs'):
 kY S vl ad vb' bs' en mv (w2.setCell ⟨S,2,none⟩ vb'):=by
 have hb2:=hb.trans h.blk
 exact ⟨zb _ _ _ _ _ _ _ hb2,h.adr,hown.kept (zc _ _ _ _) (.inr (zT hown hb2 (by decide)))⟩
theorem Qa {S:Nat} {vl ad vb:Value} {bs:List Value} {en mv:Int} {w:World} (s:ByteArray) (h:kY S vl ad vb bs en mv w) (hlen:bs.length+s.size<=140737488355328):
 Calls prog 71 #[.pointer (some ⟨S,1,none⟩),.string s] w fun e w'=>e= .returned (.tuple #[.int .i64 s.size,.nilIface])/\ ∃vb',kY S vl (.pointer (some ⟨S,1,none⟩)) vb' (bs++Lib.strCells s) en mv w'/\Below S w w'/\Lib.OthersKept 5 (some S) w w':=by
 obtain ⟨i0,hi,hz0,hz1,hz2⟩:=info_parts Zy
 have hlt:=h.lt
 go_enter func71,ntmps71
 go_wp2_with (go_at_call 108;refine (ZI h).mono ?_)
 rintro e w1 ⟨rfl,h1,hb1,hk1⟩
 have hz:=hb1.size
 have hlt1:=h1.lt
 have c2:w1.cell? ⟨S,2,none⟩=some vb:=za h1.blk rfl
 go_wp2_with (at_builtin;refine Lib.wpList_append_own_string _ rfl _ _ 72 9 rfl (S+1) 5 i0 underlying72 underlying9 hi hz0 hz1 hz2 _ _ _ rfl h1.own s rfl (by unfold maxLen;omega) (by omega) (by omega) ?_)
 intro vb' w2 hown' hgrow _
 have hb2:w2.heap[S]? =w1.heap[S]? :=hgrow.block S hlt1 (fun e=>h1.ne e.symm)
 have d2:w2.cell? ⟨S,2,none⟩=some vb:=za (hb2.trans h1.blk) rfl
 have f2:w2.frozen? ⟨S,2,none⟩=false:=zi (hb2.trans h1.blk)
 obtain ⟨ab,cb,rfl⟩:=zn hown'
 go_wp2
 go_ret2
 refine ⟨rfl,_,h1.put2 hb2 (bs':=bs++Lib.strCells s) (by simpa [Lib.strCells_length] using hown'),?_,(hk1.grown hgrow (jV h1.own)).setCell ⟨S,2,none⟩ rfl _⟩
 exact (hb1.grown hgrow (by omega) (fun k hk=>by have:=(h1.own.lt k hk).1;omega)).setCell (p:=⟨S,2,none⟩) (Nat.le_refl _) _
theorem Ju {S:Nat} {vl ad vb:Value} {bs:List Value} {en mv:Int} {w:World} (c:Int) (h:kY S vl ad vb bs en mv w) (hlen:bs.length+1<=140737488355328):
 Calls prog 74 #[.pointer (some ⟨S,1,none⟩),.int .u8 c] w fun e w'=>e= .returned .nilIface/\ ∃vb',kY S vl (.pointer (some ⟨S,1,none⟩)) vb' (bs++ [.int .u8 c]) en mv w'/\Below S w w'/\Lib.OthersKept 5 (some S) w w':=by
 obtain ⟨i0,hi,hz0,hz1,hz2⟩:=info_parts Zy
 have hlt:=h.lt
 have hone: ∀u∈ [Value.int .u8 c],u.oneCell'=true:=by intro u hu;simp at hu;subst hu;rfl
 go_enter func74,ntmps74
 go_wp2_with (go_at_call 108;refine (ZI h).mono ?_)
 rintro e w1 ⟨rfl,h1,hb1,hk1⟩
 have hz:=hb1.size
 have hlt1:=h1.lt
 have c2:w1.cell? ⟨S,2,none⟩=some vb:=za h1.blk rfl
 obtain ⟨ab0,cb0,rfl⟩:=zn h1.own
 go_wp2_with (at_builtin;refine wpList_append_own _ rfl (.tmp 11) (.tmp 13) 72 rfl (S+1) 5 i0 _ 1 1 underlying72 hi hz0 hz1 hz2 rfl (by decide) (.slice ab0 bs.length cb0) bs.length bs rfl (h1.own.alloc _) ⟨w1.heap.size,0,none⟩ 1 1 [.int .u8 c] rfl rfl (zt w1 _ _) hone (by unfold maxLen;omega) (by omega) (by simp;omega) ?_)
 intro vb' w2 hown' hgrow _
 have hb2:w2.heap[S]? =w1.heap[S]? :=(hgrow.block S (by simp;omega) (fun e=>h1.ne e.symm)).trans (Below.heap_alloc _ _ _ hlt1)
 have d2:=(World.cell?_of_block (a:=⟨S,2,none⟩) hb2).trans c2
 have f2:w2.frozen? ⟨S,2,none⟩=false:=zi (hb2.trans h1.blk)
 obtain ⟨ab,cb,rfl⟩:=zn hown'
 go_wp2
 go_ret
 refine ⟨rfl,_,h1.put2 hb2 (bs':=bs++ [.int .u8 c]) (by simpa using hown'),?_,((hk1.alloc _).grown hgrow (jV (h1.own.alloc _))).setCell ⟨S,2,none⟩ rfl _⟩
 exact ((hb1.alloc (by omega) _).grown hgrow (by simp;omega) (fun k hk=>by have:=(h1.own.lt k hk).1;omega)).setCell (p:=⟨S,2,none⟩) (Nat.le_refl _) _
def yq (w:World) (v:Value) (L:List ByteArray):Prop:=
 (L= []/\ ∃a c,v= .slice a 0 c)\/ ∃b off cap cur fr,v= .slice (some ⟨b,off,none⟩) L.length cap/\L.length<=cap/\w.heap[b]? =some (.cells cur 9 fr)/\ ∀i,i<L.length->cur[off+i]? =some (.string (L.getD i ByteArray.empty))
theorem yq.slice {w:World} {v:Value} {L:List ByteArray} (h:yq w v L): ∃a c,v= .slice a L.length c/\L.length<=c:=by
 rcases h with ⟨rfl,a,c,rfl⟩ | ⟨b,off,cap,cur,fr,rfl,hc,_⟩
 ·exact ⟨a,c,rfl,Nat.zero_le _⟩
 ·exact ⟨_,_,rfl,hc⟩
theorem yq.at {w:World} {a:Option Addr} {n c:Nat} {L:List ByteArray} (h:yq w (.slice a n c) L) {i:Nat} (hi:i<L.length): ∃b off,a=some ⟨b,off,none⟩/\w.cell? ⟨b,off+i,none⟩=some (.string (L.getD i ByteArray.empty)):=by
 rcases h with ⟨rfl,_⟩ | ⟨b,off,cap,cur,fr,e,hc,hb,hx⟩
 ·simp at hi
 ·cases e
  exact ⟨b,off,rfl,za hb (hx i hi)⟩
theorem yq.of_heap {w w':World} {v:Value} {L:List ByteArray} (h:yq w v L) (hk: ∀(b:Nat) cur fr,w.heap[b]? =some (Obj.cells cur 9 fr)->w'.heap[b]? =some (Obj.cells cur 9 fr)):yq w' v L:=by
 rcases h with h | ⟨b,off,cap,cur,fr,e,hc,hb,hx⟩
 ·exact .inl h
 ·exact .inr ⟨b,off,cap,cur,fr,e,hc,hk _ _ _ hb,hx⟩
theorem yq.alloc {w:World} {v:Value} {L:List ByteArray} (h:yq w v L) (o:Obj):yq (w.alloc o) v L:=
 h.of_heap fun b _ _ hb=>(Below.heap_alloc w o b (Array.getElem?_eq_some_iff.1 hb).1).trans hb
theorem yq.kept {S:Nat} {w w':World} {v:Value} {L:List ByteArray} {cs:Array Value} {fr:Nat×Nat} (h:yq w v L) (hS:w.heap[S]? =some (.cells cs 76 fr)) (hk:Lib.OthersKept 5 (some S) w w'):yq w' v L:=
 h.of_heap fun b cur f hb=>hk b _ hb (by rintro ⟨⟩;rw [hS] at hb;injection hb with hb;injection hb with _ e;exact absurd e (by decide)) (by intro c z e;injection e with _ e;exact absurd e (by decide))
theorem yq.of_owns {base:Nat} {w:World} {v:Value} {l:List ByteArray} (h:w.ownsRow base 9 1 v l.length (zz l)):yq w v l:=by
 rcases h.2 with ⟨e,h0⟩ | ⟨g,cap,cur,e,_,hg,h1,h2,h3,h4⟩
 ·exact .inl ⟨List.eq_nil_of_length_eq_zero h0,_,_,e⟩
 ·refine .inr ⟨g,0,cap,cur,_,e,h1,hg,fun i hi=> ?_⟩
  have a:(zz l)[i]? =some (.string (l.getD i ByteArray.empty)):=by simp [zz,List.getD,hi]
  rw [<-h4,List.getElem?_take] at a
  rw [Nat.zero_add]
  split at a
  ·simpa using a
  ·cases a
theorem Du (L:List ByteArray) (lo n i:Nat) (hi:i<n):((L.drop lo).take n).getD i ByteArray.empty=L.getD (lo+i) ByteArray.empty:=by
 simp [List.getD,hi]
theorem jX (L:List ByteArray) (lo n:Nat) (h:lo+n<=L.length):((L.drop lo).take n).length=n:=by
 rw [List.length_take,List.length_drop];omega
theorem yq.sub {w:World} {a:Option Addr} {n c:Nat} {L:List ByteArray} (h:yq w (.slice a n c) L) {lo hi:Nat} (h1:lo<=hi) (h2:hi<=L.length):yq w (sliced a lo hi c 1) ((L.drop lo).take (hi-lo)):=by
 by_cases h0:hi-lo=0
 ·left
  rw [h0]
  exact ⟨List.take_zero,_,_,by unfold sliced;rw [h0]⟩
 ·rcases h with ⟨rfl,_⟩ | ⟨b,off,cap,cur,fr,e,hc,hb,hx⟩
  ·simp at h2;omega
  ·cases e
   right
   have hcl: ¬c=lo:=by omega
   refine ⟨b,off+lo,c-lo,cur,fr,?_,?_,hb,fun i hi'=> ?_⟩
   ·unfold sliced
    rw [if_neg hcl,jX L lo _ (by omega)]
    simp [Addr.add]
   ·rw [jX L lo _ (by omega)];omega
   ·rw [jX L lo _ (by omega)] at hi'
    rw [Du L lo _ i hi',Nat.add_assoc]
    exact hx _ (by omega)
theorem Kz {a:Option Addr} {n c:Nat} {lo hi:Nat} (h1:lo<=hi) (h2:hi<=c) (w:World):
 (Instr.slice 27 (.slice a n c) (some (.int .i64 (lo:Int))) (some (.int .i64 (hi:Int))) none).run prog w= .ok (sliced a lo hi c 1) w:=by
 rw [run_slice_lh (P:=prog) (w:=w) 27 a n c underlying27 .i64 .i64 lo hi (by omega) (by omega) (by omega)]
 simp [go_sem]
theorem JE {a:Option Addr} {n c:Nat} {lo:Nat} (h1:lo<=n) (w:World):
 (Instr.slice 27 (.slice a n c) (some (.int .i64 (lo:Int))) none none).run prog w= .ok (sliced a lo n c 1) w:=by
 rw [run_slice_l (P:=prog) (w:=w) 27 a n c underlying27 .i64 lo (by omega) (by omega)]
 simp [go_sem]
def zy (l:List ByteArray):List UInt8:=l.flatMap fun s=>s.data.toList++ [10]
theorem Qm (l:List ByteArray) (k:Nat) (h:k<l.length):zy (l.take (k+1))=zy (l.take k)++((l.getD k ByteArray.empty).data.toList++ [10]):=by
 unfold zy
 rw [List.take_succ_eq_append_getElem h,List.flatMap_append]
 simp [List.getD,h]
theorem yt (a b:List ByteArray):zy (a++b)=zy a++zy b:=by unfold zy;rw [List.flatMap_append]
theorem ZN (l:List ByteArray) (k:Nat):(zy (l.take k)).length<=(zy l).length:=by
 conv=>rhs;rw [<-List.take_append_drop k l,yt,List.length_append]
 omega
theorem Xh (l:List ByteArray):l.length<=(zy l).length:=by
 induction l with
 | nil=>simp
 | cons x l ih=>have e:zy (x::l)=(x.data.toList++ [10])++zy l:=rfl
                rw [e];simp only [List.length_append,List.length_cons,List.length_nil];omega
def yE (S:Nat) (vl:Value) (t:List UInt8) (en mv:Int) (w:World):Prop:= ∃ad vb,kY S vl ad vb (Lib.byteCells t) en mv w
theorem yE.lt {S:Nat} {vl:Value} {t:List UInt8} {en mv:Int} {w:World} (h:yE S vl t en mv w):S<w.heap.size:=let ⟨_,_,h⟩:=h;h.lt
theorem yE.tag {S:Nat} {vl:Value} {t:List UInt8} {en mv:Int} {w:World} (h:yE S vl t en mv w): ∃cs,w.heap[S]? =some (.cells cs 76 (0,0)):=let ⟨_,_,h⟩:=h;⟨_,h.blk⟩
theorem yE.cells {S:Nat} {vl:Value} {t:List UInt8} {en mv:Int} {w:World} (h:yE S vl t en mv w):w.cell? ⟨S,0,none⟩=some vl/\w.cell? ⟨S,3,none⟩=some (.int .i64 en)/\w.cell? ⟨S,4,none⟩=some (.int .i64 mv)/\ ∀k,w.frozen? ⟨S,k,none⟩=false:=
 let ⟨_,_,h⟩:=h;⟨za h.blk rfl,za h.blk rfl,za h.blk rfl,fun _=>zi h.blk⟩
theorem yE.alloc {S:Nat} {vl:Value} {t:List UInt8} {en mv:Int} {w:World} (h:yE S vl t en mv w) (o:Obj):yE S vl t en mv (w.alloc o):=
 let ⟨ad,vb,h⟩:=h;⟨ad,vb,(Below.heap_alloc w o S h.lt).trans h.blk,h.adr,h.own.alloc o⟩
theorem yE.drew {S:Nat} {vl:Value} {t:List UInt8} {en mv:Int} {w:World} (h:yE S vl t en mv w):yE S vl t en mv w.drew:=
 let ⟨ad,vb,h⟩:=h;⟨ad,vb,h.blk,h.adr,h.own⟩
theorem yE.set3 {S:Nat} {vl:Value} {t:List UInt8} {en mv:Int} {w:World} (h:yE S vl t en mv w) (n:Int):yE S vl t n mv (w.setCell ⟨S,3,none⟩ (.int .i64 n)):=
 let ⟨ad,vb,h⟩:=h;⟨ad,vb,zb _ _ _ _ _ _ _ h.blk,h.adr,h.own.kept (zc _ _ _ _) (.inr h.ne)⟩
theorem yE.set4 {S:Nat} {vl:Value} {t:List UInt8} {en mv:Int} {w:World} (h:yE S vl t en mv w) (n:Int):yE S vl t en n (w.setCell ⟨S,4,none⟩ (.int .i64 n)):=
 let ⟨ad,vb,h⟩:=h;⟨ad,vb,zb _ _ _ _ _ _ _ h.blk,h.adr,h.own.kept (zc _ _ _ _) (.inr h.ne)⟩
theorem Vp {a:Option Addr} {n c:Nat} {lo hi:Nat} (h1:lo<=hi) (h2:hi<=c) {v:Value} (hv:sliced a lo hi c 1=v) (w:World):
 (Instr.slice 27 (.slice a n c) (some (.int .i64 (lo:Int))) (some (.int .i64 (hi:Int))) none).run prog w= .ok v w:=by rw [Kz h1 h2,hv]
theorem Vv {S:Nat} {vl:Value} {t:List UInt8} {en mv:Int} {w:World} (h:yE S vl t en mv w):
 Calls prog 67 #[.pointer (some ⟨S,1,none⟩)] w fun e w'=>e= .returned (.string ⟨t.toArray⟩)/\Below S w w'/\Lib.OthersKept 5 (some S) w w':=by
 obtain ⟨ad,vb,h⟩:=h
 have hlt:=h.lt
 have hUN:=fun (W:World) (q:Option Addr)=>Lib.run_unsafeString_none (P:=prog) W 172 3 9 q
 have c2:w.drew.cell? ⟨S,2,none⟩=some vb:=za (w:=w.drew) h.blk rfl
 have hown:=h.own
 rw [Lib.byteCells_length] at hown
 rcases hown.2 with ⟨rfl,h0⟩ | ⟨g,cap,cur,rfl,hbg,hg,hnc,hcm,hcs,htake⟩
 ·obtain rfl:t= []:=List.eq_nil_of_length_eq_zero h0
  have hSD:(Builtin.unsafeSliceData_ #[72] 172 #[.slice none 0 0]).run prog w.drew= .ok (.pointer none) w.drew:=rfl
  go_enter func67,ntmps67
  go_wp2
  go_region
  all_goals (go_wp2;go_ret;exact ⟨rfl,Below.drew (Below.refl S w),(Lib.OthersKept.refl _ _ w).drew⟩)
 ·by_cases ht0:t= []
  ·subst ht0
   by_cases hc0:cap=0
   ·subst hc0
    have hSD:(Builtin.unsafeSliceData_ #[72] 172 #[.slice (some ⟨g,0,none⟩) 0 0]).run prog w.drew= .ok (.pointer (some ⟨w.heap.size,0,none⟩)) (w.drew.alloc (.view ⟨g,0,none⟩ 5)):=
     Lib.run_unsafeSliceData_zero w.drew _ _ _ underlying172 _ _ (5,cur.size) (by have hg':w.drew.heap[g]? =some (.cells cur 5 (0,0)):=hg;simp [World.shape?,hg'])
    have c2w:w.cell? ⟨S,2,none⟩=some (.slice (some ⟨g,0,none⟩) 0 0):=c2
    have c2':(w.drew.alloc (.view ⟨g,0,none⟩ 5)).cell? ⟨S,2,none⟩=some (.slice (some ⟨g,0,none⟩) 0 0):=(World.cell?_of_block (Below.heap_alloc w.drew _ S hlt)).trans c2
    go_enter func67,ntmps67
    go_wp2
    go_region
    all_goals (go_wp2;go_ret;exact ⟨rfl,((Below.refl S w).drew).alloc (by show S<=w.heap.size;omega) _,((Lib.OthersKept.refl _ _ w).drew).alloc _⟩)
   ·have hSD:(Builtin.unsafeSliceData_ #[72] 172 #[.slice (some ⟨g,0,none⟩) 0 cap]).run prog w.drew= .ok (.pointer (some ⟨g,0,none⟩)) w.drew:=Lib.run_unsafeSliceData_row _ _ _ _ _ _ (by omega)
    go_enter func67,ntmps67
    go_wp2
    go_region
    all_goals (go_wp2;go_ret;exact ⟨rfl,(Below.refl S w).drew,(Lib.OthersKept.refl _ _ w).drew⟩)
  ·have hl0:t.length≠0:=by simpa using ht0
   have hSD:(Builtin.unsafeSliceData_ #[72] 172 #[.slice (some ⟨g,0,none⟩) t.length cap]).run prog w.drew= .ok (.pointer (some ⟨g,0,none⟩)) w.drew:=
    Lib.run_unsafeSliceData_row _ _ _ _ _ _ (by omega)
   have hUS:(Builtin.unsafeString_ #[172,3] 9 #[.pointer (some ⟨g,0,none⟩),.int .i64 t.length]).run prog w.drew= .ok (.string ⟨t.toArray⟩) (w.drew.freeze ⟨g,0,none⟩ t.length):=by
    refine Lib.run_unsafeString_row w.drew 172 3 9 5 underlying172 (by kernel_rfl) g cur.size (by have hg':w.drew.heap[g]? =some (.cells cur 5 (0,0)):=hg;simp [World.shape?,hg']) t ht0 (by omega) (by unfold maxLen at hcm;omega) ?_
    intro j x hx
    have:=hown.cells (g:=g) rfl j (.int .u8 x.toNat) (by simp [Lib.byteCells,hx])
    exact this
   go_enter func67,ntmps67
   go_wp2
   go_region
   all_goals (go_wp2;go_ret;exact ⟨rfl,Lib.below_freeze (Below.drew (Below.refl S w)) (p:=⟨g,0,none⟩) (by show S<=g;omega) _,((Lib.OthersKept.refl _ _ w).drew).freeze ⟨g,0,none⟩ _ ⟨cur,_,hg⟩⟩)
theorem yq.below {w w':World} {v:Value} {L:List ByteArray} (h:yq w v L) (hb:Below w.heap.size w w'):yq w' v L:=
 h.of_heap fun b _ _ hh=>(hb.block b (Array.getElem?_eq_some_iff.1 hh).1).trans hh
theorem VW {a:Option Addr} {n c:Nat} {lo:Nat} {hi:Int} {k:Nat} (hk:hi=k) (h1:lo<=k) (h2:k<=c) {v:Value} (hv:sliced a lo k c 1=v) (w:World):
 (Instr.slice 27 (.slice a n c) (some (.int .i64 (lo:Int))) (some (.int .i64 hi)) none).run prog w= .ok v w:=by rw [hk,Kz h1 h2,hv]
theorem EF {a:Option Addr} {n c:Nat} {lo hi:Int} {j k:Nat} (hj:lo=j) (hk:hi=k) (h1:j<=k) (h2:k<=c) {v:Value} (hv:sliced a j k c 1=v) (w:World):
 (Instr.slice 27 (.slice a n c) (some (.int .i64 lo)) (some (.int .i64 hi)) none).run prog w= .ok v w:=by rw [hj,hk,Kz h1 h2,hv]
def standM (L:List ByteArray) (en:Nat) (lo:List ByteArray) (at':Int):Bool:=decide ((en:Int)<=at'/\at'+lo.length<=L.length/\(L.drop at'.toNat).take lo.length=lo)
end Go.Proofs.YtcclgodahlinbaaGreatDoor
namespace Go.Proofs.YtcclgodahlinbaaGreatDoor
set_option maxHeartbeats 16000000
open Tryz Go.RowKit Go Go.Shelf
attribute [local go_sem] Oper.semAt_some
set_option maxRecDepth 100000
def yB (p:Int):Nat->List Int
 | 0=> [p]
 | k+1=>yB p k++ [p+((k:Int)+1),p-((k:Int)+1)]
theorem jg (p:Int) (k:Nat):(yB p k).length=2*k+1:=by
 induction k with
 | zero=>rfl
 | succ k ih=>simp only [yB,List.length_append,ih,List.length_cons,List.length_nil];omega
theorem jk (p:Int) {k n:Nat} (h:k<=n):yB p k<+:yB p n:=by
 induction n with
 | zero=>obtain rfl:k=0:=by omega
         exact List.prefix_refl _
 | succ n ih=>
   by_cases e:k=n+1
   ·subst e;exact List.prefix_refl _
   ·exact (ih (by omega)).trans (List.prefix_append _ _)
theorem UU (p:Int) (far:Nat) (w:World):
 Calls prog 63 #[.int .i64 p,.int .i64 (far:Int)] w fun e w'=>e= .returned (.func (.func 103) #[] #[.pointer (some ⟨w.heap.size,0,none⟩),.pointer (some ⟨w.heap.size+1,0,none⟩)])/\w'=(w.alloc (.cells #[.int .i64 p] 3)).alloc (.cells #[.int .i64 (far:Int)] 3):=by
 go_enter func63,ntmps63
 go_wp2
 go_ret
 exact ⟨rfl,rfl⟩
end Go.Proofs.YtcclgodahlinbaaGreatDoor
namespace Go.Proofs.YtcclgodahlinbaaGreatDoor
set_option maxHeartbeats 16000000
open Tryz Go.RowKit Go
set_option maxRecDepth 100000
def pieceO (L:List zk) (f:Nat):List ByteArray:=((Dn.YK L).drop (min f (zr L L.length).1)).take ((Dn.YK L).length-min f (zr L L.length).2.1-min f (zr L L.length).1)
def pieceF (L:List zk) (f:Nat):List ByteArray:=((Dn.Yx L).drop (min f (zr L L.length).1)).take ((Dn.Yx L).length-min f (zr L L.length).2.1-min f (zr L L.length).1)
def xW (T:List ByteArray) (ei:Nat) (mv:Int) (h:zx) (f:Nat):Option Int:=
 (yB ((placeM h.fr h.fc:Nat)+mv) T.length).find? fun x=>standM T ei (pieceO h.lines f) (x+(min f (zr h.lines h.lines.length).1:Nat))
def zZ (T:List ByteArray) (ei:Nat) (mv:Int) (h:zx):Nat->Nat->Option (Nat×Int)
 | _,0=>none
 | f,n+1=>match xW T ei mv h f with
   | some x=>some (f,x)
   | none=>zZ T ei mv h (f+1) n
def sewRounds (h:zx) (fz:Nat):Nat:=min fz (max (zr h.lines h.lines.length).1 (zr h.lines h.lines.length).2.1)+1
def YB (T:List ByteArray) (ei:Nat) (mv:Int) (h:zx) (fz:Nat):Option (Nat×Int):=zZ T ei mv h 0 (sewRounds h fz)
structure qu where
 t:List UInt8
 en:Nat
 mv:Int
structure jS where
 done:Bool
 at':Int
 fz:Nat
def qo (T:List ByteArray) (s:qu) (h:zx) (f:Nat) (x:Int):qu:=
 ⟨s.t++zy ((T.drop s.en).take ((x+(min f (zr h.lines h.lines.length).1:Nat)).toNat-s.en))++zy (pieceF h.lines f),(x+(min f (zr h.lines h.lines.length).1:Nat)).toNat+(pieceO h.lines f).length,x-(placeM h.fr h.fc:Nat)⟩
def xD (T:List ByteArray) (s:qu) (h:zx) (fz:Nat):qu×jS:=
 match YB T s.en s.mv h fz with
 | some (f,x)=>(qo T s h f x,⟨true,x-(placeM h.fr h.fc:Nat),f⟩)
 | none=>(s,⟨false,0,0⟩)
theorem Fy (L:List zk): ∀k,k<=L.length->(zr L k).1+(zr L k).2.1<=(Dn.YK (L.take k)).length/\(zr L k).1+(zr L k).2.1<=(Dn.Yx (L.take k)).length/\((zr L k).2.2=false->(zr L k).2.1=0):=by
 intro k
 induction k with
 | zero=>intro _;simp [zr]
 | succ k ih=>
   intro hk
   obtain ⟨i1,i2,i3⟩:=ih (by omega)
   rw [jt L k hk,qG L k hk,Ye L k hk,List.length_append,List.length_append]
   by_cases e:L[k].kind=32
   ·have e1: ¬L[k].kind=43:=by omega
    have e2: ¬L[k].kind=45:=by omega
    rw [if_pos e,if_neg e1,if_neg e2]
    by_cases e3:(zr L k).2.2=true
    ·rw [if_pos e3]
     simp only [List.length_cons,List.length_nil]
     exact ⟨by omega,by omega,by simp⟩
    ·rw [if_neg e3]
     have:=i3 (by simpa using e3)
     simp only [List.length_cons,List.length_nil]
     exact ⟨by omega,by omega,fun _=>this⟩
   ·rw [if_neg e]
    simp only
    exact ⟨by omega,by omega,by simp⟩
theorem Js (L:List zk):(zr L L.length).1+(zr L L.length).2.1<=(Dn.YK L).length/\(zr L L.length).1+(zr L L.length).2.1<=(Dn.Yx L).length:=by
 have:=Fy L L.length (Nat.le_refl _)
 rw [List.take_length] at this
 exact ⟨this.1,this.2.1⟩
theorem UM {α :Type} {p: α ->Bool} {pre:List α} {x: α} {l:List α} (hp:pre++ [x]<+:l) (h1: ∀y∈pre,p y=false) (h2:p x=true):l.find? p=some x:=by
 obtain ⟨r,rfl⟩:=hp
 rw [List.append_assoc,List.find?_append]
 have:pre.find? p=none:=by rw [List.find?_eq_none];intro y hy;simp [h1 y hy]
 rw [this]
 simp [h2]
theorem Ea {α :Type} {p: α ->Bool} {l:List α} (h1: ∀y∈l,p y=false):l.find? p=none:=by
 rw [List.find?_eq_none];intro y hy;simp [h1 y hy]
end Go.Proofs.YtcclgodahlinbaaGreatDoor
