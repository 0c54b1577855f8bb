import Derived.Test.YtcclgodahlinbaaGreatDoorA19
namespace Go.Proofs.YtcclgodahlinbaaGreatDoor
set_option maxHeartbeats 16000000
open Tryz Go.RowKit Go
set_option maxRecDepth 100000
def intOf:Value->Int
 | .int _ c=>c
 | _=>0
def xu (m:Value):List Value:= [.int .u8 63,m]
def jF (m:Value):List Value:= [.int .i64 (-(intOf m)),.int .i64 0,.int .i64 (intOf m),.int .i64 0,.slice none 0 0]
def jG (m:Value):List Value:= [.bool false,.int .i64 (intOf m),.int .i64 (-(intOf m))]
def JR (mT:Nat) (v:Value):Prop:=(mT=3-> ∃c:Nat,c<=9000000000000/\v= .int .i64 (c:Int))/\(mT=9-> ∃t:ByteArray,v= .string t)
structure ZJ (base rowT markT T k:Nat) (pat:Value->List Value) (v vm:Value) (E:List (Value×Value)) (W:World):Prop where
 row:W.ownsRow base rowT 1 v E.length (E.map (·.1))
 marks:W.ownsRow base markT 1 vm E.length (E.map (·.2))
 ok: ∀p∈E,qx T k (pat p.2) W p.1
 mv: ∀p∈E,JR markT p.2
structure WV where
 h:Value
 hm:Value
 l:Value
 lm:Value
 s:Value
 sm:Value
 r:Value
 rm:Value
 c:Nat
def WV.obj (x:WV):Obj:= .cells #[x.h,x.hm,x.l,x.lm,x.s,x.sm,x.r,x.rm,.int .i64 x.c] 55 (0,0)
structure Bk where
 h:List (Value×Value)
 l:List (Value×Value)
 s:List (Value×Value)
 r:List (Value×Value)
structure zC (base wb:Nat) (x:WV) (B:Bk) (W:World):Prop where
 blk:W.heap[wb]? =some x.obj
 h:ZJ base 30 3 61 5 jF x.h x.hm B.h W
 l:ZJ base 59 9 93 2 xu x.l x.lm B.l W
 s:ZJ base 37 3 63 3 jG x.s x.sm B.s W
 r:ZJ base 100 9 101 2 xu x.r x.rm B.r W
 ap1:x.hm.ownBlock=none\/x.hm.ownBlock≠x.sm.ownBlock
 ap2:x.lm.ownBlock=none\/x.lm.ownBlock≠x.rm.ownBlock
 wlo:base<=wb
theorem ZJ.same {base rowT markT T k:Nat} {pat:Value->List Value} {v vm:Value} {E:List (Value×Value)} {W W':World} (h:ZJ base rowT markT T k pat v vm E W)
 (hs: ∀g cur t fr,W.heap[g]? =some (.cells cur t fr)->(t=rowT\/(t=markT/\vm.ownBlock=some g)\/t=T)->W'.heap[g]? =W.heap[g]?):ZJ base rowT markT T k pat v vm E W':=by
 refine ⟨zu h.row fun g hg=> ?_,zu h.marks fun g hg=> ?_,fun p hp=>(h.ok p hp).same fun g _ ⟨cur,fr,hg⟩=>hs g cur T fr hg (.inr (.inr rfl)),h.mv⟩
 ·obtain ⟨cur,hc⟩:=ze h.row hg
  exact hs g cur _ _ hc (.inl rfl)
 ·obtain ⟨cur,hc⟩:=ze h.marks hg
  exact hs g cur _ _ hc (.inr (.inl ⟨rfl,hg⟩))
theorem zC.old {base wb:Nat} {x:WV} {B:Bk} {W W':World} (h:zC base wb x B W) (hs: ∀g,g<W.heap.size->W'.heap[g]? =W.heap[g]?):zC base wb x B W':=by
 have key: ∀g cur t fr,W.heap[g]? =some (Obj.cells cur t fr)->W'.heap[g]? =W.heap[g]? :=fun g cur t fr hg=>hs g (Array.getElem?_eq_some_iff.1 hg).1
 exact ⟨(hs wb (Array.getElem?_eq_some_iff.1 h.blk).1).trans h.blk,h.h.same fun g c t f hg _=>key g c t f hg,h.l.same fun g c t f hg _=>key g c t f hg,h.s.same fun g c t f hg _=>key g c t f hg,h.r.same fun g c t f hg _=>key g c t f hg,h.ap1,h.ap2,h.wlo⟩
def zD (w w':World):Prop:=w'.os=w.os/\w'.tape=w.tape/\w'.output=w.output
theorem zD.refl (w:World):zD w w:=⟨rfl,rfl,rfl⟩
theorem zD.trans {a b c:World} (h:zD a b) (k:zD b c):zD a c:=⟨k.1.trans h.1,k.2.1.trans h.2.1,k.2.2.trans h.2.2⟩
theorem zD.of_below {B:Nat} {w w':World} (h:Below B w w'):zD w w':=⟨h.os,h.tape,h.output⟩
theorem zD.of_grown {w w':World} {row:Option Nat} (h:w.grownBy w' row):zD w w':=⟨h.os,h.tape,h.output⟩
theorem zD.setCell (w:World) (p:Addr) (v:Value):zD w (w.setCell p v):=zD.of_below ((Below.refl 0 w).setCell (Nat.zero_le _) v)
theorem zD.alloc (w:World) (o:Obj):zD w (w.alloc o):=⟨rfl,rfl,rfl⟩
theorem zD.drew (w:World):zD w w.drew:=⟨rfl,rfl,rfl⟩
def Tys:List Nat:= [55,30,59,37,100,9,3]
def zs (base:Nat) (w w':World) (skip:Nat->Prop):Prop:=
 w.heap.size<=w'.heap.size/\(∀g,g<w.heap.size->w'.heap[g]? =w.heap[g]? \/skip g\/ ∃cur t fr,w.heap[g]? =some (.cells cur t fr)/\t∈Tys/\base<=g)/\zD w w'
theorem zs.trans {base:Nat} {w w1 w2:World} {s1 s2:Nat->Prop} (h1:zs base w w1 s1) (h2:zs base w1 w2 s2):zs base w w2 (fun g=>s1 g\/s2 g):=by
 refine ⟨Nat.le_trans h1.1 h2.1,fun g hg=> ?_,h1.2.2.trans h2.2.2⟩
 rcases h1.2.1 g hg with e | e | e
 ·rcases h2.2.1 g (by have:=h1.1;omega) with f | f | f
  ·exact .inl (f.trans e)
  ·exact .inr (.inl (.inr f))
  ·rw [e] at f;exact .inr (.inr f)
 ·exact .inr (.inl (.inl e))
 ·exact .inr (.inr e)
theorem zs.mono {base:Nat} {w w':World} {s s':Nat->Prop} (h:zs base w w' s) (hs: ∀g,g<w.heap.size->s g->s' g):zs base w w' s':=by
 refine ⟨h.1,fun g hg=> ?_,h.2.2⟩
 rcases h.2.1 g hg with e | e | e
 ·exact .inl e
 ·exact .inr (.inl (hs g hg e))
 ·exact .inr (.inr e)
theorem zs.of_below {base:Nat} {w w':World} (h:Below w.heap.size w w'):zs base w w' (fun _=>False):=⟨h.size,fun g hg=> .inl (h.block g hg),zD.of_below h⟩
theorem zs.refl (base:Nat) (w:World):zs base w w (fun _=>False):=⟨Nat.le_refl _,fun _ _=> .inl rfl,zD.refl w⟩
theorem zs.at {base:Nat} {w w':World} {s:Nat->Prop} (h:zs base w w' s) {g t:Nat} {cur:Array Value} {fr:Nat×Nat} (hg:w.heap[g]? =some (.cells cur t fr)) (ht:t ∉ Tys) (hs: ¬s g):w'.heap[g]? =w.heap[g]? :=by
 rcases h.2.1 g (Array.getElem?_eq_some_iff.1 hg).1 with e | e | ⟨c,t',f,e,ht',_⟩
 ·exact e
 ·exact absurd e hs
 ·rw [hg] at e;cases e;exact absurd ht' ht
theorem zq {W:World} {a b t t':Nat} {c c':Array Value} {f f':Nat×Nat} (h1:W.heap[a]? =some (.cells c t f)) (h2:W.heap[b]? =some (.cells c' t' f')) (ht:t≠t'):a≠b:=by
 rintro rfl
 rw [h1] at h2
 cases h2
 exact ht rfl
theorem zC.push_h {base wb:Nat} {x:WV} {B:Bk} {w w1 w3:World} {v v1 v2 m:Value} {ob1 ob2:Obj} (K:zC base wb x B w)
 (g1:(w.alloc ob1).grownBy w1 x.h.ownBlock) (o1:w1.ownsRow base 30 1 v1 (B.h.length+1) (B.h.map (·.1)++ [v]))
 (g2:((w1.setCell ⟨wb,0,none⟩ v1).drew.alloc ob2).grownBy w3 x.hm.ownBlock) (o2:w3.ownsRow base 3 1 v2 (B.h.length+1) (B.h.map (·.2)++ [m])) (n2:v2.ownBlock=x.hm.ownBlock\/ ∀g,v2.ownBlock=some g->w.heap.size<=g)
 (hM:qx 61 5 (jF m) w v) (hmv:JR 3 m):
 zC base wb { x with h:=v1,hm:=v2 } { B with h:=B.h++ [(v,m)] } (w3.setCell ⟨wb,1,none⟩ v2)/\zs base w (w3.setCell ⟨wb,1,none⟩ v2) (fun _=>False):=by
 have hwb:wb<w.heap.size:=(Array.getElem?_eq_some_iff.1 K.blk).1
 have z1:=g1.size
 have z2:=g2.size
 simp at z1 z2
 have nrow:x.h.ownBlock≠some wb:=fun e=>by
  obtain ⟨c,hc⟩:=ze K.h.row e
  exact zq hc K.blk (by decide) rfl
 have nmk:x.hm.ownBlock≠some wb:=fun e=>by
  obtain ⟨c,hc⟩:=ze K.h.marks e
  exact zq hc K.blk (by decide) rfl
 have k1: ∀g,g<w.heap.size->some g≠x.h.ownBlock->w1.heap[g]? =w.heap[g]? :=fun g hg hne=>by
  rw [g1.block g (by simp;omega) hne];exact Below.heap_alloc w ob1 g hg
 have k2: ∀g,g<w1.heap.size->g≠wb->some g≠x.hm.ownBlock->w3.heap[g]? =w1.heap[g]? :=fun g hg hn hne=>by
  rw [g2.block g (by simp;omega) hne,Below.heap_alloc (w1.setCell ⟨wb,0,none⟩ v1).drew ob2 g (by simp;omega)]
  exact zd _ _ _ _ _ hn
 have b1:w1.heap[wb]? =some x.obj:=(k1 wb hwb (fun e=>nrow e.symm)).trans K.blk
 have b2:(w1.setCell ⟨wb,0,none⟩ v1).heap[wb]? =some ({ x with h:=v1 } :WV).obj:=by
  rw [zb _ _ _ _ _ _ _ b1];rfl
 have b3:w3.heap[wb]? =some ({ x with h:=v1 } :WV).obj:=by
  rw [g2.block wb (by simp;omega) (fun e=>nmk e.symm),Below.heap_alloc (w1.setCell ⟨wb,0,none⟩ v1).drew ob2 wb (by simp;omega)]
  exact b2
 have b4:(w3.setCell ⟨wb,1,none⟩ v2).heap[wb]? =some ({ x with h:=v1,hm:=v2 } :WV).obj:=by
  rw [zb _ _ _ _ _ _ _ b3];rfl
 have key: ∀g,g<w.heap.size->g≠wb->some g≠x.h.ownBlock->some g≠x.hm.ownBlock->(w3.setCell ⟨wb,1,none⟩ v2).heap[g]? =w.heap[g]? :=fun g hg h1 h2 h3=>by
  rw [zd _ _ _ _ _ h1,k2 g (by omega) h1 h3,k1 g hg h2]
 have keyT: ∀g cur t fr,w.heap[g]? =some (Obj.cells cur t fr)->t≠55->t≠30->(t≠3\/some g≠x.hm.ownBlock)->(w3.setCell ⟨wb,1,none⟩ v2).heap[g]? =w.heap[g]? :=by
  intro g cur t fr hg h1 h2 h3
  refine key g (Array.getElem?_eq_some_iff.1 hg).1 (zq hg K.blk h1) (fun e=> ?_) (fun e=> ?_)
  ·obtain ⟨c,hc⟩:=ze K.h.row e.symm
   exact zq hg hc h2 rfl
  ·rcases h3 with h3 | h3
   ·obtain ⟨c,hc⟩:=ze K.h.marks e.symm
    exact zq hg hc h3 rfl
   ·exact h3 e
 have htw: ∀g,x.sm.ownBlock=some g->some g≠x.hm.ownBlock:=by
  intro g hg e
  rcases K.ap1 with h | h
  ·rw [h] at e;cases e
  ·exact h (e.symm.trans hg.symm)
 have hrow:(w3.setCell ⟨wb,1,none⟩ v2).ownsRow base 30 1 v1 (B.h.length+1) (B.h.map (·.1)++ [v]):=by
  refine zu o1 fun g hg=> ?_
  obtain ⟨c,hc⟩:=ze o1 hg
  have hgw:g≠wb:=zq hc b1 (by decide)
  rw [zd _ _ _ _ _ hgw,k2 g (Array.getElem?_eq_some_iff.1 hc).1 hgw (fun e=> ?_)]
  obtain ⟨c2,hc2⟩:=ze K.h.marks e.symm
  have:w1.heap[g]? =w.heap[g]? :=k1 g (Array.getElem?_eq_some_iff.1 hc2).1 (fun e2=>by
   obtain ⟨c3,hc3⟩:=ze K.h.row e2.symm
   exact zq hc2 hc3 (by decide) rfl)
  rw [this] at hc
  exact zq hc hc2 (by decide) rfl
 have hmk:(w3.setCell ⟨wb,1,none⟩ v2).ownsRow base 3 1 v2 (B.h.length+1) (B.h.map (·.2)++ [m]):=by
  refine zu o2 fun g hg=> ?_
  obtain ⟨c,hc⟩:=ze o2 hg
  exact zd _ _ _ _ _ (zq hc b3 (by decide))
 refine ⟨?_,⟨by simp;omega,fun g hg=> ?_,((zD.alloc w ob1).trans (zD.of_grown g1)).trans ((zD.setCell w1 _ _).trans (((zD.drew _).trans (zD.alloc _ ob2)).trans ((zD.of_grown g2).trans (zD.setCell w3 _ _))))⟩⟩
 ·refine ⟨b4,?_,K.l.same fun g c t f hg ht=>keyT g c t f hg (by rcases ht with rfl | ⟨rfl,_⟩ | rfl<;>decide) (by rcases ht with rfl | ⟨rfl,_⟩ | rfl<;>decide) (.inl (by rcases ht with rfl | ⟨rfl,_⟩ | rfl<;>decide)),K.s.same fun g c t f hg ht=>keyT g c t f hg (by rcases ht with rfl | ⟨rfl,_⟩ | rfl<;>decide) (by rcases ht with rfl | ⟨rfl,_⟩ | rfl<;>decide) (by rcases ht with rfl | ⟨rfl,e⟩ | rfl;(exact .inl (by decide));(exact .inr (htw g e));(exact .inl (by decide))),K.r.same fun g c t f hg ht=>keyT g c t f hg (by rcases ht with rfl | ⟨rfl,_⟩ | rfl<;>decide) (by rcases ht with rfl | ⟨rfl,_⟩ | rfl<;>decide) (.inl (by rcases ht with rfl | ⟨rfl,_⟩ | rfl<;>decide)),?_,K.ap2,K.wlo⟩
  ·refine ⟨by simpa using hrow,by simpa using hmk,fun p hp=> ?_,fun p hp=>(List.mem_append.1 hp).elim (K.h.mv p) (fun h=>by rw [List.mem_singleton] at h;subst h;exact hmv)⟩
   rcases List.mem_append.1 hp with hp | hp
   ·exact (K.h.ok p hp).same fun g _ ⟨c,f,hg⟩=>keyT g c _ f hg (by decide) (by decide) (.inl (by decide))
   ·rw [List.mem_singleton] at hp
    subst hp
    exact hM.same fun g _ ⟨c,f,hg⟩=>keyT g c _ f hg (by decide) (by decide) (.inl (by decide))
  ·show v2.ownBlock=none\/v2.ownBlock≠x.sm.ownBlock
   rcases n2 with e | e
   ·rw [e];exact K.ap1
   ·cases hv:v2.ownBlock with
    | none=>exact .inl rfl
    | some g=>
      right
      intro e2
      have h1:=e g hv
      have h2:=(K.s.marks.lt g e2.symm).2
      omega
 ·by_cases h1:g=wb
  ·subst h1
   exact .inr (.inr ⟨_,_,_,K.blk,by decide,K.wlo⟩)
  by_cases h2:some g=x.h.ownBlock
  ·obtain ⟨c,hc⟩:=ze K.h.row h2.symm
   exact .inr (.inr ⟨_,_,_,hc,by decide,(K.h.row.lt g h2.symm).1⟩)
  by_cases h3:some g=x.hm.ownBlock
  ·obtain ⟨c,hc⟩:=ze K.h.marks h3.symm
   exact .inr (.inr ⟨_,_,_,hc,by decide,(K.h.marks.lt g h3.symm).1⟩)
  exact .inl (key g hg h1 h2 h3)
theorem zC.push_l {base wb:Nat} {x:WV} {B:Bk} {w w1 w3:World} {v v1 v2 m:Value} {ob1 ob2:Obj} (K:zC base wb x B w)
 (g1:(w.alloc ob1).grownBy w1 x.l.ownBlock) (o1:w1.ownsRow base 59 1 v1 (B.l.length+1) (B.l.map (·.1)++ [v]))
 (g2:((w1.setCell ⟨wb,2,none⟩ v1).drew.alloc ob2).grownBy w3 x.lm.ownBlock) (o2:w3.ownsRow base 9 1 v2 (B.l.length+1) (B.l.map (·.2)++ [m])) (n2:v2.ownBlock=x.lm.ownBlock\/ ∀g,v2.ownBlock=some g->w.heap.size<=g)
 (hM:qx 93 2 (xu m) w v) (hmv:JR 9 m):
 zC base wb { x with l:=v1,lm:=v2 } { B with l:=B.l++ [(v,m)] } (w3.setCell ⟨wb,3,none⟩ v2)/\zs base w (w3.setCell ⟨wb,3,none⟩ v2) (fun _=>False)/\(∀g,g<w.heap.size->g≠wb->some g≠x.l.ownBlock->some g≠x.lm.ownBlock->(w3.setCell ⟨wb,3,none⟩ v2).heap[g]? =w.heap[g]?):=by
 have hwb:wb<w.heap.size:=(Array.getElem?_eq_some_iff.1 K.blk).1
 have z1:=g1.size
 have z2:=g2.size
 simp at z1 z2
 have nrow:x.l.ownBlock≠some wb:=fun e=>by
  obtain ⟨c,hc⟩:=ze K.l.row e
  exact zq hc K.blk (by decide) rfl
 have nmk:x.lm.ownBlock≠some wb:=fun e=>by
  obtain ⟨c,hc⟩:=ze K.l.marks e
  exact zq hc K.blk (by decide) rfl
 have k1: ∀g,g<w.heap.size->some g≠x.l.ownBlock->w1.heap[g]? =w.heap[g]? :=fun g hg hne=>by
  rw [g1.block g (by simp;omega) hne];exact Below.heap_alloc w ob1 g hg
 have k2: ∀g,g<w1.heap.size->g≠wb->some g≠x.lm.ownBlock->w3.heap[g]? =w1.heap[g]? :=fun g hg hn hne=>by
  rw [g2.block g (by simp;omega) hne,Below.heap_alloc (w1.setCell ⟨wb,2,none⟩ v1).drew ob2 g (by simp;omega)]
  exact zd _ _ _ _ _ hn
 have b1:w1.heap[wb]? =some x.obj:=(k1 wb hwb (fun e=>nrow e.symm)).trans K.blk
 have b2:(w1.setCell ⟨wb,2,none⟩ v1).heap[wb]? =some ({ x with l:=v1 } :WV).obj:=by
  rw [zb _ _ _ _ _ _ _ b1];rfl
 have b3:w3.heap[wb]? =some ({ x with l:=v1 } :WV).obj:=by
  rw [g2.block wb (by simp;omega) (fun e=>nmk e.symm),Below.heap_alloc (w1.setCell ⟨wb,2,none⟩ v1).drew ob2 wb (by simp;omega)]
  exact b2
 have b4:(w3.setCell ⟨wb,3,none⟩ v2).heap[wb]? =some ({ x with l:=v1,lm:=v2 } :WV).obj:=by
  rw [zb _ _ _ _ _ _ _ b3];rfl
 have key: ∀g,g<w.heap.size->g≠wb->some g≠x.l.ownBlock->some g≠x.lm.ownBlock->(w3.setCell ⟨wb,3,none⟩ v2).heap[g]? =w.heap[g]? :=fun g hg h1 h2 h3=>by
  rw [zd _ _ _ _ _ h1,k2 g (by omega) h1 h3,k1 g hg h2]
 have keyT: ∀g cur t fr,w.heap[g]? =some (Obj.cells cur t fr)->t≠55->t≠59->(t≠9\/some g≠x.lm.ownBlock)->(w3.setCell ⟨wb,3,none⟩ v2).heap[g]? =w.heap[g]? :=by
  intro g cur t fr hg h1 h2 h3
  refine key g (Array.getElem?_eq_some_iff.1 hg).1 (zq hg K.blk h1) (fun e=> ?_) (fun e=> ?_)
  ·obtain ⟨c,hc⟩:=ze K.l.row e.symm
   exact zq hg hc h2 rfl
  ·rcases h3 with h3 | h3
   ·obtain ⟨c,hc⟩:=ze K.l.marks e.symm
    exact zq hg hc h3 rfl
   ·exact h3 e
 have htw: ∀g,x.rm.ownBlock=some g->some g≠x.lm.ownBlock:=by
  intro g hg e
  rcases K.ap2 with h | h
  ·rw [h] at e;cases e
  ·exact h (e.symm.trans hg.symm)
 have hrow:(w3.setCell ⟨wb,3,none⟩ v2).ownsRow base 59 1 v1 (B.l.length+1) (B.l.map (·.1)++ [v]):=by
  refine zu o1 fun g hg=> ?_
  obtain ⟨c,hc⟩:=ze o1 hg
  have hgw:g≠wb:=zq hc b1 (by decide)
  rw [zd _ _ _ _ _ hgw,k2 g (Array.getElem?_eq_some_iff.1 hc).1 hgw (fun e=> ?_)]
  obtain ⟨c2,hc2⟩:=ze K.l.marks e.symm
  have:w1.heap[g]? =w.heap[g]? :=k1 g (Array.getElem?_eq_some_iff.1 hc2).1 (fun e2=>by
   obtain ⟨c3,hc3⟩:=ze K.l.row e2.symm
   exact zq hc2 hc3 (by decide) rfl)
  rw [this] at hc
  exact zq hc hc2 (by decide) rfl
 have hmk:(w3.setCell ⟨wb,3,none⟩ v2).ownsRow base 9 1 v2 (B.l.length+1) (B.l.map (·.2)++ [m]):=by
  refine zu o2 fun g hg=> ?_
  obtain ⟨c,hc⟩:=ze o2 hg
  exact zd _ _ _ _ _ (zq hc b3 (by decide))
 refine ⟨?_,⟨by simp;omega,fun g hg=> ?_,((zD.alloc w ob1).trans (zD.of_grown g1)).trans ((zD.setCell w1 _ _).trans (((zD.drew _).trans (zD.alloc _ ob2)).trans ((zD.of_grown g2).trans (zD.setCell w3 _ _))))⟩,key⟩
 ·refine ⟨b4,K.h.same fun g c t f hg ht=>keyT g c t f hg (by rcases ht with rfl | ⟨rfl,_⟩ | rfl<;>decide) (by rcases ht with rfl | ⟨rfl,_⟩ | rfl<;>decide) (.inl (by rcases ht with rfl | ⟨rfl,_⟩ | rfl<;>decide)),?_,K.s.same fun g c t f hg ht=>keyT g c t f hg (by rcases ht with rfl | ⟨rfl,_⟩ | rfl<;>decide) (by rcases ht with rfl | ⟨rfl,_⟩ | rfl<;>decide) (.inl (by rcases ht with rfl | ⟨rfl,_⟩ | rfl<;>decide)),K.r.same fun g c t f hg ht=>keyT g c t f hg (by rcases ht with rfl | ⟨rfl,_⟩ | rfl<;>decide) (by rcases ht with rfl | ⟨rfl,_⟩ | rfl<;>decide) (by rcases ht with rfl | ⟨rfl,e⟩ | rfl;(exact .inl (by decide));(exact .inr (htw g e));(exact .inl (by decide))),K.ap1,?_,K.wlo⟩
  ·refine ⟨by simpa using hrow,by simpa using hmk,fun p hp=> ?_,fun p hp=>(List.mem_append.1 hp).elim (K.l.mv p) (fun h=>by rw [List.mem_singleton] at h;subst h;exact hmv)⟩
   rcases List.mem_append.1 hp with hp | hp
   ·exact (K.l.ok p hp).same fun g _ ⟨c,f,hg⟩=>keyT g c _ f hg (by decide) (by decide) (.inl (by decide))
   ·rw [List.mem_singleton] at hp
    subst hp
    exact hM.same fun g _ ⟨c,f,hg⟩=>keyT g c _ f hg (by decide) (by decide) (.inl (by decide))
  ·show v2.ownBlock=none\/v2.ownBlock≠x.rm.ownBlock
   rcases n2 with e | e
   ·rw [e];exact K.ap2
   ·cases hv:v2.ownBlock with
    | none=>exact .inl rfl
    | some g=>
      right
      intro e2
      have h1:=e g hv
      have h2:=(K.r.marks.lt g e2.symm).2
      omega
 ·by_cases h1:g=wb
  ·subst h1
   exact .inr (.inr ⟨_,_,_,K.blk,by decide,K.wlo⟩)
  by_cases h2:some g=x.l.ownBlock
  ·obtain ⟨c,hc⟩:=ze K.l.row h2.symm
   exact .inr (.inr ⟨_,_,_,hc,by decide,(K.l.row.lt g h2.symm).1⟩)
  by_cases h3:some g=x.lm.ownBlock
  ·obtain ⟨c,hc⟩:=ze K.l.marks h3.symm
   exact .inr (.inr ⟨_,_,_,hc,by decide,(K.l.marks.lt g h3.symm).1⟩)
  exact .inl (key g hg h1 h2 h3)
theorem zC.push_s {base wb:Nat} {x:WV} {B:Bk} {w w1 w3:World} {v v1 v2 m:Value} {ob1 ob2:Obj} (K:zC base wb x B w)
 (g1:(w.alloc ob1).grownBy w1 x.s.ownBlock) (o1:w1.ownsRow base 37 1 v1 (B.s.length+1) (B.s.map (·.1)++ [v]))
 (g2:((w1.setCell ⟨wb,4,none⟩ v1).drew.alloc ob2).grownBy w3 x.sm.ownBlock) (o2:w3.ownsRow base 3 1 v2 (B.s.length+1) (B.s.map (·.2)++ [m])) (n2:v2.ownBlock=x.sm.ownBlock\/ ∀g,v2.ownBlock=some g->w.heap.size<=g)
 (hM:qx 63 3 (jG m) w v) (hmv:JR 3 m):
 zC base wb { x with s:=v1,sm:=v2 } { B with s:=B.s++ [(v,m)] } (w3.setCell ⟨wb,5,none⟩ v2)/\zs base w (w3.setCell ⟨wb,5,none⟩ v2) (fun _=>False):=by
 have hwb:wb<w.heap.size:=(Array.getElem?_eq_some_iff.1 K.blk).1
 have z1:=g1.size
 have z2:=g2.size
 simp at z1 z2
 have nrow:x.s.ownBlock≠some wb:=fun e=>by
  obtain ⟨c,hc⟩:=ze K.s.row e
  exact zq hc K.blk (by decide) rfl
 have nmk:x.sm.ownBlock≠some wb:=fun e=>by
  obtain ⟨c,hc⟩:=ze K.s.marks e
  exact zq hc K.blk (by decide) rfl
 have k1: ∀g,g<w.heap.size->some g≠x.s.ownBlock->w1.heap[g]? =w.heap[g]? :=fun g hg hne=>by
  rw [g1.block g (by simp;omega) hne];exact Below.heap_alloc w ob1 g hg
 have k2: ∀g,g<w1.heap.size->g≠wb->some g≠x.sm.ownBlock->w3.heap[g]? =w1.heap[g]? :=fun g hg hn hne=>by
  rw [g2.block g (by simp;omega) hne,Below.heap_alloc (w1.setCell ⟨wb,4,none⟩ v1).drew ob2 g (by simp;omega)]
  exact zd _ _ _ _ _ hn
 have b1:w1.heap[wb]? =some x.obj:=(k1 wb hwb (fun e=>nrow e.symm)).trans K.blk
 have b2:(w1.setCell ⟨wb,4,none⟩ v1).heap[wb]? =some ({ x with s:=v1 } :WV).obj:=by
  rw [zb _ _ _ _ _ _ _ b1];rfl
 have b3:w3.heap[wb]? =some ({ x with s:=v1 } :WV).obj:=by
  rw [g2.block wb (by simp;omega) (fun e=>nmk e.symm),Below.heap_alloc (w1.setCell ⟨wb,4,none⟩ v1).drew ob2 wb (by simp;omega)]
  exact b2
 have b4:(w3.setCell ⟨wb,5,none⟩ v2).heap[wb]? =some ({ x with s:=v1,sm:=v2 } :WV).obj:=by
  rw [zb _ _ _ _ _ _ _ b3];rfl
 have key: ∀g,g<w.heap.size->g≠wb->some g≠x.s.ownBlock->some g≠x.sm.ownBlock->(w3.setCell ⟨wb,5,none⟩ v2).heap[g]? =w.heap[g]? :=fun g hg h1 h2 h3=>by
  rw [zd _ _ _ _ _ h1,k2 g (by omega) h1 h3,k1 g hg h2]
 have keyT: ∀g cur t fr,w.heap[g]? =some (Obj.cells cur t fr)->t≠55->t≠37->(t≠3\/some g≠x.sm.ownBlock)->(w3.setCell ⟨wb,5,none⟩ v2).heap[g]? =w.heap[g]? :=by
  intro g cur t fr hg h1 h2 h3
  refine key g (Array.getElem?_eq_some_iff.1 hg).1 (zq hg K.blk h1) (fun e=> ?_) (fun e=> ?_)
  ·obtain ⟨c,hc⟩:=ze K.s.row e.symm
   exact zq hg hc h2 rfl
  ·rcases h3 with h3 | h3
   ·obtain ⟨c,hc⟩:=ze K.s.marks e.symm
    exact zq hg hc h3 rfl
   ·exact h3 e
 have htw: ∀g,x.hm.ownBlock=some g->some g≠x.sm.ownBlock:=by
  intro g hg e
  rcases K.ap1 with h | h
  ·rw [h] at hg;cases hg
  ·exact h (hg.trans e)
 have hrow:(w3.setCell ⟨wb,5,none⟩ v2).ownsRow base 37 1 v1 (B.s.length+1) (B.s.map (·.1)++ [v]):=by
  refine zu o1 fun g hg=> ?_
  obtain ⟨c,hc⟩:=ze o1 hg
  have hgw:g≠wb:=zq hc b1 (by decide)
  rw [zd _ _ _ _ _ hgw,k2 g (Array.getElem?_eq_some_iff.1 hc).1 hgw (fun e=> ?_)]
  obtain ⟨c2,hc2⟩:=ze K.s.marks e.symm
  have:w1.heap[g]? =w.heap[g]? :=k1 g (Array.getElem?_eq_some_iff.1 hc2).1 (fun e2=>by
   obtain ⟨c3,hc3⟩:=ze K.s.row e2.symm
   exact zq hc2 hc3 (by decide) rfl)
  rw [this] at hc
  exact zq hc hc2 (by decide) rfl
 have hmk:(w3.setCell ⟨wb,5,none⟩ v2).ownsRow base 3 1 v2 (B.s.length+1) (B.s.map (·.2)++ [m]):=by
  refine zu o2 fun g hg=> ?_
  obtain ⟨c,hc⟩:=ze o2 hg
  exact zd _ _ _ _ _ (zq hc b3 (by decide))
 refine ⟨?_,⟨by simp;omega,fun g hg=> ?_,((zD.alloc w ob1).trans (zD.of_grown g1)).trans ((zD.setCell w1 _ _).trans (((zD.drew _).trans (zD.alloc _ ob2)).trans ((zD.of_grown g2).trans (zD.setCell w3 _ _))))⟩⟩
 ·refine ⟨b4,K.h.same fun g c t f hg ht=>keyT g c t f hg (by rcases ht with rfl | ⟨rfl,_⟩ | rfl<;>decide) (by rcases ht with rfl | ⟨rfl,_⟩ | rfl<;>decide) (by rcases ht with rfl | ⟨rfl,e⟩ | rfl;(exact .inl (by decide));(exact .inr (htw g e));(exact .inl (by decide))),K.l.same fun g c t f hg ht=>keyT g c t f hg (by rcases ht with rfl | ⟨rfl,_⟩ | rfl<;>decide) (by rcases ht with rfl | ⟨rfl,_⟩ | rfl<;>decide) (.inl (by rcases ht with rfl | ⟨rfl,_⟩ | rfl<;>decide)),?_,K.r.same fun g c t f hg ht=>keyT g c t f hg (by rcases ht with rfl | ⟨rfl,_⟩ | rfl<;>decide) (by rcases ht with rfl | ⟨rfl,_⟩ | rfl<;>decide) (.inl (by rcases ht with rfl | ⟨rfl,_⟩ | rfl<;>decide)),?_,K.ap2,K.wlo⟩
  ·refine ⟨by simpa using hrow,by simpa using hmk,fun p hp=> ?_,fun p hp=>(List.mem_append.1 hp).elim (K.s.mv p) (fun h=>by rw [List.mem_singleton] at h;subst h;exact hmv)⟩
   rcases List.mem_append.1 hp with hp | hp
   ·exact (K.s.ok p hp).same fun g _ ⟨c,f,hg⟩=>keyT g c _ f hg (by decide) (by decide) (.inl (by decide))
   ·rw [List.mem_singleton] at hp
    subst hp
    exact hM.same fun g _ ⟨c,f,hg⟩=>keyT g c _ f hg (by decide) (by decide) (.inl (by decide))
  ·show x.hm.ownBlock=none\/x.hm.ownBlock≠v2.ownBlock
   rcases n2 with e | e
   ·rw [e];exact K.ap1
   ·cases hv:x.hm.ownBlock with
    | none=>exact .inl rfl
    | some g=>
      right
      intro e2
      have h1:=e g e2.symm
      have h2:=(K.h.marks.lt g hv).2
      omega
 ·by_cases h1:g=wb
  ·subst h1
   exact .inr (.inr ⟨_,_,_,K.blk,by decide,K.wlo⟩)
  by_cases h2:some g=x.s.ownBlock
  ·obtain ⟨c,hc⟩:=ze K.s.row h2.symm
   exact .inr (.inr ⟨_,_,_,hc,by decide,(K.s.row.lt g h2.symm).1⟩)
  by_cases h3:some g=x.sm.ownBlock
  ·obtain ⟨c,hc⟩:=ze K.s.marks h3.symm
   exact .inr (.inr ⟨_,_,_,hc,by decide,(K.s.marks.lt g h3.symm).1⟩)
  exact .inl (key g hg h1 h2 h3)
theorem zC.push_r {base wb:Nat} {x:WV} {B:Bk} {w w1 w3:World} {v v1 v2 m:Value} {ob1 ob2:Obj} (K:zC base wb x B w)
 (g1:(w.alloc ob1).grownBy w1 x.r.ownBlock) (o1:w1.ownsRow base 100 1 v1 (B.r.length+1) (B.r.map (·.1)++ [v]))
 (g2:((w1.setCell ⟨wb,6,none⟩ v1).drew.alloc ob2).grownBy w3 x.rm.ownBlock) (o2:w3.ownsRow base 9 1 v2 (B.r.length+1) (B.r.map (·.2)++ [m])) (n2:v2.ownBlock=x.rm.ownBlock\/ ∀g,v2.ownBlock=some g->w.heap.size<=g)
 (hM:qx 101 2 (xu m) w v) (hmv:JR 9 m):
 zC base wb { x with r:=v1,rm:=v2 } { B with r:=B.r++ [(v,m)] } (w3.setCell ⟨wb,7,none⟩ v2)/\zs base w (w3.setCell ⟨wb,7,none⟩ v2) (fun _=>False):=by
 have hwb:wb<w.heap.size:=(Array.getElem?_eq_some_iff.1 K.blk).1
 have z1:=g1.size
 have z2:=g2.size
 simp at z1 z2
 have nrow:x.r.ownBlock≠some wb:=fun e=>by
  obtain ⟨c,hc⟩:=ze K.r.row e
  exact zq hc K.blk (by decide) rfl
 have nmk:x.rm.ownBlock≠some wb:=fun e=>by
  obtain ⟨c,hc⟩:=ze K.r.marks e
  exact zq hc K.blk (by decide) rfl
 have k1: ∀g,g<w.heap.size->some g≠x.r.ownBlock->w1.heap[g]? =w.heap[g]? :=fun g hg hne=>by
  rw [g1.block g (by simp;omega) hne];exact Below.heap_alloc w ob1 g hg
 have k2: ∀g,g<w1.heap.size->g≠wb->some g≠x.rm.ownBlock->w3.heap[g]? =w1.heap[g]? :=fun g hg hn hne=>by
  rw [g2.block g (by simp;omega) hne,Below.heap_alloc (w1.setCell ⟨wb,6,none⟩ v1).drew ob2 g (by simp;omega)]
  exact zd _ _ _ _ _ hn
 have b1:w1.heap[wb]? =some x.obj:=(k1 wb hwb (fun e=>nrow e.symm)).trans K.blk
 have b2:(w1.setCell ⟨wb,6,none⟩ v1).heap[wb]? =some ({ x with r:=v1 } :WV).obj:=by
  rw [zb _ _ _ _ _ _ _ b1];rfl
 have b3:w3.heap[wb]? =some ({ x with r:=v1 } :WV).obj:=by
  rw [g2.block wb (by simp;omega) (fun e=>nmk e.symm),Below.heap_alloc (w1.setCell ⟨wb,6,none⟩ v1).drew ob2 wb (by simp;omega)]
  exact b2
 have b4:(w3.setCell ⟨wb,7,none⟩ v2).heap[wb]? =some ({ x with r:=v1,rm:=v2 } :WV).obj:=by
  rw [zb _ _ _ _ _ _ _ b3];rfl
 have key: ∀g,g<w.heap.size->g≠wb->some g≠x.r.ownBlock->some g≠x.rm.ownBlock->(w3.setCell ⟨wb,7,none⟩ v2).heap[g]? =w.heap[g]? :=fun g hg h1 h2 h3=>by
  rw [zd _ _ _ _ _ h1,k2 g (by omega) h1 h3,k1 g hg h2]
 have keyT: ∀g cur t fr,w.heap[g]? =some (Obj.cells cur t fr)->t≠55->t≠100->(t≠9\/some g≠x.rm.ownBlock)->(w3.setCell ⟨wb,7,none⟩ v2).heap[g]? =w.heap[g]? :=by
  intro g cur t fr hg h1 h2 h3
  refine key g (Array.getElem?_eq_some_iff.1 hg).1 (zq hg K.blk h1) (fun e=> ?_) (fun e=> ?_)
  ·obtain ⟨c,hc⟩:=ze K.r.row e.symm
   exact zq hg hc h2 rfl
  ·rcases h3 with h3 | h3
   ·obtain ⟨c,hc⟩:=ze K.r.marks e.symm
    exact zq hg hc h3 rfl
   ·exact h3 e
 have htw: ∀g,x.lm.ownBlock=some g->some g≠x.rm.ownBlock:=by
  intro g hg e
  rcases K.ap2 with h | h
  ·rw [h] at hg;cases hg
  ·exact h (hg.trans e)
 have hrow:(w3.setCell ⟨wb,7,none⟩ v2).ownsRow base 100 1 v1 (B.r.length+1) (B.r.map (·.1)++ [v]):=by
  refine zu o1 fun g hg=> ?_
  obtain ⟨c,hc⟩:=ze o1 hg
  have hgw:g≠wb:=zq hc b1 (by decide)
  rw [zd _ _ _ _ _ hgw,k2 g (Array.getElem?_eq_some_iff.1 hc).1 hgw (fun e=> ?_)]
  obtain ⟨c2,hc2⟩:=ze K.r.marks e.symm
  have:w1.heap[g]? =w.heap[g]? :=k1 g (Array.getElem?_eq_some_iff.1 hc2).1 (fun e2=>by
   obtain ⟨c3,hc3⟩:=ze K.r.row e2.symm
   exact zq hc2 hc3 (by decide) rfl)
  rw [this] at hc
  exact zq hc hc2 (by decide) rfl
 have hmk:(w3.setCell ⟨wb,7,none⟩ v2).ownsRow base 9 1 v2 (B.r.length+1) (B.r.map (·.2)++ [m]):=by
  refine zu o2 fun g hg=> ?_
  obtain ⟨c,hc⟩:=ze o2 hg
  exact zd _ _ _ _ _ (zq hc b3 (by decide))
 refine ⟨?_,⟨by simp;omega,fun g hg=> ?_,((zD.alloc w ob1).trans (zD.of_grown g1)).trans ((zD.setCell w1 _ _).trans (((zD.drew _).trans (zD.alloc _ ob2)).trans ((zD.of_grown g2).trans (zD.setCell w3 _ _))))⟩⟩
 ·refine ⟨b4,K.h.same fun g c t f hg ht=>keyT g c t f hg (by rcases ht with rfl | ⟨rfl,_⟩ | rfl<;>decide) (by rcases ht with rfl | ⟨rfl,_⟩ | rfl<;>decide) (.inl (by rcases ht with rfl | ⟨rfl,_⟩ | rfl<;>decide)),K.l.same fun g c t f hg ht=>keyT g c t f hg (by rcases ht with rfl | ⟨rfl,_⟩ | rfl<;>decide) (by rcases ht with rfl | ⟨rfl,_⟩ | rfl<;>decide) (by rcases ht with rfl | ⟨rfl,e⟩ | rfl;(exact .inl (by decide));(exact .inr (htw g e));(exact .inl (by decide))),K.s.same fun g c t f hg ht=>keyT g c t f hg (by rcases ht with rfl | ⟨rfl,_⟩ | rfl<;>decide) (by rcases ht with rfl | ⟨rfl,_⟩ | rfl<;>decide) (.inl (by rcases ht with rfl | ⟨rfl,_⟩ | rfl<;>decide)),?_,K.ap1,?_,K.wlo⟩
  ·refine ⟨by simpa using hrow,by simpa using hmk,fun p hp=> ?_,fun p hp=>(List.mem_append.1 hp).elim (K.r.mv p) (fun h=>by rw [List.mem_singleton] at h;subst h;exact hmv)⟩
   rcases List.mem_append.1 hp with hp | hp
   ·exact (K.r.ok p hp).same fun g _ ⟨c,f,hg⟩=>keyT g c _ f hg (by decide) (by decide) (.inl (by decide))
   ·rw [List.mem_singleton] at hp
    subst hp
    exact hM.same fun g _ ⟨c,f,hg⟩=>keyT g c _ f hg (by decide) (by decide) (.inl (by decide))
  ·show x.lm.ownBlock=none\/x.lm.ownBlock≠v2.ownBlock
   rcases n2 with e | e
   ·rw [e];exact K.ap2
   ·cases hv:x.lm.ownBlock with
    | none=>exact .inl rfl
    | some g=>
      right
      intro e2
      have h1:=e g e2.symm
      have h2:=(K.l.marks.lt g hv).2
      omega
 ·by_cases h1:g=wb
  ·subst h1
   exact .inr (.inr ⟨_,_,_,K.blk,by decide,K.wlo⟩)
  by_cases h2:some g=x.r.ownBlock
  ·obtain ⟨c,hc⟩:=ze K.r.row h2.symm
   exact .inr (.inr ⟨_,_,_,hc,by decide,(K.r.row.lt g h2.symm).1⟩)
  by_cases h3:some g=x.rm.ownBlock
  ·obtain ⟨c,hc⟩:=ze K.r.marks h3.symm
   exact .inr (.inr ⟨_,_,_,hc,by decide,(K.r.marks.lt g h3.symm).1⟩)
  exact .inl (key g hg h1 h2 h3)
theorem zC.skip_h {base wb:Nat} {x:WV} {B:Bk} {W W':World} {vb:Option Nat} (K:zC base wb x B W) (hv: ∀g,vb=some g->g<W.heap.size-> ∃cur fr,W.heap[g]? =some (.cells cur 61 fr)) (hs: ∀g,g<W.heap.size->some g≠vb->W'.heap[g]? =W.heap[g]?)
 (hf: ∀p∈B.h,(p.1.ownBlock=none\/p.1.ownBlock≠vb)\/qx 61 5 (jF p.2) W' p.1):zC base wb x B W':=by
 have key: ∀g cur t fr,W.heap[g]? =some (Obj.cells cur t fr)->t≠61->W'.heap[g]? =W.heap[g]? :=fun g cur t fr hg ht=>by
  have hlt:=(Array.getElem?_eq_some_iff.1 hg).1
  refine hs g hlt (fun e=> ?_)
  obtain ⟨c,f,h⟩:=hv g e.symm hlt
  exact zq hg h ht rfl
 refine ⟨(key wb _ _ _ K.blk (by decide)).trans K.blk,?_,K.l.same fun g c t f hg ht=>key g c t f hg (by rcases ht with rfl | ⟨rfl,_⟩ | rfl<;>decide),K.s.same fun g c t f hg ht=>key g c t f hg (by rcases ht with rfl | ⟨rfl,_⟩ | rfl<;>decide),K.r.same fun g c t f hg ht=>key g c t f hg (by rcases ht with rfl | ⟨rfl,_⟩ | rfl<;>decide),K.ap1,K.ap2,K.wlo⟩
 refine ⟨zu K.h.row fun g hg=> ?_,zu K.h.marks fun g hg=> ?_,fun p hp=> ?_,K.h.mv⟩
 ·obtain ⟨c,hc⟩:=ze K.h.row hg
  exact key g c _ _ hc (by decide)
 ·obtain ⟨c,hc⟩:=ze K.h.marks hg
  exact key g c _ _ hc (by decide)
 ·rcases hf p hp with (h | h) | h
  ·exact (K.h.ok p hp).same fun g e _=>by rw [h] at e;cases e
  ·exact (K.h.ok p hp).same fun g e ⟨c,f,hg⟩=>hs g (Array.getElem?_eq_some_iff.1 hg).1 (fun e2=>h (e.trans e2))
  ·exact h
theorem zC.skip_l {base wb:Nat} {x:WV} {B:Bk} {W W':World} {vb:Option Nat} (K:zC base wb x B W) (hv: ∀g,vb=some g->g<W.heap.size-> ∃cur fr,W.heap[g]? =some (.cells cur 93 fr)) (hs: ∀g,g<W.heap.size->some g≠vb->W'.heap[g]? =W.heap[g]?)
 (hf: ∀p∈B.l,(p.1.ownBlock=none\/p.1.ownBlock≠vb)\/qx 93 2 (xu p.2) W' p.1):zC base wb x B W':=by
 have key: ∀g cur t fr,W.heap[g]? =some (Obj.cells cur t fr)->t≠93->W'.heap[g]? =W.heap[g]? :=fun g cur t fr hg ht=>by
  have hlt:=(Array.getElem?_eq_some_iff.1 hg).1
  refine hs g hlt (fun e=> ?_)
  obtain ⟨c,f,h⟩:=hv g e.symm hlt
  exact zq hg h ht rfl
 refine ⟨(key wb _ _ _ K.blk (by decide)).trans K.blk,K.h.same fun g c t f hg ht=>key g c t f hg (by rcases ht with rfl | ⟨rfl,_⟩ | rfl<;>decide),?_,K.s.same fun g c t f hg ht=>key g c t f hg (by rcases ht with rfl | ⟨rfl,_⟩ | rfl<;>decide),K.r.same fun g c t f hg ht=>key g c t f hg (by rcases ht with rfl | ⟨rfl,_⟩ | rfl<;>decide),K.ap1,K.ap2,K.wlo⟩
 refine ⟨zu K.l.row fun g hg=> ?_,zu K.l.marks fun g hg=> ?_,fun p hp=> ?_,K.l.mv⟩
 ·obtain ⟨c,hc⟩:=ze K.l.row hg
  exact key g c _ _ hc (by decide)
 ·obtain ⟨c,hc⟩:=ze K.l.marks hg
  exact key g c _ _ hc (by decide)
 ·rcases hf p hp with (h | h) | h
  ·exact (K.l.ok p hp).same fun g e _=>by rw [h] at e;cases e
  ·exact (K.l.ok p hp).same fun g e ⟨c,f,hg⟩=>hs g (Array.getElem?_eq_some_iff.1 hg).1 (fun e2=>h (e.trans e2))
  ·exact h
theorem zC.skip_s {base wb:Nat} {x:WV} {B:Bk} {W W':World} {vb:Option Nat} (K:zC base wb x B W) (hv: ∀g,vb=some g->g<W.heap.size-> ∃cur fr,W.heap[g]? =some (.cells cur 63 fr)) (hs: ∀g,g<W.heap.size->some g≠vb->W'.heap[g]? =W.heap[g]?)
 (hf: ∀p∈B.s,(p.1.ownBlock=none\/p.1.ownBlock≠vb)\/qx 63 3 (jG p.2) W' p.1):zC base wb x B W':=by
 have key: ∀g cur t fr,W.heap[g]? =some (Obj.cells cur t fr)->t≠63->W'.heap[g]? =W.heap[g]? :=fun g cur t fr hg ht=>by
  have hlt:=(Array.getElem?_eq_some_iff.1 hg).1
  refine hs g hlt (fun e=> ?_)
  obtain ⟨c,f,h⟩:=hv g e.symm hlt
  exact zq hg h ht rfl
 refine ⟨(key wb _ _ _ K.blk (by decide)).trans K.blk,K.h.same fun g c t f hg ht=>key g c t f hg (by rcases ht with rfl | ⟨rfl,_⟩ | rfl<;>decide),K.l.same fun g c t f hg ht=>key g c t f hg (by rcases ht with rfl | ⟨rfl,_⟩ | rfl<;>decide),?_,K.r.same fun g c t f hg ht=>key g c t f hg (by rcases ht with rfl | ⟨rfl,_⟩ | rfl<;>decide),K.ap1,K.ap2,K.wlo⟩
 refine ⟨zu K.s.row fun g hg=> ?_,zu K.s.marks fun g hg=> ?_,fun p hp=> ?_,K.s.mv⟩
 ·obtain ⟨c,hc⟩:=ze K.s.row hg
  exact key g c _ _ hc (by decide)
 ·obtain ⟨c,hc⟩:=ze K.s.marks hg
  exact key g c _ _ hc (by decide)
 ·rcases hf p hp with (h | h) | h
  ·exact (K.s.ok p hp).same fun g e _=>by rw [h] at e;cases e
  ·exact (K.s.ok p hp).same fun g e ⟨c,f,hg⟩=>hs g (Array.getElem?_eq_some_iff.1 hg).1 (fun e2=>h (e.trans e2))
  ·exact h
theorem zC.skip_r {base wb:Nat} {x:WV} {B:Bk} {W W':World} {vb:Option Nat} (K:zC base wb x B W) (hv: ∀g,vb=some g->g<W.heap.size-> ∃cur fr,W.heap[g]? =some (.cells cur 101 fr)) (hs: ∀g,g<W.heap.size->some g≠vb->W'.heap[g]? =W.heap[g]?)
 (hf: ∀p∈B.r,(p.1.ownBlock=none\/p.1.ownBlock≠vb)\/qx 101 2 (xu p.2) W' p.1):zC base wb x B W':=by
 have key: ∀g cur t fr,W.heap[g]? =some (Obj.cells cur t fr)->t≠101->W'.heap[g]? =W.heap[g]? :=fun g cur t fr hg ht=>by
  have hlt:=(Array.getElem?_eq_some_iff.1 hg).1
  refine hs g hlt (fun e=> ?_)
  obtain ⟨c,f,h⟩:=hv g e.symm hlt
  exact zq hg h ht rfl
 refine ⟨(key wb _ _ _ K.blk (by decide)).trans K.blk,K.h.same fun g c t f hg ht=>key g c t f hg (by rcases ht with rfl | ⟨rfl,_⟩ | rfl<;>decide),K.l.same fun g c t f hg ht=>key g c t f hg (by rcases ht with rfl | ⟨rfl,_⟩ | rfl<;>decide),K.s.same fun g c t f hg ht=>key g c t f hg (by rcases ht with rfl | ⟨rfl,_⟩ | rfl<;>decide),?_,K.ap1,K.ap2,K.wlo⟩
 refine ⟨zu K.r.row fun g hg=> ?_,zu K.r.marks fun g hg=> ?_,fun p hp=> ?_,K.r.mv⟩
 ·obtain ⟨c,hc⟩:=ze K.r.row hg
  exact key g c _ _ hc (by decide)
 ·obtain ⟨c,hc⟩:=ze K.r.marks hg
  exact key g c _ _ hc (by decide)
 ·rcases hf p hp with (h | h) | h
  ·exact (K.r.ok p hp).same fun g e _=>by rw [h] at e;cases e
  ·exact (K.r.ok p hp).same fun g e ⟨c,f,hg⟩=>hs g (Array.getElem?_eq_some_iff.1 hg).1 (fun e2=>h (e.trans e2))
  ·exact h
theorem zs.low {base:Nat} {w w':World} {s:Nat->Prop} (h:zs base w w' s) (hs: ∀g,s g->base<=g) {g:Nat} (hg:g<base) (hw:g<w.heap.size):w'.heap[g]? =w.heap[g]? :=by
 rcases h.2.1 g hw with e | e | ⟨c,t',f,e,_,hb⟩
 ·exact e
 ·have:=hs g e;omega
 ·omega
theorem zC.count {base wb:Nat} {x:WV} {B:Bk} {w w':World} {c:Nat} (K:zC base wb x B w) (hb:w'.heap[wb]? =some ({ x with c:=c } :WV).obj) (hs: ∀g,g<w.heap.size->g≠wb->w'.heap[g]? =w.heap[g]?):zC base wb { x with c:=c } B w':=by
 have key: ∀g cur t fr,w.heap[g]? =some (Obj.cells cur t fr)->t≠55->w'.heap[g]? =w.heap[g]? :=fun g cur t fr hg ht=>hs g (Array.getElem?_eq_some_iff.1 hg).1 (zq hg K.blk ht)
 exact ⟨hb,K.h.same fun g c t f hg ht=>key g c t f hg (by rcases ht with rfl | ⟨rfl,_⟩ | rfl<;>decide),K.l.same fun g c t f hg ht=>key g c t f hg (by rcases ht with rfl | ⟨rfl,_⟩ | rfl<;>decide),K.s.same fun g c t f hg ht=>key g c t f hg (by rcases ht with rfl | ⟨rfl,_⟩ | rfl<;>decide),K.r.same fun g c t f hg ht=>key g c t f hg (by rcases ht with rfl | ⟨rfl,_⟩ | rfl<;>decide),K.ap1,K.ap2,K.wlo⟩
end Go.Proofs.YtcclgodahlinbaaGreatDoor
