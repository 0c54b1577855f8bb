import Derived.Test.YtcclgodahlinbaaGreatDoorProg
import Derived.WalkKit
import Derived.WalkSpells
import Derived.WalkLawsBesides
import Derived.Laws.ComplexArith
namespace Go.Proofs.YtcclgodahlinbaaGreatDoor
set_option maxHeartbeats 16000000
open Tryz Go.RowKit Go
def fl (k:Nat):Nat:=floatOfInt .f64 k
def Gt (k:Nat):Bool:=
 (floatToIntVal .f64 (fl k) .i64==some (k:Int)) && (floatBits .add .f64 (fl k) 4607182418800017408==some (fl (k+1))) && (floatBits .add .f64 (fl k) 0==some (fl k)) &&
 (floatBits .sub .f64 (fl (k+1)) 4607182418800017408==some (fl k)) && (floatBits .sub .f64 (fl k) 0==some (fl k))
theorem TK:(List.range 210).all Gt=true:=by kernel_rfl
theorem VY (k:Nat) (h:k<210):Gt k=true:=List.all_eq_true.1 TK k (List.mem_range.2 h)
theorem TS {k:Nat} (h:k<210):floatToIntVal .f64 (fl k) .i64=some (k:Int):=by
 have:=VY k h;simp [Gt] at this;exact this.1.1.1.1
theorem Qf {k:Nat} (h:k<210):floatBits .add .f64 (fl k) 4607182418800017408=some (fl (k+1)):=by
 have:=VY k h;simp [Gt] at this;exact this.1.1.1.2
theorem GM {k:Nat} (h:k<210):floatBits .add .f64 (fl k) 0=some (fl k):=by
 have:=VY k h;simp [Gt] at this;exact this.1.1.2
theorem Qb {k:Nat} (h:k<210):floatBits .sub .f64 (fl (k+1)) 4607182418800017408=some (fl k):=by
 have:=VY k h;simp [Gt] at this;exact this.1.2
theorem GR {k:Nat} (h:k<210):floatBits .sub .f64 (fl k) 0=some (fl k):=by
 have:=VY k h;simp [Gt] at this;exact this.2
theorem TR:(prog.underlying 108).isSome=true:=by kernel_rfl
theorem Sp:prog.underlying 3=some (.int .i64):=by kernel_rfl
theorem Zj {k:Nat} (h:k<210) (w:World):(convert 108 3 (.float .f64 (fl k))).run prog w= .ok (.int .i64 k) w:=
 run_convert_float_int w 108 3 .f64 .i64 (fl k) k TR Sp (TS h)
theorem JO {x y:Nat} (hx:x<210) (hy:y<210) (w:World):
 (binOp .add 107 (.complex .f64 (fl x) (fl y)) (.complex .f64 4607182418800017408 0)).run prog w= .ok (.complex .f64 (fl (x+1)) (fl y)) w:=
 run_complex_sum w .add (.inl rfl) _ _ _ _ _ _ _ _ (by simp [cSumBits,Qf hx,GM hy])
theorem WM {x y:Nat} (hx:x<210) (hy:y<210) (w:World):
 (binOp .add 107 (.complex .f64 (fl x) (fl y)) (.complex .f64 0 4607182418800017408)).run prog w= .ok (.complex .f64 (fl x) (fl (y+1))) w:=
 run_complex_sum w .add (.inl rfl) _ _ _ _ _ _ _ _ (by simp [cSumBits,GM hx,Qf hy])
theorem Ef {x y:Nat} (hx:x<210) (hy:y<210) (w:World):
 (binOp .add 107 (.complex .f64 (fl x) (fl y)) (.complex .f64 4607182418800017408 4607182418800017408)).run prog w= .ok (.complex .f64 (fl (x+1)) (fl (y+1))) w:=
 run_complex_sum w .add (.inl rfl) _ _ _ _ _ _ _ _ (by simp [cSumBits,Qf hx,Qf hy])
theorem FM {x y:Nat} (hx:x<210) (hy:y<210) (w:World):
 (binOp .sub 107 (.complex .f64 (fl (x+1)) (fl y)) (.complex .f64 4607182418800017408 0)).run prog w= .ok (.complex .f64 (fl x) (fl y)) w:=
 run_complex_sum w .sub (.inr rfl) _ _ _ _ _ _ _ _ (by simp [cSumBits,Qb hx,GR hy])
theorem Pk {x y:Nat} (hx:x<210) (hy:y<210) (w:World):
 (binOp .sub 107 (.complex .f64 (fl x) (fl (y+1))) (.complex .f64 0 4607182418800017408)).run prog w= .ok (.complex .f64 (fl x) (fl y)) w:=
 run_complex_sum w .sub (.inr rfl) _ _ _ _ _ _ _ _ (by simp [cSumBits,GR hx,Qb hy])
theorem FG {x y:Nat} (hx:x<210) (hy:y<210) (w:World):
 (binOp .sub 107 (.complex .f64 (fl (x+1)) (fl (y+1))) (.complex .f64 4607182418800017408 4607182418800017408)).run prog w= .ok (.complex .f64 (fl x) (fl y)) w:=
 run_complex_sum w .sub (.inr rfl) _ _ _ _ _ _ _ _ (by simp [cSumBits,Qb hx,Qb hy])
theorem Tj:fl 0=0:=by kernel_rfl
end Go.Proofs.YtcclgodahlinbaaGreatDoor
namespace Dn
structure Spot where
 x:Nat
 y:Nat
 far:Nat
 turn:Nat
 kind:Nat
abbrev qR:Spot:=⟨0,0,0,0,0⟩
def Spot.less (a b:Spot):Bool:=if a.far=b.far then decide (a.turn<b.turn) else decide (a.far<b.far)
def XK (l:List Spot) (i j:Nat):List Spot:=(l.set i (l.getD j qR)).set j (l.getD i qR)
def upM:Nat->List Spot->Nat->List Spot
 | 0,l,_=>l
 | k+1,l,j=>
   let i:=(j-1) / 2
   if i=j\/Spot.less (l.getD j qR) (l.getD i qR)=false then l else upM k (XK l i j) i
def downJ (l:List Spot) (i n:Nat):Nat:=
 if 2*i+2<n/\Spot.less (l.getD (2*i+2) qR) (l.getD (2*i+1) qR)=true then 2*i+2 else 2*i+1
def YN:Nat->List Spot->Nat->Nat->List Spot
 | 0,l,_,_=>l
 | k+1,l,i,n=>
   if n<=2*i+1 then l
   else if Spot.less (l.getD (downJ l i n) qR) (l.getD i qR)=false then l
   else YN k (XK l i (downJ l i n)) (downJ l i n) n
def jN (l:List Spot) (s:Spot):List Spot:=upM (l.length+1) (l++ [s]) l.length
def Xp (l:List Spot):List Spot:=YN l.length (XK l 0 (l.length-1)) 0 (l.length-1)
def xV (l:List Spot):Spot:=(Xp l).getD (l.length-1) qR
def xz (l:List Spot):List Spot:=(Xp l).take (l.length-1)
theorem yM (l:List Spot) (i j:Nat):(XK l i j).length=l.length:=by simp [XK]
theorem Pi {α} (d: α) (l:List α) (i j:Nat) (hi:i<l.length) (hj:j<l.length):
 List.Perm ((l.set i (l.getD j d)).set j (l.getD i d)) l:=by
 classical
 letI:DecidableEq α :=fun a b=>Classical.propDecidable (a=b)
 rw [List.perm_iff_count]
 intro a
 have e1:l.getD j d=l[j]:=by simp [List.getD,hj]
 have e2:l.getD i d=l[i]:=by simp [List.getD,hi]
 rw [e1,e2]
 by_cases hij:i=j
 ·subst hij;simp
 ·rw [List.count_set (by simpa using hj),List.count_set hi]
  have:(l.set i l[j])[j]'(by simpa using hj)=l[j]:=by
   rw [List.getElem_set];simp [hij]
  rw [this]
  have c1:(if l[i]==a then 1 else 0)<=List.count a l:=by
   split
   ·rename_i h;simp at h;subst h;exact List.count_pos_iff.2 (List.getElem_mem hi)
   ·omega
  omega
theorem Yp (l:List Spot) (i j:Nat) (hi:i<l.length) (hj:j<l.length):(XK l i j).Perm l:=
 Pi qR l i j hi hj
theorem WB: ∀(k:Nat) (l:List Spot) (j:Nat),j<l.length->(upM k l j).Perm l
 | 0,l,_,_=>by simp [upM]
 | k+1,l,j,h=>by
   unfold upM
   simp only
   split
   ·exact List.Perm.refl _
   ·have hi:(j-1) / 2<l.length:=by omega
    exact (WB k _ _ (by rw [yM];exact hi)).trans (Yp l _ _ hi h)
theorem Qv (l:List Spot) (i n:Nat) (h:2*i+1<n):downJ l i n<n:=by
 unfold downJ;split<;>omega
theorem QP (l:List Spot) (i n:Nat):i<downJ l i n:=by
 unfold downJ;split<;>omega
theorem QI: ∀(k:Nat) (l:List Spot) (i n:Nat),n<=l.length->(YN k l i n).Perm l
 | 0,l,_,_,_=>by simp [YN]
 | k+1,l,i,n,h=>by
   unfold YN
   split
   ·exact List.Perm.refl _
   ·split
    ·exact List.Perm.refl _
    ·have hj:=Qv l i n (by omega)
     have:=QP l i n
     exact (QI k _ _ _ (by rw [yM];exact h)).trans (Yp l _ _ (by omega) (by omega))
theorem yU (l:List Spot) (s:Spot):(jN l s).Perm (l++ [s]):=WB _ _ _ (by simp)
theorem kr (l:List Spot) (s:Spot):(jN l s).length=l.length+1:=by
 have:=(yU l s).length_eq;simpa using this
theorem Kg (l:List Spot) (h:l≠ []):(Xp l).Perm l:=by
 have hl:0<l.length:=List.length_pos_iff.2 h
 exact (QI _ _ _ _ (by rw [yM];omega)).trans (Yp l _ _ hl (by omega))
theorem XO (l:List Spot) (h:l≠ []):(Xp l).length=l.length:=(Kg l h).length_eq
theorem WJ (l:List Spot) (h:l≠ []):(xz l++ [xV l]).Perm l:=by
 have hl:0<l.length:=List.length_pos_iff.2 h
 have e:xz l++ [xV l]=Xp l:=by
  unfold xz xV
  have hp:=XO l h
  have hlt:l.length-1<(Xp l).length:=by omega
  rw [show (Xp l).getD (l.length-1) qR=(Xp l)[l.length-1] by simp [List.getD,hlt]]
  rw [<-List.take_succ_eq_append_getElem hlt]
  rw [List.take_of_length_le (by omega)]
 rw [e];exact Kg l h
theorem popR_length (l:List Spot):(xz l).length=l.length-1\/l= []:=by
 by_cases h:l= []
 ·exact .inr h
 ·left;unfold xz;rw [List.length_take,XO l h];omega
structure yl where
 op:List Spot
 turns:Nat
 led:List Nat
def idx (m x y:Nat):Nat:=x*(m+1)+y
theorem To {m x y x' y':Nat} (h:y<=m) (h':y'<=m) (e:idx m x y=idx m x' y'):x=x'/\y=y':=by
 unfold idx at e
 have a:(x*(m+1)+y) / (m+1)=x:=by rw [Nat.mul_comm,Nat.mul_add_div (by omega)];simp [Nat.div_eq_of_lt (show y<m+1 by omega)]
 have b:(x'*(m+1)+y') / (m+1)=x':=by rw [Nat.mul_comm,Nat.mul_add_div (by omega)];simp [Nat.div_eq_of_lt (show y'<m+1 by omega)]
 have:x=x':=by rw [<-a,<-b,e]
 subst this
 omega
theorem EZ {n m x y:Nat} (hx:x<=n) (hy:y<=m):idx m x y<(n+1)*(m+1):=by
 unfold idx
 have:x*(m+1)<=n*(m+1):=Nat.mul_le_mul_right _ hx
 rw [Nat.add_mul];omega
section
variable {α :Type} [DecidableEq α] (o f:List α)
def yl.at (st:yl) (m x y:Nat):Nat:=st.led.getD (idx m x y) 0
def yG (m:Nat) (st:yl) (p:Spot) (dx dy kind:Nat):yl:=
 if st.at m (p.x+dx) (p.y+dy)=0 then
  { op:=jN st.op ⟨p.x+dx,p.y+dy,p.far+1,st.turns+1,kind⟩,turns:=st.turns+1,led:=st.led }
 else st
def yL (x y:Nat):Bool:=decide (x<o.length/\y<f.length/\o[x]? =f[y]?)
def Wr (st:yl) (p:Spot):yl:=
 if st.at f.length p.x p.y=0 then
  let st1:yl:= { st with led:=st.led.set (idx f.length p.x p.y) p.kind }
  if yL o f p.x p.y=true then { st1 with op:=jN st1.op ⟨p.x+1,p.y+1,p.far,p.turn,32⟩ }
  else
   let st2:=if p.x<o.length then yG f.length st1 p 1 0 45 else st1
   if p.y<f.length then yG f.length st2 p 0 1 43 else st2
 else st
def xd:yl:= { op:= [⟨0,0,0,0,46⟩],turns:=0,led:=List.replicate ((o.length+1)*(f.length+1)) 0 }
def kt (st:yl):yl:=Wr o f { st with op:=xz st.op } (xV st.op)
def Led (st:yl) (x y kind:Nat):Prop:=
 (kind=46/\x=0/\y=0)\/
 (kind=32/\0<x/\0<y/\yL o f (x-1) (y-1)=true/\st.at f.length (x-1) (y-1)≠0)\/
 (kind=45/\0<x/\st.at f.length (x-1) y≠0)\/
 (kind=43/\0<y/\st.at f.length x (y-1)≠0)
def jU (st:yl) (x y:Nat):Prop:=st.at f.length x y≠0\/ ∃s∈st.op,s.x=x/\s.y=y
def ZF (l:List Nat):Nat:=l.count 0
structure Inv (st:yl):Prop where
 len:st.led.length=(o.length+1)*(f.length+1)
 spots: ∀s∈st.op,s.x<=o.length/\s.y<=f.length/\s.far<=st.turns/\s.turn<=st.turns/\Led o f st s.x s.y s.kind
 known: ∀x y,x<=o.length->y<=f.length->st.at f.length x y≠0->Led o f st x y (st.at f.length x y)
 start:jU f st 0 0
 next: ∀x y,x<=o.length->y<=f.length->st.at f.length x y≠0->
  if yL o f x y=true then jU f st (x+1) (y+1)
  else (x<o.length->jU f st (x+1) y)/\(y<f.length->jU f st x (y+1))
 turns:st.turns+2*ZF st.led<=2*st.led.length
theorem qI {x y:Nat} (h:yL o f x y=true):x<o.length/\y<f.length:=by
 unfold yL at h;simp at h;exact ⟨h.1,h.2.1⟩
theorem Jm:Inv o f (xd o f) where
 len:=by simp [xd]
 spots:=by
  intro s hs
  simp [xd] at hs
  subst hs
  simp [xd,Led]
 known:=by
  intro x y hx hy h
  exfalso;apply h
  simp [xd,yl.at,List.getD,List.getElem?_replicate]
  split<;>rfl
 start:=by
  right;exact ⟨⟨0,0,0,0,46⟩,by simp [xd],rfl,rfl⟩
 next:=by
  intro x y hx hy h
  exfalso;apply h
  simp [xd,yl.at,List.getD,List.getElem?_replicate]
  split<;>rfl
 turns:=by simp [xd,ZF]
theorem Inv.open_ne {o f:List α} {st:yl} (h:Inv o f st) (he:st.at f.length o.length f.length=0):st.op≠ []:=by
 intro h0
 have soon: ∀x y,jU f st x y->st.at f.length x y≠0:=by
  intro x y hs
  rcases hs with hs | ⟨s,hs,_⟩
  ·exact hs
  ·rw [h0] at hs;simp at hs
 have key: ∀k x y,x<=o.length->y<=f.length->(o.length-x)+(f.length-y)=k->st.at f.length x y≠0->False:=by
  intro k
  induction k using Nat.strongRecOn with
  | ind k ih=>
    intro x y hx hy hk hr
    have hn:=h.next x y hx hy hr
    split at hn
    ·rename_i hsame
     have:=qI o f hsame
     exact ih _ (by omega) (x+1) (y+1) (by omega) (by omega) rfl (soon _ _ hn)
    ·by_cases hxl:x<o.length
     ·exact ih _ (by omega) (x+1) y (by omega) (by omega) rfl (soon _ _ (hn.1 hxl))
     ·by_cases hyl:y<f.length
      ·exact ih _ (by omega) x (y+1) (by omega) (by omega) rfl (soon _ _ (hn.2 hyl))
      ·have:x=o.length:=by omega
       have:y=f.length:=by omega
       subst_vars
       exact hr he
 exact key _ 0 0 (by omega) (by omega) rfl (soon _ _ h.start)
end
section
set_option linter.unusedSectionVars false
variable {α :Type} [DecidableEq α] {o f:List α}
theorem Led.mono {st st':yl} {x y k:Nat} (hm: ∀x y,y<=f.length->st.at f.length x y≠0->st'.at f.length x y≠0) (hy:y<=f.length)
 (h:Led o f st x y k):Led o f st' x y k:=by
 rcases h with h | ⟨a,b,c,d,e⟩ | ⟨a,b,c⟩ | ⟨a,b,c⟩
 ·exact .inl h
 ·exact .inr (.inl ⟨a,b,c,d,hm _ _ (by omega) e⟩)
 ·exact .inr (.inr (.inl ⟨a,b,hm _ _ hy c⟩))
 ·exact .inr (.inr (.inr ⟨a,b,hm _ _ (by omega) c⟩))
theorem Led.pos {st:yl} {x y k:Nat} (h:Led o f st x y k):k≠0:=by
 rcases h with h | h | h | h<;>omega
theorem ES {st:yl} {n m x0 y0 x y k:Nat} (hl:st.led.length=(n+1)*(m+1)) (hx0:x0<=n) (hy0:y0<=m) (hy:y<=m) (op:List Spot) (t:Nat):
 yl.at { op:=op,turns:=t,led:=st.led.set (idx m x0 y0) k } m x y=if x=x0/\y=y0 then k else st.at m x y:=by
 have hlt:idx m x0 y0<st.led.length:=by rw [hl];exact EZ hx0 hy0
 unfold yl.at
 simp only [List.getD,List.getElem?_set]
 split
 ·rename_i h
  have:=To hy0 hy h
  rw [if_pos ⟨this.1.symm,this.2.symm⟩]
  rfl
 ·rename_i h
  rw [if_neg]
  rintro ⟨rfl,rfl⟩
  exact h rfl
theorem Eu {l:List Nat} {i k:Nat} (hi:i<l.length) (h0:l.getD i 0=0) (hk:k≠0):ZF (l.set i k)+1=ZF l:=by
 unfold ZF
 have hz:l[i]=0:=by simpa [List.getD,hi] using h0
 rw [List.count_set hi]
 have hp:0<l.count 0:=List.count_pos_iff.2 (hz ▸ List.getElem_mem hi)
 simp [hz,hk]
 omega
structure WY (o f:List α) (x0 y0:Nat) (b:Nat) (st:yl):Prop where
 len:st.led.length=(o.length+1)*(f.length+1)
 spots: ∀s∈st.op,s.x<=o.length/\s.y<=f.length/\s.far<=st.turns/\s.turn<=st.turns/\Led o f st s.x s.y s.kind
 known: ∀x y,x<=o.length->y<=f.length->st.at f.length x y≠0->Led o f st x y (st.at f.length x y)
 start:jU f st 0 0
 next: ∀x y,x<=o.length->y<=f.length->st.at f.length x y≠0-> ¬(x=x0/\y=y0)->
  if yL o f x y=true then jU f st (x+1) (y+1)
  else (x<o.length->jU f st (x+1) y)/\(y<f.length->jU f st x (y+1))
 here:st.at f.length x0 y0≠0
 turns:st.turns+2*ZF st.led+b<=2*st.led.length
theorem WY.push {x0 y0 b b':Nat} {st:yl} (h:WY o f x0 y0 b st) (s:Spot) (t:Nat) (hx:s.x<=o.length) (hy:s.y<=f.length) (hled:Led o f st s.x s.y s.kind)
 (hfar:s.far<=t) (hturn:s.turn<=t) (hmono:st.turns<=t) (ht:t+2*ZF st.led+b'<=2*st.led.length):
 WY o f x0 y0 b' { op:=jN st.op s,turns:=t,led:=st.led } :=by
 have hmem: ∀q,q∈jN st.op s ↔ q∈st.op\/q=s:=by
  intro q;rw [(yU st.op s).mem_iff];simp
 have hsoon: ∀x y,jU f st x y->jU f { op:=jN st.op s,turns:=t,led:=st.led } x y:=by
  intro x y hs
  rcases hs with hs | ⟨q,hq,e⟩
  ·exact .inl hs
  ·exact .inr ⟨q,(hmem q).2 (.inl hq),e⟩
 refine ⟨h.len,?_,h.known,hsoon _ _ h.start,?_,h.here,ht⟩
 ·intro q hq
  rcases (hmem q).1 hq with hq | rfl
  ·obtain ⟨a,b,c,d,e⟩:=h.spots q hq
   exact ⟨a,b,Nat.le_trans c hmono,Nat.le_trans d hmono,e⟩
  ·exact ⟨hx,hy,hfar,hturn,hled⟩
 ·intro x y hx hy hr hne
  have:=h.next x y hx hy hr hne
  split at this
  ·rename_i hs;rw [if_pos hs];exact hsoon _ _ this
  ·rename_i hs;rw [if_neg hs];exact ⟨fun a=>hsoon _ _ (this.1 a),fun a=>hsoon _ _ (this.2 a)⟩
theorem Ks {st:yl} (s:Spot) (t:Nat):jU f { op:=jN st.op s,turns:=t,led:=st.led } s.x s.y:=
 .inr ⟨s,(yU st.op s).mem_iff.2 (by simp),rfl,rfl⟩
theorem WY.change {x0 y0 b:Nat} {st:yl} (h:WY o f x0 y0 (b+1) st) (p:Spot) (dx dy kind:Nat) (hx:p.x+dx<=o.length) (hy:p.y+dy<=f.length)
 (hp:p.far<=st.turns) (hled:Led o f st (p.x+dx) (p.y+dy) kind):
 WY o f x0 y0 b (yG f.length st p dx dy kind)/\jU f (yG f.length st p dx dy kind) (p.x+dx) (p.y+dy)/\
 st.turns<=(yG f.length st p dx dy kind).turns/\(yG f.length st p dx dy kind).led=st.led/\
 (yG f.length st p dx dy kind).op.length<=st.op.length+1/\
 (∀x y,jU f st x y->jU f (yG f.length st p dx dy kind) x y):=by
 have ht:=h.turns
 unfold yG
 split
 ·rename_i h0
  refine ⟨h.push _ _ hx hy hled (Nat.succ_le_succ hp) (Nat.le_refl _) (Nat.le_succ _) (by omega),Ks _ _,by simp,rfl,by simp [kr],?_⟩
  intro x y hs
  rcases hs with hs | ⟨q,hq,e⟩
  ·exact .inl hs
  ·exact .inr ⟨q,(yU st.op _).mem_iff.2 (by simp [hq]),e⟩
 ·rename_i h0
  exact ⟨⟨h.len,h.spots,h.known,h.start,h.next,h.here,by omega⟩,.inl h0,Nat.le_refl _,rfl,by omega,fun _ _ h=>h⟩
theorem Inv.round {st:yl} (h:Inv o f st) (hne:st.op≠ []):
 Inv o f (kt o f st)/\3*ZF (kt o f st).led+(kt o f st).op.length<3*ZF st.led+st.op.length:=by
 have hperm:=WJ st.op hne
 have hmem: ∀q,q∈st.op ↔ q∈xz st.op\/q=xV st.op:=by
  intro q;rw [<-hperm.mem_iff];simp
 have hlen:(xz st.op).length+1=st.op.length:=by have:=hperm.length_eq;simpa using this
 obtain ⟨px,py,pf,pt,pl⟩:=h.spots _ ((hmem _).2 (.inr rfl))
 have ht:=h.turns
 unfold kt Wr
 simp only
 generalize hs:xV st.op=s at *
 have hat: ∀x y,yl.at { op:=xz st.op,turns:=st.turns,led:=st.led } f.length x y=st.at f.length x y:=fun _ _=>rfl
 rw [hat]
 split
 ·rename_i h0
  have hset:=fun x y (hy:y<=f.length)=>ES (st:=st) (n:=o.length) (m:=f.length) (x0:=s.x) (y0:=s.y) (x:=x) (y:=y) (k:=s.kind) h.len px py hy (xz st.op) st.turns
  have hz:=Eu (l:=st.led) (i:=idx f.length s.x s.y) (k:=s.kind) (by rw [h.len];exact EZ px py) h0 pl.pos
  have hmono: ∀x y,y<=f.length->st.at f.length x y≠0->yl.at { op:=xz st.op,turns:=st.turns,led:=st.led.set (idx f.length s.x s.y) s.kind } f.length x y≠0:=by
   intro x y hy hr
   rw [hset x y hy]
   split
   ·exact pl.pos
   ·exact hr
  have hsoon: ∀x y,x<=o.length->y<=f.length->jU f st x y->jU f { op:=xz st.op,turns:=st.turns,led:=st.led.set (idx f.length s.x s.y) s.kind } x y:=by
   intro x y hx hy hh
   rcases hh with hh | ⟨q,hq,e1,e2⟩
   ·exact .inl (hmono x y hy hh)
   ·rcases (hmem q).1 hq with hq | rfl
    ·exact .inr ⟨q,hq,e1,e2⟩
    ·left
     rw [hset x y hy,if_pos ⟨e1.symm,e2.symm⟩]
     exact pl.pos
  have i0:WY o f s.x s.y 2 { op:=xz st.op,turns:=st.turns,led:=st.led.set (idx f.length s.x s.y) s.kind } :=by
   refine ⟨by simpa using h.len,?_,?_,hsoon _ _ (by omega) (by omega) h.start,?_,?_,?_⟩
   ·intro q hq
    obtain ⟨a,b,c,d,e⟩:=h.spots q ((hmem q).2 (.inl hq))
    exact ⟨a,b,c,d,e.mono hmono b⟩
   ·intro x y hx hy hr
    rw [hset x y hy] at hr ⊢
    split
    ·rename_i e
     rw [e.1,e.2]
     exact pl.mono hmono py
    ·rename_i e
     rw [if_neg e] at hr
     exact (h.known x y hx hy hr).mono hmono hy
   ·intro x y hx hy hr hne'
    rw [hset x y hy,if_neg hne'] at hr
    have:=h.next x y hx hy hr
    split at this
    ·rename_i hs'
     rw [if_pos hs']
     have hlt:=qI o f hs'
     exact hsoon _ _ (by omega) (by omega) this
    ·rename_i hs'
     rw [if_neg hs']
     exact ⟨fun a=>hsoon _ _ (by omega) (by omega) (this.1 a),fun a=>hsoon _ _ (by omega) (by omega) (this.2 a)⟩
   ·rw [hset _ _ py,if_pos ⟨rfl,rfl⟩];exact pl.pos
   ·simp only [List.length_set]
    omega
  split
  ·rename_i hsame
   have hlt:=qI o f hsame
   have hat1:=i0.here
   have i1:=i0.push (b':=0) ⟨s.x+1,s.y+1,s.far,s.turn,32⟩ st.turns (by simp;omega) (by simp;omega)
    (by right;left;exact ⟨rfl,by simp,by simp,by simpa using hsame,by simpa using hat1⟩) pf pt (Nat.le_refl _) (by have:=i0.turns;simp at this ⊢;omega)
   refine ⟨⟨i1.len,i1.spots,i1.known,i1.start,?_,i1.turns⟩,?_⟩
   ·intro x y hx hy hr
    by_cases e:x=s.x/\y=s.y
    ·rw [e.1,e.2,if_pos hsame]
     exact Ks (st:= { op:=xz st.op,turns:=st.turns,led:=st.led.set (idx f.length s.x s.y) s.kind }) ⟨s.x+1,s.y+1,s.far,s.turn,32⟩ st.turns
    ·exact i1.next x y hx hy hr e
   ·simp only [kr]
    omega
  ·rename_i hsame
   have hsf:yL o f s.x s.y=false:=by simpa using hsame
   have key: ∃st2:yl,st2=(if s.x<o.length then yG f.length { op:=xz st.op,turns:=st.turns,led:=st.led.set (idx f.length s.x s.y) s.kind } s 1 0 45 else { op:=xz st.op,turns:=st.turns,led:=st.led.set (idx f.length s.x s.y) s.kind })/\
    WY o f s.x s.y 1 st2/\(s.x<o.length->jU f st2 (s.x+1) s.y)/\st.turns<=st2.turns/\st2.led=st.led.set (idx f.length s.x s.y) s.kind/\st2.op.length<=(xz st.op).length+1:=by
    refine ⟨_,rfl,?_⟩
    split
    ·rename_i hxl
     have hat1:=i0.here
     obtain ⟨a,b,c,d,e,_⟩:=i0.change s 1 0 45 (by omega) (by omega) pf (by right;right;left;exact ⟨rfl,by omega,by simpa using hat1⟩)
     exact ⟨a,fun _=>by simpa using b,c,d,e⟩
    ·exact ⟨⟨i0.len,i0.spots,i0.known,i0.start,i0.next,i0.here,by have:=i0.turns;omega⟩,fun hh=>absurd hh (by assumption),Nat.le_refl _,rfl,by simp⟩
   obtain ⟨st2,hst2,j1,j2,j3,j4,j5⟩:=key
   rw [<-hst2]
   split
   ·rename_i hyl
    have hat1:=j1.here
    obtain ⟨a,b,c,d,e,g⟩:=j1.change s 0 1 43 (by omega) (by omega) (by omega) (by right;right;right;exact ⟨rfl,by omega,by simpa using hat1⟩)
    refine ⟨⟨a.len,a.spots,a.known,a.start,?_,a.turns⟩,?_⟩
    ·intro x y hx hy hr
     by_cases e:x=s.x/\y=s.y
     ·rw [e.1,e.2,if_neg (by simp [hsf])]
      exact ⟨fun hh=>g _ _ (j2 hh),fun _=>by simpa using b⟩
     ·exact a.next x y hx hy hr e
    ·rw [d,j4];omega
   ·rename_i hyl
    refine ⟨⟨j1.len,j1.spots,j1.known,j1.start,?_,by have:=j1.turns;omega⟩,?_⟩
    ·intro x y hx hy hr
     by_cases e:x=s.x/\y=s.y
     ·rw [e.1,e.2,if_neg (by simp [hsf])]
      exact ⟨j2,fun hh=>absurd hh hyl⟩
     ·exact j1.next x y hx hy hr e
    ·rw [j4];omega
 ·rename_i h0
  have hsoon: ∀x y,jU f st x y->jU f { op:=xz st.op,turns:=st.turns,led:=st.led } x y:=by
   intro x y hh
   rcases hh with hh | ⟨q,hq,e1,e2⟩
   ·exact .inl hh
   ·rcases (hmem q).1 hq with hq | rfl
    ·exact .inr ⟨q,hq,e1,e2⟩
    ·left
     rw [<-e1,<-e2];exact h0
  refine ⟨⟨h.len,?_,h.known,hsoon _ _ h.start,?_,ht⟩,?_⟩
  ·intro q hq
   exact h.spots q ((hmem q).2 (.inl hq))
  ·intro x y hx hy hr
   have:=h.next x y hx hy hr
   split at this
   ·rename_i hs';rw [if_pos hs'];exact hsoon _ _ this
   ·rename_i hs';rw [if_neg hs'];exact ⟨fun a=>hsoon _ _ (this.1 a),fun a=>hsoon _ _ (this.2 a)⟩
  ·simp only;omega
end
section
set_option linter.unusedSectionVars false
variable {α :Type} [DecidableEq α] {o f:List α}
def mu (st:yl):Nat:=3*ZF st.led+st.op.length
def xn (o f:List α):Nat->yl->yl
 | 0,st=>st
 | k+1,st=>if st.at f.length o.length f.length=0 then xn o f k (kt o f st) else st
theorem xk {k:Nat} {st:yl} (h:st.at f.length o.length f.length≠0):xn o f k st=st:=by
 cases k with
 | zero=>rfl
 | succ k=>simp [xn,h]
theorem KW: ∀(k k':Nat) (st:yl),Inv o f st->mu st<=k->mu st<=k'->xn o f k st=xn o f k' st:=by
 intro k
 induction k with
 | zero=>
   intro k' st hi h _
   by_cases he:st.at f.length o.length f.length=0
   ·have:=List.length_pos_iff.2 (hi.open_ne he)
    unfold mu at h;omega
   ·rw [xk he,xk he]
 | succ k ih=>
   intro k' st hi h h'
   by_cases he:st.at f.length o.length f.length=0
   ·have hne:=hi.open_ne he
    obtain ⟨hi',hlt⟩:=hi.round hne
    have:=List.length_pos_iff.2 hne
    cases k' with
    | zero=>unfold mu at h';omega
    | succ k'=>
      simp only [xn,he,if_true]
      exact ih k' _ hi' (by unfold mu at *;omega) (by unfold mu at *;omega)
   ·rw [xk he,xk he]
theorem Tb {st:yl} (hi:Inv o f st) (he:st.at f.length o.length f.length=0):
 xn o f (mu (kt o f st)) (kt o f st)=xn o f (mu st) st:=by
 have hne:=hi.open_ne he
 obtain ⟨hi',hlt⟩:=hi.round hne
 have hp:=List.length_pos_iff.2 hne
 obtain ⟨k,hk⟩: ∃k,mu st=k+1:=⟨mu st-1,by unfold mu;omega⟩
 rw [hk]
 simp only [xn,he,if_true]
 exact KW _ _ _ hi' (Nat.le_refl _) (by unfold mu at *;omega)
def KF (o f:List α):yl:=xn o f (mu (xd o f)) (xd o f)
structure ZS (α :Type) where
 kind:Nat
 text: α
def ky [Inhabited α] (o f:List α) (st:yl):Nat->Nat->Nat->List (ZS α)
 | 0,_,_=> []
 | k+1,x,y=>
   if x=0/\y=0 then []
   else if st.at f.length x y=32 then ⟨32,o.getD (x-1) default⟩::ky o f st k (x-1) (y-1)
   else if st.at f.length x y=45 then ⟨45,o.getD (x-1) default⟩::ky o f st k (x-1) y
   else ⟨st.at f.length x y,f.getD (y-1) default⟩::ky o f st k x (y-1)
def WT [Inhabited α] (o f:List α):List (ZS α):=(ky o f (KF o f) (o.length+f.length) o.length f.length).reverse
def YK (l:List (ZS α)):List α :=(l.filter (fun s=>s.kind !=43)).map (·.text)
def Yx (l:List (ZS α)):List α :=(l.filter (fun s=>s.kind !=45)).map (·.text)
theorem ku (a b:List (ZS α)):YK (a++b)=YK a++YK b:=by simp [YK]
theorem jZ (a b:List (ZS α)):Yx (a++b)=Yx a++Yx b:=by simp [Yx]
theorem Zp [Inhabited α] (l:List α) (x:Nat) (h0:0<x) (h:x<=l.length):l.take (x-1)++ [l.getD (x-1) default]=l.take x:=by
 obtain ⟨y,rfl⟩: ∃y,x=y+1:=⟨x-1,by omega⟩
 have hy:y<l.length:=by omega
 rw [Nat.add_sub_cancel,List.take_succ_eq_append_getElem hy]
 simp [List.getD,hy]
theorem Em [Inhabited α] {st:yl} (h:Inv o f st): ∀(k x y:Nat),x+y<=k->x<=o.length->y<=f.length->st.at f.length x y≠0->
 YK (ky o f st k x y).reverse=o.take x/\Yx (ky o f st k x y).reverse=f.take y/\
 ∀s∈ky o f st k x y,s.kind=32\/s.kind=45\/s.kind=43:=by
 intro k
 induction k with
 | zero=>
   intro x y hk _ _ _
   have:x=0:=by omega
   have:y=0:=by omega
   subst_vars
   simp [ky,YK,Yx]
 | succ k ih=>
   intro x y hk hx hy hr
   unfold ky
   split
   ·rename_i e;simp [e.1,e.2,YK,Yx]
   ·rename_i e
    have hled:=h.known x y hx hy hr
    rcases hled with ⟨a,b,c⟩ | ⟨a,b,c,d,e'⟩ | ⟨a,b,c⟩ | ⟨a,b,c⟩
    ·omega
    ·rw [if_pos a]
     obtain ⟨i1,i2,i3⟩:=ih (x-1) (y-1) (by omega) (by omega) (by omega) e'
     have hlt:=qI o f d
     have hs:o.getD (x-1) default=f.getD (y-1) default:=by
      unfold yL at d;simp only [decide_eq_true_eq] at d
      simp only [List.getD];rw [d.2.2]
     refine ⟨?_,?_,?_⟩
     ·rw [List.reverse_cons,ku,i1];exact Zp o x b hx
     ·rw [List.reverse_cons,jZ,i2,hs];exact Zp f y c hy
     ·intro s hs';simp at hs';rcases hs' with rfl | hs'
      ·simp
      ·exact i3 s hs'
    ·rw [if_neg (by omega),if_pos a]
     obtain ⟨i1,i2,i3⟩:=ih (x-1) y (by omega) (by omega) hy c
     refine ⟨?_,?_,?_⟩
     ·rw [List.reverse_cons,ku,i1];exact Zp o x b hx
     ·rw [List.reverse_cons,jZ,i2];simp [Yx]
     ·intro s hs';simp at hs';rcases hs' with rfl | hs'
      ·simp
      ·exact i3 s hs'
    ·rw [if_neg (by omega),if_neg (by omega)]
     obtain ⟨i1,i2,i3⟩:=ih x (y-1) (by omega) hx (by omega) c
     refine ⟨?_,?_,?_⟩
     ·rw [List.reverse_cons,ku,i1];simp [YK,a]
     ·rw [List.reverse_cons,jZ,i2,a];exact Zp f y b hy
     ·intro s hs';simp at hs';rcases hs' with rfl | hs'
      ·simp [a]
      ·exact i3 s hs'
theorem WR: ∀(k:Nat) (st:yl),Inv o f st->mu st<=k->Inv o f (xn o f k st)/\(xn o f k st).at f.length o.length f.length≠0:=by
 intro k
 induction k with
 | zero=>
   intro st hi h
   have he:st.at f.length o.length f.length≠0:=by
    intro he
    have:=List.length_pos_iff.2 (hi.open_ne he)
    unfold mu at h;omega
   rw [xk he];exact ⟨hi,he⟩
 | succ k ih=>
   intro st hi h
   by_cases he:st.at f.length o.length f.length=0
   ·have hne:=hi.open_ne he
    obtain ⟨hi',hlt⟩:=hi.round hne
    simp only [xn,he,if_true]
    exact ih _ hi' (by unfold mu at *;omega)
   ·rw [xk he];exact ⟨hi,he⟩
theorem Jb (o f:List α):Inv o f (KF o f)/\(KF o f).at f.length o.length f.length≠0:=WR _ _ (Jm o f) (Nat.le_refl _)
theorem Sb [Inhabited α] (o f:List α):YK (WT o f)=o/\Yx (WT o f)=f/\ ∀s∈WT o f,s.kind=32\/s.kind=45\/s.kind=43:=by
 obtain ⟨hi,he⟩:=Jb o f
 obtain ⟨a,b,c⟩:=Em hi (o.length+f.length) o.length f.length (Nat.le_refl _) (Nat.le_refl _) (Nat.le_refl _) he
 refine ⟨by simpa [WT] using a,by simpa [WT] using b,?_⟩
 intro s hs
 exact c s (by simpa [WT] using hs)
end
def Spot.lt (a b:Spot):Prop:=a.far<b.far\/(a.far=b.far/\a.turn<b.turn)
theorem Zc (a b:Spot):Spot.less a b=true ↔ a.lt b:=by
 unfold Spot.less Spot.lt;split<;>simp<;>omega
theorem QO (a b:Spot):Spot.less a b=false ↔ ¬a.lt b:=by
 rw [<-Zc];simp
theorem Zz {a b c:Spot} (h1: ¬b.lt a) (h2: ¬c.lt b): ¬c.lt a:=by
 unfold Spot.lt at *;omega
theorem ZC {a b:Spot} (h:a.lt b): ¬b.lt a:=by unfold Spot.lt at *;omega
abbrev gt (l:List Spot) (i:Nat):Spot:=l.getD i qR
theorem xY (l:List Spot) (i j t:Nat) (hi:i<l.length) (hj:j<l.length):
 gt (XK l i j) t=if t=j then gt l i else if t=i then gt l j else gt l t:=by
 unfold gt XK
 simp only [List.getD,List.getElem?_set,List.length_set]
 by_cases h1:t=j
 ·subst h1;simp [hj]
 ·by_cases h2:t=i
  ·subst h2
   rw [if_neg (fun h=>h1 h.symm),if_pos rfl,if_pos hi,if_neg h1,if_pos rfl];rfl
  ·rw [if_neg (fun h=>h1 h.symm),if_neg (fun h=>h2 h.symm),if_neg h1,if_neg h2]
def QG (n:Nat) (l:List Spot):Prop:= ∀i,0<i->i<n-> ¬(gt l i).lt (gt l ((i-1) / 2))
theorem PN (n:Nat): ∀(k:Nat) (l:List Spot) (j:Nat),j<k->j<n->n<=l.length->
 (∀i,0<i->i<n->i≠j-> ¬(gt l i).lt (gt l ((i-1) / 2)))->
 (∀c,0<c->c<n->(c-1) / 2=j->0<j-> ¬(gt l c).lt (gt l ((j-1) / 2)))->QG n (upM k l j):=by
 intro k
 induction k with
 | zero=>intro l j h;omega
 | succ k ih=>
   intro l j hk hj hn h1 h2
   unfold upM
   simp only
   split
   ·rename_i h
    intro i hi0 hin
    by_cases e:i=j
    ·subst e
     rcases h with h | h
     ·omega
     ·exact (QO _ _).1 h
    ·exact h1 i hi0 hin e
   ·rename_i h
    have hne:(j-1) / 2≠j:=fun e=>h (.inl e)
    have hlt:(gt l j).lt (gt l ((j-1) / 2)):=by
     rw [<-Zc]
     cases hh:Spot.less (gt l j) (gt l ((j-1) / 2)) with
     | true=>rfl
     | false=>exact absurd (.inr hh) h
    have hil:(j-1) / 2<l.length:=by omega
    have hjl:j<l.length:=by omega
    have hjpos:0<j:=by omega
    refine ih _ _ (by omega) (by omega) (by rw [yM];exact hn) ?_ ?_
    ·intro i hi0 hin hne'
     rw [xY l _ _ _ hil hjl,xY l _ _ _ hil hjl]
     by_cases e1:i=j
     ·subst e1
      rw [if_pos rfl,if_neg hne,if_pos rfl]
      exact ZC hlt
     ·rw [if_neg e1,if_neg hne']
      by_cases e2:(i-1) / 2=j
      ·rw [if_pos e2];exact h2 i hi0 hin e2 hjpos
      ·rw [if_neg e2]
       by_cases e3:(i-1) / 2=(j-1) / 2
       ·rw [if_pos e3]
        have:=h1 i hi0 hin e1
        rw [e3] at this
        exact Zz (ZC hlt) this
       ·rw [if_neg e3];exact h1 i hi0 hin e1
    ·intro c hc0 hcn hc hipos
     have hgp:((j-1) / 2-1) / 2≠j:=by omega
     have hgp2:((j-1) / 2-1) / 2≠(j-1) / 2:=by omega
     rw [xY l _ _ _ hil hjl,xY l _ _ _ hil hjl,if_neg hgp,if_neg hgp2]
     have hp:=h1 ((j-1) / 2) hipos (by omega) hne
     by_cases e1:c=j
     ·rw [if_pos e1];exact hp
     ·have e2:c≠(j-1) / 2:=by omega
      rw [if_neg e1,if_neg e2]
      have:=h1 c hc0 hcn e1
      rw [hc] at this
      exact Zz hp this
theorem FI (n:Nat): ∀(k:Nat) (l:List Spot) (i:Nat),n<=k+i->n<=l.length->
 (∀t,0<t->t<n->(t-1) / 2≠i-> ¬(gt l t).lt (gt l ((t-1) / 2)))->
 (∀c,0<c->c<n->(c-1) / 2=i->0<i-> ¬(gt l c).lt (gt l ((i-1) / 2)))->QG n (YN k l i n):=by
 intro k
 induction k with
 | zero=>
   intro l i hk hn h1 _ t ht0 htn
   exact h1 t ht0 htn (by omega)
 | succ k ih=>
   intro l i hk hn h1 h2
   unfold YN
   split
   ·rename_i h
    intro t ht0 htn
    exact h1 t ht0 htn (by omega)
   ·rename_i hlt
    have hlt:2*i+1<n:=by omega
    have hjn:=Qv l i n hlt
    have hji:=QP l i n
    have hmin: ∀t,0<t->t<n->(t-1) / 2=i-> ¬(gt l t).lt (gt l (downJ l i n)):=by
     intro t ht0 htn hti
     have:t=2*i+1\/t=2*i+2:=by omega
     unfold downJ
     split
     ·rename_i hh
      have hh2:=(Zc _ _).1 hh.2
      rcases this with rfl | rfl
      ·exact ZC hh2
      ·unfold Spot.lt;omega
     ·rename_i hh
      rcases this with rfl | rfl
      ·unfold Spot.lt;omega
      ·intro hl
       exact hh ⟨htn,(Zc _ _).2 hl⟩
    have hpar:(downJ l i n-1) / 2=i:=by unfold downJ;split<;>omega
    split
    ·rename_i hf
     have hf':=(QO _ _).1 hf
     intro t ht0 htn
     by_cases e:(t-1) / 2=i
     ·rw [e];exact Zz hf' (hmin t ht0 htn e)
     ·exact h1 t ht0 htn e
    ·rename_i hf
     have hl:(gt l (downJ l i n)).lt (gt l i):=by
      rw [<-Zc]
      cases hh:Spot.less (gt l (downJ l i n)) (gt l i) with
      | true=>rfl
      | false=>exact absurd hh hf
     generalize downJ l i n=j at *
     have hil:i<l.length:=by omega
     have hjl:j<l.length:=by omega
     refine ih _ _ (by omega) (by rw [yM];exact hn) ?_ ?_
     ·intro t ht0 htn hne
      rw [xY l _ _ _ hil hjl,xY l _ _ _ hil hjl]
      rw [if_neg (show ¬(t-1) / 2=j from hne)]
      by_cases e1:t=j
      ·rw [if_pos e1,e1,if_pos hpar];exact ZC hl
      ·rw [if_neg e1]
       by_cases e2:t=i
       ·rw [if_pos e2]
        have e3:(t-1) / 2≠i:=by omega
        rw [if_neg e3]
        subst e2
        exact h2 j (by omega) hjn hpar ht0
       ·rw [if_neg e2]
        by_cases e3:(t-1) / 2=i
        ·rw [if_pos e3];exact hmin t ht0 htn e3
        ·rw [if_neg e3];exact h1 t ht0 htn e3
     ·intro c hc0 hcn hc _
      rw [xY l _ _ _ hil hjl,xY l _ _ _ hil hjl]
      rw [if_neg (show c≠j by omega),if_neg (show c≠i by omega),if_neg (show (j-1) / 2≠j by omega),if_pos hpar]
      have:=h1 c hc0 hcn (by omega)
      rw [hc] at this
      exact this
theorem DK {n:Nat} {l:List Spot} (h:QG n l): ∀i,i<n-> ¬(gt l i).lt (gt l 0):=by
 intro i
 induction i using Nat.strongRecOn with
 | ind i ih=>
   intro hi
   by_cases h0:i=0
   ·subst h0;unfold Spot.lt;omega
   ·exact Zz (ih ((i-1) / 2) (by omega) (by omega)) (h i (by omega) hi)
theorem UN (n:Nat): ∀(k:Nat) (l:List Spot) (i t:Nat),n<=l.length->n<=t->gt (YN k l i n) t=gt l t:=by
 intro k
 induction k with
 | zero=>intro l i t _ _;rfl
 | succ k ih=>
   intro l i t hn ht
   unfold YN
   split
   ·rfl
   ·split
    ·rfl
    ·have hj:=Qv l i n (by omega)
     have hi:=QP l i n
     rw [ih _ _ _ (by rw [yM];exact hn) ht,xY l _ _ _ (by omega) (by omega),if_neg (by omega),if_neg (by omega)]
def Jc (l:List Spot):Prop:=QG l.length l
theorem YF (l r:List Spot) (i:Nat) (h:i<l.length):gt (l++r) i=gt l i:=by
 unfold gt;simp [List.getD,List.getElem?_append_left h]
theorem Ez {l:List Spot} (h:Jc l) (s:Spot):Jc (jN l s):=by
 unfold Jc
 rw [kr]
 unfold jN
 refine PN _ _ _ _ (by omega) (by omega) (by simp) ?_ ?_
 ·intro i hi0 hin hne
  rw [YF _ _ _ (by omega),YF _ _ _ (by omega)]
  exact h i hi0 (by omega)
 ·intro c hc0 hcn hc _
  omega
theorem Df {l:List Spot} (h:Jc l) (hne:l≠ []):Jc (xz l)/\xV l=gt l 0/\ ∀s∈l,¬s.lt (xV l):=by
 have hl:0<l.length:=List.length_pos_iff.2 hne
 have hS:xV l=gt l 0:=by
  show gt (Xp l) (l.length-1)=gt l 0
  unfold Xp
  rw [UN _ _ _ _ _ (by rw [yM];omega) (Nat.le_refl _),xY l _ _ _ hl (by omega),if_pos rfl]
 refine ⟨?_,hS,?_⟩
 ·have hd:QG (l.length-1) (Xp l):=by
   unfold Xp
   refine FI _ _ _ _ (by omega) (by rw [yM];omega) ?_ ?_
   ·intro t ht0 htn hne'
    rw [xY l _ _ _ hl (by omega),xY l _ _ _ hl (by omega),if_neg (by omega),if_neg (by omega),if_neg (by omega),if_neg (by omega)]
    exact h t ht0 (by omega)
   ·intro c _ _ _ h0;omega
  have hr:(xz l).length=l.length-1:=by
   rcases popR_length l with h | h
   ·exact h
   ·exact absurd h hne
  unfold Jc
  rw [hr]
  intro i hi0 hin
  have e: ∀t,t<l.length-1->gt (xz l) t=gt (Xp l) t:=by
   intro t ht
   unfold xz gt
   simp [List.getD,ht]
  rw [e _ hin,e _ (by omega)]
  exact hd i hi0 hin
 ·intro s hs
  rw [hS]
  obtain ⟨i,hi,rfl⟩:=List.mem_iff_getElem.1 hs
  have:=DK h i hi
  rwa [show gt l i=l[i] by simp [gt,List.getD,hi]] at this
end Dn
