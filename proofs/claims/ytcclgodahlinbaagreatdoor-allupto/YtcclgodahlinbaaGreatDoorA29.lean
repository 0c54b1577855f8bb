import Derived.Test.YtcclgodahlinbaaGreatDoorA26
import Derived.OwnWalk
namespace Go.Proofs.YtcclgodahlinbaaGreatDoor
set_option maxHeartbeats 16000000
open Tryz Go.RowKit Go
set_option maxRecDepth 100000
theorem ZA:(prog.info? 61).map (·.size)=some 5:=by kernel_rfl
theorem Zh:(prog.info? 93).map (·.size)=some 2:=by kernel_rfl
theorem Ug:(prog.info? 59).map (·.size)=some 1:=by kernel_rfl
theorem Kt {w:World} {base e size g n:Nat} {xs:List Value} (h:w.ownsRow base e size (.slice (some ⟨g,0,none⟩) n n) n xs): ∃cur:List Value,w.heap[g]? =some (.cells cur.toArray e (0,0))/\cur.length=n*size:=by
 rcases h.2 with ⟨e,_⟩ | ⟨g',cap,cur,e,hb,hg,h1,h2,h3,h4⟩
 ·cases e
 ·cases e
  exact ⟨cur.toList,by simpa using hg,by simpa using h3⟩
theorem Ey {B c:Nat} {W:World} {a:Option Addr} {L:List zk} (h:yk B W (.slice a L.length c) L):L.length=0\/ ∃ad,a=some ad/\ ∀j v,(zg L)[j]? =some v->W.cell? (ad.add j)=some v:=by
 rcases h with ⟨rfl,_⟩ | ⟨b,off,cap,e,hb,hc⟩
 ·exact .inl rfl
 ·cases e
  refine .inr ⟨⟨b,off,none⟩,rfl,fun j v hv=> ?_⟩
  rw [show (⟨b,off,none⟩:Addr).add j=⟨b,off+j,none⟩ by unfold Addr.add;split<;>simp_all]
  have hlt:j<L.length*2:=by rw [<-zG];exact (List.getElem?_eq_some_iff.1 hv).1
  have hi:j / 2<L.length:=by omega
  obtain ⟨q0,q1⟩:=yR L (j / 2) hi
  obtain ⟨c0,c1⟩:=hc (j / 2) hi
  rcases Nat.mod_two_eq_zero_or_one j with h2 | h2
  ·have e1:j=j / 2*2:=by omega
   rw [e1] at hv ⊢
   rw [q0] at hv;rw [c0];exact hv
  ·have e1:j=j / 2*2+1:=by omega
   have e2:off+j=off+j / 2*2+1:=by omega
   rw [e2,c1,<-hv,<-q1,<-e1]
theorem qO.done {base ga:Nat} {vr:Value} {bs:List (HI×Nat)} {Z Z':List Value} {W W':World} (L:qO base ga vr bs Z W) (hs: ∀k,base<=k->k<W.heap.size->k≠ga->W'.heap[k]? =W.heap[k]?) (hga:W'.heap[ga]? =some (.cells (zM bs++Z').toArray 61 (0,0))):qO base ga vr bs Z' W':=
 ⟨hga,L.lo,zu L.rows fun g hg=>hs g (L.rows.lt g hg).1 (L.rows.lt g hg).2 (fun e=>zT L.rows L.all (by decide) (e ▸ hg)),fun p hp=>⟨(L.line p hp).1,(hs p.2 (L.line p hp).1 (Array.getElem?_eq_some_iff.1 (L.line p hp).2).1 (zq (L.line p hp).2 L.all (by decide))).trans (L.line p hp).2⟩,L.apart⟩
def qX:List Value:= [.int .i64 77,.int .i64 0,.int .i64 0,.int .i64 0,.slice none 0 0,.int .i64 78,.int .i64 0,.int .i64 0,.int .i64 0,.slice none 0 0]
theorem Ew {hs:List HI} {a:Option Addr} {cap:Nat} {w:World} (hH:yH w.heap.size w (.slice a hs.length cap) hs) (hL:Lim hs) (hn:0<hs.length):
 Calls prog 86 #[.agg #[.slice a hs.length cap]] w fun e w'=> ∃ga vr bs,e= .returned (.tuple #[.agg #[.slice (some ⟨ga,0,none⟩) hs.length (hs.length+2)],.slice (some ⟨ga,0,none⟩) (hs.length+2) (hs.length+2),vr])/\bs.map (·.1)=hs/\qO (w.heap.size+2) ga vr bs qX w'/\Below w.heap.size w w':=by
 have hb0:=((Below.refl w.heap.size w).alloc (Nat.le_refl _) (.cells #[.slice a hs.length cap] 32)).alloc (by simp) (.cells #[.slice none 0 0] 32)
 have hP1:=heap_alloc_new w (.cells #[.slice a hs.length cap] 32)
 have hP2:=heap_alloc_new (w.alloc (.cells #[.slice a hs.length cap] 32)) (.cells #[.slice none 0 0] 32)
 rw [World.size_alloc] at hP2
 have hP1':=(Below.heap_alloc (w.alloc (.cells #[.slice a hs.length cap] 32)) (.cells #[.slice none 0 0] 32) w.heap.size (by simp)).trans hP1
 have hz:((w.alloc (.cells #[.slice a hs.length cap] 32)).alloc (.cells #[.slice none 0 0] 32)).heap.size=w.heap.size+2:=by simp
 have hlh:=hL.1
 have hll:Hid (∀h∈hs,h.lines.length<=1048576):=fun h hh=>(hL.2 h hh).1
 have hHH:Hid (yH w.heap.size w (.slice a hs.length cap) hs):=hH
 obtain ⟨i0,hi,ix0,ix1,ix2⟩:=info_parts GT
 obtain ⟨j0,ji,jx0,jx1,jx2⟩:=info_parts yJ
 obtain ⟨k0,ki,kx0,kx1,kx2⟩:=info_parts qk
 obtain ⟨n,hnE⟩: ∃n,hs.length=n:=⟨_,rfl⟩
 have hnH:Hid (hs.length=n):=hnE
 clear hH hL hP1
 rw [hnE] at hn hb0 hP2 hP1' hz hlh hHH ⊢
 have hn0:(n==0)=false:=by rw [beq_eq_false_iff_ne];omega
 have hnz: ¬((n:Int)=0):=by omega
 clear hnE
 go_enter func86,ntmps86
 go_wp2_with (at_make;go_loud (refine wpList_make_full _ rfl (.tmp 18) (.tmp 18) 30 rfl (w.heap.size+2) 61 k0 _ 5 underlying30 ki kx0 kx1 .i64 .i64 _ _ (n+2) rfl rfl (by push_cast;rfl) (by push_cast;rfl) (by rw [kx2];omega) (by unfold maxLen;omega) (by omega) ?_;intro W1 hown1 hgr1))
 obtain ⟨C0,hC0,hCl⟩:=Kt hown1
 clear hown1
 rw [hz] at hC0
 generalize (w.alloc (.cells #[.slice a n cap] 32)).alloc (.cells #[.slice none 0 0] 32)=W0 at *
 have hb1:Below (w.heap.size+2) W0 W1:=(Below.refl _ W0).grown hgr1 (by omega) (fun k e=>by cases e)
 have hz1:=hb1.size
 go_loopg [6,8] n (fun g t6 t8 wr=> ∃(i:Nat) (vr:Value) (bs:List (HI×Nat)) (Z:List Value),g=n-i/\i<=n/\t8= .int .i64 i/\vr=t6/\qO (w.heap.size+2) (w.heap.size+2) vr bs Z wr/\Hid (bs.map (·.1)=hs.take i)/\Hid (Z.length=(n+2-i)*5)/\Below (w.heap.size+2) W0 wr)
 case atStart=>exact ⟨0,.slice none 0 0,[],C0,by omega,by omega,rfl,rfl,⟨by simpa [zM] using hC0,Nat.le_refl _,⟨rfl,.inl ⟨rfl,rfl⟩⟩,by simp,List.Pairwise.nil⟩,by show _=_;simp,by show _=_;simpa using hCl,hb1⟩
 case round=>
  rename World=>wr
  obtain ⟨i,vr,bs,Z,hgi,hin,rfl,rfl,hLn,hbs,hZ,hbel⟩:=hrel
  have hG:Hid (_=n-i):=hgi
  clear hgi hC0 hCl hgr1 hb1
  have hsw:=hbel.size
  have hsw':w.heap.size+2<=wr.heap.size:=by omega
  have hbw:=hb0.trans (hbel.mono (by omega))
  have p1:wr.cell? ⟨w.heap.size,0,none⟩=some (.slice a n cap):=za ((hbel.block w.heap.size (by omega)).trans hP1') rfl
  by_cases hi2:i<n
  ·have hiI:(i:Int)<n:=by omega
   have hi3:i<hs.length:=by rw [hnH.out];exact hi2
   obtain ⟨b,off,a1,c1,rfl,hbA,r0,r1,r2,r3,r4,hsA⟩:=(hHH.out.below hbw).at hi3
   have l1:=hll.out _ (List.getElem_mem hi3)
   have htk:Hid (hs.take (i+1)=hs.take i++ [hs[i]]):=List.take_succ_eq_append_getElem hi3
   generalize hs[i]=h at *
   have hbl:Hid (bs.length=i):=by
    have h1:=congrArg List.length hbs.out
    rw [List.length_map,List.length_take] at h1
    show _=_;omega
   have hA5:(zM bs).length=i*5:=by rw [xh,hbl.out]
   have hga0:wr.heap[w.heap.size+2]? =some (.cells (zM bs++(Z.take 5++Z.drop 5)).toArray 61 (0,0)):=by rw [List.take_append_drop];exact hLn.all
   have hgz:w.heap.size+2<wr.heap.size:=(Array.getElem?_eq_some_iff.1 hga0).1
   have hZ5:(Z.take 5).length=5:=by rw [List.length_take,hZ.out];omega
   have hone5: ∀u∈ [Value.int .i64 h.fr,.int .i64 h.fc,.int .i64 h.tr,.int .i64 h.tc,.slice a1 h.lines.length c1],u.oneCell'=true:=by intro u hu;simp at hu;rcases hu with rfl | rfl | rfl | rfl | rfl<;>rfl
   have hone1: ∀u∈ [Value.slice (some ⟨wr.heap.size,0,none⟩) (h.lines.length+2) (h.lines.length+2)],u.oneCell'=true:=by intro u hu;rw [List.mem_singleton] at hu;subst hu;rfl
   have hbl':bs.length<=300000:=by rw [hbl.out];omega
   have hone2: ∀u∈ [Value.int .u8 33,.string ⟨#[98,101,104,105,110,100]⟩],u.oneCell'=true:=by intro u hu;simp at hu;rcases hu with rfl | rfl<;>rfl
   go_wp2_with (first
    | (refine yj rfl 61 (.tmp 32) (.tmp 31) rfl (w.heap.size+2) (i*5) ?_ [.int .i64 h.fr,.int .i64 h.fc,.int .i64 h.tr,.int .i64 h.tc,.slice a1 h.lines.length c1] (zM bs) (Z.take 5) (Z.drop 5) ?_ ZA 61 hga0 hA5 hZ5 hone5 ?_
       go_loud (rfl)
       go_loud (rfl)
       intro w1 q1 z1 o1 u1
       have hO1:yf (w.heap.size+2) wr w1:=yf.at z1 o1 u1
       have hb1:=yf.below hbel hO1 (Nat.le_refl _) hsw'
       have p1':w1.cell? ⟨w.heap.size,0,none⟩=some (.slice (some ⟨b,off,none⟩) n cap):=(hO1.cell (by omega) (by omega)).trans p1
       have r4':w1.cell? ⟨b,off+i*5+4,none⟩=some (.slice a1 h.lines.length c1):=(hO1.cell (by omega) (by omega)).trans r4)
    | (at_make;go_loud (
       refine wpList_make_full w1 rfl (.tmp 41) (.tmp 41) 59 rfl (w.heap.size+2) 93 j0 _ 2 underlying59 ji jx0 jx1 .i64 .i64 _ _ (h.lines.length+2) rfl rfl (by push_cast;rfl) (by push_cast;rfl) (by rw [jx2];omega) (by unfold maxLen;omega) (by omega) ?_
       intro w2 hown2 hgr2
       obtain ⟨X,hX,hXl⟩:=Kt hown2
       clear hown2
       have hO2:yf (w.heap.size+2) wr w2:=hO1.trans (yf.grown hgr2)
       have q2:=(hgr2.block (w.heap.size+2) (by omega) (by simp)).trans q1
       have hb2:=yf.below hbel hO2 (Nat.le_refl _) hsw'
       have hz2:=hgr2.size
       have p2':w2.cell? ⟨w.heap.size,0,none⟩=some (.slice (some ⟨b,off,none⟩) n cap):=(hO2.cell (by omega) (by omega)).trans p1
       have r2':w2.cell? ⟨b,off+i*5+4,none⟩=some (.slice a1 h.lines.length c1):=(hO2.cell (by omega) (by omega)).trans r4
       have hsB:=hsA.below (w':=w2) ⟨hO2.2.2.1,hO2.2.2.2.1,hO2.2.2.2.2,hO2.1,fun k hk=>hO2.2.1 k (by omega) (by omega)⟩
       rw [z1] at hX
       clear hgr2 r0 r1 r2 r3 hsA))
    | (refine XZ rfl (.tmp 43) (.tmp 49) 59 59 rfl 93 underlying59 Zh wr.heap.size (h.lines.length+2) (h.lines.length+2) a1 h.lines.length c1 ?_ ?_ (zg h.lines) (X.take (h.lines.length*2)) (X.drop (h.lines.length*2)) 93 (by rw [List.take_append_drop];exact hX) (by omega) (zG _) (by rw [List.length_take,zG,hXl];omega) (Ey hsB) (Ve _) ?_
       go_loud (rfl)
       go_loud (rfl)
       intro w3 h3 z3 o3 u3
       have hO3:yf (w.heap.size+2) wr w3:=hO2.new (Nat.le_refl _) z3 o3 u3
       clear z3
       have q3:=(o3 (w.heap.size+2) (by omega)).trans q2
       have hX4:(X.drop (h.lines.length*2)).length=4:=by rw [List.length_drop,hXl];omega
       generalize X.drop (h.lines.length*2)=Y at *
       have h3':w3.heap[wr.heap.size]? =some (.cells (zg h.lines++(Y.take 2++Y.drop 2)).toArray 93 (0,0)):=by rw [List.take_append_drop];exact h3)
    | (refine yj rfl 93 (.tmp 54) (.tmp 53) rfl wr.heap.size (h.lines.length*2) ?_ [.int .u8 33,.string ⟨#[98,101,104,105,110,100]⟩] (zg h.lines) (Y.take 2) (Y.drop 2) ?_ Zh 93 h3' (zG _) (by rw [List.length_take,hX4];rfl) hone2 ?_
       go_loud (rfl)
       go_loud (rfl)
       intro w4 h4 z4 o4 u4
       have hO4:yf (w.heap.size+2) wr w4:=hO3.new (Nat.le_refl _) z4 o4 u4
       clear z4
       have q4:=(o4 (w.heap.size+2) (by omega)).trans q3
       have y0:w4.cell? ⟨wr.heap.size,h.lines.length*2,none⟩=some (.int .u8 33):=za h4 (by simp [zG])
       have y1:w4.cell? ⟨wr.heap.size,h.lines.length*2+1,none⟩=some (.string ⟨#[98,101,104,105,110,100]⟩):=za h4 (by simp [zG]))
    | (refine yj rfl 93 (.tmp 62) (.tmp 61) rfl wr.heap.size ((h.lines.length+1)*2) ?_ [.int .u8 33,.string ⟨#[98,101,104,105,110,100]⟩] (zg h.lines++ [.int .u8 33,.string ⟨#[98,101,104,105,110,100]⟩]) (Y.drop 2) [] ?_ Zh 93 (by rw [List.append_nil,List.append_assoc];exact h4) (by rw [List.length_append,zG];show _+2=_;omega) (by rw [List.length_drop,hX4];rfl) hone2 ?_
       go_loud (rfl)
       go_loud (rfl)
       intro w5 h5 z5 o5 u5
       have hO5:yf (w.heap.size+2) wr w5:=hO4.new (Nat.le_refl _) z5 o5 u5
       clear z5
       have q5:=(o5 (w.heap.size+2) (by omega)).trans q4)
    | (refine yj rfl 59 (.tmp 69) (.tmp 67) rfl (w.heap.size+2) (i*5+4) ?_ [.slice (some ⟨wr.heap.size,0,none⟩) h.lines.length (h.lines.length+2)] (zM bs++ [.int .i64 h.fr,.int .i64 h.fc,.int .i64 h.tr,.int .i64 h.tc]) [.slice a1 h.lines.length c1] (Z.drop 5) ?_ Ug 61 (by rw [List.append_assoc];exact q5) (by rw [List.length_append,hA5];rfl) rfl (by intro u hu;rw [List.mem_singleton] at hu;subst hu;rfl) ?_
       go_loud (rfl)
       go_loud (rfl)
       intro w6 q6 z6 o6 u6
       have hO6:yf (w.heap.size+2) wr w6:=hO5.trans (yf.at z6 o6 u6)
       clear z6
       have h6:=(o6 wr.heap.size (by omega)).trans h5)
    | (at_builtin;go_loud (
       have hrow6:=zu hLn.rows (w':=w6) (fun g hg=>hO6.2.1 g (hLn.rows.lt g hg).2 (fun e=>zT hLn.rows hLn.all (by decide) (e ▸ hg)))
       refine zm rfl (.tmp 70) (.tmp 72) 51 rfl (w.heap.size+2) 59 i0 _ 1 24 underlying51 hi ix0 ix1 ix2 rfl (by decide) vr bs.length (bs.map qZ) rfl (hrow6.alloc _) ⟨w6.heap.size,0,none⟩ 1 1 [.slice (some ⟨wr.heap.size,0,none⟩) (h.lines.length+2) (h.lines.length+2)] rfl rfl (zt w6 _ _) hone1 (by unfold maxLen;omega) (by omega) (by rw [World.size_alloc];have:=hO6.1;omega) ?_
       intro v7 w7 hown7 hgr7 _
       have hL7:=hLn.push hO6 (Nat.le_refl _) hsw' (by unfold yO;rw [zB,<-List.append_nil (zg h.lines++zg [ym,ym])];simpa [zg,ym] using h6) (by simpa [QE] using q6) hgr7 hown7
       have hb7:Below (w.heap.size+2) W0 w7:=((yf.below hbel hO6 (Nat.le_refl _) hsw').alloc (by have:=hO6.1;omega) _).grown hgr7 (by rw [World.size_alloc];have:=hO6.1;omega) (fun k e=>(hLn.rows.lt k e).1)
       clear hown7 hgr7 hrow6)))
   go_roundg (n-(i+1))
   ·exact ⟨i+1,v7,bs++ [(h,wr.heap.size)],Z.drop 5,rfl,by omega,by push_cast;rfl,rfl,hL7,by show _=_;rw [htk.out,List.map_append,hbs.out];rfl,by show _=_;rw [List.length_drop,hZ.out];omega,hb7⟩
   ·have:=hG.out;omega
  ·obtain rfl:i=n:=by omega
   have hiI: ¬((i:Int)<i):=by omega
   have hmap:Hid (bs.map (·.1)=hs):=by
    have h1:=hbs.out
    rw [List.take_of_length_le (by rw [hnH.out];exact Nat.le_refl _)] at h1
    exact h1
   have hbl:Hid (bs.length=i):=by
    have h1:=congrArg List.length hmap.out
    rw [List.length_map,hnH.out] at h1
    exact h1
   have hA5:(zM bs).length=i*5:=by rw [xh,hbl.out]
   have hga0:wr.heap[w.heap.size+2]? =some (.cells (zM bs++(Z.take 5++Z.drop 5)).toArray 61 (0,0)):=by rw [List.take_append_drop];exact hLn.all
   have hgz:w.heap.size+2<wr.heap.size:=(Array.getElem?_eq_some_iff.1 hga0).1
   have hZ5:(Z.take 5).length=5:=by rw [List.length_take,hZ.out];omega
   have hZ6:(Z.drop 5).length=5:=by rw [List.length_drop,hZ.out];omega
   have hone5: ∀m:Int,∀u∈ [Value.int .i64 m,.int .i64 0,.int .i64 0,.int .i64 0,.slice none 0 0],u.oneCell'=true:=by intro m u hu;simp at hu;rcases hu with rfl | rfl | rfl<;>rfl
   go_wp2_with (first
    | (refine yj rfl 61 (.tmp 77) (.tmp 76) rfl (w.heap.size+2) (i*5) ?_ [.int .i64 77,.int .i64 0,.int .i64 0,.int .i64 0,.slice none 0 0] (zM bs) (Z.take 5) (Z.drop 5) ?_ ZA 61 hga0 hA5 hZ5 (hone5 77) ?_
       go_loud (rfl)
       go_loud (rfl)
       intro w1 q1 z1 o1 u1
       have hO1:yf (w.heap.size+2) wr w1:=yf.at z1 o1 u1)
    | (refine yj rfl 61 (.tmp 82) (.tmp 81) rfl (w.heap.size+2) ((i+1)*5) ?_ [.int .i64 78,.int .i64 0,.int .i64 0,.int .i64 0,.slice none 0 0] (zM bs++ [.int .i64 77,.int .i64 0,.int .i64 0,.int .i64 0,.slice none 0 0]) (Z.drop 5) [] ?_ ZA 61 (by rw [List.append_nil,List.append_assoc];exact q1) (by rw [List.length_append,hA5];show _+5=_;omega) hZ6 (hone5 78) ?_
       go_loud (rfl)
       go_loud (rfl)
       intro w2 q2 z2 o2 u2
       have hO2:yf (w.heap.size+2) wr w2:=hO1.trans (yf.at z2 o2 u2)
       have hR2:=(hO2.2.1 (w.heap.size+1) (by omega) (by omega)).trans ((hbel.block (w.heap.size+1) (by omega)).trans hP2)
       have d0:w2.cell? ⟨w.heap.size+1,0,none⟩=some (.slice none 0 0):=za hR2 rfl
       have df: ∀k,w2.frozen? ⟨w.heap.size+1,k,none⟩=false:=fun k=>zi hR2))
   refine bodyPost_ret (v:= .tuple #[.agg #[.slice (some ⟨w.heap.size+2,0,none⟩) i (i+2)],.slice (some ⟨w.heap.size+2,0,none⟩) (i+2) (i+2),vr]) ?_ rfl ⟨w.heap.size+2,vr,rfl,bs,hmap.out,?_,?_⟩
   ·have hq:(w2.setCell ⟨w.heap.size+1,0,none⟩ (.slice (some ⟨w.heap.size+2,0,none⟩) i (i+2))).cell? ⟨w.heap.size+1,0,none⟩=some (.slice (some ⟨w.heap.size+2,0,none⟩) i (i+2)):=za (zb _ _ _ _ _ _ _ hR2) rfl
    simp [results,results86,go_sem,hq]
   ·refine hLn.done (fun k hk hlt hne=> ?_) ?_
    ·rw [zd _ _ _ _ _ (by omega)]
     exact hO2.2.1 k hlt hne
    ·rw [zd _ _ _ _ _ (by omega)]
     simpa [qX] using q2
   ·exact (hb0.trans ((yf.below hbel hO2 (Nat.le_refl _) hsw').mono (by omega))).setCell (p:=⟨w.heap.size+1,0,none⟩) (Nat.le_succ _) _
end Go.Proofs.YtcclgodahlinbaaGreatDoor
