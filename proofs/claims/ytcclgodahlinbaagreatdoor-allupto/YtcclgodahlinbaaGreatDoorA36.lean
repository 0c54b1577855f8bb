import Derived.Test.YtcclgodahlinbaaGreatDoorA35
import Derived.Test.YtcclgodahlinbaaGreatDoorA33
import Derived.Test.YtcclgodahlinbaaGreatDoorA11
import Derived.Test.YtcclgodahlinbaaGreatDoorA19
import Derived.BigQuiet
import Derived.BigRegion
import Derived.Deep.QuietTactic
import Derived.Deep.DeepCutAuto
import Derived.Test.YtcclgodahlinbaaGreatDoorA30
import Derived.Test.YtcclgodahlinbaaGreatDoorA32
namespace Go.Proofs.YtcclgodahlinbaaGreatDoor
set_option maxHeartbeats 16000000
open Tryz Go.RowKit Go
set_option maxRecDepth 100000
theorem JC (a b:ByteArray) (w:World) (h1:a.size<=4000000000) (h2:b.size<=4000000000):
 Calls prog 84 #[.string a,.string b] w fun e w'=> ∃al cl,e= .returned (.tuple #[.slice al (inl a b).length cl,.int .i64 (checkI a b:Nat)])/\w'.ownsRow w.heap.size 101 2 (.slice al (inl a b).length cl) (inl a b).length (zg (inl a b))/\Below w.heap.size w w':=by
 obtain ⟨i0,hinf,ix0,ix1,ix2⟩:=info_parts Qy
 have hno:Hid (∀(k:Nat) (W:World),checkI a b=k->k≠0->Below w.heap.size w W-> ∃al cl,Ending.returned (.tuple #[.slice none 0 0,.int .i64 (k:Int)])=Ending.returned (.tuple #[.slice al (inl a b).length cl,.int .i64 (checkI a b:Nat)])/\W.ownsRow w.heap.size 101 2 (.slice al (inl a b).length cl) (inl a b).length (zg (inl a b))/\Below w.heap.size w W):=by
  intro k W hk h0 hb
  have e:inl a b= []:=by unfold inl;rw [if_neg (by rw [hk];exact h0)]
  rw [e,hk]
  exact ⟨none,0,rfl,World.ownsRow_nil _ _ _ _,hb⟩
 go_enter func84,ntmps84
 by_cases s1:200<a.size
 ·have s1I:200<(a.size:Int):=by omega
  have hR:=hno.out 1 w (by unfold checkI;rw [if_pos (.inl s1)]) (by decide) (Below.refl _ _)
  have hRH:Hid _:=hR
  clear hR hno
  go_wp2_with fail
  go_ret2
  exact hRH.out
 have s1I: ¬200<(a.size:Int):=by omega
 by_cases s2:200<b.size
 ·have s2I:200<(b.size:Int):=by omega
  have hR:=hno.out 1 w (by unfold checkI;rw [if_pos (.inr s2)]) (by decide) (Below.refl _ _)
  have hRH:Hid _:=hR
  clear hR hno
  go_wp2_with fail
  go_ret2
  exact hRH.out
 have s2I: ¬200<(b.size:Int):=by omega
 go_wp2_with fail
 refine (Xm a w h1).mono ?_
 rintro e w1 ⟨rfl,rfl⟩
 go_wp2_with fail
 refine (Xm b w h2).mono ?_
 rintro e w1 ⟨rfl,rfl⟩
 cases n1:qA a with
 | true=>
   have hR:=hno.out 2 w (by unfold checkI;rw [if_neg (by omega),if_pos (.inl n1)]) (by decide) (Below.refl _ _)
   have hRH:Hid _:=hR
   clear hR hno n1
   go_wp2_with fail
   go_ret2
   exact hRH.out
 | false=>
 cases n2:qA b with
 | true=>
   have hR:=hno.out 2 w (by unfold checkI;rw [if_neg (by omega),if_pos (.inr n2)]) (by decide) (Below.refl _ _)
   have hRH:Hid _:=hR
   clear hR hno n1 n2
   go_wp2_with fail
   go_ret2
   exact hRH.out
 | false=>
 have hck:checkI a b=0:=by unfold checkI;rw [if_neg (by omega),if_neg (by rw [n1,n2];simp)]
 have hI:Hid (inl a b=foldR (Dn.WT (lettersB a) (lettersB b)) (Dn.WT (lettersB a) (lettersB b)).length/\checkI a b=0):=by
   refine ⟨?_,hck⟩
   unfold inl inlineM
   rw [if_pos hck,JL]
 have l1:=(qc a).2.2
 have l2:=(qc b).2.2
 clear hno n1 n2 hck
 go_wp2_with fail
 refine (kN a w (by omega)).mono ?_
 rintro e W1 ⟨a1,c1,rfl,o1,b1⟩
 have z1:=b1.size
 go_wp2_with fail
 refine (kN b W1 (by omega)).mono ?_
 rintro e W2 ⟨a2,c2,rfl,o2,b2⟩
 have z2:=b2.size
 have st1:=qa.of_owns (zR o1 b2 (fun k e=>(o1.lt k e).2))
 have st2:=qa.of_owns o2
 go_wp2_with fail
 refine (GU st1 st2 (by omega) (by omega)).mono ?_
 rintro e W3 ⟨aw,cw,rfl,ow,b3⟩
 have z3:=b3.size
 have hwl:(Dn.WT (lettersB a) (lettersB b)).length<=402:=by have:=kq (lettersB a) (lettersB b);omega
 have hS:=zJ.of_ownsT ow
 have hsz:Hid (∀s∈Dn.WT (lettersB a) (lettersB b),s.text.size<=200):=by
   intro s hs
   rcases way_text hs with h | h
   ·have:=ju h;omega
   ·have:=ju h;omega
 have hb3:=b1.trans ((b2.mono z1).trans (b3.mono (by omega)))
 have hsteps:Hid (∀W,Below W3.heap.size W3 W->zJ W3.heap.size W (.slice aw (Dn.WT (lettersB a) (lettersB b)).length cw) (Dn.WT (lettersB a) (lettersB b))):=fun W hb=>hS.below hb
 generalize lettersB a=La at *
 generalize lettersB b=Lb at *
 generalize Dn.WT La Lb=L at *
 have hz03:w.heap.size<=W3.heap.size:=by omega
 clear l1 l2 o1 o2 b1 b2 b3 z1 z2 z3 st1 st2 ow
 go_wp2_with fail
 go_loopg [11,12] L.length (fun g t11 t12 wk=> ∃(k:Nat) (al:Option Addr) (cl:Nat),g=L.length-k/\k<=L.length/\t12= .int .i64 k/\t11= .slice al (foldR L k).length cl/\wk.ownsRow W3.heap.size 101 2 (.slice al (foldR L k).length cl) (foldR L k).length (zg (foldR L k))/\Below W3.heap.size W3 wk)
 case atStart=>exact ⟨0,none,0,by omega,by omega,rfl,rfl,World.ownsRow_nil _ _ _ _,Below.refl _ _⟩
 case round=>
   rename World=>wk
   obtain ⟨k,al,cl,hgk,hkl,rfl,rfl,hown,hbk⟩:=hrel
   have hG:Hid (_=L.length-k):=hgk
   clear hgk
   have hzk:=hbk.size
   by_cases hlt:k<L.length
   ·have hltI:(k:Int)<L.length:=by omega
    obtain ⟨bw,rfl,hbw,x0,x1⟩:=(hsteps.out wk hbk).at hlt
    have hxs:Hid (∀W,Below W3.heap.size W3 W->W.cell? ⟨bw,k*2,none⟩=some (.int .u8 (L[k].kind:Nat))/\W.cell? ⟨bw,k*2+1,none⟩=some (.string L[k].text)):=fun W hb=>by
     obtain ⟨b',e,_,h0,h1⟩:=(hsteps.out W hb).at hlt
     cases e
     exact ⟨h0,h1⟩
    have hpr:Hid (k≠0-> ∃K1:Nat,wk.cell? ⟨bw,(k-1)*2,none⟩=some (.int .u8 (K1:Int))/\newRun L k=decide (K1≠L[k].kind)):=by
     intro h0
     obtain ⟨b',e,_,h1,_⟩:=(hsteps.out wk hbk).at (show k-1<L.length by omega)
     cases e
     refine ⟨_,h1,?_⟩
     unfold newRun
     rw [xx hlt,xx (show k-1<L.length by omega)]
     simp [h0]
    have hn0:Hid (k=0->newRun L k=true):=by intro h0;rw [h0];simp [newRun]
    have hfs:Hid (foldR L (k+1)=Ya (if newRun L k=true then foldR L k++ [⟨L[k].kind,ByteArray.empty⟩] else foldR L k) L[k].text):=by
     show _=_
     conv=>lhs;unfold foldR
     rw [xx hlt]
    have hne:Hid (newRun L k=false->foldR L k≠ []):=by
     intro h0
     refine WD L k ?_
     cases k with
     | zero=>simp [newRun] at h0
     | succ k=>omega
    have hfl:=YX L k
    have hTx:L[k].text.size<=200:=hsz.out _ (List.getElem_mem hlt)
    have hRs:Hid (∀r∈foldR L k,r.text.size<=k*200):=Qx hsz.out k
    generalize L[k].kind=K at *
    generalize L[k].text=Tx at *
    generalize newRun L k=nr at *
    obtain ⟨R,hRe⟩: ∃R,foldR L k=R:=⟨_,rfl⟩
    rw [hRe] at hfs hne hfl hown hRs ⊢
    clear hRe
    obtain ⟨n,hne'⟩: ∃n,R.length=n:=⟨_,rfl⟩
    have hnR:Hid (R.length=n):=hne'
    rw [hne'] at hown hfl ⊢
    clear hne'
    go_upto_region 14 with fail
    go_cut [57] (fun s57 wx=>s57= .bool nr/\Below W3.heap.size W3 wx/\wx.heap=wk.heap)
    case first=>
     by_cases hk0:k=0
     ·have hk0I:(((k:Nat):Int)==0)=true:=by rw [hk0];rfl
      have hnr:=hn0.out hk0
      subst hnr
      clear hk0
      go_quiet (fail)
      go_wp2_with fail
      go_meet
      case rel=>exact ⟨rfl,Below.drewN' hbk,rfl⟩
     ·have hk0I:(((k:Nat):Int)==0)=false:=by simp;omega
      obtain ⟨K1,c1,e1⟩:=hpr.out hk0
      have c1':wk.cell? ⟨bw,((k:Int)-1).toNat*2,none⟩=some (.int .u8 (K1:Int)):=by rw [show ((k:Int)-1).toNat=k-1 by omega];exact c1
      have hd:Hid (nr= !decide (K1=K)):=by show _=_;rw [e1];simp
      clear e1
      go_quiet (fail)
      go_wp2_with fail
      go_meet
      case rel=>exact ⟨by rw [hd.out];congr 1;rw [Bool.eq_iff_iff];simp;try omega,Below.drewN' hbk,rfl⟩
    case rest=>
     obtain ⟨rfl,hb4,hh4⟩:=hcut
     obtain ⟨w4,rfl⟩: ∃w4,w4=wc:=⟨_,rfl⟩
     have hown4:w4.ownsRow W3.heap.size 101 2 (.slice al n cl) n (zg R):=zu hown fun g _=>by rw [hh4]
     have y0:=(hxs.out w4 hb4).1
     have hz4:=hb4.size
     clear hown x0 x1 hpr hn0 hh4
     go_upto_if 57 with fail
     go_cut [11] (fun s11 wx=> ∃(al':Option Addr) (cl':Nat) (R':List zk),s11= .slice al' R'.length cl'/\wx.ownsRow W3.heap.size 101 2 (.slice al' R'.length cl') R'.length (zg R')/\Below W3.heap.size W3 wx/\Hid (R'=if nr=true then R++ [⟨K,ByteArray.empty⟩] else R)/\R'.length<=1000)
     case first=>
      cases nr with
      | false=>
        go_wp2_with fail
        go_meet
        case rel=>exact ⟨al,cl,R,by rw [hnR.out],by rw [hnR.out];exact hown4,hb4,by show _=_;simp,by rw [hnR.out];omega⟩
      | true=>
        have hon: ∀u∈ [Value.int .u8 (K:Int),Value.string ByteArray.empty],u.oneCell'=true:=by intro u hu;simp at hu;rcases hu with rfl | rfl<;>rfl
        have hm1:n+1<=maxLen:=Nat.le_trans (show n+1<=1000 by omega) (by decide)
        have hm2:(n+1)*24<=140737488355328:=by omega
        go_wp2_with (at_builtin;refine zm rfl (.tmp 58) (.tmp 65) 100 rfl W3.heap.size 101 i0 _ 2 24 underlying100 hinf ix0 ix1 ix2 rfl (by decide) (.slice al n cl) n (zg R) rfl (hown4.alloc _) ⟨w4.heap.size,0,none⟩ 1 1 [.int .u8 (K:Int),.string ByteArray.empty] rfl rfl (zt w4 _ _) hon hm1 hm2 (by simp;omega) ?_;intro v' w5 hown5 hgr hnew;obtain ⟨al5,cl5,rfl⟩:=zn hown5;have hb5:=(hb4.alloc (by omega) _).grown hgr (by simp;omega) (fun j e=>by have:=(hown4.lt j e).1;omega))
        go_meet
        case rel=>exact ⟨al5,cl5,R++ [⟨K,ByteArray.empty⟩],by rw [List.length_append,hnR.out];rfl,by rw [List.length_append,hnR.out,zB];exact hown5,hb5,by show _=_;simp,by rw [List.length_append,hnR.out];show n+1<=1000;omega⟩
     case rest=>
      obtain ⟨al',cl',R',rfl,hown5,hb5,hR',hlen⟩:=hcut
      obtain ⟨w5,rfl⟩: ∃w5,w5=wc:=⟨_,rfl⟩
      have hne2:R'≠ []:=by
       rw [hR'.out]
       cases nr with
       | true=>simp
       | false=>simp;exact hne.out rfl
      obtain ⟨init,r,rfl⟩: ∃init r,R'=init++ [r]:=⟨R'.dropLast,R'.getLast hne2,(List.dropLast_concat_getLast hne2).symm⟩
      have hfin:Hid (foldR L (k+1)=init++ [⟨r.kind,r.text++Tx⟩]):=by
       show _=_
       rw [hfs.out,<-hR'.out,yV]
      have hrs:r.text.size<=80400:=by
       have hk4:k*200<=80400:=by omega
       have hm:r∈init++ [r]:=by simp
       rw [hR'.out] at hm
       cases nr with
       | true=>
         simp only [if_true] at hm
         rcases List.mem_append.1 hm with h | h
         ·exact Nat.le_trans (hRs.out r h) hk4
         ·rw [List.mem_singleton] at h;rw [h];exact Nat.zero_le _
       | false=>exact Nat.le_trans (hRs.out r (by simpa using hm)) hk4
      have hcat: ¬9223372036854775807<r.text.size+Tx.size:=by omega
      have y1:=(hxs.out w5 hb5).2
      have hz5:=hb5.size
      rw [show (init++ [r]).length=init.length+1 by simp] at hown5 hlen ⊢
      obtain ⟨g,rfl,hg,_,r1⟩:=QA hown5 (i:=init.length) (by simp)
      simp only [qt] at r1
      obtain ⟨cur,hcur⟩:=ze hown5 (g:=g) rfl
      have hfz: ∀k,w5.frozen? ⟨g,k,none⟩=false:=fun k=>zi hcur
      have hgW:W3.heap.size<=g:=(hown5.lt g rfl).1
      have hown6:Hid (∀W:World,W.heap=w5.heap->(W.setCell ⟨g,init.length*2+1,none⟩ (.string (r.text++Tx))).ownsRow W3.heap.size 101 2 (.slice (some ⟨g,0,none⟩) (init.length+1) cl') (init.length+1) (zg (init++ [⟨r.kind,r.text++Tx⟩]))):=fun W hW=>Gr (zu hown5 fun g _=>by rw [hW]) _
      have hwv:IntKind.i64.wrap (init.length:Int)=init.length:=by rw [IntKind.wrap_i64];omega
      have hix:(init.length:Int)<((init.length+1:Nat):Int):=by omega
      have hix2:(init.length:Int)<(init.length:Int)+1:=by omega
      obtain ⟨p,hp⟩: ∃p,init.length=p:=⟨_,rfl⟩
      have hpH:Hid (init.length=p):=hp
      rw [hp] at r1 hown6 hwv hix hix2 hlen ⊢
      have hgb: ¬g=bw:=by omega
      have hgb': ¬bw=g:=by omega
      have hbw5:bw<w5.heap.size:=by omega
      clear hown5 hown4 hp hne2 hR' hcur y0 hfs hne
      go_wp2_with fail
      go_region
      all_goals
       have hR: ∃(k':Nat) (al:Option Addr) (cl:Nat),L.length-(k+1)=L.length-k'/\k'<=L.length/\Value.int .i64 ((k:Int)+1)= .int .i64 k'/\Value.slice (some ⟨g,0,none⟩) (p+1) cl'= .slice al (foldR L k').length cl/\((w5.setCell ⟨g,p*2+1,none⟩ (.string (r.text++Tx))).drew).ownsRow W3.heap.size 101 2 (.slice al (foldR L k').length cl) (foldR L k').length (zg (foldR L k'))/\Below W3.heap.size W3 ((w5.setCell ⟨g,p*2+1,none⟩ (.string (r.text++Tx))).drew):=by
        have hl:(foldR L (k+1)).length=p+1:=by rw [hfin.out,List.length_append,hpH.out];rfl
        refine ⟨k+1,some ⟨g,0,none⟩,cl',rfl,by omega,by push_cast;rfl,by rw [hl],?_,(hb5.setCell (p:=⟨g,p*2+1,none⟩) hgW _).drew⟩
        rw [hl,hfin.out]
        exact hown6.out w5 rfl
       have hRH:Hid _:=hR
       clear hR hown6 hfin
       go_wp2_with fail
       go_roundg (L.length-(k+1))
       ·exact hRH.out
       ·have:=hG.out;omega
   ·obtain rfl:k=L.length:=by omega
    have hltI: ¬((L.length:Int)<L.length):=by omega
    have hR: ∃al' cl',Ending.returned (.tuple #[.slice al (foldR L L.length).length cl,.int .i64 0])=Ending.returned (.tuple #[.slice al' (inl a b).length cl',.int .i64 (checkI a b:Nat)])/\wk.ownsRow w.heap.size 101 2 (.slice al' (inl a b).length cl') (inl a b).length (zg (inl a b))/\Below w.heap.size w wk:=by
     rw [hI.out.1,hI.out.2]
     exact ⟨al,cl,rfl,qe hown hz03,hb3.trans (hbk.mono hz03)⟩
    have hRH:Hid _:=hR
    clear hR hown
    generalize foldR L L.length=FR at *
    go_wp2_with fail
    go_ret2
    exact hRH.out
theorem HSo.same {base:Nat} {v:Value} {hv:List HV} {w w':World} (h:HSo base v hv w) (hs: ∀g,g<w.heap.size->w'.heap[g]? =w.heap[g]?):HSo base v hv w':=by
 rcases h with h | ⟨g,cap,e,hb,s⟩
 ·exact .inl h
 ·exact .inr ⟨g,cap,e,hb,s.len,zu s.row fun k hk=>hs k (s.row.lt k hk).2,fun p hp=>zu (s.lines p hp) fun k hk=>hs k ((s.lines p hp).lt k hk).2,s.apart⟩
structure jc (M:Nat) (x:WV) (B:Bk):Prop where
 c:x.c<=M
 h:B.h.length<=M
 l:B.l.length<=M
 s:B.s.length<=M
 r:B.r.length<=M
theorem ET {base wb M:Nat} {x:WV} {B:Bk} {w:World} {kd n m:Int} {a b:ByteArray} {ap:Option Addr} {np cp:Nat} (K:zC base wb x B w) (R:jc M x B) (hM:M<=600000000000) (hm:w.cell? ⟨0,0,none⟩=some (.int .i64 m)) (hbase:base<=w.heap.size)
 (h1:a.size<=4000000000) (h2:b.size<=4000000000):
 Calls prog 40 #[.pointer (some ⟨wb,0,none⟩),.agg #[.int .i64 kd,.int .i64 n,.string a,.string b,.slice ap np cp]] w fun e w'=>e= .returned (.bool true)/\ ∃(x':WV) (B':Bk),zC base wb x' B' w'/\jc (M+2000) x' B'/\zs base w w' (fun _=>False):=by
 have hmlt:=World.block_lt_of_cell? _ _ hm
 have hck:=YQ a b n
 obtain ⟨W0,hW0⟩: ∃W0,w.alloc (.cells #[.int .i64 kd,.int .i64 n,.string a,.string b,.slice ap np cp] 57)=W0:=⟨_,rfl⟩
 have b0:Below w.heap.size w W0:=by rw [<-hW0];exact (Below.refl _ _).alloc (Nat.le_refl _) _
 have z0:W0.heap.size=w.heap.size+1:=by rw [<-hW0];simp
 have hO0:W0.heap[w.heap.size]? =some (.cells #[.int .i64 kd,.int .i64 n,.string a,.string b,.slice ap np cp] 57 (0,0)):=by rw [<-hW0];exact heap_alloc_new w _
 have hm0:W0.cell? ⟨0,0,none⟩=some (.int .i64 m):=(b0.cell (p:=⟨0,0,none⟩) hmlt).trans hm
 have o1:W0.cell? ⟨w.heap.size,1,none⟩=some (.int .i64 n):=za hO0 rfl
 have o2:W0.cell? ⟨w.heap.size,2,none⟩=some (.string a):=za hO0 rfl
 have o3:W0.cell? ⟨w.heap.size,3,none⟩=some (.string b):=za hO0 rfl
 have hsm:=jw a b n
 go_enter func40,ntmps40
 go_wp2_with fail
 clear hW0
 refine (EX (a:=a) (b:=b) (c:=n) (m:=m) (Nat.lt_of_le_of_lt h1 (by decide)) (Nat.lt_of_le_of_lt h2 (by decide)) hm0).mono ?_
 rintro e W1 ⟨al,cl,hv,rfl,hso,hmap,b1⟩
 have z1:=b1.size
 have b1':=b1.alloc b1.size (.cells #[.slice al hv.length cl] 32)
 have hP2:=heap_alloc_new W1 (.cells #[.slice al hv.length cl] 32)
 have z2:(W1.alloc (.cells #[.slice al hv.length cl] 32)).heap.size=W1.heap.size+1:=by simp
 have hso2:=hso.alloc (.cells #[.slice al hv.length cl] 32)
 have hO2:=(b1'.block w.heap.size (by omega)).trans hO0
 have p1:(W1.alloc (.cells #[.slice al hv.length cl] 32)).cell? ⟨w.heap.size,1,none⟩=some (.int .i64 n):=za hO2 rfl
 have p2:(W1.alloc (.cells #[.slice al hv.length cl] 32)).cell? ⟨w.heap.size,2,none⟩=some (.string a):=za hO2 rfl
 have p3:(W1.alloc (.cells #[.slice al hv.length cl] 32)).cell? ⟨w.heap.size,3,none⟩=some (.string b):=za hO2 rfl
 have hvl:Hid (hv.length=(yu a b n).length):=by show _=_;rw [<-hmap,List.length_map]
 have hmapH:Hid (hv.map (·.1)=yu a b n):=hmap
 obtain ⟨N,hN⟩: ∃N,hv.length=N:=⟨_,rfl⟩
 have hNH:Hid (hv.length=N):=hN
 rw [hN] at b1' hP2 z2 hso2 p1 p2 p3 ⊢
 clear o1 o2 o3 hmap hN hso
 go_wp2_with fail
 generalize W1.alloc (.cells #[.slice al N cl] 32)=W2 at *
 refine (VV (a:=a) (b:=b) (c:=n) (w:=W2) h1 h2).mono ?_
 rintro e W3 ⟨aq,cq,rfl,hq,b3⟩
 have z3:=b3.size
 have hqn:(yu a b n).length=N:=by rw [<-hvl.out,hNH.out]
 rw [hqn] at hq ⊢
 have b3':=b3.alloc b3.size (.cells #[.slice aq N cq] 32)
 have hQ4:=heap_alloc_new W3 (.cells #[.slice aq N cq] 32)
 have z4:(W3.alloc (.cells #[.slice aq N cq] 32)).heap.size=W3.heap.size+1:=by simp
 have hq4:=(hq.below ((Below.refl W3.heap.size W3).alloc (Nat.le_refl _) (.cells #[.slice aq N cq] 32))).mono (show W3.heap.size<=(W3.alloc (.cells #[.slice aq N cq] 32)).heap.size by simp)
 have hP4:=(b3'.block W1.heap.size (by omega)).trans hP2
 have hso4:=hso2.same (w':=W3.alloc (.cells #[.slice aq N cq] 32)) fun g hg=>b3'.block g hg
 have r1:(W3.alloc (.cells #[.slice aq N cq] 32)).cell? ⟨W1.heap.size,0,none⟩=some (.slice al N cl):=za hP4 rfl
 have r2:(W3.alloc (.cells #[.slice aq N cq] 32)).cell? ⟨W3.heap.size,0,none⟩=some (.slice aq N cq):=za hQ4 rfl
 clear p1 p2 p3 hq
 go_wp2_with fail
 generalize W3.alloc (.cells #[.slice aq N cq] 32)=W4 at *
 have hA:=zO.of_owns hso4
 rw [hmapH.out] at hA
 have hcall:=Eh (hs:=yu a b n) (a:=al) (b:=aq) (ca:=cl) (cb:=cq) (w:=W4) (by rw [hqn];exact hA) (by rw [hqn];exact hq4) (Nat.le_trans hsm.1 (by decide)) (fun h hh=>Nat.le_trans (hsm.2 h hh) (by decide))
 rw [hqn] at hcall
 refine hcall.mono ?_
 rintro e W5 ⟨rfl,b5⟩
 have z5:=b5.size
 clear hcall hA hq4 hQ4 r1 r2
 have hP5:=(b5.block W1.heap.size (by omega)).trans hP4
 have s1:W5.cell? ⟨W1.heap.size,0,none⟩=some (.slice al N cl):=za hP5 rfl
 have hbAll:Below w.heap.size w W5:=b0.trans ((b1'.mono (by omega)).trans ((b3'.mono (by omega)).trans (b5.mono (by omega))))
 have hso5:=hso4.same (w':=W5) fun g hg=>b5.block g hg
 have K5:=K.old (W':=W5) fun g hg=>hbAll.block g hg
 have hzw:=hbAll.size
 have hpc:Hid (Calls prog 82 #[.pointer (some ⟨wb,0,none⟩),.agg #[.slice al N cl]] W5 fun e w'=>e= .returned (.tuple #[])/\ ∃(x':WV) (B':Bk),zC base wb x' B' w'/\jc (M+2000) x' B'/\zs base w w' (fun _=>False)):=by
  have hNl:N<=402:=by rw [<-hqn];exact hsm.1
  have hmem: ∀p∈hv,p.1.lines.length<=402:=fun p hp=>hsm.2 p.1 (by rw [<-hmapH.out];exact List.mem_map_of_mem hp)
  have hc:=ER (bl:=W0.heap.size) (al:=al) (cl:=cl) (hv:=hv) K5 (by rw [hNH.out];exact hso5) (by rw [hNH.out];omega) (fun p hp=>Nat.le_trans (hmem p hp) (by decide)) (fun p hp g e=>by have:=((K.l.ok p hp).lt g e).1;omega) (fun p hp g e=>by have:=((K.h.ok p hp).lt g e).1;omega) (by omega) (by omega) (by have:=R.c;omega) (by have:=R.l;omega) (by have:=R.h;omega)
  rw [hNH.out] at hc
  refine hc.mono ?_
  rintro e w' ⟨rfl,x',B',k1,k2,k3,k4,k5,k6,k7⟩
  refine ⟨rfl,x',B',k1,⟨?_,?_,?_,?_,?_⟩,⟨?_,fun g hg=> ?_,(zD.of_below hbAll).trans k7.2.2⟩⟩
  ·have:=R.c;rw [k6];omega
  ·have:=R.h;rw [k4];omega
  ·have:=R.l;rw [k5];omega
  ·have:=R.s;rw [k2];omega
  ·have:=R.r;rw [k3];omega
  ·have:=k7.1;omega
  ·have e1:=hbAll.block g hg
   rcases k7.2.1 g (by omega) with e | e | e
   ·exact .inl (e.trans e1)
   ·omega
   ·rw [e1] at e;exact .inr (.inr e)
 have e0: ∀x:Int,(x==x)=true:=by simp
 generalize checkB a b n=ck at *
 clear K5 hso5 hso4 hso2 hP5 hP4 hP2 K b0 b1 b1' b3 b3' b5 hO0 hO2 hsm
 go_wp2_with fail
 refine hpc.out.mono ?_
 rintro e W6 ⟨rfl,hR⟩
 have hRH:Hid _:=hR
 clear hR hpc
 go_wp2_with fail
 go_ret
 exact ⟨by first | rfl | simp,hRH.out⟩
theorem Ee (a b:ByteArray):(inl a b).length<=402:=by
 unfold inl
 by_cases h:checkI a b=0
 ·rw [if_pos h]
  unfold inlineM
  rw [<-JL]
  have hsz:a.size<=200/\b.size<=200:=by
   unfold checkI at h
   split at h
   ·cases h
   ·omega
  have l1:=(qc a).2.2
  have l2:=(qc b).2.2
  have hw:=kq (lettersB a) (lettersB b)
  have:=YX (Dn.WT (lettersB a) (lettersB b)) (Dn.WT (lettersB a) (lettersB b)).length
  omega
 ·rw [if_neg h]
  exact Nat.zero_le _
theorem Wh (a b:ByteArray):checkI a b<=3:=by
 unfold checkI
 repeat' split
 all_goals omega
theorem Gi {base wb M:Nat} {x:WV} {B:Bk} {w:World} {kd n:Int} {a b:ByteArray} {ap:Option Addr} {np cp:Nat} (K:zC base wb x B w) (R:jc M x B) (hM:M<=600000000000) (hbase:base<=w.heap.size)
 (h1:a.size<=4000000000) (h2:b.size<=4000000000):
 Calls prog 41 #[.pointer (some ⟨wb,0,none⟩),.agg #[.int .i64 kd,.int .i64 n,.string a,.string b,.slice ap np cp]] w fun e w'=>e= .returned (.bool true)/\ ∃(x':WV) (B':Bk),zC base wb x' B' w'/\jc (M+2000) x' B'/\zs base w w' (fun _=>False):=by
 have hck:=Wh a b
 obtain ⟨W0,hW0⟩: ∃W0,w.alloc (.cells #[.int .i64 kd,.int .i64 n,.string a,.string b,.slice ap np cp] 57)=W0:=⟨_,rfl⟩
 have b0:Below w.heap.size w W0:=by rw [<-hW0];exact (Below.refl _ _).alloc (Nat.le_refl _) _
 have z0:W0.heap.size=w.heap.size+1:=by rw [<-hW0];simp
 have hO0:W0.heap[w.heap.size]? =some (.cells #[.int .i64 kd,.int .i64 n,.string a,.string b,.slice ap np cp] 57 (0,0)):=by rw [<-hW0];exact heap_alloc_new w _
 have o2:W0.cell? ⟨w.heap.size,2,none⟩=some (.string a):=za hO0 rfl
 have o3:W0.cell? ⟨w.heap.size,3,none⟩=some (.string b):=za hO0 rfl
 have hsm:=Ee a b
 have hc1:=GC a b W0
 have hc2:Hid (∀W:World,Calls prog 84 #[.string a,.string b] W fun e w'=> ∃al cl,e= .returned (.tuple #[.slice al (inl a b).length cl,.int .i64 (checkI a b:Nat)])/\w'.ownsRow W.heap.size 101 2 (.slice al (inl a b).length cl) (inl a b).length (zg (inl a b))/\Below W.heap.size W w'):=fun W=>JC a b W h1 h2
 generalize checkI a b=ck at *
 generalize inl a b=RS at *
 go_enter func41,ntmps41
 go_wp2_with fail
 clear hW0
 refine hc1.mono ?_
 rintro e W1 ⟨al,cl,rfl,ow1,b1⟩
 have z1:=b1.size
 have hO1:=(b1.block w.heap.size (by omega)).trans hO0
 have p2:W1.cell? ⟨w.heap.size,2,none⟩=some (.string a):=za hO1 rfl
 have p3:W1.cell? ⟨w.heap.size,3,none⟩=some (.string b):=za hO1 rfl
 clear o2 o3 hO0 hc1
 go_wp2_with fail
 refine (hc2.out W1).mono ?_
 rintro e W2 ⟨am,cm,rfl,ow2,b2⟩
 have z2:=b2.size
 have ow12:=zR ow1 b2 (fun k e=>(ow1.lt k e).2)
 have hbAll:Below w.heap.size w W2:=b0.trans ((b1.mono (by omega)).trans (b2.mono (by omega)))
 have e0: ∀x:Int,(x==x)=true:=by simp
 have e1: ∀x:ByteArray,(x.toList==x.toList)=true:=by simp
 obtain ⟨N,hN⟩: ∃N,RS.length=N:=⟨_,rfl⟩
 have hNH:Hid (RS.length=N):=hN
 have hrun1:Hid (∀W,Below W2.heap.size W2 W-> ∀i (hi:i<RS.length),∃g,al=some ⟨g,0,none⟩/\g<W2.heap.size/\W.cell? ⟨g,i*2,none⟩=some (.int .u8 (RS[i].kind:Nat))/\W.cell? ⟨g,i*2+1,none⟩=some (.string RS[i].text)):=fun W hb i hi=>by
  obtain ⟨g,e,hg,q0,q1⟩:=QA ow12 hi
  exact ⟨g,e,hg,(hb.cell (p:=⟨g,i*2,none⟩) hg).trans q0,(hb.cell (p:=⟨g,i*2+1,none⟩) hg).trans q1⟩
 have hrun2:Hid (∀W,Below W2.heap.size W2 W-> ∀i (hi:i<RS.length),∃g,am=some ⟨g,0,none⟩/\g<W2.heap.size/\W.cell? ⟨g,i*2,none⟩=some (.int .u8 (RS[i].kind:Nat))/\W.cell? ⟨g,i*2+1,none⟩=some (.string RS[i].text)):=fun W hb i hi=>by
  obtain ⟨g,e,hg,q0,q1⟩:=QA ow2 hi
  exact ⟨g,e,hg,(hb.cell (p:=⟨g,i*2,none⟩) hg).trans q0,(hb.cell (p:=⟨g,i*2+1,none⟩) hg).trans q1⟩
 rw [hN] at ow12 hsm ⊢
 clear hN p2 p3 ow1 ow2 hO1
 go_wp2_with fail
 go_loopg [9,10] N (fun g t9 t10 wi=> ∃k:Nat,g=N-k/\k<=N/\t9= .bool true/\t10= .int .i64 k/\Below W2.heap.size W2 wi)
 case atStart=>exact ⟨0,by omega,by omega,by first | rfl | simp,rfl,Below.refl _ _⟩
 case round=>
  rename World=>wi
  obtain ⟨k,hgk,hkN,rfl,rfl,hbi⟩:=hrel
  have hG:Hid (_=N-k):=hgk
  clear hgk
  by_cases hk:k<N
  ·have hkI:(k:Int)<N:=by omega
   have hk':k<RS.length:=by rw [hNH.out];exact hk
   obtain ⟨g1,rfl,hg1,c0,c1⟩:=hrun1.out wi hbi k hk'
   obtain ⟨g2,rfl,hg2,d0,d1⟩:=hrun2.out wi hbi k hk'
   generalize RS[k].kind=Kk at *
   generalize RS[k].text=Tk at *
   go_wp2_with fail
   go_quiet (fail)
   go_wp2_with fail
   go_roundg (N-(k+1))
   ·exact ⟨k+1,rfl,by omega,by first | rfl | simp,by push_cast;rfl,Below.drewN' hbi⟩
   ·have:=hG.out;omega
  ·have hkI: ¬((k:Int)<N):=by omega
   have hbw:Below w.heap.size w wi:=hbAll.trans (hbi.mono (by omega))
   have Ki:=K.old (W':=wi) fun g hg=>hbw.block g hg
   have hzw:=hbw.size
   have hzi:=hbi.size
   have hpc:Hid (Calls prog 85 #[.pointer (some ⟨wb,0,none⟩),.slice al N cl] wi fun e w'=>e= .returned (.tuple #[])/\ ∃(x':WV) (B':Bk),zC base wb x' B' w'/\jc (M+2000) x' B'/\zs base w w' (fun _=>False)):=by
    have hrow:wi.ownsRow W0.heap.size 101 2 (.slice al N cl) N (zg RS):=zu ow12 fun g hg=>hbi.block g (ow12.lt g hg).2
    refine (FV (bl:=W0.heap.size) Ki hrow (by omega) (fun p hp=> ?_) (by omega) (by omega) (by have:=R.c;omega) (by have:=R.r;omega)).mono ?_
    ·cases hq:p.1.ownBlock with
     | none=>exact .inl rfl
     | some g=>
       right
       intro e
       have q1:=((K.r.ok p hp).lt g hq).1
       have q2:=(hrow.lt g e.symm).1
       omega
    rintro e w' ⟨rfl,x',E,k1,k2,k3,k4,k5⟩
    refine ⟨rfl,x',_,k1,⟨?_,?_,?_,?_,?_⟩,⟨?_,fun g hg=> ?_,(zD.of_below hbw).trans k5.2.2⟩⟩
    ·have:=R.c;rw [k3];omega
    ·have:=R.h;show B.h.length<=_;omega
    ·have:=R.l;show B.l.length<=_;omega
    ·have:=R.s;show B.s.length<=_;omega
    ·have:=R.r;show (B.r++E).length<=_;rw [List.length_append,k2];omega
    ·have:=k5.1;omega
    ·have q1:=hbw.block g hg
     rcases k5.2.1 g (by omega) with e | e | e
     ·exact .inl (e.trans q1)
     ·have:=(hrow.lt g e.symm).1;omega
     ·rw [q1] at e;exact .inr (.inr e)
   clear Ki K ow12 hrun1 hrun2 b0 b1 b2 hbAll
   go_wp2_with fail
   refine hpc.out.mono ?_
   rintro e W6 ⟨rfl,hR⟩
   have hRH:Hid _:=hR
   clear hR hpc
   go_wp2_with fail
   go_ret
   exact ⟨by first | rfl | simp,hRH.out⟩
end Go.Proofs.YtcclgodahlinbaaGreatDoor
