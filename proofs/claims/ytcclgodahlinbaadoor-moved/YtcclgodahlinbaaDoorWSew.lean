import Derived.Test.YtcclgodahlinbaaDoorWSewL
namespace Go.Proofs.YtcclgodahlinbaaDoor
open Go.RowKit Go Go.Shelf
attribute [local go_sem] Oper.semAt_some
set_option maxRecDepth 100000

set_option maxHeartbeats 2000000 in
theorem sew_any {S : Nat} {s : SewS} {w : World} {al : Option Addr} {cl : Nat} {T : List ByteArray} {h : HunkM} {a : Option Addr} {c fz : Nat}
    (hs : SewA S (.slice al T.length cl) s.t (s.en : Nat) s.mv w) (hT : RowS w (.slice al T.length cl) T) (hl : StepsAt w.heap.size w (.slice a h.lines.length c) h.lines)
    (hk : ∀ x ∈ h.lines, x.kind = 32 ∨ x.kind = 45 ∨ x.kind = 43) (hL : h.lines.length ≤ 1000) (hfr : h.fr ≤ 40000) (hfc : min h.fc 1 ≤ h.fr) (hTl : T.length ≤ 40000) (hmv : -50000 ≤ s.mv ∧ s.mv ≤ 50000)
    (hlen : s.t.length + (textL T).length + (textL (Dn.newOf h.lines)).length ≤ 50000000) (hfz : fz ≤ 1000) :
    Calls Tryd.prog 27 #[.pointer (some ⟨S, 0, none⟩), hunkVal h (.slice a h.lines.length c), .int .i64 (fz : Int)] w fun e w' =>
      e = .returned (.agg #[.bool (sewM T s h fz).2.done, .int .i64 (sewM T s h fz).2.at', .int .i64 (sewM T s h fz).2.fz]) ∧ SewA S (.slice al T.length cl) (sewM T s h fz).1.t ((sewM T s h fz).1.en : Nat) (sewM T s h fz).1.mv w' ∧ Below S w w' ∧ Lib.OthersKept 5 (some S) w w' := by
  have hp := fun w => placeOf_any h.fr h.fc w (by omega) hfc
  refine (callsIn_wide (n := 9)).1 (callsIn_of_wp_marks Tryd.func27 rfl trivial (wpIn_wide.2 ?_) rfl)
  simp only [Tryd.ntmps27, List.size_toArray, List.length_cons, List.length_nil, Nat.reduceAdd, Nat.reduceSub, Array.replicate_succ, Array.replicate_zero, List.push_toArray, List.append_toArray, List.nil_append, List.cons_append]
  go_wp2_with (go_at_call 45; refine (hp _).mono ?_; rintro e w' ⟨rfl, rfl⟩)
  obtain ⟨z1, b1, k3, k4, k6, k7⟩ := alloc4 w (.cells #[.pointer (some ⟨S, 0, none⟩)] 101) (.cells #[.int .i64 (h.fr : Int), .int .i64 (h.fc : Int), .int .i64 (h.tr : Int), .int .i64 (h.tc : Int), .slice a h.lines.length c] 48) (.cells #[.bool false, .int .i64 0, .int .i64 0] 53) (.cells #[.int .i64 (placeM h.fr h.fc : Nat)] 3)
  generalize (((w.alloc (.cells #[.pointer (some ⟨S, 0, none⟩)] 101)).alloc (.cells #[.int .i64 (h.fr : Int), .int .i64 (h.fc : Int), .int .i64 (h.tr : Int), .int .i64 (h.tc : Int), .slice a h.lines.length c] 48)).alloc (.cells #[.bool false, .int .i64 0, .int .i64 0] 53)).alloc (.cells #[.int .i64 (placeM h.fr h.fc : Nat)] 3) = W1 at z1 b1 k3 k4 k6 k7 ⊢
  have hl1 : StepsAt W1.heap.size W1 (.slice a h.lines.length c) h.lines := (hl.below b1).mono b1.size
  refine (pieceOf_any hl1 hL hk).mono ?_
  rintro e w2 ⟨vo, vf, rfl, ho, hf, b2⟩
  have hz2 := b2.size
  obtain ⟨ao, co, rfl⟩ := owns_isSlice ho
  obtain ⟨af, cf, rfl⟩ := owns_isSlice hf
  have hro := RowS.of_owns ho
  have hrf := RowS.of_owns hf
  clear ho hf
  have c4 : w2.cell? ⟨w.heap.size + 1, 4, none⟩ = some (.slice a h.lines.length c) := (b2.cell (p := ⟨w.heap.size + 1, 4, none⟩) (by show w.heap.size + 1 < _; omega)).trans (cell_of k4 rfl)
  have hne1 : w.heap.size + 1 < w2.heap.size := by omega
  have c4' := fun ob => (World.cell?_of_block (a := ⟨w.heap.size + 1, 4, none⟩) (Below.heap_alloc w2 ob (w.heap.size + 1) hne1)).trans c4
  go_wp2_with fail
  have hW2b := b2.alloc b2.size (.cells #[.slice ao (Dn.oldOf h.lines).length co, .slice af (Dn.newOf h.lines).length cf] 103)
  have k8 := heap_alloc_new w2 (.cells #[.slice ao (Dn.oldOf h.lines).length co, .slice af (Dn.newOf h.lines).length cf] 103)
  have hro2 := hro.alloc (.cells #[.slice ao (Dn.oldOf h.lines).length co, .slice af (Dn.newOf h.lines).length cf] 103)
  have hrf2 := hrf.alloc (.cells #[.slice ao (Dn.oldOf h.lines).length co, .slice af (Dn.newOf h.lines).length cf] 103)
  have z2 : (w2.alloc (.cells #[.slice ao (Dn.oldOf h.lines).length co, .slice af (Dn.newOf h.lines).length cf] 103)).heap.size = w2.heap.size + 1 := by simp
  generalize w2.alloc (.cells #[.slice ao (Dn.oldOf h.lines).length co, .slice af (Dn.newOf h.lines).length cf] 103) = W2 at hW2b k8 hro2 hrf2 z2 ⊢
  have hl2 : StepsAt W2.heap.size W2 (.slice a h.lines.length c) h.lines := (hl1.below hW2b).mono hW2b.size
  refine (keeps_any hl2 hL).mono ?_
  rintro e w3 ⟨rfl, b3⟩
  have hz3 := b3.size
  obtain ⟨hks1, hks2⟩ := keeps_sum_all h.lines
  have hkl := keepsK_le h.lines h.lines.length
  have hB8 : w2.heap.size < W2.heap.size := by omega
  -- the boxes, where the loop begins
  have hb03 : Below W1.heap.size W1 w3 := hW2b.trans (b3.mono (by omega))
  have k3' := (hb03.block w.heap.size (by omega)).trans k3
  have k6' := (hb03.block (w.heap.size + 2) (by omega)).trans k6
  have k7' := (hb03.block (w.heap.size + 3) (by omega)).trans k7
  have k8' := (b3.block w2.heap.size hB8).trans k8
  have hro3 := hro2.below b3
  have hrf3 := hrf2.below b3
  have hbw : Below w.heap.size w w3 := b1.trans (hb03.mono (by omega))
  clear hro hrf hro2 hrf2 k3 k4 k6 k7 k8 c4 b3 hl1 hl2 hW2b hb03 b1 b2
  go_wp2_with fail
  have hN : (min (fz : Int) (max ((keepsK h.lines h.lines.length).1 : Int) ((keepsK h.lines h.lines.length).2.1 : Int)) + 1) = ((sewRounds h fz : Nat) : Int) := by unfold sewRounds; omega
  rw [hN]
  have hN2 : Hid (sewRounds h fz = min fz (max (keepsK h.lines h.lines.length).1 (keepsK h.lines h.lines.length).2.1) + 1) := rfl
  have hF2 : Hid (sewFind T s.en s.mv h fz = sewFrom T s.en s.mv h 0 (sewRounds h fz)) := rfl
  have hAt : Hid (∀ f, sewAt T s.en s.mv h f = (aroundL ((placeM h.fr h.fc : Nat) + s.mv) T.length).find? fun x => standM T s.en (pieceO h.lines f) (x + (min f (keepsK h.lines h.lines.length).1 : Nat))) := fun _ => rfl
  have hpo : Hid (∀ f, pieceO h.lines f = ((Dn.oldOf h.lines).drop (min f (keepsK h.lines h.lines.length).1)).take ((Dn.oldOf h.lines).length - min f (keepsK h.lines h.lines.length).2.1 - min f (keepsK h.lines h.lines.length).1)) := fun _ => rfl
  have hpf : Hid (∀ f, pieceF h.lines f = ((Dn.newOf h.lines).drop (min f (keepsK h.lines h.lines.length).1)).take ((Dn.newOf h.lines).length - min f (keepsK h.lines h.lines.length).2.1 - min f (keepsK h.lines h.lines.length).1)) := fun _ => rfl
  have hto : Hid (∀ f x, sewTo T s h f x = ⟨s.t ++ textL ((T.drop s.en).take ((x + (min f (keepsK h.lines h.lines.length).1 : Nat)).toNat - s.en)) ++ textL (pieceF h.lines f), (x + (min f (keepsK h.lines h.lines.length).1 : Nat)).toNat + (pieceO h.lines f).length, x - (placeM h.fr h.fc : Nat)⟩) := fun _ _ => rfl
  have hol := oldOf_len h.lines
  have hnl := newOf_len h.lines
  have hpl : placeM h.fr h.fc ≤ 40000 := by unfold placeM; split <;> omega
  generalize (keepsK h.lines h.lines.length).1 = F at hN hN2 hAt hpo hpf hto hks1 hks2 hkl ⊢
  generalize (keepsK h.lines h.lines.length).2.1 = G at hN hN2 hpo hpf hks1 hks2 hkl ⊢
  have hNb : sewRounds h fz ≤ 1001 := by have := hN2.out; omega
  generalize sewRounds h fz = N at hN hN2 hF2 hNb ⊢
  clear hN hN2 hp
  refine wp_loop_ghost_k (fun k a' w' => ∃ (f : Nat) (Ds : List Nat), k = N - f ∧ f ≤ N ∧ sewFrom T s.en s.mv h 0 N = sewFrom T s.en s.mv h f (N - f) ∧ a'.defers = Ds.map markD ∧ Marks Ds w' ∧ (∀ D ∈ Ds, w3.heap.size ≤ D) ∧ Below w3.heap.size w3 w' ∧ a'.tmps.size = 86 ∧
      a'.tmps[0]? = some (.pointer (some ⟨S, 0, none⟩)) ∧ a'.tmps[1]? = some (hunkVal h (.slice a h.lines.length c)) ∧ a'.tmps[2]? = some (.int .i64 (fz : Int)) ∧ a'.tmps[3]? = some (.pointer (some ⟨w.heap.size, 0, none⟩)) ∧ a'.tmps[4]? = some (.pointer (some ⟨w.heap.size + 1, 0, none⟩)) ∧ a'.tmps[6]? = some (.pointer (some ⟨w.heap.size + 1 + 1, 0, none⟩)) ∧ a'.tmps[7]? = some (.pointer (some ⟨w.heap.size + 1 + 1 + 1, 0, none⟩)) ∧ a'.tmps[8]? = some (.pointer (some ⟨w2.heap.size, 0, none⟩)) ∧ a'.tmps[9]? = some (.int .i64 (F : Int)) ∧ a'.tmps[10]? = some (.int .i64 (G : Int)) ∧ a'.tmps[34]? = some (.int .i64 (N : Int)) ∧ a'.tmps[35]? = some (.int .i64 (f : Int))) N ?_ ?_
  · exact ⟨0, [], by omega, by omega, by simp, rfl, ⟨List.nodup_nil, by simp⟩, by simp, Below.refl _ _, rfl, rfl, rfl, rfl, rfl, rfl, rfl, rfl, rfl, rfl, rfl, rfl, rfl⟩
  · rintro gk ⟨A, ds⟩ wr ⟨f, Ds, hgk, hfN, hsf, hds, hmk, hDs, hbel, hz86, e0, e1, e2, e3, e4, e6, e7, e8, e9, e10, e34, e35⟩ J K hJ hK
    obtain ⟨u, rfl⟩ := arr86 hz86 e0 e1 e2 e3 e4 e6 e7 e8 e9 e10 e34 e35
    clear e0 e1 e2 e3 e4 e6 e7 e8 e9 e10 e34 e35 hz86
    dsimp only at hds ⊢
    have hszr := hbel.size
    have hbw' : Below w.heap.size w wr := hbw.trans (hbel.mono (by omega))
    have c3 : wr.cell? ⟨w.heap.size, 0, none⟩ = some (.pointer (some ⟨S, 0, none⟩)) := cell_of ((hbel.block _ (by omega)).trans k3') rfl
    have c7 : wr.cell? ⟨w.heap.size + 1 + 1 + 1, 0, none⟩ = some (.int .i64 (placeM h.fr h.fc : Nat)) := cell_of ((hbel.block (w.heap.size + 3) (by omega)).trans k7') rfl
    have c80 : wr.cell? ⟨w2.heap.size, 0, none⟩ = some (.slice ao (Dn.oldOf h.lines).length co) := cell_of ((hbel.block _ (by omega)).trans k8') rfl
    have c81 : wr.cell? ⟨w2.heap.size, 1, none⟩ = some (.slice af (Dn.newOf h.lines).length cf) := cell_of ((hbel.block _ (by omega)).trans k8') rfl
    have hwr1 : w.heap.size + 3 < wr.heap.size := by omega
    have hwr2 : w2.heap.size < wr.heap.size := by omega
    have hwr3 : w.heap.size < wr.heap.size := by omega
    have hror := hro3.below hbel
    have hrfr := hrf3.below hbel
    have hz3' : Hid (W1.heap.size ≤ w2.heap.size ∧ W1.heap.size = w.heap.size + 4 ∧ W2.heap.size = w2.heap.size + 1 ∧ W2.heap.size ≤ w3.heap.size ∧ w3.heap.size ≤ wr.heap.size) := ⟨hz2, z1, z2, hz3, hszr⟩
    have hH : Hid (gk = N - f ∧ sewFrom T s.en s.mv h 0 N = sewFrom T s.en s.mv h f (N - f) ∧ ds = Ds.map markD) := ⟨hgk, hsf, hds⟩
    clear hgk hsf hds z1 z2 hz2 hz3 hszr
    by_cases hff : f < N
    · have hfI : (f : Int) < N := by omega
      have m1 : min (f : Int) F = ((min f F : Nat) : Int) := by omega
      have m2 : min (f : Int) G = ((min f G : Nat) : Int) := by omega
      go_wp2_with fail
      obtain ⟨z4, hb4, q11, q12⟩ := alloc2 wr (.cells #[.int .i64 (f : Int)] 3) (.cells #[.int .i64 ((min f F : Nat) : Int)] 3)
      generalize (wr.alloc (.cells #[.int .i64 (f : Int)] 3)).alloc (.cells #[.int .i64 ((min f F : Nat) : Int)] 3) = W4 at z4 hb4 q11 q12 ⊢
      have hwo := without_any (f := min f F) (l := min f G) (hror.below hb4) (hrfr.below hb4) (by omega) (by omega) (by omega) (by omega)
      rw [← hpo.out f, ← hpf.out f] at hwo
      have hpoL : (pieceO h.lines f).length ≤ 1000 := by rw [hpo.out f]; exact Nat.le_trans (List.length_take_le' _ _) (by rw [List.length_drop]; omega)
      have hpfT : (textL (pieceF h.lines f)).length ≤ (textL (Dn.newOf h.lines)).length := by rw [hpf.out f]; exact textL_sub _ _ _
      have hat := hAt.out f
      have hto2 := hto.out f
      have hAT : Hid (sewAt T s.en s.mv h f = (aroundL ((placeM h.fr h.fc : Nat) + s.mv) T.length).find? fun x => standM T s.en (pieceO h.lines f) (x + (min f F : Nat))) := hat
      have hTO : Hid (∀ x, sewTo T s h f x = ⟨s.t ++ textL ((T.drop s.en).take ((x + (min f F : Nat)).toNat - s.en)) ++ textL (pieceF h.lines f), (x + (min f F : Nat)).toNat + (pieceO h.lines f).length, x - (placeM h.fr h.fc : Nat)⟩) := hto2
      clear hat hto2 hto hAt hpo hpf m1 m2
      refine hwo.mono ?_
      clear hwo
      generalize pieceO h.lines f = po at hpoL hAT hTO ⊢
      generalize pieceF h.lines f = pf at hpfT hTO ⊢
      generalize hahd : min f F = ahd at q12 hAT hTO ⊢
      have hahd2 : ahd ≤ 1000 := by omega
      clear hahd
      rintro e w5 ⟨ao', co', af', cf', rfl, hro5, hrf5, hb5⟩
      have hz5 := hb5.size
      have hb45 : Below wr.heap.size wr w5 := hb4.trans (hb5.mono (by omega))
      generalize hPL : placeM h.fr h.fc = PL at *
      have hpl2 : PL ≤ 40000 := hpl
      have hPLh : Hid (placeM h.fr h.fc = PL) := hPL
      clear hPL hpl
      go_wp2_with fail
      have hb6 := hb45.alloc hb45.size (.cells #[.slice ao' po.length co', .slice af' pf.length cf'] 103)
      have z6 : (w5.alloc (.cells #[.slice ao' po.length co', .slice af' pf.length cf'] 103)).heap.size = w5.heap.size + 1 := by simp
      have q13 := heap_alloc_new w5 (.cells #[.slice ao' po.length co', .slice af' pf.length cf'] 103)
      have q11' := (Below.heap_alloc w5 (.cells #[.slice ao' po.length co', .slice af' pf.length cf'] 103) wr.heap.size (by omega)).trans ((hb5.block wr.heap.size (by omega)).trans q11)
      have q12' := (Below.heap_alloc w5 (.cells #[.slice ao' po.length co', .slice af' pf.length cf'] 103) (wr.heap.size + 1) (by omega)).trans ((hb5.block (wr.heap.size + 1) (by omega)).trans q12)
      have hro6 := hro5.alloc (.cells #[.slice ao' po.length co', .slice af' pf.length cf'] 103)
      have hrf6 := hrf5.alloc (.cells #[.slice ao' po.length co', .slice af' pf.length cf'] 103)
      generalize w5.alloc (.cells #[.slice ao' po.length co', .slice af' pf.length cf'] 103) = W6 at hb6 z6 q13 q11' q12' hro6 hrf6 ⊢
      have hw6 : Below w.heap.size w W6 := hbw'.trans (hb6.mono (by omega))
      have hs6 := hs.below hw6
      have hT6 := hT.below hw6
      obtain ⟨s0, s3, s4, sf⟩ := hs6.cells
      have d3 : W6.cell? ⟨w.heap.size, 0, none⟩ = some (.pointer (some ⟨S, 0, none⟩)) := (hb6.cell (p := ⟨w.heap.size, 0, none⟩) hwr3).trans c3
      have d7 : W6.cell? ⟨w.heap.size + 1 + 1 + 1, 0, none⟩ = some (.int .i64 (PL : Int)) := (hb6.cell (p := ⟨w.heap.size + 1 + 1 + 1, 0, none⟩) hwr1).trans c7
      have hx : IntKind.i64.wrap ((PL : Int) + s.mv) = (PL : Int) + s.mv := by rw [IntKind.wrap_i64]; omega
      refine wp_still_tail 11 mixed (by kernel_rfl) ?_
      simp only [List.take_succ_cons, List.take_zero, List.drop_succ_cons, List.drop_zero]
      repeat still_step
      refine wpStill_nil ?_
      go_wp2_with (go_at_call 49; refine (around_any ((PL : Int) + s.mv) T.length _).mono ?_; rintro e w7 ⟨rfl, rfl⟩)
      obtain ⟨z7, hb7, r1, r2⟩ := alloc2 W6 (.cells #[.int .i64 ((PL : Int) + s.mv)] 3) (.cells #[.int .i64 (T.length : Int)] 3)
      replace hb7 := hb7.drew
      have z7' : (((W6.alloc (.cells #[.int .i64 ((PL : Int) + s.mv)] 3)).alloc (.cells #[.int .i64 (T.length : Int)] 3)).drew).heap.size = W6.heap.size + 2 := z7
      have r1' : (((W6.alloc (.cells #[.int .i64 ((PL : Int) + s.mv)] 3)).alloc (.cells #[.int .i64 (T.length : Int)] 3)).drew).heap[W6.heap.size]? = _ := r1
      have r2' : (((W6.alloc (.cells #[.int .i64 ((PL : Int) + s.mv)] 3)).alloc (.cells #[.int .i64 (T.length : Int)] 3)).drew).heap[W6.heap.size + 1]? = _ := r2
      clear z7 r1 r2
      generalize ((W6.alloc (.cells #[.int .i64 ((PL : Int) + s.mv)] 3)).alloc (.cells #[.int .i64 (T.length : Int)] 3)).drew = W7 at z7' hb7 r1' r2' ⊢
      rw [z6] at r1' r2' z7'
      have hDs7 : ∀ D ∈ Ds, D < W7.heap.size := fun D hD => by have := (Array.getElem?_eq_some_iff.1 (hmk.2 D hD)).1; have := hb6.size; omega
      have hwz : w.heap.size ≤ W7.heap.size := by have := hw6.size; omega
      have hSw := hs.lt
      refine wpIn_wide.1 (wpIn_rangeFunc_ownF (F := Fence.wide) (n := 9) (α := Pl) rfl (by omega) (gf := 67) (lb := #[.pointer (some ⟨w5.heap.size + 1, 0, none⟩), .pointer (some ⟨w5.heap.size + 1 + 1, 0, none⟩)]) rfl trivial (enters_of Tryd.func67 (by kernel_rfl) rfl)
        (around_stops 8 (by omega) (w5.heap.size + 1) (w5.heap.size + 1 + 1) W7.heap.size T.length ((PL : Int) + s.mv) (by omega) (by omega) (by omega) (by omega) W7 (Nat.le_refl _) (cell_of r1' rfl) (cell_of r2' rfl)) belowK_t (belowK_b (Nat.le_refl _)) (Below.refl _ _) (fun _ => rfl)
        (fun pre W => Below W7.heap.size W7 W ∧ ∀ y ∈ vals pre, standM T s.en po (y + (ahd : Int)) = false)
        (fun c pre W => c = .ret ∧ ∃ pre' x, vals pre = pre' ++ [x] ∧ (∀ y ∈ pre', standM T s.en po (y + (ahd : Int)) = false) ∧ standM T s.en po (x + (ahd : Int)) = true ∧ SewFin S w (.slice al T.length cl) (w.heap.size + 2) (sewTo T s h f x) ⟨true, x - (PL : Int), f⟩ W ∧ ∀ D ∈ Ds, W.heap[D]? = some (.deferred (some [])))
        (OwnFrom.and (ownFrom_below (Nat.le_refl _) (Nat.le_refl _)) (ownFrom_pure _ _))
        (fun c pre A B row hI hg hr => by
          obtain ⟨e, pre', x, e1, e2, e3, e4, e5⟩ := hI
          exact ⟨e, pre', x, e1, e2, e3, e4.grow hg hr hwz hSw, fun D hD => (hg.block D (Array.getElem?_eq_some_iff.1 (e5 D hD)).1 (fun e => by have := (hr D e.symm).1; have := hDs7 D hD; omega)).trans (e5 D hD)⟩)
        ⟨Below.refl _ _, by simp [vals]⟩
        (fun x => { tmps := #[.pointer (some ⟨S, 0, none⟩), hunkVal h (.slice a h.lines.length c), .int .i64 (fz : Int), .pointer (some ⟨w.heap.size, 0, none⟩), .pointer (some ⟨w.heap.size + 1, 0, none⟩), u 5, .pointer (some ⟨w.heap.size + 1 + 1, 0, none⟩), .pointer (some ⟨w.heap.size + 1 + 1 + 1, 0, none⟩), .pointer (some ⟨w2.heap.size, 0, none⟩), .int .i64 (F : Int), .int .i64 (G : Int), .pointer (some ⟨wr.heap.size, 0, none⟩), .pointer (some ⟨wr.heap.size + 1, 0, none⟩), .pointer (some ⟨w5.heap.size, 0, none⟩), .int .i64 x.1, u 15, u 16, u 17, u 18, u 19, u 20, u 21, u 22, u 23, u 24, u 25, u 26, u 27, u 28, u 29, u 30, u 31, u 32, u 33, .int .i64 (N : Int), .int .i64 (f : Int), .bool true, .int .i64 (f : Int), .int .i64 (f : Int), .int .i64 (F : Int), .int .i64 (ahd : Int), .agg #[.slice ao (Dn.oldOf h.lines).length co, .slice af (Dn.newOf h.lines).length cf], .int .i64 (ahd : Int), .int .i64 (f : Int), .int .i64 (G : Int), .int .i64 ((min f G : Nat) : Int), .agg #[.slice ao' po.length co', .slice af' pf.length cf'], .int .i64 (PL : Int), .pointer (some ⟨S, 0, none⟩), .pointer (some ⟨S, 0, none⟩), .pointer (some ⟨S, 4, none⟩), .int .i64 s.mv, .int .i64 ((PL : Int) + s.mv), .pointer (some ⟨S, 0, none⟩), .pointer (some ⟨S, 0, none⟩), .pointer (some ⟨S, 0, none⟩), .slice al T.length cl, .int .i64 (T.length : Int), .func (.func 67) #[] #[.pointer (some ⟨w5.heap.size + 1, 0, none⟩), .pointer (some ⟨w5.heap.size + 1 + 1, 0, none⟩)], .int .i64 x.1, u 60, u 61, u 62, u 63, u 64, u 65, u 66, u 67, u 68, u 69, u 70, u 71, u 72, u 73, u 74, u 75, u 76, u 77, u 78, u 79, u 80, u 81, u 82, u 83, u 84, u 85], defers := [] }) ?assign ?body ?done ?stop)
      case assign =>
        intro l x W K hK
        gi_wp2
        exact hK
      case body =>
        rintro l pre x W ⟨hBW, hfalse⟩ _
        dsimp only
        have hb67 : Below W6.heap.size W6 W := hb7.trans (hBW.mono (by omega))
        have hw7 : Below w.heap.size w W := hw6.trans (hb67.mono (by omega))
        have hs7 := hs6.below hb67
        have hT7 := hT6.below hb67
        have ho7 := hro6.below hb67
        have hf7 := hrf6.below hb67
        have g3 := (hb67.block w.heap.size (by omega)).trans ((hb6.block w.heap.size hwr3).trans ((hbel.block _ (by have := hz3'.out; omega)).trans k3'))
        have g6 := (hb67.block (w.heap.size + 2) (by omega)).trans ((hb6.block (w.heap.size + 2) (by omega)).trans ((hbel.block _ (by have := hz3'.out; omega)).trans k6'))
        have g7 := (hb67.block (w.heap.size + 3) (by omega)).trans ((hb6.block (w.heap.size + 3) hwr1).trans ((hbel.block _ (by have := hz3'.out; omega)).trans k7'))
        have g11 := (hb67.block wr.heap.size (by omega)).trans q11'
        have g12 := (hb67.block (wr.heap.size + 1) (by omega)).trans q12'
        have g13 := (hb67.block w5.heap.size (by omega)).trans q13
        obtain ⟨cs7, hcs7⟩ := hs7.tag
        have hx1 := x.2.1
        have hx2 := x.2.2
        have hcan := canStand_any (at' := x.1 + (ahd : Int)) hs7 hT7 ho7 rfl ⟨af', pf.length, cf', rfl⟩ (by omega) ⟨by omega, by omega⟩
        have e3 : W.cell? ⟨w.heap.size, 0, none⟩ = some (.pointer (some ⟨S, 0, none⟩)) := cell_of g3 rfl
        have e12 : W.cell? ⟨wr.heap.size + 1, 0, none⟩ = some (.int .i64 (ahd : Int)) := cell_of g12 rfl
        have e130 : W.cell? ⟨w5.heap.size, 0, none⟩ = some (.slice ao' po.length co') := cell_of g13 rfl
        have e131 : W.cell? ⟨w5.heap.size, 1, none⟩ = some (.slice af' pf.length cf') := cell_of g13 rfl
        have xw : IntKind.i64.wrap (x.1 + (ahd : Int)) = x.1 + (ahd : Int) := by rw [IntKind.wrap_i64]; omega
        have hWz := hBW.size
        cases hst : standM T s.en po (x.1 + (ahd : Int)) with
        | false =>
          rw [hst] at hcan
          gi_wp2_with (refine ⟨trivial, ?_⟩; gi_at_call 50; refine (CallsIn.inRound l (callsIn_wide.2 hcan)).mono ?_; rintro e w8 ⟨rfl, hb8⟩)
          refine ⟨keeps_below hb8, hb8.mono hWz, hBW.trans (hb8.mono hWz), ?_⟩
          intro y hy
          rw [vals_append, List.mem_append] at hy
          rcases hy with hy | hy
          · exact hfalse y hy
          · simp [vals] at hy; rw [hy]; exact hst
        | true =>
          rw [hst] at hcan
          obtain ⟨st1, st2, _⟩ := of_decide_eq_true hst
          obtain ⟨kk, hkk⟩ : ∃ kk : Nat, x.1 + (ahd : Int) = kk := ⟨(x.1 + (ahd : Int)).toNat, by omega⟩
          have hH2 : Hid (standM T s.en po (x.1 + (ahd : Int)) = true ∧ (x.1 + (ahd : Int)).toNat = kk) := ⟨hst, by omega⟩
          have hput : Hid (∀ W8 : World, Below W.heap.size W W8 → Calls Tryd.prog 51 #[.pointer (some ⟨S, 0, none⟩), .agg #[.slice ao' po.length co', .slice af' pf.length cf'], .int .i64 (x.1 + (ahd : Int))] W8 fun e w' =>
              e = .returned (.tuple #[]) ∧ SewA S (.slice al T.length cl) (s.t ++ textL ((T.drop s.en).take (kk - s.en)) ++ textL pf) ((kk + po.length : Nat) : Int) s.mv w' ∧ Below S W8 w' ∧ Lib.OthersKept 5 (some S) W8 w') := by
            intro W8 hb8
            rw [hkk]
            exact put_sew (hs7.below hb8) (hT7.below hb8) (hf7.below hb8) rfl (by omega) (by omega) (by omega) (by omega) (by omega)
          have hmw : IntKind.i64.wrap (x.1 - (PL : Int)) = x.1 - (PL : Int) := by rw [IntKind.wrap_i64]; omega
          have e3h : Hid (∀ W8 : World, Below W.heap.size W W8 → W8.cell? ⟨w.heap.size, 0, none⟩ = some (.pointer (some ⟨S, 0, none⟩)) ∧ W8.cell? ⟨wr.heap.size + 1, 0, none⟩ = some (.int .i64 (ahd : Int)) ∧ W8.cell? ⟨w5.heap.size, 0, none⟩ = some (.slice ao' po.length co') ∧ W8.cell? ⟨w5.heap.size, 1, none⟩ = some (.slice af' pf.length cf')) := fun W8 hb8 =>
            ⟨(hb8.cell (p := ⟨w.heap.size, 0, none⟩) (Array.getElem?_eq_some_iff.1 g3).1).trans e3, (hb8.cell (p := ⟨wr.heap.size + 1, 0, none⟩) (Array.getElem?_eq_some_iff.1 g12).1).trans e12, (hb8.cell (p := ⟨w5.heap.size, 0, none⟩) (Array.getElem?_eq_some_iff.1 g13).1).trans e130, (hb8.cell (p := ⟨w5.heap.size, 1, none⟩) (Array.getElem?_eq_some_iff.1 g13).1).trans e131⟩
          have hS7 : S < W.heap.size := hs7.lt
          have hne : ∀ k, w.heap.size ≤ k → some k ≠ some S := fun k hk e => by cases e; omega
          have hkeep : Hid (∀ W8 w9 : World, Below W.heap.size W W8 → Lib.OthersKept 5 (some S) W8 w9 → w9.heap[w.heap.size]? = W.heap[w.heap.size]? ∧ w9.heap[w.heap.size + 2]? = W.heap[w.heap.size + 2]? ∧ w9.heap[w.heap.size + 3]? = W.heap[w.heap.size + 3]? ∧ w9.heap[wr.heap.size]? = W.heap[wr.heap.size]? ∧ Lib.OthersKept 5 (some S) W w9) := by
            intro W8 w9 hb8 ho9
            have ho := (others_below (e := 5) (b := some S) hb8).trans ho9
            refine ⟨?_, ?_, ?_, ?_, ho⟩
            · rw [g3]; exact ho _ _ g3 (hne _ (Nat.le_refl _)) (by intro c z e; injection e with _ e; exact absurd e (by decide))
            · rw [g6]; exact ho _ _ g6 (hne _ (by omega)) (by intro c z e; injection e with _ e; exact absurd e (by decide))
            · rw [g7]; exact ho _ _ g7 (hne _ (by omega)) (by intro c z e; injection e with _ e; exact absurd e (by decide))
            · rw [g11]; exact ho _ _ g11 (hne _ (by omega)) (by intro c z e; injection e with _ e; exact absurd e (by decide))
          clear hkk st1 st2 hst
          gi_wp2_with (first | (refine ⟨trivial, ?_⟩; gi_at_call 50; refine (CallsIn.inRound l (callsIn_wide.2 hcan)).mono ?_; clear hcan; rintro e w8 ⟨rfl, hb8⟩; obtain ⟨f3, f12, f130, f131⟩ := e3h.out w8 hb8) | (refine ⟨trivial, ?_⟩; gi_at_call 51; refine (CallsIn.inRound l (callsIn_wide.2 (hput.out w8 hb8))).mono ?_; rintro e w9 ⟨rfl, hs9, hb9, ho9⟩; obtain ⟨j3, j6, j7, j11, jo⟩ := hkeep.out w8 w9 hb8 ho9; have i3 : w9.cell? ⟨w.heap.size, 0, none⟩ = some (.pointer (some ⟨S, 0, none⟩)) := cell_of (j3.trans g3) rfl; have i7 : w9.cell? ⟨w.heap.size + 1 + 1 + 1, 0, none⟩ = some (.int .i64 (PL : Int)) := cell_of (j7.trans g7) rfl; have i11 : w9.cell? ⟨wr.heap.size, 0, none⟩ = some (.int .i64 (f : Int)) := cell_of (j11.trans g11) rfl; obtain ⟨t0, t3, t4, tf⟩ := hs9.cells))
          have hs10 := hs9.set4 (x.1 - (PL : Int))
          have jo10 := jo.setCell ⟨S, 4, none⟩ rfl (.int .i64 (x.1 - (PL : Int)))
          have hbS10 : Below S W (w9.setCell ⟨S, 4, none⟩ (.int .i64 (x.1 - (PL : Int)))) := ((hb8.mono (by omega)).trans hb9).setCell (p := ⟨S, 4, none⟩) (Nat.le_refl _) _
          have m3 := (heap_setCell_other w9 S w.heap.size 4 (.int .i64 (x.1 - (PL : Int))) (by omega)).trans (j3.trans g3)
          have m6 := (heap_setCell_other w9 S (w.heap.size + 2) 4 (.int .i64 (x.1 - (PL : Int))) (by omega)).trans (j6.trans g6)
          have m11 := (heap_setCell_other w9 S wr.heap.size 4 (.int .i64 (x.1 - (PL : Int))) (by omega)).trans (j11.trans g11)
          generalize w9.setCell ⟨S, 4, none⟩ (.int .i64 (x.1 - (PL : Int))) = W10 at hs10 jo10 hbS10 m3 m6 m11 ⊢
          clear i3 i7 i11 t0 t3 t4 tf
          have i3 : W10.cell? ⟨w.heap.size, 0, none⟩ = some (.pointer (some ⟨S, 0, none⟩)) := cell_of m3 rfl
          have i11 : W10.cell? ⟨wr.heap.size, 0, none⟩ = some (.int .i64 (f : Int)) := cell_of m11 rfl
          obtain ⟨t0, t3, t4, tf⟩ := hs10.cells
          have i60 : W10.cell? ⟨w.heap.size + 1 + 1, 0, none⟩ = some (.bool false) := cell_of m6 rfl
          have i61 : W10.cell? ⟨w.heap.size + 1 + 1, 1, none⟩ = some (.int .i64 0) := cell_of m6 rfl
          have i62 : W10.cell? ⟨w.heap.size + 1 + 1, 2, none⟩ = some (.int .i64 0) := cell_of m6 rfl
          have if6 : ∀ k, W10.frozen? ⟨w.heap.size + 1 + 1, k, none⟩ = false := fun k => frozen_of m6
          have hz10 := hbS10.size
          have hmk7 : ∀ D ∈ Ds, W.heap[D]? = some (.deferred (some [])) := fun D hD => by
            have h1 := hmk.2 D hD
            have h2 := (Array.getElem?_eq_some_iff.1 h1).1
            have h3 := hb6.size
            exact (hb67.block D (by omega)).trans ((hb6.block D h2).trans h1)
          have hfin := sew_final (f := f) hw7 hs7.tag hs10 m6 hbS10 jo10 (by omega) hmk7
          have hTO2 := hTO.out x.1
          rw [hH2.out.2] at hTO2
          have hpost : KeepsOthers W (((W10.setCell ⟨w.heap.size + 1 + 1, 0, none⟩ (.bool true)).setCell ⟨w.heap.size + 1 + 1, 1, none⟩ (.int .i64 (x.1 - (PL : Int)))).setCell ⟨w.heap.size + 1 + 1, 2, none⟩ (.int .i64 (f : Int))).drew ∧ (∃ pre' x', vals (pre ++ [x]) = pre' ++ [x'] ∧ (∀ y ∈ pre', standM T s.en po (y + (ahd : Int)) = false) ∧ standM T s.en po (x' + (ahd : Int)) = true ∧
              SewFin S w (.slice al T.length cl) (w.heap.size + 2) (sewTo T s h f x') ⟨true, x' - (PL : Int), f⟩ (((W10.setCell ⟨w.heap.size + 1 + 1, 0, none⟩ (.bool true)).setCell ⟨w.heap.size + 1 + 1, 1, none⟩ (.int .i64 (x.1 - (PL : Int)))).setCell ⟨w.heap.size + 1 + 1, 2, none⟩ (.int .i64 (f : Int))).drew ∧
              ∀ D ∈ Ds, (((W10.setCell ⟨w.heap.size + 1 + 1, 0, none⟩ (.bool true)).setCell ⟨w.heap.size + 1 + 1, 1, none⟩ (.int .i64 (x.1 - (PL : Int)))).setCell ⟨w.heap.size + 1 + 1, 2, none⟩ (.int .i64 (f : Int))).drew.heap[D]? = some (.deferred (some []))) :=
            ⟨hfin.1, vals pre, x.1, by rw [vals_append]; rfl, hfalse, hH2.out.1, by rw [hTO2]; exact hfin.2.1, hfin.2.2⟩
          have hP : Hid _ := hpost
          clear hpost hfin hTO2 hfalse hmk7
          have hmixed := mixed
          gi_region_o
          all_goals (gi_wp2; exact ⟨hP.out.1, rfl, hP.out.2⟩)
      case done =>
        rintro D xs W hD hS ⟨hBW, hfalse⟩ hDef
        have hb67 : Below W6.heap.size W6 W := hb7.trans (hBW.mono (by omega))
        have hbw3 : Below w3.heap.size w3 W := hbel.trans ((hb6.trans (hb67.mono (by have := hb6.size; omega))).mono (by have := hz3'.out; omega))
        have hnone : sewAt T s.en s.mv h f = none := by
          rw [hAT.out]
          exact find_none (fun y hy => hfalse y (by rw [hS]; exact hy))
        have hmk7 : ∀ D ∈ Ds, W.heap[D]? = some (.deferred (some [])) := fun D hD => by
          have h1 := hmk.2 D hD
          have h2 := (Array.getElem?_eq_some_iff.1 h1).1
          have h3 := hb6.size
          exact (hb67.block D (by omega)).trans ((hb6.block D h2).trans h1)
        have hM : Marks (D :: Ds) W := ⟨List.nodup_cons.2 ⟨fun hm => by have := hDs7 D hm; omega, hmk.1⟩, fun D' hD' => by
          rcases List.mem_cons.1 hD' with rfl | hD'
          · exact hDef
          · exact hmk7 D' hD'⟩
        have hH3 : Hid (Marks (D :: Ds) W ∧ sewFrom T s.en s.mv h 0 N = sewFrom T s.en s.mv h (f + 1) (N - (f + 1)) ∧ Below w3.heap.size w3 W ∧ ∀ D' ∈ D :: Ds, w3.heap.size ≤ D') := by
          refine ⟨hM, ?_, hbw3, ?_⟩
          · rw [hH.out.2.1, show N - f = (N - (f + 1)) + 1 by omega, sewFrom_none hnone]
          · intro D' hD'
            rcases List.mem_cons.1 hD' with rfl | hD'
            · have := hb6.size; have := hz3'.out; omega
            · exact hDs D' hD'
        clear hM hmk7 hnone hbw3 hfalse hS hDef
        have hfw : IntKind.i64.wrap ((f : Int) + 1) = (f : Int) + 1 := by rw [IntKind.wrap_i64]; omega
        go_wp2_with fail
        exact Handed.intro (N - (f + 1)) (by have := hH.out.1; omega) (hJ _ _ _ ⟨f + 1, D :: Ds, rfl, by omega, hH3.out.2.1, by rw [hH.out.2.2]; rfl, hH3.out.1, hH3.out.2.2.2, hH3.out.2.2.1, rfl, rfl, rfl, rfl, rfl, rfl, rfl, rfl, rfl, rfl, rfl, rfl, rfl⟩)
      case stop =>
        rintro D c pre W hD hSp ⟨rfl, pre', x, hv, hf', ht', hfin, hmks⟩ hDef
        have hsome : sewAt T s.en s.mv h f = some x := by
          rw [hAT.out]
          exact find_split (by rw [← hv]; exact hSp) hf' ht'
        have hsm : sewM T s h fz = (sewTo T s h f x, ⟨true, x - (PL : Int), f⟩) := by
          unfold sewM
          rw [hF2.out, hH.out.2.1, sewFrom_some (by omega) hsome]
          show (sewTo T s h f x, (⟨true, x - (placeM h.fr h.fc : Nat), f⟩ : SeamM)) = _
          rw [hPLh.out]
        have hM : Marks (D :: Ds) W := ⟨List.nodup_cons.2 ⟨fun hm => by have := hDs7 D hm; omega, hmk.1⟩, fun D' hD' => by
          rcases List.mem_cons.1 hD' with rfl | hD'
          · exact hDef
          · exact hmks D' hD'⟩
        have hH4 : Hid (SewFin S w (.slice al T.length cl) (w.heap.size + 2) (sewTo T s h f x) ⟨true, x - (PL : Int), f⟩ W ∧ Marks (D :: Ds) W ∧ sewM T s h fz = (sewTo T s h f x, ⟨true, x - (PL : Int), f⟩)) := ⟨hfin, hM, hsm⟩
        clear hsm hM hsome hf' ht' hv hSp hDef hmks hfin
        refine wpIn_wide.2 ?_
        go_wp2_with fail
        rw [hH4.out.2.2, hH.out.2.2]
        refine sew_leave (Ds := D :: Ds) hH4.out.1 hSw hH4.out.2.1 ?_ ?_
        · intro D' hD'
          rcases List.mem_cons.1 hD' with rfl | hD'
          · omega
          · have := hDs D' hD'; have := hz3'.out; omega
        · intro W d0 d1 d2
          simp [results, Tryd.results27, go_sem, d0, d1, d2]
    · obtain rfl : f = N := by omega
      have k60 : wr.cell? ⟨w.heap.size + 1 + 1, 0, none⟩ = some (.bool false) := cell_of ((hbel.block (w.heap.size + 2) (by have := hz3'.out; omega)).trans k6') rfl
      have k61 : wr.cell? ⟨w.heap.size + 1 + 1, 1, none⟩ = some (.int .i64 0) := cell_of ((hbel.block (w.heap.size + 2) (by have := hz3'.out; omega)).trans k6') rfl
      have k62 : wr.cell? ⟨w.heap.size + 1 + 1, 2, none⟩ = some (.int .i64 0) := cell_of ((hbel.block (w.heap.size + 2) (by have := hz3'.out; omega)).trans k6') rfl
      have k6f : ∀ k, wr.frozen? ⟨w.heap.size + 1 + 1, k, none⟩ = false := fun k => frozen_of ((hbel.block (w.heap.size + 2) (by have := hz3'.out; omega)).trans k6')
      have hsm : sewM T s h fz = (s, ⟨false, 0, 0⟩) := by
        unfold sewM
        rw [hF2.out, hH.out.2.1, Nat.sub_self]
        rfl
      have hsmH : Hid _ := hsm
      have hs' := hs.below hbw'
      have hfin := sew_none hs.lt hs' ((hbel.block (w.heap.size + 2) (by have := hz3'.out; omega)).trans k6') hbw'
      have hmk' : ∀ D ∈ Ds, (((wr.setCell ⟨w.heap.size + 1 + 1, 0, none⟩ (.bool false)).setCell ⟨w.heap.size + 1 + 1, 1, none⟩ (.int .i64 0)).setCell ⟨w.heap.size + 1 + 1, 2, none⟩ (.int .i64 0)).heap[D]? = some (.deferred (some [])) := by
        intro D hD
        have hDb : D ≠ w.heap.size + 1 + 1 := by have := hDs D hD; have := hz3'.out; omega
        rw [heap_setCell_other _ _ _ _ _ hDb, heap_setCell_other _ _ _ _ _ hDb, heap_setCell_other _ _ _ _ _ hDb]
        exact hmk.2 D hD
      have hfinH : Hid _ := hfin
      have hmkH : Hid _ := hmk'
      clear hsm hfin hmk'
      go_wp2_with fail
      rw [hsmH.out, hH.out.2.2]
      refine sew_leave hfinH.out hs.lt ⟨hmk.1, hmkH.out⟩ (fun D hD => by have := hDs D hD; have := hz3'.out; omega) ?_
      intro W d0 d1 d2
      simp [results, Tryd.results27, go_sem, d0, d1, d2]
end Go.Proofs.YtcclgodahlinbaaDoor
