import Derived.Test.YtcclgodahlinbaaDoorWApplyM
namespace Go.Proofs.YtcclgodahlinbaaDoor
open Go.RowKit Go
set_option maxRecDepth 100000

set_option maxHeartbeats 2000000 in
theorem apply_ok {s : ByteArray} {hs : List HunkM} {fz : Nat} {a : Option Addr} {cap : Nat} {m : Int} {w : World} (h1 : isTextB s = true) (h2 : largeB s = false) (hf : fz ≤ 10)
    (hH : HunksAt w.heap.size w (.slice a hs.length cap) hs) (hok : rightM 0 0 hs = true) (hL : hs.length ≤ 1000) (hsz : s.size < 4294967281) (hm : w.cell? ⟨0, 0, none⟩ = some (.int .i64 m)) (hm0 : 0 < w.heap.size)
    (hh : ∀ h ∈ hs, HunkOk h) (hT : (linesB s).length ≤ 40000) (hx : (textL (linesB s)).length ≤ 10000) :
    Calls Tryd.prog 17 #[.string s, .agg #[.slice a hs.length cap], .int .i64 fz] w fun e w' =>
      ∃ v, e = .returned (.tuple #[.string (applyT (linesB s) fz hs), v, .int .i64 0]) ∧ w'.ownsRow w.heap.size 53 3 v hs.length (seamCells (applyS (linesB s) fz hs)) ∧ Below w.heap.size w w' := by
  obtain ⟨i0, hi, hz0, hz1, hz2⟩ := info_parts info_seam
  have hA := fun k hk => applyK_ok (fz := fz) hh hT hx k hk
  have hw0 : Below w.heap.size w (w.alloc (.cells #[.slice a hs.length cap] 37)) := (Below.refl _ _).alloc (Nat.le_refl _) _
  have hp0 := heap_alloc_new w (.cells #[.slice a hs.length cap] 37)
  have hc := checkApply_yes (fz := fz) h1 h2 hf ((hH.below hw0).mono (by simp : w.heap.size ≤ (w.alloc (.cells #[.slice a hs.length cap] 37)).heap.size)) hok hL hsz
  have z0 : (w.alloc (.cells #[.slice a hs.length cap] 37)).heap.size = w.heap.size + 1 := by simp
  have p0 : (w.alloc (.cells #[.slice a hs.length cap] 37)).cell? ⟨w.heap.size, 0, none⟩ = some (.slice a hs.length cap) := cell_of hp0 rfl
  go_enter Tryd.func17, Tryd.ntmps17
  go_wp2_with fail
  generalize w.alloc (.cells #[.slice a hs.length cap] 37) = W0 at *
  refine hc.mono ?_
  rintro e w1 ⟨rfl, b1⟩
  have hb1 : Below w.heap.size w w1 := hw0.trans (b1.mono (by omega))
  have hz1' := b1.size
  have hl := linesOf_row s m w1 hsz ((hb1.cell (p := ⟨0, 0, none⟩) hm0).trans hm)
  go_wp2_with (go_at_call 24; refine hl.mono ?_; rintro e w2 ⟨al, cl, rfl, hrow, b2⟩; have hz2' := b2.size; have hlt2 : w.heap.size < w2.heap.size := by omega
               have q0 : w2.cell? ⟨w.heap.size, 0, none⟩ = some (.slice a hs.length cap) := (b2.cell (p := ⟨w.heap.size, 0, none⟩) (by show w.heap.size < _; omega)).trans ((b1.cell (p := ⟨w.heap.size, 0, none⟩) (by show w.heap.size < _; omega)).trans p0)
               have q0' := fun ob => (World.cell?_of_block (a := ⟨w.heap.size, 0, none⟩) (Below.heap_alloc w2 ob w.heap.size hlt2)).trans q0)
  generalize hTd : linesB s = T at *
  have hS0 : SewA w2.heap.size (.slice al T.length cl) [] (0 : Nat) 0 (w2.alloc (.cells #[.slice al T.length cl, .pointer none, .slice none 0 0, .int .i64 0, .int .i64 0] 69)) :=
    ⟨.pointer none, .slice none 0 0, heap_alloc_new w2 _, .inl rfl, World.ownsRow_nil _ _ _ _⟩
  have hR0 := hrow.alloc (.cells #[.slice al T.length cl, .pointer none, .slice none 0 0, .int .i64 0, .int .i64 0] 69)
  have hb2' : Below w.heap.size w w2 := hb1.trans (b2.mono (by omega))
  have hB0 := hb2'.alloc (by omega) (.cells #[.slice al T.length cl, .pointer none, .slice none 0 0, .int .i64 0, .int .i64 0] 69)
  go_loopg [11, 27] hs.length (fun g vs t wr => ∃ k : Nat, g = hs.length - k ∧ k ≤ hs.length ∧ t = .int .i64 k ∧ SewA w2.heap.size (.slice al T.length cl) (applyK T fz hs k).1.t ((applyK T fz hs k).1.en : Nat) (applyK T fz hs k).1.mv wr ∧ RowS wr (.slice al T.length cl) T ∧ wr.ownsRow w.heap.size 53 3 vs k (seamCells (applyK T fz hs k).2) ∧ Below w.heap.size w wr)
  case atStart => exact ⟨0, by omega, by omega, rfl, hS0, hR0, World.ownsRow_nil _ _ _ _, hB0⟩
  case round =>
    obtain ⟨k, hgk, hkl, rfl, hsew, hrw, hown, hbel⟩ := hrel
    clear hS0 hR0 hB0 q0 q0' hl hc
    have hSw := hsew.lt
    have hszr := hbel.size
    by_cases hkk : k < hs.length
    · have hkI : (k : Int) < hs.length := by omega
      obtain ⟨b, a', c', rfl, hbB, r0, r1, r2, r3, r4, hst⟩ := (hH.below hbel).at hkk
      have hho := hh _ (List.getElem_mem hkk)
      have hap := applyK_succ T fz hs k hkk
      obtain ⟨hok1, hlk⟩ := hA k hkl
      generalize applyK T fz hs k = AK at hsew hown hap hok1 hlk
      generalize hs[k] = h at r0 r1 r2 r3 r4 hst hho hap
      have hAH : Hid (gk = hs.length - k ∧ applyK T fz hs (k + 1) = ((sewM T AK.1 h fz).1, AK.2 ++ [(sewM T AK.1 h fz).2])) := ⟨hgk, hap⟩
      clear hgk hap
      have hbx := Below.heap_alloc wr (.cells #[.int .i64 (h.fr : Int), .int .i64 (h.fc : Int), .int .i64 (h.tr : Int), .int .i64 (h.tc : Int), .slice a' h.lines.length c'] 48)
      have hsew1 := hsew.alloc (.cells #[.int .i64 (h.fr : Int), .int .i64 (h.fc : Int), .int .i64 (h.tr : Int), .int .i64 (h.tc : Int), .slice a' h.lines.length c'] 48)
      have hrw1 := hrw.alloc (.cells #[.int .i64 (h.fr : Int), .int .i64 (h.fc : Int), .int .i64 (h.tr : Int), .int .i64 (h.tc : Int), .slice a' h.lines.length c'] 48)
      have hown1 := hown.alloc (.cells #[.int .i64 (h.fr : Int), .int .i64 (h.fc : Int), .int .i64 (h.tr : Int), .int .i64 (h.tc : Int), .slice a' h.lines.length c'] 48)
      have hbel1 := hbel.alloc hszr (.cells #[.int .i64 (h.fr : Int), .int .i64 (h.fc : Int), .int .i64 (h.tr : Int), .int .i64 (h.tc : Int), .slice a' h.lines.length c'] 48)
      have hst1 := (hst.below ((Below.refl w.heap.size wr).alloc hszr (.cells #[.int .i64 (h.fr : Int), .int .i64 (h.fc : Int), .int .i64 (h.tr : Int), .int .i64 (h.tc : Int), .slice a' h.lines.length c'] 48))).mono (B' := (wr.alloc (.cells #[.int .i64 (h.fr : Int), .int .i64 (h.fc : Int), .int .i64 (h.tr : Int), .int .i64 (h.tc : Int), .slice a' h.lines.length c'] 48)).heap.size) (by simp; omega)
      have hk20 : k * 20000 ≤ 20000000 := by omega
      have hse := sew_any (fz := fz) hsew1 hrw1 hst1 hho.kinds hho.len hho.fr hho.fc (by omega) hok1.mv (by have := hok1.t; have := hho.text; omega) (by omega)
      obtain ⟨ao, co, rfl⟩ := owns_isSlice hown
      have hsz1 : (wr.alloc (.cells #[.int .i64 (h.fr : Int), .int .i64 (h.fc : Int), .int .i64 (h.tr : Int), .int .i64 (h.tc : Int), .slice a' h.lines.length c'] 48)).heap.size = wr.heap.size + 1 := by simp
      go_wp2_with fail
      generalize wr.alloc (.cells #[.int .i64 (h.fr : Int), .int .i64 (h.fc : Int), .int .i64 (h.tr : Int), .int .i64 (h.tc : Int), .slice a' h.lines.length c'] 48) = W1 at hsew1 hrw1 hown1 hbel1 hse hsz1 ⊢
      refine hse.mono ?_
      clear hse hbx hst hst1
      generalize hR : sewM T AK.1 h fz = R at *
      obtain ⟨rs, ⟨rd, ra, rf⟩⟩ := R
      rintro e w5 ⟨rfl, hs5, hb5, ho5⟩
      obtain ⟨cs1, hcs1⟩ := hsew1.tag
      have hrw5 := hrw1.kept hcs1 ho5
      have hown5 := owns_others hown1 hcs1 ho5
      have hz5 := hb5.size
      have hbel5 : Below w.heap.size w w5 := hbel1.trans (hb5.mono (by omega))
      have hone : ∀ u ∈ [Value.bool rd, Value.int .i64 ra, Value.int .i64 (rf : Nat)], u.oneCell' = true := by intro u hu; simp at hu; rcases hu with rfl | rfl | rfl <;> rfl
      have hm1 : k + 1 ≤ maxLen := by unfold maxLen; omega
      have hm2 : (k + 1) * 24 ≤ 140737488355328 := by omega
      have hw5 := hbel5.size
      dsimp only at hs5 ⊢
      clear hrw hown hsew hsew1 hrw1 hown1 hcs1
      go_wp2_with (at_builtin; refine wpList_append_own2 rfl (.tmp 31) (.tmp 35) 43 rfl w.heap.size 53 i0 _ 3 24 Tryd.underlying43 hi hz0 hz1 hz2 rfl (by decide) (.slice ao k co) k (seamCells AK.2) rfl (hown5.alloc _) ⟨w5.heap.size, 0, none⟩ 1 1 [.bool rd, .int .i64 ra, .int .i64 (rf : Nat)] rfl rfl (cells_new w5 _ _) hone hm1 hm2 (by simp; omega) ?_; intro vs' w6 hown6 hgrow6 hnew6)
      go_roundg (hs.length - (k + 1))
      · have e1 := hAH.out.2
        have hk := owns_kind (hown5.alloc (.cells #[.bool rd, .int .i64 ra, .int .i64 (rf : Nat)] 53))
        refine ⟨k + 1, rfl, by omega, by push_cast; rfl, ?_, (hrw5.alloc _).keep hgrow6 hk, ?_, (hbel5.alloc (by omega) _).grown hgrow6 (by simp; omega) (fun j e => (hown5.lt j e).1)⟩
        · rw [e1]; exact (hs5.alloc _).keep hgrow6 hk
        · rw [e1, seamCells_append]; exact hown6
      · have := hAH.out.1; omega
    · obtain rfl : k = hs.length := by omega
      obtain ⟨hok1, hlk⟩ := hA _ hkl
      have htx := sewtext_any hsew hrw rfl hok1.en (by have := hok1.t; omega)
      have hT2 : Hid (applyT (linesB s) fz hs = ⟨((applyK T fz hs hs.length).1.t ++ textL (T.drop (applyK T fz hs hs.length).1.en)).toArray⟩ ∧ applyS (linesB s) fz hs = (applyK T fz hs hs.length).2) := by rw [hTd]; exact ⟨rfl, rfl⟩
      have hownh : Hid _ := hown
      clear hgk
      go_wp2_with (go_at_call 28; refine htx.mono ?_; rintro e w5 ⟨rfl, hb5, ho5⟩)
      obtain ⟨ao, co, rfl⟩ := owns_isSlice hownh.out
      obtain ⟨cs1, hcs1⟩ := hsew.tag
      have hown5 := owns_others hownh.out hcs1 ho5
      refine bodyPost_ret (v := .tuple #[.string (applyT (linesB s) fz hs), .slice ao hs.length co, .int .i64 0]) ?_ rfl ⟨_, rfl, ?_, hbel.trans (hb5.mono (by omega))⟩
      · rw [hT2.out.1]
        simp [results, Tryd.results17, go_sem]
      · rw [hT2.out.2]; exact hown5
end Go.Proofs.YtcclgodahlinbaaDoor
