import Derived.Test.YtcclgodahlinbaaGreatDoorWLineT
import Derived.Test.YtcclgodahlinbaaGreatDoorWSewL
import Derived.Lib.SplitLaws
import Derived.Test.YtcclgodahlinbaaGreatDoorMSearch3
import Derived.Test.YtcclgodahlinbaaGreatDoorMHeap
import Derived.Test.YtcclgodahlinbaaGreatDoorWReadM
import Derived.Laws.IdiomStrings
import Derived.BigQuiet
import Derived.Deep.QuietTactic
import Derived.Deep.Cut
import Derived.Deep.RegionLaw
import Derived.Test.YtcclgodahlinbaaGreatDoorRows
import Derived.Test.YtcclgodahlinbaaGreatDoorWNumC
import Derived.Deep.DeepHandedRow
import Derived.Deep.DeepWitnessRowRef
import Derived.Deep.DeepLaidRun
import Derived.LaidLaws
import Derived.LaidHandle
import Derived.LaidSub
import Derived.Stop.LaidErr
import Derived.ProofKit
import Derived.OpenShut
import Derived.Lib.LaidU8
import Derived.Shelf.Vars
import Derived.SevenTiedAt
import Derived.Test.YtcclgodahlinbaaGreatDoorCards
import Derived.Test.YtcclgodahlinbaaGreatDoorTie
import Derived.JoinedCond
import Derived.ChangeSame
import Derived.ChangeSlices
namespace Go.Proofs.YtcclgodahlinbaaGreatDoor
open Go.RowKit Go
set_option maxRecDepth 100000

theorem line_yes {S n : Nat} {st st' : Rd} {v : Value} {hv : List HV} {w : World} {t : Tok} (hR : RdM S st v hv w) (hs : Step st t st') (hb : Bd n st) (hn : n ≤ 1000) (hg : Glob w) :
    Calls Tryz.prog 35 #[.pointer (some ⟨S, 0, none⟩), .string ⟨(tokL t).toArray⟩] w fun e w' => e = .returned (.bool true) ∧ (∃ v' hv', RdM S st' v' hv' w') ∧ Below S w w' := by
  cases t with
  | inl h => exact line_head hR hs hb hn hg
  | inr s => exact line_take hR hs hb hn
theorem Bd.mono {n m : Nat} {st : Rd} (h : Bd n st) (hnm : n ≤ m) : Bd m st := by
  obtain ⟨b1, b2, b3, b4, b5, b6⟩ := h
  exact ⟨by omega, by omega, by omega, b4, b5, fun x hx => by have := b6 x hx; omega⟩
theorem Bd.steps {st' : Rd} : ∀ {ts : List Tok} {n : Nat} {st : Rd}, Bd n st → Steps st ts st' → Bd (n + ts.length) st'
  | [], n, st, h, hs => by cases hs; simpa using h
  | t :: l, n, st, h, ⟨m, h1, h2⟩ => by have := Bd.steps (h.step h1) h2; rw [List.length_cons, show n + (l.length + 1) = n + 1 + l.length by omega]; exact this
theorem isEmpty_mk {l : List UInt8} (h : l ≠ []) : (⟨l.toArray⟩ : ByteArray).toList.isEmpty = false := by
  rw [Lib.toList_data]
  cases l with
  | nil => exact absurd rfl h
  | cons a l => rfl
theorem RdM.hunks {S : Nat} {st : Rd} {v : Value} {hv : List HV} {w : World} (h : RdM S st v hv w) : ∃ a cap, v = .slice a st.hs.length cap ∧ HunksAt w.heap.size w (.slice a st.hs.length cap) st.hs := by
  obtain ⟨a, cap, e⟩ := h.hso.len
  have hl : hv.length = st.hs.length := by rw [← h.hs, List.length_map]
  have := HunksAt.of_owns h.hso
  rw [h.hs, e, hl] at this
  exact ⟨a, cap, by rw [e, hl], this⟩

/-- what Read answers -/
def ReadEnd (st : Rd) (n : Nat) (rest : List UInt8) (e : Ending) (w' : World) : Prop :=
  (rest = [] ∧ st.ended ∧ ∃ a cap, e = .returned (.tuple #[.agg #[.slice a st.hs.length cap], .int .i64 0, .int .i64 0]) ∧ HunksAt w'.heap.size w' (.slice a st.hs.length cap) st.hs) ∨
  (¬ (rest = [] ∧ st.ended) ∧ e = .returned (.tuple #[.agg #[.slice none 0 0], .int .i64 (n : Int), .int .i64 4]))

set_option maxHeartbeats 4000000 in
theorem read_run {ts : List Tok} {st : Rd} {rest : List UInt8} {w : World} (hst : Steps Rd.start ts st) (hlen : (toksL ts ++ rest).length ≤ 20000) (hn : ts.length ≤ 900)
    (hrest : rest = [] ∨ (rest ≠ [] ∧ (10 : UInt8) ∉ rest) ∨ ∃ l m, rest = l ++ [10] ++ m ∧ (10 : UInt8) ∉ l ∧ Refused st l) (hg : Glob w) :
    Calls Tryz.prog 17 #[.string ⟨(toksL ts ++ rest).toArray⟩] w fun e w' => ReadEnd st ts.length rest e w' ∧ Below w.heap.size w w' := by
  have hb := ((Below.refl w.heap.size w).alloc (Nat.le_refl _) (.cells #[.slice none 0 0] 32)).alloc (by simp) (rdCells (.slice none 0 0) 0 0 0 0 false)
  have hP := heap_alloc_new w (.cells #[.slice none 0 0] 32)
  have hU := heap_alloc_new (w.alloc (.cells #[.slice none 0 0] 32)) (rdCells (.slice none 0 0) 0 0 0 0 false)
  rw [World.size_alloc] at hU
  have hP2 := (Below.heap_alloc (w.alloc (.cells #[.slice none 0 0] 32)) (rdCells (.slice none 0 0) 0 0 0 0 false) w.heap.size (by simp)).trans hP
  have hR0 : RdM (w.heap.size + 1) Rd.start (.slice none 0 0) [] ((w.alloc (.cells #[.slice none 0 0] 32)).alloc (rdCells (.slice none 0 0) 0 0 0 0 false)) := ⟨hU, .inl ⟨rfl, rfl⟩, rfl⟩
  have hng : ¬ (20000 : Int) < (((⟨(toksL ts ++ rest).toArray⟩ : ByteArray).size : Nat) : Int) := by rw [size_mk]; omega
  generalize hs0 : (⟨(toksL ts ++ rest).toArray⟩ : ByteArray) = s0 at *
  have hs0' : Hid ((⟨(toksL ts ++ rest).toArray⟩ : ByteArray) = s0) := hs0
  clear hP hU hs0
  go_enter Tryz.func17, Tryz.ntmps17
  go_wp2_with fail
  generalize (w.alloc (.cells #[.slice none 0 0] 32)).alloc (rdCells (.slice none 0 0) 0 0 0 0 false) = W at *
  go_loopg [0, 6] ts.length (fun g t a wr => ∃ (done todo : List Tok) (st1 : Rd) (v : Value) (hv : List HV), g = todo.length ∧ ts = done ++ todo ∧ Steps Rd.start done st1 ∧ Steps st1 todo st ∧ t = .string ⟨(toksL todo ++ rest).toArray⟩ ∧ a = .int .i64 (done.length : Nat) ∧ RdM (w.heap.size + 1) st1 v hv wr ∧ wr.heap[w.heap.size]? = some (.cells #[.slice none 0 0] 32 (0, 0)) ∧ Below w.heap.size w wr)
  case atStart => exact ⟨[], ts, Rd.start, _, _, rfl, rfl, rfl, hst, by rw [hs0'.out], rfl, hR0, hP2, hb⟩
  case round =>
    obtain ⟨done, todo, st1, v, hv, hgk, hts, hs1, hs2, rfl, rfl, hR, hP, hbel⟩ := hrel
    have hG : Hid (gk = todo.length) := hgk
    clear hgk hR0 hP2 hb
    have hgw := hg.below hbel hg.sz hbel.size
    have hsw := hbel.size
    have hlt := hR.lt
    have hdn : done.length + todo.length = ts.length := by rw [hts, List.length_append]
    have hbd := (Bd.start.steps hs1).mono (show 0 + done.length ≤ 900 by omega)
    have hle : (toksL todo ++ rest).length ≤ 20000 := by
      rw [hts, toksL_append] at hlen
      simp only [List.length_append] at hlen ⊢
      omega
    have hP0 : wr.cell? ⟨w.heap.size, 0, none⟩ = some (.slice none 0 0) := cell_of hP rfl
    have hPf : ∀ k, wr.frozen? ⟨w.heap.size, k, none⟩ = false := fun k => frozen_of hP
    cases todo with
    | cons t l =>
      obtain ⟨st2, hs2a, hs2b⟩ := hs2
      have hnl := step_nl hs2a
      have hT : toksL (t :: l) ++ rest = tokL t ++ [10] ++ (toksL l ++ rest) := by rw [toksL_cons]; simp
      have hem := isEmpty_mk (show toksL (t :: l) ++ rest ≠ [] by rw [hT]; simp)
      have hcut := cut_yes (w := wr) (a := tokL t) (b := toksL l ++ rest) (sep := [10]) rfl hnl (by rw [← hT]; omega) hgw
      rw [← hT] at hcut
      have hln : Hid (∀ w1, Below wr.heap.size wr w1 → Calls Tryz.prog 35 #[.pointer (some ⟨w.heap.size + 1, 0, none⟩), .string ⟨(tokL t).toArray⟩] w1 fun e w' => e = .returned (.bool true) ∧ (∃ v' hv', RdM (w.heap.size + 1) st2 v' hv' w') ∧ w'.heap[w.heap.size]? = some (.cells #[.slice none 0 0] 32 (0, 0)) ∧ Below w.heap.size w w') := by
        intro w1 hb1
        refine (line_yes (hR.below hb1) hs2a hbd (by omega) (hgw.next hb1)).mono ?_
        rintro e w' ⟨rfl, hr, hb'⟩
        exact ⟨rfl, hr, (hb'.block w.heap.size (by omega)).trans ((hb1.block w.heap.size (by omega)).trans hP), (hbel.trans (hb1.mono (by omega))).trans (hb'.mono (by omega))⟩
      have hts2 : Hid (ts = (done ++ [t]) ++ l) := by unfold Hid; rw [hts]; simp
      have hst2 : Hid (Steps Rd.start (done ++ [t]) st2) := steps_append.2 ⟨st1, hs1, st2, hs2a, rfl⟩
      generalize (⟨(toksL (t :: l) ++ rest).toArray⟩ : ByteArray) = sx at *
      generalize (⟨(tokL t).toArray⟩ : ByteArray) = sl at *
      clear hT hR hP0 hPf
      go_wp2_with (first | (go_at_call 34; refine hcut.mono ?_; rintro e w1 ⟨rfl, hb1⟩; have hln1 := hln.out w1 hb1) | (go_at_call 35; refine hln1.mono ?_; rintro e w2 ⟨rfl, ⟨v', hv', hr⟩, hP', hb'⟩))
      go_roundg l.length
      · exact ⟨done ++ [t], l, st2, v', hv', rfl, hts2.out, hst2.out, hs2b, rfl, by rw [List.length_append]; go_num, hr, hP', hb'⟩
      · have := hG.out; rw [List.length_cons] at this; omega
    | nil =>
      obtain rfl : st1 = st := hs2
      have hdone : done.length = ts.length := by simpa using hdn
      have hnil : toksL ([] : List Tok) ++ rest = rest := rfl
      rw [hnil] at hle ⊢
      rcases hrest with rfl | ⟨hr0, hr1⟩ | ⟨l, m, rfl, hr1, hr2⟩
      · obtain ⟨av, cv, rfl, hHs⟩ := hR.hunks
        have hend := ended_any hR
        have x0 : wr.cell? ⟨w.heap.size + 1, 0, none⟩ = some (.slice av st1.hs.length cv) := cell_of (k := 0) hR.blk rfl
        have hso := hR.hso
        have hhs := hR.hs
        have hem : (⟨([] : List UInt8).toArray⟩ : ByteArray).toList.isEmpty = true := by rw [Lib.toList_data]; rfl
        generalize (⟨([] : List UInt8).toArray⟩ : ByteArray) = sx at *
        have hPk : Hid (∀ w1, Below wr.heap.size wr w1 → w1.heap[w.heap.size]? = some (.cells #[.slice none 0 0] 32 (0, 0)) ∧ w1.cell? ⟨w.heap.size + 1, 0, none⟩ = some (.slice av st1.hs.length cv) ∧ HSo (w.heap.size + 1 + 1) (.slice av st1.hs.length cv) hv w1 ∧ Below w.heap.size w w1 ∧ w.heap.size ≤ w1.heap.size) := fun w1 hb1 => ⟨(hb1.block w.heap.size (by omega)).trans hP, (hb1.cell (p := ⟨w.heap.size + 1, 0, none⟩) (by show w.heap.size + 1 < _; omega)).trans x0, hso.below hb1, hbel.trans (hb1.mono (by omega)), by have := hb1.size; omega⟩
        by_cases he : st1.ended
        · have hend2 : Calls Tryz.prog 36 #[.pointer (some ⟨w.heap.size + 1, 0, none⟩)] wr fun e w' => e = .returned (.bool true) ∧ Below wr.heap.size wr w' := by
            refine hend.mono ?_
            rintro e w' ⟨⟨r, rfl, hr⟩, hb'⟩
            exact ⟨by rw [hr.2 he], hb'⟩
          clear hend x0 hso hR
          go_wp2_with (go_at_call 36; refine hend2.mono ?_; rintro e w1 ⟨rfl, hb1⟩; obtain ⟨hP1, x1, hso1, hbw1, hsz1⟩ := hPk.out w1 hb1; have q0 : w1.cell? ⟨w.heap.size, 0, none⟩ = some (.slice none 0 0) := cell_of hP1 rfl; have qf : ∀ k, w1.frozen? ⟨w.heap.size, k, none⟩ = false := fun k => frozen_of hP1)
          refine bodyPost_ret (v := .tuple #[.agg #[.slice av st1.hs.length cv], .int .i64 0, .int .i64 0]) ?_ rfl ⟨.inl ⟨rfl, he, av, cv, rfl, ?_⟩, ?_⟩
          · have hq : (w1.setCell ⟨w.heap.size, 0, none⟩ (.slice av st1.hs.length cv)).cell? ⟨w.heap.size, 0, none⟩ = some (.slice av st1.hs.length cv) := cell_of (heap_setCell_same _ _ _ _ _ _ _ hP1) rfl
            simp [results, Tryz.results17, go_sem, hq]
          · have hsF := hso1.kept (grownBy_setCell w1 w.heap.size 0 (.slice av st1.hs.length cv)) (fun k e => by cases e; exact .inr ⟨_, _, _, hP1, by decide, by decide⟩)
            have := HunksAt.of_owns hsF
            rw [hhs] at this
            exact this
          · exact hbw1.setCell (p := ⟨w.heap.size, 0, none⟩) (Nat.le_refl _) _
        · have hend2 : Calls Tryz.prog 36 #[.pointer (some ⟨w.heap.size + 1, 0, none⟩)] wr fun e w' => e = .returned (.bool false) ∧ Below wr.heap.size wr w' := by
            refine hend.mono ?_
            rintro e w' ⟨⟨r, rfl, hr⟩, hb'⟩
            have : r = false := by cases r; rfl; exact absurd (hr.1 rfl) he
            exact ⟨by rw [this], hb'⟩
          clear hend x0 hso hR
          go_wp2_with (go_at_call 36; refine hend2.mono ?_; rintro e w1 ⟨rfl, hb1⟩; obtain ⟨hP1, x1, hso1, hbw1, hsz1⟩ := hPk.out w1 hb1; have q0 : w1.cell? ⟨w.heap.size, 0, none⟩ = some (.slice none 0 0) := cell_of hP1 rfl; have qf : ∀ k, w1.frozen? ⟨w.heap.size, k, none⟩ = false := fun k => frozen_of hP1)
          refine bodyPost_ret (v := .tuple #[.agg #[.slice none 0 0], .int .i64 (ts.length : Int), .int .i64 4]) ?_ rfl ⟨.inr ⟨fun h => he h.2, rfl⟩, ?_⟩
          · have hq : (w1.setCell ⟨w.heap.size, 0, none⟩ (.slice none 0 0)).cell? ⟨w.heap.size, 0, none⟩ = some (.slice none 0 0) := cell_of (heap_setCell_same _ _ _ _ _ _ _ hP1) rfl
            simp [results, Tryz.results17, go_sem, hq]
          · exact hbw1.setCell (p := ⟨w.heap.size, 0, none⟩) (Nat.le_refl _) _
      · have hcut := cut_no (w := wr) (a := rest) (sep := [10]) rfl hr1 (by omega) hgw
        have hem := isEmpty_mk hr0
        have hPk : Hid (∀ w1, Below wr.heap.size wr w1 → w1.heap[w.heap.size]? = some (.cells #[.slice none 0 0] 32 (0, 0))) := fun w1 hb1 => (hb1.block w.heap.size (by omega)).trans hP
        generalize (⟨rest.toArray⟩ : ByteArray) = sx at *
        go_wp2_with (go_at_call 34; refine hcut.mono ?_; rintro e w1 ⟨rfl, hb1⟩; have hP1 := hPk.out w1 hb1; have q0 : w1.cell? ⟨w.heap.size, 0, none⟩ = some (.slice none 0 0) := cell_of hP1 rfl; have qf : ∀ k, w1.frozen? ⟨w.heap.size, k, none⟩ = false := fun k => frozen_of hP1)
        refine bodyPost_ret (v := .tuple #[.agg #[.slice none 0 0], .int .i64 (ts.length : Int), .int .i64 4]) ?_ rfl ⟨.inr ⟨fun h => hr0 h.1, rfl⟩, ?_⟩
        · have hq : (w1.setCell ⟨w.heap.size, 0, none⟩ (.slice none 0 0)).cell? ⟨w.heap.size, 0, none⟩ = some (.slice none 0 0) := cell_of (heap_setCell_same _ _ _ _ _ _ _ hP1) rfl
          simp [results, Tryz.results17, go_sem, hq]
        · exact (hbel.trans (hb1.mono (by omega))).setCell (p := ⟨w.heap.size, 0, none⟩) (Nat.le_refl _) _
      · have hcut := cut_yes (w := wr) (a := l) (b := m) (sep := [10]) rfl hr1 (by omega) hgw
        have hem := isEmpty_mk (show l ++ [10] ++ m ≠ [] by simp)
        have hln : Hid (∀ w1, Below wr.heap.size wr w1 → Calls Tryz.prog 35 #[.pointer (some ⟨w.heap.size + 1, 0, none⟩), .string ⟨l.toArray⟩] w1 fun e w' => e = .returned (.bool false) ∧ w'.heap[w.heap.size]? = some (.cells #[.slice none 0 0] 32 (0, 0)) ∧ Below w.heap.size w w') := by
          intro w1 hb1
          refine (line_no (hR.below hb1) hr2 hbd (by omega) (hgw.next hb1)).mono ?_
          rintro e w' ⟨rfl, hb'⟩
          have hz := hb1.size
          exact ⟨rfl, (hb'.block w.heap.size (by omega)).trans ((hb1.block w.heap.size (by omega)).trans hP), (hbel.trans (hb1.mono (by omega))).trans (hb'.mono (by omega))⟩
        generalize (⟨(l ++ [10] ++ m).toArray⟩ : ByteArray) = sx at *
        generalize (⟨l.toArray⟩ : ByteArray) = sl at *
        clear hR hP0 hPf
        go_wp2_with (first | (go_at_call 34; refine hcut.mono ?_; rintro e w1 ⟨rfl, hb1⟩; have hln1 := hln.out w1 hb1) | (go_at_call 35; refine hln1.mono ?_; rintro e w2 ⟨rfl, hP1, hb2⟩; have q0 : w2.cell? ⟨w.heap.size, 0, none⟩ = some (.slice none 0 0) := cell_of hP1 rfl; have qf : ∀ k, w2.frozen? ⟨w.heap.size, k, none⟩ = false := fun k => frozen_of hP1))
        refine bodyPost_ret (v := .tuple #[.agg #[.slice none 0 0], .int .i64 (ts.length : Int), .int .i64 4]) ?_ rfl ⟨.inr ⟨fun h => by have := h.1; simp at this, rfl⟩, ?_⟩
        · have hq : (w2.setCell ⟨w.heap.size, 0, none⟩ (.slice none 0 0)).cell? ⟨w.heap.size, 0, none⟩ = some (.slice none 0 0) := cell_of (heap_setCell_same _ _ _ _ _ _ _ hP1) rfl
          simp [results, Tryz.results17, go_sem, hq]
        · exact hb2.setCell (p := ⟨w.heap.size, 0, none⟩) (Nat.le_refl _) _
end Go.Proofs.YtcclgodahlinbaaGreatDoor

namespace Go.Proofs.YtcclgodahlinbaaGreatDoor
open Go.RowKit Go Go.Shelf
attribute [local go_sem] Oper.semAt_some
set_option maxRecDepth 100000

set_option maxHeartbeats 2000000 in
theorem sew_any {S : Nat} {s : SewS} {w : World} {al : Option Addr} {cl : Nat} {T : List ByteArray} {h : HunkM} {a : Option Addr} {c fz : Nat}
    (hs : SewA S (.slice al T.length cl) s.t (s.en : Nat) s.mv w) (hT : RowS w (.slice al T.length cl) T) (hl : StepsAt w.heap.size w (.slice a h.lines.length c) h.lines)
    (hk : ∀ x ∈ h.lines, x.kind = 32 ∨ x.kind = 45 ∨ x.kind = 43) (hL : h.lines.length ≤ 1000) (hfr : h.fr ≤ 40000) (hfc : min h.fc 1 ≤ h.fr) (hTl : T.length ≤ 40000) (hmv : -50000 ≤ s.mv ∧ s.mv ≤ 50000)
    (hlen : s.t.length + (textL T).length + (textL (Dn.newOf h.lines)).length ≤ 50000000) (hfz : fz ≤ 1000) :
    Calls Tryz.prog 29 #[.pointer (some ⟨S, 0, none⟩), hunkVal h (.slice a h.lines.length c), .int .i64 (fz : Int)] w fun e w' =>
      e = .returned (.agg #[.bool (sewM T s h fz).2.done, .int .i64 (sewM T s h fz).2.at', .int .i64 (sewM T s h fz).2.fz]) ∧ SewA S (.slice al T.length cl) (sewM T s h fz).1.t ((sewM T s h fz).1.en : Nat) (sewM T s h fz).1.mv w' ∧ Below S w w' ∧ Lib.OthersKept 5 (some S) w w' := by
  have hp := fun w => placeOf_any h.fr h.fc w (by omega) hfc
  refine (callsIn_wide (n := 9)).1 (callsIn_of_wp_marks Tryz.func29 rfl trivial (wpIn_wide.2 ?_) rfl)
  simp only [Tryz.ntmps29, List.size_toArray, List.length_cons, List.length_nil, Nat.reduceAdd, Nat.reduceSub, Array.replicate_succ, Array.replicate_zero, List.push_toArray, List.append_toArray, List.nil_append, List.cons_append]
  go_wp2_with (go_at_call 59; refine (hp _).mono ?_; rintro e w' ⟨rfl, rfl⟩)
  obtain ⟨z1, b1, k3, k4, k6, k7⟩ := alloc4 w (.cells #[.pointer (some ⟨S, 0, none⟩)] 123) (.cells #[.int .i64 (h.fr : Int), .int .i64 (h.fc : Int), .int .i64 (h.tr : Int), .int .i64 (h.tc : Int), .slice a h.lines.length c] 61) (.cells #[.bool false, .int .i64 0, .int .i64 0] 63) (.cells #[.int .i64 (placeM h.fr h.fc : Nat)] 3)
  generalize (((w.alloc (.cells #[.pointer (some ⟨S, 0, none⟩)] 123)).alloc (.cells #[.int .i64 (h.fr : Int), .int .i64 (h.fc : Int), .int .i64 (h.tr : Int), .int .i64 (h.tc : Int), .slice a h.lines.length c] 61)).alloc (.cells #[.bool false, .int .i64 0, .int .i64 0] 63)).alloc (.cells #[.int .i64 (placeM h.fr h.fc : Nat)] 3) = W1 at z1 b1 k3 k4 k6 k7 ⊢
  have hl1 : StepsAt W1.heap.size W1 (.slice a h.lines.length c) h.lines := (hl.below b1).mono b1.size
  refine (pieceOf_any hl1 hL hk).mono ?_
  rintro e w2 ⟨vo, vf, rfl, ho, hf, b2⟩
  have hz2 := b2.size
  obtain ⟨ao, co, rfl⟩ := owns_isSlice ho
  obtain ⟨af, cf, rfl⟩ := owns_isSlice hf
  have hro := RowS.of_owns ho
  have hrf := RowS.of_owns hf
  clear ho hf
  have c4 : w2.cell? ⟨w.heap.size + 1, 4, none⟩ = some (.slice a h.lines.length c) := (b2.cell (p := ⟨w.heap.size + 1, 4, none⟩) (by show w.heap.size + 1 < _; omega)).trans (cell_of k4 rfl)
  have hne1 : w.heap.size + 1 < w2.heap.size := by omega
  have c4' := fun ob => (World.cell?_of_block (a := ⟨w.heap.size + 1, 4, none⟩) (Below.heap_alloc w2 ob (w.heap.size + 1) hne1)).trans c4
  go_wp2_with fail
  have hW2b := b2.alloc b2.size (.cells #[.slice ao (Dn.oldOf h.lines).length co, .slice af (Dn.newOf h.lines).length cf] 125)
  have k8 := heap_alloc_new w2 (.cells #[.slice ao (Dn.oldOf h.lines).length co, .slice af (Dn.newOf h.lines).length cf] 125)
  have hro2 := hro.alloc (.cells #[.slice ao (Dn.oldOf h.lines).length co, .slice af (Dn.newOf h.lines).length cf] 125)
  have hrf2 := hrf.alloc (.cells #[.slice ao (Dn.oldOf h.lines).length co, .slice af (Dn.newOf h.lines).length cf] 125)
  have z2 : (w2.alloc (.cells #[.slice ao (Dn.oldOf h.lines).length co, .slice af (Dn.newOf h.lines).length cf] 125)).heap.size = w2.heap.size + 1 := by simp
  generalize w2.alloc (.cells #[.slice ao (Dn.oldOf h.lines).length co, .slice af (Dn.newOf h.lines).length cf] 125) = W2 at hW2b k8 hro2 hrf2 z2 ⊢
  have hl2 : StepsAt W2.heap.size W2 (.slice a h.lines.length c) h.lines := (hl1.below hW2b).mono hW2b.size
  refine (keeps_any hl2 hL).mono ?_
  rintro e w3 ⟨rfl, b3⟩
  have hz3 := b3.size
  obtain ⟨hks1, hks2⟩ := keeps_sum_all h.lines
  have hkl := keepsK_le h.lines h.lines.length
  have hB8 : w2.heap.size < W2.heap.size := by omega
  -- the boxes, where the loop begins
  have hb03 : Below W1.heap.size W1 w3 := hW2b.trans (b3.mono (by omega))
  have k3' := (hb03.block w.heap.size (by omega)).trans k3
  have k6' := (hb03.block (w.heap.size + 2) (by omega)).trans k6
  have k7' := (hb03.block (w.heap.size + 3) (by omega)).trans k7
  have k8' := (b3.block w2.heap.size hB8).trans k8
  have hro3 := hro2.below b3
  have hrf3 := hrf2.below b3
  have hbw : Below w.heap.size w w3 := b1.trans (hb03.mono (by omega))
  clear hro hrf hro2 hrf2 k3 k4 k6 k7 k8 c4 b3 hl1 hl2 hW2b hb03 b1 b2
  go_wp2_with fail
  have hN : (min (fz : Int) (max ((keepsK h.lines h.lines.length).1 : Int) ((keepsK h.lines h.lines.length).2.1 : Int)) + 1) = ((sewRounds h fz : Nat) : Int) := by unfold sewRounds; omega
  rw [hN]
  have hN2 : Hid (sewRounds h fz = min fz (max (keepsK h.lines h.lines.length).1 (keepsK h.lines h.lines.length).2.1) + 1) := rfl
  have hF2 : Hid (sewFind T s.en s.mv h fz = sewFrom T s.en s.mv h 0 (sewRounds h fz)) := rfl
  have hAt : Hid (∀ f, sewAt T s.en s.mv h f = (aroundL ((placeM h.fr h.fc : Nat) + s.mv) T.length).find? fun x => standM T s.en (pieceO h.lines f) (x + (min f (keepsK h.lines h.lines.length).1 : Nat))) := fun _ => rfl
  have hpo : Hid (∀ f, pieceO h.lines f = ((Dn.oldOf h.lines).drop (min f (keepsK h.lines h.lines.length).1)).take ((Dn.oldOf h.lines).length - min f (keepsK h.lines h.lines.length).2.1 - min f (keepsK h.lines h.lines.length).1)) := fun _ => rfl
  have hpf : Hid (∀ f, pieceF h.lines f = ((Dn.newOf h.lines).drop (min f (keepsK h.lines h.lines.length).1)).take ((Dn.newOf h.lines).length - min f (keepsK h.lines h.lines.length).2.1 - min f (keepsK h.lines h.lines.length).1)) := fun _ => rfl
  have hto : Hid (∀ f x, sewTo T s h f x = ⟨s.t ++ textL ((T.drop s.en).take ((x + (min f (keepsK h.lines h.lines.length).1 : Nat)).toNat - s.en)) ++ textL (pieceF h.lines f), (x + (min f (keepsK h.lines h.lines.length).1 : Nat)).toNat + (pieceO h.lines f).length, x - (placeM h.fr h.fc : Nat)⟩) := fun _ _ => rfl
  have hol := oldOf_len h.lines
  have hnl := newOf_len h.lines
  have hpl : placeM h.fr h.fc ≤ 40000 := by unfold placeM; split <;> omega
  generalize (keepsK h.lines h.lines.length).1 = F at hN hN2 hAt hpo hpf hto hks1 hks2 hkl ⊢
  generalize (keepsK h.lines h.lines.length).2.1 = G at hN hN2 hpo hpf hks1 hks2 hkl ⊢
  have hNb : sewRounds h fz ≤ 1001 := by have := hN2.out; omega
  generalize sewRounds h fz = N at hN hN2 hF2 hNb ⊢
  clear hN hN2 hp
  refine wp_loop_ghost_k (fun k a' w' => ∃ (f : Nat) (Ds : List Nat), k = N - f ∧ f ≤ N ∧ sewFrom T s.en s.mv h 0 N = sewFrom T s.en s.mv h f (N - f) ∧ a'.defers = Ds.map markD ∧ Marks Ds w' ∧ (∀ D ∈ Ds, w3.heap.size ≤ D) ∧ Below w3.heap.size w3 w' ∧ a'.tmps.size = 86 ∧
      a'.tmps[0]? = some (.pointer (some ⟨S, 0, none⟩)) ∧ a'.tmps[1]? = some (hunkVal h (.slice a h.lines.length c)) ∧ a'.tmps[2]? = some (.int .i64 (fz : Int)) ∧ a'.tmps[3]? = some (.pointer (some ⟨w.heap.size, 0, none⟩)) ∧ a'.tmps[4]? = some (.pointer (some ⟨w.heap.size + 1, 0, none⟩)) ∧ a'.tmps[6]? = some (.pointer (some ⟨w.heap.size + 1 + 1, 0, none⟩)) ∧ a'.tmps[7]? = some (.pointer (some ⟨w.heap.size + 1 + 1 + 1, 0, none⟩)) ∧ a'.tmps[8]? = some (.pointer (some ⟨w2.heap.size, 0, none⟩)) ∧ a'.tmps[9]? = some (.int .i64 (F : Int)) ∧ a'.tmps[10]? = some (.int .i64 (G : Int)) ∧ a'.tmps[34]? = some (.int .i64 (N : Int)) ∧ a'.tmps[35]? = some (.int .i64 (f : Int))) N ?_ ?_
  · exact ⟨0, [], by omega, by omega, by simp, rfl, ⟨List.nodup_nil, by simp⟩, by simp, Below.refl _ _, rfl, rfl, rfl, rfl, rfl, rfl, rfl, rfl, rfl, rfl, rfl, rfl, rfl⟩
  · rintro gk ⟨A, ds⟩ wr ⟨f, Ds, hgk, hfN, hsf, hds, hmk, hDs, hbel, hz86, e0, e1, e2, e3, e4, e6, e7, e8, e9, e10, e34, e35⟩ J K hJ hK
    obtain ⟨u, rfl⟩ := arr86 hz86 e0 e1 e2 e3 e4 e6 e7 e8 e9 e10 e34 e35
    clear e0 e1 e2 e3 e4 e6 e7 e8 e9 e10 e34 e35 hz86
    dsimp only at hds ⊢
    have hszr := hbel.size
    have hbw' : Below w.heap.size w wr := hbw.trans (hbel.mono (by omega))
    have c3 : wr.cell? ⟨w.heap.size, 0, none⟩ = some (.pointer (some ⟨S, 0, none⟩)) := cell_of ((hbel.block _ (by omega)).trans k3') rfl
    have c7 : wr.cell? ⟨w.heap.size + 1 + 1 + 1, 0, none⟩ = some (.int .i64 (placeM h.fr h.fc : Nat)) := cell_of ((hbel.block (w.heap.size + 3) (by omega)).trans k7') rfl
    have c80 : wr.cell? ⟨w2.heap.size, 0, none⟩ = some (.slice ao (Dn.oldOf h.lines).length co) := cell_of ((hbel.block _ (by omega)).trans k8') rfl
    have c81 : wr.cell? ⟨w2.heap.size, 1, none⟩ = some (.slice af (Dn.newOf h.lines).length cf) := cell_of ((hbel.block _ (by omega)).trans k8') rfl
    have hwr1 : w.heap.size + 3 < wr.heap.size := by omega
    have hwr2 : w2.heap.size < wr.heap.size := by omega
    have hwr3 : w.heap.size < wr.heap.size := by omega
    have hror := hro3.below hbel
    have hrfr := hrf3.below hbel
    have hz3' : Hid (W1.heap.size ≤ w2.heap.size ∧ W1.heap.size = w.heap.size + 4 ∧ W2.heap.size = w2.heap.size + 1 ∧ W2.heap.size ≤ w3.heap.size ∧ w3.heap.size ≤ wr.heap.size) := ⟨hz2, z1, z2, hz3, hszr⟩
    have hH : Hid (gk = N - f ∧ sewFrom T s.en s.mv h 0 N = sewFrom T s.en s.mv h f (N - f) ∧ ds = Ds.map markD) := ⟨hgk, hsf, hds⟩
    clear hgk hsf hds z1 z2 hz2 hz3 hszr
    by_cases hff : f < N
    · have hfI : (f : Int) < N := by omega
      have m1 : min (f : Int) F = ((min f F : Nat) : Int) := by omega
      have m2 : min (f : Int) G = ((min f G : Nat) : Int) := by omega
      go_wp2_with fail
      obtain ⟨z4, hb4, q11, q12⟩ := alloc2 wr (.cells #[.int .i64 (f : Int)] 3) (.cells #[.int .i64 ((min f F : Nat) : Int)] 3)
      generalize (wr.alloc (.cells #[.int .i64 (f : Int)] 3)).alloc (.cells #[.int .i64 ((min f F : Nat) : Int)] 3) = W4 at z4 hb4 q11 q12 ⊢
      have hwo := without_any (f := min f F) (l := min f G) (hror.below hb4) (hrfr.below hb4) (by omega) (by omega) (by omega) (by omega)
      rw [← hpo.out f, ← hpf.out f] at hwo
      have hpoL : (pieceO h.lines f).length ≤ 1000 := by rw [hpo.out f]; exact Nat.le_trans (List.length_take_le' _ _) (by rw [List.length_drop]; omega)
      have hpfT : (textL (pieceF h.lines f)).length ≤ (textL (Dn.newOf h.lines)).length := by rw [hpf.out f]; exact textL_sub _ _ _
      have hat := hAt.out f
      have hto2 := hto.out f
      have hAT : Hid (sewAt T s.en s.mv h f = (aroundL ((placeM h.fr h.fc : Nat) + s.mv) T.length).find? fun x => standM T s.en (pieceO h.lines f) (x + (min f F : Nat))) := hat
      have hTO : Hid (∀ x, sewTo T s h f x = ⟨s.t ++ textL ((T.drop s.en).take ((x + (min f F : Nat)).toNat - s.en)) ++ textL (pieceF h.lines f), (x + (min f F : Nat)).toNat + (pieceO h.lines f).length, x - (placeM h.fr h.fc : Nat)⟩) := hto2
      clear hat hto2 hto hAt hpo hpf m1 m2
      refine hwo.mono ?_
      clear hwo
      generalize pieceO h.lines f = po at hpoL hAT hTO ⊢
      generalize pieceF h.lines f = pf at hpfT hTO ⊢
      generalize hahd : min f F = ahd at q12 hAT hTO ⊢
      have hahd2 : ahd ≤ 1000 := by omega
      clear hahd
      rintro e w5 ⟨ao', co', af', cf', rfl, hro5, hrf5, hb5⟩
      have hz5 := hb5.size
      have hb45 : Below wr.heap.size wr w5 := hb4.trans (hb5.mono (by omega))
      generalize hPL : placeM h.fr h.fc = PL at *
      have hpl2 : PL ≤ 40000 := hpl
      have hPLh : Hid (placeM h.fr h.fc = PL) := hPL
      clear hPL hpl
      go_wp2_with fail
      have hb6 := hb45.alloc hb45.size (.cells #[.slice ao' po.length co', .slice af' pf.length cf'] 125)
      have z6 : (w5.alloc (.cells #[.slice ao' po.length co', .slice af' pf.length cf'] 125)).heap.size = w5.heap.size + 1 := by simp
      have q13 := heap_alloc_new w5 (.cells #[.slice ao' po.length co', .slice af' pf.length cf'] 125)
      have q11' := (Below.heap_alloc w5 (.cells #[.slice ao' po.length co', .slice af' pf.length cf'] 125) wr.heap.size (by omega)).trans ((hb5.block wr.heap.size (by omega)).trans q11)
      have q12' := (Below.heap_alloc w5 (.cells #[.slice ao' po.length co', .slice af' pf.length cf'] 125) (wr.heap.size + 1) (by omega)).trans ((hb5.block (wr.heap.size + 1) (by omega)).trans q12)
      have hro6 := hro5.alloc (.cells #[.slice ao' po.length co', .slice af' pf.length cf'] 125)
      have hrf6 := hrf5.alloc (.cells #[.slice ao' po.length co', .slice af' pf.length cf'] 125)
      generalize w5.alloc (.cells #[.slice ao' po.length co', .slice af' pf.length cf'] 125) = W6 at hb6 z6 q13 q11' q12' hro6 hrf6 ⊢
      have hw6 : Below w.heap.size w W6 := hbw'.trans (hb6.mono (by omega))
      have hs6 := hs.below hw6
      have hT6 := hT.below hw6
      obtain ⟨s0, s3, s4, sf⟩ := hs6.cells
      have d3 : W6.cell? ⟨w.heap.size, 0, none⟩ = some (.pointer (some ⟨S, 0, none⟩)) := (hb6.cell (p := ⟨w.heap.size, 0, none⟩) hwr3).trans c3
      have d7 : W6.cell? ⟨w.heap.size + 1 + 1 + 1, 0, none⟩ = some (.int .i64 (PL : Int)) := (hb6.cell (p := ⟨w.heap.size + 1 + 1 + 1, 0, none⟩) hwr1).trans c7
      have hx : IntKind.i64.wrap ((PL : Int) + s.mv) = (PL : Int) + s.mv := by rw [IntKind.wrap_i64]; omega
      refine wp_still_tail 11 mixed (by kernel_rfl) ?_
      simp only [List.take_succ_cons, List.take_zero, List.drop_succ_cons, List.drop_zero]
      repeat still_step
      refine wpStill_nil ?_
      go_wp2_with (go_at_call 63; refine (around_any ((PL : Int) + s.mv) T.length _).mono ?_; rintro e w7 ⟨rfl, rfl⟩)
      obtain ⟨z7, hb7, r1, r2⟩ := alloc2 W6 (.cells #[.int .i64 ((PL : Int) + s.mv)] 3) (.cells #[.int .i64 (T.length : Int)] 3)
      replace hb7 := hb7.drew
      have z7' : (((W6.alloc (.cells #[.int .i64 ((PL : Int) + s.mv)] 3)).alloc (.cells #[.int .i64 (T.length : Int)] 3)).drew).heap.size = W6.heap.size + 2 := z7
      have r1' : (((W6.alloc (.cells #[.int .i64 ((PL : Int) + s.mv)] 3)).alloc (.cells #[.int .i64 (T.length : Int)] 3)).drew).heap[W6.heap.size]? = _ := r1
      have r2' : (((W6.alloc (.cells #[.int .i64 ((PL : Int) + s.mv)] 3)).alloc (.cells #[.int .i64 (T.length : Int)] 3)).drew).heap[W6.heap.size + 1]? = _ := r2
      clear z7 r1 r2
      generalize ((W6.alloc (.cells #[.int .i64 ((PL : Int) + s.mv)] 3)).alloc (.cells #[.int .i64 (T.length : Int)] 3)).drew = W7 at z7' hb7 r1' r2' ⊢
      rw [z6] at r1' r2' z7'
      have hDs7 : ∀ D ∈ Ds, D < W7.heap.size := fun D hD => by have := (Array.getElem?_eq_some_iff.1 (hmk.2 D hD)).1; have := hb6.size; omega
      have hwz : w.heap.size ≤ W7.heap.size := by have := hw6.size; omega
      have hSw := hs.lt
      refine wpIn_wide.1 (wpIn_rangeFunc_ownF (F := Fence.wide) (n := 9) (α := Pl) rfl (by omega) (gf := 103) (lb := #[.pointer (some ⟨w5.heap.size + 1, 0, none⟩), .pointer (some ⟨w5.heap.size + 1 + 1, 0, none⟩)]) rfl trivial (enters_of Tryz.func103 (by kernel_rfl) rfl)
        (around_stops 8 (by omega) (w5.heap.size + 1) (w5.heap.size + 1 + 1) W7.heap.size T.length ((PL : Int) + s.mv) (by omega) (by omega) (by omega) (by omega) W7 (Nat.le_refl _) (cell_of r1' rfl) (cell_of r2' rfl)) belowK_t (belowK_b (Nat.le_refl _)) (Below.refl _ _) (fun _ => rfl)
        (fun pre W => Below W7.heap.size W7 W ∧ ∀ y ∈ vals pre, standM T s.en po (y + (ahd : Int)) = false)
        (fun c pre W => c = .ret ∧ ∃ pre' x, vals pre = pre' ++ [x] ∧ (∀ y ∈ pre', standM T s.en po (y + (ahd : Int)) = false) ∧ standM T s.en po (x + (ahd : Int)) = true ∧ SewFin S w (.slice al T.length cl) (w.heap.size + 2) (sewTo T s h f x) ⟨true, x - (PL : Int), f⟩ W ∧ ∀ D ∈ Ds, W.heap[D]? = some (.deferred (some [])))
        (OwnFrom.and (ownFrom_below (Nat.le_refl _) (Nat.le_refl _)) (ownFrom_pure _ _))
        (fun c pre A B row hI hg hr => by
          obtain ⟨e, pre', x, e1, e2, e3, e4, e5⟩ := hI
          exact ⟨e, pre', x, e1, e2, e3, e4.grow hg hr hwz hSw, fun D hD => (hg.block D (Array.getElem?_eq_some_iff.1 (e5 D hD)).1 (fun e => by have := (hr D e.symm).1; have := hDs7 D hD; omega)).trans (e5 D hD)⟩)
        ⟨Below.refl _ _, by simp [vals]⟩
        (fun x => { tmps := #[.pointer (some ⟨S, 0, none⟩), hunkVal h (.slice a h.lines.length c), .int .i64 (fz : Int), .pointer (some ⟨w.heap.size, 0, none⟩), .pointer (some ⟨w.heap.size + 1, 0, none⟩), u 5, .pointer (some ⟨w.heap.size + 1 + 1, 0, none⟩), .pointer (some ⟨w.heap.size + 1 + 1 + 1, 0, none⟩), .pointer (some ⟨w2.heap.size, 0, none⟩), .int .i64 (F : Int), .int .i64 (G : Int), .pointer (some ⟨wr.heap.size, 0, none⟩), .pointer (some ⟨wr.heap.size + 1, 0, none⟩), .pointer (some ⟨w5.heap.size, 0, none⟩), .int .i64 x.1, u 15, u 16, u 17, u 18, u 19, u 20, u 21, u 22, u 23, u 24, u 25, u 26, u 27, u 28, u 29, u 30, u 31, u 32, u 33, .int .i64 (N : Int), .int .i64 (f : Int), .bool true, .int .i64 (f : Int), .int .i64 (f : Int), .int .i64 (F : Int), .int .i64 (ahd : Int), .agg #[.slice ao (Dn.oldOf h.lines).length co, .slice af (Dn.newOf h.lines).length cf], .int .i64 (ahd : Int), .int .i64 (f : Int), .int .i64 (G : Int), .int .i64 ((min f G : Nat) : Int), .agg #[.slice ao' po.length co', .slice af' pf.length cf'], .int .i64 (PL : Int), .pointer (some ⟨S, 0, none⟩), .pointer (some ⟨S, 0, none⟩), .pointer (some ⟨S, 4, none⟩), .int .i64 s.mv, .int .i64 ((PL : Int) + s.mv), .pointer (some ⟨S, 0, none⟩), .pointer (some ⟨S, 0, none⟩), .pointer (some ⟨S, 0, none⟩), .slice al T.length cl, .int .i64 (T.length : Int), .func (.func 103) #[] #[.pointer (some ⟨w5.heap.size + 1, 0, none⟩), .pointer (some ⟨w5.heap.size + 1 + 1, 0, none⟩)], .int .i64 x.1, u 60, u 61, u 62, u 63, u 64, u 65, u 66, u 67, u 68, u 69, u 70, u 71, u 72, u 73, u 74, u 75, u 76, u 77, u 78, u 79, u 80, u 81, u 82, u 83, u 84, u 85], defers := [] }) ?assign ?body ?done ?stop)
      case assign =>
        intro l x W K hK
        gi_wp2
        exact hK
      case body =>
        rintro l pre x W ⟨hBW, hfalse⟩ _
        dsimp only
        have hb67 : Below W6.heap.size W6 W := hb7.trans (hBW.mono (by omega))
        have hw7 : Below w.heap.size w W := hw6.trans (hb67.mono (by omega))
        have hs7 := hs6.below hb67
        have hT7 := hT6.below hb67
        have ho7 := hro6.below hb67
        have hf7 := hrf6.below hb67
        have g3 := (hb67.block w.heap.size (by omega)).trans ((hb6.block w.heap.size hwr3).trans ((hbel.block _ (by have := hz3'.out; omega)).trans k3'))
        have g6 := (hb67.block (w.heap.size + 2) (by omega)).trans ((hb6.block (w.heap.size + 2) (by omega)).trans ((hbel.block _ (by have := hz3'.out; omega)).trans k6'))
        have g7 := (hb67.block (w.heap.size + 3) (by omega)).trans ((hb6.block (w.heap.size + 3) hwr1).trans ((hbel.block _ (by have := hz3'.out; omega)).trans k7'))
        have g11 := (hb67.block wr.heap.size (by omega)).trans q11'
        have g12 := (hb67.block (wr.heap.size + 1) (by omega)).trans q12'
        have g13 := (hb67.block w5.heap.size (by omega)).trans q13
        obtain ⟨cs7, hcs7⟩ := hs7.tag
        have hx1 := x.2.1
        have hx2 := x.2.2
        have hcan := canStand_any (at' := x.1 + (ahd : Int)) hs7 hT7 ho7 rfl ⟨af', pf.length, cf', rfl⟩ (by omega) ⟨by omega, by omega⟩
        have e3 : W.cell? ⟨w.heap.size, 0, none⟩ = some (.pointer (some ⟨S, 0, none⟩)) := cell_of g3 rfl
        have e12 : W.cell? ⟨wr.heap.size + 1, 0, none⟩ = some (.int .i64 (ahd : Int)) := cell_of g12 rfl
        have e130 : W.cell? ⟨w5.heap.size, 0, none⟩ = some (.slice ao' po.length co') := cell_of g13 rfl
        have e131 : W.cell? ⟨w5.heap.size, 1, none⟩ = some (.slice af' pf.length cf') := cell_of g13 rfl
        have xw : IntKind.i64.wrap (x.1 + (ahd : Int)) = x.1 + (ahd : Int) := by rw [IntKind.wrap_i64]; omega
        have hWz := hBW.size
        cases hst : standM T s.en po (x.1 + (ahd : Int)) with
        | false =>
          rw [hst] at hcan
          gi_wp2_with (refine ⟨trivial, ?_⟩; gi_at_call 64; refine (CallsIn.inRound l (callsIn_wide.2 hcan)).mono ?_; rintro e w8 ⟨rfl, hb8⟩)
          refine ⟨keeps_below hb8, hb8.mono hWz, hBW.trans (hb8.mono hWz), ?_⟩
          intro y hy
          rw [vals_append, List.mem_append] at hy
          rcases hy with hy | hy
          · exact hfalse y hy
          · simp [vals] at hy; rw [hy]; exact hst
        | true =>
          rw [hst] at hcan
          obtain ⟨st1, st2, _⟩ := of_decide_eq_true hst
          obtain ⟨kk, hkk⟩ : ∃ kk : Nat, x.1 + (ahd : Int) = kk := ⟨(x.1 + (ahd : Int)).toNat, by omega⟩
          have hH2 : Hid (standM T s.en po (x.1 + (ahd : Int)) = true ∧ (x.1 + (ahd : Int)).toNat = kk) := ⟨hst, by omega⟩
          have hput : Hid (∀ W8 : World, Below W.heap.size W W8 → Calls Tryz.prog 65 #[.pointer (some ⟨S, 0, none⟩), .agg #[.slice ao' po.length co', .slice af' pf.length cf'], .int .i64 (x.1 + (ahd : Int))] W8 fun e w' =>
              e = .returned (.tuple #[]) ∧ SewA S (.slice al T.length cl) (s.t ++ textL ((T.drop s.en).take (kk - s.en)) ++ textL pf) ((kk + po.length : Nat) : Int) s.mv w' ∧ Below S W8 w' ∧ Lib.OthersKept 5 (some S) W8 w') := by
            intro W8 hb8
            rw [hkk]
            exact put_sew (hs7.below hb8) (hT7.below hb8) (hf7.below hb8) rfl (by omega) (by omega) (by omega) (by omega) (by omega)
          have hmw : IntKind.i64.wrap (x.1 - (PL : Int)) = x.1 - (PL : Int) := by rw [IntKind.wrap_i64]; omega
          have e3h : Hid (∀ W8 : World, Below W.heap.size W W8 → W8.cell? ⟨w.heap.size, 0, none⟩ = some (.pointer (some ⟨S, 0, none⟩)) ∧ W8.cell? ⟨wr.heap.size + 1, 0, none⟩ = some (.int .i64 (ahd : Int)) ∧ W8.cell? ⟨w5.heap.size, 0, none⟩ = some (.slice ao' po.length co') ∧ W8.cell? ⟨w5.heap.size, 1, none⟩ = some (.slice af' pf.length cf')) := fun W8 hb8 =>
            ⟨(hb8.cell (p := ⟨w.heap.size, 0, none⟩) (Array.getElem?_eq_some_iff.1 g3).1).trans e3, (hb8.cell (p := ⟨wr.heap.size + 1, 0, none⟩) (Array.getElem?_eq_some_iff.1 g12).1).trans e12, (hb8.cell (p := ⟨w5.heap.size, 0, none⟩) (Array.getElem?_eq_some_iff.1 g13).1).trans e130, (hb8.cell (p := ⟨w5.heap.size, 1, none⟩) (Array.getElem?_eq_some_iff.1 g13).1).trans e131⟩
          have hS7 : S < W.heap.size := hs7.lt
          have hne : ∀ k, w.heap.size ≤ k → some k ≠ some S := fun k hk e => by cases e; omega
          have hkeep : Hid (∀ W8 w9 : World, Below W.heap.size W W8 → Lib.OthersKept 5 (some S) W8 w9 → w9.heap[w.heap.size]? = W.heap[w.heap.size]? ∧ w9.heap[w.heap.size + 2]? = W.heap[w.heap.size + 2]? ∧ w9.heap[w.heap.size + 3]? = W.heap[w.heap.size + 3]? ∧ w9.heap[wr.heap.size]? = W.heap[wr.heap.size]? ∧ Lib.OthersKept 5 (some S) W w9) := by
            intro W8 w9 hb8 ho9
            have ho := (others_below (e := 5) (b := some S) hb8).trans ho9
            refine ⟨?_, ?_, ?_, ?_, ho⟩
            · rw [g3]; exact ho _ _ g3 (hne _ (Nat.le_refl _)) (by intro c z e; injection e with _ e; exact absurd e (by decide))
            · rw [g6]; exact ho _ _ g6 (hne _ (by omega)) (by intro c z e; injection e with _ e; exact absurd e (by decide))
            · rw [g7]; exact ho _ _ g7 (hne _ (by omega)) (by intro c z e; injection e with _ e; exact absurd e (by decide))
            · rw [g11]; exact ho _ _ g11 (hne _ (by omega)) (by intro c z e; injection e with _ e; exact absurd e (by decide))
          clear hkk st1 st2 hst
          gi_wp2_with (first | (refine ⟨trivial, ?_⟩; gi_at_call 64; refine (CallsIn.inRound l (callsIn_wide.2 hcan)).mono ?_; clear hcan; rintro e w8 ⟨rfl, hb8⟩; obtain ⟨f3, f12, f130, f131⟩ := e3h.out w8 hb8) | (refine ⟨trivial, ?_⟩; gi_at_call 65; refine (CallsIn.inRound l (callsIn_wide.2 (hput.out w8 hb8))).mono ?_; rintro e w9 ⟨rfl, hs9, hb9, ho9⟩; obtain ⟨j3, j6, j7, j11, jo⟩ := hkeep.out w8 w9 hb8 ho9; have i3 : w9.cell? ⟨w.heap.size, 0, none⟩ = some (.pointer (some ⟨S, 0, none⟩)) := cell_of (j3.trans g3) rfl; have i7 : w9.cell? ⟨w.heap.size + 1 + 1 + 1, 0, none⟩ = some (.int .i64 (PL : Int)) := cell_of (j7.trans g7) rfl; have i11 : w9.cell? ⟨wr.heap.size, 0, none⟩ = some (.int .i64 (f : Int)) := cell_of (j11.trans g11) rfl; obtain ⟨t0, t3, t4, tf⟩ := hs9.cells))
          have hs10 := hs9.set4 (x.1 - (PL : Int))
          have jo10 := jo.setCell ⟨S, 4, none⟩ rfl (.int .i64 (x.1 - (PL : Int)))
          have hbS10 : Below S W (w9.setCell ⟨S, 4, none⟩ (.int .i64 (x.1 - (PL : Int)))) := ((hb8.mono (by omega)).trans hb9).setCell (p := ⟨S, 4, none⟩) (Nat.le_refl _) _
          have m3 := (heap_setCell_other w9 S w.heap.size 4 (.int .i64 (x.1 - (PL : Int))) (by omega)).trans (j3.trans g3)
          have m6 := (heap_setCell_other w9 S (w.heap.size + 2) 4 (.int .i64 (x.1 - (PL : Int))) (by omega)).trans (j6.trans g6)
          have m11 := (heap_setCell_other w9 S wr.heap.size 4 (.int .i64 (x.1 - (PL : Int))) (by omega)).trans (j11.trans g11)
          generalize w9.setCell ⟨S, 4, none⟩ (.int .i64 (x.1 - (PL : Int))) = W10 at hs10 jo10 hbS10 m3 m6 m11 ⊢
          clear i3 i7 i11 t0 t3 t4 tf
          have i3 : W10.cell? ⟨w.heap.size, 0, none⟩ = some (.pointer (some ⟨S, 0, none⟩)) := cell_of m3 rfl
          have i11 : W10.cell? ⟨wr.heap.size, 0, none⟩ = some (.int .i64 (f : Int)) := cell_of m11 rfl
          obtain ⟨t0, t3, t4, tf⟩ := hs10.cells
          have i60 : W10.cell? ⟨w.heap.size + 1 + 1, 0, none⟩ = some (.bool false) := cell_of m6 rfl
          have i61 : W10.cell? ⟨w.heap.size + 1 + 1, 1, none⟩ = some (.int .i64 0) := cell_of m6 rfl
          have i62 : W10.cell? ⟨w.heap.size + 1 + 1, 2, none⟩ = some (.int .i64 0) := cell_of m6 rfl
          have if6 : ∀ k, W10.frozen? ⟨w.heap.size + 1 + 1, k, none⟩ = false := fun k => frozen_of m6
          have hz10 := hbS10.size
          have hmk7 : ∀ D ∈ Ds, W.heap[D]? = some (.deferred (some [])) := fun D hD => by
            have h1 := hmk.2 D hD
            have h2 := (Array.getElem?_eq_some_iff.1 h1).1
            have h3 := hb6.size
            exact (hb67.block D (by omega)).trans ((hb6.block D h2).trans h1)
          have hfin := sew_final (f := f) hw7 hs7.tag hs10 m6 hbS10 jo10 (by omega) hmk7
          have hTO2 := hTO.out x.1
          rw [hH2.out.2] at hTO2
          have hpost : KeepsOthers W (((W10.setCell ⟨w.heap.size + 1 + 1, 0, none⟩ (.bool true)).setCell ⟨w.heap.size + 1 + 1, 1, none⟩ (.int .i64 (x.1 - (PL : Int)))).setCell ⟨w.heap.size + 1 + 1, 2, none⟩ (.int .i64 (f : Int))).drew ∧ (∃ pre' x', vals (pre ++ [x]) = pre' ++ [x'] ∧ (∀ y ∈ pre', standM T s.en po (y + (ahd : Int)) = false) ∧ standM T s.en po (x' + (ahd : Int)) = true ∧
              SewFin S w (.slice al T.length cl) (w.heap.size + 2) (sewTo T s h f x') ⟨true, x' - (PL : Int), f⟩ (((W10.setCell ⟨w.heap.size + 1 + 1, 0, none⟩ (.bool true)).setCell ⟨w.heap.size + 1 + 1, 1, none⟩ (.int .i64 (x.1 - (PL : Int)))).setCell ⟨w.heap.size + 1 + 1, 2, none⟩ (.int .i64 (f : Int))).drew ∧
              ∀ D ∈ Ds, (((W10.setCell ⟨w.heap.size + 1 + 1, 0, none⟩ (.bool true)).setCell ⟨w.heap.size + 1 + 1, 1, none⟩ (.int .i64 (x.1 - (PL : Int)))).setCell ⟨w.heap.size + 1 + 1, 2, none⟩ (.int .i64 (f : Int))).drew.heap[D]? = some (.deferred (some []))) :=
            ⟨hfin.1, vals pre, x.1, by rw [vals_append]; rfl, hfalse, hH2.out.1, by rw [hTO2]; exact hfin.2.1, hfin.2.2⟩
          have hP : Hid _ := hpost
          clear hpost hfin hTO2 hfalse hmk7
          have hmixed := mixed
          gi_region_o
          all_goals (gi_wp2; exact ⟨hP.out.1, rfl, hP.out.2⟩)
      case done =>
        rintro D xs W hD hS ⟨hBW, hfalse⟩ hDef
        have hb67 : Below W6.heap.size W6 W := hb7.trans (hBW.mono (by omega))
        have hbw3 : Below w3.heap.size w3 W := hbel.trans ((hb6.trans (hb67.mono (by have := hb6.size; omega))).mono (by have := hz3'.out; omega))
        have hnone : sewAt T s.en s.mv h f = none := by
          rw [hAT.out]
          exact find_none (fun y hy => hfalse y (by rw [hS]; exact hy))
        have hmk7 : ∀ D ∈ Ds, W.heap[D]? = some (.deferred (some [])) := fun D hD => by
          have h1 := hmk.2 D hD
          have h2 := (Array.getElem?_eq_some_iff.1 h1).1
          have h3 := hb6.size
          exact (hb67.block D (by omega)).trans ((hb6.block D h2).trans h1)
        have hM : Marks (D :: Ds) W := ⟨List.nodup_cons.2 ⟨fun hm => by have := hDs7 D hm; omega, hmk.1⟩, fun D' hD' => by
          rcases List.mem_cons.1 hD' with rfl | hD'
          · exact hDef
          · exact hmk7 D' hD'⟩
        have hH3 : Hid (Marks (D :: Ds) W ∧ sewFrom T s.en s.mv h 0 N = sewFrom T s.en s.mv h (f + 1) (N - (f + 1)) ∧ Below w3.heap.size w3 W ∧ ∀ D' ∈ D :: Ds, w3.heap.size ≤ D') := by
          refine ⟨hM, ?_, hbw3, ?_⟩
          · rw [hH.out.2.1, show N - f = (N - (f + 1)) + 1 by omega, sewFrom_none hnone]
          · intro D' hD'
            rcases List.mem_cons.1 hD' with rfl | hD'
            · have := hb6.size; have := hz3'.out; omega
            · exact hDs D' hD'
        clear hM hmk7 hnone hbw3 hfalse hS hDef
        have hfw : IntKind.i64.wrap ((f : Int) + 1) = (f : Int) + 1 := by rw [IntKind.wrap_i64]; omega
        go_wp2_with fail
        exact Handed.intro (N - (f + 1)) (by have := hH.out.1; omega) (hJ _ _ _ ⟨f + 1, D :: Ds, rfl, by omega, hH3.out.2.1, by rw [hH.out.2.2]; rfl, hH3.out.1, hH3.out.2.2.2, hH3.out.2.2.1, rfl, rfl, rfl, rfl, rfl, rfl, rfl, rfl, rfl, rfl, rfl, rfl, rfl⟩)
      case stop =>
        rintro D c pre W hD hSp ⟨rfl, pre', x, hv, hf', ht', hfin, hmks⟩ hDef
        have hsome : sewAt T s.en s.mv h f = some x := by
          rw [hAT.out]
          exact find_split (by rw [← hv]; exact hSp) hf' ht'
        have hsm : sewM T s h fz = (sewTo T s h f x, ⟨true, x - (PL : Int), f⟩) := by
          unfold sewM
          rw [hF2.out, hH.out.2.1, sewFrom_some (by omega) hsome]
          show (sewTo T s h f x, (⟨true, x - (placeM h.fr h.fc : Nat), f⟩ : SeamM)) = _
          rw [hPLh.out]
        have hM : Marks (D :: Ds) W := ⟨List.nodup_cons.2 ⟨fun hm => by have := hDs7 D hm; omega, hmk.1⟩, fun D' hD' => by
          rcases List.mem_cons.1 hD' with rfl | hD'
          · exact hDef
          · exact hmks D' hD'⟩
        have hH4 : Hid (SewFin S w (.slice al T.length cl) (w.heap.size + 2) (sewTo T s h f x) ⟨true, x - (PL : Int), f⟩ W ∧ Marks (D :: Ds) W ∧ sewM T s h fz = (sewTo T s h f x, ⟨true, x - (PL : Int), f⟩)) := ⟨hfin, hM, hsm⟩
        clear hsm hM hsome hf' ht' hv hSp hDef hmks hfin
        refine wpIn_wide.2 ?_
        go_wp2_with fail
        rw [hH4.out.2.2, hH.out.2.2]
        refine sew_leave (Ds := D :: Ds) hH4.out.1 hSw hH4.out.2.1 ?_ ?_
        · intro D' hD'
          rcases List.mem_cons.1 hD' with rfl | hD'
          · omega
          · have := hDs D' hD'; have := hz3'.out; omega
        · intro W d0 d1 d2
          simp [results, Tryz.results29, go_sem, d0, d1, d2]
    · obtain rfl : f = N := by omega
      have k60 : wr.cell? ⟨w.heap.size + 1 + 1, 0, none⟩ = some (.bool false) := cell_of ((hbel.block (w.heap.size + 2) (by have := hz3'.out; omega)).trans k6') rfl
      have k61 : wr.cell? ⟨w.heap.size + 1 + 1, 1, none⟩ = some (.int .i64 0) := cell_of ((hbel.block (w.heap.size + 2) (by have := hz3'.out; omega)).trans k6') rfl
      have k62 : wr.cell? ⟨w.heap.size + 1 + 1, 2, none⟩ = some (.int .i64 0) := cell_of ((hbel.block (w.heap.size + 2) (by have := hz3'.out; omega)).trans k6') rfl
      have k6f : ∀ k, wr.frozen? ⟨w.heap.size + 1 + 1, k, none⟩ = false := fun k => frozen_of ((hbel.block (w.heap.size + 2) (by have := hz3'.out; omega)).trans k6')
      have hsm : sewM T s h fz = (s, ⟨false, 0, 0⟩) := by
        unfold sewM
        rw [hF2.out, hH.out.2.1, Nat.sub_self]
        rfl
      have hsmH : Hid _ := hsm
      have hs' := hs.below hbw'
      have hfin := sew_none hs.lt hs' ((hbel.block (w.heap.size + 2) (by have := hz3'.out; omega)).trans k6') hbw'
      have hmk' : ∀ D ∈ Ds, (((wr.setCell ⟨w.heap.size + 1 + 1, 0, none⟩ (.bool false)).setCell ⟨w.heap.size + 1 + 1, 1, none⟩ (.int .i64 0)).setCell ⟨w.heap.size + 1 + 1, 2, none⟩ (.int .i64 0)).heap[D]? = some (.deferred (some [])) := by
        intro D hD
        have hDb : D ≠ w.heap.size + 1 + 1 := by have := hDs D hD; have := hz3'.out; omega
        rw [heap_setCell_other _ _ _ _ _ hDb, heap_setCell_other _ _ _ _ _ hDb, heap_setCell_other _ _ _ _ _ hDb]
        exact hmk.2 D hD
      have hfinH : Hid _ := hfin
      have hmkH : Hid _ := hmk'
      clear hsm hfin hmk'
      go_wp2_with fail
      rw [hsmH.out, hH.out.2.2]
      refine sew_leave hfinH.out hs.lt ⟨hmk.1, hmkH.out⟩ (fun D hD => by have := hDs D hD; have := hz3'.out; omega) ?_
      intro W d0 d1 d2
      simp [results, Tryz.results29, go_sem, d0, d1, d2]
end Go.Proofs.YtcclgodahlinbaaGreatDoor

namespace Go.Proofs.YtcclgodahlinbaaGreatDoor
open Go.RowKit Go
set_option maxRecDepth 100000

/-- what a hunk must be for sew -/
structure HunkOk (h : HunkM) : Prop where
  kinds : ∀ x ∈ h.lines, x.kind = 32 ∨ x.kind = 45 ∨ x.kind = 43
  len : h.lines.length ≤ 1000
  fr : h.fr ≤ 40000
  fc : min h.fc 1 ≤ h.fr
  text : (textL (Dn.newOf h.lines)).length ≤ 10000

theorem sewFrom_at {T : List ByteArray} {ei : Nat} {mv : Int} {h : HunkM} : ∀ n f {g : Nat} {x : Int}, sewFrom T ei mv h f n = some (g, x) → sewAt T ei mv h g = some x := by
  intro n
  induction n with
  | zero => intro f g x e; simp [sewFrom] at e
  | succ n ih =>
    intro f g x e
    unfold sewFrom at e
    cases hx : sewAt T ei mv h f with
    | some y => rw [hx] at e; simp at e; obtain ⟨rfl, rfl⟩ := e; exact hx
    | none => rw [hx] at e; exact ih (f + 1) e

/-- bounds on what is sewn -/
structure SewOk (T : List ByteArray) (s : SewS) (n : Nat) : Prop where
  en : s.en ≤ T.length
  mv : -50000 ≤ s.mv ∧ s.mv ≤ 50000
  t : s.t.length ≤ n * 20000

theorem sewM_ok {T : List ByteArray} {s : SewS} {h : HunkM} {fz n : Nat} (hs : SewOk T s n) (hh : HunkOk h) (hT : T.length ≤ 40000) (hx : (textL T).length ≤ 10000) : SewOk T (sewM T s h fz).1 (n + 1) := by
  unfold sewM
  cases hf : sewFind T s.en s.mv h fz with
  | none => exact ⟨hs.en, hs.mv, Nat.le_trans hs.t (by omega)⟩
  | some p =>
    obtain ⟨f, x⟩ := p
    have hat := sewFrom_at _ _ hf
    have hst := List.find?_some hat
    obtain ⟨h1, h2, _⟩ := of_decide_eq_true hst
    have hk := (keepsK_le h.lines h.lines.length).1
    have hpl : placeM h.fr h.fc ≤ 40000 := by have := hh.fr; unfold placeM; split <;> omega
    have hlen := hh.len
    have e1 := textL_sub T s.en ((x + (min f (keepsK h.lines h.lines.length).1 : Nat)).toNat - s.en)
    have e2 : (textL (pieceF h.lines f)).length ≤ (textL (Dn.newOf h.lines)).length := textL_sub _ _ _
    have e3 := hh.text
    have e4 := hs.t
    refine ⟨?_, ?_, ?_⟩
    · show (x + (min f (keepsK h.lines h.lines.length).1 : Nat)).toNat + (pieceO h.lines f).length ≤ T.length
      omega
    · show -50000 ≤ x - (placeM h.fr h.fc : Nat) ∧ x - (placeM h.fr h.fc : Nat) ≤ 50000
      omega
    · show (s.t ++ _ ++ _).length ≤ _
      rw [List.length_append, List.length_append]
      omega

/-! ### the mirror of Apply -/
def applyFrom (T : List ByteArray) (fz : Nat) (s : SewS) : List HunkM → SewS × List SeamM
  | [] => (s, [])
  | h :: l => let r := sewM T s h fz; let q := applyFrom T fz r.1 l; (q.1, r.2 :: q.2)
def applyK (T : List ByteArray) (fz : Nat) (hs : List HunkM) (k : Nat) : SewS × List SeamM := applyFrom T fz ⟨[], 0, 0⟩ (hs.take k)
theorem applyFrom_snoc (T : List ByteArray) (fz : Nat) (h : HunkM) : ∀ (l : List HunkM) (s : SewS), applyFrom T fz s (l ++ [h]) = ((sewM T (applyFrom T fz s l).1 h fz).1, (applyFrom T fz s l).2 ++ [(sewM T (applyFrom T fz s l).1 h fz).2]) := by
  intro l
  induction l with
  | nil => intro s; rfl
  | cons a l ih => intro s; simp only [List.cons_append, applyFrom, ih]
theorem applyK_succ (T : List ByteArray) (fz : Nat) (hs : List HunkM) (k : Nat) (h : k < hs.length) : applyK T fz hs (k + 1) = ((sewM T (applyK T fz hs k).1 hs[k] fz).1, (applyK T fz hs k).2 ++ [(sewM T (applyK T fz hs k).1 hs[k] fz).2]) := by
  unfold applyK
  rw [List.take_succ_eq_append_getElem h, applyFrom_snoc]
theorem applyK_ok {T : List ByteArray} {fz : Nat} {hs : List HunkM} (hh : ∀ h ∈ hs, HunkOk h) (hT : T.length ≤ 40000) (hx : (textL T).length ≤ 10000) : ∀ k, k ≤ hs.length → SewOk T (applyK T fz hs k).1 k ∧ (applyK T fz hs k).2.length = k := by
  intro k
  induction k with
  | zero => intro _; exact ⟨⟨Nat.zero_le _, (show (-50000 : Int) ≤ 0 ∧ (0 : Int) ≤ 50000 by decide), Nat.zero_le _⟩, rfl⟩
  | succ k ih =>
    intro hk
    rw [applyK_succ T fz hs k hk]
    obtain ⟨i1, i2⟩ := ih (by omega)
    exact ⟨sewM_ok i1 (hh _ (List.getElem_mem _)) hT hx, by rw [List.length_append, i2]; rfl⟩
def applyT (T : List ByteArray) (fz : Nat) (hs : List HunkM) : ByteArray := ⟨((applyK T fz hs hs.length).1.t ++ textL (T.drop (applyK T fz hs hs.length).1.en)).toArray⟩
def applyS (T : List ByteArray) (fz : Nat) (hs : List HunkM) : List SeamM := (applyK T fz hs hs.length).2

def seamCells (l : List SeamM) : List Value := l.flatMap fun m => [.bool m.done, .int .i64 m.at', .int .i64 (m.fz : Nat)]
theorem seamCells_append (a b : List SeamM) : seamCells (a ++ b) = seamCells a ++ seamCells b := by unfold seamCells; rw [List.flatMap_append]
theorem info_seam : (Tryz.prog.info? 63).map (fun i => (i.zero, i.size, i.bytes)) = some (some (.agg #[.bool false, .int .i64 0, .int .i64 0]), 3, 24) := by kernel_rfl

theorem SewA.keep {S : Nat} {vl : Value} {t : List UInt8} {en mv : Int} {W W' : World} {row : Option Nat} (h : SewA S vl t en mv W) (hg : W.grownBy W' row) (hr : ∀ r, row = some r → ∃ c fz, W.heap[r]? = some (.cells c 63 fz)) : SewA S vl t en mv W' := by
  obtain ⟨ad, vb, h⟩ := h
  have hS : some S ≠ row := by
    intro e
    obtain ⟨c, z, ho⟩ := hr S e.symm
    rw [h.blk] at ho; injection ho with ho; injection ho with _ e2; exact absurd e2 (by decide)
  refine ⟨ad, vb, (hg.block S h.lt hS).trans h.blk, h.adr, h.own.kept hg ?_⟩
  cases hb : vb.ownBlock with
  | none => exact .inl rfl
  | some g =>
    right
    intro e
    obtain ⟨cur, hc⟩ := owns_block h.own hb
    obtain ⟨c, z, ho⟩ := hr g e.symm
    rw [hc] at ho; injection ho with ho; injection ho with _ e2; exact absurd e2 (by decide)
theorem RowS.keep {v : Value} {L : List ByteArray} {W W' : World} {row : Option Nat} (h : RowS W v L) (hg : W.grownBy W' row) (hr : ∀ r, row = some r → ∃ c fz, W.heap[r]? = some (.cells c 63 fz)) : RowS W' v L :=
  h.of_heap fun b cur fr hb => (hg.block b (Array.getElem?_eq_some_iff.1 hb).1 (fun e => by
    obtain ⟨c, z, ho⟩ := hr b e.symm
    rw [hb] at ho; injection ho with ho; injection ho with _ e2; exact absurd e2 (by decide))).trans hb

theorem owns_others {S base n : Nat} {w w' : World} {v : Value} {xs : List Value} {cs : Array Value} {fr : Nat × Nat} (h : w.ownsRow base 63 3 v n xs) (hS : w.heap[S]? = some (.cells cs 76 fr)) (hk : Lib.OthersKept 5 (some S) w w') : w'.ownsRow base 63 3 v n xs := by
  obtain ⟨a, b⟩ := h
  refine ⟨a, ?_⟩
  rcases b with b | ⟨g, cap, cur, e, hb, hg, r⟩
  · exact .inl b
  · refine .inr ⟨g, cap, cur, e, hb, hk g _ hg ?_ ?_, r⟩
    · rintro ⟨⟩; rw [hS] at hg; injection hg with hg; injection hg with _ e2; exact absurd e2 (by decide)
    · intro c z e2; injection e2 with _ e2; exact absurd e2 (by decide)

/-- linesOf, as a row of strings -/
theorem linesOf_row (s : ByteArray) (m : Int) (w : World) (hs : s.size < 4294967281) (hm : w.cell? ⟨0, 0, none⟩ = some (.int .i64 m)) :
    Calls Tryz.prog 26 #[.string s] w fun e w' => ∃ a c, e = .returned (.slice a (linesB s).length c) ∧ RowS w' (.slice a (linesB s).length c) (linesB s) ∧ Below w.heap.size w w' := by
  by_cases h0 : s.toList.isEmpty = true
  · have hl : linesB s = [] := by unfold linesB; rw [if_pos h0]
    rw [hl]
    have := empty_of_toList h0
    subst this
    refine (linesOf_nil w).mono ?_
    rintro e w' ⟨rfl, rfl⟩
    exact ⟨none, 0, rfl, .inl ⟨rfl, none, 0, rfl⟩, Below.refl _ _⟩
  · replace h0 : s.toList.isEmpty = false := by simpa using h0
    have hl := linesB_length s h0
    refine (linesOf_some s m w hs h0 hm).mono ?_
    rintro e w' ⟨rfl, rfl⟩
    refine ⟨_, _, by rw [hl], .inr ⟨w.heap.size, 0, _, _, _, rfl, by omega, heap_alloc_new w _, fun i hi => ?_⟩, (Below.refl _ _).alloc (Nat.le_refl _) _⟩
    simp [hi, List.getD]
end Go.Proofs.YtcclgodahlinbaaGreatDoor

namespace Go.Proofs.YtcclgodahlinbaaGreatDoor
open Go.RowKit Go
set_option maxRecDepth 100000

set_option maxHeartbeats 2000000 in
theorem apply_ok {s : ByteArray} {hs : List HunkM} {fz : Nat} {a : Option Addr} {cap : Nat} {m : Int} {w : World} (h1 : isTextB s = true) (h2 : largeB s = false) (hf : fz ≤ 10)
    (hH : HunksAt w.heap.size w (.slice a hs.length cap) hs) (hok : rightM 0 0 hs = true) (hL : hs.length ≤ 1000) (hsz : s.size < 4294967281) (hm : w.cell? ⟨0, 0, none⟩ = some (.int .i64 m)) (hm0 : 0 < w.heap.size)
    (hh : ∀ h ∈ hs, HunkOk h) (hT : (linesB s).length ≤ 40000) (hx : (textL (linesB s)).length ≤ 10000) :
    Calls Tryz.prog 14 #[.string s, .agg #[.slice a hs.length cap], .int .i64 fz] w fun e w' =>
      ∃ v, e = .returned (.tuple #[.string (applyT (linesB s) fz hs), v, .int .i64 0]) ∧ w'.ownsRow w.heap.size 63 3 v hs.length (seamCells (applyS (linesB s) fz hs)) ∧ Below w.heap.size w w' := by
  obtain ⟨i0, hi, hz0, hz1, hz2⟩ := info_parts info_seam
  have hA := fun k hk => applyK_ok (fz := fz) hh hT hx k hk
  have hw0 : Below w.heap.size w (w.alloc (.cells #[.slice a hs.length cap] 32)) := (Below.refl _ _).alloc (Nat.le_refl _) _
  have hp0 := heap_alloc_new w (.cells #[.slice a hs.length cap] 32)
  have hc := checkApply_yes (fz := fz) h1 h2 hf ((hH.below hw0).mono (by simp : w.heap.size ≤ (w.alloc (.cells #[.slice a hs.length cap] 32)).heap.size)) hok hL hsz
  have z0 : (w.alloc (.cells #[.slice a hs.length cap] 32)).heap.size = w.heap.size + 1 := by simp
  have p0 : (w.alloc (.cells #[.slice a hs.length cap] 32)).cell? ⟨w.heap.size, 0, none⟩ = some (.slice a hs.length cap) := cell_of hp0 rfl
  go_enter Tryz.func14, Tryz.ntmps14
  go_wp2_with fail
  generalize w.alloc (.cells #[.slice a hs.length cap] 32) = W0 at *
  refine hc.mono ?_
  rintro e w1 ⟨rfl, b1⟩
  have hb1 : Below w.heap.size w w1 := hw0.trans (b1.mono (by omega))
  have hz1' := b1.size
  have hl := linesOf_row s m w1 hsz ((hb1.cell (p := ⟨0, 0, none⟩) hm0).trans hm)
  go_wp2_with (go_at_call 26; refine hl.mono ?_; rintro e w2 ⟨al, cl, rfl, hrow, b2⟩; have hz2' := b2.size; have hlt2 : w.heap.size < w2.heap.size := by omega
               have q0 : w2.cell? ⟨w.heap.size, 0, none⟩ = some (.slice a hs.length cap) := (b2.cell (p := ⟨w.heap.size, 0, none⟩) (by show w.heap.size < _; omega)).trans ((b1.cell (p := ⟨w.heap.size, 0, none⟩) (by show w.heap.size < _; omega)).trans p0)
               have q0' := fun ob => (World.cell?_of_block (a := ⟨w.heap.size, 0, none⟩) (Below.heap_alloc w2 ob w.heap.size hlt2)).trans q0)
  generalize hTd : linesB s = T at *
  have hS0 : SewA w2.heap.size (.slice al T.length cl) [] (0 : Nat) 0 (w2.alloc (.cells #[.slice al T.length cl, .pointer none, .slice none 0 0, .int .i64 0, .int .i64 0] 76)) :=
    ⟨.pointer none, .slice none 0 0, heap_alloc_new w2 _, .inl rfl, World.ownsRow_nil _ _ _ _⟩
  have hR0 := hrow.alloc (.cells #[.slice al T.length cl, .pointer none, .slice none 0 0, .int .i64 0, .int .i64 0] 76)
  have hb2' : Below w.heap.size w w2 := hb1.trans (b2.mono (by omega))
  have hB0 := hb2'.alloc (by omega) (.cells #[.slice al T.length cl, .pointer none, .slice none 0 0, .int .i64 0, .int .i64 0] 76)
  go_loopg [11, 27] hs.length (fun g vs t wr => ∃ k : Nat, g = hs.length - k ∧ k ≤ hs.length ∧ t = .int .i64 k ∧ SewA w2.heap.size (.slice al T.length cl) (applyK T fz hs k).1.t ((applyK T fz hs k).1.en : Nat) (applyK T fz hs k).1.mv wr ∧ RowS wr (.slice al T.length cl) T ∧ wr.ownsRow w.heap.size 63 3 vs k (seamCells (applyK T fz hs k).2) ∧ Below w.heap.size w wr)
  case atStart => exact ⟨0, by omega, by omega, rfl, hS0, hR0, World.ownsRow_nil _ _ _ _, hB0⟩
  case round =>
    obtain ⟨k, hgk, hkl, rfl, hsew, hrw, hown, hbel⟩ := hrel
    clear hS0 hR0 hB0 q0 q0' hl hc
    have hSw := hsew.lt
    have hszr := hbel.size
    by_cases hkk : k < hs.length
    · have hkI : (k : Int) < hs.length := by omega
      obtain ⟨b, a', c', rfl, hbB, r0, r1, r2, r3, r4, hst⟩ := (hH.below hbel).at hkk
      have hho := hh _ (List.getElem_mem hkk)
      have hap := applyK_succ T fz hs k hkk
      obtain ⟨hok1, hlk⟩ := hA k hkl
      generalize applyK T fz hs k = AK at hsew hown hap hok1 hlk
      generalize hs[k] = h at r0 r1 r2 r3 r4 hst hho hap
      have hAH : Hid (gk = hs.length - k ∧ applyK T fz hs (k + 1) = ((sewM T AK.1 h fz).1, AK.2 ++ [(sewM T AK.1 h fz).2])) := ⟨hgk, hap⟩
      clear hgk hap
      have hbx := Below.heap_alloc wr (.cells #[.int .i64 (h.fr : Int), .int .i64 (h.fc : Int), .int .i64 (h.tr : Int), .int .i64 (h.tc : Int), .slice a' h.lines.length c'] 61)
      have hsew1 := hsew.alloc (.cells #[.int .i64 (h.fr : Int), .int .i64 (h.fc : Int), .int .i64 (h.tr : Int), .int .i64 (h.tc : Int), .slice a' h.lines.length c'] 61)
      have hrw1 := hrw.alloc (.cells #[.int .i64 (h.fr : Int), .int .i64 (h.fc : Int), .int .i64 (h.tr : Int), .int .i64 (h.tc : Int), .slice a' h.lines.length c'] 61)
      have hown1 := hown.alloc (.cells #[.int .i64 (h.fr : Int), .int .i64 (h.fc : Int), .int .i64 (h.tr : Int), .int .i64 (h.tc : Int), .slice a' h.lines.length c'] 61)
      have hbel1 := hbel.alloc hszr (.cells #[.int .i64 (h.fr : Int), .int .i64 (h.fc : Int), .int .i64 (h.tr : Int), .int .i64 (h.tc : Int), .slice a' h.lines.length c'] 61)
      have hst1 := (hst.below ((Below.refl w.heap.size wr).alloc hszr (.cells #[.int .i64 (h.fr : Int), .int .i64 (h.fc : Int), .int .i64 (h.tr : Int), .int .i64 (h.tc : Int), .slice a' h.lines.length c'] 61))).mono (B' := (wr.alloc (.cells #[.int .i64 (h.fr : Int), .int .i64 (h.fc : Int), .int .i64 (h.tr : Int), .int .i64 (h.tc : Int), .slice a' h.lines.length c'] 61)).heap.size) (by simp; omega)
      have hk20 : k * 20000 ≤ 20000000 := by omega
      have hse := sew_any (fz := fz) hsew1 hrw1 hst1 hho.kinds hho.len hho.fr hho.fc (by omega) hok1.mv (by have := hok1.t; have := hho.text; omega) (by omega)
      obtain ⟨ao, co, rfl⟩ := owns_isSlice hown
      have hsz1 : (wr.alloc (.cells #[.int .i64 (h.fr : Int), .int .i64 (h.fc : Int), .int .i64 (h.tr : Int), .int .i64 (h.tc : Int), .slice a' h.lines.length c'] 61)).heap.size = wr.heap.size + 1 := by simp
      go_wp2_with fail
      generalize wr.alloc (.cells #[.int .i64 (h.fr : Int), .int .i64 (h.fc : Int), .int .i64 (h.tr : Int), .int .i64 (h.tc : Int), .slice a' h.lines.length c'] 61) = W1 at hsew1 hrw1 hown1 hbel1 hse hsz1 ⊢
      refine hse.mono ?_
      clear hse hbx hst hst1
      generalize hR : sewM T AK.1 h fz = R at *
      obtain ⟨rs, ⟨rd, ra, rf⟩⟩ := R
      rintro e w5 ⟨rfl, hs5, hb5, ho5⟩
      obtain ⟨cs1, hcs1⟩ := hsew1.tag
      have hrw5 := hrw1.kept hcs1 ho5
      have hown5 := owns_others hown1 hcs1 ho5
      have hz5 := hb5.size
      have hbel5 : Below w.heap.size w w5 := hbel1.trans (hb5.mono (by omega))
      have hone : ∀ u ∈ [Value.bool rd, Value.int .i64 ra, Value.int .i64 (rf : Nat)], u.oneCell' = true := by intro u hu; simp at hu; rcases hu with rfl | rfl | rfl <;> rfl
      have hm1 : k + 1 ≤ maxLen := by unfold maxLen; omega
      have hm2 : (k + 1) * 24 ≤ 140737488355328 := by omega
      have hw5 := hbel5.size
      dsimp only at hs5 ⊢
      clear hrw hown hsew hsew1 hrw1 hown1 hcs1
      go_wp2_with (at_builtin; refine wpList_append_own2 rfl (.tmp 31) (.tmp 35) 37 rfl w.heap.size 63 i0 _ 3 24 Tryz.underlying37 hi hz0 hz1 hz2 rfl (by decide) (.slice ao k co) k (seamCells AK.2) rfl (hown5.alloc _) ⟨w5.heap.size, 0, none⟩ 1 1 [.bool rd, .int .i64 ra, .int .i64 (rf : Nat)] rfl rfl (cells_new w5 _ _) hone hm1 hm2 (by simp; omega) ?_; intro vs' w6 hown6 hgrow6 hnew6)
      go_roundg (hs.length - (k + 1))
      · have e1 := hAH.out.2
        have hk := owns_kind (hown5.alloc (.cells #[.bool rd, .int .i64 ra, .int .i64 (rf : Nat)] 63))
        refine ⟨k + 1, rfl, by omega, by push_cast; rfl, ?_, (hrw5.alloc _).keep hgrow6 hk, ?_, (hbel5.alloc (by omega) _).grown hgrow6 (by simp; omega) (fun j e => (hown5.lt j e).1)⟩
        · rw [e1]; exact (hs5.alloc _).keep hgrow6 hk
        · rw [e1, seamCells_append]; exact hown6
      · have := hAH.out.1; omega
    · obtain rfl : k = hs.length := by omega
      obtain ⟨hok1, hlk⟩ := hA _ hkl
      have htx := sewtext_any hsew hrw rfl hok1.en (by have := hok1.t; omega)
      have hT2 : Hid (applyT (linesB s) fz hs = ⟨((applyK T fz hs hs.length).1.t ++ textL (T.drop (applyK T fz hs hs.length).1.en)).toArray⟩ ∧ applyS (linesB s) fz hs = (applyK T fz hs hs.length).2) := by rw [hTd]; exact ⟨rfl, rfl⟩
      have hownh : Hid _ := hown
      clear hgk
      go_wp2_with (go_at_call 30; refine htx.mono ?_; rintro e w5 ⟨rfl, hb5, ho5⟩)
      obtain ⟨ao, co, rfl⟩ := owns_isSlice hownh.out
      obtain ⟨cs1, hcs1⟩ := hsew.tag
      have hown5 := owns_others hownh.out hcs1 ho5
      refine bodyPost_ret (v := .tuple #[.string (applyT (linesB s) fz hs), .slice ao hs.length co, .int .i64 0]) ?_ rfl ⟨_, rfl, ?_, hbel.trans (hb5.mono (by omega))⟩
      · rw [hT2.out.1]
        simp [results, Tryz.results14, go_sem]
      · rw [hT2.out.2]; exact hown5
end Go.Proofs.YtcclgodahlinbaaGreatDoor

namespace Go.Proofs.YtcclgodahlinbaaGreatDoor
open Go.RowKit Go
set_option maxRecDepth 100000

/-- which of n things a raw number speaks of -/
def pickN (c : Int) (n : Nat) : Nat := ((if c < 0 then -(c + 1) else c) % n).toNat
theorem pickN_lt (c : Int) {n : Nat} (h : 0 < n) : pickN c n < n := by
  unfold pickN
  have h1 := Int.emod_nonneg (if c < 0 then -(c + 1) else c) (b := (n : Int)) (by omega)
  have h2 := Int.emod_lt_of_pos (if c < 0 then -(c + 1) else c) (b := (n : Int)) (by omega)
  omega

set_option maxHeartbeats 400000 in
theorem pick_any (c : Int) (n : Nat) (w : World) (hc : -9223372036854775808 ≤ c ∧ c ≤ 9223372036854775807) (hn : 0 < n) (hn2 : n ≤ 1000) :
    Calls Tryz.prog 13 #[.int .i64 c, .int .i64 (n : Int)] w fun e w' => e = .returned (.int .i64 (pickN c n : Nat)) ∧ w = w' := by
  have hne : ¬ ((n : Int) = 0) := by omega
  by_cases h : c < 0
  · have e1 : IntKind.i64.wrap (c + 1) = c + 1 := by rw [IntKind.wrap_i64]; omega
    have e2 : IntKind.i64.wrap (-(c + 1)) = -(c + 1) := by rw [IntKind.wrap_i64]; omega
    have h1 := Int.emod_nonneg (-(c + 1)) (b := (n : Int)) (by omega)
    have h2 := Int.emod_lt_of_pos (-(c + 1)) (b := (n : Int)) (by omega)
    have e3 : ((pickN c n : Nat) : Int) = -(c + 1) % n := by unfold pickN; rw [if_pos h]; omega
    rw [e3]
    go_enter Tryz.func13, Tryz.ntmps13
    go_wp2
    go_ret
    refine ⟨ret_int ?_, rfl⟩
    rw [← Int.neg_tmod, Int.tmod_eq_emod_of_nonneg (by omega)]
  · have h1 := Int.emod_nonneg c (b := (n : Int)) (by omega)
    have h2 := Int.emod_lt_of_pos c (b := (n : Int)) (by omega)
    have e3 : ((pickN c n : Nat) : Int) = c % n := by unfold pickN; rw [if_neg h]; omega
    rw [e3]
    go_enter Tryz.func13, Tryz.ntmps13
    go_wp2
    go_ret
    exact ⟨rfl, rfl⟩

/-- lines joined, as a string -/
def textB (l : List ByteArray) : ByteArray := ⟨(textL l).toArray⟩
theorem textB_take (l : List ByteArray) (k : Nat) (h : k < l.length) : textB (l.take k) ++ l.getD k ByteArray.empty ++ ⟨#[10]⟩ = textB (l.take (k + 1)) := by
  apply ByteArray.ext
  unfold textB
  rw [textL_take l k h]
  simp [ByteArray.data_append]
set_option maxHeartbeats 1000000 in
theorem ktext_any {w : World} {a : Option Addr} {c : Nat} {L : List ByteArray} (hR : RowS w (.slice a L.length c) L) (hl : (textL L).length ≤ 100000) :
    Calls Tryz.prog 11 #[.slice a L.length c] w fun e w' => e = .returned (.string (textB L)) ∧ w = w' := by
  have hLl := textL_len L
  go_enter Tryz.func11, Tryz.ntmps11
  go_wp2
  go_loopg [3, 4] L.length (fun g s x wr => ∃ k : Nat, g = L.length - k ∧ k ≤ L.length ∧ x = .int .i64 k ∧ s = .string (textB (L.take k)) ∧ wr = w)
  case atStart => exact ⟨0, by omega, by omega, rfl, rfl, rfl⟩
  case round =>
    obtain ⟨k, hgk, hkl, rfl, rfl, rfl⟩ := hrel
    by_cases hkk : k < L.length
    · have hkI : (k : Int) < L.length := by omega
      obtain ⟨b, off, rfl, hc⟩ := hR.at hkk
      have htk := textB_take L k hkk
      have hle := textL_take_le L (k + 1)
      rw [textL_take L k hkk] at hle
      simp only [List.length_append, List.length_cons, List.length_nil] at hle
      have hsz : (textB (L.take k)).size = (textL (L.take k)).length := by unfold textB; rfl
      generalize L.getD k ByteArray.empty = s at hc htk hle
      have hss : s.data.toList.length = s.size := rfl
      have hA : Hid (gk = L.length - k ∧ textB (L.take k) ++ s ++ ⟨#[10]⟩ = textB (L.take (k + 1))) := ⟨hgk, htk⟩
      clear hgk htk
      go_wp2_with fail
      go_roundg (L.length - (k + 1))
      · exact ⟨k + 1, rfl, by omega, by push_cast; rfl, by rw [hA.out.2], rfl⟩
      · have := hA.out.1; omega
    · obtain rfl : k = L.length := by omega
      go_wp2
      go_ret
      refine ⟨?_, rfl⟩
      show Ending.returned (.string (textB (L.take L.length))) = _
      rw [List.take_length]
end Go.Proofs.YtcclgodahlinbaaGreatDoor

namespace Go.Proofs.YtcclgodahlinbaaGreatDoor
open Go.RowKit Go
set_option maxRecDepth 100000

theorem index_nl : ∀ (a r : List UInt8), (10 : UInt8) ∉ a → Lib.index (a ++ 10 :: r) [10] = (a.length : Int)
  | [], r, _ => by rw [List.nil_append, Lib.index]; simp [List.isPrefixOf]
  | b :: a, r, h => by
    have hb : b ≠ 10 := by intro e; exact h (by simp [e])
    have ih := index_nl a r (fun e => h (List.mem_cons_of_mem _ e))
    have hp : ([10] : List UInt8).isPrefixOf (b :: (a ++ 10 :: r)) = false := by simp [List.isPrefixOf, Ne.symm hb]
    rw [List.cons_append, Lib.index, hp, ih]
    simp
theorem index_none : ∀ (a : List UInt8), (10 : UInt8) ∉ a → Lib.index a [10] = -1
  | [], _ => by simp [Lib.index]
  | b :: a, h => by
    have hb : b ≠ 10 := by intro e; exact h (by simp [e])
    have ih := index_none a (fun e => h (List.mem_cons_of_mem _ e))
    have hp : ([10] : List UInt8).isPrefixOf (b :: a) = false := by simp [List.isPrefixOf, Ne.symm hb]
    rw [Lib.index, hp, ih]
    simp

/-- lines with signs between them alone -/
def joinL : List (List UInt8) → List UInt8
  | [] => []
  | [a] => a
  | a :: b :: l => a ++ 10 :: joinL (b :: l)
theorem joinL_count : ∀ (L : List (List UInt8)), (∀ a ∈ L, (10 : UInt8) ∉ a) → L ≠ [] → (joinL L).count 10 + 1 = L.length
  | [], _, h => absurd rfl h
  | [a], h, _ => by simp [joinL, List.count_eq_zero.2 (h a (by simp))]
  | a :: b :: l, h, _ => by
    have ih := joinL_count (b :: l) (fun x hx => h x (List.mem_cons_of_mem _ hx)) (by simp)
    rw [joinL, List.count_append, List.count_cons_self, List.count_eq_zero.2 (h a (by simp))]
    simp only [List.length_cons] at ih ⊢
    omega
theorem splitK_join : ∀ (L : List (List UInt8)), (∀ a ∈ L, (10 : UInt8) ∉ a) → L ≠ [] → ∀ k, k + 1 = L.length → Lib.splitK [10] 0 k (joinL L) = L
  | [], _, h, _, _ => absurd rfl h
  | [a], _, _, k, hk => by
    obtain rfl : k = 0 := by simpa using hk
    rfl
  | a :: b :: l, h, _, k, hk => by
    cases k with
    | zero => simp at hk
    | succ k =>
      have ih := splitK_join (b :: l) (fun x hx => h x (List.mem_cons_of_mem _ hx)) (by simp) k (by simpa using hk)
      have hi := index_nl a (joinL (b :: l)) (h a (by simp))
      rw [joinL, Lib.splitK, hi, if_neg (by simp)]
      have e1 : (a ++ 10 :: joinL (b :: l)).take (((a.length : Int)).toNat + 0) = a := by simp
      have e2 : (a ++ 10 :: joinL (b :: l)).drop (((a.length : Int)).toNat + [(10 : UInt8)].length) = joinL (b :: l) := by
        rw [Int.toNat_natCast, List.drop_append, List.drop_eq_nil_of_le (by simp)]
        simp
      rw [e1, e2, ih]
theorem textL_join : ∀ (L : List ByteArray), L ≠ [] → textL L = joinL (L.map (·.data.toList)) ++ [10]
  | [], h => absurd rfl h
  | [a], _ => by simp [textL, joinL]
  | a :: b :: l, _ => by
    have ih := textL_join (b :: l) (by simp)
    have e : textL (a :: b :: l) = (a.data.toList ++ [10]) ++ textL (b :: l) := rfl
    rw [e, ih]
    simp [joinL]
theorem bytes_inj {a b : List ByteArray} (h : a.map (·.data.toList) = b.map (·.data.toList)) : a = b := by
  refine List.map_inj_right (f := fun s : ByteArray => s.data.toList) ?_ |>.1 h
  intro x y e
  apply ByteArray.ext
  exact Array.toList_inj.1 e
/-- no sign of a line's end -/
def Plain (L : List ByteArray) : Prop := ∀ s ∈ L, (10 : UInt8) ∉ s.data.toList
theorem linesB_text {L : List ByteArray} (h : Plain L) : linesB (textB L) = L := by
  by_cases h0 : L = []
  · subst h0; simp [linesB, textB, textL]
  · have hj := textL_join L h0
    have hne : (textB L).toList.isEmpty = false := by
      unfold textB
      rw [hj]
      simp
    have ht : trimB (textB L) = ⟨(joinL (L.map (·.data.toList))).toArray⟩ := by
      unfold trimB textB Lib.trimSuffix Lib.hasSuffix
      simp only [hj]
      rw [if_pos (by simp)]
      simp
    unfold linesB
    rw [hne, if_neg (by simp), ht]
    apply bytes_inj
    have hP : ∀ a ∈ L.map (·.data.toList), (10 : UInt8) ∉ a := by
      intro a ha
      obtain ⟨s, hs, rfl⟩ := List.mem_map.1 ha
      exact h s hs
    have hc := joinL_count _ hP (by simp [h0])
    rw [Lib.splitB_data]
    have e3 : Lib.countB ⟨(joinL (L.map (·.data.toList))).toArray⟩ nl = (joinL (L.map (·.data.toList))).count 10 := by
      show Lib.count _ _ = _
      exact Lib.count_one 10 _
    rw [e3]
    exact splitK_join _ hP (by simp [h0]) _ hc
theorem textL_count {L : List ByteArray} (h : Plain L) : (textL L).count 10 = L.length := by
  by_cases h0 : L = []
  · subst h0; rfl
  · have hP : ∀ a ∈ L.map (·.data.toList), (10 : UInt8) ∉ a := by
      intro a ha
      obtain ⟨s, hs, rfl⟩ := List.mem_map.1 ha
      exact h s hs
    have hc := joinL_count _ hP (by simp [h0])
    rw [textL_join L h0, List.count_append]
    simp at hc ⊢
    omega
theorem isTextB_text (L : List ByteArray) : isTextB (textB L) = true := by
  by_cases h0 : L = []
  · subst h0; simp [isTextB, textB, textL]
  · unfold isTextB textB Lib.hasSuffix
    simp only [textL_join L h0]
    simp
theorem largeB_text {L : List ByteArray} (h : Plain L) (h1 : L.length ≤ 200) (h2 : (textL L).length ≤ 8000) : largeB (textB L) = false := by
  have e1 : (textB L).size = (textL L).length := rfl
  have e2 : Lib.countByte (textB L).data.toList 10 = L.length := textL_count h
  unfold largeB
  rw [e1, e2]
  simp
  omega
theorem checkB_text {L R : List ByteArray} {c : Nat} (h : Plain L) (h1 : L.length ≤ 200) (h2 : (textL L).length ≤ 8000) (g : Plain R) (g1 : R.length ≤ 200) (g2 : (textL R).length ≤ 8000) (hc : c ≤ 10) : checkB (textB L) (textB R) c = 0 := by
  unfold checkB
  rw [isTextB_text, isTextB_text, largeB_text h h1 h2, largeB_text g g1 g2]
  simp
  omega
end Go.Proofs.YtcclgodahlinbaaGreatDoor

namespace Go.Proofs.YtcclgodahlinbaaGreatDoor
open Go.RowKit Go
set_option maxRecDepth 100000

theorem diff_at {old fresh : ByteArray} {c : Nat} {m : Int} {w : World} (hch : checkB old fresh c = 0) (h1 : old.size < 4294967281) (h2 : fresh.size < 4294967281) (hm : w.cell? ⟨0, 0, none⟩ = some (.int .i64 m)) :
    Calls Tryz.prog 12 #[.string old, .string fresh, .int .i64 c] w fun e w' =>
      ∃ a cap, e = .returned (.tuple #[.agg #[.slice a (diffM old fresh c).length cap], .int .i64 0]) ∧ HunksAt w'.heap.size w' (.slice a (diffM old fresh c).length cap) (diffM old fresh c) ∧ Below w.heap.size w w' := by
  refine (diff_ok hch h1 h2 hm).mono ?_
  rintro e w' ⟨v, rfl, hv, hso, hmap, hb⟩
  have hH := HunksAt.of_owns hso
  rw [hmap] at hH
  obtain ⟨a, cap, rfl⟩ := hH.slice
  exact ⟨a, cap, rfl, hH, hb⟩

/-- seams in memory -/
def SeamsAt (w : World) (v : Value) (l : List SeamM) : Prop := (l = [] ∧ ∃ a c, v = .slice a 0 c) ∨ ∃ g cap, v = .slice (some ⟨g, 0, none⟩) l.length cap ∧ g < w.heap.size ∧
  ∀ i (h : i < l.length), w.cell? ⟨g, i * 3, none⟩ = some (.bool l[i].done) ∧ w.cell? ⟨g, i * 3 + 1, none⟩ = some (.int .i64 l[i].at') ∧ w.cell? ⟨g, i * 3 + 2, none⟩ = some (.int .i64 (l[i].fz : Nat))
theorem seamCells_length (l : List SeamM) : (seamCells l).length = l.length * 3 := by
  induction l with
  | nil => rfl
  | cons a l ih => have e : seamCells (a :: l) = [.bool a.done, .int .i64 a.at', .int .i64 (a.fz : Nat)] ++ seamCells l := rfl
                   rw [e, List.length_append, ih]; simp; omega
theorem seamCells_get (l : List SeamM) : ∀ i (h : i < l.length), (seamCells l)[i * 3]? = some (.bool l[i].done) ∧ (seamCells l)[i * 3 + 1]? = some (.int .i64 l[i].at') ∧ (seamCells l)[i * 3 + 2]? = some (.int .i64 (l[i].fz : Nat)) := by
  induction l with
  | nil => intro i h; simp at h
  | cons a l ih =>
    intro i h
    have e : seamCells (a :: l) = [.bool a.done, .int .i64 a.at', .int .i64 (a.fz : Nat)] ++ seamCells l := rfl
    rw [e]
    cases i with
    | zero => exact ⟨rfl, rfl, rfl⟩
    | succ i =>
      have := ih i (by simpa using h)
      refine ⟨?_, ?_, ?_⟩
      · rw [List.getElem?_append_right (by simp; omega)]
        simpa [Nat.succ_mul, show (i + 1) * 3 - 3 = i * 3 by omega] using this.1
      · rw [List.getElem?_append_right (by simp; omega)]
        simpa [show (i + 1) * 3 + 1 - 3 = i * 3 + 1 by omega] using this.2.1
      · rw [List.getElem?_append_right (by simp; omega)]
        simpa [show (i + 1) * 3 + 2 - 3 = i * 3 + 2 by omega] using this.2.2
theorem SeamsAt.of_owns {base : Nat} {w : World} {v : Value} {l : List SeamM} (h : w.ownsRow base 63 3 v l.length (seamCells l)) : SeamsAt w v l := by
  rcases h.2 with ⟨e, h0⟩ | ⟨g, cap, cur, e, _, hg, h1, h2, h3, h4⟩
  · exact .inl ⟨List.eq_nil_of_length_eq_zero h0, _, _, e⟩
  · refine .inr ⟨g, cap, e, (Array.getElem?_eq_some_iff.1 hg).1, fun i hi => ?_⟩
    have hget := seamCells_get l i hi
    have key : ∀ j v, (seamCells l)[j]? = some v → w.cell? ⟨g, j, none⟩ = some v := by
      intro j v hj
      rw [← h4, List.getElem?_take] at hj
      split at hj
      · exact cell_of hg (by simpa using hj)
      · cases hj
    exact ⟨key _ _ hget.1, key _ _ hget.2.1, key _ _ hget.2.2⟩

theorem applyS_length {T : List ByteArray} {fz : Nat} {hs : List HunkM} (hh : ∀ h ∈ hs, HunkOk h) (hT : T.length ≤ 40000) (hx : (textL T).length ≤ 10000) : (applyS T fz hs).length = hs.length := (applyK_ok hh hT hx hs.length (Nat.le_refl _)).2

theorem apply_at {s : ByteArray} {hs : List HunkM} {fz : Nat} {a : Option Addr} {cap : Nat} {m : Int} {w : World} (h1 : isTextB s = true) (h2 : largeB s = false) (hf : fz ≤ 10)
    (hH : HunksAt w.heap.size w (.slice a hs.length cap) hs) (hok : rightM 0 0 hs = true) (hL : hs.length ≤ 1000) (hsz : s.size < 4294967281) (hm : w.cell? ⟨0, 0, none⟩ = some (.int .i64 m)) (hm0 : 0 < w.heap.size)
    (hh : ∀ h ∈ hs, HunkOk h) (hT : (linesB s).length ≤ 40000) (hx : (textL (linesB s)).length ≤ 10000) :
    Calls Tryz.prog 14 #[.string s, .agg #[.slice a hs.length cap], .int .i64 fz] w fun e w' =>
      ∃ a' c', e = .returned (.tuple #[.string (applyT (linesB s) fz hs), .slice a' hs.length c', .int .i64 0]) ∧ SeamsAt w' (.slice a' hs.length c') (applyS (linesB s) fz hs) ∧ Below w.heap.size w w' := by
  have hl := applyS_length (fz := fz) hh hT hx
  refine (apply_ok h1 h2 hf hH hok hL hsz hm hm0 hh hT hx).mono ?_
  rintro e w' ⟨v, rfl, hown, hb⟩
  obtain ⟨a', c', rfl⟩ := owns_isSlice hown
  rw [← hl] at hown
  have := SeamsAt.of_owns hown
  rw [hl] at this
  exact ⟨a', c', rfl, this, hb⟩

/-- hunks and texts, ready to be reckoned -/
def hunkOkB (h : HunkM) : Bool := h.lines.all (fun x => x.kind == 32 || x.kind == 45 || x.kind == 43) && decide (h.lines.length ≤ 1000) && decide (h.fr ≤ 40000) && decide (min h.fc 1 ≤ h.fr) && decide ((textL (Dn.newOf h.lines)).length ≤ 10000)
theorem hunkOk_of {h : HunkM} (e : hunkOkB h = true) : HunkOk h := by
  unfold hunkOkB at e
  simp only [Bool.and_eq_true, decide_eq_true_eq, List.all_eq_true, Bool.or_eq_true, beq_iff_eq] at e
  exact ⟨fun x hx => by have := e.1.1.1.1 x hx; omega, e.1.1.1.2, e.1.1.2, e.1.2, e.2⟩
/-- everything that Apply asks of a text and hunks, as one bool -/
def applyOkB (s : ByteArray) (hs : List HunkM) : Bool := isTextB s && !(largeB s) && rightM 0 0 hs && decide (hs.length ≤ 1000) && decide (s.size ≤ 8000) && hs.all hunkOkB && decide ((linesB s).length ≤ 40000) && decide ((textL (linesB s)).length ≤ 10000)
theorem apply_of {s : ByteArray} {hs : List HunkM} {fz : Nat} {a : Option Addr} {cap : Nat} {m : Int} {w : World} (hok : applyOkB s hs = true) (hf : fz ≤ 10) (hH : HunksAt w.heap.size w (.slice a hs.length cap) hs) (hm : w.cell? ⟨0, 0, none⟩ = some (.int .i64 m)) (hm0 : 0 < w.heap.size) :
    Calls Tryz.prog 14 #[.string s, .agg #[.slice a hs.length cap], .int .i64 fz] w fun e w' =>
      ∃ a' c', e = .returned (.tuple #[.string (applyT (linesB s) fz hs), .slice a' hs.length c', .int .i64 0]) ∧ SeamsAt w' (.slice a' hs.length c') (applyS (linesB s) fz hs) ∧ Below w.heap.size w w' := by
  unfold applyOkB at hok
  simp only [Bool.and_eq_true, decide_eq_true_eq, List.all_eq_true, Bool.not_eq_true'] at hok
  obtain ⟨⟨⟨⟨⟨⟨⟨h1, h2⟩, h3⟩, h4⟩, h5⟩, h6⟩, h7⟩, h8⟩ := hok
  exact apply_at h1 h2 hf hH h3 h4 (by omega) hm hm0 (fun h hh => hunkOk_of (h6 h hh)) h7 h8
end Go.Proofs.YtcclgodahlinbaaGreatDoor

namespace Go.Proofs.YtcclgodahlinbaaGreatDoor
open Go.RowKit Go
set_option maxRecDepth 100000

def awA : ByteArray := ⟨#[97, 10, 98, 10, 99, 10, 100, 10]⟩
def awB : ByteArray := ⟨#[97, 10, 120, 10, 99, 10, 100, 10]⟩
def awC : ByteArray := ⟨#[110, 10, 97, 10, 98, 10, 99, 10, 100, 10]⟩
def awD : ByteArray := ⟨#[110, 10, 97, 10, 120, 10, 99, 10, 100, 10]⟩
def awH : HunkM := ⟨1, 3, 1, 3, [⟨32, ⟨#[97]⟩⟩, ⟨45, ⟨#[98]⟩⟩, ⟨43, ⟨#[120]⟩⟩, ⟨32, ⟨#[99]⟩⟩]⟩
theorem aw_check : checkB awA awB (1 : Nat) = 0 := by kernel_rfl
theorem aw_diff : diffM awA awB 1 = [awH] := by kernel_rfl
theorem aw_ok : applyOkB awC [awH] = true := by kernel_rfl
theorem aw_text : applyT (linesB awC) 0 [awH] = awD := by kernel_rfl
theorem aw_seams : applyS (linesB awC) 0 [awH] = [⟨true, 1, 0⟩] := by kernel_rfl

set_option maxHeartbeats 2000000 in
theorem awake_any {m : Int} {w : World} (hm : w.cell? ⟨0, 0, none⟩ = some (.int .i64 m)) (hm0 : 0 < w.heap.size) :
    Calls Tryz.prog 9 #[] w fun e w' => e = .returned (.bool true) ∧ Below w.heap.size w w' := by
  have hd := diff_at (c := 1) (w := w) aw_check (by decide) (by decide) hm
  rw [aw_diff] at hd
  have hd' : Calls Tryz.prog 12 #[.string ⟨#[97, 10, 98, 10, 99, 10, 100, 10]⟩, .string ⟨#[97, 10, 120, 10, 99, 10, 100, 10]⟩, .int .i64 1] w fun e w' =>
      ∃ a cap, e = .returned (.tuple #[.agg #[.slice a 1 cap], .int .i64 0]) ∧ HunksAt w'.heap.size w' (.slice a 1 cap) [awH] ∧ Below w.heap.size w w' := hd
  clear hd
  go_enter Tryz.func9, Tryz.ntmps9
  go_wp2_with fail
  refine hd'.mono ?_
  clear hd'
  rintro e w1 ⟨a, cap, rfl, hH, b1⟩
  have hz1 := b1.size
  go_wp2_with fail
  have hb2 := (Below.refl w1.heap.size w1).alloc (Nat.le_refl _) (.cells #[.slice a 1 cap] 32)
  have hp2 := heap_alloc_new w1 (.cells #[.slice a 1 cap] 32)
  have z2 : (w1.alloc (.cells #[.slice a 1 cap] 32)).heap.size = w1.heap.size + 1 := by simp
  generalize w1.alloc (.cells #[.slice a 1 cap] 32) = W2 at hb2 hp2 z2 ⊢
  have hH2 := (hH.below hb2).mono hb2.size
  have hm2 := (hb2.cell (p := ⟨0, 0, none⟩) (by show 0 < _; omega)).trans ((b1.cell (p := ⟨0, 0, none⟩) hm0).trans hm)
  have ha := apply_of (fz := 0) (cap := cap) (a := a) aw_ok (by omega) hH2 hm2 (by omega)
  rw [aw_text, aw_seams] at ha
  have ha' : Calls Tryz.prog 14 #[.string ⟨#[110, 10, 97, 10, 98, 10, 99, 10, 100, 10]⟩, .agg #[.slice a 1 cap], .int .i64 0] W2 fun e w' =>
      ∃ a' c', e = .returned (.tuple #[.string ⟨#[110, 10, 97, 10, 120, 10, 99, 10, 100, 10]⟩, .slice a' 1 c', .int .i64 0]) ∧ SeamsAt w' (.slice a' 1 c') [⟨true, 1, 0⟩] ∧ Below W2.heap.size W2 w' := ha
  clear ha
  refine ha'.mono ?_
  clear ha'
  rintro e w3 ⟨a', c', rfl, hS, b3⟩
  have hp3 := (b3.block w1.heap.size (by omega)).trans hp2
  have hH3 := hH2.below b3
  obtain ⟨b, a'', c'', rfl, hbB, r0, r1, r2, r3, r4, hst⟩ := hH3.at (i := 0) (by decide)
  rcases hS with ⟨e, _⟩ | ⟨g, cs, e, hg, hc⟩
  · cases e
  cases e
  obtain ⟨s0, s1, s2⟩ := hc 0 (by decide)
  have q0 : w3.cell? ⟨w1.heap.size, 0, none⟩ = some (.slice (some ⟨b, 0, none⟩) 1 cap) := cell_of hp3 rfl
  have t0 : w3.cell? ⟨g, 0, none⟩ = some (.bool true) := s0
  have t1 : w3.cell? ⟨g, 1, none⟩ = some (.int .i64 1) := s1
  have t2 : w3.cell? ⟨g, 2, none⟩ = some (.int .i64 0) := s2
  have t4 : w3.cell? ⟨b, 4, none⟩ = some (.slice a'' 4 c'') := r4
  have hfin : Below w.heap.size w w3 := b1.trans ((hb2.mono (by omega)).trans (b3.mono (by omega)))
  clear r0 r1 r2 r3 r4 s0 s1 s2 hc hH hH2 hH3 hst
  go_wp2_with fail
  go_ret
  exact ⟨rfl, hfin⟩
end Go.Proofs.YtcclgodahlinbaaGreatDoor

namespace Dn
section
set_option linter.unusedSectionVars false
variable {α : Type} [DecidableEq α]

/-- a way from a row to another with so many drops and adds: whatever holds of the empty rows and is handed on by a keep, a drop and an add, holds of them -/
def Ed (l r : List α) (k : Nat) : Prop :=
  ∀ P : List α → List α → Nat → Prop, P [] [] 0 → (∀ a l r k, P l r k → P (a :: l) (a :: r) k) → (∀ a l r k, P l r k → P (a :: l) r (k + 1)) → (∀ a l r k, P l r k → P l (a :: r) (k + 1)) → P l r k
theorem Ed.nil : Ed ([] : List α) [] 0 := fun _ h _ _ _ => h
theorem Ed.keep (a : α) (l r : List α) (k : Nat) (h : Ed l r k) : Ed (a :: l) (a :: r) k := fun P p1 p2 p3 p4 => p2 a l r k (h P p1 p2 p3 p4)
theorem Ed.drop (a : α) (l r : List α) (k : Nat) (h : Ed l r k) : Ed (a :: l) r (k + 1) := fun P p1 p2 p3 p4 => p3 a l r k (h P p1 p2 p3 p4)
theorem Ed.add (a : α) (l r : List α) (k : Nat) (h : Ed l r k) : Ed l (a :: r) (k + 1) := fun P p1 p2 p3 p4 => p4 a l r k (h P p1 p2 p3 p4)
theorem Ed.ind {motive : (l r : List α) → (k : Nat) → Ed l r k → Prop} (nil : motive [] [] 0 Ed.nil)
    (keep : ∀ (a : α) (l r : List α) (k : Nat) (h : Ed l r k), motive l r k h → motive (a :: l) (a :: r) k (Ed.keep a l r k h))
    (drop : ∀ (a : α) (l r : List α) (k : Nat) (h : Ed l r k), motive l r k h → motive (a :: l) r (k + 1) (Ed.drop a l r k h))
    (add : ∀ (a : α) (l r : List α) (k : Nat) (h : Ed l r k), motive l r k h → motive l (a :: r) (k + 1) (Ed.add a l r k h)) {l r : List α} {k : Nat} (h : Ed l r k) : motive l r k h :=
  (h (fun l r k => ∃ h : Ed l r k, motive l r k h) ⟨Ed.nil, nil⟩ (fun a l r k ⟨h, p⟩ => ⟨Ed.keep a l r k h, keep a l r k h p⟩) (fun a l r k ⟨h, p⟩ => ⟨Ed.drop a l r k h, drop a l r k h p⟩) (fun a l r k ⟨h, p⟩ => ⟨Ed.add a l r k h, add a l r k h p⟩)).elim fun _ p => p

def distRow (a : α) (prev : List α → Nat) : List α → Nat
  | [] => prev [] + 1
  | b :: r => if a = b then prev r else 1 + min (prev (b :: r)) (distRow a prev r)
def dist : List α → List α → Nat
  | [] => List.length
  | a :: l => distRow a (dist l)

theorem dist_nil_l (r : List α) : dist [] r = r.length := rfl
theorem dist_nil_r (l : List α) : dist l [] = l.length := by
  induction l with
  | nil => rfl
  | cons a l ih => show dist l [] + 1 = _; rw [ih]; rfl
theorem dist_cc (a b : α) (l r : List α) : dist (a :: l) (b :: r) = if a = b then dist l r else 1 + min (dist l (b :: r)) (dist (a :: l) r) := rfl
theorem dist_same (a : α) (l r : List α) : dist (a :: l) (a :: r) = dist l r := by rw [dist_cc, if_pos rfl]
theorem dist_ne {a b : α} (h : a ≠ b) (l r : List α) : dist (a :: l) (b :: r) = 1 + min (dist l (b :: r)) (dist (a :: l) r) := by rw [dist_cc, if_neg h]

theorem dist_comm : ∀ (n : Nat) (l r : List α), l.length + r.length ≤ n → dist l r = dist r l := by
  intro n
  induction n with
  | zero =>
    intro l r h
    have h1 : l = [] := List.eq_nil_of_length_eq_zero (by omega)
    have h2 : r = [] := List.eq_nil_of_length_eq_zero (by omega)
    rw [h1, h2]
  | succ n ih =>
    intro l r h
    cases l with
    | nil => rw [dist_nil_l, dist_nil_r]
    | cons a l =>
      cases r with
      | nil => rw [dist_nil_l, dist_nil_r]
      | cons b r =>
        simp only [List.length_cons] at h
        by_cases e : a = b
        · subst e; rw [dist_same, dist_same]; exact ih _ _ (by omega)
        · rw [dist_ne e, dist_ne (Ne.symm e), ih l (b :: r) (by simp; omega), ih (a :: l) r (by simp; omega)]
          omega

theorem dist_near : ∀ (n : Nat) (l r : List α), l.length + r.length ≤ n → (∀ a, dist (a :: l) r ≤ dist l r + 1) ∧ (∀ b, dist l r ≤ dist l (b :: r) + 1) := by
  intro n
  induction n with
  | zero =>
    intro l r h
    have h1 : l = [] := List.eq_nil_of_length_eq_zero (by omega)
    have h2 : r = [] := List.eq_nil_of_length_eq_zero (by omega)
    subst h1 h2
    simp [dist_nil_l, dist_nil_r]
  | succ n ih =>
    intro l r h
    refine ⟨fun a => ?_, fun b => ?_⟩
    · cases r with
      | nil => rw [dist_nil_r, dist_nil_r]; simp
      | cons b r =>
        simp only [List.length_cons] at h
        by_cases e : a = b
        · subst e
          rw [dist_same]
          exact (ih l r (by omega)).2 a
        · rw [dist_ne e]; omega
    · cases l with
      | nil => rw [dist_nil_l, dist_nil_l]; simp; omega
      | cons c l =>
        simp only [List.length_cons] at h
        by_cases e : c = b
        · subst e
          rw [dist_same]
          exact (ih l r (by omega)).1 c
        · rw [dist_ne e]
          have h1 := (ih l r (by omega)).1 c
          have h2 := (ih l r (by omega)).2 b
          omega
theorem dist_l1 (a : α) (l r : List α) : dist (a :: l) r ≤ dist l r + 1 := (dist_near _ l r (Nat.le_refl _)).1 a
theorem dist_r1 (b : α) (l r : List α) : dist l (b :: r) ≤ dist l r + 1 := by
  rw [dist_comm _ l (b :: r) (Nat.le_refl _), dist_comm _ l r (Nat.le_refl _)]; exact dist_l1 b r l
theorem Ed.dist_le {l r : List α} {k : Nat} (h : Ed l r k) : dist l r ≤ k := by
  induction h using Ed.ind with
  | nil => exact Nat.le_refl _
  | keep a l r k _ ih => rw [dist_same]; exact ih
  | drop a l r k _ ih => have := dist_l1 a l r; omega
  | add a l r k _ ih => have := dist_r1 a l r; omega
theorem Ed.refl (l : List α) : Ed l l 0 := by
  induction l with
  | nil => exact .nil
  | cons a l ih => exact .keep a l l 0 ih
/-- a line more -/
theorem Ed.put {l r : List α} {k : Nat} (h : Ed l r k) (a : α) : ∀ i, i ≤ r.length → Ed l (r.take i ++ a :: r.drop i) (k + 1) := by
  induction h using Ed.ind with
  | nil => intro i hi; simp at hi; subst hi; exact .add a _ _ _ .nil
  | keep b l r k h ih =>
    intro i hi
    cases i with
    | zero => exact .add a _ _ _ (.keep b l r k h)
    | succ i => exact .keep b _ _ _ (ih i (by simpa using hi))
  | drop b l r k h ih => intro i hi; exact .drop b _ _ _ (ih i hi)
  | add b l r k h ih =>
    intro i hi
    cases i with
    | zero => exact .add a _ _ _ (.add b l r k h)
    | succ i => exact .add b _ _ _ (ih i (by simpa using hi))
/-- a line less -/
theorem Ed.cut {l r : List α} {k : Nat} (h : Ed l r k) : ∀ i, i < r.length → ∃ k', k' ≤ k + 1 ∧ Ed l (r.take i ++ r.drop (i + 1)) k' := by
  induction h using Ed.ind with
  | nil => intro i hi; simp at hi
  | keep b l r k h ih =>
    intro i hi
    cases i with
    | zero => exact ⟨k + 1, Nat.le_refl _, .drop b _ _ _ h⟩
    | succ i => obtain ⟨k', hk, he⟩ := ih i (by simpa using hi); exact ⟨k', hk, .keep b _ _ _ he⟩
  | drop b l r k h ih => intro i hi; obtain ⟨k', hk, he⟩ := ih i hi; exact ⟨k' + 1, by omega, .drop b _ _ _ he⟩
  | add b l r k h ih =>
    intro i hi
    cases i with
    | zero => exact ⟨k, by omega, h⟩
    | succ i => obtain ⟨k', hk, he⟩ := ih i (by simpa using hi); exact ⟨k' + 1, by omega, .add b _ _ _ he⟩

variable (o f : List α)
def rd (x y : Nat) : Nat := dist (o.drop x) (f.drop y)
theorem rd_same {x y : Nat} (h : same o f x y = true) : rd o f x y = rd o f (x + 1) (y + 1) := by
  obtain ⟨hx, hy⟩ := same_lt o f h
  unfold same at h
  simp only [decide_eq_true_eq] at h
  have e := h.2.2
  unfold rd
  rw [List.drop_eq_getElem_cons hx, List.drop_eq_getElem_cons hy]
  rw [List.getElem?_eq_getElem hx, List.getElem?_eq_getElem hy] at e
  rw [Option.some.inj e, dist_same]
theorem rd_ne {x y : Nat} (h : same o f x y = false) (hx : x < o.length) (hy : y < f.length) : rd o f x y = 1 + min (rd o f (x + 1) y) (rd o f x (y + 1)) := by
  unfold same at h
  simp only [decide_eq_false_iff_not, not_and] at h
  have e := h hx hy
  unfold rd
  rw [List.drop_eq_getElem_cons hx, List.drop_eq_getElem_cons hy]
  rw [List.getElem?_eq_getElem hx, List.getElem?_eq_getElem hy] at e
  rw [dist_ne (fun e' => e (by rw [e']))]
theorem rd_endx {y : Nat} (hy : y < f.length) : rd o f o.length y = 1 + rd o f o.length (y + 1) := by
  unfold rd; rw [List.drop_length, dist_nil_l, dist_nil_l]; simp; omega
theorem rd_endy {x : Nat} (hx : x < o.length) : rd o f x f.length = 1 + rd o f (x + 1) f.length := by
  unfold rd; rw [List.drop_length, dist_nil_r, dist_nil_r]; simp; omega

/-- what it takes to be led to a place -/
def Cost (st : Srch) (G : Nat → Nat → Nat) (x y kind c : Nat) : Prop :=
  (kind = 46 ∧ x = 0 ∧ y = 0 ∧ c = 0) ∨
  (kind = 32 ∧ 0 < x ∧ 0 < y ∧ st.at f.length (x - 1) (y - 1) ≠ 0 ∧ c = G (x - 1) (y - 1)) ∨
  (kind = 45 ∧ 0 < x ∧ st.at f.length (x - 1) y ≠ 0 ∧ c = G (x - 1) y + 1) ∨
  (kind = 43 ∧ 0 < y ∧ st.at f.length x (y - 1) ≠ 0 ∧ c = G x (y - 1) + 1)
def Near (st : Srch) (G : Nat → Nat → Nat) (x y c : Nat) : Prop := (st.at f.length x y ≠ 0 ∧ G x y ≤ c) ∨ ∃ s ∈ st.op, s.x = x ∧ s.y = y ∧ s.far ≤ c
def NextG (st : Srch) (G : Nat → Nat → Nat) (x y : Nat) : Prop :=
  if same o f x y = true then Near f st G (x + 1) (y + 1) (G x y)
  else (x < o.length → Near f st G (x + 1) y (G x y + 1)) ∧ (y < f.length → Near f st G x (y + 1) (G x y + 1))
structure InvG (D : Nat) (hole : Option (Nat × Nat)) (st : Srch) (G : Nat → Nat → Nat) : Prop where
  heap : heapL st.op
  mono : ∀ x y, x ≤ o.length → y ≤ f.length → st.at f.length x y ≠ 0 → ∀ s ∈ st.op, G x y ≤ s.far
  spots : ∀ s ∈ st.op, Cost f st G s.x s.y s.kind s.far
  known : ∀ x y, x ≤ o.length → y ≤ f.length → st.at f.length x y ≠ 0 → Cost f st G x y (st.at f.length x y) (G x y)
  start : Near f st G 0 0 0
  next : ∀ x y, x ≤ o.length → y ≤ f.length → st.at f.length x y ≠ 0 → hole ≠ some (x, y) → NextG o f st G x y
  top : ∀ x y, x ≤ o.length → y ≤ f.length → st.at f.length x y ≠ 0 → G x y ≤ D

theorem good_from {D : Nat} {st : Srch} {G : Nat → Nat → Nat} (h : InvG o f D none st G) (he : st.at f.length o.length f.length = 0) :
    ∀ k x y, x ≤ o.length → y ≤ f.length → (o.length - x) + (f.length - y) = k → st.at f.length x y ≠ 0 → G x y + rd o f x y ≤ D → ∃ s ∈ st.op, s.far ≤ D := by
  intro k
  induction k using Nat.strongRecOn with
  | ind k ih =>
    intro x y hx hy hk hr hD
    have hn := h.next x y hx hy hr (by simp)
    have go : ∀ x' y' c, x' ≤ o.length → y' ≤ f.length → (o.length - x') + (f.length - y') < k → c + rd o f x' y' ≤ D → Near f st G x' y' c → ∃ s ∈ st.op, s.far ≤ D := by
      intro x' y' c hx' hy' hlt hc hnear
      rcases hnear with ⟨h1, h2⟩ | ⟨s, hs, _, _, h2⟩
      · exact ih _ hlt x' y' hx' hy' rfl h1 (by omega)
      · exact ⟨s, hs, by omega⟩
    unfold NextG at hn
    split at hn
    · rename_i hs
      have hlt := same_lt o f hs
      exact go _ _ _ (by omega) (by omega) (by omega) (by rw [← rd_same o f hs]; exact hD) hn
    · rename_i hs
      have hs' : same o f x y = false := by simpa using hs
      by_cases ex : x < o.length
      · by_cases ey : y < f.length
        · have e := rd_ne o f hs' ex ey
          by_cases hm : rd o f (x + 1) y ≤ rd o f x (y + 1)
          · exact go _ _ _ (by omega) (by omega) (by omega) (by omega) (hn.1 ex)
          · exact go _ _ _ (by omega) (by omega) (by omega) (by omega) (hn.2 ey)
        · obtain rfl : y = f.length := by omega
          have e := rd_endy o f ex
          exact go _ _ _ (by omega) (by omega) (by omega) (by omega) (hn.1 ex)
      · obtain rfl : x = o.length := by omega
        by_cases ey : y < f.length
        · have e := rd_endx o f ey
          exact go _ _ _ (by omega) (by omega) (by omega) (by omega) (hn.2 ey)
        · obtain rfl : y = f.length := by omega
          exact absurd he hr
theorem good {st : Srch} {G : Nat → Nat → Nat} (h : InvG o f (dist o f) none st G) (he : st.at f.length o.length f.length = 0) : ∃ s ∈ st.op, s.far ≤ dist o f := by
  rcases h.start with ⟨h1, h2⟩ | ⟨s, hs, _, _, h2⟩
  · exact good_from o f h he _ 0 0 (by omega) (by omega) rfl h1 (by unfold rd; simp; omega)
  · exact ⟨s, hs, by omega⟩

theorem Near.push {st : Srch} {G : Nat → Nat → Nat} {x y c : Nat} (h : Near f st G x y c) (s : Spot) (t : Nat) : Near f { op := pushM st.op s, turns := t, led := st.led } G x y c := by
  rcases h with h | ⟨q, hq, e⟩
  · exact .inl h
  · exact .inr ⟨q, (pushM_perm st.op s).mem_iff.2 (by simp [hq]), e⟩
theorem InvG.push {D : Nat} {hole : Option (Nat × Nat)} {st : Srch} {G : Nat → Nat → Nat} (h : InvG o f D hole st G) (s : Spot) (t : Nat) (hc : Cost f st G s.x s.y s.kind s.far)
    (hm : ∀ x y, x ≤ o.length → y ≤ f.length → st.at f.length x y ≠ 0 → G x y ≤ s.far) : InvG o f D hole { op := pushM st.op s, turns := t, led := st.led } G := by
  have hmem : ∀ q, q ∈ pushM st.op s ↔ q ∈ st.op ∨ q = s := by intro q; rw [(pushM_perm st.op s).mem_iff]; simp
  refine ⟨push_heap h.heap s, ?_, ?_, h.known, h.start.push f s t, ?_, h.top⟩
  · intro x y hx hy hr q hq
    rcases (hmem q).1 hq with hq | rfl
    · exact h.mono x y hx hy hr q hq
    · exact hm x y hx hy hr
  · intro q hq
    rcases (hmem q).1 hq with hq | rfl
    · exact h.spots q hq
    · exact hc
  · intro x y hx hy hr hh
    have := h.next x y hx hy hr hh
    unfold NextG at *
    split at this
    · rename_i hs; rw [if_pos hs]; exact this.push f s t
    · rename_i hs; rw [if_neg hs]; exact ⟨fun a => (this.1 a).push f s t, fun a => (this.2 a).push f s t⟩
theorem InvG.change {D : Nat} {hole : Option (Nat × Nat)} {st : Srch} {G : Nat → Nat → Nat} (h : InvG o f D hole st G) (p : Spot) (dx dy kind : Nat) (hc : Cost f st G (p.x + dx) (p.y + dy) kind (p.far + 1))
    (hx : p.x + dx ≤ o.length) (hy : p.y + dy ≤ f.length) (hm : ∀ x y, x ≤ o.length → y ≤ f.length → st.at f.length x y ≠ 0 → G x y ≤ p.far) :
    InvG o f D hole (changeM f.length st p dx dy kind) G ∧ Near f (changeM f.length st p dx dy kind) G (p.x + dx) (p.y + dy) (p.far + 1) ∧ (changeM f.length st p dx dy kind).led = st.led ∧
      ∀ x y c, Near f st G x y c → Near f (changeM f.length st p dx dy kind) G x y c := by
  unfold changeM
  split
  · refine ⟨h.push o f _ _ hc (fun x y a b c => Nat.le_succ_of_le (hm x y a b c)), .inr ⟨⟨p.x + dx, p.y + dy, p.far + 1, st.turns + 1, kind⟩, (pushM_perm st.op _).mem_iff.2 (by simp), rfl, rfl, Nat.le_refl _⟩, rfl, fun x y c hn => hn.push f _ _⟩
  · rename_i h0
    exact ⟨h, .inl ⟨h0, Nat.le_succ_of_le (hm _ _ hx hy h0)⟩, rfl, fun _ _ _ hn => hn⟩

theorem InvG.round {st : Srch} {G : Nat → Nat → Nat} (hi : Inv o f st) (h : InvG o f (dist o f) none st G) (he : st.at f.length o.length f.length = 0) : ∃ G', InvG o f (dist o f) none (roundM o f st) G' := by
  have hne := hi.open_ne he
  have hperm := pop_perm st.op hne
  have hmem : ∀ q, q ∈ st.op ↔ q ∈ popR st.op ∨ q = popS st.op := by intro q; rw [← hperm.mem_iff]; simp
  obtain ⟨hh, _, hmin⟩ := pop_heap h.heap hne
  have hmin' : ∀ s ∈ st.op, (popS st.op).far ≤ s.far := by
    intro s hs
    have := hmin s hs
    unfold Spot.lt at this
    omega
  obtain ⟨px, py, _, _, pl⟩ := hi.spots _ ((hmem _).2 (.inr rfl))
  have pc := h.spots _ ((hmem _).2 (.inr rfl))
  have pD : (popS st.op).far ≤ dist o f := by
    obtain ⟨s, hs, h1⟩ := good o f h he
    have := hmin' s hs
    omega
  have pm : ∀ x y, x ≤ o.length → y ≤ f.length → st.at f.length x y ≠ 0 → G x y ≤ (popS st.op).far := fun x y a b c => h.mono x y a b c _ ((hmem _).2 (.inr rfl))
  unfold roundM settleM
  simp only
  generalize hs : popS st.op = s at *
  have hat : ∀ x y, Srch.at { op := popR st.op, turns := st.turns, led := st.led } f.length x y = st.at f.length x y := fun _ _ => rfl
  rw [hat]
  split
  · rename_i h0
    have hset := fun x y (hy : y ≤ f.length) => at_set (st := st) (n := o.length) (m := f.length) (x0 := s.x) (y0 := s.y) (x := x) (y := y) (k := s.kind) hi.len px py hy (popR st.op) st.turns
    refine ⟨fun x y => if x = s.x ∧ y = s.y then s.far else G x y, ?_⟩
    generalize hG : (fun x y => if x = s.x ∧ y = s.y then s.far else G x y) = G'
    have hG1 : G' s.x s.y = s.far := by rw [← hG]; simp
    have hG2 : ∀ x y, ¬ (x = s.x ∧ y = s.y) → G' x y = G x y := by intro x y hn; rw [← hG]; simp only; rw [if_neg hn]
    have hG3 : ∀ x y, st.at f.length x y ≠ 0 → G' x y = G x y := by
      intro x y hr
      refine hG2 x y ?_
      rintro ⟨rfl, rfl⟩
      exact hr h0
    have hmono : ∀ x y, y ≤ f.length → st.at f.length x y ≠ 0 → Srch.at { op := popR st.op, turns := st.turns, led := st.led.set (idx f.length s.x s.y) s.kind } f.length x y ≠ 0 := by
      intro x y hy hr
      rw [hset x y hy]
      split
      · exact pl.pos
      · exact hr
    have hcost : ∀ x y k c, y ≤ f.length → Cost f st G x y k c → Cost f { op := popR st.op, turns := st.turns, led := st.led.set (idx f.length s.x s.y) s.kind } G' x y k c := by
      intro x y k c hy hc
      rcases hc with hc | ⟨h1, h2, h3, h4, h5⟩ | ⟨h1, h2, h3, h4⟩ | ⟨h1, h2, h3, h4⟩
      · exact .inl hc
      · exact .inr (.inl ⟨h1, h2, h3, hmono _ _ (by omega) h4, by rw [hG3 _ _ h4]; exact h5⟩)
      · exact .inr (.inr (.inl ⟨h1, h2, hmono _ _ hy h3, by rw [hG3 _ _ h3]; exact h4⟩))
      · exact .inr (.inr (.inr ⟨h1, h2, hmono _ _ (by omega) h3, by rw [hG3 _ _ h3]; exact h4⟩))
    have hnear : ∀ x y c, y ≤ f.length → Near f st G x y c → Near f { op := popR st.op, turns := st.turns, led := st.led.set (idx f.length s.x s.y) s.kind } G' x y c := by
      intro x y c hy hn
      rcases hn with ⟨h1, h2⟩ | ⟨q, hq, e1, e2, e3⟩
      · exact .inl ⟨hmono x y hy h1, by rw [hG3 _ _ h1]; exact h2⟩
      · by_cases e : x = s.x ∧ y = s.y
        · left
          obtain ⟨rfl, rfl⟩ := e
          refine ⟨by rw [hset _ _ hy, if_pos ⟨rfl, rfl⟩]; exact pl.pos, ?_⟩
          rw [hG1]
          have := hmin' q hq
          omega
        · rcases (hmem q).1 hq with hq | rfl
          · exact .inr ⟨q, hq, e1, e2, e3⟩
          · exact absurd ⟨e1.symm, e2.symm⟩ e
    have hGle : ∀ x y, x ≤ o.length → y ≤ f.length → Srch.at { op := popR st.op, turns := st.turns, led := st.led.set (idx f.length s.x s.y) s.kind } f.length x y ≠ 0 → G' x y ≤ s.far := by
      intro x y hx hy hr
      by_cases e : x = s.x ∧ y = s.y
      · rw [e.1, e.2, hG1]; exact Nat.le_refl _
      · rw [hset x y hy, if_neg e] at hr
        rw [hG2 x y e]
        exact pm x y hx hy hr
    have hhere : Srch.at { op := popR st.op, turns := st.turns, led := st.led.set (idx f.length s.x s.y) s.kind } f.length s.x s.y ≠ 0 := by rw [hset _ _ py, if_pos ⟨rfl, rfl⟩]; exact pl.pos
    have i0 : InvG o f (dist o f) (some (s.x, s.y)) { op := popR st.op, turns := st.turns, led := st.led.set (idx f.length s.x s.y) s.kind } G' := by
      refine ⟨hh, ?_, ?_, ?_, hnear 0 0 0 (by omega) h.start, ?_, ?_⟩
      · intro x y hx hy hr q hq
        have h1 := hGle x y hx hy hr
        have h2 := hmin' q ((hmem q).2 (.inl hq))
        omega
      · intro q hq
        have hq' := (hmem q).2 (.inl hq)
        exact hcost _ _ _ _ (hi.spots q hq').2.1 (h.spots q hq')
      · intro x y hx hy hr
        by_cases e : x = s.x ∧ y = s.y
        · rw [hset x y hy, if_pos e, e.1, e.2, hG1]
          exact hcost _ _ _ _ py pc
        · rw [hset x y hy, if_neg e] at hr ⊢
          rw [hG2 x y e]
          exact hcost _ _ _ _ hy (h.known x y hx hy hr)
      · intro x y hx hy hr hne'
        have e : ¬ (x = s.x ∧ y = s.y) := by rintro ⟨rfl, rfl⟩; exact hne' rfl
        rw [hset x y hy, if_neg e] at hr
        have := h.next x y hx hy hr (by simp)
        unfold NextG at this ⊢
        rw [hG2 x y e]
        split at this
        · rename_i hs'
          have hlt := same_lt o f hs'
          rw [if_pos hs']
          exact hnear _ _ _ (by omega) this
        · rename_i hs'
          rw [if_neg hs']
          exact ⟨fun a => hnear _ _ _ hy (this.1 a), fun a => hnear _ _ _ (by omega) (this.2 a)⟩
      · intro x y hx hy hr
        have := hGle x y hx hy hr
        omega
    have close : ∀ (S : Srch) (G1 : Nat → Nat → Nat), InvG o f (dist o f) (some (s.x, s.y)) S G1 → NextG o f S G1 s.x s.y → InvG o f (dist o f) none S G1 := by
      intro S G1 hS hN
      refine ⟨hS.heap, hS.mono, hS.spots, hS.known, hS.start, ?_, hS.top⟩
      intro x y hx hy hr _
      by_cases e : x = s.x ∧ y = s.y
      · rw [e.1, e.2]; exact hN
      · exact hS.next x y hx hy hr (by simp only [ne_eq, Option.some.injEq, Prod.mk.injEq]; intro hh; exact e ⟨hh.1.symm, hh.2.symm⟩)
    split
    · rename_i hsame
      refine close _ _ (i0.push o f ⟨s.x + 1, s.y + 1, s.far, s.turn, 32⟩ st.turns (.inr (.inl ⟨rfl, by simp, by simp, by simpa using hhere, by simp [hG1]⟩)) hGle) ?_
      unfold NextG
      rw [if_pos hsame]
      exact .inr ⟨⟨s.x + 1, s.y + 1, s.far, s.turn, 32⟩, (pushM_perm _ _).mem_iff.2 (by simp), rfl, rfl, by rw [hG1]; exact Nat.le_refl _⟩
    · rename_i hsame
      have key : ∃ st2 : Srch, st2 = (if s.x < o.length then changeM f.length { op := popR st.op, turns := st.turns, led := st.led.set (idx f.length s.x s.y) s.kind } s 1 0 45 else { op := popR st.op, turns := st.turns, led := st.led.set (idx f.length s.x s.y) s.kind }) ∧
          InvG o f (dist o f) (some (s.x, s.y)) st2 G' ∧ (s.x < o.length → Near f st2 G' (s.x + 1) s.y (s.far + 1)) ∧ st2.led = st.led.set (idx f.length s.x s.y) s.kind := by
        refine ⟨_, rfl, ?_⟩
        split
        · rename_i hxl
          obtain ⟨a, b, c, _⟩ := i0.change o f s 1 0 45 (.inr (.inr (.inl ⟨rfl, by omega, by simpa using hhere, by simp [hG1]⟩))) (by omega) (by omega) hGle
          exact ⟨a, fun _ => by simpa using b, c⟩
        · exact ⟨i0, fun hh => absurd hh (by assumption), rfl⟩
      obtain ⟨st2, hst2, j1, j2, j3⟩ := key
      rw [← hst2]
      have hat2 : ∀ x y, st2.at f.length x y = Srch.at { op := popR st.op, turns := st.turns, led := st.led.set (idx f.length s.x s.y) s.kind } f.length x y := by intro x y; unfold Srch.at; rw [j3]
      split
      · rename_i hyl
        obtain ⟨a, b, c, d⟩ := j1.change o f s 0 1 43 (.inr (.inr (.inr ⟨rfl, by omega, by rw [hat2]; simpa using hhere, by simp [hG1]⟩))) (by omega) (by omega) (fun x y hx hy hr => hGle x y hx hy (by rw [← hat2]; exact hr))
        refine close _ _ a ?_
        unfold NextG
        rw [if_neg hsame, hG1]
        exact ⟨fun hx => d _ _ _ (j2 hx), fun _ => by simpa using b⟩
      · rename_i hyl
        refine close _ _ j1 ?_
        unfold NextG
        rw [if_neg hsame, hG1]
        exact ⟨j2, fun hy => absurd hy hyl⟩
  · rename_i h0
    refine ⟨G, ?_⟩
    have hnear : ∀ x y c, x ≤ o.length → y ≤ f.length → Near f st G x y c → Near f { op := popR st.op, turns := st.turns, led := st.led } G x y c := by
      intro x y c hx hy hn
      rcases hn with h1 | ⟨q, hq, e1, e2, e3⟩
      · exact .inl h1
      · rcases (hmem q).1 hq with hq' | rfl
        · exact .inr ⟨q, hq', e1, e2, e3⟩
        · left
          subst e1 e2
          exact ⟨h0, by have := pm _ _ hx hy h0; omega⟩
    refine ⟨hh, fun x y hx hy hr q hq => h.mono x y hx hy hr q ((hmem q).2 (.inl hq)), fun q hq => h.spots q ((hmem q).2 (.inl hq)), h.known, hnear 0 0 0 (by omega) (by omega) h.start, ?_, h.top⟩
    intro x y hx hy hr _
    have := h.next x y hx hy hr (by simp)
    unfold NextG at this ⊢
    split at this
    · rename_i hs'
      have hlt := same_lt o f hs'
      rw [if_pos hs']
      exact hnear _ _ _ (by omega) (by omega) this
    · rename_i hs'
      rw [if_neg hs']
      exact ⟨fun a => hnear _ _ _ (by omega) hy (this.1 a), fun a => hnear _ _ _ hx (by omega) (this.2 a)⟩

theorem startG : InvG o f (dist o f) none (startM o f) (fun _ _ => 0) := by
  have h0 : ∀ x y, (startM o f).at f.length x y = 0 := by
    intro x y
    simp [startM, Srch.at, List.getD, List.getElem?_replicate]
    split <;> rfl
  refine ⟨?_, fun x y _ _ hr => absurd (h0 x y) hr, ?_, fun x y _ _ hr => absurd (h0 x y) hr, .inr ⟨⟨0, 0, 0, 0, 46⟩, by simp [startM], rfl, rfl, Nat.le_refl _⟩, fun x y _ _ hr => absurd (h0 x y) hr, fun x y _ _ hr => absurd (h0 x y) hr⟩
  · intro i hi hl; simp [startM] at hl; omega
  · intro s hs
    simp [startM] at hs
    subst hs
    exact .inl ⟨rfl, rfl, rfl, rfl⟩
theorem searchM_G : ∀ (k : Nat) (st : Srch) (G : Nat → Nat → Nat), Inv o f st → InvG o f (dist o f) none st G → ∃ G', InvG o f (dist o f) none (searchM o f k st) G' := by
  intro k
  induction k with
  | zero => intro st G _ hG; exact ⟨G, hG⟩
  | succ k ih =>
    intro st G hi hG
    by_cases he : st.at f.length o.length f.length = 0
    · simp only [searchM, he, if_true]
      obtain ⟨G1, hG1⟩ := hG.round o f hi he
      exact ih _ G1 (hi.round (hi.open_ne he)).1 hG1
    · rw [searchM_done he]; exact ⟨G, hG⟩
/-- drops and adds of a way -/
def costW (l : List (StepM α)) : Nat := (l.filter (fun s => s.kind != 32)).length
theorem backM_cost [Inhabited α] {st : Srch} {G : Nat → Nat → Nat} (h : InvG o f (dist o f) none st G) : ∀ (k x y : Nat), x + y ≤ k → x ≤ o.length → y ≤ f.length → st.at f.length x y ≠ 0 →
    costW (backM o f st k x y) ≤ G x y := by
  intro k
  induction k with
  | zero => intro x y _ _ _ _; simp [backM, costW]
  | succ k ih =>
    intro x y hk hx hy hr
    unfold backM
    split
    · simp [costW]
    · rename_i hne
      have hc := h.known x y hx hy hr
      rcases hc with ⟨_, h1, h2, _⟩ | ⟨h1, h2, h3, h4, h5⟩ | ⟨h1, h2, h3, h4⟩ | ⟨h1, h2, h3, h4⟩
      · exact absurd ⟨h1, h2⟩ hne
      · rw [if_pos h1]
        have := ih (x - 1) (y - 1) (by omega) (by omega) (by omega) h4
        rw [h5]
        simpa [costW] using this
      · rw [if_neg (by omega), if_pos h1]
        have := ih (x - 1) y (by omega) (by omega) (by omega) h3
        rw [h4]
        unfold costW at this ⊢
        rw [List.filter_cons_of_pos (by simp), List.length_cons]; omega
      · rw [if_neg (by omega), if_neg (by omega)]
        have := ih x (y - 1) (by omega) (by omega) (by omega) h3
        rw [h4]
        unfold costW at this ⊢
        rw [List.filter_cons_of_pos (by simp [h1]), List.length_cons]; omega
/-- no way is shorter -/
theorem wayM_dist [Inhabited α] : costW (wayM o f) ≤ dist o f := by
  obtain ⟨hi, he⟩ := foundM_inv o f
  obtain ⟨G, hG⟩ := searchM_G o f (mu (startM o f)) (startM o f) _ (startM_inv o f) (startG o f)
  have hG' : InvG o f (dist o f) none (foundM o f) G := hG
  have h1 := backM_cost o f hG' (o.length + f.length) o.length f.length (Nat.le_refl _) (Nat.le_refl _) (Nat.le_refl _) he
  have h2 := hG'.top o.length f.length (Nat.le_refl _) (Nat.le_refl _) he
  have h3 : costW (wayM o f) = costW (backM o f (foundM o f) (o.length + f.length) o.length f.length) := by unfold wayM costW; rw [List.filter_reverse, List.length_reverse]
  omega
theorem wayM_shortest [Inhabited α] {k : Nat} (h : Ed o f k) : costW (wayM o f) ≤ k := Nat.le_trans (wayM_dist o f) h.dist_le
end
end Dn

namespace Dn
section
variable {α : Type} [DecidableEq α]

/-- the shortest way that keeps where it can, else drops where a shortest way does -/
def specRow (a : α) (l : List α) (prev : List α → List (StepM α)) : List α → List (StepM α)
  | [] => ⟨45, a⟩ :: prev []
  | b :: r => if a = b then ⟨32, a⟩ :: prev r else if dist l (b :: r) ≤ dist (a :: l) r then ⟨45, a⟩ :: prev (b :: r) else ⟨43, b⟩ :: specRow a l prev r
def spec : List α → List α → List (StepM α)
  | [] => List.map fun b => ⟨43, b⟩
  | a :: l => specRow a l (spec l)
theorem spec_nn : spec ([] : List α) [] = [] := rfl
theorem spec_nc (b : α) (r : List α) : spec [] (b :: r) = ⟨43, b⟩ :: spec [] r := rfl
theorem spec_cn (a : α) (l : List α) : spec (a :: l) [] = ⟨45, a⟩ :: spec l [] := rfl
theorem spec_cc (a b : α) (l r : List α) : spec (a :: l) (b :: r) = if a = b then ⟨32, a⟩ :: spec l r else if dist l (b :: r) ≤ dist (a :: l) r then ⟨45, a⟩ :: spec l (b :: r) else ⟨43, b⟩ :: spec (a :: l) r := rfl
/-- its drops (0) and adds (1), as a binary number -/
def keyAdd : List α → Nat
  | [] => 0
  | _ :: r => 2 ^ r.length + keyAdd r
def keyRow (a : α) (l : List α) (prev : List α → Nat) : List α → Nat
  | [] => prev []
  | b :: r => if a = b then prev r else if dist l (b :: r) ≤ dist (a :: l) r then prev (b :: r) else 2 ^ dist (a :: l) r + keyRow a l prev r
def key : List α → List α → Nat
  | [] => keyAdd
  | a :: l => keyRow a l (key l)
theorem key_nn : key ([] : List α) [] = 0 := rfl
theorem key_nc (b : α) (r : List α) : key [] (b :: r) = 2 ^ r.length + key [] r := rfl
theorem key_cn (a : α) (l : List α) : key (a :: l) [] = key l [] := rfl
theorem key_cc (a b : α) (l r : List α) : key (a :: l) (b :: r) = if a = b then key l r else if dist l (b :: r) ≤ dist (a :: l) r then key l (b :: r) else 2 ^ dist (a :: l) r + key (a :: l) r := rfl

theorem pw1 (k r : Nat) : k * 2 ^ (r + 1) = 2 * (k * 2 ^ r) := by rw [Nat.pow_succ, ← Nat.mul_assoc, Nat.mul_comm]
theorem pw2 (k p : Nat) : 2 * k * p = 2 * (k * p) := Nat.mul_assoc _ _ _
theorem pw3 (k p : Nat) : (2 * k + 1) * p = 2 * (k * p) + p := by rw [Nat.add_mul, Nat.mul_assoc, Nat.one_mul]

theorem key_lt : ∀ (n : Nat) (l r : List α), l.length + r.length ≤ n → key l r < 2 ^ dist l r := by
  intro n
  induction n with
  | zero =>
    intro l r h
    have h1 : l = [] := List.eq_nil_of_length_eq_zero (by omega)
    have h2 : r = [] := List.eq_nil_of_length_eq_zero (by omega)
    subst h1 h2
    rw [key_nn]
    exact Nat.two_pow_pos _
  | succ n ih =>
    intro l r h
    cases l with
    | nil =>
      cases r with
      | nil => rw [key_nn]; exact Nat.two_pow_pos _
      | cons b r =>
        simp only [List.length_cons] at h
        have := ih [] r (by simp at h ⊢; omega)
        rw [dist_nil_l] at this
        rw [key_nc, dist_nil_l, List.length_cons, Nat.pow_succ]
        omega
    | cons a l =>
      simp only [List.length_cons] at h
      cases r with
      | nil =>
        have := ih l [] (by simp at h ⊢; omega)
        rw [dist_nil_r] at this
        rw [key_cn, dist_nil_r, List.length_cons, Nat.pow_succ]
        omega
      | cons b r =>
        simp only [List.length_cons] at h
        by_cases e : a = b
        · subst e
          rw [key_cc, if_pos rfl, dist_same]
          exact ih l r (by omega)
        · rw [key_cc, if_neg e, dist_ne e]
          split
          · rename_i hle
            have := ih l (b :: r) (by simp; omega)
            rw [Nat.min_eq_left hle, Nat.add_comm, Nat.pow_succ]
            omega
          · rename_i hle
            have := ih (a :: l) r (by simp; omega)
            rw [Nat.min_eq_right (by omega), Nat.add_comm 1, Nat.pow_succ]
            omega

variable (o f : List α)
def kb (x y : Nat) : Nat := key (o.drop x) (f.drop y)
def sp (x y : Nat) : List (StepM α) := spec (o.drop x) (f.drop y)
def Drops (x y : Nat) : Prop := x < o.length ∧ (f.length ≤ y ∨ rd o f (x + 1) y ≤ rd o f x (y + 1))
theorem kb_lt (x y : Nat) : kb o f x y < 2 ^ rd o f x y := key_lt _ _ _ (Nat.le_refl _)
theorem at_same [Inhabited α] {x y : Nat} (h : same o f x y = true) : kb o f x y = kb o f (x + 1) (y + 1) ∧ sp o f x y = ⟨32, o.getD x default⟩ :: sp o f (x + 1) (y + 1) := by
  obtain ⟨hx, hy⟩ := same_lt o f h
  unfold same at h
  simp only [decide_eq_true_eq] at h
  have e := h.2.2
  unfold kb sp
  rw [List.drop_eq_getElem_cons hx, List.drop_eq_getElem_cons hy]
  rw [List.getElem?_eq_getElem hx, List.getElem?_eq_getElem hy] at e
  rw [← Option.some.inj e, key_cc, if_pos rfl, spec_cc, if_pos rfl]
  simp [List.getD, hx]
theorem at_drop [Inhabited α] {x y : Nat} (h : same o f x y = false) (hy : y ≤ f.length) (hd : Drops o f x y) : rd o f x y = rd o f (x + 1) y + 1 ∧ kb o f x y = kb o f (x + 1) y ∧ sp o f x y = ⟨45, o.getD x default⟩ :: sp o f (x + 1) y := by
  obtain ⟨hx, hd⟩ := hd
  by_cases ey : y < f.length
  · have hd' : rd o f (x + 1) y ≤ rd o f x (y + 1) := by omega
    refine ⟨by rw [rd_ne o f h hx ey]; omega, ?_⟩
    unfold same at h
    simp only [decide_eq_false_iff_not, not_and] at h
    have e := h hx ey
    unfold rd at hd'
    unfold kb sp
    rw [List.drop_eq_getElem_cons hx, List.drop_eq_getElem_cons ey] at *
    rw [List.getElem?_eq_getElem hx, List.getElem?_eq_getElem ey] at e
    have e' : o[x] ≠ f[y] := fun e' => e (by rw [e'])
    rw [key_cc, if_neg e', if_pos hd', spec_cc, if_neg e', if_pos hd']
    simp [List.getD, hx]
  · obtain rfl : y = f.length := by omega
    refine ⟨by rw [rd_endy o f hx]; omega, ?_⟩
    unfold kb sp
    rw [List.drop_length, List.drop_eq_getElem_cons hx, key_cn, spec_cn]
    simp [List.getD, hx]
theorem at_add [Inhabited α] {x y : Nat} (h : same o f x y = false) (hx : x ≤ o.length) (hy : y < f.length) (hd : ¬ Drops o f x y) :
    rd o f x y = rd o f x (y + 1) + 1 ∧ kb o f x y = 2 ^ rd o f x (y + 1) + kb o f x (y + 1) ∧ sp o f x y = ⟨43, f.getD y default⟩ :: sp o f x (y + 1) ∧ (x < o.length → rd o f x y < rd o f (x + 1) y + 1) := by
  by_cases ex : x < o.length
  · have hd' : ¬ rd o f (x + 1) y ≤ rd o f x (y + 1) := fun e => hd ⟨ex, .inr e⟩
    have hr := rd_ne o f h ex hy
    refine ⟨by rw [hr]; omega, ?_⟩
    rw [← and_assoc]
    refine ⟨?_, fun _ => by rw [hr]; omega⟩
    unfold same at h
    simp only [decide_eq_false_iff_not, not_and] at h
    have e := h ex hy
    clear hr
    unfold rd at hd'
    unfold kb sp rd
    rw [List.drop_eq_getElem_cons ex, List.drop_eq_getElem_cons hy] at *
    rw [List.getElem?_eq_getElem ex, List.getElem?_eq_getElem hy] at e
    have e' : o[x] ≠ f[y] := fun e' => e (by rw [e'])
    rw [key_cc, if_neg e', if_neg hd', spec_cc, if_neg e', if_neg hd']
    simp [List.getD, hy]
  · obtain rfl : x = o.length := by omega
    refine ⟨by rw [rd_endx o f hy]; omega, ?_⟩
    rw [← and_assoc]
    refine ⟨?_, fun h => absurd h (by omega)⟩
    unfold kb sp rd
    rw [List.drop_length, List.drop_eq_getElem_cons hy, key_nc, spec_nc, dist_nil_l]
    simp [List.getD, hy]
theorem rd_x {x : Nat} (y : Nat) (h : x < o.length) : rd o f x y ≤ rd o f (x + 1) y + 1 := by
  unfold rd; rw [List.drop_eq_getElem_cons h]; exact dist_l1 _ _ _
theorem rd_y {y : Nat} (x : Nat) (h : y < f.length) : rd o f x y ≤ rd o f x (y + 1) + 1 := by
  unfold rd; rw [List.drop_eq_getElem_cons h]; exact dist_r1 _ _ _

/-- no way through here is better than the best -/
def Low (x y c k : Nat) : Prop := dist o f ≤ c + rd o f x y ∧ (c + rd o f x y = dist o f → key o f ≤ k * 2 ^ rd o f x y + kb o f x y)
variable [Inhabited α]
theorem Low.keep {x y c k : Nat} (h : Low o f x y c k) (hs : same o f x y = true) : Low o f (x + 1) (y + 1) c k := by
  unfold Low at *
  rw [← (at_same o f hs).1, ← rd_same o f hs]
  exact h
theorem Low.drop {x y c k : Nat} (h : Low o f x y c k) (hs : same o f x y = false) (hx : x < o.length) (hy : y ≤ f.length) : Low o f (x + 1) y (c + 1) (2 * k) := by
  obtain ⟨h1, h2⟩ := h
  have hr := rd_x o f y hx
  refine ⟨by omega, fun e => ?_⟩
  have h3 := h2 (by omega)
  have hd : Drops o f x y := by
    by_cases hd : Drops o f x y
    · exact hd
    · have hy' : y < f.length := by
        by_cases ey : y < f.length
        · exact ey
        · exact absurd ⟨hx, .inl (by omega)⟩ hd
      have := (at_add o f hs (by omega) hy' hd).2.2.2 hx
      omega
  obtain ⟨e1, e2, _⟩ := at_drop o f hs hy hd
  rw [e1, e2, pw1] at h3
  rw [pw2]
  exact h3
theorem Low.add {x y c k : Nat} (h : Low o f x y c k) (hs : same o f x y = false) (hx : x ≤ o.length) (hy : y < f.length) : Low o f x (y + 1) (c + 1) (2 * k + 1) := by
  obtain ⟨h1, h2⟩ := h
  have hr := rd_y o f x hy
  refine ⟨by omega, fun e => ?_⟩
  have h3 := h2 (by omega)
  have e0 : rd o f x y = rd o f x (y + 1) + 1 := by omega
  rw [pw3]
  rw [e0, pw1] at h3
  by_cases hd : Drops o f x y
  · obtain ⟨e1, e2, _⟩ := at_drop o f hs (by omega) hd
    have h4 := kb_lt o f (x + 1) y
    rw [show rd o f (x + 1) y = rd o f x (y + 1) by omega] at h4
    omega
  · obtain ⟨_, e2, _⟩ := at_add o f hs hx hy hd
    omega

def le2 (a b c d : Nat) : Prop := a < c ∨ (a = c ∧ b ≤ d)
def CostK (st : Srch) (G Q : Nat → Nat → Nat) (x y kind c k : Nat) : Prop :=
  (kind = 46 ∧ x = 0 ∧ y = 0 ∧ c = 0 ∧ k = 0) ∨
  (kind = 32 ∧ 0 < x ∧ 0 < y ∧ st.at f.length (x - 1) (y - 1) ≠ 0 ∧ same o f (x - 1) (y - 1) = true ∧ c = G (x - 1) (y - 1) ∧ k = Q (x - 1) (y - 1)) ∨
  (kind = 45 ∧ 0 < x ∧ st.at f.length (x - 1) y ≠ 0 ∧ same o f (x - 1) y = false ∧ c = G (x - 1) y + 1 ∧ k = 2 * Q (x - 1) y) ∨
  (kind = 43 ∧ 0 < y ∧ st.at f.length x (y - 1) ≠ 0 ∧ same o f x (y - 1) = false ∧ c = G x (y - 1) + 1 ∧ k = 2 * Q x (y - 1) + 1)
def NearK (st : Srch) (G Q : Nat → Nat → Nat) (κ : Nat → Nat) (x y c k : Nat) : Prop :=
  (st.at f.length x y ≠ 0 ∧ le2 (G x y) (Q x y) c k) ∨ ∃ s ∈ st.op, s.x = x ∧ s.y = y ∧ le2 s.far (κ s.turn) c k
def NextK (st : Srch) (G Q : Nat → Nat → Nat) (κ : Nat → Nat) (x y : Nat) : Prop :=
  if same o f x y = true then NearK f st G Q κ (x + 1) (y + 1) (G x y) (Q x y)
  else (x < o.length → NearK f st G Q κ (x + 1) y (G x y + 1) (2 * Q x y)) ∧ (y < f.length → NearK f st G Q κ x (y + 1) (G x y + 1) (2 * Q x y + 1))
structure InvK (hole : Option (Nat × Nat)) (st : Srch) (G Q : Nat → Nat → Nat) (κ : Nat → Nat) : Prop where
  heap : heapL st.op
  uniq : (st.op.map (·.turn)).Nodup
  tle : ∀ s ∈ st.op, s.turn ≤ st.turns
  far : ∀ s1 ∈ st.op, ∀ s2 ∈ st.op, s1.far ≤ s2.far + 1
  ord : ∀ s1 ∈ st.op, ∀ s2 ∈ st.op, s1.far = s2.far → s1.turn < s2.turn → κ s1.turn < κ s2.turn
  ord2 : ∀ s1 ∈ st.op, ∀ s2 ∈ st.op, s1.far = s2.far + 1 → κ s1.turn < 2 * κ s2.turn
  mono : ∀ x y, x ≤ o.length → y ≤ f.length → st.at f.length x y ≠ 0 → ∀ s ∈ st.op, le2 (G x y) (Q x y) s.far (κ s.turn)
  spots : ∀ s ∈ st.op, CostK o f st G Q s.x s.y s.kind s.far (κ s.turn)
  known : ∀ x y, x ≤ o.length → y ≤ f.length → st.at f.length x y ≠ 0 → CostK o f st G Q x y (st.at f.length x y) (G x y) (Q x y)
  start : NearK f st G Q κ 0 0 0 0
  next : ∀ x y, x ≤ o.length → y ≤ f.length → st.at f.length x y ≠ 0 → hole ≠ some (x, y) → NextK o f st G Q κ x y
  low : ∀ x y, x ≤ o.length → y ≤ f.length → st.at f.length x y ≠ 0 → Low o f x y (G x y) (Q x y)
  lowS : ∀ s ∈ st.op, Low o f s.x s.y s.far (κ s.turn)
  top : st.at f.length o.length f.length ≠ 0 → G o.length f.length = dist o f ∧ Q o.length f.length ≤ key o f

def GoodS (x y c k : Nat) : Prop := c + rd o f x y = dist o f ∧ k * 2 ^ rd o f x y + kb o f x y ≤ key o f
theorem goodK_from {st : Srch} {G Q : Nat → Nat → Nat} {κ : Nat → Nat} (h : InvK o f none st G Q κ) (he : st.at f.length o.length f.length = 0) :
    ∀ n x y, x ≤ o.length → y ≤ f.length → (o.length - x) + (f.length - y) = n → st.at f.length x y ≠ 0 → GoodS o f x y (G x y) (Q x y) → ∃ s ∈ st.op, GoodS o f s.x s.y s.far (κ s.turn) := by
  intro n
  induction n using Nat.strongRecOn with
  | ind n ih =>
    intro x y hx hy hk hr hD
    have hn := h.next x y hx hy hr (by simp)
    have go : ∀ x' y' c k, x' ≤ o.length → y' ≤ f.length → (o.length - x') + (f.length - y') < n → GoodS o f x' y' c k → NearK f st G Q κ x' y' c k → ∃ s ∈ st.op, GoodS o f s.x s.y s.far (κ s.turn) := by
      intro x' y' c k hx' hy' hlt hc hnear
      rcases hnear with ⟨h1, h2⟩ | ⟨s, hs, e1, e2, h2⟩
      · have hl := (h.low x' y' hx' hy' h1).1
        have hc1 := hc.1
        refine ih _ hlt x' y' hx' hy' rfl h1 ?_
        rcases h2 with h2 | ⟨h2, h3⟩
        · omega
        · refine ⟨by omega, ?_⟩
          have := Nat.mul_le_mul_right (2 ^ rd o f x' y') h3
          have := hc.2
          omega
      · have hl := (h.lowS s hs).1
        have hc1 := hc.1
        rw [← e1, ← e2] at hc1
        refine ⟨s, hs, ?_⟩
        rcases h2 with h2 | ⟨h2, h3⟩
        · omega
        · rw [e1, e2]
          rw [e1, e2] at hc1
          refine ⟨by omega, ?_⟩
          have := Nat.mul_le_mul_right (2 ^ rd o f x' y') h3
          have := hc.2
          omega
    obtain ⟨hD1, hD2⟩ := hD
    unfold NextK at hn
    split at hn
    · rename_i hs
      have hlt := same_lt o f hs
      refine go _ _ _ _ (by omega) (by omega) (by omega) ⟨?_, ?_⟩ hn
      · rw [← rd_same o f hs]; exact hD1
      · rw [← rd_same o f hs, ← (at_same o f hs).1]; exact hD2
    · rename_i hs
      have hs' : same o f x y = false := by simpa using hs
      by_cases hd : Drops o f x y
      · obtain ⟨e1, e2, _⟩ := at_drop o f hs' hy hd
        refine go _ _ _ _ (by have := hd.1; omega) (by omega) (by have := hd.1; omega) ⟨by omega, ?_⟩ (hn.1 hd.1)
        rw [e1, e2, pw1] at hD2
        rw [pw2]
        exact hD2
      · have ey : y < f.length := by
          by_cases ey : y < f.length
          · exact ey
          · obtain rfl : y = f.length := by omega
            by_cases ex : x < o.length
            · exact absurd ⟨ex, .inl (Nat.le_refl _)⟩ hd
            · obtain rfl : x = o.length := by omega
              exact absurd he hr
        obtain ⟨e1, e2, _⟩ := at_add o f hs' hx ey hd
        refine go _ _ _ _ (by omega) (by omega) (by omega) ⟨by omega, ?_⟩ (hn.2 ey)
        rw [e1, e2, pw1] at hD2
        rw [pw3]
        omega
theorem goodK {st : Srch} {G Q : Nat → Nat → Nat} {κ : Nat → Nat} (h : InvK o f none st G Q κ) (he : st.at f.length o.length f.length = 0) : ∃ s ∈ st.op, GoodS o f s.x s.y s.far (κ s.turn) := by
  have e1 : rd o f 0 0 = dist o f := by simp [rd]
  have e2 : kb o f 0 0 = key o f := by simp [kb]
  rcases h.start with ⟨h1, h2⟩ | ⟨s, hs, x0, y0, h2⟩
  · have h2' : G 0 0 = 0 ∧ Q 0 0 = 0 := by unfold le2 at h2; omega
    exact goodK_from o f h he _ 0 0 (by omega) (by omega) rfl h1 ⟨by rw [h2'.1, e1]; omega, by rw [h2'.2, e2]; omega⟩
  · have h2' : s.far = 0 ∧ κ s.turn = 0 := by unfold le2 at h2; omega
    exact ⟨s, hs, by rw [x0, y0]; exact ⟨by rw [h2'.1, e1]; omega, by rw [h2'.2, e2]; omega⟩⟩
end
end Dn

namespace Dn
section
set_option linter.unusedSectionVars false
variable {α : Type} [DecidableEq α] (o f : List α) [Inhabited α]

theorem NearK.kap {st : Srch} {G Q : Nat → Nat → Nat} {κ κ' : Nat → Nat} {x y c k : Nat} (h : NearK f st G Q κ x y c k) (ht : ∀ s ∈ st.op, s.turn ≤ st.turns) (hk : ∀ t, t ≤ st.turns → κ' t = κ t) : NearK f st G Q κ' x y c k := by
  rcases h with h | ⟨s, hs, e1, e2, e3⟩
  · exact .inl h
  · exact .inr ⟨s, hs, e1, e2, by rw [hk _ (ht s hs)]; exact e3⟩
theorem InvK.kap {hole : Option (Nat × Nat)} {st : Srch} {G Q : Nat → Nat → Nat} {κ κ' : Nat → Nat} (h : InvK o f hole st G Q κ) (hk : ∀ t, t ≤ st.turns → κ' t = κ t) : InvK o f hole st G Q κ' := by
  have e : ∀ s ∈ st.op, κ' s.turn = κ s.turn := fun s hs => hk _ (h.tle s hs)
  refine ⟨h.heap, h.uniq, h.tle, h.far, ?_, ?_, ?_, ?_, h.known, h.start.kap f h.tle hk, ?_, h.low, ?_, h.top⟩
  · intro s1 h1 s2 h2 a b; rw [e s1 h1, e s2 h2]; exact h.ord s1 h1 s2 h2 a b
  · intro s1 h1 s2 h2 a; rw [e s1 h1, e s2 h2]; exact h.ord2 s1 h1 s2 h2 a
  · intro x y hx hy hr s hs; rw [e s hs]; exact h.mono x y hx hy hr s hs
  · intro s hs; rw [e s hs]; exact h.spots s hs
  · intro x y hx hy hr hh
    have := h.next x y hx hy hr hh
    unfold NextK at this ⊢
    split at this
    · rename_i hs; rw [if_pos hs]; exact this.kap f h.tle hk
    · rename_i hs; rw [if_neg hs]; exact ⟨fun a => (this.1 a).kap f h.tle hk, fun a => (this.2 a).kap f h.tle hk⟩
  · intro s hs; rw [e s hs]; exact h.lowS s hs
theorem NearK.push {st : Srch} {G Q : Nat → Nat → Nat} {κ : Nat → Nat} {x y c k : Nat} (h : NearK f st G Q κ x y c k) (s : Spot) (t : Nat) : NearK f { op := pushM st.op s, turns := t, led := st.led } G Q κ x y c k := by
  rcases h with h | ⟨q, hq, e⟩
  · exact .inl h
  · exact .inr ⟨q, (pushM_perm st.op s).mem_iff.2 (by simp [hq]), e⟩
theorem InvK.push {hole : Option (Nat × Nat)} {st : Srch} {G Q : Nat → Nat → Nat} {κ : Nat → Nat} (h : InvK o f hole st G Q κ) (s : Spot) (t : Nat) (hn : ∀ q ∈ st.op, q.turn ≠ s.turn) (ht1 : s.turn ≤ t) (ht2 : st.turns ≤ t)
    (hq : ∀ q ∈ st.op, s.far ≤ q.far + 1 ∧ q.far ≤ s.far + 1 ∧ (q.far = s.far → (q.turn < s.turn → κ q.turn < κ s.turn) ∧ (s.turn < q.turn → κ s.turn < κ q.turn)) ∧ (q.far = s.far + 1 → κ q.turn < 2 * κ s.turn) ∧ (s.far = q.far + 1 → κ s.turn < 2 * κ q.turn))
    (hm : ∀ x y, x ≤ o.length → y ≤ f.length → st.at f.length x y ≠ 0 → le2 (G x y) (Q x y) s.far (κ s.turn)) (hc : CostK o f st G Q s.x s.y s.kind s.far (κ s.turn)) (hl : Low o f s.x s.y s.far (κ s.turn)) :
    InvK o f hole { op := pushM st.op s, turns := t, led := st.led } G Q κ := by
  have hmem : ∀ q, q ∈ pushM st.op s ↔ q ∈ st.op ∨ q = s := by intro q; rw [(pushM_perm st.op s).mem_iff]; simp
  refine ⟨push_heap h.heap s, ?_, ?_, ?_, ?_, ?_, ?_, ?_, h.known, h.start.push f s t, ?_, h.low, ?_, h.top⟩
  · have hp := (pushM_perm st.op s).map (·.turn)
    rw [hp.nodup_iff, List.map_append, List.nodup_append]
    refine ⟨h.uniq, by simp, ?_⟩
    intro a ha b hb e
    obtain ⟨q, hq', rfl⟩ := List.mem_map.1 ha
    simp at hb
    exact hn q hq' (e.trans hb)
  · intro q hq'
    rcases (hmem q).1 hq' with h1 | rfl
    · exact Nat.le_trans (h.tle q h1) ht2
    · exact ht1
  · intro s1 h1 s2 h2
    rcases (hmem s1).1 h1 with g1 | g1 <;> rcases (hmem s2).1 h2 with g2 | g2
    · exact h.far s1 g1 s2 g2
    · rw [g2]; exact (hq s1 g1).2.1
    · rw [g1]; exact (hq s2 g2).1
    · rw [g1, g2]; omega
  · intro s1 h1 s2 h2 e1 e2
    rcases (hmem s1).1 h1 with g1 | g1 <;> rcases (hmem s2).1 h2 with g2 | g2
    · exact h.ord s1 g1 s2 g2 e1 e2
    · rw [g2] at e1 e2 ⊢; exact ((hq s1 g1).2.2.1 e1).1 e2
    · rw [g1] at e1 e2 ⊢; exact ((hq s2 g2).2.2.1 e1.symm).2 e2
    · rw [g1, g2] at e2; omega
  · intro s1 h1 s2 h2 e1
    rcases (hmem s1).1 h1 with g1 | g1 <;> rcases (hmem s2).1 h2 with g2 | g2
    · exact h.ord2 s1 g1 s2 g2 e1
    · rw [g2] at e1 ⊢; exact (hq s1 g1).2.2.2.1 e1
    · rw [g1] at e1 ⊢; exact (hq s2 g2).2.2.2.2 e1
    · rw [g1, g2] at e1; omega
  · intro x y hx hy hr q hq'
    rcases (hmem q).1 hq' with h1 | rfl
    · exact h.mono x y hx hy hr q h1
    · exact hm x y hx hy hr
  · intro q hq'
    rcases (hmem q).1 hq' with h1 | rfl
    · exact h.spots q h1
    · exact hc
  · intro x y hx hy hr hh
    have := h.next x y hx hy hr hh
    unfold NextK at this ⊢
    split at this
    · rename_i hs; rw [if_pos hs]; exact this.push f s t
    · rename_i hs; rw [if_neg hs]; exact ⟨fun a => (this.1 a).push f s t, fun a => (this.2 a).push f s t⟩
  · intro q hq'
    rcases (hmem q).1 hq' with h1 | rfl
    · exact h.lowS q h1
    · exact hl
theorem InvK.change {hole : Option (Nat × Nat)} {st : Srch} {G Q : Nat → Nat → Nat} {κ : Nat → Nat} (h : InvK o f hole st G Q κ) (p : Spot) (dx dy kind nk : Nat) (hpt : p.turn ≤ st.turns)
    (hx : p.x + dx ≤ o.length) (hy : p.y + dy ≤ f.length) (hnk : nk ≤ 2 * κ p.turn + 1)
    (hq : ∀ q ∈ st.op, p.far ≤ q.far ∧ q.far ≤ p.far + 1 ∧ (q.far = p.far → κ p.turn < κ q.turn) ∧ (q.far = p.far + 1 → κ q.turn < nk))
    (hm : ∀ x y, x ≤ o.length → y ≤ f.length → st.at f.length x y ≠ 0 → le2 (G x y) (Q x y) p.far (κ p.turn))
    (hc : CostK o f st G Q (p.x + dx) (p.y + dy) kind (p.far + 1) nk) (hl : Low o f (p.x + dx) (p.y + dy) (p.far + 1) nk) :
    ∃ κ', (∀ t, t ≤ st.turns → κ' t = κ t) ∧ InvK o f hole (changeM f.length st p dx dy kind) G Q κ' ∧ NearK f (changeM f.length st p dx dy kind) G Q κ' (p.x + dx) (p.y + dy) (p.far + 1) nk ∧
      (changeM f.length st p dx dy kind).led = st.led ∧ st.turns ≤ (changeM f.length st p dx dy kind).turns ∧ (∀ x y c k, NearK f st G Q κ x y c k → NearK f (changeM f.length st p dx dy kind) G Q κ' x y c k) ∧
      (∀ q ∈ (changeM f.length st p dx dy kind).op, p.far ≤ q.far ∧ q.far ≤ p.far + 1 ∧ (q.far = p.far → κ' p.turn < κ' q.turn) ∧ (q.far = p.far + 1 → κ' q.turn < nk + 1)) := by
  unfold changeM
  split
  · have hk : ∀ t, t ≤ st.turns → (fun t => if t = st.turns + 1 then nk else κ t) t = κ t := by intro t ht; simp only; rw [if_neg (by omega)]
    have hnew : (fun t => if t = st.turns + 1 then nk else κ t) (st.turns + 1) = nk := by simp
    generalize (fun t => if t = st.turns + 1 then nk else κ t) = κ' at hk hnew
    have h' := h.kap o f hk
    have hpush := h'.push o f ⟨p.x + dx, p.y + dy, p.far + 1, st.turns + 1, kind⟩ (st.turns + 1) (fun q hq' => by have := h.tle q hq'; show q.turn ≠ st.turns + 1; omega) (Nat.le_refl _) (by omega) (by
        intro q hq'
        obtain ⟨a, b, c, d⟩ := hq q hq'
        have ht := h.tle q hq'
        simp only [hnew, hk _ ht]
        refine ⟨by omega, by omega, fun e => ⟨fun _ => d e, fun hlt => by omega⟩, fun e => by omega, fun e => ?_⟩
        have := c (by omega)
        omega) (by
        intro x y hx' hy' hr
        have := hm x y hx' hy' hr
        unfold le2 at *
        simp only [hnew]
        omega) (by simp only [hnew]; exact hc) (by simp only [hnew]; exact hl)
    refine ⟨κ', hk, hpush, .inr ⟨⟨p.x + dx, p.y + dy, p.far + 1, st.turns + 1, kind⟩, (pushM_perm st.op _).mem_iff.2 (by simp), rfl, rfl, by simp only [hnew]; exact .inr ⟨rfl, Nat.le_refl _⟩⟩, rfl, by simp, fun x y c k hn => (hn.kap f h.tle hk).push f _ _, ?_⟩
    intro q hq'
    rw [(pushM_perm st.op _).mem_iff, List.mem_append] at hq'
    rcases hq' with hq' | hq'
    · obtain ⟨a, b, c, d⟩ := hq q hq'
      rw [hk _ hpt, hk _ (h.tle q hq')]
      exact ⟨a, b, c, fun e => Nat.lt_succ_of_lt (d e)⟩
    · simp at hq'
      subst hq'
      simp only [hnew]
      exact ⟨by omega, by omega, fun e => by omega, fun _ => by omega⟩
  · rename_i h0
    refine ⟨κ, fun _ _ => rfl, h, .inl ⟨h0, ?_⟩, rfl, Nat.le_refl _, fun _ _ _ _ hn => hn, fun q hq' => ?_⟩
    · have := hm _ _ hx hy h0
      unfold le2 at *
      omega
    · obtain ⟨a, b, c, d⟩ := hq q hq'
      exact ⟨a, b, c, fun e => Nat.lt_succ_of_lt (d e)⟩

theorem InvK.round {st : Srch} {G Q : Nat → Nat → Nat} {κ : Nat → Nat} (hi : Inv o f st) (h : InvK o f none st G Q κ) (he : st.at f.length o.length f.length = 0) : ∃ G' Q' κ', InvK o f none (roundM o f st) G' Q' κ' := by
  have hne := hi.open_ne he
  have hperm := pop_perm st.op hne
  have hmem : ∀ q, q ∈ st.op ↔ q ∈ popR st.op ∨ q = popS st.op := by intro q; rw [← hperm.mem_iff]; simp
  have hu := h.uniq
  rw [← (hperm.map (·.turn)).nodup_iff, List.map_append, List.nodup_append] at hu
  obtain ⟨hu1, _, hu2⟩ := hu
  have hut : ∀ q ∈ popR st.op, q.turn ≠ (popS st.op).turn := fun q hq => hu2 _ (List.mem_map.2 ⟨q, hq, rfl⟩) _ (by simp)
  obtain ⟨hh, _, hmin⟩ := pop_heap h.heap hne
  have pmem : popS st.op ∈ st.op := (hmem _).2 (.inr rfl)
  have hmin1 : ∀ s ∈ st.op, (popS st.op).far ≤ s.far ∧ ((popS st.op).far = s.far → (popS st.op).turn ≤ s.turn) := by
    intro s hs
    have := hmin s hs
    unfold Spot.lt at this
    omega
  have hmin2 : ∀ s ∈ st.op, le2 (popS st.op).far (κ (popS st.op).turn) s.far (κ s.turn) := by
    intro s hs
    obtain ⟨a, b⟩ := hmin1 s hs
    by_cases e : (popS st.op).far = s.far
    · refine .inr ⟨e, ?_⟩
      by_cases e2 : (popS st.op).turn = s.turn
      · rw [e2]; exact Nat.le_refl _
      · have := h.ord _ pmem s hs e (by have := b e; omega)
        omega
    · exact .inl (by omega)
  obtain ⟨px, py, _, ptn, pl⟩ := hi.spots _ pmem
  have pc := h.spots _ pmem
  have plow := h.lowS _ pmem
  have pm : ∀ x y, x ≤ o.length → y ≤ f.length → st.at f.length x y ≠ 0 → le2 (G x y) (Q x y) (popS st.op).far (κ (popS st.op).turn) := fun x y a b c => h.mono x y a b c _ pmem
  have hrel : ∀ q ∈ popR st.op, (popS st.op).far ≤ q.far ∧ q.far ≤ (popS st.op).far + 1 ∧ (q.far = (popS st.op).far → κ (popS st.op).turn < κ q.turn) ∧ (q.far = (popS st.op).far + 1 → κ q.turn < 2 * κ (popS st.op).turn) := by
    intro q hq
    have hq' := (hmem q).2 (.inl hq)
    refine ⟨(hmin1 q hq').1, h.far q hq' _ pmem, fun e => ?_, fun e => h.ord2 q hq' _ pmem e⟩
    have := (hmin1 q hq').2 e.symm
    have := hut q hq
    exact h.ord _ pmem q hq' e.symm (by omega)
  have ptop : (popS st.op).x = o.length → (popS st.op).y = f.length → (popS st.op).far = dist o f ∧ κ (popS st.op).turn ≤ key o f := by
    intro e1 e2
    obtain ⟨s, hs, g1, g2⟩ := goodK o f h he
    have h1 := hmin2 s hs
    have h2 := plow.1
    have e3 : rd o f o.length f.length = 0 := by unfold rd; simp [dist_nil_l]
    rw [e1, e2, e3] at h2
    unfold le2 at h1
    have e4 : rd o f s.x s.y = 0 := by omega
    rw [e4] at g2
    simp at g2
    omega
  unfold roundM settleM
  simp only
  generalize hs : popS st.op = s at *
  have hat : ∀ x y, Srch.at { op := popR st.op, turns := st.turns, led := st.led } f.length x y = st.at f.length x y := fun _ _ => rfl
  rw [hat]
  split
  · rename_i h0
    have hset := fun x y (hy : y ≤ f.length) => at_set (st := st) (n := o.length) (m := f.length) (x0 := s.x) (y0 := s.y) (x := x) (y := y) (k := s.kind) hi.len px py hy (popR st.op) st.turns
    generalize hG : (fun x y => if x = s.x ∧ y = s.y then s.far else G x y) = G'
    generalize hQ : (fun x y => if x = s.x ∧ y = s.y then κ s.turn else Q x y) = Q'
    have hG1 : G' s.x s.y = s.far := by rw [← hG]; simp
    have hQ1 : Q' s.x s.y = κ s.turn := by rw [← hQ]; simp
    have hG2 : ∀ x y, ¬ (x = s.x ∧ y = s.y) → G' x y = G x y ∧ Q' x y = Q x y := by intro x y hn; rw [← hG, ← hQ]; simp only; rw [if_neg hn, if_neg hn]; exact ⟨rfl, rfl⟩
    have hG3 : ∀ x y, st.at f.length x y ≠ 0 → G' x y = G x y ∧ Q' x y = Q x y := by
      intro x y hr
      refine hG2 x y ?_
      rintro ⟨rfl, rfl⟩
      exact hr h0
    have hmono : ∀ x y, y ≤ f.length → st.at f.length x y ≠ 0 → Srch.at { op := popR st.op, turns := st.turns, led := st.led.set (idx f.length s.x s.y) s.kind } f.length x y ≠ 0 := by
      intro x y hy hr
      rw [hset x y hy]
      split
      · exact pl.pos
      · exact hr
    have hcost : ∀ x y k c d, y ≤ f.length → CostK o f st G Q x y k c d → CostK o f { op := popR st.op, turns := st.turns, led := st.led.set (idx f.length s.x s.y) s.kind } G' Q' x y k c d := by
      intro x y k c d hy hc
      rcases hc with hc | ⟨h1, h2, h3, h4, h5, h6, h7⟩ | ⟨h1, h2, h3, h4, h5, h6⟩ | ⟨h1, h2, h3, h4, h5, h6⟩
      · exact .inl hc
      · exact .inr (.inl ⟨h1, h2, h3, hmono _ _ (by omega) h4, h5, by rw [(hG3 _ _ h4).1]; exact h6, by rw [(hG3 _ _ h4).2]; exact h7⟩)
      · exact .inr (.inr (.inl ⟨h1, h2, hmono _ _ hy h3, h4, by rw [(hG3 _ _ h3).1]; exact h5, by rw [(hG3 _ _ h3).2]; exact h6⟩))
      · exact .inr (.inr (.inr ⟨h1, h2, hmono _ _ (by omega) h3, h4, by rw [(hG3 _ _ h3).1]; exact h5, by rw [(hG3 _ _ h3).2]; exact h6⟩))
    have hnear : ∀ x y c k, y ≤ f.length → NearK f st G Q κ x y c k → NearK f { op := popR st.op, turns := st.turns, led := st.led.set (idx f.length s.x s.y) s.kind } G' Q' κ x y c k := by
      intro x y c k hy hn
      rcases hn with ⟨h1, h2⟩ | ⟨q, hq, e1, e2, e3⟩
      · exact .inl ⟨hmono x y hy h1, by rw [(hG3 _ _ h1).1, (hG3 _ _ h1).2]; exact h2⟩
      · by_cases e : x = s.x ∧ y = s.y
        · left
          obtain ⟨rfl, rfl⟩ := e
          refine ⟨by rw [hset _ _ hy, if_pos ⟨rfl, rfl⟩]; exact pl.pos, ?_⟩
          rw [hG1, hQ1]
          have := hmin2 q hq
          unfold le2 at *
          omega
        · rcases (hmem q).1 hq with hq | rfl
          · exact .inr ⟨q, hq, e1, e2, e3⟩
          · exact absurd ⟨e1.symm, e2.symm⟩ e
    have hGle : ∀ x y, x ≤ o.length → y ≤ f.length → Srch.at { op := popR st.op, turns := st.turns, led := st.led.set (idx f.length s.x s.y) s.kind } f.length x y ≠ 0 → le2 (G' x y) (Q' x y) s.far (κ s.turn) := by
      intro x y hx hy hr
      by_cases e : x = s.x ∧ y = s.y
      · rw [e.1, e.2, hG1, hQ1]; exact .inr ⟨rfl, Nat.le_refl _⟩
      · rw [hset x y hy, if_neg e] at hr
        rw [(hG2 x y e).1, (hG2 x y e).2]
        exact pm x y hx hy hr
    have hhere : Srch.at { op := popR st.op, turns := st.turns, led := st.led.set (idx f.length s.x s.y) s.kind } f.length s.x s.y ≠ 0 := by rw [hset _ _ py, if_pos ⟨rfl, rfl⟩]; exact pl.pos
    have i0 : InvK o f (some (s.x, s.y)) { op := popR st.op, turns := st.turns, led := st.led.set (idx f.length s.x s.y) s.kind } G' Q' κ := by
      refine ⟨hh, hu1, fun q hq => h.tle q ((hmem q).2 (.inl hq)), fun q1 h1 q2 h2 => h.far q1 ((hmem q1).2 (.inl h1)) q2 ((hmem q2).2 (.inl h2)), fun q1 h1 q2 h2 => h.ord q1 ((hmem q1).2 (.inl h1)) q2 ((hmem q2).2 (.inl h2)), fun q1 h1 q2 h2 => h.ord2 q1 ((hmem q1).2 (.inl h1)) q2 ((hmem q2).2 (.inl h2)), ?_, ?_, ?_, hnear 0 0 0 0 (by omega) h.start, ?_, ?_, fun q hq => h.lowS q ((hmem q).2 (.inl hq)), ?_⟩
      · intro x y hx hy hr q hq
        have h1 := hGle x y hx hy hr
        have h2 := hmin2 q ((hmem q).2 (.inl hq))
        unfold le2 at *
        omega
      · intro q hq
        have hq' := (hmem q).2 (.inl hq)
        exact hcost _ _ _ _ _ (hi.spots q hq').2.1 (h.spots q hq')
      · intro x y hx hy hr
        by_cases e : x = s.x ∧ y = s.y
        · rw [hset x y hy, if_pos e, e.1, e.2, hG1, hQ1]
          exact hcost _ _ _ _ _ py pc
        · rw [hset x y hy, if_neg e] at hr ⊢
          rw [(hG2 x y e).1, (hG2 x y e).2]
          exact hcost _ _ _ _ _ hy (h.known x y hx hy hr)
      · intro x y hx hy hr hne'
        have e : ¬ (x = s.x ∧ y = s.y) := by rintro ⟨rfl, rfl⟩; exact hne' rfl
        rw [hset x y hy, if_neg e] at hr
        have := h.next x y hx hy hr (by simp)
        unfold NextK at this ⊢
        rw [(hG2 x y e).1, (hG2 x y e).2]
        split at this
        · rename_i hs'
          have hlt := same_lt o f hs'
          rw [if_pos hs']
          exact hnear _ _ _ _ (by omega) this
        · rename_i hs'
          rw [if_neg hs']
          exact ⟨fun a => hnear _ _ _ _ hy (this.1 a), fun a => hnear _ _ _ _ (by omega) (this.2 a)⟩
      · intro x y hx hy hr
        by_cases e : x = s.x ∧ y = s.y
        · rw [e.1, e.2, hG1, hQ1]; exact plow
        · rw [hset x y hy, if_neg e] at hr
          rw [(hG2 x y e).1, (hG2 x y e).2]
          exact h.low x y hx hy hr
      · intro hr
        by_cases e : o.length = s.x ∧ f.length = s.y
        · have h1 : G' o.length f.length = s.far := by rw [e.1, e.2]; exact hG1
          have h2 : Q' o.length f.length = κ s.turn := by rw [e.1, e.2]; exact hQ1
          rw [h1, h2]
          exact ptop e.1.symm e.2.symm
        · rw [hset _ _ (Nat.le_refl _), if_neg e] at hr
          exact absurd he hr
    have close : ∀ (S : Srch) (K : Nat → Nat), InvK o f (some (s.x, s.y)) S G' Q' K → NextK o f S G' Q' K s.x s.y → InvK o f none S G' Q' K := by
      intro S K hS hN
      refine ⟨hS.heap, hS.uniq, hS.tle, hS.far, hS.ord, hS.ord2, hS.mono, hS.spots, hS.known, hS.start, ?_, hS.low, hS.lowS, hS.top⟩
      intro x y hx hy hr _
      by_cases e : x = s.x ∧ y = s.y
      · rw [e.1, e.2]; exact hN
      · exact hS.next x y hx hy hr (by simp only [ne_eq, Option.some.injEq, Prod.mk.injEq]; intro hh; exact e ⟨hh.1.symm, hh.2.symm⟩)
    split
    · rename_i hsame
      have hlt := same_lt o f hsame
      refine ⟨G', Q', κ, close _ _ (i0.push o f ⟨s.x + 1, s.y + 1, s.far, s.turn, 32⟩ st.turns hut ptn (Nat.le_refl _) ?_ hGle (.inr (.inl ⟨rfl, by simp, by simp, by simpa using hhere, by simpa using hsame, by simp [hG1], by simp [hQ1]⟩)) (plow.keep o f hsame)) ?_⟩
      · intro q hq
        obtain ⟨a, b, c, d⟩ := hrel q hq
        have hq' := (hmem q).2 (.inl hq)
        refine ⟨by simp only; omega, by simp only; omega, fun e => ⟨fun e2 => ?_, fun e2 => ?_⟩, fun e => d e, fun e => by simp only at e; omega⟩
        · have := (hmin1 q hq').2 e.symm
          simp only at e2
          omega
        · exact c e
      · unfold NextK
        rw [if_pos hsame]
        exact .inr ⟨⟨s.x + 1, s.y + 1, s.far, s.turn, 32⟩, (pushM_perm _ _).mem_iff.2 (by simp), rfl, rfl, by rw [hG1, hQ1]; exact .inr ⟨rfl, Nat.le_refl _⟩⟩
    · rename_i hsame
      have hsf : same o f s.x s.y = false := by simpa using hsame
      have key1 : ∃ (st2 : Srch) (κ2 : Nat → Nat), st2 = (if s.x < o.length then changeM f.length { op := popR st.op, turns := st.turns, led := st.led.set (idx f.length s.x s.y) s.kind } s 1 0 45 else { op := popR st.op, turns := st.turns, led := st.led.set (idx f.length s.x s.y) s.kind }) ∧
          κ2 s.turn = κ s.turn ∧ st.turns ≤ st2.turns ∧ InvK o f (some (s.x, s.y)) st2 G' Q' κ2 ∧ (s.x < o.length → NearK f st2 G' Q' κ2 (s.x + 1) s.y (s.far + 1) (2 * κ s.turn)) ∧ st2.led = st.led.set (idx f.length s.x s.y) s.kind ∧
          (∀ q ∈ st2.op, s.far ≤ q.far ∧ q.far ≤ s.far + 1 ∧ (q.far = s.far → κ2 s.turn < κ2 q.turn) ∧ (q.far = s.far + 1 → κ2 q.turn < 2 * κ s.turn + 1)) := by
        split
        · rename_i hxl
          obtain ⟨κ2, c1, c2, c3, c4, c5, c6, c7⟩ := i0.change o f s 1 0 45 (2 * κ s.turn) ptn (by omega) (by omega) (by omega) hrel hGle (.inr (.inr (.inl ⟨rfl, by omega, by simpa using hhere, by simpa using hsf, by simp [hG1], by simp [hQ1]⟩))) (by simpa using plow.drop o f hsf hxl py)
          exact ⟨_, κ2, rfl, c1 _ ptn, c5, c2, fun _ => by simpa using c3, c4, c7⟩
        · exact ⟨_, κ, rfl, rfl, Nat.le_refl _, i0, fun hh => absurd hh (by assumption), rfl, fun q hq => by
            obtain ⟨a, b, c, d⟩ := hrel q hq
            exact ⟨a, b, c, fun e => Nat.lt_succ_of_lt (d e)⟩⟩
      obtain ⟨st2, κ2, hst2, k1, k2, j1, j2, j3, j4⟩ := key1
      rw [← hst2]
      have hat2 : ∀ x y, st2.at f.length x y = Srch.at { op := popR st.op, turns := st.turns, led := st.led.set (idx f.length s.x s.y) s.kind } f.length x y := by intro x y; unfold Srch.at; rw [j3]
      split
      · rename_i hyl
        obtain ⟨κ3, c1, c2, c3, c4, c5, c6, c7⟩ := j1.change o f s 0 1 43 (2 * κ s.turn + 1) (by omega) (by omega) (by omega) (by omega) j4 (fun x y hx hy hr => by rw [k1]; exact hGle x y hx hy (by rw [← hat2]; exact hr)) (.inr (.inr (.inr ⟨rfl, by omega, by rw [hat2]; simpa using hhere, by simpa using hsf, by simp [hG1], by simp [hQ1]⟩))) (by simpa using plow.add o f hsf px hyl)
        refine ⟨G', Q', κ3, close _ _ c2 ?_⟩
        unfold NextK
        rw [if_neg hsame, hG1, hQ1]
        exact ⟨fun hx => c6 _ _ _ _ (j2 hx), fun _ => by simpa using c3⟩
      · rename_i hyl
        refine ⟨G', Q', κ2, close _ _ j1 ?_⟩
        unfold NextK
        rw [if_neg hsame, hG1, hQ1]
        exact ⟨j2, fun hy => absurd hy hyl⟩
  · rename_i h0
    refine ⟨G, Q, κ, ?_⟩
    have hnear : ∀ x y c k, x ≤ o.length → y ≤ f.length → NearK f st G Q κ x y c k → NearK f { op := popR st.op, turns := st.turns, led := st.led } G Q κ x y c k := by
      intro x y c k hx hy hn
      rcases hn with h1 | ⟨q, hq, e1, e2, e3⟩
      · exact .inl h1
      · rcases (hmem q).1 hq with hq' | rfl
        · exact .inr ⟨q, hq', e1, e2, e3⟩
        · left
          subst e1 e2
          refine ⟨h0, ?_⟩
          have := pm _ _ hx hy h0
          unfold le2 at *
          omega
    refine ⟨hh, hu1, fun q hq => h.tle q ((hmem q).2 (.inl hq)), fun q1 h1 q2 h2 => h.far q1 ((hmem q1).2 (.inl h1)) q2 ((hmem q2).2 (.inl h2)), fun q1 h1 q2 h2 => h.ord q1 ((hmem q1).2 (.inl h1)) q2 ((hmem q2).2 (.inl h2)), fun q1 h1 q2 h2 => h.ord2 q1 ((hmem q1).2 (.inl h1)) q2 ((hmem q2).2 (.inl h2)),
      fun x y hx hy hr q hq => h.mono x y hx hy hr q ((hmem q).2 (.inl hq)), fun q hq => h.spots q ((hmem q).2 (.inl hq)), h.known, hnear 0 0 0 0 (by omega) (by omega) h.start, ?_, h.low, fun q hq => h.lowS q ((hmem q).2 (.inl hq)), h.top⟩
    intro x y hx hy hr _
    have := h.next x y hx hy hr (by simp)
    unfold NextK at this ⊢
    split at this
    · rename_i hs'
      have hlt := same_lt o f hs'
      rw [if_pos hs']
      exact hnear _ _ _ _ (by omega) (by omega) this
    · rename_i hs'
      rw [if_neg hs']
      exact ⟨fun a => hnear _ _ _ _ (by omega) hy (this.1 a), fun a => hnear _ _ _ _ hx (by omega) (this.2 a)⟩

theorem startK : InvK o f none (startM o f) (fun _ _ => 0) (fun _ _ => 0) (fun _ => 0) := by
  have h0 : ∀ x y, (startM o f).at f.length x y = 0 := by
    intro x y
    simp [startM, Srch.at, List.getD, List.getElem?_replicate]
    split <;> rfl
  have hop : ∀ s ∈ (startM o f).op, s = ⟨0, 0, 0, 0, 46⟩ := by intro s hs; simpa [startM] using hs
  refine ⟨?_, by simp [startM], ?_, ?_, ?_, ?_, fun x y _ _ hr => absurd (h0 x y) hr, ?_, fun x y _ _ hr => absurd (h0 x y) hr, .inr ⟨⟨0, 0, 0, 0, 46⟩, by simp [startM], rfl, rfl, .inr ⟨rfl, Nat.le_refl _⟩⟩, fun x y _ _ hr => absurd (h0 x y) hr, fun x y _ _ hr => absurd (h0 x y) hr, ?_, fun hr => absurd (h0 _ _) hr⟩
  · intro i hi hl; simp [startM] at hl; omega
  · intro s hs; rw [hop s hs]; exact Nat.zero_le _
  · intro s hs q hq; rw [hop s hs, hop q hq]; simp
  · intro s hs q hq _ hlt; rw [hop s hs, hop q hq] at hlt; simp at hlt
  · intro s hs q hq e; rw [hop s hs, hop q hq] at e; simp at e
  · intro s hs; rw [hop s hs]; exact .inl ⟨rfl, rfl, rfl, rfl, rfl⟩
  · intro s hs; rw [hop s hs]; exact ⟨by simp [rd], fun _ => by simp [kb]⟩
theorem searchM_K : ∀ (k : Nat) (st : Srch) (G Q : Nat → Nat → Nat) (κ : Nat → Nat), Inv o f st → InvK o f none st G Q κ → ∃ G' Q' κ', InvK o f none (searchM o f k st) G' Q' κ' := by
  intro k
  induction k with
  | zero => intro st G Q κ _ hG; exact ⟨G, Q, κ, hG⟩
  | succ k ih =>
    intro st G Q κ hi hG
    by_cases he : st.at f.length o.length f.length = 0
    · simp only [searchM, he, if_true]
      obtain ⟨G1, Q1, κ1, hG1⟩ := hG.round o f hi he
      exact ih _ G1 Q1 κ1 (hi.round (hi.open_ne he)).1 hG1
    · rw [searchM_done he]; exact ⟨G, Q, κ, hG⟩
theorem backM_spec {st : Srch} {G Q : Nat → Nat → Nat} {κ : Nat → Nat} (h : InvK o f none st G Q κ) : ∀ (k x y : Nat), x + y ≤ k → x ≤ o.length → y ≤ f.length → st.at f.length x y ≠ 0 →
    G x y + rd o f x y = dist o f → Q x y * 2 ^ rd o f x y + kb o f x y = key o f → (backM o f st k x y).reverse ++ sp o f x y = spec o f := by
  intro k
  induction k with
  | zero =>
    intro x y hk _ _ _ _ _
    obtain rfl : x = 0 := by omega
    obtain rfl : y = 0 := by omega
    simp [backM, sp]
  | succ k ih =>
    intro x y hk hx hy hr hD hK
    unfold backM
    split
    · rename_i e
      rw [e.1, e.2]
      simp [sp]
    · rename_i hne
      have hc := h.known x y hx hy hr
      rcases hc with ⟨_, h1, h2, _⟩ | ⟨h1, h2, h3, h4, h5, h6, h7⟩ | ⟨h1, h2, h3, h4, h5, h6⟩ | ⟨h1, h2, h3, h4, h5, h6⟩
      · exact absurd ⟨h1, h2⟩ hne
      · rw [if_pos h1]
        obtain ⟨x, rfl⟩ : ∃ x', x = x' + 1 := ⟨x - 1, by omega⟩
        obtain ⟨y, rfl⟩ : ∃ y', y = y' + 1 := ⟨y - 1, by omega⟩
        simp only [Nat.add_sub_cancel] at *
        have hs := at_same o f h5
        have := ih x y (by omega) (by omega) (by omega) h4 (by rw [rd_same o f h5, ← h6]; exact hD) (by rw [rd_same o f h5, hs.1, ← h7]; exact hK)
        rw [hs.2] at this
        simpa using this
      · rw [if_neg (by omega), if_pos h1]
        obtain ⟨x, rfl⟩ : ∃ x', x = x' + 1 := ⟨x - 1, by omega⟩
        simp only [Nat.add_sub_cancel] at *
        have hl := (h.low x y (by omega) hy h3).1
        have hr1 := rd_x o f y (show x < o.length by omega)
        have hd : Drops o f x y := by
          by_cases hd : Drops o f x y
          · exact hd
          · have hy' : y < f.length := by
              by_cases ey : y < f.length
              · exact ey
              · exact absurd ⟨by omega, .inl (by omega)⟩ hd
            have := (at_add o f h4 (by omega) hy' hd).2.2.2 (by omega)
            omega
        obtain ⟨e1, e2, e3⟩ := at_drop o f h4 hy hd
        have := ih x y (by omega) (by omega) (by omega) h3 (by omega) (by rw [e1, e2, pw1, ← pw2, ← h6]; exact hK)
        rw [e3] at this
        simpa using this
      · rw [if_neg (by omega), if_neg (by omega), h1]
        obtain ⟨y, rfl⟩ : ∃ y', y = y' + 1 := ⟨y - 1, by omega⟩
        simp only [Nat.add_sub_cancel] at *
        have hl := h.low x y hx (by omega) h3
        have hl1 := hl.1
        have hr1 := rd_y o f x (show y < f.length by omega)
        have e0 : rd o f x y = rd o f x (y + 1) + 1 := by omega
        have hl2 := hl.2 (by omega)
        rw [e0, pw1] at hl2
        rw [h6, pw3] at hK
        have hd : ¬ Drops o f x y := by
          intro hd
          obtain ⟨e1, e2, _⟩ := at_drop o f h4 (by omega) hd
          have h8 := kb_lt o f (x + 1) y
          rw [show rd o f (x + 1) y = rd o f x (y + 1) by omega] at h8
          omega
        obtain ⟨e1, e2, e3, _⟩ := at_add o f h4 hx (by omega) hd
        have := ih x y (by omega) (by omega) (by omega) h3 (by omega) (by rw [e1, e2, pw1]; omega)
        rw [e3] at this
        simpa using this
/-- the way that is found is the one that the document asks for -/
theorem wayM_spec : wayM o f = spec o f := by
  obtain ⟨_, he⟩ := foundM_inv o f
  obtain ⟨G, Q, κ, hG⟩ := searchM_K o f (mu (startM o f)) (startM o f) _ _ _ (startM_inv o f) (startK o f)
  have hK : InvK o f none (foundM o f) G Q κ := hG
  have e3 : rd o f o.length f.length = 0 := by unfold rd; simp [dist_nil_l]
  have e4 : kb o f o.length f.length = 0 := by unfold kb; rw [List.drop_length, List.drop_length]; rfl
  have e5 : sp o f o.length f.length = [] := by unfold sp; rw [List.drop_length, List.drop_length]; rfl
  obtain ⟨t1, t2⟩ := hK.top he
  have hl := hK.low o.length f.length (Nat.le_refl _) (Nat.le_refl _) he
  have hl2 := hl.2 (by rw [e3, t1]; omega)
  rw [e3, e4] at hl2
  have := backM_spec o f hK (o.length + f.length) o.length f.length (Nat.le_refl _) (Nat.le_refl _) (Nat.le_refl _) he (by rw [e3, t1]; omega) (by rw [e3, e4]; simp at hl2 ⊢; omega)
  rw [e5] at this
  unfold wayM
  simpa using this
end
end Dn

namespace Go.Proofs.YtcclgodahlinbaaGreatDoor
open Go.RowKit Go
set_option maxRecDepth 100000

/-! ### ways between texts whose lines are all different -/
section
variable {α : Type} [DecidableEq α]
theorem dist_new_r : ∀ (l r : List α) (b : α), b ∉ l → Dn.dist l (b :: r) = Dn.dist l r + 1
  | [], r, b, _ => by rw [Dn.dist_nil_l, Dn.dist_nil_l]; simp
  | c :: l, r, b, h => by
    have hne : c ≠ b := fun e => h (by simp [e])
    have ih := dist_new_r l r b (fun e => h (List.mem_cons_of_mem _ e))
    have h1 := Dn.dist_l1 c l r
    rw [Dn.dist_ne hne, ih]
    omega
theorem dist_new_l (l r : List α) (a : α) (h : a ∉ r) : Dn.dist (a :: l) r = Dn.dist l r + 1 := by
  rw [Dn.dist_comm _ _ _ (Nat.le_refl _), dist_new_r r l a h, Dn.dist_comm _ _ _ (Nat.le_refl _)]
theorem dist_self (l : List α) : Dn.dist l l = 0 := by
  induction l with
  | nil => rw [Dn.dist_nil_l]; rfl
  | cons a l ih => rw [Dn.dist_same, ih]
theorem spec_keep (a : α) (l r : List α) : Dn.spec (a :: l) (a :: r) = ⟨32, a⟩ :: Dn.spec l r := by rw [Dn.spec_cc, if_pos rfl]
theorem spec_keeps (A l r : List α) : Dn.spec (A ++ l) (A ++ r) = A.map (fun a => ⟨32, a⟩) ++ Dn.spec l r := by
  induction A with
  | nil => rfl
  | cons a A ih => rw [List.cons_append, List.cons_append, spec_keep, ih]; rfl
theorem spec_self (l : List α) : Dn.spec l l = l.map (fun a => ⟨32, a⟩) := by
  have := spec_keeps l [] []
  rw [List.append_nil] at this
  rw [this, Dn.spec_nn, List.append_nil]
theorem spec_drop {a b : α} {l r : List α} (h : a ≠ b) (hd : Dn.dist l (b :: r) ≤ Dn.dist (a :: l) r) : Dn.spec (a :: l) (b :: r) = ⟨45, a⟩ :: Dn.spec l (b :: r) := by rw [Dn.spec_cc, if_neg h, if_pos hd]
theorem spec_add {a b : α} {l r : List α} (h : a ≠ b) (hd : ¬ Dn.dist l (b :: r) ≤ Dn.dist (a :: l) r) : Dn.spec (a :: l) (b :: r) = ⟨43, b⟩ :: Dn.spec (a :: l) r := by rw [Dn.spec_cc, if_neg h, if_neg hd]
/-- a line in another's place -/
theorem spec_change {a b m : α} {l r : List α} (h1 : a ≠ b) (h2 : a ∉ m :: r) (h3 : b ∉ m :: l) (h4 : m ∉ l) : Dn.spec (a :: m :: l) (b :: m :: r) = ⟨45, a⟩ :: ⟨43, b⟩ :: Dn.spec (m :: l) (m :: r) := by
  rw [spec_drop h1 (by rw [dist_new_r _ _ _ h3, dist_new_l _ _ _ h2]; exact Nat.le_refl _)]
  rw [spec_add (fun e => h3 (by simp [e])) (by rw [dist_new_r _ _ _ (fun e => h3 (List.mem_cons_of_mem _ e)), dist_new_r _ _ _ h4, Dn.dist_same]; omega)]
theorem spec_last {a b : α} (h : a ≠ b) : Dn.spec [a] [b] = [⟨45, a⟩, ⟨43, b⟩] := by
  rw [spec_drop h (by rw [Dn.dist_nil_l, Dn.dist_nil_r]; exact Nat.le_refl _), Dn.spec_nc, Dn.spec_nn]
/-- a line more -/
theorem spec_more {m : α} {B : List α} (h : m ∉ B) (hn : B.Nodup) : Dn.spec B (m :: B) = ⟨43, m⟩ :: B.map (fun a => ⟨32, a⟩) := by
  cases B with
  | nil => rfl
  | cons b B =>
    rw [List.nodup_cons] at hn
    rw [spec_add (fun e => h (by simp [e])) (by rw [dist_new_r _ _ _ (fun e => h (List.mem_cons_of_mem _ e)), dist_new_r _ _ _ hn.1, dist_self, dist_self]; omega), spec_self]
/-- a line less -/
theorem spec_less {c : α} {B : List α} (h : c ∉ B) : Dn.spec (c :: B) B = ⟨45, c⟩ :: B.map (fun a => ⟨32, a⟩) := by
  cases B with
  | nil => rfl
  | cons b B =>
    rw [spec_drop (fun e => h (by simp [e])) (by rw [dist_self]; omega), spec_self]
end

/-! ### Diff and Apply of lines -/
theorem diff_text {L R : List ByteArray} {c : Nat} {m : Int} {w : World} (h : Plain L) (h1 : L.length ≤ 200) (h2 : (textL L).length ≤ 8000) (g : Plain R) (g1 : R.length ≤ 200) (g2 : (textL R).length ≤ 8000) (hc : c ≤ 10)
    (hm : w.cell? ⟨0, 0, none⟩ = some (.int .i64 m)) :
    Calls Tryz.prog 12 #[.string (textB L), .string (textB R), .int .i64 c] w fun e w' =>
      ∃ a cap, e = .returned (.tuple #[.agg #[.slice a (hunksM (Dn.wayM L R) c).length cap], .int .i64 0]) ∧ HunksAt w'.heap.size w' (.slice a (hunksM (Dn.wayM L R) c).length cap) (hunksM (Dn.wayM L R) c) ∧ Below w.heap.size w w' := by
  have e1 : (textB L).size = (textL L).length := rfl
  have e2 : (textB R).size = (textL R).length := rfl
  have := diff_at (checkB_text h h1 h2 g g1 g2 hc) (by omega) (by omega) hm
  unfold diffM at this
  rw [linesB_text h, linesB_text g] at this
  exact this
theorem apply_text {T : List ByteArray} {hs : List HunkM} {fz : Nat} {a : Option Addr} {cap : Nat} {m : Int} {w : World} (h : Plain T) (h1 : T.length ≤ 200) (h2 : (textL T).length ≤ 8000) (hf : fz ≤ 10)
    (hH : HunksAt w.heap.size w (.slice a hs.length cap) hs) (hr : rightM 0 0 hs = true) (hl : hs.length ≤ 1000) (hh : hs.all hunkOkB = true) (hm : w.cell? ⟨0, 0, none⟩ = some (.int .i64 m)) (hm0 : 0 < w.heap.size) :
    Calls Tryz.prog 14 #[.string (textB T), .agg #[.slice a hs.length cap], .int .i64 fz] w fun e w' =>
      ∃ a' c', e = .returned (.tuple #[.string (applyT T fz hs), .slice a' hs.length c', .int .i64 0]) ∧ SeamsAt w' (.slice a' hs.length c') (applyS T fz hs) ∧ Below w.heap.size w w' := by
  have e1 : (textB T).size = (textL T).length := rfl
  rw [List.all_eq_true] at hh
  have := apply_at (isTextB_text T) (largeB_text h h1 h2) hf hH hr hl (by omega) hm hm0 (fun x hx => hunkOk_of (hh x hx)) (by rw [linesB_text h]; omega) (by rw [linesB_text h]; omega)
  rw [linesB_text h] at this
  exact this

/-! ### fuzz beyond the keeps at the ends changes nothing -/
theorem sewM_rounds {T : List ByteArray} {s : SewS} {h : HunkM} {f g : Nat} (e : sewRounds h f = sewRounds h g) : sewM T s h f = sewM T s h g := by
  unfold sewM sewFind
  rw [e]
theorem applyFrom_rounds {T : List ByteArray} {f g : Nat} : ∀ (hs : List HunkM) (s : SewS), (∀ h ∈ hs, sewRounds h f = sewRounds h g) → applyFrom T f s hs = applyFrom T g s hs
  | [], _, _ => rfl
  | h :: hs, s, e => by
    unfold applyFrom
    simp only
    rw [sewM_rounds (e h (by simp)), applyFrom_rounds hs _ (fun x hx => e x (List.mem_cons_of_mem _ hx))]
theorem apply_rounds {T : List ByteArray} {f g : Nat} {hs : List HunkM} (e : ∀ h ∈ hs, sewRounds h f = sewRounds h g) : applyT T f hs = applyT T g hs ∧ applyS T f hs = applyS T g hs := by
  unfold applyT applyS applyK
  rw [List.take_length, applyFrom_rounds hs _ e]
  exact ⟨rfl, rfl⟩

/-! ### the lines of Left and Apart -/
def lineB (i : Nat) : ByteArray := ⟨#[108, 105, 110, 101, 32, UInt8.ofNat (97 + i / 10), UInt8.ofNat (48 + i % 10)]⟩
def lineOk (i : Nat) : Bool := !(lineB i).data.toList.contains 10
def lineNe (i : Nat) : Bool := (List.range 60).all fun j => decide (i = j) || decide (lineB i ≠ lineB j)
theorem lines_ok : (List.range 60).all lineOk = true := by kernel_rfl
theorem lines_ne : (List.range 60).all lineNe = true := by kernel_rfl
theorem lineB_ok {i : Nat} (h : i < 60) : (10 : UInt8) ∉ (lineB i).data.toList := by
  have h1 := (List.all_eq_true.1 lines_ok) i (List.mem_range.2 h)
  unfold lineOk at h1
  simpa using h1
theorem lineB_inj {i j : Nat} (hi : i < 60) (hj : j < 60) (e : lineB i = lineB j) : i = j := by
  have h1 := (List.all_eq_true.1 lines_ne) i (List.mem_range.2 hi)
  unfold lineNe at h1
  have h2 := (List.all_eq_true.1 h1) j (List.mem_range.2 hj)
  simp only [Bool.or_eq_true, decide_eq_true_eq] at h2
  rcases h2 with h2 | h2
  · exact h2
  · exact absurd e h2
def xL (n : Nat) : List ByteArray := (List.range n).map lineB
theorem xL_length (n : Nat) : (xL n).length = n := by simp [xL]
theorem xL_succ (n : Nat) : xL (n + 1) = xL n ++ [lineB n] := by unfold xL; rw [List.range_succ, List.map_append]; rfl
theorem xL_plain {n : Nat} (h : n ≤ 60) : Plain (xL n) := by
  intro s hs
  obtain ⟨i, hi, rfl⟩ := List.mem_map.1 hs
  exact lineB_ok (by have := List.mem_range.1 hi; omega)
theorem textL_bound (L : List ByteArray) (k : Nat) (h : ∀ s ∈ L, s.size ≤ k) : (textL L).length ≤ L.length * (k + 1) := by
  induction L with
  | nil => simp [textL]
  | cons x l ih =>
    have e : textL (x :: l) = (x.data.toList ++ [10]) ++ textL l := rfl
    have h1 := ih (fun s hs => h s (List.mem_cons_of_mem _ hs))
    have h2 : x.data.toList.length = x.size := rfl
    have h3 := h x (by simp)
    rw [e]
    simp only [List.length_append, List.length_cons, List.length_nil, Nat.add_mul]
    omega
end Go.Proofs.YtcclgodahlinbaaGreatDoor

namespace Go.Proofs.YtcclgodahlinbaaGreatDoor
open Go.RowKit Go
set_option maxRecDepth 100000

def firstB : ByteArray := ⟨#[102, 105, 114, 115, 116]⟩
def lastB : ByteArray := ⟨#[108, 97, 115, 116]⟩
def goneB : ByteArray := ⟨#[103, 111, 110, 101]⟩
def yL (n : Nat) : List ByteArray := ((xL n).set 0 firstB).set (n - 1) lastB
def leftZ (g n : Nat) : List ByteArray := if g = 0 then (xL n).set 0 goneB else (xL n).set (n - 1) goneB
def leftT (g n : Nat) : List ByteArray := if g = 0 then (yL n).set 0 goneB else (yL n).set (n - 1) goneB
def leftM (n : Nat) : List ByteArray := (List.range (n - 3)).map fun i => lineB (i + 2)
def leftW (n : Nat) : List StepB := ⟨45, lineB 0⟩ :: ⟨43, firstB⟩ :: ((lineB 1 :: leftM n).map (fun a => ⟨32, a⟩) ++ [⟨45, lineB (n - 1)⟩, ⟨43, lastB⟩])
def leftH (n : Nat) : List HunkM := [⟨1, 2, 1, 2, [⟨45, lineB 0⟩, ⟨43, firstB⟩, ⟨32, lineB 1⟩]⟩, ⟨n - 1, 2, n - 1, 2, [⟨32, lineB (n - 2)⟩, ⟨45, lineB (n - 1)⟩, ⟨43, lastB⟩]⟩]
def leftS (g : Nat) : List SeamM := if g = 0 then [⟨false, 0, 0⟩, ⟨true, 0, 0⟩] else [⟨true, 0, 0⟩, ⟨false, 0, 0⟩]

def eqS (a b : StepB) : Bool := decide (a.kind = b.kind) && decide (a.text = b.text)
def eqLs : List StepB → List StepB → Bool
  | [], [] => true
  | a :: l, b :: r => eqS a b && eqLs l r
  | _, _ => false
def eqH (a b : HunkM) : Bool := decide (a.fr = b.fr) && decide (a.fc = b.fc) && decide (a.tr = b.tr) && decide (a.tc = b.tc) && eqLs a.lines b.lines
def eqHs : List HunkM → List HunkM → Bool
  | [], [] => true
  | a :: l, b :: r => eqH a b && eqHs l r
  | _, _ => false
theorem eqS_of {a b : StepB} (h : eqS a b = true) : a = b := by
  obtain ⟨k, t⟩ := a
  obtain ⟨k', t'⟩ := b
  unfold eqS at h
  simp only [Bool.and_eq_true, decide_eq_true_eq] at h
  rw [h.1, h.2]
theorem eqLs_of : ∀ {l r : List StepB}, eqLs l r = true → l = r
  | [], [], _ => rfl
  | [], _ :: _, h => by simp [eqLs] at h
  | _ :: _, [], h => by simp [eqLs] at h
  | a :: l, b :: r, h => by
    simp only [eqLs, Bool.and_eq_true] at h
    rw [eqS_of h.1, eqLs_of h.2]
theorem eqH_of {a b : HunkM} (h : eqH a b = true) : a = b := by
  obtain ⟨a1, a2, a3, a4, a5⟩ := a
  obtain ⟨b1, b2, b3, b4, b5⟩ := b
  unfold eqH at h
  simp only [Bool.and_eq_true, decide_eq_true_eq] at h
  obtain ⟨⟨⟨⟨h1, h2⟩, h3⟩, h4⟩, h5⟩ := h
  rw [h1, h2, h3, h4, eqLs_of h5]
theorem eqHs_of : ∀ {l r : List HunkM}, eqHs l r = true → l = r
  | [], [], _ => rfl
  | [], _ :: _, h => by simp [eqHs] at h
  | _ :: _, [], h => by simp [eqHs] at h
  | a :: l, b :: r, h => by
    simp only [eqHs, Bool.and_eq_true] at h
    rw [eqH_of h.1, eqHs_of h.2]

def outB (a : ByteArray) (L : List ByteArray) : Bool := L.all fun x => decide (x ≠ a)
theorem out_of {a : ByteArray} {L : List ByteArray} (h : outB a L = true) : a ∉ L := by
  intro ha
  have := (List.all_eq_true.1 h) a ha
  simp at this
def plainB (L : List ByteArray) : Bool := L.all fun s => !s.data.toList.contains 10
theorem plain_of {L : List ByteArray} (h : plainB L = true) : Plain L := by
  intro s hs
  have := (List.all_eq_true.1 h) s hs
  simpa using this
def fitB (L : List ByteArray) : Bool := plainB L && decide (L.length ≤ 200) && decide ((textL L).length ≤ 8000)
/-- the text that Apply makes, as bytes -/
def applyL (T : List ByteArray) (fz : Nat) (hs : List HunkM) : List UInt8 := (applyK T fz hs hs.length).1.t ++ textL (T.drop (applyK T fz hs hs.length).1.en)
theorem applyT_of {T : List ByteArray} {fz : Nat} {hs : List HunkM} {L : List ByteArray} (h : applyL T fz hs = textL L) : applyT T fz hs = textB L := by
  unfold applyT textB
  rw [← h]
  rfl
def eqU : List UInt8 → List UInt8 → Bool
  | [], [] => true
  | a :: l, b :: r => decide (a = b) && eqU l r
  | _, _ => false
theorem eqU_of : ∀ {l r : List UInt8}, eqU l r = true → l = r
  | [], [], _ => rfl
  | [], _ :: _, h => by simp [eqU] at h
  | _ :: _, [], h => by simp [eqU] at h
  | a :: l, b :: r, h => by
    simp only [eqU, Bool.and_eq_true, decide_eq_true_eq] at h
    rw [h.1, eqU_of h.2]
/-- one case of Left, but for the fuzz -/
def leftOne (n : Nat) : Bool :=
  decide (xL n = lineB 0 :: lineB 1 :: (leftM n ++ [lineB (n - 1)])) && decide (yL n = firstB :: lineB 1 :: (leftM n ++ [lastB])) &&
  outB (lineB 0) (lineB 1 :: (leftM n ++ [lastB])) && outB firstB (lineB 1 :: (leftM n ++ [lineB (n - 1)])) && outB (lineB 1) (leftM n ++ [lineB (n - 1)]) && decide (lineB (n - 1) ≠ lastB) && decide (lineB 0 ≠ firstB) &&
  eqHs (hunksM (leftW n) 1) (leftH n) && fitB (xL n) && fitB (yL n) && rightM 0 0 (leftH n) && (leftH n).all hunkOkB && (leftH n).all (fun h => decide (max (keepsK h.lines h.lines.length).1 (keepsK h.lines h.lines.length).2.1 ≤ 1)) &&
  (List.range 2).all fun g => fitB (leftZ g n) && decide ((textL (leftT g n)).length ≤ 8000) && (List.range 2).all fun f => eqU (applyL (leftZ g n) f (leftH n)) (textL (leftT g n)) && (letI := seamDec; decide (applyS (leftZ g n) f (leftH n) = leftS g))
theorem left_all : ((List.range 30).all fun i => leftOne (i + 8)) = true := by kernel_rfl
theorem fit_of {L : List ByteArray} (h : fitB L = true) : Plain L ∧ L.length ≤ 200 ∧ (textL L).length ≤ 8000 := by
  unfold fitB at h
  simp only [Bool.and_eq_true, decide_eq_true_eq] at h
  exact ⟨plain_of h.1.1, h.1.2, h.2⟩
structure LeftFacts (n g f : Nat) : Prop where
  way : hunksM (Dn.wayM (xL n) (yL n)) 1 = leftH n
  fx : Plain (xL n) ∧ (xL n).length ≤ 200 ∧ (textL (xL n)).length ≤ 8000
  fy : Plain (yL n) ∧ (yL n).length ≤ 200 ∧ (textL (yL n)).length ≤ 8000
  fz : Plain (leftZ g n) ∧ (leftZ g n).length ≤ 200 ∧ (textL (leftZ g n)).length ≤ 8000
  ft : (textL (leftT g n)).length ≤ 8000
  right : rightM 0 0 (leftH n) = true
  ok : (leftH n).all hunkOkB = true
  text : applyT (leftZ g n) f (leftH n) = textB (leftT g n)
  seams : applyS (leftZ g n) f (leftH n) = leftS g
theorem left_facts {i g f : Nat} (hi : i < 30) (hg : g < 2) : LeftFacts (8 + i) g f := by
  have h := (List.all_eq_true.1 left_all) i (List.mem_range.2 hi)
  rw [Nat.add_comm i 8] at h
  generalize 8 + i = n at h ⊢
  unfold leftOne at h
  simp only [Bool.and_eq_true, decide_eq_true_eq] at h
  obtain ⟨⟨⟨⟨⟨⟨⟨⟨⟨⟨⟨⟨⟨h1, h2⟩, h3⟩, h4⟩, h5⟩, h6⟩, h7⟩, h8⟩, h9⟩, h10⟩, h11⟩, h12⟩, h13⟩, h14⟩ := h
  have h15 := (List.all_eq_true.1 h14) g (List.mem_range.2 hg)
  simp only [Bool.and_eq_true, decide_eq_true_eq] at h15
  obtain ⟨⟨k1, k2⟩, k3⟩ := h15
  have k4 := (List.all_eq_true.1 k3) (min f 1) (List.mem_range.2 (by omega))
  simp only [Bool.and_eq_true, decide_eq_true_eq] at k4
  have hr : ∀ h ∈ leftH n, sewRounds h f = sewRounds h (min f 1) := by
    intro h hh
    have := (List.all_eq_true.1 h13) h hh
    simp only [decide_eq_true_eq] at this
    unfold sewRounds
    omega
  obtain ⟨r1, r2⟩ := apply_rounds (T := leftZ g n) hr
  refine ⟨?_, fit_of h9, fit_of h10, fit_of k1, k2, h11, h12, by rw [r1]; exact applyT_of (eqU_of k4.1), by rw [r2]; exact k4.2⟩
  have hw : Dn.wayM (xL n) (yL n) = leftW n := by
    rw [Dn.wayM_spec, h1, h2, spec_change h7 (out_of h3) (out_of h4) (out_of h5)]
    have := spec_keeps (lineB 1 :: leftM n) [lineB (n - 1)] [lastB]
    rw [spec_last h6] at this
    unfold leftW
    rw [← this]
    rfl
  rw [hw]
  exact eqHs_of h8
end Go.Proofs.YtcclgodahlinbaaGreatDoor

namespace Go.Proofs.YtcclgodahlinbaaGreatDoor
open Go.RowKit Go
set_option maxRecDepth 100000

/-! ### hunks as windows of a way -/
def cO (l : List StepB) : Nat := (Dn.oldOf l).length
def cN (l : List StepB) : Nat := (Dn.newOf l).length
theorem cO_append (a b : List StepB) : cO (a ++ b) = cO a + cO b := by unfold cO; rw [Dn.oldOf_append, List.length_append]
theorem cN_append (a b : List StepB) : cN (a ++ b) = cN a + cN b := by unfold cN; rw [Dn.newOf_append, List.length_append]
theorem cO_one (s : StepB) : cO [s] = if s.kind = 43 then 0 else 1 := by
  unfold cO Dn.oldOf
  by_cases h : s.kind = 43
  · simp [h]
  · simp [h]
theorem cN_one (s : StepB) : cN [s] = if s.kind = 45 then 0 else 1 := by
  unfold cN Dn.newOf
  by_cases h : s.kind = 45
  · simp [h]
  · simp [h]
def mkH (og fg : Nat) (M : List StepB) : HunkM := ⟨og, cO M, fg, cN M, M⟩
theorem addL_mk (og fg : Nat) (M : List StepB) (s : StepB) : addL (mkH og fg M) s = mkH og fg (M ++ [s]) := by
  unfold addL mkH
  simp only [cO_append, cN_append, cO_one, cN_one]
theorem foldH_gone (L : List StepB) (nb : List Bool) : ∀ k, k ≤ L.length → (foldH L nb k).og = cO (L.take k) ∧ (foldH L nb k).fg = cN (L.take k) := by
  intro k
  induction k with
  | zero => intro _; exact ⟨rfl, rfl⟩
  | succ k ih =>
    intro hk
    obtain ⟨i1, i2⟩ := ih (by omega)
    rw [foldH_succ (by omega), List.take_succ_eq_append_getElem (by omega), cO_append, cN_append, cO_one, cN_one, ← i1, ← i2]
    exact ⟨rfl, rfl⟩
theorem foldH_quiet {L : List StepB} {nb : List Bool} {i : Nat} : ∀ k, i ≤ k → k ≤ L.length → (∀ j, i ≤ j → j < k → nb.getD j false = false) → (foldH L nb k).hs = (foldH L nb i).hs := by
  intro k
  induction k with
  | zero => intro h _ _; obtain rfl : i = 0 := by omega
            rfl
  | succ k ih =>
    intro h1 h2 h3
    by_cases e : i = k + 1
    · rw [e]
    · rw [← ih (by omega) (by omega) (fun j a b => h3 j a (by omega)), foldH_succ (by omega)]
      show stepHs _ _ _ _ = _
      unfold stepHs
      rw [h3 k (by omega) (by omega), if_neg (by simp)]
theorem foldH_run {L : List StepB} {nb : List Bool} {i : Nat} (h0 : i = 0 ∨ nb.getD (i - 1) false = false) : ∀ k, i < k → k ≤ L.length → (∀ j, i ≤ j → j < k → nb.getD j false = true) →
    (foldH L nb k).hs = (foldH L nb i).hs ++ [mkH (cO (L.take i)) (cN (L.take i)) ((L.take k).drop i)] := by
  intro k
  induction k with
  | zero => intro h _ _; omega
  | succ k ih =>
    intro h1 h2 h3
    have hk : k < L.length := by omega
    obtain ⟨g1, g2⟩ := foldH_gone L nb k (by omega)
    rw [foldH_succ hk]
    show stepHs _ _ _ _ = _
    unfold stepHs
    rw [h3 k (by omega) (by omega), if_pos rfl]
    have e1 : (L.take (k + 1)).drop i = (L.take k).drop i ++ [L[k]] := by
      rw [List.take_succ_eq_append_getElem hk, List.drop_append_of_le_length (by rw [List.length_take]; omega)]
    by_cases e : i = k
    · subst e
      have hpb : (decide (0 < i) && nb.getD (i - 1) false) = false := by
        rcases h0 with h0 | h0
        · subst h0; rfl
        · rw [h0, Bool.and_false]
      rw [hpb, if_neg (by simp), lastAdd_append, g1, g2, e1, List.drop_eq_nil_of_le (by rw [List.length_take]; omega)]
      have : newHunk (cO (L.take i)) (cN (L.take i)) = mkH (cO (L.take i)) (cN (L.take i)) [] := rfl
      rw [this, addL_mk]
    · have hpb : (decide (0 < k) && nb.getD (k - 1) false) = true := by rw [h3 (k - 1) (by omega) (by omega)]; simp; omega
      rw [hpb, if_pos rfl, ih (by omega) (by omega) (fun j a b => h3 j a (by omega)), lastAdd_append, addL_mk, e1]

def keeps (l : List ByteArray) : List StepB := l.map fun a => ⟨32, a⟩
theorem keeps_append (a b : List ByteArray) : keeps (a ++ b) = keeps a ++ keeps b := List.map_append
theorem keeps_length (a : List ByteArray) : (keeps a).length = a.length := List.length_map _
theorem keeps_kind {l : List ByteArray} {s : StepB} (h : s ∈ keeps l) : s.kind = 32 := by
  obtain ⟨a, _, rfl⟩ := List.mem_map.1 h
  rfl
theorem oldOf_keeps (a : List ByteArray) : Dn.oldOf (keeps a) = a := by
  induction a with
  | nil => rfl
  | cons x a ih => have e : keeps (x :: a) = [⟨32, x⟩] ++ keeps a := rfl
                   rw [e, Dn.oldOf_append, ih]; rfl
theorem newOf_keeps (a : List ByteArray) : Dn.newOf (keeps a) = a := by
  induction a with
  | nil => rfl
  | cons x a ih => have e : keeps (x :: a) = [⟨32, x⟩] ++ keeps a := rfl
                   rw [e, Dn.newOf_append, ih]; rfl
theorem cO_keeps (a : List ByteArray) : cO (keeps a) = a.length := by unfold cO; rw [oldOf_keeps]
theorem cN_keeps (a : List ByteArray) : cN (keeps a) = a.length := by unfold cN; rw [newOf_keeps]

theorem nearU_one {L : List StepB} {c t j : Nat} (hc : c < L.length) (h1 : L[c].kind ≠ 32) (h2 : ∀ i (h : i < L.length), L[i].kind ≠ 32 → i = c) : nearU L t L.length j = decide (c ≤ j + t ∧ j ≤ c + t) := by
  unfold nearU
  rw [List.take_length]
  by_cases hd : c ≤ j + t ∧ j ≤ c + t
  · rw [decide_eq_true hd, List.any_eq_true]
    refine ⟨(L[c], c), ?_, by simp [h1, hd.1, hd.2]⟩
    rw [List.mem_zipIdx_iff_getElem?]
    simp [hc]
  · rw [decide_eq_false hd, List.any_eq_false]
    rintro ⟨s, i⟩ hs
    rw [List.mem_zipIdx_iff_getElem?] at hs
    obtain ⟨hi, e⟩ := List.getElem?_eq_some_iff.1 hs
    simp only at e hi
    by_cases hk : s.kind = 32
    · simp [hk]
    · have := h2 i hi (by rw [e]; exact hk)
      subst this
      simp only [Bool.and_eq_true, decide_eq_true_eq, not_and]
      rintro ⟨_, h3⟩ h4
      exact hd ⟨h3, h4⟩
/-- a way with one change has one hunk: the change and two keeps at each side, where there are two -/
theorem hunks_one {P K1 K2 S : List ByteArray} {ch : StepB} (hch : ch.kind ≠ 32) (h1 : K1.length = 2 ∨ (K1.length ≤ 2 ∧ P = [])) (h2 : K2.length = 2 ∨ (K2.length ≤ 2 ∧ S = [])) :
    hunksM (keeps (P ++ K1) ++ ch :: keeps (K2 ++ S)) 2 = [numL (mkH P.length P.length (keeps K1 ++ ch :: keeps K2))] := by
  generalize hL : keeps (P ++ K1) ++ ch :: keeps (K2 ++ S) = L
  have hlen : L.length = P.length + K1.length + 1 + K2.length + S.length := by rw [← hL]; simp [keeps]; omega
  have hcl : P.length + K1.length < L.length := by omega
  have hLc : L[P.length + K1.length] = ch := by
    subst hL
    rw [List.getElem_append_right (by rw [keeps_length]; simp)]
    simp [keeps]
  have hLo : ∀ i (h : i < L.length), L[i].kind ≠ 32 → i = P.length + K1.length := by
    intro i hi hk
    by_cases e : i = P.length + K1.length
    · exact e
    · exfalso
      apply hk
      subst hL
      by_cases e2 : i < P.length + K1.length
      · rw [List.getElem_append_left (by rw [keeps_length]; simpa using e2)]
        exact keeps_kind (List.getElem_mem _)
      · rw [List.getElem_append_right (by rw [keeps_length]; simp; omega)]
        obtain ⟨t, ht⟩ : ∃ t, i - (keeps (P ++ K1)).length = t + 1 := ⟨i - (P.length + K1.length) - 1, by rw [keeps_length, List.length_append]; omega⟩
        simp only [ht, List.getElem_cons_succ]
        exact keeps_kind (List.getElem_mem _)
  have hnear : ∀ j, j < L.length → (nearB L 2).getD j false = decide (P.length + K1.length ≤ j + 2 ∧ j ≤ P.length + K1.length + 2) := by
    intro j hj
    have e : (nearB L 2).getD j false = nearU L 2 L.length j := by simp [nearB, List.getD, hj]
    rw [e, nearU_one hcl (by rw [hLc]; exact hch) hLo]
  have ha : ∀ j, j < P.length → (nearB L 2).getD j false = false := by
    intro j hj
    rw [hnear j (by omega)]
    have : P ≠ [] := by intro e; rw [e] at hj; simp at hj
    have hK : K1.length = 2 := by rcases h1 with h1 | h1
                                  · exact h1
                                  · exact absurd h1.2 this
    simp
    omega
  have hb : ∀ j, P.length ≤ j → j < P.length + K1.length + 1 + K2.length → (nearB L 2).getD j false = true := by
    intro j hj hj2
    rw [hnear j (by omega)]
    simp
    omega
  have hc : ∀ j, P.length + K1.length + 1 + K2.length ≤ j → j < L.length → (nearB L 2).getD j false = false := by
    intro j hj hj2
    rw [hnear j hj2]
    have : S ≠ [] := by intro e; rw [e] at hlen; simp at hlen; omega
    have hK : K2.length = 2 := by rcases h2 with h2 | h2
                                  · exact h2
                                  · exact absurd h2.2 this
    simp
    omega
  have q1 := foldH_quiet (L := L) (nb := nearB L 2) (i := 0) P.length (Nat.zero_le _) (by omega) (fun j _ h => ha j h)
  have q2 := foldH_run (L := L) (nb := nearB L 2) (i := P.length) (by
    by_cases e : P.length = 0
    · exact .inl e
    · exact .inr (ha _ (by omega))) (P.length + K1.length + 1 + K2.length) (by omega) (by omega) hb
  have q3 := foldH_quiet (L := L) (nb := nearB L 2) (i := P.length + K1.length + 1 + K2.length) L.length (by omega) (Nat.le_refl _) hc
  have t1 : L.take P.length = keeps P := by
    subst hL
    rw [keeps_append, List.append_assoc, List.take_append_of_le_length (by rw [keeps_length]; exact Nat.le_refl _), ← keeps_length P, List.take_length]
  have t2 : (L.take (P.length + K1.length + 1 + K2.length)).drop P.length = keeps K1 ++ ch :: keeps K2 := by
    have e : L = keeps P ++ ((keeps K1 ++ ch :: keeps K2) ++ keeps S) := by rw [← hL]; simp [keeps]
    have e2 : P.length + K1.length + 1 + K2.length = (keeps P).length + (keeps K1 ++ ch :: keeps K2).length := by simp [keeps]; omega
    rw [e2, e, List.take_length_add_append, List.take_append_of_le_length (Nat.le_refl _), List.take_length]
    conv => lhs; rw [show P.length = (keeps P).length from (keeps_length P).symm]
    rw [List.drop_left']
    rfl
  unfold hunksM
  rw [q3, q2, q1, t1, t2, cO_keeps, cN_keeps]
  rfl
end Go.Proofs.YtcclgodahlinbaaGreatDoor

namespace Go.Proofs.YtcclgodahlinbaaGreatDoor
open Go.RowKit Go
set_option maxRecDepth 100000

theorem pieceO_zero (L : List StepB) : pieceO L 0 = Dn.oldOf L := by unfold pieceO; simp
theorem pieceF_zero (L : List StepB) : pieceF L 0 = Dn.newOf L := by unfold pieceF; simp
theorem sewRounds_zero (h : HunkM) : sewRounds h 0 = 1 := by unfold sewRounds; simp
/-- one hunk sewn in with no fuzz -/
theorem apply_one {T : List ByteArray} {h : HunkM} {x : Nat} (hx : sewAt T 0 0 h 0 = some (x : Int)) :
    applyL T 0 [h] = textL (T.take x) ++ textL (Dn.newOf h.lines) ++ textL (T.drop (x + (Dn.oldOf h.lines).length)) ∧ applyS T 0 [h] = [⟨true, (x : Int) - (placeM h.fr h.fc : Nat), 0⟩] := by
  have e : sewM T ⟨[], 0, 0⟩ h 0 = (sewTo T ⟨[], 0, 0⟩ h 0 x, ⟨true, (x : Int) - (placeM h.fr h.fc : Nat), 0⟩) := by
    unfold sewM sewFind
    rw [sewRounds_zero]
    unfold sewFrom
    simp only [hx]
  have e2 : applyK T 0 [h] [h].length = (sewTo T ⟨[], 0, 0⟩ h 0 x, [⟨true, (x : Int) - (placeM h.fr h.fc : Nat), 0⟩]) := by
    unfold applyK applyFrom
    simp only [List.take_length, e]
    rfl
  unfold applyL applyS
  rw [e2]
  unfold sewTo
  rw [pieceF_zero, pieceO_zero]
  simp
theorem stand_yes {P O Q : List ByteArray} : standM (P ++ O ++ Q) 0 O (P.length : Int) = true := by
  unfold standM
  rw [decide_eq_true_eq]
  refine ⟨by omega, by simp; omega, ?_⟩
  simp
theorem stand_no {P O Q : List ByteArray} {l o : ByteArray} (h : l ≠ o) : standM (P ++ l :: (o :: O ++ Q)) 0 (o :: O) (P.length : Int) = false := by
  unfold standM
  rw [decide_eq_false_iff_not]
  rintro ⟨_, _, h3⟩
  simp at h3
  exact h h3.1
theorem sew_here {T P O Q : List ByteArray} {h : HunkM} (hT : T = P ++ O ++ Q) (hO : Dn.oldOf h.lines = O) (hp : placeM h.fr h.fc = P.length) : sewAt T 0 0 h 0 = some (P.length : Int) := by
  unfold sewAt
  obtain ⟨r, hr⟩ := aroundL_prefix (((placeM h.fr h.fc : Nat) : Int) + 0) (Nat.zero_le T.length)
  rw [← hr]
  have e : aroundL (((placeM h.fr h.fc : Nat) : Int) + 0) 0 = [(P.length : Int)] := by unfold aroundL; rw [hp]; simp
  rw [e, List.singleton_append, List.find?_cons_of_pos]
  rw [pieceO_zero, hO, hT]
  simpa using stand_yes (P := P) (O := O) (Q := Q)
theorem sew_next {T P O Q : List ByteArray} {l o : ByteArray} {h : HunkM} (hT : T = P ++ l :: (o :: O ++ Q)) (hO : Dn.oldOf h.lines = o :: O) (hp : placeM h.fr h.fc = P.length) (hne : l ≠ o) : sewAt T 0 0 h 0 = some ((P.length + 1 : Nat) : Int) := by
  unfold sewAt
  have h1 : 1 ≤ T.length := by rw [hT]; simp; omega
  obtain ⟨r, hr⟩ := aroundL_prefix (((placeM h.fr h.fc : Nat) : Int) + 0) h1
  rw [← hr]
  have e : aroundL (((placeM h.fr h.fc : Nat) : Int) + 0) 1 = [(P.length : Int), ((P.length + 1 : Nat) : Int), (P.length : Int) - 1] := by
    unfold aroundL aroundL
    rw [hp]
    simp
  rw [e, List.cons_append, List.find?_cons_of_neg, List.cons_append, List.find?_cons_of_pos]
  · rw [pieceO_zero, hO, hT]
    have := stand_yes (P := P ++ [l]) (O := o :: O) (Q := Q)
    simpa using this
  · rw [pieceO_zero, hO, hT]
    have := stand_no (P := P) (O := O) (Q := Q) hne
    simpa using this

theorem indexByte_none : ∀ (l : List UInt8), (10 : UInt8) ∉ l → Lib.indexByte l 10 = -1
  | [], _ => rfl
  | b :: l, h => by
    have hb : b ≠ 10 := by intro e; exact h (by simp [e])
    have ih := indexByte_none l (fun e => h (List.mem_cons_of_mem _ e))
    rw [Lib.indexByte, ih]
    simp [hb]
theorem matchM_of : ∀ (L : List StepB) (b : Bool), (∀ s ∈ L, (s.kind = 32 ∨ s.kind = 45 ∨ s.kind = 43) ∧ (10 : UInt8) ∉ s.text.data.toList) → (b = true ∨ ∃ s ∈ L, s.kind ≠ 32) → matchM (cO L) (cN L) b L = true
  | [], b, _, h => by
    have hb : b = true := by simpa using h
    subst hb
    rfl
  | s :: L, b, hs, h => by
    obtain ⟨hk, ht⟩ := hs s (by simp)
    have e1 : cO (s :: L) = kf s.kind + cO L := by
      have : s :: L = [s] ++ L := rfl
      rw [this, cO_append, cO_one]; rfl
    have e2 : cN (s :: L) = kt s.kind + cN L := by
      have : s :: L = [s] ++ L := rfl
      rw [this, cN_append, cN_one]; rfl
    unfold matchM
    rw [e1, e2, Nat.add_sub_cancel_left, Nat.add_sub_cancel_left, indexByte_none _ ht]
    rw [matchM_of L _ (fun x hx => hs x (List.mem_cons_of_mem _ hx)) (by
      rcases h with h | ⟨x, hx, hxk⟩
      · left; rw [h]; rfl
      · rcases List.mem_cons.1 hx with rfl | hx
        · left; simp [hxk]
        · right; exact ⟨x, hx, hxk⟩)]
    simp
    exact hk

/-- a hunk of few plain lines with one change, at a place -/
theorem one_right {p : Nat} {A B : List ByteArray} {ch : StepB} (hk : ch.kind = 45 ∨ ch.kind = 43) (hA : Plain A) (hB : Plain B) (ht : (10 : UInt8) ∉ ch.text.data.toList) (hp : p ≤ 1000) (hlA : A.length ≤ 2) (hlB : B.length ≤ 2) (hpos : 0 < A.length + B.length)
    (hs : ∀ s ∈ A ++ [ch.text] ++ B, s.size ≤ 7) :
    rightM 0 0 [numL (mkH p p (keeps A ++ ch :: keeps B))] = true ∧ [numL (mkH p p (keeps A ++ ch :: keeps B))].all hunkOkB = true ∧ placeM (numL (mkH p p (keeps A ++ ch :: keeps B))).fr (numL (mkH p p (keeps A ++ ch :: keeps B))).fc = p := by
  have e0 : keeps A ++ ch :: keeps B = keeps A ++ [ch] ++ keeps B := by simp
  have eO : cO (keeps A ++ ch :: keeps B) = A.length + (if ch.kind = 43 then 0 else 1) + B.length := by rw [e0, cO_append, cO_append, cO_keeps, cO_keeps, cO_one]
  have eN : cN (keeps A ++ ch :: keeps B) = A.length + (if ch.kind = 45 then 0 else 1) + B.length := by rw [e0, cN_append, cN_append, cN_keeps, cN_keeps, cN_one]
  have hlen : (keeps A ++ ch :: keeps B).length ≤ 5 := by simp [keeps]; omega
  have hmem : ∀ s ∈ keeps A ++ ch :: keeps B, (s.kind = 32 ∨ s.kind = 45 ∨ s.kind = 43) ∧ (10 : UInt8) ∉ s.text.data.toList := by
    intro s hs
    rw [e0] at hs
    simp only [List.mem_append, List.mem_singleton] at hs
    rcases hs with (hs | hs) | hs
    · obtain ⟨a, ha, rfl⟩ := List.mem_map.1 hs
      exact ⟨.inl rfl, hA a ha⟩
    · subst hs
      exact ⟨.inr hk, ht⟩
    · obtain ⟨a, ha, rfl⟩ := List.mem_map.1 hs
      exact ⟨.inl rfl, hB a ha⟩
  have hm := matchM_of (keeps A ++ ch :: keeps B) false hmem (.inr ⟨ch, by simp, by omega⟩)
  have hx : (textL (Dn.newOf (keeps A ++ ch :: keeps B))).length ≤ 10000 := by
    have h1 := textL_bound (Dn.newOf (keeps A ++ ch :: keeps B)) 7 (by
      intro s hs'
      apply hs
      have e1 : Dn.newOf (keeps A ++ ch :: keeps B) = A ++ Dn.newOf [ch] ++ B := by rw [e0, Dn.newOf_append, Dn.newOf_append, newOf_keeps, newOf_keeps]
      rw [e1] at hs'
      simp only [List.mem_append] at hs' ⊢
      rcases hs' with (h | h) | h
      · exact .inl (.inl h)
      · left; right
        obtain ⟨x, hx, rfl⟩ := List.mem_map.1 h
        have := (List.mem_filter.1 hx).1
        simp at this
        simp [this]
      · exact .inr h)
    have h2 : (Dn.newOf (keeps A ++ ch :: keeps B)).length ≤ 5 := by
      have : (Dn.newOf (keeps A ++ ch :: keeps B)).length = cN (keeps A ++ ch :: keeps B) := rfl
      rw [this, eN]
      split <;> omega
    have := Nat.mul_le_mul_right 8 h2
    omega
  generalize keeps A ++ ch :: keeps B = M at *
  have hO : 0 < cO M := by rw [eO]; split <;> omega
  have hN : 0 < cN M := by rw [eN]; split <;> omega
  have hO2 : cO M ≤ 5 := by rw [eO]; split <;> omega
  have hN2 : cN M ≤ 5 := by rw [eN]; split <;> omega
  have eh : numL (mkH p p M) = ⟨p + 1, cO M, p + 1, cN M, M⟩ := by
    unfold numL mkH
    simp only
    rw [if_neg (by omega), if_neg (by omega)]
  rw [eh]
  refine ⟨?_, ?_, ?_⟩
  · unfold rightM rightM fitsM placeM
    simp only [hm, Bool.and_true, Bool.and_eq_true, decide_eq_true_eq]
    rw [if_neg (by omega), if_neg (by omega)]
    simp
    omega
  · simp only [List.all_cons, List.all_nil, Bool.and_true]
    unfold hunkOkB
    simp only [Bool.and_eq_true, decide_eq_true_eq, List.all_eq_true, Bool.or_eq_true, beq_iff_eq]
    refine ⟨⟨⟨⟨fun x hx' => ?_, by omega⟩, by omega⟩, by omega⟩, hx⟩
    have := (hmem x hx').1
    omega
  · unfold placeM
    simp only
    rw [if_neg (by omega)]
    omega
end Go.Proofs.YtcclgodahlinbaaGreatDoor

namespace Go.Proofs.YtcclgodahlinbaaGreatDoor
open Go.RowKit Go
set_option maxRecDepth 100000

def cost1 (s : StepB) : Nat := if s.kind = 32 then 0 else 1
theorem costW_append (a b : List StepB) : Dn.costW (a ++ b) = Dn.costW a + Dn.costW b := by unfold Dn.costW; rw [List.filter_append, List.length_append]
theorem costW_one (s : StepB) : Dn.costW [s] = cost1 s := by
  unfold Dn.costW cost1
  by_cases h : s.kind = 32
  · simp [h]
  · simp [h]
theorem costW_take (L : List StepB) (k : Nat) (h : k < L.length) : Dn.costW (L.take (k + 1)) = Dn.costW (L.take k) + cost1 L[k] := by
  rw [List.take_succ_eq_append_getElem h, costW_append, costW_one]
/-- drops and adds of hunks -/
def costH (hs : List HunkM) : Nat := (hs.map fun h => Dn.costW h.lines).sum
theorem costH_append (a b : List HunkM) : costH (a ++ b) = costH a + costH b := by unfold costH; rw [List.map_append, List.sum_append]
theorem costH_one (h : HunkM) : costH [h] = Dn.costW h.lines := by simp [costH]
theorem costH_last {l : List HunkM} (h : l ≠ []) (s : StepB) : costH (lastAdd l s) = costH l + cost1 s := by
  obtain ⟨i, x, e1, e2⟩ := lastAdd_ne (s := s) h
  rw [e2, e1, costH_append, costH_append, costH_one, costH_one]
  have : (addL x s).lines = x.lines ++ [s] := rfl
  rw [this, costW_append, costW_one]
  omega
theorem foldH_cost {L : List StepB} {nb : List Bool} (hn : ∀ k (h : k < L.length), L[k].kind ≠ 32 → nb.getD k false = true) : ∀ k, k ≤ L.length → costH (foldH L nb k).hs = Dn.costW (L.take k) := by
  intro k
  induction k with
  | zero => intro _; simp [foldH, costH, Dn.costW]
  | succ k ih =>
    intro hk
    have hk' : k < L.length := by omega
    have ihk := ih (by omega)
    have hb := (foldH_bounds L nb k).2.2.2.2
    rw [foldH_succ hk', costW_take L k hk', ← ihk]
    show costH (stepHs _ _ _ _) = _
    unfold stepHs
    split
    · rw [costH_last]
      · split
        · rfl
        · rw [costH_append, costH_one]
          have : Dn.costW (newHunk (foldH L nb k).og (foldH L nb k).fg).lines = 0 := rfl
          omega
      · split
        · rename_i hp
          simp only [Bool.and_eq_true, decide_eq_true_eq] at hp
          exact hb hp.1 (by omega) hp.2
        · simp
    · rename_i hf
      have : L[k].kind = 32 := by
        by_cases e : L[k].kind = 32
        · exact e
        · exact absurd (hn k hk' e) hf
      unfold cost1
      rw [if_pos this]
      rfl
theorem near_own (L : List StepB) (c k : Nat) (h : k < L.length) (e : L[k].kind ≠ 32) : (nearB L c).getD k false = true := by
  have h1 : (nearB L c).getD k false = nearU L c L.length k := by simp [nearB, List.getD, h]
  rw [h1]
  unfold nearU
  rw [List.any_eq_true]
  refine ⟨(L[k], k), ?_, by simp [e]⟩
  rw [List.take_length, List.mem_zipIdx_iff_getElem?]
  simp [h]
theorem hunks_cost (L : List StepB) (c : Nat) : costH (hunksM L c) = Dn.costW L := by
  have h := foldH_cost (nb := nearB L c) (fun k hk e => near_own L c k hk e) L.length (Nat.le_refl _)
  rw [List.take_length] at h
  rw [← h]
  unfold hunksM costH
  rw [List.map_map]
  rfl

theorem way_counts {o f : List ByteArray} : Dn.costW (Dn.wayM o f) + o.length ≥ f.length ∧ Dn.costW (Dn.wayM o f) + f.length ≥ o.length ∧ (Dn.costW (Dn.wayM o f) + o.length + f.length) % 2 = 0 := by
  obtain ⟨h1, h2, h3⟩ := Dn.wayM_way o f
  have key : ∀ l : List StepB, (∀ s ∈ l, s.kind = 32 ∨ s.kind = 45 ∨ s.kind = 43) → ∃ a b c, Dn.costW l = b + c ∧ (Dn.oldOf l).length = a + b ∧ (Dn.newOf l).length = a + c := by
    intro l
    induction l with
    | nil => intro _; exact ⟨0, 0, 0, rfl, rfl, rfl⟩
    | cons s l ih =>
      intro h
      obtain ⟨a, b, c, e1, e2, e3⟩ := ih (fun x hx => h x (List.mem_cons_of_mem _ hx))
      unfold Dn.costW Dn.oldOf Dn.newOf at *
      rcases h s (by simp) with hs | hs | hs
      · refine ⟨a + 1, b, c, ?_, ?_, ?_⟩ <;> simp_all <;> omega
      · refine ⟨a, b + 1, c, ?_, ?_, ?_⟩ <;> simp_all <;> omega
      · refine ⟨a, b, c + 1, ?_, ?_, ?_⟩ <;> simp_all <;> omega
  obtain ⟨a, b, c, e1, e2, e3⟩ := key _ h3
  rw [h1] at e2
  rw [h2] at e3
  omega
end Go.Proofs.YtcclgodahlinbaaGreatDoor

namespace Go.Proofs.YtcclgodahlinbaaGreatDoor
open Go.RowKit Go
set_option maxRecDepth 100000

/-! ### the hunks of a way are windows of it: each with a change, all between them kept -/
def mkW (L : List StepB) (p : Nat × Nat) : HunkM := mkH (cO (L.take p.1)) (cN (L.take p.1)) ((L.take p.2).drop p.1)
def Kept (L : List StepB) (a b : Nat) : Prop := ∀ j (h : j < L.length), a ≤ j → j < b → L[j].kind = 32
def Wins (L : List StepB) : Nat → List (Nat × Nat) → Prop
  | p, [] => p ≤ L.length ∧ Kept L p L.length
  | p, (s, e) :: ws => p ≤ s ∧ s < e ∧ e ≤ L.length ∧ Kept L p s ∧ (∃ j, ∃ h : j < L.length, s ≤ j ∧ j < e ∧ L[j].kind ≠ 32) ∧ Wins L e ws
theorem Wins.back {L : List StepB} {p : Nat} (hp : p < L.length) (hk : L[p].kind = 32) : ∀ {ws : List (Nat × Nat)}, Wins L (p + 1) ws → Wins L p ws
  | [], h => ⟨by omega, fun j hj h1 h2 => by
      by_cases e : j = p
      · subst e; exact hk
      · exact h.2 j hj (by omega) h2⟩
  | (s, e) :: ws, h => ⟨by have := h.1; omega, h.2.1, h.2.2.1, fun j hj h1 h2 => by
      by_cases e : j = p
      · subst e; exact hk
      · exact h.2.2.2.1 j hj (by omega) h2, h.2.2.2.2⟩
theorem near_far {L : List StepB} {c i j : Nat} (hi : i < L.length) (hj : j < L.length) (hk : L[i].kind ≠ 32) (h1 : i ≤ j + c) (h2 : j ≤ i + c) : (nearB L c).getD j false = true := by
  have e : (nearB L c).getD j false = nearU L c L.length j := by simp [nearB, List.getD, hj]
  rw [e]
  unfold nearU
  rw [List.take_length, List.any_eq_true]
  refine ⟨(L[i], i), ?_, by simp [hk, h1, h2]⟩
  rw [List.mem_zipIdx_iff_getElem?]
  simp [hi]
theorem near_has {L : List StepB} {c j : Nat} (hj : j < L.length) (h : (nearB L c).getD j false = true) : ∃ i, ∃ hi : i < L.length, L[i].kind ≠ 32 ∧ i ≤ j + c ∧ j ≤ i + c := by
  have e : (nearB L c).getD j false = nearU L c L.length j := by simp [nearB, List.getD, hj]
  rw [e] at h
  unfold nearU at h
  rw [List.take_length, List.any_eq_true] at h
  obtain ⟨⟨s, i⟩, hs, hb⟩ := h
  rw [List.mem_zipIdx_iff_getElem?] at hs
  obtain ⟨hi, e2⟩ := List.getElem?_eq_some_iff.1 hs
  simp only [Bool.and_eq_true, decide_eq_true_eq] at hb
  simp only at e2 hi
  exact ⟨i, hi, by rw [e2]; simpa using hb.1.1, hb.1.2, hb.2⟩
theorem near_keep32 {L : List StepB} {c j : Nat} (hj : j < L.length) (h : (nearB L c).getD j false = false) : L[j].kind = 32 := by
  by_cases e : L[j].kind = 32
  · exact e
  · rw [near_own L c j hj e] at h; cases h
theorem wins_all (L : List StepB) (c : Nat) : ∀ d p, L.length - p = d → p ≤ L.length →
    ((p = 0 ∨ (nearB L c).getD (p - 1) false = false) → ∃ ws, (foldH L (nearB L c) L.length).hs = (foldH L (nearB L c) p).hs ++ ws.map (mkW L) ∧ Wins L p ws) ∧
    (∀ s, s < p → (s = 0 ∨ (nearB L c).getD (s - 1) false = false) → (∀ j, s ≤ j → j < p → (nearB L c).getD j false = true) →
      ∃ ws e, (foldH L (nearB L c) L.length).hs = (foldH L (nearB L c) s).hs ++ mkW L (s, e) :: ws.map (mkW L) ∧ p ≤ e ∧ e ≤ L.length ∧ (∀ j, s ≤ j → j < e → (nearB L c).getD j false = true) ∧ (e = L.length ∨ (nearB L c).getD e false = false) ∧ Wins L e ws) := by
  intro d
  induction d with
  | zero =>
    intro p hd hp
    obtain rfl : p = L.length := by omega
    refine ⟨fun _ => ⟨[], by simp, Nat.le_refl _, fun j hj h1 _ => by omega⟩, fun s hs h0 hn => ?_⟩
    refine ⟨[], L.length, ?_, Nat.le_refl _, Nat.le_refl _, hn, .inl rfl, Nat.le_refl _, fun j hj h1 _ => by omega⟩
    have := foldH_run h0 L.length hs (Nat.le_refl _) hn
    rw [this]
    rfl
  | succ d ih =>
    intro p hd hp
    have hpl : p < L.length := by omega
    obtain ⟨io, ii⟩ := ih (p + 1) (by omega) (by omega)
    have hin : ∀ s, s < p + 1 → (s = 0 ∨ (nearB L c).getD (s - 1) false = false) → (∀ j, s ≤ j → j < p → (nearB L c).getD j false = true) → s < p ∨ (nearB L c).getD p false = true →
      ∃ ws e, (foldH L (nearB L c) L.length).hs = (foldH L (nearB L c) s).hs ++ mkW L (s, e) :: ws.map (mkW L) ∧ p ≤ e ∧ e ≤ L.length ∧ (∀ j, s ≤ j → j < e → (nearB L c).getD j false = true) ∧ (e = L.length ∨ (nearB L c).getD e false = false) ∧ Wins L e ws := by
      intro s hs h0 hn hor
      by_cases hb : (nearB L c).getD p false = true
      · obtain ⟨ws, e, h1, h2, h3⟩ := ii s hs h0 (fun j a b => by
          by_cases e : j = p
          · rw [e]; exact hb
          · exact hn j a (by omega))
        exact ⟨ws, e, h1, by omega, h3⟩
      · have hb' : (nearB L c).getD p false = false := by simpa using hb
        have hsp : s < p := by
          rcases hor with h | h
          · exact h
          · exact absurd h hb
        obtain ⟨ws, h1, h2⟩ := io (.inr (by simpa using hb'))
        refine ⟨ws, p, ?_, Nat.le_refl _, by omega, hn, .inr hb', h2.back hpl (near_keep32 hpl hb')⟩
        rw [h1, foldH_quiet (i := p) (p + 1) (by omega) (by omega) (fun j a b => by
          have : j = p := by omega
          rw [this]; exact hb'), foldH_run h0 p hsp (by omega) hn]
        simp [mkW]
    refine ⟨fun h0 => ?_, fun s hs h0 hn => hin s (by omega) h0 hn (.inl hs)⟩
    by_cases hb : (nearB L c).getD p false = true
    · obtain ⟨ws, e, h1, h2, h3, h4, h5, h6⟩ := hin p (by omega) h0 (fun j a b => by omega) (.inr hb)
      have hpe : p < e := by
        by_cases hx : p < e
        · exact hx
        · have : e = p := by omega
          rcases h5 with h5 | h5
          · omega
          · rw [this] at h5; rw [h5] at hb; cases hb
      refine ⟨(p, e) :: ws, h1, Nat.le_refl _, hpe, h3, fun j _ a b => by omega, ?_, h6⟩
      obtain ⟨i, hi, hk, a1, a2⟩ := near_has hpl hb
      have hip : p ≤ i := by
        by_cases hx : p ≤ i
        · exact hx
        · exfalso
          rcases h0 with h0 | h0
          · omega
          · have := near_far (c := c) (j := p - 1) hi (by omega) hk (by omega) (by omega)
            rw [this] at h0; cases h0
      refine ⟨i, hi, hip, ?_, hk⟩
      by_cases hx : i < e
      · exact hx
      · exfalso
        rcases h5 with h5 | h5
        · omega
        · have := near_far (c := c) (j := e) hi (by omega) hk (by omega) (by omega)
          rw [this] at h5; cases h5
    · have hb' : (nearB L c).getD p false = false := by simpa using hb
      obtain ⟨ws, h1, h2⟩ := io (.inr (by simpa using hb'))
      refine ⟨ws, ?_, h2.back hpl (near_keep32 hpl hb')⟩
      rw [h1, foldH_quiet (i := p) (p + 1) (by omega) (by omega) (fun j a b => by
        have : j = p := by omega
        rw [this]; exact hb')]
/-- the hunks of a way -/
theorem hunks_wins (L : List StepB) (c : Nat) : ∃ ws, hunksM L c = ws.map (fun p => numL (mkW L p)) ∧ Wins L 0 ws := by
  obtain ⟨ws, h1, h2⟩ := (wins_all L c L.length 0 (by omega) (by omega)).1 (.inl rfl)
  refine ⟨ws, ?_, h2⟩
  unfold hunksM
  rw [h1]
  simp [foldH]
end Go.Proofs.YtcclgodahlinbaaGreatDoor

namespace Go.Proofs.YtcclgodahlinbaaGreatDoor
open Go.RowKit Go
set_option maxRecDepth 100000

theorem take_seg {α : Type} (L : List α) {s e : Nat} (h : s ≤ e) : L.take e = L.take s ++ (L.take e).drop s := by
  conv => lhs; rw [← List.take_append_drop s (L.take e)]
  rw [List.take_take, Nat.min_eq_left h]
theorem cO_seg (L : List StepB) {s e : Nat} (h : s ≤ e) : cO (L.take e) = cO (L.take s) + cO ((L.take e).drop s) := by conv => lhs; rw [take_seg L h, cO_append]
theorem cN_seg (L : List StepB) {s e : Nat} (h : s ≤ e) : cN (L.take e) = cN (L.take s) + cN ((L.take e).drop s) := by conv => lhs; rw [take_seg L h, cN_append]
theorem kept_seg {L : List StepB} {a b : Nat} (h : Kept L a b) : ∀ s ∈ (L.take b).drop a, s.kind = 32 := by
  intro s hs
  obtain ⟨i, hi, rfl⟩ := List.getElem_of_mem hs
  rw [List.length_drop, List.length_take] at hi
  rw [List.getElem_drop, List.getElem_take]
  exact h _ _ (by omega) (by omega)
theorem keeps_same {M : List StepB} (h : ∀ s ∈ M, s.kind = 32) : Dn.oldOf M = M.map (·.text) ∧ Dn.newOf M = M.map (·.text) := by
  unfold Dn.oldOf Dn.newOf
  rw [List.filter_eq_self.2 (fun s hs => by simp [h s hs]), List.filter_eq_self.2 (fun s hs => by simp [h s hs])]
  exact ⟨rfl, rfl⟩
theorem cOL_le (L : List StepB) : cO L ≤ L.length := by unfold cO Dn.oldOf; rw [List.length_map]; exact List.length_filter_le _ _
theorem cNL_le (L : List StepB) : cN L ≤ L.length := by unfold cN Dn.newOf; rw [List.length_map]; exact List.length_filter_le _ _
theorem place_num (o k : Nat) : placeM (o + (if k = 0 then 0 else 1)) k = o := by
  unfold placeM
  by_cases h : k = 0
  · simp [h]
  · simp [h]
/-- lines of a way as the statements have them -/
def WayOk (L : List StepB) : Prop := ∀ s ∈ L, (s.kind = 32 ∨ s.kind = 45 ∨ s.kind = 43) ∧ (10 : UInt8) ∉ s.text.data.toList ∧ s.text.size ≤ 15
theorem wins_right {L : List StepB} (hL : WayOk L) (hl : L.length ≤ 200) : ∀ (ws : List (Nat × Nat)) (p : Nat), p ≤ L.length → Wins L p ws →
    rightM (cO (L.take p)) ((cN (L.take p) : Int) - cO (L.take p)) (ws.map fun p => numL (mkW L p)) = true ∧ (ws.map fun p => numL (mkW L p)).all hunkOkB = true
  | [], _, _, _ => ⟨rfl, rfl⟩
  | (s, e) :: ws, p, hp, h => by
    obtain ⟨h1, h2, h3, h4, ⟨j, hj, j1, j2, j3⟩, h5⟩ := h
    obtain ⟨ir, io⟩ := wins_right hL hl ws e h3 h5
    have hk := keeps_same (kept_seg h4)
    have e1 := cO_seg L h1
    have e2 := cN_seg L h1
    have e3 := cO_seg L (Nat.le_of_lt h2)
    have e4 := cN_seg L (Nat.le_of_lt h2)
    have hsame : cO ((L.take s).drop p) = cN ((L.take s).drop p) := by unfold cO cN; rw [hk.1, hk.2]
    have hmem : ∀ x ∈ (L.take e).drop s, x ∈ L := fun x hx => List.mem_of_mem_take (List.mem_of_mem_drop hx)
    have hm := matchM_of ((L.take e).drop s) false (fun x hx => ⟨(hL x (hmem x hx)).1, (hL x (hmem x hx)).2.1⟩) (.inr ⟨L[j], by
      rw [List.mem_iff_getElem]
      refine ⟨j - s, by rw [List.length_drop, List.length_take]; omega, ?_⟩
      rw [List.getElem_drop, List.getElem_take]
      congr 1
      omega, j3⟩)
    have b1 := cOL_le (L.take s)
    have b2 := cNL_le (L.take s)
    have b3 := cOL_le ((L.take e).drop s)
    have b4 := cNL_le ((L.take e).drop s)
    have b5 : (L.take s).length ≤ 200 := by rw [List.length_take]; omega
    have b6 : ((L.take e).drop s).length ≤ 200 := by rw [List.length_drop, List.length_take]; omega
    have hW : numL (mkW L (s, e)) = ⟨cO (L.take s) + (if cO ((L.take e).drop s) = 0 then 0 else 1), cO ((L.take e).drop s), cN (L.take s) + (if cN ((L.take e).drop s) = 0 then 0 else 1), cN ((L.take e).drop s), (L.take e).drop s⟩ := rfl
    have pO := place_num (cO (L.take s)) (cO ((L.take e).drop s))
    have pN := place_num (cN (L.take s)) (cN ((L.take e).drop s))
    have hx : (textL (Dn.newOf ((L.take e).drop s))).length ≤ 10000 := by
      have := textL_bound (Dn.newOf ((L.take e).drop s)) 15 (by
        intro t ht
        obtain ⟨x, hx, rfl⟩ := List.mem_map.1 ht
        exact (hL x (hmem x (List.mem_filter.1 hx).1)).2.2)
      have h6 : (Dn.newOf ((L.take e).drop s)).length ≤ 200 := by
        have : (Dn.newOf ((L.take e).drop s)).length = cN ((L.take e).drop s) := rfl
        omega
      have := Nat.mul_le_mul_right 16 h6
      omega
    rw [List.map_cons, hW]
    generalize (L.take e).drop s = W at *
    refine ⟨?_, ?_⟩
    · unfold rightM fitsM
      simp only [pO, pN]
      rw [hm]
      have hr : rightM (cO (L.take s) + cO W) ((cN (L.take p) : Int) - cO (L.take p) + cN W - cO W) (ws.map fun p => numL (mkW L p)) = true := by
        have : (cN (L.take p) : Int) - cO (L.take p) + cN W - cO W = (cN (L.take e) : Int) - cO (L.take e) := by omega
        rw [this, ← e3]
        exact ir
      rw [hr]
      simp only [Bool.and_true, Bool.and_eq_true, decide_eq_true_eq]
      refine ⟨⟨⟨⟨⟨⟨⟨⟨?_, ?_⟩, ?_⟩, ?_⟩, ?_⟩, ?_⟩, ?_⟩, ?_⟩, ?_⟩
      all_goals first | omega | (split <;> omega)
    · rw [List.all_cons, io, Bool.and_true]
      unfold hunkOkB
      simp only [Bool.and_eq_true, decide_eq_true_eq, List.all_eq_true, Bool.or_eq_true, beq_iff_eq]
      refine ⟨⟨⟨⟨fun x hx' => ?_, by omega⟩, ?_⟩, ?_⟩, hx⟩
      · have := (hL x (hmem x hx')).1
        omega
      · split <;> omega
      · split <;> omega

/-! ### the same, moved -/
theorem aroundL_mem (p : Int) : ∀ k d : Nat, d ≤ k → p + (d : Int) ∈ aroundL p k := by
  intro k
  induction k with
  | zero => intro d h; obtain rfl : d = 0 := by omega
            simp [aroundL]
  | succ k ih =>
    intro d h
    rw [aroundL, List.mem_append]
    by_cases e : d = k + 1
    · right
      subst e
      simp
    · left
      exact ih d (by omega)
theorem find_unique {α : Type} {p : α → Bool} {a : α} : ∀ {l : List α}, a ∈ l → p a = true → (∀ b ∈ l, p b = true → b = a) → l.find? p = some a
  | [], h, _, _ => by simp at h
  | b :: l, h, ha, hu => by
    by_cases hb : p b = true
    · rw [List.find?_cons_of_pos hb, hu b (by simp) hb]
    · rw [List.find?_cons_of_neg hb]
      refine find_unique ?_ ha (fun c hc => hu c (List.mem_cons_of_mem _ hc))
      rcases List.mem_cons.1 h with rfl | h
      · exact absurd ha hb
      · exact h
/-- a text that holds a way's old lines, each line of them once -/
structure Once (L : List StepB) (A Z T : List ByteArray) : Prop where
  eq : T = A ++ Dn.oldOf L ++ Z
  one : ∀ x k (hx : x < T.length) (hk : k < (Dn.oldOf L).length), T[x] = (Dn.oldOf L)[k] → x = A.length + k
theorem Once.seg {L : List StepB} {A Z T : List ByteArray} (h : Once L A Z T) {p s : Nat} (hp : p ≤ s) : (T.drop (A.length + cO (L.take p))).take (cO ((L.take s).drop p)) = Dn.oldOf ((L.take s).drop p) := by
  have e1 : L = L.take p ++ (L.take s).drop p ++ L.drop s := by rw [← take_seg L hp, List.take_append_drop]
  have e2 : T = (A ++ Dn.oldOf (L.take p)) ++ (Dn.oldOf ((L.take s).drop p) ++ (Dn.oldOf (L.drop s) ++ Z)) := by
    rw [h.eq]
    conv => lhs; rw [e1, Dn.oldOf_append, Dn.oldOf_append]
    simp
  have e3 : A.length + cO (L.take p) = (A ++ Dn.oldOf (L.take p)).length := by rw [List.length_append]; rfl
  rw [e3, e2, List.drop_left' rfl]
  have e4 : cO ((L.take s).drop p) = (Dn.oldOf ((L.take s).drop p)).length := rfl
  rw [e4, List.take_left' rfl]
structure SInv (L : List StepB) (A T : List ByteArray) (p : Nat) (st : SewS) : Prop where
  en : st.en ≤ A.length + cO (L.take p)
  t : st.t ++ textL ((T.drop st.en).take (A.length + cO (L.take p) - st.en)) = textL (A ++ Dn.newOf (L.take p))
  mv : st.mv = 0 ∨ st.mv = A.length
theorem SInv.keep {L : List StepB} {A Z T : List ByteArray} (hO : Once L A Z T) {p s : Nat} {st : SewS} (h : SInv L A T p st) (hp : p ≤ s) (hk : Kept L p s) : SInv L A T s st := by
  have e1 := cO_seg L hp
  have hk2 := keeps_same (kept_seg hk)
  have hen := h.en
  refine ⟨by omega, ?_, h.mv⟩
  have e2 : A.length + cO (L.take s) - st.en = (A.length + cO (L.take p) - st.en) + cO ((L.take s).drop p) := by omega
  rw [e2, List.take_add, List.drop_drop, show st.en + (A.length + cO (L.take p) - st.en) = A.length + cO (L.take p) by omega, hO.seg hp, textL_append, ← List.append_assoc, h.t, ← textL_append]
  congr 1
  conv => rhs; rw [take_seg L hp, Dn.newOf_append]
  rw [hk2.1, hk2.2, List.append_assoc]
theorem sew_moved {L : List StepB} {A Z T : List ByteArray} (hO : Once L A Z T) {s e : Nat} {st : SewS} (h : SInv L A T s st) (h1 : s < e) (hw : 0 < cO ((L.take e).drop s)) :
    (sewM T st (numL (mkW L (s, e))) 0).2 = ⟨true, A.length, 0⟩ ∧ SInv L A T e (sewM T st (numL (mkW L (s, e))) 0).1 := by
  have hseg := hO.seg (Nat.le_of_lt h1)
  have e3 := cO_seg L (Nat.le_of_lt h1)
  have hpl : placeM (numL (mkW L (s, e))).fr (numL (mkW L (s, e))).fc = cO (L.take s) := place_num _ _
  have hln : (numL (mkW L (s, e))).lines = (L.take e).drop s := rfl
  have hX : (Dn.oldOf L).length = cO (L.take e) + cO (L.drop e) := by
    have : L = L.take e ++ L.drop e := (List.take_append_drop e L).symm
    conv => lhs; rw [this, Dn.oldOf_append, List.length_append]
    rfl
  have hT : T.length = A.length + (Dn.oldOf L).length + Z.length := by rw [hO.eq]; simp; omega
  have hen := h.en
  have hfind : sewAt T st.en st.mv (numL (mkW L (s, e))) 0 = some ((A.length + cO (L.take s) : Nat) : Int) := by
    unfold sewAt
    rw [hpl, hln, pieceO_zero]
    simp only [Nat.zero_min, Int.natCast_zero, Int.add_zero]
    refine find_unique ?_ ?_ ?_
    · rcases h.mv with e | e
      · rw [e]
        have := aroundL_mem ((cO (L.take s) : Nat) + (0 : Int)) T.length A.length (by omega)
        rw [show ((A.length + cO (L.take s) : Nat) : Int) = ((cO (L.take s) : Nat) : Int) + 0 + (A.length : Int) by omega]
        exact this
      · rw [e]
        have := aroundL_mem ((cO (L.take s) : Nat) + (A.length : Int)) T.length 0 (by omega)
        rw [show ((A.length + cO (L.take s) : Nat) : Int) = ((cO (L.take s) : Nat) : Int) + (A.length : Int) + ((0 : Nat) : Int) by omega]
        exact this
    · unfold standM
      rw [decide_eq_true_eq]
      have e4 : (Dn.oldOf ((L.take e).drop s)).length = cO ((L.take e).drop s) := rfl
      refine ⟨by omega, by rw [e4]; omega, ?_⟩
      rw [Int.toNat_natCast, e4]
      exact hseg
    · intro x _ hx
      unfold standM at hx
      rw [decide_eq_true_eq] at hx
      obtain ⟨x1, x2, x3⟩ := hx
      have e4 : (Dn.oldOf ((L.take e).drop s)).length = cO ((L.take e).drop s) := rfl
      have hxt : x.toNat < T.length := by omega
      have g1 : T[x.toNat] = (Dn.oldOf ((L.take e).drop s))[0]'(by omega) := by
        have : ((T.drop x.toNat).take (Dn.oldOf ((L.take e).drop s)).length)[0]'(by rw [List.length_take, List.length_drop]; omega) = T[x.toNat] := by
          rw [List.getElem_take, List.getElem_drop]
          simp
        rw [← this]
        simp only [x3]
      have g2 : (Dn.oldOf ((L.take e).drop s))[0]'(by omega) = (Dn.oldOf L)[cO (L.take s)]'(by omega) := by
        have e1 : L = L.take s ++ (L.take e).drop s ++ L.drop e := by rw [← take_seg L (Nat.le_of_lt h1), List.take_append_drop]
        have e5 : Dn.oldOf L = Dn.oldOf (L.take s) ++ (Dn.oldOf ((L.take e).drop s) ++ Dn.oldOf (L.drop e)) := by
          conv => lhs; rw [e1, Dn.oldOf_append, Dn.oldOf_append]
          simp
        have e6 : (Dn.oldOf (L.take s)).length = cO (L.take s) := rfl
        have g3 : (Dn.oldOf L)[cO (L.take s)]? = (Dn.oldOf ((L.take e).drop s))[0]? := by
          rw [e5, List.getElem?_append_right (by rw [e6]; exact Nat.le_refl _), e6, Nat.sub_self, List.getElem?_append_left (by rw [e4]; exact hw)]
        rw [List.getElem?_eq_getElem (by omega), List.getElem?_eq_getElem (by rw [e4]; exact hw)] at g3
        exact (Option.some.inj g3).symm
      have := hO.one x.toNat (cO (L.take s)) hxt (by omega) (g1.trans g2)
      omega
  have hsew : sewM T st (numL (mkW L (s, e))) 0 = (sewTo T st (numL (mkW L (s, e))) 0 ((A.length + cO (L.take s) : Nat) : Int), ⟨true, ((A.length + cO (L.take s) : Nat) : Int) - (cO (L.take s) : Nat), 0⟩) := by
    unfold sewM sewFind
    rw [sewRounds_zero]
    unfold sewFrom
    simp only [hfind, hpl]
  rw [hsew]
  refine ⟨by simp only; congr 1; omega, ?_⟩
  unfold sewTo
  rw [hpl, hln, pieceO_zero, pieceF_zero]
  simp only [Nat.zero_min, Int.natCast_zero, Int.add_zero, Int.toNat_natCast]
  have e4 : (Dn.oldOf ((L.take e).drop s)).length = cO ((L.take e).drop s) := rfl
  refine ⟨by show A.length + cO (L.take s) + (Dn.oldOf ((L.take e).drop s)).length ≤ _; rw [e4]; omega, ?_, .inr (by show ((A.length + cO (L.take s) : Nat) : Int) - (cO (L.take s) : Nat) = _; omega)⟩
  simp only [e4]
  rw [show A.length + cO (L.take e) - (A.length + cO (L.take s) + cO ((L.take e).drop s)) = 0 by omega, List.take_zero, h.t, ← textL_append]
  have : textL ([] : List ByteArray) = [] := rfl
  rw [this, List.append_nil]
  congr 1
  conv => rhs; rw [take_seg L (Nat.le_of_lt h1), Dn.newOf_append]
  rw [List.append_assoc]
theorem apply_moved {L : List StepB} {A Z T : List ByteArray} (hO : Once L A Z T) : ∀ (ws : List (Nat × Nat)) (p : Nat) (st : SewS), p ≤ L.length → Wins L p ws → (∀ w ∈ ws, 0 < cO ((L.take w.2).drop w.1)) → SInv L A T p st →
    (∀ m ∈ (applyFrom T 0 st (ws.map fun p => numL (mkW L p))).2, m = ⟨true, A.length, 0⟩) ∧
    (applyFrom T 0 st (ws.map fun p => numL (mkW L p))).1.t ++ textL (T.drop (applyFrom T 0 st (ws.map fun p => numL (mkW L p))).1.en) = textL (A ++ Dn.newOf L ++ Z)
  | [], p, st, hp, hw, _, hs => by
    refine ⟨by simp [applyFrom], ?_⟩
    have h := hs.keep hO hw.1 hw.2
    have hen := h.en
    rw [List.take_length] at hen
    have ht := h.t
    rw [List.take_length] at ht
    have hX : cO L = (Dn.oldOf L).length := rfl
    show st.t ++ textL (T.drop st.en) = _
    have e1 : T.drop st.en = (T.drop st.en).take (A.length + cO L - st.en) ++ Z := by
      conv => lhs; rw [← List.take_append_drop (A.length + cO L - st.en) (T.drop st.en)]
      rw [List.drop_drop, show st.en + (A.length + cO L - st.en) = (A ++ Dn.oldOf L).length by rw [List.length_append]; omega]
      congr 1
      rw [hO.eq, List.drop_left' rfl]
    rw [e1, textL_append, ← List.append_assoc, ht, ← textL_append]
  | (s, e) :: ws, p, st, hp, hw, hc, hs => by
    obtain ⟨h1, h2, h3, h4, _, h5⟩ := hw
    have h := hs.keep hO h1 h4
    obtain ⟨r1, r2⟩ := sew_moved hO h h2 (hc (s, e) (by simp))
    obtain ⟨i1, i2⟩ := apply_moved hO ws e _ h3 h5 (fun w hw' => hc w (List.mem_cons_of_mem _ hw')) r2
    rw [List.map_cons]
    unfold applyFrom
    simp only
    refine ⟨?_, i2⟩
    intro m hm
    rcases List.mem_cons.1 hm with rfl | hm
    · exact r1
    · exact i1 m hm

def aheadB : ByteArray := ⟨#[97, 104, 101, 97, 100]⟩
def behindB : ByteArray := ⟨#[98, 101, 104, 105, 110, 100]⟩
def movedT (X : List ByteArray) (n m : Nat) : List ByteArray := List.replicate n aheadB ++ X ++ List.replicate m behindB
structure MovedFacts (X Y : List ByteArray) (n m : Nat) (hs : List HunkM) : Prop where
  eq : hunksM (Dn.wayM X Y) 3 = hs
  right : rightM 0 0 hs = true
  ok : hs.all hunkOkB = true
  len : hs.length ≤ 200
  moved : X.Nodup → (∀ h ∈ hs, 0 < h.fc) → (∀ s ∈ applyS (movedT X n m) 0 hs, s = ⟨true, n, 0⟩) ∧ applyT (movedT X n m) 0 hs = textB (movedT Y n m)
theorem wins_length {L : List StepB} : ∀ (ws : List (Nat × Nat)) (p : Nat), Wins L p ws → ws.length + p ≤ L.length
  | [], p, h => by have := h.1; simpa using this
  | (s, e) :: ws, p, h => by
    have := wins_length ws e h.2.2.2.2.2
    have h1 := h.1
    have h2 := h.2.1
    simp only [List.length_cons]
    omega
theorem moved_facts {X Y : List ByteArray} (n m : Nat) (hX : ∀ s ∈ X, (10 : UInt8) ∉ s.data.toList ∧ s.size ≤ 15 ∧ s.size ≠ 5 ∧ s.size ≠ 6) (hY : ∀ s ∈ Y, (10 : UInt8) ∉ s.data.toList ∧ s.size ≤ 15) (hl : X.length + Y.length ≤ 200) : ∃ hs, MovedFacts X Y n m hs := by
  obtain ⟨w1, w2, w3⟩ := Dn.wayM_way X Y
  have hlen : (Dn.wayM X Y).length ≤ 200 := by
    have := way_len X Y
    omega
  have hok : WayOk (Dn.wayM X Y) := by
    intro s hs
    refine ⟨w3 s hs, ?_⟩
    rcases way_text hs with h | h
    · exact ⟨(hX _ h).1, (hX _ h).2.1⟩
    · exact hY _ h
  obtain ⟨ws, e1, e2⟩ := hunks_wins (Dn.wayM X Y) 3
  obtain ⟨r1, r2⟩ := wins_right hok hlen ws 0 (Nat.zero_le _) e2
  refine ⟨_, e1, by simpa [cO, cN, Dn.oldOf, Dn.newOf] using r1, r2, ?_, ?_⟩
  · have := wins_length ws 0 e2
    rw [List.length_map]
    omega
  · intro hnd hwh
    have hO : Once (Dn.wayM X Y) (List.replicate n aheadB) (List.replicate m behindB) (movedT X n m) := by
      refine ⟨by unfold movedT; rw [w1], ?_⟩
      intro x k hx hk he
      simp only [w1] at he hk
      have hmem := (hX X[k] (List.getElem_mem hk)).2.2
      have a5 : aheadB.size = 5 := rfl
      have b6 : behindB.size = 6 := rfl
      rw [List.length_replicate]
      have he2 : (movedT X n m)[x]? = some X[k] := by rw [List.getElem?_eq_getElem hx, he]
      have hxl : x < n + X.length + m := by have h2 := hx; unfold movedT at h2; simp at h2; omega
      unfold movedT at he2
      by_cases c1 : x < n
      · exfalso
        rw [List.getElem?_append_left (by simp; omega), List.getElem?_append_left (by simpa using c1), List.getElem?_replicate, if_pos c1] at he2
        rw [← Option.some.inj he2, a5] at hmem
        exact hmem.1 rfl
      · by_cases c2 : x < n + X.length
        · rw [List.getElem?_append_left (by simp; omega), List.getElem?_append_right (by simp; omega), List.length_replicate, List.getElem?_eq_getElem (by omega)] at he2
          have hpw := List.pairwise_iff_getElem.1 (List.nodup_iff_pairwise_ne.1 hnd)
          have he3 := Option.some.inj he2
          rcases Nat.lt_trichotomy (x - n) k with h1 | h1 | h1
          · exact absurd he3 (hpw _ _ (by omega) hk h1)
          · omega
          · exact absurd he3.symm (hpw _ _ hk (by omega) h1)
        · exfalso
          rw [List.getElem?_append_right (by simp; omega), List.getElem?_replicate, if_pos (by simp; omega)] at he2
          rw [← Option.some.inj he2, b6] at hmem
          exact hmem.2 rfl
    obtain ⟨m1, m2⟩ := apply_moved hO ws 0 ⟨[], 0, 0⟩ (Nat.zero_le _) e2 (fun w hw => hwh _ (List.mem_map.2 ⟨w, hw, rfl⟩)) ⟨Nat.zero_le _, by
      have h0 : cO ([] : List StepB) = 0 := rfl
      simp only [List.drop_zero, Nat.sub_zero, List.nil_append, List.take_zero]
      rw [h0, Nat.add_zero]
      unfold movedT
      rw [List.append_assoc, List.take_left' rfl]
      have : Dn.newOf ([] : List StepB) = [] := rfl
      rw [this, List.append_nil], .inl rfl⟩
    rw [List.length_replicate] at m1
    rw [w2] at m2
    refine ⟨?_, ?_⟩
    · unfold applyS applyK
      rw [List.take_length]
      exact m1
    · unfold applyT applyK textB movedT
      rw [List.take_length]
      rw [← m2]
      rfl
end Go.Proofs.YtcclgodahlinbaaGreatDoor

namespace Go.Proofs.YtcclgodahlinbaaGreatDoor
open Go.RowKit Go
set_option maxRecDepth 100000

theorem toks_count : ∀ {ts : List Tok}, (∀ t ∈ ts, (10 : UInt8) ∉ tokL t) → (toksL ts).count 10 = ts.length
  | [], _ => rfl
  | t :: ts, h => by
    rw [toksL_cons, List.count_append, List.count_append, toks_count (fun x hx => h x (List.mem_cons_of_mem _ hx)), List.count_eq_zero.2 (h t (by simp))]
    simp
    omega
theorem steps_nl {st' : Rd} : ∀ {ts : List Tok} {st : Rd}, Steps st ts st' → ∀ t ∈ ts, (10 : UInt8) ∉ tokL t
  | [], _, _, t, ht => by simp at ht
  | t0 :: ts, st, ⟨m, h1, h2⟩, t, ht => by
    rcases List.mem_cons.1 ht with rfl | ht
    · exact step_nl h1
    · exact steps_nl h2 t ht
/-- a text that is cut off: whole lines, and the beginning of one -/
theorem toks_cut : ∀ (ts : List Tok) (n : Nat), (∀ t ∈ ts, (10 : UInt8) ∉ tokL t) → ∃ k rest, k ≤ ts.length ∧ (toksL ts).take n = toksL (ts.take k) ++ rest ∧ (10 : UInt8) ∉ rest
  | [], n, _ => ⟨0, [], by simp, by simp [toksL], by simp⟩
  | t :: ts, n, h => by
    have ht := h t (by simp)
    by_cases hn : n ≤ (tokL t).length
    · refine ⟨0, (tokL t).take n, by simp, ?_, fun hm => ht (List.mem_of_mem_take hm)⟩
      rw [toksL_cons, List.append_assoc, List.take_append_of_le_length hn]
      simp [toksL]
    · obtain ⟨k, rest, h1, h2, h3⟩ := toks_cut ts (n - ((tokL t).length + 1)) (fun x hx => h x (List.mem_cons_of_mem _ hx))
      refine ⟨k + 1, rest, by simp; omega, ?_, h3⟩
      rw [toksL_cons, List.take_succ_cons, toksL_cons, List.append_assoc _ _ rest, ← h2]
      rw [List.take_append, List.take_of_length_le (by simp; omega)]
      simp
theorem toks_last {ts : List Tok} (h0 : ts ≠ []) (hk : ∀ t ∈ ts, (10 : UInt8) ∉ tokL t) : ∃ tl, (toksL ts).take ((toksL ts).length - 1) = toksL (ts.take (ts.length - 1)) ++ tl ∧ (10 : UInt8) ∉ tl ∧ tl = tokL (ts.getLast h0) := by
  have e : ts = ts.take (ts.length - 1) ++ [ts.getLast h0] := by
    conv => lhs; rw [← List.dropLast_concat_getLast h0, List.dropLast_eq_take]
  refine ⟨tokL (ts.getLast h0), ?_, hk _ (List.getLast_mem h0), rfl⟩
  conv => lhs; rw [e, toksL_append, toksL_one]
  rw [← List.append_assoc, List.take_left' (by simp)]
theorem tokL_ne (t : Tok) : tokL t ≠ [] := by cases t <;> simp [tokL, headM]

/-! ### Diff's hunks -/
structure DiffFacts (X Y : List ByteArray) (c : Nat) (hs : List HunkM) : Prop where
  eq : hunksM (Dn.wayM X Y) c = hs
  right : rightM 0 0 hs = true
  ok : hs.all hunkOkB = true
  len : hs.length ≤ 120
  sm : ∀ h ∈ hs, Small h ∧ ∀ s ∈ h.lines, Fine s
  txt : (writeM hs).length ≤ 4440
  nil : hs = [] → X = Y
  toks : (toksM hs).length ≤ 240
theorem wins_small {L : List StepB} (hL : WayOk L) (hO : cO L ≤ 60) (hN : cN L ≤ 60) : ∀ (ws : List (Nat × Nat)) (p : Nat), Wins L p ws →
    (∀ h ∈ ws.map (fun p => numL (mkW L p)), Small h ∧ ∀ s ∈ h.lines, Fine s) ∧ (writeM (ws.map fun p => numL (mkW L p))).length + 37 * p ≤ 37 * L.length ∧ (toksM (ws.map fun p => numL (mkW L p))).length + 2 * p ≤ 2 * L.length
  | [], p, h => ⟨by simp, by have := h.1; simp [writeM, toksM, toksL]; omega, by have := h.1; simp [toksM]; omega⟩
  | (s, e) :: ws, p, h => by
    obtain ⟨h1, h2, h3, h4, _, h5⟩ := h
    obtain ⟨i1, i2, i3⟩ := wins_small hL hO hN ws e h5
    have e3 := cO_seg L (Nat.le_of_lt h2)
    have e4 := cN_seg L (Nat.le_of_lt h2)
    have hW : numL (mkW L (s, e)) = ⟨cO (L.take s) + (if cO ((L.take e).drop s) = 0 then 0 else 1), cO ((L.take e).drop s), cN (L.take s) + (if cN ((L.take e).drop s) = 0 then 0 else 1), cN ((L.take e).drop s), (L.take e).drop s⟩ := rfl
    have e5 : cO L = cO (L.take e) + cO (L.drop e) := by conv => lhs; rw [← List.take_append_drop e L, cO_append]
    have e6 : cN L = cN (L.take e) + cN (L.drop e) := by conv => lhs; rw [← List.take_append_drop e L, cN_append]
    have hmem : ∀ x ∈ (L.take e).drop s, x ∈ L := fun x hx => List.mem_of_mem_take (List.mem_of_mem_drop hx)
    have hlen : ((L.take e).drop s).length = e - s := by rw [List.length_drop, List.length_take]; omega
    have hsm : Small (numL (mkW L (s, e))) := by
      rw [hW]
      unfold Small
      refine ⟨?_, ?_, ?_, ?_⟩ <;> simp only <;> (try split) <;> omega
    refine ⟨?_, ?_, ?_⟩
    · intro x hx
      rw [List.map_cons] at hx
      rcases List.mem_cons.1 hx with rfl | hx
      · exact ⟨hsm, fun y hy => ⟨(hL y (hmem y hy)).1, by have := (hL y (hmem y hy)).2.2; omega⟩⟩
      · exact i1 x hx
    · have hone : (writeM [numL (mkW L (s, e))]).length ≤ 20 + 17 * (e - s) := by
        unfold writeM
        obtain ⟨x, hx, hxs⟩ : ∃ x : HunkM, toksH (numL (mkW L (s, e))) = (Sum.inl x : Tok) :: ((L.take e).drop s).map .inr ∧ Small x := ⟨_, rfl, hsm⟩
        rw [toksM_one, hx, toksL_cons, ← hlen]
        have hh := head_len hxs
        have hb : ∀ (M : List StepB), (∀ x ∈ M, x.text.size ≤ 15) → (toksL (M.map .inr)).length ≤ 17 * M.length := by
          intro M
          induction M with
          | nil => intro _; simp [toksL]
          | cons x M ih =>
            intro hM
            have := ih (fun y hy => hM y (List.mem_cons_of_mem _ hy))
            have h15 := hM x (by simp)
            have hsz : x.text.data.toList.length = x.text.size := rfl
            rw [List.map_cons, toksL_cons]
            simp only [List.length_append, tokL, List.length_cons, List.length_nil, hsz]
            omega
        have := hb ((L.take e).drop s) (fun x hx => (hL x (hmem x hx)).2.2)
        simp only [List.length_append, List.length_cons, List.length_nil]
        have h20 : (tokL (.inl x)).length ≤ 19 := hh
        omega
      have ec : (List.map (fun p => numL (mkW L p)) ((s, e) :: ws)) = [numL (mkW L (s, e))] ++ ws.map (fun p => numL (mkW L p)) := rfl
      rw [ec, writeM_append, List.length_append]
      omega
    · have ec : (List.map (fun p => numL (mkW L p)) ((s, e) :: ws)) = [numL (mkW L (s, e))] ++ ws.map (fun p => numL (mkW L p)) := rfl
      have h1' : (toksM [numL (mkW L (s, e))]).length = 1 + (e - s) := by
        rw [toksM_one]
        show (((L.take e).drop s).map (Sum.inr : StepB → Tok)).length + 1 = _
        rw [List.length_map, hlen]
        omega
      rw [ec, toksM_append, List.length_append, h1']
      omega
theorem diff_facts {X Y : List ByteArray} (c : Nat) (hX : ∀ s ∈ X, (10 : UInt8) ∉ s.data.toList ∧ s.size ≤ 15) (hY : ∀ s ∈ Y, (10 : UInt8) ∉ s.data.toList ∧ s.size ≤ 15) (hx : X.length ≤ 60) (hy : Y.length ≤ 60) : ∃ hs, DiffFacts X Y c hs := by
  obtain ⟨w1, w2, w3⟩ := Dn.wayM_way X Y
  have hlen : (Dn.wayM X Y).length ≤ 120 := by
    have := way_len X Y
    omega
  have hok : WayOk (Dn.wayM X Y) := by
    intro s hs
    refine ⟨w3 s hs, ?_⟩
    rcases way_text hs with h | h
    · exact hX _ h
    · exact hY _ h
  obtain ⟨ws, e1, e2⟩ := hunks_wins (Dn.wayM X Y) c
  obtain ⟨r1, r2⟩ := wins_right hok (by omega) ws 0 (Nat.zero_le _) e2
  have hO : cO (Dn.wayM X Y) ≤ 60 := by unfold cO; rw [w1]; exact hx
  have hN : cN (Dn.wayM X Y) ≤ 60 := by unfold cN; rw [w2]; exact hy
  obtain ⟨q1, q2, q3⟩ := wins_small hok hO hN ws 0 e2
  refine ⟨_, e1, by simpa [cO, cN, Dn.oldOf, Dn.newOf] using r1, r2, ?_, q1, by omega, ?_, by omega⟩
  · have := wins_length ws 0 e2
    rw [List.length_map]
    omega
  · intro hnil
    have : ws = [] := by simpa using hnil
    subst this
    have hk := keeps_same (kept_seg e2.2)
    simp only [List.drop_zero, List.take_length] at hk
    rw [w1, w2] at hk
    exact hk.1.trans hk.2.symm

/-- the text of a patch of Diff's, and how it is read -/
theorem strict_run {hs : List HunkM} (hr : rightM 0 0 hs = true) (hsm : ∀ h ∈ hs, Small h ∧ ∀ s ∈ h.lines, Fine s) : ∃ st, Steps Rd.start (toksM hs) st ∧ st.hs = hs ∧ st.f = 0 ∧ st.t = 0 ∧ st.ended ∧ ∀ h tl, hs = h :: tl → fitsM h st.en st.gr = false := by
  obtain ⟨st, g1, g2, g3, g4, g5, g6, g7, g8⟩ := run_hunks hs Rd.start hr rfl rfl (.inl rfl) hsm
  refine ⟨st, g1, by rw [g2]; rfl, g3, g4, g5, ?_⟩
  intro h tl e
  subst e
  have z1 : Rd.start.en = 0 := rfl
  have z2 : Rd.start.gr = 0 := rfl
  exact first_again hr (g8 h tl rfl) (by rw [g7, z2]; omega)
end Go.Proofs.YtcclgodahlinbaaGreatDoor

namespace Go.Proofs.YtcclgodahlinbaaGreatDoor
open Go.RowKit Go
set_option maxRecDepth 100000

/-- a row of strings in a block of its own -/
def RowN (base : Nat) (w : World) (g cap n : Nat) (L : List ByteArray) : Prop := L.length = n ∧ w.ownsRow base 9 1 (.slice (some ⟨g, 0, none⟩) n cap) n (strCells L)
theorem strCells_set (L : List ByteArray) (j : Nat) (s : ByteArray) : (strCells L).set j (.string s) = strCells (L.set j s) := by unfold strCells; rw [List.map_set]
theorem strCells_one (L : List ByteArray) : ∀ u ∈ strCells L, u.oneCell' = true := by
  intro u hu
  obtain ⟨s, _, rfl⟩ := List.mem_map.1 hu
  rfl
theorem strCells_length (L : List ByteArray) : (strCells L).length = L.length := by simp [strCells]
theorem RowN.rowS {base : Nat} {w : World} {g cap n : Nat} {L : List ByteArray} (h : RowN base w g cap n L) : RowS w (.slice (some ⟨g, 0, none⟩) n cap) L := by
  obtain ⟨rfl, h⟩ := h
  exact RowS.of_owns h
theorem RowN.cell {base : Nat} {w : World} {g cap n : Nat} {L : List ByteArray} (h : RowN base w g cap n L) {j : Nat} (hj : j < n) : w.cell? ⟨g, j, none⟩ = some (.string (L.getD j ByteArray.empty)) := by
  rw [h.2.cellAt j (by omega)]
  have := h.1
  simp [strCells, List.getD, show j < L.length by omega]
theorem RowN.frozen {base : Nat} {w : World} {g cap n : Nat} {L : List ByteArray} (h : RowN base w g cap n L) (j : Nat) : w.frozen? ⟨g, j, none⟩ = false := h.2.frozenAt j
theorem RowN.store {base : Nat} {w : World} {g cap n : Nat} {L : List ByteArray} (h : RowN base w g cap n L) (j : Nat) (s : ByteArray) : RowN base (w.setCell ⟨g, j, none⟩ (.string s)) g cap n (L.set j s) :=
  ⟨by rw [List.length_set]; exact h.1, by rw [← strCells_set]; exact (h.2.stored j (.string s)).1⟩
theorem RowN.lt {base : Nat} {w : World} {g cap n : Nat} {L : List ByteArray} (h : RowN base w g cap n L) : base ≤ g ∧ g < w.heap.size := h.2.lt g rfl
theorem RowN.below {base B : Nat} {w w' : World} {g cap n : Nat} {L : List ByteArray} (h : RowN base w g cap n L) (hb : Below B w w') (hg : g < B) : RowN base w' g cap n L := by
  refine ⟨h.1, h.2.1, ?_⟩
  rcases h.2.2 with ⟨e, _⟩ | ⟨g', cap', cur, e, h1, h2, h3⟩
  · cases e
  · cases e
    exact .inr ⟨g, cap, cur, rfl, h1, (hb.block g hg).trans h2, h3⟩
theorem RowN.alloc {base : Nat} {w : World} {g cap n : Nat} {L : List ByteArray} (h : RowN base w g cap n L) (ob : Obj) : RowN base (w.alloc ob) g cap n L := ⟨h.1, h.2.alloc ob⟩
/-- a store into another block -/
theorem RowN.other {base : Nat} {w : World} {g cap n : Nat} {L : List ByteArray} (h : RowN base w g cap n L) {a : Addr} (hne : a.block ≠ g) (u : Value) : RowN base (w.setCell a u) g cap n L := by
  refine ⟨h.1, h.2.1, ?_⟩
  rcases h.2.2 with ⟨e, _⟩ | ⟨g', cap', cur, e, h1, h2, h3⟩
  · cases e
  · cases e
    exact .inr ⟨g, cap, cur, rfl, h1, (Below.heap_setCell w a u g (fun e => hne e.symm)).trans h2, h3⟩
theorem textN_any {base : Nat} {w : World} {g cap n : Nat} {L : List ByteArray} (h : RowN base w g cap n L) (hl : (textL L).length ≤ 100000) :
    Calls Tryz.prog 11 #[.slice (some ⟨g, 0, none⟩) n cap] w fun e w' => e = .returned (.string (textB L)) ∧ w = w' := by
  obtain ⟨rfl, h⟩ := h
  exact ktext_any (RowS.of_owns h) hl

/-- append(nil, x...) -/
theorem wpList_copyN {ops : Array Oper} {rest : List Oper} {o : Oper} {a : Act} {w : World} {Q : Exit → Act → World → Prop} (hgd : o.guard = none) (s x : Operand)
    (ho : o.op = .call { callee := .builtin .append, args := #[s, x], argTypes := #[27, 27] }) (hs : a.eval s = .slice none 0 0)
    {base gx cx n : Nat} {L : List ByteArray} (hx : a.eval x = .slice (some ⟨gx, 0, none⟩) n cx) (hX : RowN base w gx cx n L) (hp : 0 < n) (hn : n ≤ 1000)
    (h : ∀ gy cy w', w.heap.size ≤ gy → gy < w'.heap.size → RowN w.heap.size w' gy cy n L → Below w.heap.size w w' → wpList Tryz.prog ops Q rest (a.put o.dst (.slice (some ⟨gy, 0, none⟩) n cy)) w') : wpList Tryz.prog ops Q (o :: rest) a w := by
  obtain ⟨i0, hi, hz0, hz1, hz2⟩ := info_parts info_str
  refine wpList_append_own2 hgd s x 27 ho w.heap.size 9 i0 _ 1 16 Tryz.underlying27 hi hz0 hz1 hz2 rfl (by decide) (.slice none 0 0) 0 [] hs (World.ownsRow_nil _ _ _ _) ⟨gx, 0, none⟩ n cx (strCells L) hx
    (by rw [strCells_length, hX.1]; omega) (hX.2.cells rfl) (strCells_one L) (by unfold maxLen; omega) (by omega) (Nat.le_refl _) ?_
  intro v' w' hown hgr hnew
  rw [Nat.zero_add, List.nil_append] at hown
  obtain ⟨gy, cy, rfl, h1, h2, _⟩ := owns_slice hown hp
  exact h gy cy w' h1 h2 ⟨hX.1, hown⟩ ⟨hgr.os, hgr.tape, hgr.output, hgr.size, fun k hk => hgr.block k hk (by simp [Value.ownBlock])⟩
end Go.Proofs.YtcclgodahlinbaaGreatDoor

namespace Go.Proofs.YtcclgodahlinbaaGreatDoor
open Go.RowKit Go
set_option maxRecDepth 100000

/-- the eleven lines -/
def lineTab : List ByteArray := [⟨#[]⟩, ⟨#[97]⟩, ⟨#[98]⟩, ⟨#[99]⟩, ⟨#[97, 32, 98]⟩, ⟨#[32, 32, 120]⟩, ⟨#[45, 97]⟩, ⟨#[43, 98]⟩, ⟨#[64, 64, 32, 45, 49, 44, 49, 32, 43, 49, 44, 49, 32, 64, 64]⟩, ⟨#[195, 169]⟩, ⟨#[32]⟩]
def lineK (i : Nat) : ByteArray := lineTab.getD i ByteArray.empty
def lineOf (c : Int) : ByteArray := lineK (pickN c 11)
theorem lineK_ok {i : Nat} (h : i < 11) : (10 : UInt8) ∉ (lineK i).data.toList ∧ (lineK i).size ≤ 15 := by
  have h1 : ((List.range 11).all fun i => !(lineK i).data.toList.contains 10 && decide ((lineK i).size ≤ 15)) = true := by kernel_rfl
  have h2 := (List.all_eq_true.1 h1) i (List.mem_range.2 h)
  simp only [Bool.and_eq_true, decide_eq_true_eq] at h2
  exact ⟨by simpa using h2.1, h2.2⟩
theorem lineOf_ok (c : Int) : (10 : UInt8) ∉ (lineOf c).data.toList ∧ (lineOf c).size ≤ 15 := lineK_ok (pickN_lt c (by decide))

set_option maxHeartbeats 1000000 in
theorem line_any (c : Int) (w : World) (hc : -9223372036854775808 ≤ c ∧ c ≤ 9223372036854775807) :
    Calls Tryz.prog 23 #[.int .i64 c] w fun e w' => e = .returned (.string (lineOf c)) ∧ Below w.heap.size w w' := by
  have hp := fun w => pick_any c 11 w hc (by decide) (by decide)
  have hl := pickN_lt c (n := 11) (by decide)
  unfold lineOf
  generalize pickN c 11 = i at *
  have hb := (Below.refl w.heap.size w).alloc (Nat.le_refl _) (.cells #[.string ⟨#[]⟩, .string ⟨#[97]⟩, .string ⟨#[98]⟩, .string ⟨#[99]⟩, .string ⟨#[97, 32, 98]⟩, .string ⟨#[32, 32, 120]⟩, .string ⟨#[45, 97]⟩, .string ⟨#[43, 98]⟩, .string ⟨#[64, 64, 32, 45, 49, 44, 49, 32, 43, 49, 44, 49, 32, 64, 64]⟩, .string ⟨#[195, 169]⟩, .string ⟨#[32]⟩] 9)
  have hB := heap_alloc_new w (.cells #[.string ⟨#[]⟩, .string ⟨#[97]⟩, .string ⟨#[98]⟩, .string ⟨#[99]⟩, .string ⟨#[97, 32, 98]⟩, .string ⟨#[32, 32, 120]⟩, .string ⟨#[45, 97]⟩, .string ⟨#[43, 98]⟩, .string ⟨#[64, 64, 32, 45, 49, 44, 49, 32, 43, 49, 44, 49, 32, 64, 64]⟩, .string ⟨#[195, 169]⟩, .string ⟨#[32]⟩] 9)
  have hcell : (w.alloc (.cells #[.string ⟨#[]⟩, .string ⟨#[97]⟩, .string ⟨#[98]⟩, .string ⟨#[99]⟩, .string ⟨#[97, 32, 98]⟩, .string ⟨#[32, 32, 120]⟩, .string ⟨#[45, 97]⟩, .string ⟨#[43, 98]⟩, .string ⟨#[64, 64, 32, 45, 49, 44, 49, 32, 43, 49, 44, 49, 32, 64, 64]⟩, .string ⟨#[195, 169]⟩, .string ⟨#[32]⟩] 9)).cell? ⟨w.heap.size, i, none⟩ = some (.string (lineK i)) := by
    refine cell_of hB ?_
    match i, hl with
    | 0, _ => rfl
    | 1, _ => rfl
    | 2, _ => rfl
    | 3, _ => rfl
    | 4, _ => rfl
    | 5, _ => rfl
    | 6, _ => rfl
    | 7, _ => rfl
    | 8, _ => rfl
    | 9, _ => rfl
    | 10, _ => rfl
    | k + 11, h => exact absurd h (by omega)
  go_enter Tryz.func23, Tryz.ntmps23
  go_wp2_with fail
  generalize w.alloc (.cells #[.string ⟨#[]⟩, .string ⟨#[97]⟩, .string ⟨#[98]⟩, .string ⟨#[99]⟩, .string ⟨#[97, 32, 98]⟩, .string ⟨#[32, 32, 120]⟩, .string ⟨#[45, 97]⟩, .string ⟨#[43, 98]⟩, .string ⟨#[64, 64, 32, 45, 49, 44, 49, 32, 43, 49, 44, 49, 32, 64, 64]⟩, .string ⟨#[195, 169]⟩, .string ⟨#[32]⟩] 9) = W at hb hcell ⊢
  refine (hp _).mono ?_
  rintro e w' ⟨rfl, rfl⟩
  have hiI : (i : Int) < 11 := by omega
  go_wp2_with fail
  go_ret
  exact ⟨rfl, hb⟩

/-- a row of ints, as it is read -/
def RowI (w : World) (v : Value) (L : List Int) : Prop :=
  (L = [] ∧ ∃ a c, v = .slice a 0 c) ∨ ∃ b off cap, v = .slice (some ⟨b, off, none⟩) L.length cap ∧ b < w.heap.size ∧ ∀ i (h : i < L.length), w.cell? ⟨b, off + i, none⟩ = some (.int .i64 L[i])
theorem RowI.below {w w' : World} {v : Value} {L : List Int} (h : RowI w v L) (hb : Below w.heap.size w w') : RowI w' v L := by
  rcases h with h | ⟨b, off, cap, e, hB, hc⟩
  · exact .inl h
  · exact .inr ⟨b, off, cap, e, Nat.lt_of_lt_of_le hB hb.size, fun i hi => (hb.cell (p := ⟨b, off + i, none⟩) hB).trans (hc i hi)⟩
theorem RowI.slice {w : World} {v : Value} {L : List Int} (h : RowI w v L) : ∃ a c, v = .slice a L.length c := by
  rcases h with ⟨rfl, a, c, rfl⟩ | ⟨b, off, cap, rfl, _⟩
  · exact ⟨a, c, rfl⟩
  · exact ⟨_, _, rfl⟩
theorem RowI.at {w : World} {a : Option Addr} {n c : Nat} {L : List Int} (h : RowI w (.slice a n c) L) {i : Nat} (hi : i < L.length) : ∃ b off, a = some ⟨b, off, none⟩ ∧ w.cell? ⟨b, off + i, none⟩ = some (.int .i64 L[i]) := by
  rcases h with ⟨rfl, _⟩ | ⟨b, off, cap, e, _, hc⟩
  · simp at hi
  · cases e
    exact ⟨b, off, rfl, hc i hi⟩
def i64s (L : List Int) : Prop := ∀ c ∈ L, -9223372036854775808 ≤ c ∧ c ≤ 9223372036854775807
def linesK (L : List Int) : List ByteArray := (L.take 60).map lineOf
theorem linesK_plain (L : List Int) : (∀ s ∈ linesK L, (10 : UInt8) ∉ s.data.toList ∧ s.size ≤ 15) ∧ (linesK L).length ≤ 60 := by
  refine ⟨fun s hs => ?_, by unfold linesK; simp; omega⟩
  obtain ⟨c, _, rfl⟩ := List.mem_map.1 hs
  exact lineOf_ok c
set_option maxHeartbeats 4000000 in
theorem lines_any {L : List Int} {a : Option Addr} {c : Nat} {w : World} (hR : RowI w (.slice a L.length c) L) (hi64 : i64s L) :
    Calls Tryz.prog 10 #[.slice a L.length c] w fun e w' => ∃ v, e = .returned v ∧ w'.ownsRow w.heap.size 9 1 v (linesK L).length (strCells (linesK L)) ∧ Below w.heap.size w w' := by
  obtain ⟨i0, hi, hz0, hz1, hz2⟩ := info_parts info_str
  have hmn : min L.length 60 ≤ 60 := by omega
  have hfin : (linesK L).length = min L.length 60 := by unfold linesK; simp; omega
  go_enter Tryz.func10, Tryz.ntmps10
  go_wp2_with fail
  go_loopg [3, 4] (min L.length 60) (fun g v t wr => ∃ k : Nat, g = min L.length 60 - k ∧ k ≤ min L.length 60 ∧ t = .int .i64 k ∧ wr.ownsRow w.heap.size 9 1 v k (strCells ((linesK L).take k)) ∧ Below w.heap.size w wr)
  case atStart => exact ⟨0, by omega, by omega, rfl, World.ownsRow_nil _ _ _ _, Below.refl _ _⟩
  case round =>
    obtain ⟨k, hgk, hk0, rfl, ho, hbel⟩ := hrel
    have hszr := hbel.size
    obtain ⟨ax, cx, rfl⟩ := owns_isSlice ho
    have hG : Hid (gk = min L.length 60 - k) := hgk
    clear hgk
    by_cases hk : k < min L.length 60
    · have hkL : k < L.length := by omega
      have hkI : (k : Int) < L.length := by omega
      have hkJ : (k : Int) < 60 := by omega
      obtain ⟨b, off, rfl, hc⟩ := (hR.below hbel).at hkL
      have hla := line_any L[k] wr (hi64 _ (List.getElem_mem hkL))
      have hE : Hid ((linesK L).take (k + 1) = (linesK L).take k ++ [lineOf L[k]]) := by
        show _ = _
        rw [List.take_succ_eq_append_getElem (by rw [hfin]; exact hk)]
        unfold linesK
        simp
      generalize L[k] = x at *
      have hon : ∀ t : ByteArray, ∀ u ∈ [Value.string t], u.oneCell' = true := by intro t u hu; simp at hu; subst hu; rfl
      have hb1 : k + 1 ≤ maxLen := by unfold maxLen; omega
      have hb2 : (k + 1) * 16 ≤ 140737488355328 := by omega
      go_wp2_with fail
      refine hla.mono ?_
      rintro e w2 ⟨rfl, b2⟩
      have ho2 : w2.ownsRow w.heap.size 9 1 (.slice ax k cx) k (strCells ((linesK L).take k)) := ho.kept (row := none) ⟨b2.os, b2.tape, b2.output, b2.size, fun j hj _ => b2.block j hj⟩ (by cases h : (Value.slice ax k cx).ownBlock <;> simp)
      have hbel2 := hbel.trans (b2.mono hszr)
      have hz2' := b2.size
      generalize lineOf x = s at *
      go_wp2_with (at_builtin; refine wpList_append_own2 rfl (.tmp 21) (.tmp 23) 27 rfl w.heap.size 9 i0 _ 1 16 Tryz.underlying27 hi hz0 hz1 hz2 rfl (by decide) (.slice ax k cx) k (strCells ((linesK L).take k)) rfl (ho2.alloc _) ⟨w2.heap.size, 0, none⟩ 1 1 [.string s] rfl rfl (cells_new w2 [.string s] 9) (hon _) hb1 hb2 (by simp; omega) ?_; intro v' w3 hown hgr hnew; have hb3 := (hbel2.alloc (by omega) _).grown hgr (by simp; omega) (fun j e => (ho2.lt j e).1))
      go_roundg (min L.length 60 - (k + 1))
      · exact ⟨k + 1, rfl, by omega, by push_cast; rfl, by rw [hE.out, strCells_append]; exact hown, hb3⟩
      · have := hG.out; omega
    · obtain rfl : k = min L.length 60 := by omega
      rw [show (linesK L).take (min L.length 60) = linesK L from List.take_of_length_le (by omega)] at ho
      by_cases h60 : L.length < 60
      · have e1 : min L.length 60 = L.length := by omega
        rw [e1] at ho ⊢
        go_wp2_with fail
        go_ret
        exact ⟨_, rfl, by rw [hfin, e1]; exact ho, hbel⟩
      · have e1 : min L.length 60 = 60 := by omega
        rw [e1] at ho ⊢
        by_cases h6 : (60 : Int) < L.length
        · go_wp2_with fail
          go_ret
          exact ⟨_, rfl, by rw [hfin, e1]; exact ho, hbel⟩
        · have e2 : L.length = 60 := by omega
          rw [e2] at *
          go_wp2_with fail
          go_ret
          exact ⟨_, rfl, by first | exact ho | (rw [hfin]; exact ho), hbel⟩
end Go.Proofs.YtcclgodahlinbaaGreatDoor

namespace Go.Proofs.YtcclgodahlinbaaGreatDoor
open Go.RowKit Go
set_option maxRecDepth 100000

theorem SeamsAt.at {w : World} {a : Option Addr} {n c : Nat} {l : List SeamM} (h : SeamsAt w (.slice a n c) l) {i : Nat} (hi : i < l.length) :
    ∃ g, a = some ⟨g, 0, none⟩ ∧ w.cell? ⟨g, i * 3, none⟩ = some (.bool l[i].done) ∧ w.cell? ⟨g, i * 3 + 1, none⟩ = some (.int .i64 l[i].at') ∧ w.cell? ⟨g, i * 3 + 2, none⟩ = some (.int .i64 (l[i].fz : Nat)) := by
  rcases h with ⟨rfl, _⟩ | ⟨g, cap, e, _, hc⟩
  · simp at hi
  · cases e
    exact ⟨g, rfl, hc i hi⟩
theorem SeamsAt.below {w w' : World} {v : Value} {l : List SeamM} (h : SeamsAt w v l) (hb : Below w.heap.size w w') : SeamsAt w' v l := by
  rcases h with h | ⟨g, cap, e, hg, hc⟩
  · exact .inl h
  · exact .inr ⟨g, cap, e, Nat.lt_of_lt_of_le hg hb.size, fun i hi => ⟨(hb.cell (p := ⟨g, i * 3, none⟩) hg).trans (hc i hi).1, (hb.cell (p := ⟨g, i * 3 + 1, none⟩) hg).trans (hc i hi).2.1, (hb.cell (p := ⟨g, i * 3 + 2, none⟩) hg).trans (hc i hi).2.2⟩⟩
set_option maxHeartbeats 2000000 in
/-- all hunks are sewn in, moved by so much, with no fuzz -/
theorem still_yes {w : World} {a : Option Addr} {c : Nat} {l : List SeamM} {b : Int} (h : SeamsAt w (.slice a l.length c) l) (hl : l.length ≤ 100000) (hs : ∀ s ∈ l, s = ⟨true, b, 0⟩) :
    Calls Tryz.prog 18 #[.slice a l.length c, .int .i64 (l.length : Int), .int .i64 b] w fun e w' => e = .returned (.bool true) ∧ w = w' := by
  go_enter Tryz.func18, Tryz.ntmps18
  go_wp2_with fail
  go_loopg [7] l.length (fun g x wr => ∃ k : Nat, g = l.length - k ∧ k ≤ l.length ∧ x = .int .i64 k ∧ wr = w)
  case atStart => exact ⟨0, by omega, by omega, rfl, rfl⟩
  case round =>
    obtain ⟨k, hgk, hkl, rfl, rfl⟩ := hrel
    by_cases hk : k < l.length
    · have hkI : (k : Int) < l.length := by omega
      obtain ⟨g, rfl, c0, c1, c2⟩ := h.at hk
      rw [hs _ (List.getElem_mem hk)] at c0 c1 c2
      have c2' : wr.cell? ⟨g, k * 3 + 2, none⟩ = some (.int .i64 0) := c2
      have hG : Hid (gk = l.length - k) := hgk
      clear hgk c2
      go_wp2_with fail
      go_roundg (l.length - (k + 1))
      · exact ⟨k + 1, rfl, by omega, by push_cast; rfl, rfl⟩
      · have := hG.out; omega
    · obtain rfl : k = l.length := by omega
      go_wp2_with fail
      go_ret
      exact ⟨rfl, rfl⟩
end Go.Proofs.YtcclgodahlinbaaGreatDoor

namespace Go.Proofs.YtcclgodahlinbaaGreatDoor
open Go.RowKit Go
set_option maxRecDepth 100000

/-- lines as the statements make them -/
def OkL (L : List ByteArray) : Prop := ∀ s ∈ L, (10 : UInt8) ∉ s.data.toList ∧ s.size ≤ 15
theorem OkL.fit {L : List ByteArray} (h : OkL L) (hl : L.length ≤ 200) : Plain L ∧ L.length ≤ 200 ∧ (textL L).length ≤ 8000 := by
  have := textL_bound L 15 (fun s hs => (h s hs).2)
  exact ⟨fun s hs => (h s hs).1, hl, by omega⟩
theorem owns_low {B base n : Nat} {w w' : World} {v : Value} {xs : List Value} (h : w.ownsRow base 9 1 v n xs) (hb : Below B w w') (hB : ∀ g, v.ownBlock = some g → g < B) : w'.ownsRow base 9 1 v n xs := by
  refine ⟨h.1, ?_⟩
  rcases h.2 with h2 | ⟨g, cap, cur, e, h1, h2, h3⟩
  · exact .inl h2
  · exact .inr ⟨g, cap, cur, e, h1, (hb.block g (hB g (by rw [e]; rfl))).trans h2, h3⟩
theorem textO_any {base n c : Nat} {w : World} {a : Option Addr} {L : List ByteArray} (h : w.ownsRow base 9 1 (.slice a n c) n (strCells L)) (hl : (textL L).length ≤ 100000) :
    Calls Tryz.prog 11 #[.slice a n c] w fun e w' => e = .returned (.string (textB L)) ∧ w = w' := by
  have hn : L.length = n := by have := h.1; rw [strCells_length] at this; omega
  subst hn
  exact ktext_any (RowS.of_owns h) hl

theorem steps_take {st st' : Rd} {ts : List Tok} (h : Steps st ts st') (k : Nat) : ∃ m, Steps st (ts.take k) m ∧ Steps m (ts.drop k) st' := by
  rw [← List.take_append_drop k ts] at h
  exact steps_append.1 h
/-- a text of a patch of Diff's -/
structure Written (hs : List HunkM) (st : Rd) : Prop where
  run : Steps Rd.start (toksM hs) st
  eq : st.hs = hs
  f : st.f = 0
  t : st.t = 0
  fin : st.ended
  first : ∀ h tl, hs = h :: tl → fitsM h st.en st.gr = false
  right : rightM 0 0 hs = true
  sm : ∀ h ∈ hs, Small h ∧ ∀ s ∈ h.lines, Fine s
  txt : (writeM hs).length ≤ 4440
  toks : (toksM hs).length ≤ 240
theorem written_of {X Y : List ByteArray} {c : Nat} {hs : List HunkM} (h : DiffFacts X Y c hs) : ∃ st, Written hs st := by
  obtain ⟨st, g1, g2, g3, g4, g5, g6⟩ := strict_run h.right h.sm
  exact ⟨st, g1, g2, g3, g4, g5, g6, h.right, h.sm, h.txt, h.toks⟩
theorem toks_le : ∀ (ts : List Tok), ts.length ≤ (toksL ts).length
  | [] => by simp
  | t :: l => by have := toks_le l; rw [toksL_cons]; simp only [List.length_append, List.length_cons, List.length_nil]; omega
theorem tok_two (t : Tok) : 2 ≤ (tokL t ++ [10]).length := by
  have := List.length_pos_iff.2 (tokL_ne t)
  simp
  omega
theorem toks_le2 : ∀ (ts : List Tok), 2 * ts.length ≤ (toksL ts).length
  | [] => by simp
  | t :: l => by have := toks_le2 l; have := tok_two t; rw [toksL_cons, List.length_append, List.length_cons]; omega
abbrev wrong (n : Nat) : Ending := .returned (.tuple #[.agg #[.slice none 0 0], .int .i64 (n : Int), .int .i64 4])
theorem head_bound {a b c d : Nat} {h : HunkM} {en : Nat} {gr : Int} (hf : fitsM h en gr = true) (_ : a = b) (_ : c = d) : min h.fc 1 ≤ h.fr ∧ min h.tc 1 ≤ h.tr := by
  unfold fitsM at hf
  simp only [Bool.and_eq_true, decide_eq_true_eq] at hf
  exact ⟨hf.1.1.1.1.1.2, hf.1.1.2⟩
theorem read_last {hs : List HunkM} {st : Rd} (h : Written hs st) (h0 : hs ≠ []) {w : World} (hg : Glob w) :
    Calls Tryz.prog 17 #[.string ⟨((writeM hs).take ((writeM hs).length - 1)).toArray⟩] w fun e w' => e = wrong ((toksM hs).length - 1) ∧ Below w.heap.size w w' := by
  have hk := steps_nl h.run
  have ht0 : toksM hs ≠ [] := by cases hs with
    | nil => exact absurd rfl h0
    | cons x l => simp [toksM, toksH]
  obtain ⟨tl, e1, e2, e3⟩ := toks_last ht0 hk
  obtain ⟨m, m1, m2⟩ := steps_take h.run ((toksM hs).length - 1)
  have hx := h.txt
  have hlen : ((toksM hs).take ((toksM hs).length - 1)).length = (toksM hs).length - 1 := by rw [List.length_take]; omega
  have htk := h.toks
  have hle : (toksL ((toksM hs).take ((toksM hs).length - 1)) ++ tl).length ≤ 20000 := by rw [← e1, List.length_take]; have : (writeM hs).length = (toksL (toksM hs)).length := rfl; omega
  have hne : tl ≠ [] := by rw [e3]; exact tokL_ne _
  have := read_run (w := w) m1 hle (by omega) (.inr (.inl ⟨hne, e2⟩)) hg
  rw [← e1, hlen] at this
  refine this.mono ?_
  rintro e w' ⟨hr, hb⟩
  refine ⟨?_, hb⟩
  rcases hr with ⟨hr, _⟩ | ⟨_, hr⟩
  · exact absurd hr hne
  · exact hr
theorem read_more {hs : List HunkM} {st : Rd} (h : Written hs st) {l m : List UInt8} (hl : (10 : UInt8) ∉ l) (hr : Refused st l) (hlen : (writeM hs ++ (l ++ [10] ++ m)).length ≤ 20000) {w : World} (hg : Glob w) :
    Calls Tryz.prog 17 #[.string ⟨(writeM hs ++ (l ++ [10] ++ m)).toArray⟩] w fun e w' => e = wrong (toksM hs).length ∧ Below w.heap.size w w' := by
  have htk := h.toks
  refine (read_run (w := w) h.run hlen (by omega) (.inr (.inr ⟨l, m, rfl, hl, hr⟩)) hg).mono ?_
  rintro e w' ⟨hr, hb⟩
  refine ⟨?_, hb⟩
  rcases hr with ⟨hr, _⟩ | ⟨_, hr⟩
  · simp at hr
  · exact hr
theorem read_x {hs : List HunkM} {st : Rd} (h : Written hs st) {w : World} (hg : Glob w) :
    Calls Tryz.prog 17 #[.string ⟨(writeM hs ++ [120, 10]).toArray⟩] w fun e w' => e = wrong (toksM hs).length ∧ Below w.heap.size w w' := by
  have hx := h.txt
  exact read_more h (l := [120]) (m := []) (by decide) ⟨h.f, h.t, h.fin, .inl rfl⟩ (by simp; omega) hg
theorem read_twice {hs : List HunkM} {st : Rd} (h : Written hs st) (h0 : hs ≠ []) {w : World} (hg : Glob w) :
    Calls Tryz.prog 17 #[.string ⟨(writeM hs ++ writeM hs).toArray⟩] w fun e w' => e = wrong (toksM hs).length ∧ Below w.heap.size w w' := by
  have hx := h.txt
  cases hs with
  | nil => exact absurd rfl h0
  | cons x l =>
    have hsm := h.sm x (by simp)
    have hr := h.right
    rw [rightM] at hr
    simp only [Bool.and_eq_true, decide_eq_true_eq] at hr
    have hfit := hr.1.1.1
    obtain ⟨q1, q2⟩ := head_bound hfit (rfl : 0 = 0) (rfl : 0 = 0)
    have hno := h.first x l rfl
    have hR : Refused st (headM x) := ⟨h.f, h.t, h.fin, .inr ⟨x, rfl, hsm.1, q1, q2, by
      by_cases c : placeM x.fr x.fc < st.en
      · exact .inl c
      · refine .inr fun e => ?_
        unfold fitsM at hno hfit
        simp only [Bool.and_eq_true, decide_eq_true_eq] at hfit
        simp only [hfit.1.1, e, Bool.and_eq_false_iff, decide_eq_false_iff_not] at hno
        simp at hno
        omega⟩⟩
    have hw : writeM (x :: l) = headM x ++ [10] ++ (toksL (x.lines.map .inr) ++ writeM l) := by
      have : writeM (x :: l) = writeM [x] ++ writeM l := by rw [← writeM_append]; rfl
      rw [this, writeM_one]
      simp
    have := read_more h (l := headM x) (m := toksL (x.lines.map .inr) ++ writeM l) (head_nl hsm.1) hR (by rw [← hw, List.length_append]; omega) hg
    rw [← hw] at this
    exact this
/-- a text cut off: none, or what was written of the hunks that are whole -/
theorem read_cut {hs : List HunkM} {st : Rd} (h : Written hs st) (n : Nat) {w : World} (hg : Glob w) :
    Calls Tryz.prog 17 #[.string ⟨((writeM hs).take n).toArray⟩] w fun e w' => ((∃ k, e = wrong k) ∨ ∃ hs' a cap, e = .returned (.tuple #[.agg #[.slice a hs'.length cap], .int .i64 0, .int .i64 0]) ∧ HunksAt w'.heap.size w' (.slice a hs'.length cap) hs' ∧
      rightM 0 0 hs' = true ∧ hs'.length ≤ 1000 ∧ (∀ h ∈ hs', Small h ∧ ∀ s ∈ h.lines, Fine s) ∧ writeM hs' = (writeM hs).take n) ∧ Below w.heap.size w w' := by
  have hx := h.txt
  have htk := h.toks
  obtain ⟨k, rest, k1, k2, k3⟩ := toks_cut (toksM hs) n (steps_nl h.run)
  obtain ⟨m, m1, m2⟩ := steps_take h.run k
  have hle : (toksL ((toksM hs).take k) ++ rest).length ≤ 20000 := by rw [← k2, List.length_take]; have : (writeM hs).length = (toksL (toksM hs)).length := rfl; omega
  have hkl : ((toksM hs).take k).length ≤ 240 := by rw [List.length_take]; omega
  have hI := RInv.start.steps m1
  have := read_run (w := w) m1 hle (by omega) (by
    by_cases hr : rest = []
    · exact .inl hr
    · exact .inr (.inl ⟨hr, k3⟩)) hg
  have hk2 : (writeM hs).take n = toksL ((toksM hs).take k) ++ rest := k2
  rw [hk2]
  refine this.mono ?_
  rintro e w' ⟨hr, hb⟩
  refine ⟨?_, hb⟩
  rcases hr with ⟨hr, he, a, cap, rfl, hH⟩ | ⟨_, hr⟩
  · refine .inr ⟨m.hs, a, cap, rfl, hH, hI.right he, ?_, hI.sm, ?_⟩
    · have := hI.len
      simp only [List.nil_append] at this
      omega
    · rw [hI.txt, hr]
      simp
  · exact .inl ⟨_, hr⟩
theorem read_empty {w : World} (hg : Glob w) : Calls Tryz.prog 17 #[.string ⟨#[]⟩] w fun e w' => (∃ a cap, e = .returned (.tuple #[.agg #[.slice a 0 cap], .int .i64 0, .int .i64 0])) ∧ Below w.heap.size w w' := by
  have := read_run (w := w) (ts := []) (st := Rd.start) (rest := []) rfl (by simp [toksL]) (by simp) (.inl rfl) hg
  refine this.mono ?_
  rintro e w' ⟨hr, hb⟩
  refine ⟨?_, hb⟩
  rcases hr with ⟨_, _, a, cap, rfl, _⟩ | ⟨hr, _⟩
  · exact ⟨a, cap, rfl⟩
  · exact absurd ⟨rfl, .inl rfl⟩ hr
end Go.Proofs.YtcclgodahlinbaaGreatDoor

namespace Go.Proofs.YtcclgodahlinbaaGreatDoor
open Go.RowKit Go
set_option maxRecDepth 100000

set_option maxHeartbeats 400000 in
theorem pick_big (c : Int) (n : Nat) (w : World) (hc : -9223372036854775808 ≤ c ∧ c ≤ 9223372036854775807) (hn : 0 < n) (hn2 : n ≤ 100000) :
    Calls Tryz.prog 13 #[.int .i64 c, .int .i64 (n : Int)] w fun e w' => e = .returned (.int .i64 (pickN c n : Nat)) ∧ w = w' := by
  have hne : ¬ ((n : Int) = 0) := by omega
  by_cases h : c < 0
  · have e1 : IntKind.i64.wrap (c + 1) = c + 1 := by rw [IntKind.wrap_i64]; omega
    have e2 : IntKind.i64.wrap (-(c + 1)) = -(c + 1) := by rw [IntKind.wrap_i64]; omega
    have h1 := Int.emod_nonneg (-(c + 1)) (b := (n : Int)) (by omega)
    have h2 := Int.emod_lt_of_pos (-(c + 1)) (b := (n : Int)) (by omega)
    have e3 : ((pickN c n : Nat) : Int) = -(c + 1) % n := by unfold pickN; rw [if_pos h]; omega
    rw [e3]
    go_enter Tryz.func13, Tryz.ntmps13
    go_wp2
    go_ret
    refine ⟨ret_int ?_, rfl⟩
    rw [← Int.neg_tmod, Int.tmod_eq_emod_of_nonneg (by omega)]
  · have h1 := Int.emod_nonneg c (b := (n : Int)) (by omega)
    have h2 := Int.emod_lt_of_pos c (b := (n : Int)) (by omega)
    have e3 : ((pickN c n : Nat) : Int) = c % n := by unfold pickN; rw [if_neg h]; omega
    rw [e3]
    go_enter Tryz.func13, Tryz.ntmps13
    go_wp2
    go_ret
    exact ⟨rfl, rfl⟩

set_option maxHeartbeats 40000000 in
theorem strict_any {A E : List Int} {aa ae : Option Addr} {ca ce : Nat} (c0 : Int) {w : World} (hA : RowI w (.slice aa A.length ca) A) (hE : RowI w (.slice ae E.length ce) E) (hA64 : i64s A) (hE64 : i64s E)
    (hc0 : -9223372036854775808 ≤ c0 ∧ c0 ≤ 9223372036854775807) (hg : Glob w) :
    Calls Tryz.prog 7 #[.slice aa A.length ca, .slice ae E.length ce, .int .i64 c0] w fun e w' => e = .returned (.bool true) ∧ Below w.heap.size w w' := by
  obtain ⟨m, hm⟩ := hg.ml
  have hm0 : 0 < w.heap.size := by have := hg.sz; omega
  have haw := awake_any hm hm0
  go_enter Tryz.func7, Tryz.ntmps7
  go_wp2_with fail
  refine haw.mono ?_
  clear haw
  rintro e w1 ⟨rfl, b1⟩
  have z1 := b1.size
  have hli := lines_any (hA.below b1) hA64
  go_wp2_with fail
  refine hli.mono ?_
  clear hli
  rintro e w2 ⟨vx, rfl, hox, b2⟩
  have z2 := b2.size
  have hli := lines_any ((hE.below b1).below b2) hE64
  go_wp2_with fail
  refine hli.mono ?_
  clear hli
  rintro e w3 ⟨vy, rfl, hoy, b3⟩
  have z3 := b3.size
  have hox3 := owns_low hox b3 (fun g e => (hox.lt g e).2)
  have g3 := ((hg.next b1).next b2).next b3
  obtain ⟨m3, hm3⟩ := g3.ml
  obtain ⟨hXok, hXl⟩ := linesK_plain A
  obtain ⟨hYok, hYl⟩ := linesK_plain E
  generalize linesK A = X at *
  generalize linesK E = Y at *
  obtain ⟨hs, hF⟩ := diff_facts 1 (fun s h => hXok s h) (fun s h => hYok s h) hXl hYl
  obtain ⟨st, hW⟩ := written_of hF
  have hXo : OkL X := hXok
  have hYo : OkL Y := hYok
  have hfX := hXo.fit (by omega)
  have hfY := hYo.fit (by omega)
  have hdf := diff_text (c := 1) hfX.1 hfX.2.1 hfX.2.2 hfY.1 hfY.2.1 hfY.2.2 (by omega) hm3
  rw [hF.eq] at hdf
  have hdf' : Calls Tryz.prog 12 #[.string (textB X), .string (textB Y), .int .i64 1] w3 fun e w' =>
    ∃ a cap, e = .returned (.tuple #[.agg #[.slice a hs.length cap], .int .i64 0]) ∧ HunksAt w'.heap.size w' (.slice a hs.length cap) hs ∧ Below w3.heap.size w3 w' := hdf
  have hlen := hF.len
  have hnil := hF.nil
  have htx := hW.txt
  generalize hnx : X.length = nx at *
  generalize hny : Y.length = ny at *
  obtain ⟨ax, cx, rfl⟩ := owns_isSlice hox3
  obtain ⟨ay, cy, rfl⟩ := owns_isSlice hoy
  have ht1 := textO_any hox3 (by omega)
  have ht2 := textO_any hoy (by omega)
  have hbW : Below w.heap.size w w3 := b1.trans ((b2.mono z1).trans (b3.mono (by omega)))
  have hF' : Hid (rightM 0 0 hs = true ∧ ∀ h ∈ hs, Small h ∧ ∀ s ∈ h.lines, Fine s) := ⟨hF.right, hF.sm⟩
  clear hdf hox hXok hYok b1 b2 b3 hm hA hE hA64 hE64 hnx hny hF hm3 hg
  go_wp2_with fail
  refine ht1.mono ?_
  rintro e w' ⟨rfl, rfl⟩
  go_wp2_with fail
  refine ht2.mono ?_
  rintro e w' ⟨rfl, rfl⟩
  go_wp2_with fail
  refine hdf'.mono ?_
  clear hdf' ht1 ht2
  rintro e W4 ⟨a, cap, rfl, hH, b4⟩
  have z4 := b4.size
  have hb5 := (Below.refl W4.heap.size W4).alloc (Nat.le_refl _) (.cells #[.slice a hs.length cap] 32)
  have hp5 := heap_alloc_new W4 (.cells #[.slice a hs.length cap] 32)
  have z5 : (W4.alloc (.cells #[.slice a hs.length cap] 32)).heap.size = W4.heap.size + 1 := by simp
  have hH5 := (hH.below hb5).mono hb5.size
  have hb35 := b4.trans (hb5.mono z4)
  have hX5 := owns_low hox3 hb35 (fun g e => (hox3.lt g e).2)
  have hY5 := owns_low hoy hb35 (fun g e => (hoy.lt g e).2)
  have g5 := g3.next hb35
  have hbW5 : Below w.heap.size w (W4.alloc (.cells #[.slice a hs.length cap] 32)) := hbW.trans (hb35.mono (by omega))
  have hp50 : (W4.alloc (.cells #[.slice a hs.length cap] 32)).cell? ⟨W4.heap.size, 0, none⟩ = some (.slice a hs.length cap) := cell_of hp5 rfl
  clear hH hb5 hb35 b4 hox3 hoy g3 hbW
  go_wp2_with fail
  generalize W4.alloc (.cells #[.slice a hs.length cap] 32) = W5 at *
  refine (write_ok hH5 hF'.out.1 (by omega) hF'.out.2 (by omega)).mono ?_
  rintro e W6 ⟨rfl, b6⟩
  have z6 := b6.size
  have g6 := g5.next b6
  have hX6 := owns_low hX5 b6 (fun g e => (hX5.lt g e).2)
  have hY6 := owns_low hY5 b6 (fun g e => (hY5.lt g e).2)
  have hbW6 := hbW5.trans (b6.mono (by omega))
  clear hH5 hX5 hY5 hp50 hp5 g5 hbW5
  by_cases h0 : hs = []
  · have hXY := hnil h0
    subst hXY
    subst h0
    have hre := read_empty g6
    have hem : (⟨(writeM []).toArray⟩ : ByteArray).toList.isEmpty = true := by rw [Lib.toList_data]; rfl
    generalize (⟨(writeM []).toArray⟩ : ByteArray) = s0 at *
    go_wp2_with (go_at_call 17; refine hre.mono ?_; rintro e W7 ⟨⟨a7, c7, rfl⟩, b7⟩)
    have b8 := b7.alloc b7.size (.cells #[.slice a7 0 c7] 32)
    have hX8 := owns_low hX6 b8 (fun g e => (hX6.lt g e).2)
    have hY8 := owns_low hY6 b8 (fun g e => (hY6.lt g e).2)
    have ht1 := textO_any hX8 (by omega)
    have ht2 := textO_any hY8 (by omega)
    have hbW8 := hbW6.trans (b8.mono (by omega))
    clear hX6 hY6 hX8 hY8 b8
    generalize W7.alloc (.cells #[.slice a7 0 c7] 32) = W8 at *
    refine ht1.mono ?_
    rintro e w' ⟨rfl, rfl⟩
    go_wp2_with fail
    refine ht2.mono ?_
    rintro e w' ⟨rfl, rfl⟩
    go_wp2_with fail
    go_ret
    exact ⟨rfl, hbW8⟩
  · have hw0 : writeM hs ≠ [] := by
      cases hs with
      | nil => exact absurd rfl h0
      | cons x l => intro e; have := congrArg List.length e; rw [show writeM (x :: l) = writeM [x] ++ writeM l by rw [← writeM_append]; rfl, writeM_one] at this; simp at this
    have hem := isEmpty_mk hw0
    have hcnt := toks_count (steps_nl hW.run)
    have hr1 := fun (w : World) (hg : Glob w) => read_last hW h0 (w := w) hg
    have hr2 := fun (w : World) (hg : Glob w) => read_x hW (w := w) hg
    have hr3 := fun (w : World) (hg : Glob w) => read_twice hW h0 (w := w) hg
    have hr4 := fun (n : Nat) (w : World) (hg : Glob w) => read_cut hW n (w := w) hg
    have htk := hW.toks
    have hcnt' : (writeM hs).count 10 = (toksM hs).length := hcnt
    have hsz : (⟨(writeM hs).toArray⟩ : ByteArray).size = (writeM hs).length := size_mk _
    have hL1 : 1 ≤ (writeM hs).length := List.length_pos_iff.2 hw0
    have hidx : ∀ k (hk : k < (⟨(writeM hs).toArray⟩ : ByteArray).size), (writeM hs)[k]? = some ((⟨(writeM hs).toArray⟩ : ByteArray)[k]) := fun k hk => by
      rw [size_mk] at hk
      rw [List.getElem?_eq_getElem hk]
      rfl
    obtain ⟨N0, hN0⟩ : ∃ N0, N0 = (toksM hs).length := ⟨_, rfl⟩
    rw [← hN0] at hcnt' htk
    have hN1 : 1 ≤ N0 := by
      rw [hN0]
      refine List.length_pos_iff.2 ?_
      cases hs with
      | nil => exact absurd rfl h0
      | cons x l => simp [toksM, toksH]
    clear hnil hF' hX6 hY6
    generalize hS0 : (⟨(writeM hs).toArray⟩ : ByteArray) = s0 at *
    generalize hT0 : writeM hs = T0 at *
    have hs0d : s0.data.toList = T0 := by rw [← hS0]
    have e1 : ∀ n, (⟨(T0.take n).toArray⟩ : ByteArray) = s0.extract 0 n := by
      intro n
      rw [Lib.extract_eq, hs0d]
      simp
    have e2 : (⟨(T0 ++ [120, 10]).toArray⟩ : ByteArray) = s0 ++ ⟨#[120, 10]⟩ := by
      rw [← hS0]
      apply ByteArray.ext
      simp [ByteArray.data_append]
    have e3 : (⟨(T0 ++ T0).toArray⟩ : ByteArray) = s0 ++ s0 := by
      rw [← hS0]
      apply ByteArray.ext
      simp [ByteArray.data_append]
    obtain ⟨L, hL⟩ : ∃ L, L = T0.length := ⟨_, rfl⟩
    have hcast : ((N0 - 1 : Nat) : Int) = (N0 : Int) - 1 := by omega
    rw [← hL] at hsz hL1 htx
    have R1 : Hid (∀ w, Glob w → Calls Tryz.prog 17 #[.string (s0.extract 0 (L - 1))] w fun e w' => e = .returned (.tuple #[.agg #[.slice none 0 0], .int .i64 ((N0 : Int) - 1), .int .i64 4]) ∧ Below w.heap.size w w') := by
      intro w hg
      have := hr1 w hg
      rw [← hL, e1, ← hN0] at this
      unfold wrong at this
      rw [hcast] at this
      exact this
    have R2 : Hid (∀ w, Glob w → Calls Tryz.prog 17 #[.string (s0 ++ ⟨#[120, 10]⟩)] w fun e w' => e = .returned (.tuple #[.agg #[.slice none 0 0], .int .i64 (N0 : Int), .int .i64 4]) ∧ Below w.heap.size w w') := by
      intro w hg
      have := hr2 w hg
      rw [e2, ← hN0] at this
      exact this
    have R3 : Hid (∀ w, Glob w → Calls Tryz.prog 17 #[.string (s0 ++ s0)] w fun e w' => e = .returned (.tuple #[.agg #[.slice none 0 0], .int .i64 (N0 : Int), .int .i64 4]) ∧ Below w.heap.size w w') := by
      intro w hg
      have := hr3 w hg
      rw [e3, ← hN0] at this
      exact this
    have R4 : Hid (∀ n w, Glob w → Calls Tryz.prog 17 #[.string (s0.extract 0 n)] w fun e w' => ((∃ k, e = wrong k) ∨ ∃ hs' a cap, e = .returned (.tuple #[.agg #[.slice a hs'.length cap], .int .i64 0, .int .i64 0]) ∧ HunksAt w'.heap.size w' (.slice a hs'.length cap) hs' ∧
        rightM 0 0 hs' = true ∧ hs'.length ≤ 1000 ∧ (∀ h ∈ hs', Small h ∧ ∀ s ∈ h.lines, Fine s) ∧ (⟨(writeM hs').toArray⟩ : ByteArray) = s0.extract 0 n ∧ (writeM hs').length ≤ 20000) ∧ Below w.heap.size w w') := by
      intro n w hg
      have := hr4 n w hg
      rw [e1] at this
      refine this.mono ?_
      rintro e w' ⟨h, hb⟩
      refine ⟨?_, hb⟩
      rcases h with h | ⟨hs', a, cap, q1, q2, q3, q4, q5, q6⟩
      · exact .inl h
      · exact .inr ⟨hs', a, cap, q1, q2, q3, q4, q5, by rw [q6, e1], by rw [q6, List.length_take]; omega⟩
    have hcT : ∀ k, k < L → (T0.take (k + 1)).count 10 = (T0.take k).count 10 + (if T0[k]? = some 10 then 1 else 0) := by
      intro k hk
      rw [List.take_succ_eq_append_getElem (by omega), List.count_append, List.getElem?_eq_getElem (by omega)]
      simp [List.count_cons]
    have hcle : ∀ k, (T0.take k).count 10 ≤ 4440 := by
      intro k
      have := List.count_le_length (a := (10 : UInt8)) (l := T0.take k)
      rw [List.length_take] at this
      omega
    have hcF : (T0.take L).count 10 = N0 := by rw [hL, List.take_length]; exact hcnt'
    have hLH : Hid (L = T0.length) := hL
    clear hr1 hr2 hr3 hr4 e1 e2 e3 hs0d hS0 hcnt' hcnt hN0 hL hT0 hW hw0 hcast
    have hI1 : (0 : Int) ≤ (L : Int) - 1 := by omega
    go_wp2_with fail
    go_loopg [17, 18] L (fun g vw vi wr => ∃ k : Nat, g = L - k ∧ k ≤ L ∧ vi = .int .i64 k ∧ vw = .int .i64 ((T0.take k).count 10 : Nat) ∧ wr = W6)
    case atStart => exact ⟨0, by omega, by omega, rfl, rfl, rfl⟩
    case round =>
      obtain ⟨k, hgk, hkl, rfl, rfl, rfl⟩ := hrel
      have hG : Hid (gk = L - k) := hgk
      clear hgk
      by_cases hk : k < L
      · have hkI : (k : Int) < L := by omega
        have hks : k < s0.size := by omega
        have hc := hcT k hk
        rw [hidx k hks] at hc
        have hbnd := hcle k
        have hx : Hid ((T0.take (k + 1)).count 10 = (T0.take k).count 10 + (if some s0[k] = some (10 : UInt8) then 1 else 0)) := hc
        clear hc hcT hcle hcF hidx
        generalize (T0.take k).count 10 = C at *
        by_cases hb : s0[k].toNat = 10
        · have q1 : (((s0[k].toNat : Nat) : Int) == 10) = true := by rw [hb]; rfl
          have hx2 : Hid ((T0.take (k + 1)).count 10 = C + 1) := by
            have := hx.out
            rw [if_pos (by rw [← UInt8.toNat_inj.1 (show s0[k].toNat = (10 : UInt8).toNat from hb)])] at this
            exact this
          clear hb hx
          go_wp2_with fail
          go_roundg (L - (k + 1))
          · exact ⟨k + 1, rfl, by omega, by push_cast; rfl, by rw [hx2.out]; push_cast; rfl, rfl⟩
          · have := hG.out; omega
        · have q1 : (((s0[k].toNat : Nat) : Int) == 10) = false := by rw [beq_eq_false_iff_ne]; omega
          have hx2 : Hid ((T0.take (k + 1)).count 10 = C) := by
            have := hx.out
            rw [if_neg (by intro e; exact hb (by rw [Option.some.inj e]; rfl))] at this
            exact this
          clear hb hx
          go_wp2_with fail
          go_roundg (L - (k + 1))
          · exact ⟨k + 1, rfl, by omega, by push_cast; rfl, by rw [hx2.out], rfl⟩
          · have := hG.out; omega
      · obtain rfl : k = L := by omega
        rw [hcF]
        clear hcT hcle hcF hidx hk hkl hG
        have hkI : ¬ (k : Int) < k := by omega
        have hp := fun w => pick_big c0 k w hc0 (by omega) (by omega)
        have hpl := pickN_lt c0 (n := k) (by omega)
        generalize pickN c0 k = n at *
        have hnI : (n : Int) ≤ k := by omega
        have hnI0 : (0 : Int) ≤ (n : Int) := by omega
        have S1 : ¬ 9223372036854775807 < k + 2 := by omega
        have S2 : ¬ 9223372036854775807 < k + k := by omega
        go_wp2_with fail
        refine (R1.out _ g6).mono ?_
        rintro e V1 ⟨rfl, c1⟩
        have c1' := c1.alloc c1.size (.cells #[.slice none 0 0] 32)
        have d1 := g6.next c1'
        have y1 := c1'.size
        go_wp2_with fail
        generalize V1.alloc (.cells #[.slice none 0 0] 32) = U1 at *
        refine (R2.out _ d1).mono ?_
        rintro e V2 ⟨rfl, c2⟩
        have c2' := c2.alloc c2.size (.cells #[.slice none 0 0] 32)
        have d2 := d1.next c2'
        have y2 := c2'.size
        go_wp2_with fail
        generalize V2.alloc (.cells #[.slice none 0 0] 32) = U2 at *
        refine (R3.out _ d2).mono ?_
        rintro e V3 ⟨rfl, c3⟩
        have c3' := c3.alloc c3.size (.cells #[.slice none 0 0] 32)
        have d3 := d2.next c3'
        have y3 := c3'.size
        go_wp2_with fail
        generalize V3.alloc (.cells #[.slice none 0 0] 32) = U3 at *
        refine (hp _).mono ?_
        rintro e w' ⟨rfl, rfl⟩
        go_wp2_with fail
        refine (R4.out n _ d3).mono ?_
        rintro e V4 ⟨hcase, c4⟩
        have hbU3 : Below w.heap.size w U3 := ((hbW6.trans (c1'.mono (by omega))).trans (c2'.mono (by omega))).trans (c3'.mono (by omega))
        have hq4 : (((N0 : Int) - 1) == ((N0 : Int) - 1)) = true := by simp
        rcases hcase with ⟨kk, rfl⟩ | ⟨hs', a4, cap4, rfl, hH4, hr4, hl4, hsm4, ht4, hx4⟩
        · have hbF := (hbU3.trans (c4.mono (by omega))).alloc (by have := c4.size; omega) (.cells #[.slice none 0 0] 32)
          go_wp2_with fail
          go_ret
          exact ⟨rfl, hbF⟩
        · have b9 := (Below.refl V4.heap.size V4).alloc (Nat.le_refl _) (.cells #[.slice a4 hs'.length cap4] 32)
          have hp9 := heap_alloc_new V4 (.cells #[.slice a4 hs'.length cap4] 32)
          have hH9 := (hH4.below b9).mono b9.size
          have hp90 : (V4.alloc (.cells #[.slice a4 hs'.length cap4] 32)).cell? ⟨V4.heap.size, 0, none⟩ = some (.slice a4 hs'.length cap4) := cell_of hp9 rfl
          have hbF := (hbU3.trans (c4.mono (by omega))).trans (b9.mono (by have := c4.size; omega))
          have hwr := write_ok hH9 hr4 hl4 hsm4 hx4
          rw [ht4] at hwr
          have hz9 : w.heap.size ≤ (V4.alloc (.cells #[.slice a4 hs'.length cap4] 32)).heap.size := hbF.size
          clear hH9 hH4 hp9 b9 ht4 hx4 hr4 hsm4
          go_wp2_with fail
          generalize V4.alloc (.cells #[.slice a4 hs'.length cap4] 32) = V9 at *
          refine hwr.mono ?_
          rintro e VA ⟨rfl, cA⟩
          go_wp2_with fail
          go_ret
          exact ⟨rfl, hbF.trans (cA.mono hz9)⟩
end Go.Proofs.YtcclgodahlinbaaGreatDoor

namespace Go.Proofs.YtcclgodahlinbaaGreatDoor
open Go.RowKit Go
set_option maxRecDepth 100000

/-- the cells of a table as a row's datum tells it -/
def cellOfD (d : DataW Unit) : List Value := match d with
  | .lit (.int k n) => [.int k n]
  | _ => []
def cellsOfD (d : DataW Unit) : List Value := match d with
  | .agg l => l.flatMap fun x => match x with
    | .agg m => m.flatMap cellOfD
    | y => cellOfD y
  | _ => []
abbrev synS : ByteArray := { data := #[105, 110, 118, 97, 108, 105, 100, 32, 115, 121, 110, 116, 97, 120] }
abbrev rngS : ByteArray := { data := #[118, 97, 108, 117, 101, 32, 111, 117, 116, 32, 111, 102, 32, 114, 97, 110, 103, 101] }
def heldZ : Input := ⟨#[.cells #[.string synS] 240, .cells #[.string rngS] 240], #[], []⟩
/-- a world that bears the tables and the two errors -/
def withTables (w0 : World) : World :=
  let put (h : Array Obj) (g : Nat) (cs : Array Value) : Array Obj := h.modify g fun
    | .cells _ t frozen => .cells cs t frozen
    | o => o
  let h1 := put w0.heap 1 (Lib.firstTab.map fun z => Value.int .u8 z).toArray
  let h2 := put h1 2 (cellsOfD Rows.laid_unicode_utf8_acceptRanges).toArray
  let h3 := put h2 3 (cellsOfD Rows.laid_internal_strconv_uint64pow10).toArray
  let h4 := put h3 4 #[.iface 238 (.pointer (some ⟨w0.heap.size - 2, 0, none⟩))]
  let h5 := put h4 5 #[.iface 238 (.pointer (some ⟨w0.heap.size - 1, 0, none⟩))]
  let h6 := put h5 6 (cellsOfD Rows.laid_math_bits_deBruijn32tab).toArray
  let h7 := put h6 7 (cellsOfD Rows.laid_math_bits_deBruijn64tab).toArray
  { w0 with heap := h7 }
theorem laid_met (os : Os) (args : Array Value) : laidMetH Tryz.prog Rows.strictRow.laid ((withTables (World.holding Tryz.prog os heldZ)).forCall (fun _ _ => 0) ⟨#[], args, []⟩).memory :=
  laidMetH_of_parts (laidMet_of_run' 8 (by kernel_rfl) (by kernel_rfl)) (by kernel_rfl)

theorem ownK : ownKnob Tryz.prog.godebug = none := by kernel_rfl
theorem maxlen_of {W : World} (h : W.ShapedOpen Tryz.prog) : ∃ m, W.cell? ⟨0, 0, none⟩ = some (.int .i64 m) :=
  cell_of_shapedOpen_int (P := Tryz.prog) (g := 0) (t := 3) (zero := #[.int .i64 0]) h (of_decide_eq_true (by kernel_rfl)) (by kernel_rfl) rfl (by kernel_rfl) (by kernel_rfl) Tryz.underlying3
theorem cell_lt {w : World} {a : Addr} {v : Value} (h : w.cell? a = some v) : a.block < w.heap.size := by
  by_cases hb : a.block < w.heap.size
  · exact hb
  · unfold World.cell? at h
    rw [Array.getElem?_eq_none (by omega)] at h
    cases h
theorem i64_bounds {n : Int} (h : (Lit.int .i64 n).wf = true) : -9223372036854775808 ≤ n ∧ n ≤ 9223372036854775807 := by
  simp only [Lit.wf, Bool.and_eq_true, decide_eq_true_eq] at h
  exact ⟨h.1, h.2⟩
theorem wants_int : Tryz.prog.wantsStandIn 3 = false := by kernel_rfl
end Go.Proofs.YtcclgodahlinbaaGreatDoor

namespace Go.Proofs.YtcclgodahlinbaaGreatDoor
open Go.ChangeShapes Go.WideShapes Go.ChangeAt Go.RowKit Go
set_option maxRecDepth 100000

theorem cellsInt : Tryz.prog.cellsOf 3 = 1 := by kernel_rfl
theorem laidOutK : laidOutB Tryz.prog = true := by kernel_rfl
theorem wants_ints : Tryz.prog.wantsStandIn 25 = false := by kernel_rfl
/-- a row of ints that came in -/
theorem open_row {H : Type} {enc : TypeId × Value → H} {W : World} {a0 : Option Addr} {len cap fuel : Nat} {x : DataW H × List MemPlace}
    (hf : DataW.trod enc Tryz.prog W 0 (fun _ => true) true fuel 25 [.slice a0 len cap] = some x) : ∃ L : List Int, L.length = len ∧ RowI W (.slice a0 L.length cap) L ∧ i64s L := by
  rcases open_ints Tryz.underlying25 Tryz.underlying3 cellsInt hf with ⟨hcs, _⟩ | ⟨a, len', cap', zs, hcs, _, hl, hm, hz, _, hcell, hw⟩
  · simp at hcs
    obtain ⟨rfl, rfl, rfl⟩ := hcs
    exact ⟨[], rfl, .inl ⟨rfl, none, 0, rfl⟩, fun c hc => by simp at hc⟩
  · simp at hcs
    obtain ⟨rfl, rfl, rfl⟩ := hcs
    simp only [if_true] at hz
    have hlen : (zs.take len).length = len := by rw [List.length_take]; omega
    refine ⟨zs.take len, hlen, ?_, fun c hc => i64_bounds (hw c (List.mem_of_mem_take hc))⟩
    by_cases h0 : len = 0
    · left
      subst h0
      exact ⟨by simp, _, _, by rw [hlen]⟩
    · right
      obtain ⟨b, off, spot⟩ := a
      have hspot : spot = none := by simpa [Addr.add] using World.cell?_spot (hcell 0 (by omega))
      subst hspot
      refine ⟨b, off, cap, by rw [hlen], cell_lt (hcell 0 (by omega)), fun i hi => ?_⟩
      rw [hlen] at hi
      have h1 := hcell i (by omega)
      have e : (⟨b, off, none⟩ : Addr).add i = ⟨b, off + i, none⟩ := by simp [Addr.add]
      rw [e] at h1
      rw [h1]
      simp [List.getD, show i < zs.length by omega]

/-! ### the variable that the number's error names -/
theorem gES : Tryz.prog.globalNamed "strconv.ErrSyntax" = some 4 := by kernel_rfl
theorem gESType : (Tryz.prog.globals[4]?).map (·.type) = some 139 := by kernel_rfl
theorem cellsErrS : Tryz.prog.cellsOf 240 = 1 := by kernel_rfl
theorem cellsStr : Tryz.prog.cellsOf 9 = 1 := by kernel_rfl
theorem starErr : "*" ++ "errors.errorString" = "*errors.errorString" := by decide
theorem rowErr (u : TypeId) (h : Tryz.prog.typeName? 3 u = some "*errors.errorString") : u = 238 :=
  typeName_ptr_named (nm := "errors.errorString") (by rw [starErr]; kernel_rfl) (by kernel_rfl) (by decide) u (by rw [starErr]; exact h)
theorem errsyn_of {W : World} (hL : laidMetH Tryz.prog Rows.strictRow.laid W) : ∃ tp p, W.cell? ⟨4, 0, none⟩ = some (.iface tp p) := by
  have h1 := (laidMetH_iff.1 hL).1
  have h2 : laidMet Tryz.prog [(_, Rows.laid_math_bits_deBruijn32tab), (_, Rows.laid_math_bits_deBruijn64tab), (_, Rows.laid_internal_strconv_uint64pow10), (_, Rows.laid_unicode_utf8_acceptRanges), (_, Rows.laid_strconv_ErrRange), ("strconv.ErrSyntax", Rows.laid_strconv_ErrSyntax), (_, Rows.laid_unicode_utf8_first)] W := h1
  have h3 := h2.tail.tail.tail.tail.tail
  unfold Rows.laid_strconv_ErrSyntax at h3
  obtain ⟨a0, s0, hv0, -, -, -⟩ := laid_sentinel h3 gES gESType Tryz.underlying139 rowErr Tryz.underlying238 Tryz.underlying240 rfl rfl Tryz.underlying9 cellsErrS cellsStr
  have h0 := World.var?_cell gES hv0 0
  exact ⟨_, _, by simpa using h0⟩
theorem glob_of {W : World} (hL : laidMetH Tryz.prog Rows.strictRow.laid W) (hsh : W.ShapedOpen Tryz.prog) : Glob W := by
  obtain ⟨tp, p, he⟩ := errsyn_of hL
  have := cell_lt he
  exact ⟨maxlen_of hsh, ⟨_, he, .inr ⟨_, _, rfl⟩⟩, by simp at this; omega⟩
end Go.Proofs.YtcclgodahlinbaaGreatDoor

namespace Go.Proofs.YtcclgodahlinbaaGreatDoor
open Go.ChangeShapes Go.WideShapes Go.ChangeAt Go.RowKit Go
set_option maxRecDepth 100000

theorem strict_witness (os : Os) {H : Type} (enc : TypeId × Value → H) :
    (OpenSpec.ofChange Rows.strictSpec).preRow enc Tryz.prog Tryz.f7 Rows.strictRow.domain false Rows.strictRow.laid ((withTables (World.holding Tryz.prog os heldZ)).forCall (fun _ _ => 0) ⟨#[], #[.slice none 0 0, .slice none 0 0, .int .i64 0], []⟩).memory #[.slice none 0 0, .slice none 0 0, .int .i64 0] := by
  have hw : (DataW.whole enc Tryz.prog ((withTables (World.holding Tryz.prog os heldZ)).forCall (fun _ _ => 0) ⟨#[], #[.slice none 0 0, .slice none 0 0, .int .i64 0], []⟩).memory Tryz.f7.params.toList (OpenSpec.ofChange Rows.strictSpec).vars false (#[.slice none 0 0, .slice none 0 0, .int .i64 0] : Array Value).toList 8).map (fun x => (x.1, x.2.1)) =
      some ([.nil, .nil, .lit (.int .i64 0)], []) := by kernel_rfl
  obtain ⟨⟨x1, x2, x3⟩, hx, hx1⟩ := Option.map_eq_some_iff.1 hw
  simp only [Prod.mk.injEq] at hx1
  obtain ⟨rfl, rfl⟩ := hx1
  exact OpenSpec.preRow_of_cond 8 hx (by kernel_rfl) (fun k hk => by cases hk) (by kernel_rfl) (laid_met os _)

theorem strict_lifted (os : Os) (started : os.Started) (H : Type) (enc : TypeId × Value → H) (F : Stop.Interp) :
    ReturnsInHanded {} Tryz.checked os 7 .any ((OpenSpec.ofChange Rows.strictSpec).preRow enc Tryz.prog Tryz.f7 Rows.strictRow.domain false Rows.strictRow.laid) (((OpenSpec.ofChange Rows.strictSpec).at F).post enc Tryz.prog Tryz.f7 false true false false) := by
  refine returnsInHanded_of_row (C := Tryz.checked) (s := OpenSpec.ofChange Rows.strictSpec) ownK started (by kernel_rfl) Tryz.func7
    (witness_row_atRef (enc := enc) (C := Tryz.checked) false (withTables (World.holding Tryz.prog os heldZ)) #[.slice none 0 0, .slice none 0 0, .int .i64 0] rfl (by kernel_rfl) (by kernel_rfl) (by kernel_rfl) (strict_witness os enc)) ?_
  intro W base args ds gs before hval0 hW _ _ _ hL hsh _
  have hval : ∀ (j : Nat) t v, Tryz.f7.params[j]? = some t → args[j]? = some v → Value.okWide Tryz.prog W .any base t v := hval0
  have hW' := hW
  obtain ⟨p, q, hA0, hV, rfl, _, _⟩ := hW
  have hA : DataW.TrodAll enc Tryz.prog W 0 (fun _ => true) true Tryz.f7.params.toList args.toList ds p := hA0
  rw [Tryz.params7] at hA hval
  obtain ⟨v0, vs0, d0, ds0, p0, q0, hargs, rfl, rfl, h0, r0⟩ := trodAll_cons hA
  obtain ⟨v1, vs1, d1, ds1, p1, q1, rfl, rfl, rfl, h1, r1⟩ := trodAll_cons r0
  obtain ⟨v2, vs2, d2, ds2, p2, q2, rfl, rfl, rfl, h2, r2⟩ := trodAll_cons r1
  obtain ⟨rfl, rfl, rfl⟩ := trodAll_nil r2
  obtain rfl : args = #[v0, v1, v2] := by cases args; simp_all
  obtain ⟨rfl, rfl⟩ := trodVars_none hV
  obtain ⟨a0, l0, c0, rfl⟩ := okWide_slice Tryz.underlying25 (hval 0 25 v0 rfl rfl)
  obtain ⟨a1, l1, c1, rfl⟩ := okWide_slice Tryz.underlying25 (hval 1 25 v1 rfl rfl)
  obtain ⟨n2, rfl, rfl, rfl, w2⟩ := open_int Tryz.underlying3 (hval 2 3 v2 rfl rfl) h2
  have h0k := h0
  have h1k := h1
  obtain ⟨fuel0, hf0⟩ := h0
  obtain ⟨fuel1, hf1⟩ := h1
  clear hA0 hval0
  simp only [List.append_nil] at hW'
  have hlt : ∀ x ∈ p0 ++ p1, x.block < W.heap.size := fun x hx => by simpa using hW'.lt x hx
  obtain ⟨L0, e0, r0', s0⟩ := open_row hf0
  obtain ⟨L1, e1, r1', s1⟩ := open_row hf1
  subst e0 e1
  refine (strict_any n2 r0' r1' s0 s1 (i64_bounds w2) (glob_of hL hsh)).mono fun e W' ⟨he, hb⟩ => ?_
  subst he
  refine ⟨_, rfl, _, _, _, [], p0 ++ p1, [], hW', ?_, ?_, ?_, hb.frame _, fun h => by cases h⟩
  · exact trodAll_mk1 (shut_bool Tryz.underlying4 true)
  · have t0 := Below.trod laidOutK (by kernel_rfl) (of_decide_eq_true (by kernel_rfl)) h0k hb (fun x hx => hlt x (by simp [hx]))
    have t1 := Below.trod laidOutK (by kernel_rfl) (of_decide_eq_true (by kernel_rfl)) h1k hb (fun x hx => hlt x (by simp [hx]))
    have := trodAll_cons_mk t0 (trodAll_cons_mk t1 (trodAll_cons_mk (shut_int Tryz.underlying3 w2) trodAll_mk0))
    simp only [List.append_nil] at this
    exact this
  · exact rfl

theorem strict_row : Rows.StrictSaid :=
  OpenClaim.holds_of_cond 7 Tryz.f7 rfl rfl rfl rfl rfl rfl rfl ⟨rfl, rfl, rfl, rfl, rfl⟩ rfl rfl rfl rfl rfl (by kernel_rfl) Tryz.func7 (by kernel_rfl)
    (of_decide_eq_true (by kernel_rfl)) (by unfold Func.isWrapper; rw [if_neg (of_decide_eq_false (by kernel_rfl))]; exact ⟨rfl, rfl⟩)
    (fun os started H enc _ F0 => by rw [OpenClaim.pre_eq_preRow]; exact strict_lifted os started H enc F0)

theorem strict_card : Rows.StrictCardSaid :=
  Claim7.holds_tied_plain_at .later [] [.data, .data, .data, .data, .sentinel, .sentinel, .pinned] true (true, "7161e2264f3eed6547cfefa7174f8f11a68028a5e43b3bef197380733a8fa1fb") true
    strict_row (fun _ h => by cases h) (by kernel_rfl) (fun _ h => by cases h) strict_row_tie rfl ⟨rfl, rfl⟩ (by kernel_rfl) rfl
    (fun f fn hf hfn => by
      obtain rfl : f = 7 := Option.some.inj ((show Tryz.prog.funcNamed Tryz.f7.name = some 7 by kernel_rfl).symm.trans hf) |>.symm
      obtain rfl : fn = Tryz.f7 := (Option.some.inj (Tryz.func7.symm.trans hfn)).symm
      exact ⟨by kernel_rfl, fun j t ht => by
        rw [Tryz.params7] at ht
        rcases j with _ | _ | _ | j
        · obtain rfl : t = 25 := by simpa using ht.symm
          exact wants_ints
        · obtain rfl : t = 25 := by simpa using ht.symm
          exact wants_ints
        · obtain rfl : t = 3 := by simpa using ht.symm
          exact wants_int
        · simp at ht⟩)
    (by kernel_rfl)
#print axioms strict_card
end Go.Proofs.YtcclgodahlinbaaGreatDoor
