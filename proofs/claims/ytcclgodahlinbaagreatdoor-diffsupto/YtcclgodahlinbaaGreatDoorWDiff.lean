import Derived.Test.YtcclgodahlinbaaGreatDoorWHunksOf
namespace Go.Proofs.YtcclgodahlinbaaGreatDoor
open Go.RowKit Go
set_option maxRecDepth 100000

theorem splitB_size (sep : ByteArray) : ∀ (k : Nat) (s t : ByteArray), t ∈ Lib.splitB sep 0 k s → t.size ≤ s.size := by
  intro k
  induction k with
  | zero => intro s t h; simp [Lib.splitB] at h; rw [h]; exact Nat.le_refl _
  | succ k ih =>
    intro s t h
    rw [Lib.splitB] at h
    split at h
    · simp at h; rw [h]; exact Nat.le_refl _
    · rw [List.mem_cons] at h
      rcases h with h | h
      · rw [h]; simp [ByteArray.size_extract]; omega
      · have := ih _ _ h; simp [ByteArray.size_extract] at this; omega

theorem trimB_size (s : ByteArray) : (trimB s).size ≤ s.size := by
  have e : (trimB s).size = (Lib.trimSuffix s.data.toList [10]).length := by unfold trimB; rfl
  rw [e]
  unfold Lib.trimSuffix
  split
  · have : s.data.toList.length = s.size := rfl
    rw [List.length_take]; omega
  · exact Nat.le_refl _
theorem linesB_size {s t : ByteArray} (h : t ∈ linesB s) : t.size ≤ s.size := by
  unfold linesB at h
  split at h
  · simp at h
  · exact Nat.le_trans (splitB_size _ _ _ _ h) (trimB_size s)

theorem countB_nl (t : ByteArray) : Lib.countB t nl = Lib.countByte t.data.toList 10 := Lib.count_one _ _

theorem linesB_few {s : ByteArray} (h : largeB s = false) : (linesB s).length ≤ 201 := by
  unfold largeB at h
  simp at h
  by_cases h0 : s.toList.isEmpty = true
  · unfold linesB; rw [if_pos h0]; simp
  · rw [linesB_length s (by simpa using h0), countB_nl]
    have : Lib.countByte (trimB s).data.toList 10 ≤ Lib.countByte s.data.toList 10 := by
      have e : (trimB s).data.toList = Lib.trimSuffix s.data.toList [10] := by unfold trimB; rfl
      rw [e]
      unfold Lib.trimSuffix
      split
      · exact List.Sublist.count_le _ (List.take_sublist _ _)
      · exact Nat.le_refl _
    omega
theorem size_of_large {s : ByteArray} (h : largeB s = false) : s.size ≤ 8000 := by
  unfold largeB at h
  simp at h
  omega

theorem way_text {o f : List ByteArray} {s : StepB} (h : s ∈ Dn.wayM o f) : s.text ∈ o ∨ s.text ∈ f := by
  obtain ⟨a, b, c⟩ := Dn.wayM_way o f
  rcases c s h with hk | hk | hk
  · left; rw [← a]; exact List.mem_map.2 ⟨s, List.mem_filter.2 ⟨h, by simp [hk]⟩, rfl⟩
  · left; rw [← a]; exact List.mem_map.2 ⟨s, List.mem_filter.2 ⟨h, by simp [hk]⟩, rfl⟩
  · right; rw [← b]; exact List.mem_map.2 ⟨s, List.mem_filter.2 ⟨h, by simp [hk]⟩, rfl⟩
theorem steps_len (l : List StepB) : l.length ≤ (Dn.oldOf l).length + (Dn.newOf l).length := by
  induction l with
  | nil => simp
  | cons s l ih =>
    unfold Dn.oldOf Dn.newOf at *
    simp only [List.filter_cons, List.length_cons]
    by_cases h : s.kind = 43
    · have h1 : (s.kind != 43) = false := by simp [h]
      have h2 : (s.kind != 45) = true := by simp [h]
      rw [h1, h2]; simp at *; omega
    · have h1 : (s.kind != 43) = true := by simp [h]
      rw [h1]
      by_cases h' : s.kind = 45
      · have h2 : (s.kind != 45) = false := by simp [h']
        rw [h2]; simp at *; omega
      · have h2 : (s.kind != 45) = true := by simp [h']
        rw [h2]; simp at *; omega
theorem way_len (o f : List ByteArray) : (Dn.wayM o f).length ≤ o.length + f.length := by
  obtain ⟨a, b, _⟩ := Dn.wayM_way o f
  have := steps_len (Dn.wayM o f)
  rw [a, b] at this
  exact this

theorem Strs.mono {B B' : Nat} {w : World} {v : Value} {l : List ByteArray} (h : Strs B w v l) (hb : B ≤ B') : Strs B' w v l := by
  rcases h with h | ⟨b, off, cap, e, hB, hc⟩
  · exact .inl h
  · exact .inr ⟨b, off, cap, e, by omega, hc⟩

theorem HSo.slice {base : Nat} {v : Value} {hv : List HV} {w : World} (h : HSo base v hv w) : ∃ a n c, v = .slice a n c := by
  rcases h with ⟨_, rfl⟩ | ⟨g, cap, rfl, _⟩
  · exact ⟨_, _, _, rfl⟩
  · exact ⟨_, _, _, rfl⟩

/-- what Diff tells -/
def diffM (old fresh : ByteArray) (c : Nat) : List HunkM := hunksM (Dn.wayM (linesB old) (linesB fresh)) c

set_option maxHeartbeats 2000000 in
theorem diff_ok {old fresh : ByteArray} {c : Nat} {m : Int} {w : World} (hch : checkB old fresh c = 0) (h1 : old.size < 4294967281) (h2 : fresh.size < 4294967281) (hm : w.cell? ⟨0, 0, none⟩ = some (.int .i64 m)) :
    Calls Tryz.prog 12 #[.string old, .string fresh, .int .i64 c] w fun e w' =>
      ∃ v, e = .returned (.tuple #[.agg #[v], .int .i64 0]) ∧ ∃ hv, HSo w.heap.size v hv w' ∧ hv.map (·.1) = diffM old fresh c ∧ Below w.heap.size w w' := by
  have hck := checkDiff_any old fresh c
  rw [hch] at hck
  have hbnd : isTextB old = true ∧ isTextB fresh = true ∧ largeB old = false ∧ largeB fresh = false ∧ c ≤ 10 := by
    unfold checkB at hch
    split at hch
    · simp at hch
    · split at hch
      · simp at hch
      · split at hch
        · simp at hch
        · rename_i a b d
          simp at a b d
          refine ⟨a.1, a.2, b.1, b.2, by omega⟩
  obtain ⟨_, _, l1, l2, hc⟩ := hbnd
  have n1 := linesB_few l1
  have n2 := linesB_few l2
  have z1 := size_of_large l1
  have z2 := size_of_large l2
  have hmlt := World.block_lt_of_cell? _ _ hm
  have hD : Hid (diffM old fresh c = hunksM (Dn.wayM (linesB old) (linesB fresh)) c) := rfl
  have hmN : 0 < w.heap.size := hmlt
  obtain ⟨wa, hwa⟩ : ∃ wa, w.alloc (.cells #[.slice none 0 0] 32) = wa := ⟨_, rfl⟩
  have hza : wa.heap.size = w.heap.size + 1 := by rw [← hwa]; simp
  have hba : Below w.heap.size w wa := by rw [← hwa]; exact (Below.refl _ _).alloc (Nat.le_refl _) _
  have hBa : wa.heap[w.heap.size]? = some (.cells #[.slice none 0 0] 32 (0, 0)) := by rw [← hwa]; exact heap_alloc_new w _
  have hma : wa.cell? ⟨0, 0, none⟩ = some (.int .i64 m) := (hba.cell (p := ⟨0, 0, none⟩) hmN).trans hm
  have hLo := linesOf_any old m wa h1 hma
  have hLf : Hid (∀ w2, Below wa.heap.size wa w2 → Calls Tryz.prog 26 #[.string fresh] w2 fun e w' => ∃ a cap, e = .returned (.slice a (linesB fresh).length cap) ∧ Strs w'.heap.size w' (.slice a (linesB fresh).length cap) (linesB fresh) ∧ Below w2.heap.size w2 w') :=
    fun w2 hb => linesOf_any fresh m w2 h2 ((hb.cell (p := ⟨0, 0, none⟩) (by show (0 : Nat) < wa.heap.size; omega)).trans hma)
  have hFi : Hid (∀ (w3 : World) ao capo af capf, Strs w3.heap.size w3 (.slice ao (linesB old).length capo) (linesB old) → Strs w3.heap.size w3 (.slice af (linesB fresh).length capf) (linesB fresh) →
      Calls Tryz.prog 25 #[.slice ao (linesB old).length capo, .slice af (linesB fresh).length capf] w3 fun e w' => ∃ a cap, e = .returned (.slice a (Dn.wayM (linesB old) (linesB fresh)).length cap) ∧ StepsAt w'.heap.size w' (.slice a (Dn.wayM (linesB old) (linesB fresh)).length cap) (Dn.wayM (linesB old) (linesB fresh)) ∧ Below w3.heap.size w3 w') := by
    intro w3 ao capo af capf s1 s2
    refine (find_row s1 s2 (by omega) (by omega)).mono ?_
    rintro e w' ⟨v, rfl, ho, hb⟩
    have hst := StepsAt.of_owns ho
    obtain ⟨a, cap, rfl⟩ := hst.slice
    exact ⟨a, cap, rfl, hst, hb⟩
  have hHu : Hid (∀ (w4 : World) a cap, StepsAt w4.heap.size w4 (.slice a (Dn.wayM (linesB old) (linesB fresh)).length cap) (Dn.wayM (linesB old) (linesB fresh)) →
      Calls Tryz.prog 27 #[.slice a (Dn.wayM (linesB old) (linesB fresh)).length cap, .int .i64 c] w4 fun e w' => ∃ v, e = .returned v ∧ ∃ hv, HSo w4.heap.size v hv w' ∧ hv.map (·.1) = diffM old fresh c ∧ Below w4.heap.size w4 w') := by
    intro w4 a cap hst
    refine (hunksOf_row c hst hc (by have := way_len (linesB old) (linesB fresh); omega) (Dn.wayM_way _ _).2.2 (fun s hs => ?_))
    rcases way_text hs with h | h
    · have := linesB_size h; omega
    · have := linesB_size h; omega
  clear hba n1 n2 z1 z2 hch l1 l2 hm hD
  generalize linesB old = Lo at *
  generalize linesB fresh = Lf at *
  generalize Dn.wayM Lo Lf = WW at *
  generalize diffM old fresh c = DD at *
  go_enter Tryz.func12, Tryz.ntmps12
  go_wp2_with (first | (go_at_call 24; refine (hck _ h1 h2).mono ?_; rintro e w' ⟨rfl, rfl⟩) | (go_at_call 26; refine hLo.mono ?_; clear hLo; rintro e w2 ⟨ao, capo, rfl, so, hb2⟩; have hLf2 := hLf.out w2 hb2) | (go_at_call 26; refine hLf2.mono ?_; clear hLf2; rintro e w3 ⟨af, capf, rfl, sf, hb3⟩; have hFi2 := hFi.out w3 ao capo af capf ((so.below hb3).mono hb3.size) sf) | (go_at_call 25; refine hFi2.mono ?_; clear hFi2; rintro e w4 ⟨a4, cap4, rfl, st4, hb4⟩; have hHu2 := hHu.out w4 a4 cap4 st4) | (go_at_call 27; refine hHu2.mono ?_; clear hHu2; rintro e w5 ⟨v, rfl, hv, hso, hmm, hb5⟩; obtain ⟨a5, n5, c5, rfl⟩ := hso.slice; have hAll : Below wa.heap.size wa w5 := ((hb2.trans (hb3.mono hb2.size)).trans (hb4.mono (Nat.le_trans hb2.size hb3.size))).trans (hb5.mono (Nat.le_trans hb2.size (Nat.le_trans hb3.size hb4.size))); have hB5 := (hAll.block w.heap.size (by omega)).trans hBa; have r0 : w5.cell? ⟨w.heap.size, 0, none⟩ = some (.slice none 0 0) := cell_of hB5 rfl; have r1 : w5.frozen? ⟨w.heap.size, 0, none⟩ = false := frozen_of hB5))
  have hz5 : w.heap.size + 1 ≤ w4.heap.size := by have := hb2.size; have := hb3.size; have := hb4.size; omega
  refine bodyPost_ret (v := .tuple #[.agg #[.slice a5 n5 c5], .int .i64 0]) ?_ rfl ⟨_, rfl, hv, ?_, hmm, ?_⟩
  · simp [results, Tryz.results12, go_sem, r0]
  · exact (hso.kept (grownBy_setCell w5 w.heap.size 0 _) (fun k e => by cases e; exact .inr ⟨_, _, _, hB5, by decide, by decide⟩)).mono (by omega)
  · have hba : Below w.heap.size w wa := by rw [← hwa]; exact (Below.refl _ _).alloc (Nat.le_refl _) _
    exact (hba.trans (hAll.mono (by omega))).setCell (p := ⟨w.heap.size, 0, none⟩) (Nat.le_refl _) _
end Go.Proofs.YtcclgodahlinbaaGreatDoor
