import Derived.Test.YtcclgodahlinbaaGreatDoorWMatch
namespace Go.Proofs.YtcclgodahlinbaaGreatDoor
open Go.RowKit Go
set_option maxRecDepth 100000

theorem StepsAt.mono {B B' : Nat} {w : World} {v : Value} {L : List StepB} (h : StepsAt B w v L) (hb : B ≤ B') : StepsAt B' w v L := by
  rcases h with h | ⟨b, cap, e, hB, hc⟩
  · exact .inl h
  · exact .inr ⟨b, cap, e, by omega, hc⟩
theorem owns_line {w : World} {base n cap g : Nat} {l : List StepB} (h : w.ownsRow base 93 2 (.slice (some ⟨g, 0, none⟩) n cap) n (stepCells l)) {i : Nat} (hi : i < l.length) :
    w.cell? ⟨g, i * 2, none⟩ = some (.int .u8 (l[i].kind : Nat)) ∧ w.cell? ⟨g, i * 2 + 1, none⟩ = some (.string l[i].text) := by
  obtain ⟨hl, hr⟩ := h
  rcases hr with ⟨e, _⟩ | ⟨g', cap', cur, e, hb, hg, h1, h2, h3, h4⟩
  · cases e
  · cases e
    obtain ⟨a, b⟩ := stepCells_get l i hi
    rw [← h4] at a b
    have f : ∀ (j : Nat) (u : Value), (cur.toList.take (n * 2))[j]? = some u → cur[j]? = some u := by
      intro j u hu
      rw [List.getElem?_take] at hu
      split at hu
      · simpa using hu
      · cases hu
    exact ⟨cell_of hg (f _ _ a), cell_of hg (f _ _ b)⟩
theorem StepsAt.of_lines {base : Nat} {w : World} {v : Value} {L : List StepB} (h : w.ownsRow base 93 2 v L.length (stepCells L)) : StepsAt w.heap.size w v L := by
  by_cases h0 : L.length = 0
  · have : L = [] := List.eq_nil_of_length_eq_zero h0
    subst this
    rcases h.2 with ⟨e, _⟩ | ⟨g, cap, cur, e, _⟩
    · exact .inl ⟨rfl, _, _, e⟩
    · exact .inl ⟨rfl, _, _, e⟩
  · obtain ⟨g, cap, rfl, _, hg, _⟩ := owns_slice h (by omega)
    exact .inr ⟨g, cap, rfl, hg, fun i hi => owns_line h hi⟩

/-- hunks, read -/
def HunksAt (B : Nat) (w : World) (v : Value) (hs : List HunkM) : Prop :=
  (hs = [] ∧ ∃ a c, v = .slice a 0 c) ∨ ∃ b cap, v = .slice (some ⟨b, 0, none⟩) hs.length cap ∧ b < B ∧
    ∀ i (h : i < hs.length), ∃ a c, w.cell? ⟨b, i * 5, none⟩ = some (.int .i64 (hs[i].fr : Int)) ∧ w.cell? ⟨b, i * 5 + 1, none⟩ = some (.int .i64 (hs[i].fc : Int)) ∧ w.cell? ⟨b, i * 5 + 2, none⟩ = some (.int .i64 (hs[i].tr : Int)) ∧
      w.cell? ⟨b, i * 5 + 3, none⟩ = some (.int .i64 (hs[i].tc : Int)) ∧ w.cell? ⟨b, i * 5 + 4, none⟩ = some (.slice a hs[i].lines.length c) ∧ StepsAt B w (.slice a hs[i].lines.length c) hs[i].lines

theorem HunksAt.of_owns {base : Nat} {w : World} {v : Value} {hv : List HV} (h : HSo base v hv w) : HunksAt w.heap.size w v (hv.map (·.1)) := by
  rcases h with ⟨rfl, rfl⟩ | ⟨g, cap, rfl, _, hs⟩
  · exact .inl ⟨rfl, _, _, rfl⟩
  · refine .inr ⟨g, cap, by simp, (hs.row.lt g rfl).2, fun i hi => ?_⟩
    have hi' : i < hv.length := by simpa using hi
    obtain ⟨c0, c1, c2, c3, c4⟩ := owns_hunk hs.row hi'
    have hl := StepsAt.of_lines (hs.lines hv[i] (List.getElem_mem hi'))
    obtain ⟨a, c, e⟩ := hl.slice
    rw [e] at hl c4
    refine ⟨a, c, ?_⟩
    simp only [List.getElem_map]
    exact ⟨c0, c1, c2, c3, c4, hl⟩
theorem HunksAt.below {B : Nat} {w w' : World} {v : Value} {hs : List HunkM} (h : HunksAt B w v hs) (hb : Below B w w') : HunksAt B w' v hs := by
  rcases h with h | ⟨b, cap, e, hB, hc⟩
  · exact .inl h
  · refine .inr ⟨b, cap, e, hB, fun i hi => ?_⟩
    obtain ⟨a, c, h0, h1, h2, h3, h4, h5⟩ := hc i hi
    exact ⟨a, c, (hb.cell (p := ⟨b, i * 5, none⟩) hB).trans h0, (hb.cell (p := ⟨b, i * 5 + 1, none⟩) hB).trans h1, (hb.cell (p := ⟨b, i * 5 + 2, none⟩) hB).trans h2, (hb.cell (p := ⟨b, i * 5 + 3, none⟩) hB).trans h3, (hb.cell (p := ⟨b, i * 5 + 4, none⟩) hB).trans h4, h5.below hb⟩
theorem HunksAt.mono {B B' : Nat} {w : World} {v : Value} {hs : List HunkM} (h : HunksAt B w v hs) (hb : B ≤ B') : HunksAt B' w v hs := by
  rcases h with h | ⟨b, cap, e, hB, hc⟩
  · exact .inl h
  · refine .inr ⟨b, cap, e, by omega, fun i hi => ?_⟩
    obtain ⟨a, c, h0, h1, h2, h3, h4, h5⟩ := hc i hi
    exact ⟨a, c, h0, h1, h2, h3, h4, h5.mono hb⟩
theorem HunksAt.slice {B : Nat} {w : World} {v : Value} {hs : List HunkM} (h : HunksAt B w v hs) : ∃ a cap, v = .slice a hs.length cap := by
  rcases h with ⟨rfl, a, c, rfl⟩ | ⟨b, cap, rfl, _⟩
  · exact ⟨a, c, rfl⟩
  · exact ⟨_, _, rfl⟩
theorem HunksAt.at {B n cap : Nat} {w : World} {a : Option Addr} {hs : List HunkM} (h : HunksAt B w (.slice a n cap) hs) {i : Nat} (hi : i < hs.length) :
    ∃ b a' c, a = some ⟨b, 0, none⟩ ∧ b < B ∧ w.cell? ⟨b, i * 5, none⟩ = some (.int .i64 (hs[i].fr : Int)) ∧ w.cell? ⟨b, i * 5 + 1, none⟩ = some (.int .i64 (hs[i].fc : Int)) ∧ w.cell? ⟨b, i * 5 + 2, none⟩ = some (.int .i64 (hs[i].tr : Int)) ∧
      w.cell? ⟨b, i * 5 + 3, none⟩ = some (.int .i64 (hs[i].tc : Int)) ∧ w.cell? ⟨b, i * 5 + 4, none⟩ = some (.slice a' hs[i].lines.length c) ∧ StepsAt B w (.slice a' hs[i].lines.length c) hs[i].lines := by
  rcases h with ⟨rfl, _⟩ | ⟨b, cap, e, hb, hc⟩
  · simp at hi
  · cases e
    obtain ⟨a', c, r⟩ := hc i hi
    exact ⟨b, a', c, rfl, hb, r⟩

def rightM : Nat → Int → List HunkM → Bool
  | _, _, [] => true
  | en, gr, h :: l => fitsM h en gr && matchM h.fc h.tc false h.lines && decide (h.lines.length ≤ 1000) && rightM (placeM h.fr h.fc + h.fc) (gr + h.tc - h.fc) l

set_option maxHeartbeats 2000000 in
theorem isRight_yes {hs : List HunkM} {a : Option Addr} {cap : Nat} {w : World} (hH : HunksAt w.heap.size w (.slice a hs.length cap) hs) (hok : rightM 0 0 hs = true) (hL : hs.length ≤ 1000) :
    Calls Tryz.prog 31 #[.agg #[.slice a hs.length cap]] w fun e w' => e = .returned (.bool true) ∧ Below w.heap.size w w' := by
  have hw0 : Below w.heap.size w ((w.alloc (.cells #[.slice a hs.length cap] 32)).alloc (.cells #[.int .i64 0, .int .i64 0] 84)) := ((Below.refl _ _).alloc (Nat.le_refl _) _).alloc (by simp) _
  have hS0 := heap_alloc_new (w.alloc (.cells #[.slice a hs.length cap] 32)) (.cells #[.int .i64 0, .int .i64 0] 84)
  rw [World.size_alloc] at hS0
  go_enter Tryz.func31, Tryz.ntmps31
  go_wp2
  go_loopg [9] hs.length (fun g t wr => ∃ (k en : Nat) (gr : Int), g = hs.length - k ∧ k ≤ hs.length ∧ t = .int .i64 k ∧ wr.heap[w.heap.size + 1]? = some (.cells #[.int .i64 (en : Int), .int .i64 gr] 84 (0, 0)) ∧ rightM en gr (hs.drop k) = true ∧ -(100000 * (k : Int)) ≤ gr ∧ gr ≤ 100000 * (k : Int) ∧ Below w.heap.size w wr)
  case atStart => exact ⟨0, 0, 0, by omega, by omega, rfl, hS0, hok, by omega, by omega, hw0⟩
  case round =>
    obtain ⟨k, en, gr, hgk, hkl, rfl, hS, hm, hg1, hg2, hbel⟩ := hrel
    clear hw0 hS0 hok
    have hsz := hbel.size
    have hSw : w.heap.size + 1 < wr.heap.size := (Array.getElem?_eq_some_iff.1 hS).1
    by_cases hk : k < hs.length
    · have hkI : (k : Int) < hs.length := by omega
      obtain ⟨b, a', c', rfl, hbB, r0, r1, r2, r3, r4, hst⟩ := (hH.below hbel).at hk
      rw [List.drop_eq_getElem_cons hk] at hm
      generalize hs[k] = h at r0 r1 r2 r3 r4 hst hm
      rw [rightM] at hm
      simp only [Bool.and_eq_true, decide_eq_true_eq] at hm
      obtain ⟨⟨⟨m1, m2⟩, m3⟩, m4⟩ := hm
      have hbd : h.fc ≤ 100000 ∧ h.tc ≤ 100000 := by
        unfold fitsM at m1
        simp only [Bool.and_eq_true, decide_eq_true_eq] at m1
        exact ⟨m1.1.1.1.1.1.1.2, m1.1.1.1.2⟩
      have hbB' : b < wr.heap.size := by omega
      have hB1 := heap_alloc_new wr (.cells #[.int .i64 (h.fr : Int), .int .i64 (h.fc : Int), .int .i64 (h.tr : Int), .int .i64 (h.tc : Int), .slice a' h.lines.length c'] 61)
      have htk := take_yes h a' h.lines.length c' (wr.alloc (.cells #[.int .i64 (h.fr : Int), .int .i64 (h.fc : Int), .int .i64 (h.tr : Int), .int .i64 (h.tc : Int), .slice a' h.lines.length c'] 61)) m1 ((Below.heap_alloc wr _ (w.heap.size + 1) hSw).trans hS) (by omega) (by omega)
      have hX : Hid (∀ w', (wr.alloc (.cells #[.int .i64 (h.fr : Int), .int .i64 (h.fc : Int), .int .i64 (h.tr : Int), .int .i64 (h.tc : Int), .slice a' h.lines.length c'] 61)).grownBy w' (some (w.heap.size + 1)) → w'.heap[wr.heap.size]? = some (.cells #[.int .i64 (h.fr : Int), .int .i64 (h.fc : Int), .int .i64 (h.tr : Int), .int .i64 (h.tc : Int), .slice a' h.lines.length c'] 61 (0, 0)) ∧ Below w.heap.size w w' ∧
          Calls Tryz.prog 69 #[hunkVal h (.slice a' h.lines.length c')] w' fun e w'' => e = .returned (.bool true) ∧ Below w'.heap.size w' w'') := by
        intro w' hg
        have hb' : Below w.heap.size w w' := (hbel.alloc hsz _).grown hg (by simp; omega) (fun k e => by cases e; omega)
        refine ⟨(hg.block wr.heap.size (by simp) (fun e => by have : wr.heap.size = w.heap.size + 1 := Option.some.inj e; omega)).trans hB1, hb', ?_⟩
        have hb2 : Below w.heap.size wr w' := ((Below.refl _ wr).alloc hsz _).grown hg (by simp; omega) (fun k e => by cases e; omega)
        exact linesMatch_yes ((hst.below hb2).mono hb'.size) m2 m3 hbd.1 hbd.2
      have hA : Hid (gk = hs.length - k ∧ rightM (placeM h.fr h.fc + h.fc) (gr + h.tc - h.fc) (hs.drop (k + 1)) = true ∧ -(100000 * ((k + 1 : Nat) : Int)) ≤ gr + h.tc - h.fc ∧ gr + h.tc - h.fc ≤ 100000 * ((k + 1 : Nat) : Int)) := ⟨hgk, m4, by omega, by omega⟩
      unfold hunkVal at htk
      generalize placeM h.fr h.fc + h.fc = PL at htk hA
      clear m1 m2 m3 m4 hgk hg1 hg2 hB1 hS hst hH
      go_wp2_with (first | (go_at_call 68; refine htk.mono ?_; rintro e w2 ⟨rfl, hS2, hg2'⟩; obtain ⟨hbx, hbw, hlm⟩ := hX.out w2 hg2'; have y0 := cell_of (k := 0) hbx rfl; have y1 := cell_of (k := 1) hbx rfl; have y2 := cell_of (k := 2) hbx rfl; have y3 := cell_of (k := 3) hbx rfl; have y4 := cell_of (k := 4) hbx rfl) | (go_at_call 69; refine hlm.mono ?_; rintro e w3 ⟨rfl, hb3⟩))
      have hS3 := (hb3.block (w.heap.size + 1) (by have := hg2'.size; simp at this; omega)).trans hS2
      go_roundg (hs.length - (k + 1))
      case measure => have := hA.out.1; omega
      case rel => exact ⟨k + 1, _, _, rfl, by omega, by go_num, hS3, hA.out.2.1, hA.out.2.2.1, hA.out.2.2.2, hbw.trans (hb3.mono hbw.size)⟩
    · have hkI : ¬ ((k : Int) < hs.length) := by omega
      go_wp2
      go_ret
      exact ⟨rfl, hbel⟩
end Go.Proofs.YtcclgodahlinbaaGreatDoor
