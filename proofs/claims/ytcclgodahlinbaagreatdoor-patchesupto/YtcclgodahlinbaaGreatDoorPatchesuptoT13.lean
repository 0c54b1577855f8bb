import Derived.Test.YtcclgodahlinbaaGreatDoorPatchesuptoT05
import Derived.Test.YtcclgodahlinbaaGreatDoorPatchesuptoT03
import Derived.Test.YtcclgodahlinbaaGreatDoorPatchesuptoT07
import Derived.Test.YtcclgodahlinbaaGreatDoorPatchesuptoT12
import Derived.Test.YtcclgodahlinbaaGreatDoorPatchesuptoT06
namespace Go.Proofs.YtcclgodahlinbaaGreatDoor
open Go.RowKit Go
set_option maxRecDepth 100000
def Rd.endB (st : Rd) : Bool := st.hs.isEmpty || (decide (st.f = 0) && decide (st.t = 0) && st.b)
theorem endB_iff {st : Rd} : st.endB = true ↔ st.ended := by
  unfold Rd.endB Rd.ended
  simp [Bool.or_eq_true, Bool.and_eq_true, and_assoc]
def hdOk (st : Rd) (l : List UInt8) : Bool := (headP l).ok && fitsI (headP l).hi st.en st.gr
def hdM (l : List UInt8) : HunkM := ⟨(headP l).fr.toNat, (headP l).fc.toNat, (headP l).tr.toNat, (headP l).tc.toNat, []⟩
def hdNext (st : Rd) (l : List UInt8) : Rd := ⟨st.hs ++ [hdM l], (placeI (headP l).fr (headP l).fc + (headP l).fc).toNat, st.gr + (headP l).tc - (headP l).fc, (headP l).fc.toNat, (headP l).tc.toNat, false⟩
def addLast (hs : List HunkM) (s : StepB) : List HunkM := hs.dropLast ++ (match hs.getLast? with
  | some h => [{ h with lines := h.lines ++ [s] }]
  | none => [])
def lineS (c : UInt8) (r : List UInt8) : StepB := ⟨c.toNat, ⟨r.toArray⟩⟩
def lnNext (st : Rd) (c : UInt8) (r : List UInt8) : Rd := ⟨addLast st.hs (lineS c r), st.en, st.gr, (st.f - kF c.toNat : Int).toNat, (st.t - kT c.toNat : Int).toNat, st.b || c.toNat != 32⟩
def rdStep (st : Rd) (l : List UInt8) : Option Rd :=
  if st.f = 0 ∧ st.t = 0 then (if (st.endB && hdOk st l) = true then some (hdNext st l) else none)
  else match l with
    | [] => none
    | c :: r => if takeOk c.toNat st.f st.t = true then some (lnNext st c r) else none
structure Bi (n : Nat) (st : Rd) : Prop where
  hn : st.hs.length ≤ n
  g1 : -(100000 * (n : Int)) ≤ st.gr
  g2 : st.gr ≤ 100000 * n
  f : st.f ≤ 100000
  t : st.t ≤ 100000
  en : st.en ≤ 300000
  nil : st.hs = [] → st.f = 0 ∧ st.t = 0
  ln : ∀ h ∈ st.hs, h.lines.length ≤ n ∧ (h.fr ≤ 100000 ∧ h.fc ≤ 100000 ∧ h.tr ≤ 100000 ∧ h.tc ≤ 100000) ∧ ∀ s ∈ h.lines, s.kind < 256 ∧ s.text.size ≤ 20000
theorem Bi.start : Bi 0 Rd.start := ⟨by simp [Rd.start], by simp [Rd.start], by simp [Rd.start], by simp [Rd.start], by simp [Rd.start], by simp [Rd.start], fun _ => ⟨rfl, rfl⟩, by simp [Rd.start]⟩
theorem hd_nums {st : Rd} {l : List UInt8} (h : hdOk st l = true) : HI.ofM (hdM l) = (headP l).hi ∧ numOk (headP l).fr (headP l).fc = true ∧ numOk (headP l).tr (headP l).tc = true ∧ (hdM l).fr ≤ 100000 ∧ (hdM l).fc ≤ 100000 ∧ (hdM l).tr ≤ 100000 ∧ (hdM l).tc ≤ 100000 := by
  unfold hdOk at h
  rw [Bool.and_eq_true] at h
  obtain ⟨n1, n2, _⟩ := fitsI_iff.1 h.2
  have m1 := numOk_iff.1 n1
  have m2 := numOk_iff.1 n2
  unfold HP.hi at m1 m2 n1 n2
  simp only at m1 m2 n1 n2
  refine ⟨?_, n1, n2, ?_, ?_, ?_, ?_⟩
  · unfold HI.ofM hdM HP.hi
    simp only [HI.mk.injEq, and_true]
    exact ⟨by omega, by omega, by omega, by omega⟩
  all_goals (unfold hdM; simp only; omega)
theorem last_ex {hs : List HunkM} (h : hs ≠ []) : ∃ init x, hs = init ++ [x] ∧ hs.dropLast = init ∧ hs.getLast? = some x := by
  refine ⟨hs.dropLast, hs.getLast h, (List.dropLast_concat_getLast h).symm, rfl, List.getLast?_eq_some_getLast h⟩
theorem addLast_eq {init : List HunkM} {x : HunkM} {s : StepB} : addLast (init ++ [x]) s = init ++ [{ x with lines := x.lines ++ [s] }] := by
  unfold addLast
  simp
theorem kFT {k : Nat} {f t : Int} (h : takeOk k f t = true) : 0 ≤ f - kF k ∧ 0 ≤ t - kT k ∧ (k = 32 ∨ k = 45 ∨ k = 43) ∧ 0 ≤ kF k ∧ kF k ≤ 1 ∧ 0 ≤ kT k ∧ kT k ≤ 1 := by
  unfold takeOk kindOk at h
  simp only [Bool.and_eq_true, decide_eq_true_eq, Bool.or_eq_true, beq_iff_eq] at h
  refine ⟨h.1.2, h.2, by omega, ?_, ?_, ?_, ?_⟩
  all_goals (first | unfold kF | unfold kT)
  all_goals (split <;> omega)
theorem Bi.step {n : Nat} {st st' : Rd} {l : List UInt8} (h : Bi n st) (hl : l.length ≤ 20000) (hs : rdStep st l = some st') : Bi (n + 1) st' := by
  unfold rdStep at hs
  by_cases hf : st.f = 0 ∧ st.t = 0
  · rw [if_pos hf] at hs
    by_cases hk : (st.endB && hdOk st l) = true
    · rw [if_pos hk] at hs
      obtain rfl := Option.some.inj hs
      rw [Bool.and_eq_true] at hk
      obtain ⟨e, n1, n2, q1, q2, q3, q4⟩ := hd_nums hk.2
      have m1 := numOk_iff.1 n1
      have m2 := numOk_iff.1 n2
      have hp := place_range n1
      refine ⟨by simp [hdNext]; exact h.hn, ?_, ?_, ?_, ?_, ?_, ?_, ?_⟩
      · have := h.g1; show _ ≤ st.gr + _ - _; omega
      · have := h.g2; show st.gr + _ - _ ≤ _; omega
      · show (headP l).fc.toNat ≤ _; omega
      · show (headP l).tc.toNat ≤ _; omega
      · show (placeI _ _ + _).toNat ≤ _; omega
      · intro e; simp [hdNext] at e
      · intro x hx
        rcases List.mem_append.1 hx with hx | hx
        · have := h.ln x hx; exact ⟨by omega, this.2⟩
        · rw [List.mem_singleton] at hx
          subst hx
          exact ⟨by simp [hdM], ⟨q1, q2, q3, q4⟩, by simp [hdM]⟩
    · rw [if_neg hk] at hs; cases hs
  · rw [if_neg hf] at hs
    cases l with
    | nil => cases hs
    | cons c r =>
      by_cases hk : takeOk c.toNat st.f st.t = true
      · simp only [hk, if_true] at hs
        obtain rfl := Option.some.inj hs
        obtain ⟨k1, k2, k3, k4, k5, k6, k7⟩ := kFT hk
        have hne : st.hs ≠ [] := fun e => hf (h.nil e)
        obtain ⟨init, x, e, e1, e2⟩ := last_ex hne
        have hadd : addLast st.hs (lineS c r) = init ++ [{ x with lines := x.lines ++ [lineS c r] }] := by rw [e]; exact addLast_eq
        have hlen : st.hs.length = init.length + 1 := by rw [e]; simp
        refine ⟨?_, ?_, ?_, ?_, ?_, ?_, ?_, ?_⟩
        · show (addLast _ _).length ≤ _; rw [hadd]; have := h.hn; simp; omega
        · have := h.g1; show _ ≤ st.gr; omega
        · have := h.g2; show st.gr ≤ _; omega
        · have := h.f; show (_ : Int).toNat ≤ _; omega
        · have := h.t; show (_ : Int).toNat ≤ _; omega
        · exact h.en
        · intro e3; have e4 : addLast st.hs (lineS c r) = [] := e3; rw [hadd] at e4; simp at e4
        · intro y hy
          have hy2 : y ∈ addLast st.hs (lineS c r) := hy
          rw [hadd] at hy2
          rcases List.mem_append.1 hy2 with hy2 | hy2
          · have := h.ln y (by rw [e]; simp [hy2]); exact ⟨by omega, this.2⟩
          · rw [List.mem_singleton] at hy2
            have hx := h.ln x (by rw [e]; simp)
            subst hy2
            refine ⟨by simp; exact hx.1, hx.2.1, ?_⟩
            intro s hs
            rcases List.mem_append.1 hs with hs | hs
            · exact hx.2.2 s hs
            · rw [List.mem_singleton] at hs
              subst hs
              refine ⟨?_, ?_⟩
              · show c.toNat < 256; exact UInt8.toNat_lt c
              · show (⟨r.toArray⟩ : ByteArray).size ≤ _
                rw [size_mk]; simp at hl; omega
      · simp only [hk] at hs; cases hs
set_option maxHeartbeats 8000000 in
theorem rdheader_any {S : Nat} {st : Rd} {v : Value} {hv : List HV} {w : World} {l : List UInt8} (hR : RdM S st v hv w) (hl : l.length ≤ 20000) (hg1 : -10000000000 ≤ st.gr) (hg2 : st.gr ≤ 10000000000) (hlen : st.hs.length ≤ 100000) (hg : GlobP w) :
    Calls Tryz.prog 77 #[.pointer (some ⟨S, 0, none⟩), .string ⟨l.toArray⟩] w fun e w' => e = .returned (.bool (hdOk st l)) ∧ (hdOk st l = true → ∃ v' hv', RdM S (hdNext st l) v' hv' w') ∧ Below S w w' := by
  have hrh := readHeader_any (d := l) (by omega) hg
  have hlt := hR.lt
  have hA : Hid (∀ w1, Below w.heap.size w w1 → RdM S st v hv w1) := fun w1 hb => hR.below hb
  have hOk : hdOk st l = ((headP l).ok && fitsI (headP l).hi st.en st.gr) := rfl
  cases hok : (headP l).ok with
  | false =>
    have hF : hdOk st l = false := by rw [hOk, hok]; rfl
    rw [hF]
    rw [hok] at hrh
    clear hF hok hOk
    unfold hiVal at hrh
    generalize (⟨l.toArray⟩ : ByteArray) = s0 at *
    generalize (headP l).hi = h at *
    go_enter Tryz.func77, Tryz.ntmps77
    go_wp2_with (go_at_call 111; refine hrh.mono ?_; rintro e w1 ⟨rfl, hb1⟩)
    go_quiet (fail)
    go_wp2_with fail
    go_ret
    have hbF := (hb1.mono (by omega : S ≤ w.heap.size)).alloc (by have := hb1.size; omega) (.cells #[.int .i64 h.fr, .int .i64 h.fc, .int .i64 h.tr, .int .i64 h.tc, .slice none 0 0] 61)
    first | exact ⟨rfl, Below.drewN' hbF⟩ | exact ⟨rfl, fun h => (by cases h), Below.drewN' hbF⟩
  | true =>
    cases hft : fitsI (headP l).hi st.en st.gr with
    | false =>
      have hF : hdOk st l = false := by rw [hOk, hok, hft]; rfl
      rw [hF]
      rw [hok] at hrh
      clear hF hok hOk
      unfold hiVal at hrh
      generalize (⟨l.toArray⟩ : ByteArray) = s0 at *
      generalize (headP l).hi = h at *
      go_enter Tryz.func77, Tryz.ntmps77
      go_wp2_with (go_at_call 111; refine hrh.mono ?_; rintro e w1 ⟨rfl, hb1⟩)
      have hR1 := hA.out w1 hb1
      have hz1' := hb1.size
      have hB1 := heap_alloc_new w1 (hiObj h (.slice none 0 0))
      have hS1 := (Below.heap_alloc w1 (hiObj h (.slice none 0 0)) S hR1.lt).trans hR1.blk
      have hsz1 : (w1.alloc (hiObj h (.slice none 0 0))).heap.size = w1.heap.size + 1 := by simp
      have hbe1 : Below S w (w1.alloc (hiObj h (.slice none 0 0))) := (hb1.mono (by omega)).alloc (by omega) _
      generalize w1.alloc (hiObj h (.slice none 0 0)) = W2 at *
      have htk := take_anyR h none 0 0 W2.drew (show W2.drew.heap[S]? = _ from hS1) (by omega) (by omega)
      rw [hft] at htk
      have y0 := cell_of (k := 0) hB1 rfl
      have y1 := cell_of (k := 1) hB1 rfl
      have y2 := cell_of (k := 2) hB1 rfl
      have y3 := cell_of (k := 3) hB1 rfl
      have y4 := cell_of (k := 4) hB1 rfl
      unfold hiVal at htk
      refine wp_still_tail 7 mixed (by kernel_rfl) ?_
      simp only [List.take_succ_cons, List.take_zero, List.drop_succ_cons, List.drop_zero]
      repeat still_step
      refine wpStill_nil ?_
      go_wp2_with (go_at_call 68; refine htk.mono ?_; rintro e w3 ⟨rfl, -, hg3⟩)
      go_ret
      have hbF : Below S w w3 := (hbe1.drew).grown hg3 (by show S ≤ W2.heap.size; omega) (fun k e => by cases e; exact Nat.le_refl _)
      first | exact ⟨rfl, hbF⟩ | exact ⟨rfl, fun h => (by cases h), hbF⟩
    | true =>
      have hF : hdOk st l = true := by rw [hOk, hok, hft]; rfl
      obtain ⟨hnm, n1, n2, -⟩ := hd_nums hF
      have hpr := place_range n1
      have hm1 := numOk_iff.1 n1
      have hEn : Hid (((placeI (headP l).fr (headP l).fc + (headP l).fc).toNat : Int) = placeI (headP l).hi.fr (headP l).hi.fc + (headP l).hi.fc) := by
        show ((placeI (headP l).fr (headP l).fc + (headP l).fc).toNat : Int) = placeI (headP l).fr (headP l).fc + (headP l).fc
        omega
      have hNx : Hid (hdNext st l = ⟨st.hs ++ [hdM l], (placeI (headP l).fr (headP l).fc + (headP l).fc).toNat, st.gr + (headP l).hi.tc - (headP l).hi.fc, (hdM l).fc, (hdM l).tc, false⟩) := rfl
      rw [hF]
      rw [hok] at hrh
      rw [← hnm] at hrh hft hEn hNx
      generalize (placeI (headP l).fr (headP l).fc + (headP l).fc).toNat = EN at *
      have hl0 : (hdM l).lines = [] := rfl
      clear hF hok hOk hnm n1 n2 hpr hm1
      generalize hdNext st l = stN at *
      generalize hdM l = h at *
      unfold hiVal HI.ofM at hrh
      obtain ⟨i0, hi, hz0, hz1, hz2⟩ := info_parts info_hunk
      have hvl : hv.length ≤ 100000 := by have := congrArg List.length hR.hs; rw [List.length_map] at this; omega
      have hone : ∀ u ∈ [Value.int .i64 (h.fr : Int), .int .i64 (h.fc : Int), .int .i64 (h.tr : Int), .int .i64 (h.tc : Int), .slice none 0 0], u.oneCell' = true := by intro u hu; simp at hu; rcases hu with rfl | rfl | rfl | rfl | rfl <;> rfl
      generalize (⟨l.toArray⟩ : ByteArray) = s0 at *
      go_enter Tryz.func77, Tryz.ntmps77
      go_wp2_with (go_at_call 111; refine hrh.mono ?_; rintro e w1 ⟨rfl, hb1⟩)
      have hR1 := hA.out w1 hb1
      have hz1' := hb1.size
      have hB1 := heap_alloc_new w1 (hkCells h)
      have hS1 := (Below.heap_alloc w1 (hkCells h) S hR1.lt).trans hR1.blk
      have hso1 := hR1.hso.alloc (hkCells h)
      have hsz1 : (w1.alloc (hkCells h)).heap.size = w1.heap.size + 1 := by simp
      have hbe1 : Below S w (w1.alloc (hkCells h)) := (hb1.mono (by omega)).alloc (by omega) _
      generalize w1.alloc (hkCells h) = W2 at *
      have htk := take_anyR (HI.ofM h) none 0 0 W2.drew (show W2.drew.heap[S]? = _ from hS1) (by omega) (by omega)
      rw [hft, ← hEn.out] at htk
      have hTG : Hid ((HI.ofM h).tc = (h.tc : Int) ∧ (HI.ofM h).fc = (h.fc : Int)) := ⟨rfl, rfl⟩
      rw [hTG.out.1, hTG.out.2] at htk hNx
      have y0 := cell_of (k := 0) hB1 rfl
      have y1 := cell_of (k := 1) hB1 rfl
      have y2 := cell_of (k := 2) hB1 rfl
      have y3 := cell_of (k := 3) hB1 rfl
      have y4 := cell_of (k := 4) hB1 rfl
      unfold hiVal HI.ofM at htk
      clear hft hEn
      refine wp_still_tail 7 mixed (by kernel_rfl) ?_
      simp only [List.take_succ_cons, List.take_zero, List.drop_succ_cons, List.drop_zero]
      repeat still_step
      refine wpStill_nil ?_
      go_wp2_with (go_at_call 68; refine htk.mono ?_; rintro e w3 ⟨rfl, hS3', hg3⟩)
      have hS3 : w3.heap[S]? = some (rdCells v EN (st.gr + h.tc - h.fc) st.f st.t st.b) := hS3' (by trivial)
      clear hS3'
      have hsz3 := hg3.size
      have hsz3' : w1.heap.size + 1 ≤ w3.heap.size := by have e : W2.drew.heap.size = W2.heap.size := rfl; omega
      have hB3 : w3.heap[w1.heap.size]? = some (hkCells h) := (hg3.block w1.heap.size (by show w1.heap.size < W2.heap.size; omega) (fun e => by have := Option.some.inj e; omega)).trans hB1
      have hso3 : HSo (S + 1) v hv w3 := HSo.kept (w := W2.drew) (by rcases hso1 with h | ⟨g, cap, e, hb, hs⟩; exact .inl h; exact .inr ⟨g, cap, e, hb, hs.len, hs.row, hs.lines, hs.apart⟩) hg3 (fun k e => by cases e; exact .inr ⟨_, _, _, hS1, by decide, by decide⟩)
      have hbe3 : Below S w w3 := (hbe1.drew).grown hg3 (by show S ≤ W2.heap.size; omega) (fun k e => by cases e; exact Nat.le_refl _)
      have hpush : Hid (∀ ob w4 g cap, w4.ownsRow (S + 1) 61 5 (.slice (some ⟨g, 0, none⟩) (hv.length + 1) cap) (hv.length + 1) (hunkCells hv ++ hunkCells1 (h, .slice none 0 0)) → (w3.drew.alloc ob).grownBy w4 v.ownBlock →
          HSo (S + 1) (.slice (some ⟨g, 0, none⟩) (hv.length + 1) cap) (hv ++ [(h, .slice none 0 0)]) w4 ∧ w4.heap[S]? = some (rdCells v EN (st.gr + h.tc - h.fc) st.f st.t st.b) ∧ w4.heap[w1.heap.size]? = some (hkCells h) ∧ Below S w w4 ∧ w1.heap.size < w4.heap.size) := by
        intro ob w4 g cap hown hgr
        have hsz4 := hgr.size
        have hsz4' : w3.heap.size + 1 ≤ w4.heap.size := by
          have e : (w3.drew.alloc ob).heap.size = w3.heap.size + 1 := by simp
          omega
        have hvb : ∀ k, v.ownBlock = some k → S + 1 ≤ k ∧ k < w3.heap.size := fun k e => hso3.owns.lt k e
        have hso3d : HSo (S + 1) v hv w3.drew := by rcases hso3 with h | ⟨g, cap, e, hb, hs⟩; exact .inl h; exact .inr ⟨g, cap, e, hb, hs.len, hs.row, hs.lines, hs.apart⟩
        have hpv := hso3d.push h hl0 hgr hown
        have hgb : S + 1 ≤ g := (hown.lt g rfl).1
        have hl1 : (hv ++ [(h, Value.slice none 0 0)]).length = hv.length + 1 := by simp
        have hkeep : ∀ k, k < w3.heap.size → some k ≠ v.ownBlock → w4.heap[k]? = w3.heap[k]? := fun k hk hne => (hgr.block k (by simp; omega) hne).trans (Below.heap_alloc w3.drew ob k hk)
        refine ⟨.inr ⟨g, cap, by rw [hl1], hgb, hpv⟩, ?_, ?_, ?_, by omega⟩
        · exact (hkeep S (by omega) (fun e => by have := hvb S e.symm; omega)).trans hS3
        · refine (hkeep w1.heap.size (by omega) (fun e => ?_)).trans hB3
          have hvp := (hR1.hso.owns).lt w1.heap.size e.symm
          omega
        · exact (hbe3.drew.alloc (by show S ≤ w3.heap.size; omega) ob).grown hgr (by simp; omega) (fun k e => by have := hvb k e; omega)
      have hown3 := hso3.owns
      obtain ⟨av, cv, rfl⟩ := owns_isSlice hown3
      clear y0 y1 y2 y3 y4
      have x0 : w3.cell? ⟨S, 0, none⟩ = some (.slice av hv.length cv) := cell_of (k := 0) hS3 rfl
      have y0 : w3.cell? ⟨w1.heap.size, 0, none⟩ = some (.int .i64 (h.fr : Int)) := cell_of (k := 0) hB3 rfl
      have y1 : w3.cell? ⟨w1.heap.size, 1, none⟩ = some (.int .i64 (h.fc : Int)) := cell_of (k := 1) hB3 rfl
      have y2 : w3.cell? ⟨w1.heap.size, 2, none⟩ = some (.int .i64 (h.tr : Int)) := cell_of (k := 2) hB3 rfl
      have y3 : w3.cell? ⟨w1.heap.size, 3, none⟩ = some (.int .i64 (h.tc : Int)) := cell_of (k := 3) hB3 rfl
      have y4 : w3.cell? ⟨w1.heap.size, 4, none⟩ = some (.slice none 0 0) := cell_of (k := 4) hB3 rfl
      have x0a : (w3.alloc (.cells #[.int .i64 (h.fr : Int), .int .i64 (h.fc : Int), .int .i64 (h.tr : Int), .int .i64 (h.tc : Int), .slice none 0 0] 61)).cell? ⟨S, 0, none⟩ = some (.slice av hv.length cv) := (World.cell?_of_block (Below.heap_alloc w3 _ S (by omega))).trans x0
      have hmx : hv.length + 1 ≤ maxLen := by unfold maxLen; omega
      have hbase : S + 1 ≤ (w3.drew.alloc (.cells #[.int .i64 (h.fr : Int), .int .i64 (h.fc : Int), .int .i64 (h.tr : Int), .int .i64 (h.tc : Int), .slice none 0 0] 61)).heap.size := by simp; omega
      have hneS : ¬ w1.heap.size = S := by omega
      have hneS' : ¬ S = w1.heap.size := by omega
      have hro := fun w => restOf_any h none 0 0 w
      unfold hunkVal at hro
      go_region_law (refine step_append_own rfl (.tmp 26) (.tmp 28) 30 rfl (S + 1) 61 i0 _ 5 56 Tryz.underlying30 hi hz0 hz1 hz2 rfl (by decide) (.slice av hv.length cv) hv.length (hunkCells hv) (by simp [Act.eval]) (World.ownsRow.alloc (w := w3.drew) hown3 _) ⟨w3.heap.size, 0, none⟩ 1 1 [.int .i64 (h.fr : Int), .int .i64 (h.fc : Int), .int .i64 (h.tr : Int), .int .i64 (h.tc : Int), .slice none 0 0] (by simp [Act.eval]) rfl (cells_new w3.drew _ _) hone hmx (by omega) hbase ?_; intro v' w4 hown4 hgr4 _; obtain ⟨g', cap', rfl, hg', _⟩ := owns_slice hown4 (Nat.succ_pos _); obtain ⟨hso4, hS4, hB4, hbe4, hlt4⟩ := hpush.out _ w4 g' cap' hown4 hgr4; have x4 : w4.cell? ⟨S, 0, none⟩ = some (.slice av hv.length cv) := cell_of (k := 0) hS4 rfl; have xf : ∀ k, w4.frozen? ⟨S, k, none⟩ = false := fun k => frozen_of (k := k) hS4; have q0 : w4.cell? ⟨w1.heap.size, 0, none⟩ = some (.int .i64 (h.fr : Int)) := cell_of (k := 0) hB4 rfl; have q1 : w4.cell? ⟨w1.heap.size, 1, none⟩ = some (.int .i64 (h.fc : Int)) := cell_of (k := 1) hB4 rfl; have q2 : w4.cell? ⟨w1.heap.size, 2, none⟩ = some (.int .i64 (h.tr : Int)) := cell_of (k := 2) hB4 rfl; have q3 : w4.cell? ⟨w1.heap.size, 3, none⟩ = some (.int .i64 (h.tc : Int)) := cell_of (k := 3) hB4 rfl; have q4 : w4.cell? ⟨w1.heap.size, 4, none⟩ = some (.slice none 0 0) := cell_of (k := 4) hB4 rfl)
      all_goals
        go_wp2_with fail
        refine (hro _).mono ?_
        rintro e w6 ⟨rfl, hb6⟩
        have hsz6 := hb6.size
        rw [World.size_setCell] at hsz6
        have hS6 := (hb6.block S (by rw [World.size_setCell]; omega)).trans (heap_setCell_same w4 S 0 (.slice (some ⟨g', 0, none⟩) (hv.length + 1) cap') _ _ _ hS4)
        have xf6 : ∀ k, w6.frozen? ⟨S, k, none⟩ = false := fun k => frozen_of (k := k) hS6
        have x3 : w6.cell? ⟨S, 3, none⟩ = some (.int .i64 (st.f : Int)) := cell_of (k := 3) hS6 rfl
        have x4' : w6.cell? ⟨S, 4, none⟩ = some (.int .i64 (st.t : Int)) := cell_of (k := 4) hS6 rfl
        have x5 : w6.cell? ⟨S, 5, none⟩ = some (.bool st.b) := cell_of (k := 5) hS6 rfl
        go_wp2_with fail
        go_ret
        have hfin : RdM S stN (.slice (some ⟨g', 0, none⟩) (hv.length + 1) cap') (hv ++ [(h, .slice none 0 0)]) (((w6.setCell ⟨S, 3, none⟩ (.int .i64 (h.fc : Int))).setCell ⟨S, 4, none⟩ (.int .i64 (h.tc : Int))).setCell ⟨S, 5, none⟩ (.bool false)) := by
          rw [hNx.out]
          refine ⟨?_, ?_, ?_⟩
          · exact heap_setCell_same _ _ _ _ _ _ _ (heap_setCell_same _ _ _ _ _ _ _ (heap_setCell_same _ _ _ _ _ _ _ hS6))
          · have a1 := hso4.kept (grownBy_setCell w4 S 0 (.slice (some ⟨g', 0, none⟩) (hv.length + 1) cap')) (fun k e => by cases e; exact .inr ⟨_, _, _, hS4, by decide, by decide⟩)
            exact (a1.below hb6).kept (grownBy_trans (grownBy_trans (grownBy_setCell _ _ _ _) (grownBy_setCell _ _ _ _)) (grownBy_setCell _ _ _ _)) (fun k e => by cases e; exact .inr ⟨_, _, _, hS6, by decide, by decide⟩)
          · rw [List.map_append, hR1.hs]
            rfl
        have hbF := ((((hbe4.setCell (p := ⟨S, 0, none⟩) (Nat.le_refl _) (.slice (some ⟨g', 0, none⟩) (hv.length + 1) cap')).trans (hb6.mono (by rw [World.size_setCell]; omega))).setCell (p := ⟨S, 3, none⟩) (Nat.le_refl _) (.int .i64 (h.fc : Int))).setCell (p := ⟨S, 4, none⟩) (Nat.le_refl _) (.int .i64 (h.tc : Int))).setCell (p := ⟨S, 5, none⟩) (Nat.le_refl _) (.bool false)
        first | exact ⟨rfl, ⟨_, _, hfin⟩, hbF⟩ | exact ⟨rfl, fun _ => ⟨_, _, hfin⟩, hbF⟩
end Go.Proofs.YtcclgodahlinbaaGreatDoor
namespace Go.Proofs.YtcclgodahlinbaaGreatDoor
open Go.RowKit Go
set_option maxRecDepth 100000
theorem ended_b {S : Nat} {st : Rd} {v : Value} {hv : List HV} {w : World} (h : RdM S st v hv w) :
    Calls Tryz.prog 36 #[.pointer (some ⟨S, 0, none⟩)] w fun e w' => e = .returned (.bool st.endB) ∧ Below w.heap.size w w' := by
  refine (ended_any h).mono ?_
  rintro e w' ⟨⟨r, rfl, hr⟩, hb⟩
  refine ⟨?_, hb⟩
  have : r = st.endB := by
    rw [Bool.eq_iff_iff, hr, endB_iff]
  rw [this]
theorem run_clone2 (args : Array Value) (w : World) : (callFunc 79 args).run Tryz.prog w = .ok (.enter 79 args) w := enters_of Tryz.func79 (by kernel_rfl) rfl args w
set_option maxHeartbeats 8000000 in
theorem rdline_any {S n : Nat} {st : Rd} {v : Value} {hv : List HV} {w : World} {l : List UInt8} (hR : RdM S st v hv w) (hB : Bi n st) (hn : n ≤ 20001) (hl : l.length ≤ 20000) (hg : GlobP w) :
    Calls Tryz.prog 35 #[.pointer (some ⟨S, 0, none⟩), .string ⟨l.toArray⟩] w fun e w' => e = .returned (.bool (rdStep st l).isSome) ∧ (∀ st', rdStep st l = some st' → ∃ v' hv', RdM S st' v' hv' w') ∧ Below S w w' := by
  have hlt := hR.lt
  have b1 := hB.hn
  have b2 := hB.g1
  have b3 := hB.g2
  have x3 : w.cell? ⟨S, 3, none⟩ = some (.int .i64 (st.f : Int)) := cell_of (k := 3) hR.blk rfl
  have x4 : w.cell? ⟨S, 4, none⟩ = some (.int .i64 (st.t : Int)) := cell_of (k := 4) hR.blk rfl
  have x5 : w.cell? ⟨S, 5, none⟩ = some (.bool st.b) := cell_of (k := 5) hR.blk rfl
  have hfu := full_any (st.f : Int) (st.t : Int) st.b w
  by_cases hf : st.f = 0 ∧ st.t = 0
  · have e1 : decide ((st.f : Int) = 0) = true := decide_eq_true (by omega)
    have e2 : decide ((st.t : Int) = 0) = true := decide_eq_true (by omega)
    rw [e1, e2] at hfu
    have hX : Hid (∀ w1, Below w.heap.size w w1 → Calls Tryz.prog 36 #[.pointer (some ⟨S, 0, none⟩)] w1 fun e w' => e = .returned (.bool st.endB) ∧ Below w1.heap.size w1 w') := fun w1 hb1 => ended_b (hR.below hb1)
    have hY : Hid (∀ w1 w2, Below w.heap.size w w1 → Below w1.heap.size w1 w2 → Calls Tryz.prog 77 #[.pointer (some ⟨S, 0, none⟩), .string ⟨l.toArray⟩] w2 fun e w' => e = .returned (.bool (hdOk st l)) ∧ (hdOk st l = true → ∃ v' hv', RdM S (hdNext st l) v' hv' w') ∧ Below S w w') := by
      intro w1 w2 hb1 hb2
      have hb12 := hb1.trans (hb2.mono hb1.size)
      refine (rdheader_any (hR.below hb12) hl (by omega) (by omega) (by omega) (hg.next hb12)).mono ?_
      rintro e w' ⟨rfl, hr, hb'⟩
      exact ⟨rfl, hr, (hb12.mono (by omega)).trans hb'⟩
    have hst : rdStep st l = if (st.endB && hdOk st l) = true then some (hdNext st l) else none := by unfold rdStep; rw [if_pos hf]
    rw [hst]
    clear hst
    generalize (⟨l.toArray⟩ : ByteArray) = s0 at *
    generalize hdOk st l = hk at *
    generalize hdNext st l = stN at *
    cases hE : st.endB with
    | false =>
      rw [hE] at hX
      rw [Bool.false_and]
      clear hE e1 e2 hf
      go_enter Tryz.func35, Tryz.ntmps35
      go_wp2_with (first | (go_at_call 76; refine hfu.mono ?_; rintro e w1 ⟨rfl, hb1⟩; have hX1 := hX.out w1 hb1) | (go_at_call 36; refine hX1.mono ?_; rintro e w2 ⟨rfl, hb2⟩))
      go_ret
      have hbF : Below S w w2 := (hb1.mono (by omega)).trans (hb2.mono (by have := hb1.size; omega))
      first | exact ⟨rfl, hbF⟩ | exact ⟨rfl, fun st' h => (by cases h), hbF⟩
    | true =>
      rw [hE] at hX
      rw [Bool.true_and]
      clear hE e1 e2 hf
      cases hk with
      | false =>
        go_enter Tryz.func35, Tryz.ntmps35
        go_wp2_with (first | (go_at_call 76; refine hfu.mono ?_; rintro e w1 ⟨rfl, hb1⟩; have hX1 := hX.out w1 hb1) | (go_at_call 36; refine hX1.mono ?_; rintro e w2 ⟨rfl, hb2⟩; have hY1 := hY.out w1 w2 hb1 hb2) | (go_at_call 77; refine hY1.mono ?_; rintro e w3 ⟨rfl, hr, hb3⟩))
        go_ret
        first | exact ⟨rfl, hb3⟩ | exact ⟨rfl, fun st' h => (by cases h), hb3⟩
      | true =>
        go_enter Tryz.func35, Tryz.ntmps35
        go_wp2_with (first | (go_at_call 76; refine hfu.mono ?_; rintro e w1 ⟨rfl, hb1⟩; have hX1 := hX.out w1 hb1) | (go_at_call 36; refine hX1.mono ?_; rintro e w2 ⟨rfl, hb2⟩; have hY1 := hY.out w1 w2 hb1 hb2) | (go_at_call 77; refine hY1.mono ?_; rintro e w3 ⟨rfl, hr, hb3⟩; have hrH : Hid _ := hr; clear hr))
        go_ret
        first | exact ⟨rfl, hrH.out (by trivial), hb3⟩ | exact ⟨rfl, hrH.out, hb3⟩ | exact ⟨rfl, fun st' h => Option.some.inj h ▸ hrH.out (by trivial), hb3⟩
  · have hd : (decide ((st.f : Int) = 0) && decide ((st.t : Int) = 0)) = false := by
      rw [Bool.and_eq_false_iff]
      by_cases h0 : st.f = 0
      · right; exact decide_eq_false (by omega)
      · left; exact decide_eq_false (by omega)
    rw [hd] at hfu
    clear hd
    cases l with
    | nil =>
      have hst : rdStep st [] = none := by unfold rdStep; rw [if_neg hf]
      rw [hst]
      clear hst hf
      have hem : (⟨([] : List UInt8).toArray⟩ : ByteArray) = ⟨#[]⟩ := rfl
      rw [hem]
      clear hem
      go_enter Tryz.func35, Tryz.ntmps35
      go_wp2_with (go_at_call 76; refine hfu.mono ?_; rintro e w1 ⟨rfl, hb1⟩)
      go_quiet (fail)
      go_wp2_with fail
      go_ret
      have hbF : Below S w w1 := hb1.mono (by omega)
      first | exact ⟨rfl, Below.drewN' hbF⟩ | exact ⟨rfl, fun st' h => (by cases h), Below.drewN' hbF⟩
    | cons c r =>
      have hst : rdStep st (c :: r) = if takeOk c.toNat st.f st.t = true then some (lnNext st c r) else none := by unfold rdStep; rw [if_neg hf]
      rw [hst]
      clear hst
      have hkd : c.toNat < 256 := UInt8.toNat_lt c
      have hc8 := UInt8.toNat_lt c
      have hf5 := hB.f
      have ht5 := hB.t
      generalize hsx : (⟨(c :: r).toArray⟩ : ByteArray) = sx at *
      have hEm : sx.toList.isEmpty = false := by
        rw [← hsx, Lib.toList_data]
        rfl
      have hSz : sx.size = r.length + 1 := by rw [← hsx, size_mk]; rfl
      have hI1 : (1 : Int) ≤ (r.length : Int) + 1 := by omega
      have hI0 : (0 : Int) < ((r.length + 1 : Nat) : Int) := by omega
      have hS00 : Hid (0 < sx.size) := by show _ < _; omega
      have hK0 : ∀ hh : 0 < sx.size, (sx[0]'hh).toNat = c.toNat := by
        intro hh
        subst hsx
        rfl
      have hT1 : Hid (sx.extract 1 sx.size = ⟨r.toArray⟩) := by
        unfold Hid
        rw [Lib.extract_eq, ← hsx, size_mk]
        show (⟨(((c :: r)).drop 1 |>.take _).toArray⟩ : ByteArray) = _
        rw [List.drop_succ_cons, List.drop_zero, List.take_of_length_le (by simp)]
      have hnx : Hid (∀ init h, st.hs = init ++ [h] → lnNext st c r = ⟨init ++ [{ h with lines := h.lines ++ [lineS c r] }], st.en, st.gr, (st.f - kF c.toNat : Int).toNat, (st.t - kT c.toNat : Int).toNat, st.b || c.toNat != 32⟩) := by
        intro init h e
        unfold lnNext
        rw [e, addLast_eq]
      have hls : Hid (lineS c r = ⟨c.toNat, ⟨r.toArray⟩⟩) := rfl
      have hrs : (⟨r.toArray⟩ : ByteArray).size = r.length := size_mk r
      simp only [List.length_cons] at hl
      have htk0 : Hid (∀ w1, Below w.heap.size w w1 → Calls Tryz.prog 78 #[.pointer (some ⟨S, 3, none⟩), .int .u8 (c.toNat : Nat)] w1.drew fun e w' => e = .returned (.bool (takeOk c.toNat st.f st.t)) ∧ (takeOk c.toNat st.f st.t = true → w'.heap[S]? = some (.cells #[v, .int .i64 (st.en : Int), .int .i64 st.gr, .int .i64 ((st.f : Int) - kF c.toNat), .int .i64 ((st.t : Int) - kT c.toNat), .bool (st.b || c.toNat != 32)] 88 (0, 0))) ∧ w1.drew.grownBy w' (some S)) := by
        intro w1 hb1
        exact resttake_anyR w1.drew (show w1.drew.heap[S]? = _ from (hb1.block S hlt).trans hR.blk) hkd (by omega) (by omega) (by omega) (by omega)
      cases hq : takeOk c.toNat st.f st.t with
      | false =>
        rw [hq] at htk0
        clear hq hf hnx hT1 hls
        go_enter Tryz.func35, Tryz.ntmps35
        go_wp2_with (go_at_call 76; refine hfu.mono ?_; rintro e w1 ⟨rfl, hb1⟩)
        refine wp_still_tail 8 mixed (by kernel_rfl) ?_
        simp only [List.take_succ_cons, List.take_zero, List.drop_succ_cons, List.drop_zero]
        repeat still_step
        refine wpStill_nil ?_
        try simp only [hK0]
        have htk := htk0.out w1 hb1
        clear x3 x4 x5 hfu hEm hK0
        go_wp2_with (go_at_call 78; refine htk.mono ?_; rintro e w2 ⟨rfl, -, hg2⟩)
        go_ret
        have hbF : Below S w w2 := ((hb1.mono (by omega)).drew).grown hg2 (by show S ≤ w1.heap.size; have := hb1.size; omega) (fun k e => by cases e; exact Nat.le_refl _)
        first | exact ⟨rfl, hbF⟩ | exact ⟨rfl, fun st' h => (by cases h), hbF⟩
      | true =>
        obtain ⟨k1, k2, k3, k4, k5, k6, k7⟩ := kFT hq
        have hne : st.hs ≠ [] := fun e => hf (hB.nil e)
        obtain ⟨init, h, e0, -, -⟩ := last_ex hne
        have hh := hB.ln h (by rw [e0]; simp)
        obtain ⟨g, cap, i1, vl, rfl, hgb, rfl, him, hsv⟩ := hR.hso.last (hR.hs.trans e0)
        have hF2 : Hid ((((st.f : Int) - kF c.toNat).toNat : Int) = (st.f : Int) - kF c.toNat ∧ (((st.t : Int) - kT c.toNat).toNat : Int) = (st.t : Int) - kT c.toNat) := ⟨by omega, by omega⟩
        have hnx2 : Hid _ := hnx.out init h e0
        rw [hq] at htk0
        have hil : i1.length ≤ 100000 := by have := congrArg List.length him; rw [List.length_map] at this; rw [e0] at b1; simp at b1; omega
        clear hq hf hnx k1 k2 k3 k4 k5 k6 k7 hne
        go_enter Tryz.func35, Tryz.ntmps35
        go_wp2_with (go_at_call 76; refine hfu.mono ?_; rintro e w1 ⟨rfl, hb1⟩)
        refine wp_still_tail 8 mixed (by kernel_rfl) ?_
        simp only [List.take_succ_cons, List.take_zero, List.drop_succ_cons, List.drop_zero]
        repeat still_step
        refine wpStill_nil ?_
        try simp only [hK0]
        have hS1 := (hb1.block S hlt).trans hR.blk
        have hz1' := hb1.size
        have htk := htk0.out w1 hb1
        have hsv1 : HSv (S + 1) g (i1.length + 1) cap (i1 ++ [(h, vl)]) w1 := ⟨hsv.len, owns_below hsv.row hb1 (fun k e => (hsv.row.lt k e).2), fun p hp => owns_below (hsv.lines p hp) hb1 (fun k e => ((hsv.lines p hp).lt k e).2), hsv.apart⟩
        have hsv1d : HSv (S + 1) g (i1.length + 1) cap (i1 ++ [(h, vl)]) w1.drew := ⟨hsv1.len, hsv1.row, hsv1.lines, hsv1.apart⟩
        have hA : Hid (∀ w2, w1.drew.grownBy w2 (some S) → HSv (S + 1) g (i1.length + 1) cap (i1 ++ [(h, vl)]) w2 ∧ Below S w w2 ∧ w.heap.size ≤ w2.heap.size) := by
          intro w2 hg2
          refine ⟨hsv1d.kept hg2 (fun k e => by cases e; exact .inr ⟨_, _, _, hS1, by decide, by decide⟩), ((hb1.mono (by omega)).drew).grown hg2 (by show S ≤ w1.heap.size; omega) (fun k e => by cases e; exact Nat.le_refl _), ?_⟩
          have := hg2.size
          have e : w1.drew.heap.size = w1.heap.size := rfl
          omega
        clear x3 x4 x5 hfu hsv1 hsv1d hS1 hsv hR htk0
        generalize (st.f : Int) - kF c.toNat = F2 at *
        generalize (st.t : Int) - kT c.toNat = T2 at *
        generalize hBB : (st.b || c.toNat != 32) = B2 at *
        go_wp2_with (go_at_call 78; refine htk.mono ?_; rintro e w2 ⟨rfl, hS2', hg2⟩)
        obtain ⟨hsv2, hbe2, hsz2⟩ := hA.out w2 hg2
        have hS2 := hS2' (by trivial)
        clear htk hA hS2'
        have x0 : w2.cell? ⟨S, 0, none⟩ = some (.slice (some ⟨g, 0, none⟩) (i1.length + 1) cap) := cell_of (k := 0) hS2 rfl
        have hwv2 : IntKind.i64.wrap (i1.length : Int) = i1.length := by rw [IntKind.wrap_i64]; omega
        have hix3 : (i1.length : Int) < ((i1.length + 1 : Nat) : Int) := by omega
        have hix4 : (i1.length : Int) < (i1.length : Int) + 1 := by omega
        have hix5 : (0 : Int) ≤ (i1.length : Int) := by omega
        go_quiet (fail)
        have hsv0 : HSv (S + 1) g (i1.length + 1) cap (i1 ++ [(h, vl)]) (w2.drewN nq) := ⟨hsv2.len, hsv2.row, hsv2.lines, hsv2.apart⟩
        have hS0 : (w2.drewN nq).heap[S]? = _ := hS2
        have hbe0 : Below S w (w2.drewN nq) := Below.drewN' hbe2
        have hsz0 : w.heap.size ≤ (w2.drewN nq).heap.size := hsz2
        clear hsv2 hS2 hbe2 hsz2 x0
        generalize w2.drewN nq = W0 at *
        have hvl : W0.ownsRow (S + 1) 93 2 vl h.lines.length (stepCells h.lines) := hsv0.lines (h, vl) (by simp)
        obtain ⟨cur, hcur⟩ := owns_block hsv0.row (g := g) rfl
        have hgw : g < W0.heap.size := (Array.getElem?_eq_some_iff.1 hcur).1
        have hSw : S < W0.heap.size := by omega
        have hge : vl.ownBlock ≠ some g := owns_ne hvl hcur (by decide)
        have hcells := owns_hunk hsv0.row (i := i1.length) (by simp)
        simp only [last_get] at hcells
        obtain ⟨c0, c1, c2, c3, c4⟩ := hcells
        have hfz : ∀ k, W0.frozen? ⟨g, k, none⟩ = false := fun k => frozen_of hcur
        have hget := hunkCells_get (i1 ++ [(h, vl)]) i1.length (by simp)
        simp only [last_get] at hget
        have G : Hid _ := hget
        generalize hO : i1.length * 5 = O at c0 c1 c2 c3 c4 G ⊢
        have hll : h.lines.length ≤ 100000 := by have := hh.1; omega
        have hbk : ∀ k, vl.ownBlock = some k → S + 1 ≤ k ∧ k < W0.heap.size := fun k e => hvl.lt k e
        obtain ⟨avl, cvl, hvle⟩ := owns_isSlice hvl
        subst hvle
        have hone : ∀ u ∈ [Value.int .u8 (c.toNat : Int), Value.string ⟨r.toArray⟩], u.oneCell' = true := by intro u hu; simp at hu; rcases hu with rfl | rfl <;> rfl
        obtain ⟨i0, hi, hz0, hz1, hz2⟩ := info_parts info_line
        have hm1 : h.lines.length + 1 ≤ maxLen := by unfold maxLen; omega
        have hm2 : (h.lines.length + 1) * 24 ≤ 140737488355328 := by omega
        have hT1b : sx.extract 1 (r.length + 1) = ⟨r.toArray⟩ := by rw [← hSz]; exact hT1.out
        have hcl := (clone_any (⟨r.toArray⟩ : ByteArray) W0.drew (by omega)).mono (fun e w' h => (⟨_, h.1, rfl, h.2⟩ : ∃ v, e = .returned v ∧ (v = .string ⟨r.toArray⟩ ∧ Below W0.heap.size W0.drew w')))
        generalize hrr : (⟨r.toArray⟩ : ByteArray) = rr at *
        have hsI : (0 : Int) < sx.size := by omega
        have hsI1 : (1 : Int) ≤ sx.size := by omega
        have hnlt : ¬ sx.size < 1 := by omega
        clear hcur hT1
        have hI0w : W0.drew.cell? ⟨g, O + 4, none⟩ = some (.slice avl h.lines.length cvl) := c4
        go_wp2_with fail
        refine wp_region_any mixed (wpKs.any (st := 15) (I := fun w' => w'.cell? ⟨g, O + 4, none⟩ = some (.slice avl h.lines.length cvl)) ?_)
        refine wpKs_take (i := 0) (n := 15) (v := .pointer (some ⟨g, O, none⟩)) rfl (by kernel_rfl) (by kernel_rfl) (by kernel_rfl) (by kernel_rfl) (by kernel_rfl) (by kernel_rfl) (fun c a w h => h) ⟨by simp [Region.wanted], fun w' hw => ?_⟩ ?_
        · simp [execOp, go_sem, Act.eval]
        refine wpKs_take (i := 1) (n := 14) (v := .pointer (some ⟨g, O, none⟩)) rfl (by kernel_rfl) (by kernel_rfl) (by kernel_rfl) (by kernel_rfl) (by kernel_rfl) (by kernel_rfl) (fun c a w h => h) ⟨by simp [Region.wanted], fun w' hw => ?_⟩ ?_
        · simp [execOp, go_sem, Act.eval, Act.put]
        refine wpKs_take (i := 2) (n := 13) (v := .pointer (some ⟨g, O, none⟩)) rfl (by kernel_rfl) (by kernel_rfl) (by kernel_rfl) (by kernel_rfl) (by kernel_rfl) (by kernel_rfl) (fun c a w h => h) ⟨by simp [Region.wanted], fun w' hw => ?_⟩ ?_
        · simp [execOp, go_sem, Act.eval, Act.put]
        refine wpKs_take (i := 3) (n := 12) (v := .pointer (some ⟨g, O + 4, none⟩)) rfl (by kernel_rfl) (by kernel_rfl) (by kernel_rfl) (by kernel_rfl) (by kernel_rfl) (by kernel_rfl) (fun c a w h => h) ⟨by simp [Region.wanted], fun w' hw => ?_⟩ ?_
        · simp [execOp, go_sem, Act.eval, Act.put]
        refine wpKs_take (i := 4) (n := 11) (v := .slice avl h.lines.length cvl) rfl (by kernel_rfl) (by kernel_rfl) (by kernel_rfl) (by kernel_rfl) (by kernel_rfl) (by kernel_rfl) (fun c a w h => h) ⟨by simp [Region.wanted], fun w' hw => ?_⟩ ?_
        · have hc : w'.cell? ⟨g, O + 4, none⟩ = some (.slice avl h.lines.length cvl) := hw; simp [execOp, go_sem, Act.eval, Act.put, hc]
        refine wpKs_take (i := 5) (n := 10) (v := .string sx) rfl (by kernel_rfl) (by kernel_rfl) (by kernel_rfl) (by kernel_rfl) (by kernel_rfl) (by kernel_rfl) (fun c a w h => h) ⟨by simp [Region.wanted], fun w' hw => ?_⟩ ?_
        · simp [execOp, go_sem, Act.eval, Act.put]
        refine wpKs_take (i := 6) (n := 9) (v := .int .u8 (c.toNat : Int)) rfl (by kernel_rfl) (by kernel_rfl) (by kernel_rfl) (by kernel_rfl) (by kernel_rfl) (by kernel_rfl) (fun c a w h => h) ⟨by simp [Region.wanted], fun w' hw => ?_⟩ ?_
        · have hs0 : 0 < sx.size := hS00.out; have hs1 : (sx[0]'hs0).toNat = c.toNat := hK0 hs0; simp [execOp, go_sem, Act.eval, Act.put, hs0, hs1]
        refine wpKs_take (i := 7) (n := 8) (v := .string sx) rfl (by kernel_rfl) (by kernel_rfl) (by kernel_rfl) (by kernel_rfl) (by kernel_rfl) (by kernel_rfl) (fun c a w h => h) ⟨by simp [Region.wanted], fun w' hw => ?_⟩ ?_
        · simp [execOp, go_sem, Act.eval, Act.put]
        refine wpKs_take (i := 8) (n := 7) (v := .string rr) rfl (by kernel_rfl) (by kernel_rfl) (by kernel_rfl) (by kernel_rfl) (by kernel_rfl) (by kernel_rfl) (fun c a w h => h) ⟨by simp [Region.wanted], fun w' hw => ?_⟩ ?_
        · have hs2 : ¬ (sx.size : Int) < 1 := (by omega); have hs3 : sx.extract 1 sx.size = rr := (by rw [hSz]; exact hT1b); simp [execOp, go_sem, Act.eval, Act.put, hs2, hs3]
        refine wpKs_one (i := 9) (n := 6) hI0w (by kernel_rfl) ?_
        refine wpOp_call rfl rfl 79 _ _ rfl #[.string rr] (by simp [Act.eval, Act.put]) (run_clone2 _ _) (fun v w' => v = .string rr ∧ Below W0.heap.size W0.drew w') hcl ?_
        rintro v1 w3 ⟨rfl, hb3⟩
        have hz3 : W0.heap.size ≤ w3.heap.size := hb3.size
        have hI1w : w3.cell? ⟨g, O + 4, none⟩ = some (.slice avl h.lines.length cvl) := (hb3.cell (p := ⟨g, O + 4, none⟩) hgw).trans hI0w
        have hvl3 : w3.ownsRow (S + 1) 93 2 (.slice avl h.lines.length cvl) h.lines.length (stepCells h.lines) := owns_below (w := W0.drew) hvl hb3 (fun k e => (hbk k e).2)
        refine wpKs_take (i := 10) (n := 5) (v := .agg #[.int .u8 (c.toNat : Int), .string rr]) rfl (by kernel_rfl) (by kernel_rfl) (by kernel_rfl) (by kernel_rfl) (by kernel_rfl) (by kernel_rfl) (fun c a w h => h) ⟨by simp [Region.wanted], fun w' hw => ?_⟩ ?_
        · simp [execOp, go_sem, Act.eval, Act.put]
        refine wpKs_one (i := 11) (n := 4) hI1w (by kernel_rfl) ?_
        refine wpOp_val (w' := w3.alloc (.cells #[.int .u8 (c.toNat : Int), .string rr] 93)) (v := .slice (some ⟨w3.heap.size, 0, none⟩) 1 1) rfl rfl ?_ ?_
        · simp [execOp, go_sem, Act.eval, Act.put]
        have hI2w : (w3.alloc (.cells #[.int .u8 (c.toNat : Int), .string rr] 93)).cell? ⟨g, O + 4, none⟩ = some (.slice avl h.lines.length cvl) := (World.cell?_of_block (Below.heap_alloc w3 _ g (by omega))).trans hI1w
        refine wpKs_one (i := 12) (n := 3) hI2w (by kernel_rfl) ?_
        refine wpOp_append rfl rfl (.tmp 44) (.tmp 51) 59 rfl (S + 1) 93 i0 _ 2 24 Tryz.underlying59 hi hz0 hz1 hz2 rfl (by decide) (.slice avl h.lines.length cvl) h.lines.length (stepCells h.lines) (by simp [Act.eval, Act.put]) (hvl3.alloc _) ⟨w3.heap.size, 0, none⟩ 1 1 [.int .u8 (c.toNat : Int), .string rr] (by simp [Act.eval, Act.put]) rfl (cells_new w3 _ _) hone hm1 hm2 (by rw [World.size_alloc]; omega) ?_
        intro vl' w4 hown' hgr0
        obtain ⟨hgr, hnew⟩ := grown_of hgr0
        clear hgr0
        obtain ⟨g', cap', rfl, _, _⟩ := owns_slice hown' (Nat.succ_pos _)
        have hz4 := hgr.size
        rw [World.size_alloc] at hz4
        have e3 : ∀ k, k < W0.heap.size → some k ≠ (Value.slice avl h.lines.length cvl).ownBlock → w4.heap[k]? = W0.heap[k]? := by
          intro k hk hne
          rw [hgr.block k (by rw [World.size_alloc]; omega) hne, Below.heap_alloc w3 _ k (by omega)]
          exact hb3.block k hk
        have e1 := e3 g hgw (fun e => hge e.symm)
        have e2 := e3 S hSw (fun e => by have := hbk S e.symm; omega)
        have f4 : w4.cell? ⟨g, O + 4, none⟩ = some (.slice avl h.lines.length cvl) := (World.cell?_of_block (a := ⟨g, O + 4, none⟩) e1).trans c4
        have ff : ∀ k, w4.frozen? ⟨g, k, none⟩ = false := fun k => (World.frozen?_of_block (a := ⟨g, k, none⟩) e1).trans (hfz k)
        have hb4 : Below S w w4 := ((hbe0.drew.trans (hb3.mono (by omega))).alloc (by omega) _).grown hgr (by rw [World.size_alloc]; omega) (fun k e => by have := hbk k e; omega)
        refine wpKs_one (i := 13) (n := 2) f4 (by kernel_rfl) ?_
        refine wpOp_val (w' := w4) (v := .pointer (some ⟨g, O, none⟩)) rfl rfl (by simp [execOp, go_sem, Act.eval, Act.put]) ?_
        refine wpKs_one (i := 14) (n := 1) f4 (by kernel_rfl) ?_
        refine wpOp_val (w' := w4) (v := .pointer (some ⟨g, O + 4, none⟩)) rfl rfl (by simp [execOp, go_sem, Act.eval, Act.put]) ?_
        refine wpKs_one (i := 15) (n := 0) f4 (by kernel_rfl) ?_
        refine wpOp_skip (w' := w4.setCell ⟨g, O + 4, none⟩ (.slice (some ⟨g', 0, none⟩) (h.lines.length + 1) cap')) rfl rfl ?_ ?_
        · simp [execOp, go_sem, Act.eval, Act.put, f4, ff]
        have hfin : ∃ v' hv', RdM S (lnNext st c r) v' hv' (w4.setCell ⟨g, O + 4, none⟩ (.slice (some ⟨g', 0, none⟩) (h.lines.length + 1) cap')) := by
          refine ⟨.slice (some ⟨g, 0, none⟩) (i1.length + 1) cap, i1 ++ [({ h with lines := h.lines ++ [lineS c r] }, .slice (some ⟨g', 0, none⟩) (h.lines.length + 1) cap')], ?_, ?_, ?_⟩
          · rw [hnx2.out]
            show _ = some (Obj.cells #[.slice (some ⟨g, 0, none⟩) (i1.length + 1) cap, .int .i64 (st.en : Int), .int .i64 st.gr, .int .i64 (F2.toNat : Int), .int .i64 (T2.toNat : Int), .bool B2] 88 (0, 0))
            rw [hF2.out.1, hF2.out.2]
            exact ((heap_setCell_other _ g S _ _ (by omega)).trans e2).trans hS0
          · refine .inr ⟨g, cap, by simp, hgb, ?_⟩
            have hlen : (i1 ++ [(({ h with lines := h.lines ++ [lineS c r] } : HunkM), Value.slice (some ⟨g', 0, none⟩) (h.lines.length + 1) cap')]).length = i1.length + 1 := by simp
            rw [hlen]
            refine lineMore_fin (s := lineS c r) hsv0 (by rw [hls.out]; exact hown') e3 ?_ (grownBy_setCell _ _ _ _) ?_
            · rcases hnew with hn | hn
              · exact .inl hn
              · exact .inr fun k e => by have h1 := hn k e; rw [World.size_alloc] at h1; omega
            intro cu hcu htk
            obtain ⟨cu', k1, k2, k3⟩ := heap1 (o1 := O + 4) (v1 := .slice (some ⟨g', 0, none⟩) (h.lines.length + 1) cap') hcu ((i1.length + 1) * 5)
            refine ⟨cu', k1, k2, ?_⟩
            obtain ⟨G0, G1, G2, G3, G4⟩ := G.out
            rw [k3, hO, htk, set_self G0, set_self G1, set_self G2, set_self G3]
          · rw [List.map_append, him, hnx2.out]
            rfl
        have hfinH : Hid _ := hfin
        have hbF := hb4.setCell (p := ⟨g, O + 4, none⟩) (by show S ≤ g; omega) (.slice (some ⟨g', 0, none⟩) (h.lines.length + 1) cap')
        have hI5w : (w4.setCell ⟨g, O + 4, none⟩ (.slice (some ⟨g', 0, none⟩) (h.lines.length + 1) cap')).heap.size = w4.heap.size := by simp
        refine wpKs_done (by kernel_rfl) (by kernel_rfl) ?_
        clear hfin hsv0 hvl hvl3 hown' hS0
        generalize w4.setCell ⟨g, O + 4, none⟩ (.slice (some ⟨g', 0, none⟩) (h.lines.length + 1) cap') = WF at *
        go_wp2_with fail
        refine bodyPost_ret (v := .bool true) ?_ rfl ?_
        · simp [results, Tryz.results35, go_sem]
        · first | exact ⟨rfl, hfinH.out, hbF⟩ | exact ⟨rfl, fun st' h => Option.some.inj h ▸ hfinH.out, hbF⟩
end Go.Proofs.YtcclgodahlinbaaGreatDoor
namespace Go.Proofs.YtcclgodahlinbaaGreatDoor
open Go.RowKit Go
set_option maxRecDepth 100000
def rdRun : Rd → List (List UInt8) → Nat → Nat × Option Rd
  | st, [], i => (i, some st)
  | st, l :: r, i => match rdStep st l with
    | none => (i, none)
    | some st' => rdRun st' r (i + 1)
def rdEnd (whole : Bool) : Nat × Option Rd → List HunkM × Nat × Int
  | (i, none) => ([], i, 4)
  | (n, some st) => if (whole && st.endB) = true then (st.hs, 0, 0) else ([], n, 4)
def contA (st : Rd) (t : List UInt8) (i : Nat) : List HunkM × Nat × Int := rdEnd (cutL t).2.isEmpty (rdRun st (cutL t).1 i)
def readA (s : ByteArray) : List HunkM × Nat × Int := if 20000 < s.size then ([], 0, 1) else contA Rd.start s.data.toList 0
theorem cut_acc : ∀ (l : List UInt8) (acc : List (List UInt8)) (cur : List UInt8), l.foldl cutSt (acc, cur) = (acc ++ (l.foldl cutSt ([], cur)).1, (l.foldl cutSt ([], cur)).2)
  | [], acc, cur => by simp
  | c :: l, acc, cur => by
    simp only [List.foldl_cons]
    by_cases hc : c = 10
    · have e1 : cutSt (acc, cur) c = (acc ++ [cur], []) := by simp [cutSt, hc]
      have e2 : cutSt ([], cur) c = ([cur], []) := by simp [cutSt, hc]
      rw [e1, e2, cut_acc l (acc ++ [cur]) [], cut_acc l [cur] []]
      simp
    · have e1 : cutSt (acc, cur) c = (acc, cur ++ [c]) := by simp [cutSt, hc]
      have e2 : cutSt ([], cur) c = ([], cur ++ [c]) := by simp [cutSt, hc]
      rw [e1, e2, cut_acc l acc (cur ++ [c])]
theorem cut_plain : ∀ (l : List UInt8) (cur : List UInt8), (10 : UInt8) ∉ l → l.foldl cutSt ([], cur) = ([], cur ++ l)
  | [], cur, _ => by simp
  | c :: l, cur, h => by
    have hc : c ≠ 10 := fun e => h (by simp [e])
    have e2 : cutSt ([], cur) c = ([], cur ++ [c]) := by simp [cutSt, hc]
    rw [List.foldl_cons, e2, cut_plain l (cur ++ [c]) (fun hm => h (by simp [hm]))]
    simp
theorem cutL_none {t : List UInt8} (h : (10 : UInt8) ∉ t) : cutL t = ([], t) := by
  unfold cutL; rw [cut_plain t [] h]; simp
theorem cutL_found {a b : List UInt8} (h : (10 : UInt8) ∉ a) : cutL (a ++ [10] ++ b) = (a :: (cutL b).1, (cutL b).2) := by
  unfold cutL
  rw [List.foldl_append, List.foldl_append, cut_plain a [] h]
  have e : [(10 : UInt8)].foldl cutSt ([], [] ++ a) = ([a], []) := by simp [cutSt]
  rw [e, cut_acc b [a] []]
  rfl
theorem cut10 (t : List UInt8) : (∃ a b, Lib.cut t [10] = (a, b, true) ∧ t = a ++ [10] ++ b ∧ (10 : UInt8) ∉ a) ∨ (Lib.cut t [10] = (t, [], false) ∧ (10 : UInt8) ∉ t) := by
  by_cases h : (10 : UInt8) ∈ t
  · left
    have key : ∀ t : List UInt8, (10 : UInt8) ∈ t → ∃ a b, t = a ++ 10 :: b ∧ (10 : UInt8) ∉ a := by
      intro t
      induction t with
      | nil => intro h; simp at h
      | cons c t ih =>
        intro h
        by_cases hc : c = 10
        · exact ⟨[], t, by simp [hc], by simp⟩
        · rcases List.mem_cons.1 h with e | e
          · exact absurd e.symm hc
          · obtain ⟨a, b, e1, e2⟩ := ih e
            refine ⟨c :: a, b, by rw [e1]; rfl, ?_⟩
            rw [List.mem_cons]
            rintro (e | e)
            · exact hc e.symm
            · exact e2 e
    obtain ⟨a, b, e, hn⟩ := key t h
    refine ⟨a, b, ?_, by rw [e]; simp, hn⟩
    have := cut_at (a := a) (b := b) (sep := [10]) rfl hn
    rw [e, ← this]
    simp
  · right
    refine ⟨?_, h⟩
    exact cut_none (sep := [10]) rfl h
theorem contA_nil (st : Rd) (i : Nat) : contA st [] i = if st.endB = true then (st.hs, 0, 0) else ([], i, 4) := by
  unfold contA
  rw [cutL_none (by simp)]
  simp [rdRun, rdEnd]
theorem contA_part {t : List UInt8} (st : Rd) (i : Nat) (h0 : t ≠ []) (h : (10 : UInt8) ∉ t) : contA st t i = ([], i, 4) := by
  unfold contA
  rw [cutL_none h]
  have : t.isEmpty = false := by cases t with | nil => exact absurd rfl h0 | cons a t => rfl
  simp [rdRun, rdEnd, this]
theorem contA_line {a b : List UInt8} (st : Rd) (i : Nat) (h : (10 : UInt8) ∉ a) : contA st (a ++ [10] ++ b) i = match rdStep st a with
    | none => ([], i, 4)
    | some st' => contA st' b (i + 1) := by
  unfold contA
  rw [cutL_found h]
  simp only [rdRun]
  cases rdStep st a with
  | none => rfl
  | some st' => rfl
theorem HSo.zero {base : Nat} {w : World} : HSo base (.slice none 0 0) [] w := .inl ⟨rfl, rfl⟩
set_option maxHeartbeats 8000000 in
theorem read_any {s : ByteArray} {w : World} (hs4 : s.size ≤ 4000000000) (hg : GlobP w) :
    Calls Tryz.prog 17 #[.string s] w fun e w' => ∃ al cl hv, e = .returned (.tuple #[.agg #[.slice al hv.length cl], .int .i64 ((readA s).2.1 : Nat), .int .i64 (readA s).2.2]) ∧ HSo w.heap.size (.slice al hv.length cl) hv w' ∧ hv.map (·.1) = (readA s).1 ∧ Below w.heap.size w w' := by
  have hP := heap_alloc_new w (.cells #[.slice none 0 0] 32)
  by_cases hbig : 20000 < s.size
  · have hA : readA s = ([], 0, 1) := by unfold readA; rw [if_pos hbig]
    rw [hA]
    have hbI : (20000 : Int) < s.size := by omega
    have p0 : (w.alloc (.cells #[.slice none 0 0] 32)).cell? ⟨w.heap.size, 0, none⟩ = some (.slice none 0 0) := cell_of hP rfl
    have pf : ∀ k, (w.alloc (.cells #[.slice none 0 0] 32)).frozen? ⟨w.heap.size, k, none⟩ = false := fun k => frozen_of hP
    have hb := (Below.refl w.heap.size w).alloc (Nat.le_refl _) (.cells #[.slice none 0 0] 32)
    clear hA
    go_enter Tryz.func17, Tryz.ntmps17
    go_wp2_with fail
    generalize w.alloc (.cells #[.slice none 0 0] 32) = W at *
    refine bodyPost_ret (v := .tuple #[.agg #[.slice none 0 0], .int .i64 0, .int .i64 1]) ?_ rfl ⟨none, 0, [], rfl, HSo.zero, rfl, hb⟩
    simp [results, Tryz.results17, go_sem, p0]
  · have hA : readA s = contA Rd.start s.data.toList 0 := by unfold readA; rw [if_neg hbig]
    rw [hA]
    have hb := ((Below.refl w.heap.size w).alloc (Nat.le_refl _) (.cells #[.slice none 0 0] 32)).alloc (by simp) (rdCells (.slice none 0 0) 0 0 0 0 false)
    have hU := heap_alloc_new (w.alloc (.cells #[.slice none 0 0] 32)) (rdCells (.slice none 0 0) 0 0 0 0 false)
    rw [World.size_alloc] at hU
    have hP2 := (Below.heap_alloc (w.alloc (.cells #[.slice none 0 0] 32)) (rdCells (.slice none 0 0) 0 0 0 0 false) w.heap.size (by simp)).trans hP
    have hR0 : RdM (w.heap.size + 1) Rd.start (.slice none 0 0) [] ((w.alloc (.cells #[.slice none 0 0] 32)).alloc (rdCells (.slice none 0 0) 0 0 0 0 false)) := ⟨hU, .inl ⟨rfl, rfl⟩, rfl⟩
    have hng : ¬ (20000 : Int) < (s.size : Int) := by omega
    have hsl : Hid (s = ⟨s.data.toList.toArray⟩) := by show _ = _; simp
    have hs2 : s.data.toList.length ≤ 20000 := by show s.size ≤ _; omega
    clear hP hU hA
    generalize s.data.toList = L at *
    go_enter Tryz.func17, Tryz.ntmps17
    go_wp2_with fail
    generalize (w.alloc (.cells #[.slice none 0 0] 32)).alloc (rdCells (.slice none 0 0) 0 0 0 0 false) = W at *
    go_loopg [0, 6] L.length (fun g t a wr => ∃ (m : Nat) (tx : List UInt8) (st : Rd) (v : Value) (hv : List HV), g = tx.length ∧ tx.length + m ≤ 20000 ∧ t = .string ⟨tx.toArray⟩ ∧ a = .int .i64 (m : Nat) ∧ Hid (contA Rd.start L 0 = contA st tx m) ∧ Hid (Bi m st) ∧ RdM (w.heap.size + 1) st v hv wr ∧ wr.heap[w.heap.size]? = some (.cells #[.slice none 0 0] 32 (0, 0)) ∧ Below w.heap.size w wr)
    case atStart => exact ⟨0, L, Rd.start, _, _, rfl, by omega, congrArg Value.string hsl.out, rfl, rfl, Bi.start, hR0, hP2, hb⟩
    case round =>
      obtain ⟨m, tx, st, v, hv, hgk, hlen, rfl, rfl, hC, hB, hR, hP, hbel⟩ := hrel
      have hG : Hid (_ = tx.length) := hgk
      clear hgk hR0 hP2 hb
      have hgw := hg.below hbel hg.sz hbel.size
      have hsw := hbel.size
      have hlt := hR.lt
      have hP0 : wr.cell? ⟨w.heap.size, 0, none⟩ = some (.slice none 0 0) := cell_of hP rfl
      have hPf : ∀ k, wr.frozen? ⟨w.heap.size, k, none⟩ = false := fun k => frozen_of hP
      have hPk : Hid (∀ w1, Below wr.heap.size wr w1 → w1.heap[w.heap.size]? = some (.cells #[.slice none 0 0] 32 (0, 0)) ∧ Below w.heap.size w w1 ∧ w.heap.size + 1 < w1.heap.size) := fun w1 hb1 => ⟨(hb1.block w.heap.size (by omega)).trans hP, hbel.trans (hb1.mono (by omega)), by have := hb1.size; omega⟩
      by_cases ht : tx = []
      · subst ht
        have hem : (⟨([] : List UInt8).toArray⟩ : ByteArray).toList.isEmpty = true := by rw [Lib.toList_data]; rfl
        have hend := ended_b hR
        obtain ⟨av, cv, hve⟩ := hR.hso.len
        subst hve
        have x0 : wr.cell? ⟨w.heap.size + 1, 0, none⟩ = some (.slice av hv.length cv) := cell_of (k := 0) hR.blk rfl
        have hso := hR.hso
        have hhs : Hid (hv.map (·.1) = st.hs) := hR.hs
        have hCn : Hid (contA Rd.start L 0 = if st.endB = true then (st.hs, 0, 0) else ([], m, 4)) := by show _ = _; rw [hC.out, contA_nil]
        have hxk : Hid (∀ w1, Below wr.heap.size wr w1 → w1.cell? ⟨w.heap.size + 1, 0, none⟩ = some (.slice av hv.length cv) ∧ HSo (w.heap.size + 2) (.slice av hv.length cv) hv w1) := fun w1 hb1 => ⟨(hb1.cell (p := ⟨w.heap.size + 1, 0, none⟩) (by show w.heap.size + 1 < _; omega)).trans x0, hso.below hb1⟩
        clear hR hC hso x0
        generalize (⟨([] : List UInt8).toArray⟩ : ByteArray) = sx at *
        cases hE : st.endB with
        | true =>
          rw [hE] at hend
          have hC2 : Hid (contA Rd.start L 0 = (st.hs, 0, 0)) := by show _ = _; rw [hCn.out, hE]; rfl
          clear hCn hE
          go_wp2_with (go_at_call 36; refine hend.mono ?_; rintro e w1 ⟨rfl, hb1⟩; obtain ⟨hP1, hbw1, hsz1⟩ := hPk.out w1 hb1; obtain ⟨x1, hso1⟩ := hxk.out w1 hb1; have q0 : w1.cell? ⟨w.heap.size, 0, none⟩ = some (.slice none 0 0) := cell_of hP1 rfl; have qf : ∀ k, w1.frozen? ⟨w.heap.size, k, none⟩ = false := fun k => frozen_of hP1)
          refine bodyPost_ret (v := .tuple #[.agg #[.slice av hv.length cv], .int .i64 0, .int .i64 0]) ?_ rfl ⟨av, cv, hv, by rw [hC2.out] <;> rfl, ?_, by rw [hC2.out]; exact hhs.out, hbw1.setCell (p := ⟨w.heap.size, 0, none⟩) (Nat.le_refl _) _⟩
          · have hq : (w1.setCell ⟨w.heap.size, 0, none⟩ (.slice av hv.length cv)).cell? ⟨w.heap.size, 0, none⟩ = some (.slice av hv.length cv) := cell_of (heap_setCell_same _ _ _ _ _ _ _ hP1) rfl
            simp [results, Tryz.results17, go_sem, hq]
          · exact (hso1.kept (grownBy_setCell w1 w.heap.size 0 (.slice av hv.length cv)) (fun k e => by cases e; exact .inr ⟨_, _, _, hP1, by decide, by decide⟩)).mono (by omega)
        | false =>
          rw [hE] at hend
          have hC2 : Hid (contA Rd.start L 0 = ([], m, 4)) := by show _ = _; rw [hCn.out, hE]; rfl
          clear hCn hE
          go_wp2_with (go_at_call 36; refine hend.mono ?_; rintro e w1 ⟨rfl, hb1⟩; obtain ⟨hP1, hbw1, hsz1⟩ := hPk.out w1 hb1; have q0 : w1.cell? ⟨w.heap.size, 0, none⟩ = some (.slice none 0 0) := cell_of hP1 rfl; have qf : ∀ k, w1.frozen? ⟨w.heap.size, k, none⟩ = false := fun k => frozen_of hP1)
          refine bodyPost_ret (v := .tuple #[.agg #[.slice none 0 0], .int .i64 (m : Int), .int .i64 4]) ?_ rfl ⟨none, 0, [], by rw [hC2.out] <;> rfl, HSo.zero, by rw [hC2.out] <;> rfl, hbw1.setCell (p := ⟨w.heap.size, 0, none⟩) (Nat.le_refl _) _⟩
          have hq : (w1.setCell ⟨w.heap.size, 0, none⟩ (.slice none 0 0)).cell? ⟨w.heap.size, 0, none⟩ = some (.slice none 0 0) := cell_of (heap_setCell_same _ _ _ _ _ _ _ hP1) rfl
          simp [results, Tryz.results17, go_sem, hq]
      · have hem : (⟨tx.toArray⟩ : ByteArray).toList.isEmpty = false := by
          rw [Lib.toList_data]
          cases tx with
          | nil => exact absurd rfl ht
          | cons a l => rfl
        have hcut := cut_call (a := tx) (sep := [10]) (by omega) hgw
        rcases cut10 tx with ⟨a, b, he, htx, hna⟩ | ⟨he, hnt⟩
        · rw [he] at hcut
          have hla : a.length + b.length + 1 = tx.length := by rw [htx]; simp; omega
          have hln : Hid (∀ w1, Below wr.heap.size wr w1 → Calls Tryz.prog 35 #[.pointer (some ⟨w.heap.size + 1, 0, none⟩), .string ⟨a.toArray⟩] w1 fun e w' => e = .returned (.bool (rdStep st a).isSome) ∧ (∀ st', rdStep st a = some st' → ∃ v' hv', RdM (w.heap.size + 1) st' v' hv' w') ∧ w'.heap[w.heap.size]? = some (.cells #[.slice none 0 0] 32 (0, 0)) ∧ Below w.heap.size w w') := by
            intro w1 hb1
            refine (rdline_any (hR.below hb1) hB.out (by omega) (by omega) (hgw.next hb1)).mono ?_
            rintro e w' ⟨rfl, hr, hb'⟩
            exact ⟨rfl, hr, (hb'.block w.heap.size (by omega)).trans ((hb1.block w.heap.size (by omega)).trans hP), (hbel.trans (hb1.mono (by omega))).trans (hb'.mono (by omega))⟩
          have hCl : Hid (contA Rd.start L 0 = match rdStep st a with
              | none => ([], m, 4)
              | some st' => contA st' b (m + 1)) := by show _ = _; rw [hC.out, htx, contA_line st m hna]
          have hBl : Hid (∀ st', rdStep st a = some st' → Bi (m + 1) st') := fun st' h => hB.out.step (by omega) h
          have hmes : Hid (b.length < tx.length) := by show _ < _; omega
          have hlen2 : b.length + (m + 1) ≤ 20000 := by omega
          generalize (⟨tx.toArray⟩ : ByteArray) = sx at *
          generalize (⟨a.toArray⟩ : ByteArray) = sa at *
          clear hR hP0 hPf hC he htx ht hna hla hlen
          cases hq : rdStep st a with
          | none =>
            rw [hq] at hln
            have hC2 : Hid (contA Rd.start L 0 = ([], m, 4)) := by show _ = _; rw [hCl.out, hq]
            clear hq hCl hBl
            go_wp2_with (first | (go_at_call 34; refine hcut.mono ?_; rintro e w1 ⟨rfl, hb1⟩; have hln1 := hln.out w1 hb1) | (go_at_call 35; refine hln1.mono ?_; rintro e w2 ⟨rfl, hr, hP1, hb2⟩; have q0 : w2.cell? ⟨w.heap.size, 0, none⟩ = some (.slice none 0 0) := cell_of hP1 rfl; have qf : ∀ k, w2.frozen? ⟨w.heap.size, k, none⟩ = false := fun k => frozen_of hP1))
            refine bodyPost_ret (v := .tuple #[.agg #[.slice none 0 0], .int .i64 (m : Int), .int .i64 4]) ?_ rfl ⟨none, 0, [], by rw [hC2.out] <;> rfl, HSo.zero, by rw [hC2.out] <;> rfl, hb2.setCell (p := ⟨w.heap.size, 0, none⟩) (Nat.le_refl _) _⟩
            have hq : (w2.setCell ⟨w.heap.size, 0, none⟩ (.slice none 0 0)).cell? ⟨w.heap.size, 0, none⟩ = some (.slice none 0 0) := cell_of (heap_setCell_same _ _ _ _ _ _ _ hP1) rfl
            simp [results, Tryz.results17, go_sem, hq]
          | some st' =>
            have hC2 : Hid (contA Rd.start L 0 = contA st' b (m + 1)) := by show _ = _; rw [hCl.out, hq]
            have hB2 : Hid (Bi (m + 1) st') := hBl.out st' hq
            have hln2 : Hid (∀ w1, Below wr.heap.size wr w1 → Calls Tryz.prog 35 #[.pointer (some ⟨w.heap.size + 1, 0, none⟩), .string sa] w1 fun e w' => e = .returned (.bool true) ∧ (∃ v' hv', RdM (w.heap.size + 1) st' v' hv' w') ∧ w'.heap[w.heap.size]? = some (.cells #[.slice none 0 0] 32 (0, 0)) ∧ Below w.heap.size w w') := by
              intro w1 hb1
              refine (hln.out w1 hb1).mono ?_
              rintro e w' ⟨rfl, h1, h2, h3⟩
              exact ⟨by rw [hq] <;> rfl, h1 st' hq, h2, h3⟩
            clear hq hCl hBl hln
            go_wp2_with (first | (go_at_call 34; refine hcut.mono ?_; rintro e w1 ⟨rfl, hb1⟩; have hln1 := hln2.out w1 hb1) | (go_at_call 35; refine hln1.mono ?_; rintro e w2 ⟨rfl, ⟨v', hv', hr⟩, hP', hb'⟩))
            go_roundg b.length
            · exact ⟨m + 1, b, st', v', hv', rfl, hlen2, rfl, by go_num, hC2.out, hB2.out, hr, hP', hb'⟩
            · have := hG.out; have := hmes.out; omega
        · rw [he] at hcut
          have hC2 : Hid (contA Rd.start L 0 = ([], m, 4)) := by show _ = _; rw [hC.out, contA_part st m ht hnt]
          generalize (⟨tx.toArray⟩ : ByteArray) = sx at *
          clear hR hC he ht hnt
          go_wp2_with (go_at_call 34; refine hcut.mono ?_; rintro e w1 ⟨rfl, hb1⟩; obtain ⟨hP1, hbw1, hsz1⟩ := hPk.out w1 hb1; have q0 : w1.cell? ⟨w.heap.size, 0, none⟩ = some (.slice none 0 0) := cell_of hP1 rfl; have qf : ∀ k, w1.frozen? ⟨w.heap.size, k, none⟩ = false := fun k => frozen_of hP1)
          refine bodyPost_ret (v := .tuple #[.agg #[.slice none 0 0], .int .i64 (m : Int), .int .i64 4]) ?_ rfl ⟨none, 0, [], by rw [hC2.out] <;> rfl, HSo.zero, by rw [hC2.out] <;> rfl, hbw1.setCell (p := ⟨w.heap.size, 0, none⟩) (Nat.le_refl _) _⟩
          have hq : (w1.setCell ⟨w.heap.size, 0, none⟩ (.slice none 0 0)).cell? ⟨w.heap.size, 0, none⟩ = some (.slice none 0 0) := cell_of (heap_setCell_same _ _ _ _ _ _ _ hP1) rfl
          simp [results, Tryz.results17, go_sem, hq]
end Go.Proofs.YtcclgodahlinbaaGreatDoor
namespace Go.Proofs.YtcclgodahlinbaaGreatDoor
open Go.RowKit Go
set_option maxRecDepth 100000
theorem cut_size (t : List UInt8) : (cutL t).1.length + (cutL t).2.length ≤ t.length ∧ ∀ l ∈ (cutL t).1, l.length ≤ t.length := by
  refine snocInd (p := fun t => (cutL t).1.length + (cutL t).2.length ≤ t.length ∧ ∀ l ∈ (cutL t).1, l.length ≤ t.length) (by simp [cutL]) (fun l c ih => ?_) t
  rw [cutL_snoc]
  unfold cutSt
  obtain ⟨h1, h2⟩ := ih
  by_cases hc : c = 10
  · rw [if_pos hc]
    refine ⟨by simp; omega, fun x hx => ?_⟩
    rw [List.length_append]
    rcases List.mem_append.1 hx with hx | hx
    · have := h2 x hx; omega
    · rw [List.mem_singleton] at hx
      subst hx
      omega
  · rw [if_neg hc]
    refine ⟨by simp; omega, fun x hx => ?_⟩
    rw [List.length_append]
    have := h2 x hx; omega
theorem rdRun_bi : ∀ (L : List (List UInt8)) (st : Rd) (n i m : Nat) (st' : Rd), Bi n st → (∀ l ∈ L, l.length ≤ 20000) → rdRun st L i = (m, some st') → Bi (n + L.length) st'
  | [], st, n, i, m, st', hB, _, h => by
    simp only [rdRun, Prod.mk.injEq, Option.some.injEq] at h
    rw [← h.2]
    exact hB
  | l :: L, st, n, i, m, st', hB, hl, h => by
    rw [rdRun] at h
    cases hq : rdStep st l with
    | none => rw [hq] at h; simp at h
    | some st1 =>
      rw [hq] at h
      have h1 := rdRun_bi L st1 (n + 1) (i + 1) m st' (hB.step (hl l List.mem_cons_self) hq) (fun x hx => hl x (List.mem_cons_of_mem _ hx)) h
      rw [List.length_cons]
      rw [show n + (L.length + 1) = n + 1 + L.length by omega]
      exact h1
theorem readA_small (s : ByteArray) : (readA s).1.length ≤ 20000 ∧ ∀ h ∈ (readA s).1, h.lines.length ≤ 20000 := by
  unfold readA
  by_cases hb : 20000 < s.size
  · rw [if_pos hb]; exact ⟨by simp, by simp⟩
  · rw [if_neg hb]
    unfold contA
    have hz : s.data.toList.length ≤ 20000 := by
      have : s.data.toList.length = s.size := rfl
      omega
    obtain ⟨c1, c2⟩ := cut_size s.data.toList
    generalize hq : rdRun Rd.start (cutL s.data.toList).1 0 = r
    obtain ⟨m, o⟩ := r
    cases o with
    | none => unfold rdEnd; exact ⟨by simp, by simp⟩
    | some st =>
      have hB := rdRun_bi _ _ _ _ _ _ Bi.start (fun l hl => Nat.le_trans (c2 l hl) hz) hq
      rw [Nat.zero_add] at hB
      unfold rdEnd
      simp only
      split
      · refine ⟨by have := hB.hn; simp only; omega, fun h hh => ?_⟩
        have := (hB.ln h hh).1
        omega
      · exact ⟨by simp, by simp⟩
theorem foldH_mem (L : List StepB) (nb : List Bool) : ∀ k, ∀ h ∈ (foldH L nb k).hs, ∀ s ∈ h.lines, s ∈ L := by
  intro k
  induction k with
  | zero => simp [foldH]
  | succ k ih =>
    by_cases hk : k < L.length
    · rw [foldH_succ hk]
      simp only
      have key : ∀ l : List HunkM, (∀ h ∈ l, ∀ s ∈ h.lines, s ∈ L) → ∀ h ∈ lastAdd l L[k], ∀ s ∈ h.lines, s ∈ L := by
        intro l hl h hh s hs
        by_cases h0 : l = []
        · subst h0; simp [lastAdd] at hh
        · obtain ⟨i, x, e1, e2⟩ := lastAdd_ne (s := L[k]) h0
          rw [e2] at hh
          rcases List.mem_append.1 hh with hh | hh
          · exact hl h (by rw [e1]; simp [hh]) s hs
          · rw [List.mem_singleton] at hh
            subst hh
            rcases List.mem_append.1 (show s ∈ x.lines ++ [L[k]] from hs) with hs | hs
            · exact hl x (by rw [e1]; simp) s hs
            · rw [List.mem_singleton] at hs
              subst hs
              exact List.getElem_mem hk
      unfold stepHs
      split
      · refine key _ ?_
        split
        · exact ih
        · intro h hh s hs
          rcases List.mem_append.1 hh with hh | hh
          · exact ih h hh s hs
          · rw [List.mem_singleton] at hh
            subst hh
            simp [newHunk] at hs
      · exact ih
    · have e : foldH L nb (k + 1) = foldH L nb k := by rw [foldH, List.getElem?_eq_none (by omega)]
      rw [e]
      exact ih
theorem linesB_sz {s x : ByteArray} (ht : isTextB s = true) (hx : x ∈ linesB s) : x.size ≤ s.size := by
  rw [← refOk_is] at ht
  rw [← refL_lines ht] at hx
  unfold refL at hx
  obtain ⟨l, hl, rfl⟩ := List.mem_map.1 hx
  have := (cut_size s.data.toList).2 l hl
  exact this
theorem way_texts (A B : List ByteArray) (N : Nat) (hA : ∀ x ∈ A, x.size ≤ N) (hB : ∀ x ∈ B, x.size ≤ N) : ∀ s ∈ Dn.wayM A B, s.kind < 256 ∧ s.text.size ≤ N := by
  intro s hs
  obtain ⟨h1, h2, h3⟩ := Dn.wayM_way A B
  have hk := h3 s hs
  refine ⟨by omega, ?_⟩
  by_cases hp : s.kind = 43
  · refine hB _ ?_
    rw [← h2]
    unfold Dn.newOf
    refine List.mem_map.2 ⟨s, List.mem_filter.2 ⟨hs, by simp [hp]⟩, rfl⟩
  · refine hA _ ?_
    rw [← h1]
    unfold Dn.oldOf
    refine List.mem_map.2 ⟨s, List.mem_filter.2 ⟨hs, by simp [hp]⟩, rfl⟩
theorem diffR_lim (a b : ByteArray) (c : Int) : Lim ((diffR a b c).map HI.ofM) := by
  have hsm := diffR_small a b c
  refine ⟨by rw [List.length_map]; have := hsm.1; omega, fun h hh => ?_⟩
  obtain ⟨m, hm, rfl⟩ := List.mem_map.1 hh
  have hl := hsm.2 m hm
  unfold diffR at hm
  by_cases hk : checkB a b c = 0
  · rw [if_pos hk] at hm
    have hl2 : (isTextB a = true ∧ isTextB b = true) ∧ largeB a = false ∧ largeB b = false := by
      unfold checkB at hk
      split at hk
      · simp at hk
      · rename_i d0
        split at hk
        · simp at hk
        · rename_i d
          simp at d d0
          exact ⟨d0, d⟩
    have hza : ∀ s : ByteArray, largeB s = false → s.size ≤ 8000 := fun s h => by
      unfold largeB at h
      simp at h
      exact h.1
    have n1 := linesB_few hl2.2.1
    have n2 := linesB_few hl2.2.2
    have hw := way_len (linesB a) (linesB b)
    have ht := way_texts (linesB a) (linesB b) 8000 (fun x hx => Nat.le_trans (linesB_sz hl2.1.1 hx) (hza a hl2.2.1)) (fun x hx => Nat.le_trans (linesB_sz hl2.1.2 hx) (hza b hl2.2.2))
    unfold diffM at hm
    generalize Dn.wayM (linesB a) (linesB b) = L at *
    have hb := foldH_bounds L (nearB L c.toNat) L.length
    unfold hunksM at hm
    obtain ⟨y, hy, rfl⟩ := List.mem_map.1 hm
    obtain ⟨b1, b2, b3, b4, b5⟩ := hb.2.2.2.1 y hy
    have f1 : (numL y).fr ≤ L.length + 1 := by unfold numL; simp only; split <;> omega
    have f2 : (numL y).tr ≤ L.length + 1 := by unfold numL; simp only; split <;> omega
    have f3 : (numL y).fc = y.fc := rfl
    have f4 : (numL y).tc = y.tc := rfl
    refine ⟨?_, ?_, ?_, ?_, ?_, fun s hs => ?_⟩
    · show (numL y).lines.length ≤ _; omega
    · show _ ≤ ((numL y).fr : Int) ∧ ((numL y).fr : Int) ≤ _; omega
    · show _ ≤ ((numL y).fc : Int) ∧ ((numL y).fc : Int) ≤ _; omega
    · show _ ≤ ((numL y).tr : Int) ∧ ((numL y).tr : Int) ≤ _; omega
    · show _ ≤ ((numL y).tc : Int) ∧ ((numL y).tc : Int) ≤ _; omega
    · have := ht s (foldH_mem L _ _ y hy s hs)
      omega
  · rw [if_neg hk] at hm
    simp at hm
theorem revA_small {hs : List HI} (hL : Lim hs) : (revA hs).1.length ≤ 300000 ∧ ∀ h ∈ (revA hs).1, h.lines.length ≤ 1048576 := by
  unfold revA
  split
  · refine ⟨by simp only [List.length_map]; exact hL.1, fun h hh => ?_⟩
    obtain ⟨x, hx, rfl⟩ := List.mem_map.1 hh
    have e : (revH x.toM).lines.length = x.lines.length := by
      show (revL x.toM.lines).length = _
      unfold revL
      rw [List.length_append]
      exact revF_len x.lines
    rw [e]
    exact (hL.2 x hx).1
  · exact ⟨by simp, by simp⟩
theorem revA_len (hs : List HI) : (revA hs).1.length ≤ hs.length := by
  unfold revA
  split
  · simp
  · simp
theorem writeA_size (hs : List HI) : (writeA hs).1.size ≤ 20000 := by
  unfold writeA
  split
  · split
    · rename_i h
      simpa [ByteArray.size] using h
    · simp [ByteArray.size]
  · simp [ByteArray.size]
end Go.Proofs.YtcclgodahlinbaaGreatDoor
namespace Go.Proofs.YtcclgodahlinbaaGreatDoor
open Go.RowKit Go
set_option maxRecDepth 100000
theorem dec_step {n : Nat} {s : List UInt8} (h : 1 ≤ n) : (if n = 0 then [] else Lib.decDigits n) ++ s = (if n / 10 = 0 then [] else Lib.decDigits (n / 10)) ++ (UInt8.ofNat (48 + n % 10) :: s) := by
  rw [if_neg (by omega)]
  by_cases h10 : n < 10
  · rw [Lib.decDigits, dif_pos h10, if_pos (by omega), show n % 10 = n by omega]
    rfl
  · rw [Lib.decDigits, dif_neg h10, if_neg (by omega)]
    simp
set_option maxHeartbeats 4000000 in
theorem digits_nat (N : Nat) (hN : N ≤ 100000) (w : World) : Calls Tryz.prog 122 #[.int .i64 (N : Int)] w fun e w' => e = .returned (.string (dcB N)) ∧ Below w.heap.size w w' := by
  go_enter Tryz.func122, Tryz.ntmps122
  go_wp2_with fail
  go_loopg [0, 3] (N + 1) (fun g t0 t3 wr => ∃ (n : Nat) (l : List UInt8), t0 = .int .i64 n ∧ n ≤ N ∧ t3 = .string ⟨l.toArray⟩ ∧ l.length ≤ 6 ∧ g = (if l = [] then n + 1 else n) ∧ Hid ((l = [] ∧ n = N) ∨ (l ≠ [] ∧ Lib.decDigits N = (if n = 0 then [] else Lib.decDigits n) ++ l)) ∧ Below w.heap.size w wr)
  case atStart => exact ⟨N, [], rfl, Nat.le_refl _, rfl, by simp, by simp, .inl ⟨rfl, rfl⟩, Below.refl _ _⟩
  case round =>
    obtain ⟨n, l, rfl, hnN, rfl, hl6, hgk, hI, hb⟩ := hrel
    have hG : Hid (gk = (if l = [] then n + 1 else n)) := hgk
    clear hgk
    have hz := hb.size
    have hgo : Hid (n = 0 → l = [] → N = 0) := by
      intro h1 h2
      rcases hI.out with ⟨_, e⟩ | ⟨e, _⟩
      · omega
      · exact absurd h2 e
    have hcv := conv_one (48 + n % 10) (by omega) wr
    push_cast at hcv
    have x1 : IntKind.i64.wrap (48 + (n : Int) % 10) = 48 + (n : Int) % 10 := by rw [IntKind.wrap_i64]; omega
    have x2 : IntKind.u8.wrap (48 + (n : Int) % 10) = 48 + (n : Int) % 10 := by rw [IntKind.wrap_u8]; omega
    have hba := hb.alloc hz (.cells #[.int .u8 (48 + (n : Int) % 10)] 5)
    have hcat : Hid ((⟨#[48 + UInt8.ofNat (n % 10)]⟩ : ByteArray) ++ ⟨l.toArray⟩ = ⟨(UInt8.ofNat (48 + n % 10) :: l).toArray⟩) := by
      show _ = _
      apply ByteArray.ext
      have : UInt8.ofNat (48 + n % 10) = 48 + UInt8.ofNat (n % 10) := by simp
      rw [this]
      simp [ByteArray.data_append]
    have hnew : Hid ((l = [] ∨ 1 ≤ n) → Lib.decDigits N = (if n / 10 = 0 then [] else Lib.decDigits (n / 10)) ++ (UInt8.ofNat (48 + n % 10) :: l)) := by
      intro hc
      rcases hI.out with ⟨e1, e2⟩ | ⟨e1, e2⟩
      · subst e1
        rw [← e2]
        by_cases h0 : n = 0
        · subst h0; rw [Lib.decDigits, dif_pos (by omega)]; rfl
        · have := dec_step (n := n) (s := []) (by omega)
          rw [if_neg h0] at this
          simpa using this
      · rw [e2]
        exact dec_step (by rcases hc with h | h; exact absurd h e1; exact h)
    have hlen : Hid ((l = [] ∨ 1 ≤ n) → (UInt8.ofNat (48 + n % 10) :: l).length ≤ 6) := by
      intro hc
      have h1 := congrArg List.length (hnew.out hc)
      rw [List.length_append] at h1
      have := dec_len hN
      omega
    have hsz : (⟨l.toArray⟩ : ByteArray).size ≤ 6 := by rw [size_mk]; exact hl6
    have hie : ((⟨l.toArray⟩ : ByteArray).toList == (⟨#[]⟩ : ByteArray).toList) = decide (l = []) := by
      rw [Lib.toList_data, Lib.toList_data]
      cases l with
      | nil => rfl
      | cons a l => simp
    by_cases hn : 0 < n
    · have hnI : (0 : Int) < n := by omega
      have hnx : Hid _ := hnew.out (.inr hn)
      have hlx := hlen.out (.inr hn)
      have hmes : Hid (n / 10 < gk) := by show _ < _; rw [hG.out]; split <;> omega
      clear hI hgo hnew hlen hG hie
      generalize hsl : (⟨l.toArray⟩ : ByteArray) = sl at *
      go_wp2_with fail
      go_roundg (n / 10)
      · exact ⟨n / 10, _, by push_cast; rfl, by omega, by rw [← hcat.out]; try rfl, hlx, by simp, .inr ⟨by simp, hnx.out⟩, hba⟩
      · exact hmes.out
    · have hn0 : n = 0 := by omega
      subst hn0
      have hnI : ¬ (0 : Int) < ((0 : Nat) : Int) := by omega
      by_cases he : l = []
      · have hd : decide (l = []) = true := decide_eq_true he
        rw [hd] at hie
        have hnx : Hid _ := hnew.out (.inl he)
        have hlx := hlen.out (.inl he)
        have hmes : Hid (0 < gk) := by show _ < _; rw [hG.out, if_pos he]; omega
        clear hI hgo hnew hlen hG hd he
        generalize hsl : (⟨l.toArray⟩ : ByteArray) = sl at *
        have hie2 : (sl.toList == []) = true := by rw [← hie]; rw [show (⟨#[]⟩ : ByteArray).toList = [] by rw [Lib.toList_data]]
        have hcv0 : (convert 72 9 (.slice (some ⟨wr.heap.size, 0, none⟩) 1 1)).run Tryz.prog (wr.alloc (.cells #[.int .u8 48] 5)) = .ok (.string ⟨#[48]⟩) (wr.alloc (.cells #[.int .u8 48] 5)) := conv_one 48 (by decide) wr
        go_wp2_with fail
        go_roundg 0
        · exact ⟨0, _, by push_cast; rfl, by omega, by rw [← hcat.out] <;> rfl, hlx, by simp, .inr ⟨by simp, hnx.out⟩, hba⟩
        · exact hmes.out
      · have hd : decide (l = []) = false := decide_eq_false he
        rw [hd] at hie
        have hF : Hid (dcB N = ⟨l.toArray⟩) := by
          show _ = _
          rcases hI.out with ⟨e1, _⟩ | ⟨_, e2⟩
          · exact absurd e1 he
          · unfold dcB; rw [e2]; rfl
        clear hI hgo hnew hlen hG hd he
        generalize hsl : (⟨l.toArray⟩ : ByteArray) = sl at *
        have hie2 : (sl.toList == []) = false := by rw [← hie]; rw [show (⟨#[]⟩ : ByteArray).toList = [] by rw [Lib.toList_data]]
        go_wp2_with fail
        go_ret
        exact ⟨by rw [hF.out]; try rfl, hb⟩
set_option maxHeartbeats 8000000 in
theorem refheader_nat {a b c d : Nat} (l1 : a ≤ 100000) (l2 : b ≤ 100000) (l3 : c ≤ 100000) (l4 : d ≤ 100000) (v : Value) (w : World) :
    Calls Tryz.prog 89 #[.agg #[.int .i64 (a : Int), .int .i64 (b : Int), .int .i64 (c : Int), .int .i64 (d : Int), v]] w fun e w' => e = .returned (.string (headB a b c d)) ∧ Below w.heap.size w w' := by
  have hB := heap_alloc_new w (.cells #[.int .i64 (a : Int), .int .i64 (b : Int), .int .i64 (c : Int), .int .i64 (d : Int), v] 61)
  have b0 := (Below.refl w.heap.size w).alloc (Nat.le_refl _) (.cells #[.int .i64 (a : Int), .int .i64 (b : Int), .int .i64 (c : Int), .int .i64 (d : Int), v] 61)
  have hz : (w.alloc (.cells #[.int .i64 (a : Int), .int .i64 (b : Int), .int .i64 (c : Int), .int .i64 (d : Int), v] 61)).heap.size = w.heap.size + 1 := by simp
  have z1 := dcB_size l1
  have z2 := dcB_size l2
  have z3 := dcB_size l3
  have z4 := dcB_size l4
  rw [headB_dc]
  have s1 : Hid (∀ w1, Calls Tryz.prog 122 #[.int .i64 (a : Int)] w1 fun e w' => ∃ v, e = .returned v ∧ (v = .string (dcB a) ∧ Below w1.heap.size w1 w')) := fun w1 => (digits_nat a l1 w1).mono fun e w' h => ⟨_, h.1, rfl, h.2⟩
  have s2 : Hid (∀ w1, Calls Tryz.prog 122 #[.int .i64 (b : Int)] w1 fun e w' => ∃ v, e = .returned v ∧ (v = .string (dcB b) ∧ Below w1.heap.size w1 w')) := fun w1 => (digits_nat b l2 w1).mono fun e w' h => ⟨_, h.1, rfl, h.2⟩
  have s3 : Hid (∀ w1, Calls Tryz.prog 122 #[.int .i64 (c : Int)] w1 fun e w' => ∃ v, e = .returned v ∧ (v = .string (dcB c) ∧ Below w1.heap.size w1 w')) := fun w1 => (digits_nat c l3 w1).mono fun e w' h => ⟨_, h.1, rfl, h.2⟩
  have s4 : Hid (∀ w1, Calls Tryz.prog 122 #[.int .i64 (d : Int)] w1 fun e w' => ∃ v, e = .returned v ∧ (v = .string (dcB d) ∧ Below w1.heap.size w1 w')) := fun w1 => (digits_nat d l4 w1).mono fun e w' h => ⟨_, h.1, rfl, h.2⟩
  generalize dcB a = p1 at *
  generalize dcB b = p2 at *
  generalize dcB c = p3 at *
  generalize dcB d = p4 at *
  obtain ⟨S, hS⟩ : ∃ S : ByteArray, ⟨#[64, 64, 32, 45]⟩ ++ p1 ++ ⟨#[44]⟩ ++ p2 ++ ⟨#[32, 43]⟩ ++ p3 ++ ⟨#[44]⟩ ++ p4 ++ ⟨#[32, 64, 64]⟩ = S := ⟨_, rfl⟩
  rw [hS]
  have hSH : Hid (⟨#[64, 64, 32, 45]⟩ ++ p1 ++ ⟨#[44]⟩ ++ p2 ++ ⟨#[32, 43]⟩ ++ p3 ++ ⟨#[44]⟩ ++ p4 ++ ⟨#[32, 64, 64]⟩ = S) := hS
  clear hS
  go_enter Tryz.func89, Tryz.ntmps89
  go_wp2_with fail
  generalize w.alloc (.cells #[.int .i64 (a : Int), .int .i64 (b : Int), .int .i64 (c : Int), .int .i64 (d : Int), v] 61) = W at *
  have hW : Below w.heap.size w W.drew := b0.drew
  have hlt : w.heap.size < W.drew.heap.size := by show w.heap.size < W.heap.size; omega
  have hI0 : W.drew.heap[w.heap.size]? = some (.cells #[.int .i64 (a : Int), .int .i64 (b : Int), .int .i64 (c : Int), .int .i64 (d : Int), v] 61 (0, 0)) := hB
  clear hB b0 hz
  refine wp_region_any mixed (wpKind.any (I := fun w' => w'.heap[w.heap.size]? = some (.cells #[.int .i64 (a : Int), .int .i64 (b : Int), .int .i64 (c : Int), .int .i64 (d : Int), v] 61 (0, 0))) ?_)
  refine wpKind_take (i := 0) (n := 20) (v := .pointer (some ⟨w.heap.size, 0, none⟩)) rfl (by kernel_rfl) (by kernel_rfl) (by kernel_rfl) (fun c a w h => h) ⟨by simp [Region.wanted], fun w' hw => ?_⟩ ?_
  · simp [execOp, go_sem, Act.eval]
  refine wpKind_take (i := 1) (n := 19) (v := .int .i64 (a : Int)) rfl (by kernel_rfl) (by kernel_rfl) (by kernel_rfl) (fun c a w h => h) ⟨by simp [Region.wanted], fun w' hw => ?_⟩ ?_
  · have hc : w'.cell? ⟨w.heap.size, 0, none⟩ = some (.int .i64 (a : Int)) := cell_of (k := 0) hw rfl; simp [execOp, go_sem, Act.eval, Act.put, hc]
  refine wpKind_take (i := 5) (n := 18) (v := .pointer (some ⟨w.heap.size, 1, none⟩)) rfl (by kernel_rfl) (by kernel_rfl) (by kernel_rfl) (fun c a w h => h) ⟨by simp [Region.wanted], fun w' hw => ?_⟩ ?_
  · simp [execOp, go_sem, Act.eval, Act.put]
  refine wpKind_take (i := 6) (n := 17) (v := .int .i64 (b : Int)) rfl (by kernel_rfl) (by kernel_rfl) (by kernel_rfl) (fun c a w h => h) ⟨by simp [Region.wanted], fun w' hw => ?_⟩ ?_
  · have hc : w'.cell? ⟨w.heap.size, 1, none⟩ = some (.int .i64 (b : Int)) := cell_of (k := 1) hw rfl; simp [execOp, go_sem, Act.eval, Act.put, hc]
  refine wpKind_take (i := 10) (n := 16) (v := .pointer (some ⟨w.heap.size, 2, none⟩)) rfl (by kernel_rfl) (by kernel_rfl) (by kernel_rfl) (fun c a w h => h) ⟨by simp [Region.wanted], fun w' hw => ?_⟩ ?_
  · simp [execOp, go_sem, Act.eval, Act.put]
  refine wpKind_take (i := 11) (n := 15) (v := .int .i64 (c : Int)) rfl (by kernel_rfl) (by kernel_rfl) (by kernel_rfl) (fun c a w h => h) ⟨by simp [Region.wanted], fun w' hw => ?_⟩ ?_
  · have hc : w'.cell? ⟨w.heap.size, 2, none⟩ = some (.int .i64 (c : Int)) := cell_of (k := 2) hw rfl; simp [execOp, go_sem, Act.eval, Act.put, hc]
  refine wpKind_take (i := 15) (n := 14) (v := .pointer (some ⟨w.heap.size, 3, none⟩)) rfl (by kernel_rfl) (by kernel_rfl) (by kernel_rfl) (fun c a w h => h) ⟨by simp [Region.wanted], fun w' hw => ?_⟩ ?_
  · simp [execOp, go_sem, Act.eval, Act.put]
  refine wpKind_take (i := 16) (n := 13) (v := .int .i64 (d : Int)) rfl (by kernel_rfl) (by kernel_rfl) (by kernel_rfl) (fun c a w h => h) ⟨by simp [Region.wanted], fun w' hw => ?_⟩ ?_
  · have hc : w'.cell? ⟨w.heap.size, 3, none⟩ = some (.int .i64 (d : Int)) := cell_of (k := 3) hw rfl; simp [execOp, go_sem, Act.eval, Act.put, hc]
  refine wpKind_one (i := 2) (n := 12) hI0 (by kernel_rfl) ?_
  refine wpOp_call rfl rfl 122 _ _ rfl #[.int .i64 (a : Int)] (by simp [Act.eval, Act.put]) (run_digits _ _) (fun v w' => v = .string p1 ∧ Below W.drew.heap.size W.drew w') (s1.out _) ?_
  rintro v1 W1 ⟨rfl, hb1⟩
  have hI1 := (hb1.block w.heap.size hlt).trans hI0
  have hW1 := hW.trans (hb1.mono hW.size)
  replace hlt : w.heap.size < W1.heap.size := by have := hb1.size; omega
  refine wpKind_take (i := 3) (n := 11) (v := .string (⟨#[64, 64, 32, 45]⟩ ++ p1)) rfl (by kernel_rfl) (by kernel_rfl) (by kernel_rfl) (fun c a w h => h) ⟨by simp [Region.wanted], fun w' hw => ?_⟩ ?_
  · have k1 : ¬ 9223372036854775807 < 4 + p1.size := (by omega); simp [execOp, go_sem, Act.eval, Act.put, k1]
  refine wpKind_take (i := 4) (n := 10) (v := .string (⟨#[64, 64, 32, 45]⟩ ++ p1 ++ ⟨#[44]⟩)) rfl (by kernel_rfl) (by kernel_rfl) (by kernel_rfl) (fun c a w h => h) ⟨by simp [Region.wanted], fun w' hw => ?_⟩ ?_
  · have k1 : ¬ 9223372036854775807 < 4 + p1.size + 1 := (by omega); simp [execOp, go_sem, Act.eval, Act.put, k1]
  refine wpKind_one (i := 7) (n := 9) hI1 (by kernel_rfl) ?_
  refine wpOp_call rfl rfl 122 _ _ rfl #[.int .i64 (b : Int)] (by simp [Act.eval, Act.put]) (run_digits _ _) (fun v w' => v = .string p2 ∧ Below W1.heap.size W1 w') (s2.out _) ?_
  rintro v2 W2 ⟨rfl, hb2⟩
  have hI2 := (hb2.block w.heap.size hlt).trans hI1
  have hW2 := hW1.trans (hb2.mono hW1.size)
  replace hlt : w.heap.size < W2.heap.size := by have := hb2.size; omega
  refine wpKind_take (i := 8) (n := 8) (v := .string (⟨#[64, 64, 32, 45]⟩ ++ p1 ++ ⟨#[44]⟩ ++ p2)) rfl (by kernel_rfl) (by kernel_rfl) (by kernel_rfl) (fun c a w h => h) ⟨by simp [Region.wanted], fun w' hw => ?_⟩ ?_
  · have k1 : ¬ 9223372036854775807 < 4 + p1.size + 1 + p2.size := (by omega); simp [execOp, go_sem, Act.eval, Act.put, k1]
  refine wpKind_take (i := 9) (n := 7) (v := .string (⟨#[64, 64, 32, 45]⟩ ++ p1 ++ ⟨#[44]⟩ ++ p2 ++ ⟨#[32, 43]⟩)) rfl (by kernel_rfl) (by kernel_rfl) (by kernel_rfl) (fun c a w h => h) ⟨by simp [Region.wanted], fun w' hw => ?_⟩ ?_
  · have k1 : ¬ 9223372036854775807 < 4 + p1.size + 1 + p2.size + 2 := (by omega); simp [execOp, go_sem, Act.eval, Act.put, k1]
  refine wpKind_one (i := 12) (n := 6) hI2 (by kernel_rfl) ?_
  refine wpOp_call rfl rfl 122 _ _ rfl #[.int .i64 (c : Int)] (by simp [Act.eval, Act.put]) (run_digits _ _) (fun v w' => v = .string p3 ∧ Below W2.heap.size W2 w') (s3.out _) ?_
  rintro v3 W3 ⟨rfl, hb3⟩
  have hI3 := (hb3.block w.heap.size hlt).trans hI2
  have hW3 := hW2.trans (hb3.mono hW2.size)
  replace hlt : w.heap.size < W3.heap.size := by have := hb3.size; omega
  refine wpKind_take (i := 13) (n := 5) (v := .string (⟨#[64, 64, 32, 45]⟩ ++ p1 ++ ⟨#[44]⟩ ++ p2 ++ ⟨#[32, 43]⟩ ++ p3)) rfl (by kernel_rfl) (by kernel_rfl) (by kernel_rfl) (fun c a w h => h) ⟨by simp [Region.wanted], fun w' hw => ?_⟩ ?_
  · have k1 : ¬ 9223372036854775807 < 4 + p1.size + 1 + p2.size + 2 + p3.size := (by omega); simp [execOp, go_sem, Act.eval, Act.put, k1]
  refine wpKind_take (i := 14) (n := 4) (v := .string (⟨#[64, 64, 32, 45]⟩ ++ p1 ++ ⟨#[44]⟩ ++ p2 ++ ⟨#[32, 43]⟩ ++ p3 ++ ⟨#[44]⟩)) rfl (by kernel_rfl) (by kernel_rfl) (by kernel_rfl) (fun c a w h => h) ⟨by simp [Region.wanted], fun w' hw => ?_⟩ ?_
  · have k1 : ¬ 9223372036854775807 < 4 + p1.size + 1 + p2.size + 2 + p3.size + 1 := (by omega); simp [execOp, go_sem, Act.eval, Act.put, k1]
  refine wpKind_one (i := 17) (n := 3) hI3 (by kernel_rfl) ?_
  refine wpOp_call rfl rfl 122 _ _ rfl #[.int .i64 (d : Int)] (by simp [Act.eval, Act.put]) (run_digits _ _) (fun v w' => v = .string p4 ∧ Below W3.heap.size W3 w') (s4.out _) ?_
  rintro v4 W4 ⟨rfl, hb4⟩
  have hI4 := (hb4.block w.heap.size hlt).trans hI3
  have hW4 := hW3.trans (hb4.mono hW3.size)
  replace hlt : w.heap.size < W4.heap.size := by have := hb4.size; omega
  refine wpKind_take (i := 18) (n := 2) (v := .string (⟨#[64, 64, 32, 45]⟩ ++ p1 ++ ⟨#[44]⟩ ++ p2 ++ ⟨#[32, 43]⟩ ++ p3 ++ ⟨#[44]⟩ ++ p4)) rfl (by kernel_rfl) (by kernel_rfl) (by kernel_rfl) (fun c a w h => h) ⟨by simp [Region.wanted], fun w' hw => ?_⟩ ?_
  · have k1 : ¬ 9223372036854775807 < 4 + p1.size + 1 + p2.size + 2 + p3.size + 1 + p4.size := (by omega); simp [execOp, go_sem, Act.eval, Act.put, k1]
  refine wpKind_take (i := 19) (n := 1) (v := .string S) rfl (by kernel_rfl) (by kernel_rfl) (by kernel_rfl) (fun c a w h => h) ⟨by simp [Region.wanted], fun w' hw => ?_⟩ ?_
  · have k1 : ¬ 9223372036854775807 < 4 + p1.size + 1 + p2.size + 2 + p3.size + 1 + p4.size + 3 := (by omega); have k2 : ⟨#[64, 64, 32, 45]⟩ ++ p1 ++ ⟨#[44]⟩ ++ p2 ++ ⟨#[32, 43]⟩ ++ p3 ++ ⟨#[44]⟩ ++ p4 ++ ⟨#[32, 64, 64]⟩ = S := hSH.out; simp [execOp, go_sem, Act.eval, Act.put, k1, k2]
  refine wpKind_take (i := 20) (n := 0) (v := .string S) rfl (by kernel_rfl) (by kernel_rfl) (by kernel_rfl) (fun c a w h => h) ⟨by simp [Region.wanted], fun w' hw => ?_⟩ ?_
  · simp [execOp, go_sem, Act.eval, Act.put]
  refine wpKind_done hI4 (by kernel_rfl) ?_
  go_wp2_with fail
  refine bodyPost_ret (v := .string S) ?_ rfl ⟨rfl, hW4⟩
  simp [results, Tryz.results89, go_sem, Act.put]
end Go.Proofs.YtcclgodahlinbaaGreatDoor
namespace Go.Proofs.YtcclgodahlinbaaGreatDoor
open Go.RowKit Go
set_option maxRecDepth 100000
theorem headI_len {h : HI} (h1 : numOk h.fr h.fc = true) (h2 : numOk h.tr h.tc = true) : (headI h).length ≤ 35 := by
  obtain ⟨a, b, c, d, n⟩ := nums_of h1 h2
  rw [headI_nat n]
  exact headL_len n.l1 n.l2 n.l3 n.l4
theorem linesL_len (L : List StepB) (X : Nat) (h : ∀ s ∈ L, s.text.size ≤ X) : (linesL L).length ≤ (X + 2) * L.length := by
  induction L with
  | nil => simp [linesL]
  | cons s L ih =>
    have h1 := h s (by simp)
    have h2 := ih fun x hx => h x (by simp [hx])
    have h3 := lineL_len s
    have e : linesL (s :: L) = lineL s ++ linesL L := by simp [linesL]
    rw [e, List.length_append, List.length_cons, Nat.mul_succ]
    omega
theorem writeI_len (hs : List HI) (hL : Lim hs) (hN : NumsOk hs) : ∀ k, k ≤ hs.length → (writeI (hs.take k)).length ≤ 1099515822080 * k := by
  intro k
  induction k with
  | zero => intro _; simp [writeI]
  | succ k ih =>
    intro hk
    have h0 := ih (by omega)
    have hk' : k < hs.length := by omega
    rw [writeI_take hk', List.length_append]
    obtain ⟨l1, -, -, -, -, l2⟩ := hL.2 _ (List.getElem_mem hk')
    obtain ⟨n1, n2⟩ := hN _ (List.getElem_mem hk')
    have h1 := headI_len n1 n2
    have h2 := linesL_len hs[k].lines 1048576 fun s hs => (l2 s hs).2
    have h3 : (1048576 + 2) * hs[k].lines.length ≤ (1048576 + 2) * 1048576 := Nat.mul_le_mul_left _ l1
    have e : (hunkL hs[k]).length = (headI hs[k]).length + 1 + (linesL hs[k].lines).length := by unfold hunkL; simp [List.length_append]; omega
    omega
set_option maxHeartbeats 16000000 in
theorem refWrite_any {hs : List HI} {a : Option Addr} {cap : Nat} {w : World} (hH : HIAt w.heap.size w (.slice a hs.length cap) hs) (hL : Lim hs) :
    Calls Tryz.prog 43 #[.agg #[.slice a hs.length cap]] w fun e w' => e = .returned (.tuple #[.string (writeA hs).1, .int .i64 (writeA hs).2]) ∧ Below w.heap.size w w' := by
  have hb0 := (Below.refl w.heap.size w).alloc (Nat.le_refl _) (.cells #[.slice a hs.length cap] 32)
  have hB0 := heap_alloc_new w (.cells #[.slice a hs.length cap] 32)
  have hz0 : (w.alloc (.cells #[.slice a hs.length cap] 32)).heap.size = w.heap.size + 1 := by simp
  have y0 := cell_of (k := 0) hB0 rfl
  have hir := refRight_any ((hH.below hb0).mono (by omega : w.heap.size ≤ (w.alloc (.cells #[.slice a hs.length cap] 32)).heap.size)) hL
  cases hr : rightI 0 0 hs with
  | false =>
    have hA : writeA hs = (⟨#[]⟩, 4) := by unfold writeA; rw [hr]; rfl
    rw [hA]
    rw [hr] at hir
    clear hA hr
    go_enter Tryz.func43, Tryz.ntmps43
    go_wp2_with fail
    generalize w.alloc (.cells #[.slice a hs.length cap] 32) = W0 at *
    refine hir.mono ?_
    rintro e w1 ⟨rfl, hb1⟩
    go_wp2_with fail
    go_ret2
    exact ⟨rfl, hb0.trans (hb1.mono (by omega))⟩
  | true =>
    have hN : NumsOk hs := fun h hh => ⟨(right_all hr h hh).1, (right_all hr h hh).2.1⟩
    have hA : writeA hs = (if (writeI hs).length ≤ 20000 then (⟨(writeI hs).toArray⟩, 0) else (⟨#[]⟩, 1)) := by unfold writeA; rw [hr]; rfl
    rw [hA]
    rw [hr] at hir
    clear hA hr
    have hwl := writeI_len hs hL hN
    obtain ⟨hL1, hL2⟩ := hL
    go_enter Tryz.func43, Tryz.ntmps43
    go_wp2_with fail
    generalize w.alloc (.cells #[.slice a hs.length cap] 32) = W0 at *
    refine hir.mono ?_
    rintro e W1 ⟨rfl, hb1⟩
    have hbW1 := hb0.trans (hb1.mono (by omega))
    have hB1 := (hb1.block w.heap.size (by omega)).trans hB0
    have hz1 : w.heap.size < W1.heap.size := by have := hb1.size; omega
    clear hir hb1 hB0 y0
    go_wp2_with fail
    go_loopg [5, 6] hs.length (fun g t5 t6 wr => ∃ k : Nat, g = hs.length - k ∧ k ≤ hs.length ∧ t5 = .int .i64 ((writeI (hs.take k)).length : Nat) ∧ t6 = .int .i64 k ∧ Below W1.heap.size W1 wr)
    case atStart => exact ⟨0, by omega, by omega, rfl, rfl, Below.refl _ _⟩
    case round =>
      obtain ⟨k, hgk, hkl, rfl, rfl, hbel⟩ := hrel
      have hG : Hid (gk = hs.length - k) := hgk
      clear hgk
      have hsz := hbel.size
      have hbw := hbW1.trans (hbel.mono (by omega))
      have p0 : wr.cell? ⟨w.heap.size, 0, none⟩ = some (.slice a hs.length cap) := cell_of ((hbel.block w.heap.size (by omega)).trans hB1) rfl
      have hn0 := hwl k hkl
      by_cases hk : k < hs.length
      · have hkI : (k : Int) < hs.length := by omega
        obtain ⟨b, off, a', c', rfl, hbB, r0, r1, r2, r3, r4, hst⟩ := (hH.below hbw).at hk
        obtain ⟨l1, -, -, -, -, l2⟩ := hL2 _ (List.getElem_mem hk)
        obtain ⟨n1, n2⟩ := hN _ (List.getElem_mem hk)
        obtain ⟨A, B, C, D, hnn⟩ := nums_of n1 n2
        have hwt : Hid ((writeI (hs.take (k + 1))).length = (writeI (hs.take k)).length + (headB A B C D).size + 1 + (linesL hs[k].lines).length) := by
          show _ = _
          rw [writeI_take hk, List.length_append]
          unfold hunkL headB
          rw [headI_nat hnn, size_mk]
          simp [List.length_append]
          omega
        have hll := linesL_len hs[k].lines 1048576 fun s hs => (l2 s hs).2
        have hll2 : Hid (∀ j, (linesL (hs[k].lines.take j)).length ≤ (linesL hs[k].lines).length) := linesL_le _
        generalize hs[k] = h at *
        rw [hnn.e1] at r0
        rw [hnn.e2] at r1
        rw [hnn.e3] at r2
        rw [hnn.e4] at r3
        have hhd := refheader_nat hnn.l1 hnn.l2 hnn.l3 hnn.l4 (.slice a' h.lines.length c') wr
        have hhz := headB_size hnn.l1 hnn.l2 hnn.l3 hnn.l4
        have hM : (linesL h.lines).length ≤ 1099513724928 := Nat.le_trans hll (Nat.le_trans (Nat.mul_le_mul_left _ l1) (by decide))
        clear hll n1 n2 hnn
        generalize headB A B C D = hb at *
        generalize (writeI (hs.take k)).length = N at *
        go_wp2_with fail
        refine hhd.mono ?_
        rintro e U ⟨rfl, hbU⟩
        have hzU := hbU.size
        have p0' : U.cell? ⟨w.heap.size, 0, none⟩ = some (.slice (some ⟨b, off, none⟩) hs.length cap) := (hbU.cell (p := ⟨w.heap.size, 0, none⟩) (by show w.heap.size < _; omega)).trans p0
        have r4' : U.cell? ⟨b, off + k * 5 + 4, none⟩ = some (.slice a' h.lines.length c') := (hbU.cell (p := ⟨b, off + k * 5 + 4, none⟩) (by show b < _; omega)).trans r4
        have hst' := hst.below (hbU.mono (by omega))
        have hbU1 := hbel.trans (hbU.mono (by omega))
        clear p0 r0 r1 r2 r3 r4 hst hhd
        go_wp2_with fail
        go_loopg [5, 7] h.lines.length (fun g t5 t7 wi => ∃ j : Nat, g = h.lines.length - j ∧ j ≤ h.lines.length ∧ t5 = .int .i64 ((N + hb.size + 1 + (linesL (h.lines.take j)).length : Nat) : Int) ∧ t7 = .int .i64 j ∧ wi = U)
        case atStart => exact ⟨0, by omega, by omega, by simp [linesL], rfl, rfl⟩
        case round =>
          obtain ⟨j, hgj, hjl, rfl, rfl, rfl⟩ := hrel
          have hGj : Hid (_ = h.lines.length - j) := hgj
          clear hgj
          by_cases hj : j < h.lines.length
          · have hjI : (j : Int) < h.lines.length := by omega
            obtain ⟨bb, off2, rfl, hbB2, s0, s1⟩ := hst'.at hj
            have hJ : Hid ((linesL (h.lines.take (j + 1))).length = (linesL (h.lines.take j)).length + h.lines[j].text.size + 2) := by
              show _ = _
              rw [linesL_take hj, List.length_append, lineL_len]
              omega
            obtain ⟨m1, m2⟩ := l2 _ (List.getElem_mem hj)
            have hJl := hll2.out j
            generalize h.lines[j] = sx at *
            generalize hNN : N + hb.size + 1 + (linesL (h.lines.take j)).length = NN at *
            have hNb : NN ≤ 400000000000000000 := by omega
            have hNH : Hid (N + hb.size + 1 + (linesL (h.lines.take j)).length = NN) := hNN
            clear hNN
            go_wp2_with fail
            go_roundg (h.lines.length - (j + 1))
            · refine ⟨j + 1, rfl, by omega, ?_, by push_cast; rfl, rfl⟩
              rw [hJ.out, show N + hb.size + 1 + ((linesL (h.lines.take j)).length + sx.text.size + 2) = NN + sx.text.size + 2 by rw [← hNH.out]; omega]
              push_cast
              rfl
            · have := hGj.out; omega
          · have hjI : ¬ ((j : Int) < h.lines.length) := by omega
            have hE : Hid (h.lines.take j = h.lines) := List.take_of_length_le (by omega)
            go_wp2_with fail
            go_roundg (hs.length - (k + 1))
            · exact ⟨k + 1, rfl, by omega, by rw [hwt.out, hE.out]; push_cast; rfl, by push_cast; rfl, hbU1⟩
            · have := hG.out; omega
      · have hkI : ¬ ((k : Int) < hs.length) := by omega
        have hE : hs.take k = hs := List.take_of_length_le (by omega)
        rw [hE] at hn0 ⊢
        by_cases hl : (writeI hs).length ≤ 20000
        · have hlI : ¬ (20000 : Int) < ((writeI hs).length : Nat) := by omega
          have hwp : Hid (∀ k, (writeI (hs.take k)).length ≤ 20000) := fun k => Nat.le_trans (writeI_le hs k) hl
          have hlH : Hid ((writeI hs).length ≤ 20000) := hl
          clear hl hn0 hwl
          go_wp2_with fail
          go_loopg [8, 9] hs.length (fun g t8 t9 wq => ∃ k : Nat, g = hs.length - k ∧ k ≤ hs.length ∧ t8 = .string ⟨(writeI (hs.take k)).toArray⟩ ∧ t9 = .int .i64 k ∧ Below wr.heap.size wr wq)
          case atStart => exact ⟨0, by omega, by omega, rfl, rfl, Below.refl _ _⟩
          case round =>
            rename World => wq
            obtain ⟨k2, hgk2, hkl2, rfl, rfl, hbq⟩ := hrel
            have hG2 : Hid (_ = hs.length - k2) := hgk2
            clear hgk2
            have hszq := hbq.size
            have hbwq := hbw.trans (hbq.mono (by omega))
            have p0q : wq.cell? ⟨w.heap.size, 0, none⟩ = some (.slice a hs.length cap) := (hbq.cell (p := ⟨w.heap.size, 0, none⟩) (by show w.heap.size < _; omega)).trans p0
            by_cases hk2 : k2 < hs.length
            · have hkI2 : (k2 : Int) < hs.length := by omega
              obtain ⟨b, off, a', c', rfl, hbB, r0, r1, r2, r3, r4, hst⟩ := (hH.below hbwq).at hk2
              obtain ⟨l1, -, -, -, -, l2⟩ := hL2 _ (List.getElem_mem hk2)
              obtain ⟨n1, n2⟩ := hN _ (List.getElem_mem hk2)
              obtain ⟨A, B, C, D, hnn⟩ := nums_of n1 n2
              have hwt : Hid (writeI (hs.take (k2 + 1)) = writeI (hs.take k2) ++ (headL A B C D ++ [10]) ++ linesL hs[k2].lines) := by
                show _ = _
                rw [writeI_take hk2]
                unfold hunkL
                rw [headI_nat hnn]
                simp
              have hwb := hwp.out k2
              have hwb2 : Hid _ := hwp.out (k2 + 1)
              generalize hs[k2] = h at *
              rw [hnn.e1] at r0
              rw [hnn.e2] at r1
              rw [hnn.e3] at r2
              rw [hnn.e4] at r3
              have hB2 := heap_alloc_new wq (.cells #[.int .i64 (A : Int), .int .i64 (B : Int), .int .i64 (C : Int), .int .i64 (D : Int), .slice a' h.lines.length c'] 61)
              have q2 := (Below.refl wq.heap.size wq).alloc (Nat.le_refl _) (.cells #[.int .i64 (A : Int), .int .i64 (B : Int), .int .i64 (C : Int), .int .i64 (D : Int), .slice a' h.lines.length c'] 61)
              have hz2 : (wq.alloc (.cells #[.int .i64 (A : Int), .int .i64 (B : Int), .int .i64 (C : Int), .int .i64 (D : Int), .slice a' h.lines.length c'] 61)).heap.size = wq.heap.size + 1 := by simp
              have hhd := refheader_nat hnn.l1 hnn.l2 hnn.l3 hnn.l4 (.slice a' h.lines.length c') (wq.alloc (.cells #[.int .i64 (A : Int), .int .i64 (B : Int), .int .i64 (C : Int), .int .i64 (D : Int), .slice a' h.lines.length c'] 61))
              have hhz := headB_size hnn.l1 hnn.l2 hnn.l3 hnn.l4
              have hhe : Hid ((⟨(writeI (hs.take k2)).toArray⟩ : ByteArray) ++ headB A B C D ++ ⟨#[10]⟩ = ⟨(writeI (hs.take k2) ++ (headL A B C D ++ [10])).toArray⟩) := by
                show _ = _
                unfold headB
                apply ByteArray.ext
                simp [ByteArray.data_append]
              have hsz1 : (⟨(writeI (hs.take k2)).toArray⟩ : ByteArray).size ≤ 20000 := by rw [size_mk]; exact hwb
              have hT2l : Hid ((writeI (hs.take k2) ++ (headL A B C D ++ [10])).length + (linesL h.lines).length ≤ 20000) := by
                have := hwb2.out
                rw [hwt.out, List.length_append] at this
                exact this
              have hll2 : Hid (∀ j, (linesL (h.lines.take j)).length ≤ (linesL h.lines).length) := linesL_le _
              clear n1 n2 hnn hwb2
              generalize writeI (hs.take k2) = T at *
              generalize headB A B C D = hb at *
              go_wp2_with fail
              generalize wq.alloc (.cells #[.int .i64 (A : Int), .int .i64 (B : Int), .int .i64 (C : Int), .int .i64 (D : Int), .slice a' h.lines.length c'] 61) = V at *
              refine hhd.mono ?_
              rintro e U ⟨rfl, hbU⟩
              have hzU := hbU.size
              have hBU := (hbU.block wq.heap.size (by omega)).trans hB2
              have hbqU := (q2.trans (hbU.mono (by omega)))
              have hst' := hst.below (hbqU.mono (by have := hbwq.size; omega))
              clear p0q r0 r1 r2 r3 r4 hst hhd hB2
              generalize hT2 : T ++ (headL A B C D ++ [10]) = T2 at *
              clear hT2
              generalize hM : h.lines = M at *
              clear hM
              go_wp2_with fail
              rw [hhe.out]
              have hT2z : T2 = T2 ++ linesL (M.take 0) := by simp [linesL]
              rw [hT2z]
              clear hhe hsz1 hwb hhz hT2z
              go_loopg [8, 11] M.length (fun g t8 t11 wi => ∃ j : Nat, g = M.length - j ∧ j ≤ M.length ∧ t8 = .string ⟨(T2 ++ linesL (M.take j)).toArray⟩ ∧ t11 = .int .i64 j ∧ Below U.heap.size U wi)
              case atStart => exact ⟨0, by omega, by omega, rfl, rfl, Below.refl _ _⟩
              case round =>
                rename World => wi
                obtain ⟨j, hgj, hjl, rfl, rfl, hbi⟩ := hrel
                have hGj : Hid (_ = M.length - j) := hgj
                clear hgj
                have hszi := hbi.size
                have x4 : wi.cell? ⟨wq.heap.size, 4, none⟩ = some (.slice a' M.length c') := cell_of ((hbi.block wq.heap.size (by omega)).trans hBU) rfl
                by_cases hj : j < M.length
                · have hjI : (j : Int) < M.length := by omega
                  obtain ⟨bb, off2, rfl, hbB2, s0, s1⟩ := (hst'.below (hbi.mono (by have := hbwq.size; omega))).at hj
                  obtain ⟨m1, m2⟩ := l2 _ (List.getElem_mem hj)
                  have hJ : Hid (linesL (M.take (j + 1)) = linesL (M.take j) ++ lineL M[j]) := linesL_take hj
                  have hJb : (T2 ++ linesL (M.take j)).length + M[j].text.size + 2 ≤ 20000 := by
                    have h1 := hT2l.out
                    have h2 := hll2.out (j + 1)
                    rw [hJ.out, List.length_append, lineL_len] at h2
                    rw [List.length_append]
                    omega
                  have hJe : Hid (lineL M[j] = UInt8.ofNat M[j].kind :: (M[j].text.data.toList ++ [10])) := rfl
                  generalize M[j] = sx at *
                  have hfin : Hid ((⟨(T2 ++ linesL (M.take j)).toArray⟩ : ByteArray) ++ ⟨#[UInt8.ofNat sx.kind]⟩ ++ sx.text ++ ⟨#[10]⟩ = ⟨(T2 ++ linesL (M.take (j + 1))).toArray⟩) := by
                    show _ = _
                    rw [hJ.out, hJe.out]
                    apply ByteArray.ext
                    simp [ByteArray.data_append]
                  have hsT : (⟨(T2 ++ linesL (M.take j)).toArray⟩ : ByteArray).size = (T2 ++ linesL (M.take j)).length := size_mk _
                  generalize (⟨(T2 ++ linesL (M.take j)).toArray⟩ : ByteArray) = sT at *
                  obtain ⟨S, hS⟩ : ∃ S : ByteArray, (⟨(T2 ++ linesL (M.take (j + 1))).toArray⟩ : ByteArray) = S := ⟨_, rfl⟩
                  have hSH : Hid ((⟨(T2 ++ linesL (M.take (j + 1))).toArray⟩ : ByteArray) = S) := hS
                  rw [hS] at hfin
                  clear hS hJ hJe
                  have hcv := conv_one sx.kind m1 wi.drew
                  have hkz : (⟨#[UInt8.ofNat sx.kind]⟩ : ByteArray).size = 1 := rfl
                  have hI0 : wi.drew.cell? ⟨wq.heap.size, 4, none⟩ = some (.slice (some ⟨bb, off2, none⟩) M.length c') ∧ wi.drew.cell? ⟨bb, off2 + j * 2, none⟩ = some (.int .u8 (sx.kind : Nat)) ∧ wi.drew.cell? ⟨bb, off2 + j * 2 + 1, none⟩ = some (.string sx.text) := ⟨x4, s0, s1⟩
                  have hbb : bb < wi.heap.size := by have := hbwq.size; omega
                  have hq : wq.heap.size < wi.heap.size := by omega
                  go_wp2_with fail
                  refine wp_region_any mixed (wpKind.any (I := fun w' => w'.cell? ⟨wq.heap.size, 4, none⟩ = some (.slice (some ⟨bb, off2, none⟩) M.length c') ∧ w'.cell? ⟨bb, off2 + j * 2, none⟩ = some (.int .u8 (sx.kind : Nat)) ∧ w'.cell? ⟨bb, off2 + j * 2 + 1, none⟩ = some (.string sx.text)) ?_)
                  refine wpKind_take (i := 0) (n := 18) (v := .string sT) rfl (by kernel_rfl) (by kernel_rfl) (by kernel_rfl) (fun c a w h => h) ⟨by simp [Region.wanted], fun w' hw => ?_⟩ ?_
                  · simp [execOp, go_sem, Act.eval]
                  refine wpKind_take (i := 1) (n := 17) (v := .pointer (some ⟨wq.heap.size, 4, none⟩)) rfl (by kernel_rfl) (by kernel_rfl) (by kernel_rfl) (fun c a w h => h) ⟨by simp [Region.wanted], fun w' hw => ?_⟩ ?_
                  · simp [execOp, go_sem, Act.eval, Act.put]
                  refine wpKind_take (i := 2) (n := 16) (v := .slice (some ⟨bb, off2, none⟩) M.length c') rfl (by kernel_rfl) (by kernel_rfl) (by kernel_rfl) (fun c a w h => h) ⟨by simp [Region.wanted], fun w' hw => ?_⟩ ?_
                  · have hc : w'.cell? ⟨wq.heap.size, 4, none⟩ = some (.slice (some ⟨bb, off2, none⟩) M.length c') := hw.1; simp [execOp, go_sem, Act.eval, Act.put, hc]
                  refine wpKind_take (i := 3) (n := 15) (v := .int .i64 (j : Int)) rfl (by kernel_rfl) (by kernel_rfl) (by kernel_rfl) (fun c a w h => h) ⟨by simp [Region.wanted], fun w' hw => ?_⟩ ?_
                  · simp [execOp, go_sem, Act.eval, Act.put]
                  refine wpKind_take (i := 4) (n := 14) (v := .pointer (some ⟨bb, off2 + j * 2, none⟩)) rfl (by kernel_rfl) (by kernel_rfl) (by kernel_rfl) (fun c a w h => h) ⟨by simp [Region.wanted], fun w' hw => ?_⟩ ?_
                  · have hjj : (j : Int) < M.length := hjI; simp [execOp, go_sem, Act.eval, Act.put, hjj]
                  refine wpKind_take (i := 5) (n := 13) (v := .pointer (some ⟨bb, off2 + j * 2, none⟩)) rfl (by kernel_rfl) (by kernel_rfl) (by kernel_rfl) (fun c a w h => h) ⟨by simp [Region.wanted], fun w' hw => ?_⟩ ?_
                  · simp [execOp, go_sem, Act.eval, Act.put]
                  refine wpKind_take (i := 6) (n := 12) (v := .int .u8 (sx.kind : Nat)) rfl (by kernel_rfl) (by kernel_rfl) (by kernel_rfl) (fun c a w h => h) ⟨by simp [Region.wanted], fun w' hw => ?_⟩ ?_
                  · have hc : w'.cell? ⟨bb, off2 + j * 2, none⟩ = some (.int .u8 (sx.kind : Nat)) := hw.2.1; simp [execOp, go_sem, Act.eval, Act.put, hc]
                  refine wpKind_take (i := 10) (n := 11) (v := .pointer (some ⟨wq.heap.size, 4, none⟩)) rfl (by kernel_rfl) (by kernel_rfl) (by kernel_rfl) (fun c a w h => h) ⟨by simp [Region.wanted], fun w' hw => ?_⟩ ?_
                  · simp [execOp, go_sem, Act.eval, Act.put]
                  refine wpKind_take (i := 11) (n := 10) (v := .slice (some ⟨bb, off2, none⟩) M.length c') rfl (by kernel_rfl) (by kernel_rfl) (by kernel_rfl) (fun c a w h => h) ⟨by simp [Region.wanted], fun w' hw => ?_⟩ ?_
                  · have hc : w'.cell? ⟨wq.heap.size, 4, none⟩ = some (.slice (some ⟨bb, off2, none⟩) M.length c') := hw.1; simp [execOp, go_sem, Act.eval, Act.put, hc]
                  refine wpKind_take (i := 12) (n := 9) (v := .int .i64 (j : Int)) rfl (by kernel_rfl) (by kernel_rfl) (by kernel_rfl) (fun c a w h => h) ⟨by simp [Region.wanted], fun w' hw => ?_⟩ ?_
                  · simp [execOp, go_sem, Act.eval, Act.put]
                  refine wpKind_take (i := 13) (n := 8) (v := .pointer (some ⟨bb, off2 + j * 2, none⟩)) rfl (by kernel_rfl) (by kernel_rfl) (by kernel_rfl) (fun c a w h => h) ⟨by simp [Region.wanted], fun w' hw => ?_⟩ ?_
                  · have hjj : (j : Int) < M.length := hjI; simp [execOp, go_sem, Act.eval, Act.put, hjj]
                  refine wpKind_take (i := 14) (n := 7) (v := .pointer (some ⟨bb, off2 + j * 2 + 1, none⟩)) rfl (by kernel_rfl) (by kernel_rfl) (by kernel_rfl) (fun c a w h => h) ⟨by simp [Region.wanted], fun w' hw => ?_⟩ ?_
                  · simp [execOp, go_sem, Act.eval, Act.put]
                  refine wpKind_take (i := 15) (n := 6) (v := .string sx.text) rfl (by kernel_rfl) (by kernel_rfl) (by kernel_rfl) (fun c a w h => h) ⟨by simp [Region.wanted], fun w' hw => ?_⟩ ?_
                  · have hc : w'.cell? ⟨bb, off2 + j * 2 + 1, none⟩ = some (.string sx.text) := hw.2.2; simp [execOp, go_sem, Act.eval, Act.put, hc]
                  refine wpKind_one (i := 7) (n := 5) hI0 (by kernel_rfl) ?_
                  refine wpOp_val (w' := wi.drew.alloc (.cells #[.int .u8 (sx.kind : Nat)] 5)) (v := .slice (some ⟨wi.heap.size, 0, none⟩) 1 1) rfl rfl ?_ ?_
                  · simp [execOp, go_sem, Act.eval, Act.put]
                  have hI1 : (wi.drew.alloc (.cells #[.int .u8 (sx.kind : Nat)] 5)).cell? ⟨wq.heap.size, 4, none⟩ = some (.slice (some ⟨bb, off2, none⟩) M.length c') ∧ (wi.drew.alloc (.cells #[.int .u8 (sx.kind : Nat)] 5)).cell? ⟨bb, off2 + j * 2, none⟩ = some (.int .u8 (sx.kind : Nat)) ∧ (wi.drew.alloc (.cells #[.int .u8 (sx.kind : Nat)] 5)).cell? ⟨bb, off2 + j * 2 + 1, none⟩ = some (.string sx.text) :=
                    ⟨(World.cell?_of_block (Below.heap_alloc wi.drew _ wq.heap.size hq)).trans hI0.1, (World.cell?_of_block (Below.heap_alloc wi.drew _ bb hbb)).trans hI0.2.1, (World.cell?_of_block (Below.heap_alloc wi.drew _ bb hbb)).trans hI0.2.2⟩
                  refine wpKind_one (i := 8) (n := 4) hI1 (by kernel_rfl) ?_
                  refine wpOp_val (w' := wi.drew.alloc (.cells #[.int .u8 (sx.kind : Nat)] 5)) (v := .string ⟨#[UInt8.ofNat sx.kind]⟩) rfl rfl ?_ ?_
                  · have hcv2 : (convert 72 9 (.slice (some ⟨wi.heap.size, 0, none⟩) 1 1)).run Tryz.prog (wi.alloc (.cells #[.int .u8 (sx.kind : Int)] 5)).drew = .ok (.string ⟨#[UInt8.ofNat sx.kind]⟩) (wi.alloc (.cells #[.int .u8 (sx.kind : Int)] 5)).drew := hcv
                    simp [execOp, go_sem, Act.eval, Act.put, hcv2]
                  refine wpKind_take (i := 9) (n := 3) (v := .string (sT ++ ⟨#[UInt8.ofNat sx.kind]⟩)) rfl (by kernel_rfl) (by kernel_rfl) (by kernel_rfl) (fun c a w h => h) ⟨by simp [Region.wanted], fun w' hw => ?_⟩ ?_
                  · have k1 : ¬ 9223372036854775807 < sT.size + 1 := (by omega); simp [execOp, go_sem, Act.eval, Act.put, k1]
                  refine wpKind_take (i := 16) (n := 2) (v := .string (sT ++ ⟨#[UInt8.ofNat sx.kind]⟩ ++ sx.text)) rfl (by kernel_rfl) (by kernel_rfl) (by kernel_rfl) (fun c a w h => h) ⟨by simp [Region.wanted], fun w' hw => ?_⟩ ?_
                  · have k1 : ¬ 9223372036854775807 < sT.size + 1 + sx.text.size := (by omega); simp [execOp, go_sem, Act.eval, Act.put, k1]
                  refine wpKind_take (i := 17) (n := 1) (v := .string S) rfl (by kernel_rfl) (by kernel_rfl) (by kernel_rfl) (fun c a w h => h) ⟨by simp [Region.wanted], fun w' hw => ?_⟩ ?_
                  · have k1 : ¬ 9223372036854775807 < sT.size + 1 + sx.text.size + 1 := (by omega); have k2 : sT ++ ⟨#[UInt8.ofNat sx.kind]⟩ ++ sx.text ++ ⟨#[10]⟩ = S := hfin.out; simp [execOp, go_sem, Act.eval, Act.put, k1, k2]
                  refine wpKind_take (i := 18) (n := 0) (v := .string S) rfl (by kernel_rfl) (by kernel_rfl) (by kernel_rfl) (fun c a w h => h) ⟨by simp [Region.wanted], fun w' hw => ?_⟩ ?_
                  · simp [execOp, go_sem, Act.eval, Act.put]
                  refine wpKind_done hI1 (by kernel_rfl) ?_
                  have hbi2 := (hbi.drew).alloc (by show U.heap.size ≤ wi.heap.size; omega) (.cells #[.int .u8 (sx.kind : Nat)] 5)
                  generalize wi.drew.alloc (.cells #[.int .u8 (sx.kind : Nat)] 5) = V2 at *
                  simp only [Act.put]
                  go_wp2_with fail
                  go_roundg (M.length - (j + 1))
                  · exact ⟨j + 1, rfl, by omega, by rw [hSH.out], by push_cast; rfl, hbi2⟩
                  · have := hGj.out; omega
                · have hjI : ¬ ((j : Int) < M.length) := by omega
                  have hE2 : Hid (M.take j = M) := List.take_of_length_le (by omega)
                  have hbF : Hid (Below wr.heap.size wr wi) := (hbq.trans (hbqU.mono (by omega))).trans (hbi.mono (by omega))
                  generalize hsT : (⟨(T2 ++ linesL (M.take j)).toArray⟩ : ByteArray) = sT at *
                  have hsH : Hid ((⟨(T2 ++ linesL (M.take j)).toArray⟩ : ByteArray) = sT) := hsT
                  clear hsT
                  go_wp2_with fail
                  go_roundg (hs.length - (k2 + 1))
                  · exact ⟨k2 + 1, rfl, by omega, by rw [hwt.out, ← hsH.out, hE2.out], by push_cast; rfl, hbF.out⟩
                  · have := hG2.out; omega
            · have hkI2 : ¬ ((k2 : Int) < hs.length) := by omega
              have hE2 : Hid (hs.take k2 = hs) := List.take_of_length_le (by omega)
              generalize hsT : (⟨(writeI (hs.take k2)).toArray⟩ : ByteArray) = sT at *
              have hsH : Hid ((⟨(writeI (hs.take k2)).toArray⟩ : ByteArray) = sT) := hsT
              clear hsT
              go_wp2_with fail
              go_ret2
              have hfs : (⟨(writeI hs).toArray⟩ : ByteArray) = sT := by rw [← hsH.out, hE2.out]
              first | (rw [if_pos hlH.out, hfs]; exact ⟨rfl, hbwq⟩) | (rw [hfs]; exact ⟨rfl, hbwq⟩)
        · have hlI : (20000 : Int) < ((writeI hs).length : Nat) := by omega
          have hlH : Hid (¬ (writeI hs).length ≤ 20000) := hl
          clear hl
          go_wp2_with fail
          go_ret2
          first | exact ⟨rfl, hbw⟩ | (rw [if_neg hlH.out]; exact ⟨rfl, hbw⟩)
end Go.Proofs.YtcclgodahlinbaaGreatDoor
namespace Go.Proofs.YtcclgodahlinbaaGreatDoor
open Go.RowKit Go
set_option maxRecDepth 100000
def After (base wb M : Nat) (w w' : World) : Prop := ∃ (x' : WV) (B' : Bk), Kept base wb x' B' w' ∧ Room M x' B' ∧ Frame base w w' (fun _ => False)
theorem After.of_unt {base wb M n lo hi : Nat} {x : WV} {B : Bk} {w w4 w' : World} (R : Room M x B) (hb : Below w.heap.size w w4) (hlo : w.heap.size ≤ lo) (h : UntAll base wb x B n lo hi w4 w') : After base wb (M + 4 * n) w w' := by
  obtain ⟨x', E, k1, k2, k3, k4, k5⟩ := h
  refine ⟨x', _, k1, ⟨?_, ?_, ?_, ?_, ?_⟩, ((Frame.of_below (base := base) hb).trans k4).mono fun g hg k => k.elim id fun k => by omega⟩
  · have := R.c; omega
  · have := R.h; show B.h.length ≤ _; omega
  · have := R.l; show (B.l ++ E).length ≤ _; rw [List.length_append]; omega
  · have := R.s; show B.s.length ≤ _; omega
  · have := R.r; show B.r.length ≤ _; omega
set_option maxHeartbeats 4000000 in
theorem writes_ok {base wb M : Nat} {x : WV} {B : Bk} {w : World} {hs : List HI} {a : Option Addr} {cap : Nat} (K : Kept base wb x B w) (R : Room M x B) (hM : M ≤ 600000000000) (hg : GlobP w) (hbase : base ≤ w.heap.size)
    (S : Stays base w (.slice a hs.length cap) hs) (hL : Lim hs) :
    Calls Tryz.prog 42 #[.pointer (some ⟨wb, 0, none⟩), .agg #[.slice a hs.length cap]] w fun e w' => e = .returned (.bool true) ∧ After base wb (M + 4 * hs.length) w w' := by
  obtain ⟨W0, hW0⟩ : ∃ W0, w.alloc (.cells #[.slice a hs.length cap] 32) = W0 := ⟨_, rfl⟩
  have b0 : Below w.heap.size w W0 := by rw [← hW0]; exact (Below.refl _ _).alloc (Nat.le_refl _) _
  have z0 : W0.heap.size = w.heap.size + 1 := by rw [← hW0]; simp
  have hP0 : W0.heap[w.heap.size]? = some (.cells #[.slice a hs.length cap] 32 (0, 0)) := by rw [← hW0]; exact heap_alloc_new w _
  have K0 := K.old (W' := W0) fun g hg => b0.block g hg
  have S0 := S.on (Frame.of_below (base := base) b0) (fun _ h => h.elim)
  have g0 := hg.next b0
  have c0 : W0.cell? ⟨w.heap.size, 0, none⟩ = some (.slice a hs.length cap) := cell_of hP0 rfl
  have hlent := lent_any S0 hL (by omega)
  have hrl := R.l
  have hrc := R.c
  go_enter Tryz.func42, Tryz.ntmps42
  go_wp2_with fail
  clear hW0
  refine hlent.mono ?_
  rintro e W1 ⟨ax, cx, va, vr, rfl, hLO, b1⟩
  have z1 := b1.size
  obtain ⟨W2, hW2⟩ : ∃ W2, W1.alloc (.cells #[.slice ax hs.length cx] 32) = W2 := ⟨_, rfl⟩
  have b2 : Below W1.heap.size W1 W2 := by rw [← hW2]; exact (Below.refl _ _).alloc (Nat.le_refl _) _
  have z2 : W2.heap.size = W1.heap.size + 1 := by rw [← hW2]; simp
  have hP2 : W2.heap[W1.heap.size]? = some (.cells #[.slice ax hs.length cx] 32 (0, 0)) := by rw [← hW2]; exact heap_alloc_new W1 _
  have q0 : W2.cell? ⟨W1.heap.size, 0, none⟩ = some (.slice ax hs.length cx) := cell_of hP2 rfl
  have b02 := b1.trans (b2.mono z1)
  have g2 := g0.next b02
  have hw := write_any (hs := hs) (w := W2) ((hLO.1.1.below b2).mono b2.size) hL g2
  have hLOH : Hid (LentOk base W0 a cap hs (.slice ax hs.length cx) va vr W1) := hLO
  clear c0 hLO hlent
  go_wp2_with fail
  clear hW2
  refine hw.mono ?_
  rintro e W3 ⟨rfl, b3⟩
  have z3 := b3.size
  have b03 := b02.trans (b3.mono (by omega))
  have S3 := S0.on (Frame.of_below (base := base) b03) (fun _ h => h.elim)
  have hr := refWrite_any (w := W3) S3.now hL
  have c3 : W3.cell? ⟨w.heap.size, 0, none⟩ = some (.slice a hs.length cap) := cell_of ((b03.block w.heap.size (by omega)).trans hP0) rfl
  clear q0 hw hP2
  go_wp2_with fail
  refine hr.mono ?_
  rintro e W4 ⟨rfl, b4⟩
  have z4 := b4.size
  have b14 := (b2.trans (b3.mono (by omega))).trans (b4.mono (by omega))
  have b04 := b03.trans (b4.mono (by omega))
  have c4 : W4.cell? ⟨w.heap.size, 0, none⟩ = some (.slice a hs.length cap) := cell_of ((b04.block w.heap.size (by omega)).trans hP0) rfl
  have hu : Hid (Calls Tryz.prog 87 #[.pointer (some ⟨wb, 0, none⟩), va, vr, .agg #[.slice a hs.length cap]] W4 fun e w' => e = .returned (.bool true) ∧ After base wb (M + 4 * hs.length) w w') := by
    refine (hLOH.out.2 wb x B W4 K0 b14 (by omega) (by omega)).mono ?_
    rintro e w' ⟨rfl, h⟩
    exact ⟨rfl, After.of_unt R (b0.trans (b04.mono (by omega))) (by omega) h⟩
  clear hLOH c3 hr S3 b14 b04 b03 b02 S0 S K K0 g0 g2 hg hP0
  go_wp2_with fail
  refine hu.out.mono ?_
  rintro e W5 ⟨rfl, hR⟩
  have hRH : Hid _ := hR
  have e0 : ∀ x : Int, (x == x) = true := by simp
  clear hR hu
  generalize writeA hs = WA at *
  go_wp2_with fail
  go_ret
  exact ⟨by first | rfl | simp, hRH.out⟩
end Go.Proofs.YtcclgodahlinbaaGreatDoor
