import Derived.Test.YtcclgodahlinbaaGreatDoorWText
namespace Go.Proofs.YtcclgodahlinbaaGreatDoor
open Go.RowKit Go
set_option maxRecDepth 100000

/-- a list of steps, read -/
def StepsAt (B : Nat) (w : World) (v : Value) (L : List StepB) : Prop :=
  (L = [] ∧ ∃ a c, v = .slice a 0 c) ∨ ∃ b cap, v = .slice (some ⟨b, 0, none⟩) L.length cap ∧ b < B ∧
    ∀ i (h : i < L.length), w.cell? ⟨b, i * 2, none⟩ = some (.int .u8 (L[i].kind : Nat)) ∧ w.cell? ⟨b, i * 2 + 1, none⟩ = some (.string L[i].text)
theorem StepsAt.of_owns {base : Nat} {w : World} {v : Value} {L : List StepB} (h : w.ownsRow base 120 2 v L.length (stepCells L)) : StepsAt w.heap.size w v L := by
  by_cases h0 : L.length = 0
  · have : L = [] := List.eq_nil_of_length_eq_zero h0
    subst this
    rcases h.2 with ⟨e, _⟩ | ⟨g, cap, cur, e, _⟩
    · exact .inl ⟨rfl, _, _, e⟩
    · exact .inl ⟨rfl, _, _, e⟩
  · obtain ⟨g, cap, rfl, _, hg, _⟩ := owns_slice h (by omega)
    exact .inr ⟨g, cap, rfl, hg, fun i hi => owns_step h hi⟩
theorem StepsAt.below {B : Nat} {w w' : World} {v : Value} {L : List StepB} (h : StepsAt B w v L) (hb : Below B w w') : StepsAt B w' v L := by
  rcases h with h | ⟨b, cap, e, hB, hc⟩
  · exact .inl h
  · exact .inr ⟨b, cap, e, hB, fun i hi => ⟨(hb.cell (p := ⟨b, i * 2, none⟩) hB).trans (hc i hi).1, (hb.cell (p := ⟨b, i * 2 + 1, none⟩) hB).trans (hc i hi).2⟩⟩
theorem StepsAt.slice {B : Nat} {w : World} {v : Value} {L : List StepB} (h : StepsAt B w v L) : ∃ a cap, v = .slice a L.length cap := by
  rcases h with ⟨rfl, a, c, rfl⟩ | ⟨b, cap, rfl, _⟩
  · exact ⟨a, c, rfl⟩
  · exact ⟨_, _, rfl⟩
theorem StepsAt.at {B n cap : Nat} {w : World} {a : Option Addr} {L : List StepB} (h : StepsAt B w (.slice a n cap) L) {i : Nat} (hi : i < L.length) :
    ∃ b, a = some ⟨b, 0, none⟩ ∧ b < B ∧ w.cell? ⟨b, i * 2, none⟩ = some (.int .u8 (L[i].kind : Nat)) ∧ w.cell? ⟨b, i * 2 + 1, none⟩ = some (.string L[i].text) := by
  rcases h with ⟨rfl, _⟩ | ⟨b, cap, e, hb, hc⟩
  · simp at hi
  · cases e; exact ⟨b, rfl, hb, hc i hi⟩

/-- does a step belong to a hunk, as far as the first k steps say? -/
def nearU (L : List StepB) (c k j : Nat) : Bool := (L.take k).zipIdx.any fun s => s.1.kind != 32 && decide (s.2 ≤ j + c) && decide (j ≤ s.2 + c)
def nearB (L : List StepB) (c : Nat) : List Bool := (List.range L.length).map (nearU L c L.length)

theorem nearU_succ (L : List StepB) (c k j : Nat) (hk : k < L.length) : nearU L c (k + 1) j = (nearU L c k j || (L[k].kind != 32 && decide (k ≤ j + c) && decide (j ≤ k + c))) := by
  unfold nearU
  rw [List.take_succ_eq_append_getElem hk, List.zipIdx_append, List.any_append]
  simp [Nat.min_eq_left (Nat.le_of_lt hk)]

def Near (L : List StepB) (c k : Nat) (bs : List Bool) : Prop := bs.length = L.length ∧ ∀ j, j < L.length → bs.getD j false = nearU L c k j

theorem near_end {L : List StepB} {c : Nat} {bs : List Bool} (h : Near L c L.length bs) : bs = nearB L c := by
  apply List.ext_getElem
  · simp [nearB, h.1]
  · intro i h1 h2
    have := h.2 i (by rw [← h.1]; exact h1)
    simp [List.getD, h1] at this
    simp [nearB, this]
theorem near_keep {L : List StepB} {c k : Nat} {bs : List Bool} (h : Near L c k bs) (hk : k < L.length) (h32 : L[k].kind = 32) : Near L c (k + 1) bs :=
  ⟨h.1, fun j hj => by rw [h.2 j hj, nearU_succ L c k j hk, h32]; simp⟩

def NearI (L : List StepB) (c k i : Nat) (bs : List Bool) : Prop := bs.length = L.length ∧ ∀ j, j < L.length → bs.getD j false = (nearU L c k j || (decide (k ≤ j + c) && decide (j < i)))
theorem nearI_start {L : List StepB} {c k : Nat} {bs : List Bool} (h : Near L c k bs) : NearI L c k (k - c) bs :=
  ⟨h.1, fun j hj => by
    rw [h.2 j hj]
    have : (decide (k ≤ j + c) && decide (j < k - c)) = false := by simp <;> omega
    rw [this, Bool.or_false]⟩
theorem nearI_step {L : List StepB} {c k i : Nat} {bs : List Bool} (h : NearI L c k i bs) (hi : i < L.length) (hk : k ≤ i + c) : NearI L c k (i + 1) (bs.set i true) := by
  refine ⟨by simp [h.1], fun j hj => ?_⟩
  by_cases e : i = j
  · subst e
    have : (decide (k ≤ i + c) && decide (i < i + 1)) = true := by simp [hk]
    rw [this]; simp [List.getD, h.1, hi]
  · have e1 : (bs.set i true).getD j false = bs.getD j false := by simp [List.getD, e]
    rw [e1, h.2 j hj]
    have : decide (j < i + 1) = decide (j < i) := by
      rw [decide_eq_decide]; omega
    rw [this]
theorem nearI_end {L : List StepB} {c k i : Nat} {bs : List Bool} (h : NearI L c k i bs) (hk : k < L.length) (h32 : L[k].kind ≠ 32) (hi : k + c < i ∨ L.length ≤ i) (hi2 : i ≤ k + c + 1) : Near L c (k + 1) bs := by
  refine ⟨h.1, fun j hj => ?_⟩
  rw [h.2 j hj, nearU_succ L c k j hk]
  have e1 : (L[k].kind != 32) = true := by simpa using h32
  have e2 : decide (j < i) = decide (j ≤ k + c) := by rw [decide_eq_decide]; omega
  rw [e1, e2, Bool.true_and]

theorem info_bool : (Tryz.prog.info? 4).map (fun i => (i.zero, i.size, i.bytes)) = some (some (.bool false), 1, 1) := by kernel_rfl

def boolCells (l : List Bool) : List Value := l.map fun b => .bool b
theorem owns_bool {w : World} {base n cap g : Nat} {l : List Bool} (h : w.ownsRow base 4 1 (.slice (some ⟨g, 0, none⟩) n cap) n (boolCells l)) {i : Nat} (hi : i < l.length) :
    w.cell? ⟨g, i, none⟩ = some (.bool (l.getD i false)) := by
  obtain ⟨hl, hr⟩ := h
  rcases hr with ⟨e, _⟩ | ⟨g', cap', cur, e, hb, hg, h1, h2, h3, h4⟩
  · cases e
  · cases e
    have a : (boolCells l)[i]? = some (.bool (l.getD i false)) := by simp [boolCells, List.getD, hi]
    rw [← h4, List.getElem?_take] at a
    split at a
    · exact cell_of hg (by simpa using a)
    · cases a
theorem owns_setBool {w : World} {base n cap g : Nat} {l : List Bool} (h : w.ownsRow base 4 1 (.slice (some ⟨g, 0, none⟩) n cap) n (boolCells l)) (i : Nat) (b : Bool) :
    (w.setCell ⟨g, i, none⟩ (.bool b)).ownsRow base 4 1 (.slice (some ⟨g, 0, none⟩) n cap) n (boolCells (l.set i b)) := by
  obtain ⟨hl, hr⟩ := h
  rcases hr with ⟨e, _⟩ | ⟨g', cap', cur, e, hb, hg, h1, h2, h3, h4⟩
  · cases e
  · cases e
    refine ⟨by simpa [boolCells] using hl, .inr ⟨g, cap, _, rfl, hb, heap_setCell_same _ _ _ _ _ _ _ hg, h1, h2, by simpa using h3, ?_⟩⟩
    have : boolCells (l.set i b) = (boolCells l).set i (.bool b) := by simp [boolCells, List.map_set]
    rw [this, ← h4]
    simp [List.take_set]

set_option maxHeartbeats 2000000 in
theorem near_row {cap : Nat} {a : Option Addr} {L : List StepB} {w : World} (c : Nat) (hS : StepsAt w.heap.size w (.slice a L.length cap) L) (hc : c ≤ 10) (hL : L.length ≤ 1000) :
    Calls Tryz.prog 56 #[.slice a L.length cap, .int .i64 c] w fun e w' =>
      e = .returned (.slice (some ⟨w.heap.size, 0, none⟩) L.length L.length) ∧ w'.ownsRow w.heap.size 4 1 (.slice (some ⟨w.heap.size, 0, none⟩) L.length L.length) L.length (boolCells (nearB L c)) ∧ Below w.heap.size w w' := by
  have hmk := fun w => run_make_row' (P := Tryz.prog) 97 4 (.bool false) 1 Tryz.underlying97 info_bool rfl .i64 .i64 L.length (by omega) (by omega) w
  have hstart : (w.alloc (.cells (madeCells #[.bool false] L.length) 4)).ownsRow w.heap.size 4 1 (.slice (some ⟨w.heap.size, 0, none⟩) L.length L.length) L.length (boolCells (List.replicate L.length false)) :=
    ⟨by simp [boolCells], .inr ⟨_, _, _, rfl, Nat.le_refl _, heap_alloc_new w _, Nat.le_refl _, by unfold maxLen; omega, by rw [madeCells_one]; simp, by rw [madeCells_one]; simp [boolCells]⟩⟩
  have hb0 : Below w.heap.size w (w.alloc (.cells (madeCells #[.bool false] L.length) 4)) := (Below.refl _ _).alloc (Nat.le_refl _) _
  have hn0 : Near L c 0 (List.replicate L.length false) := ⟨by simp, fun j hj => by simp [nearU, List.getD, hj]⟩
  go_enter Tryz.func56, Tryz.ntmps56
  go_wp2
  go_loopg [14] L.length (fun g t wr => ∃ (k : Nat) (bs : List Bool), g = L.length - k ∧ k ≤ L.length ∧ t = .int .i64 k ∧ Near L c k bs ∧ wr.ownsRow w.heap.size 4 1 (.slice (some ⟨w.heap.size, 0, none⟩) L.length L.length) L.length (boolCells bs) ∧ Below w.heap.size w wr)
  case atStart => exact ⟨0, _, by omega, by omega, rfl, hn0, hstart, hb0⟩
  case round =>
    obtain ⟨k, bs, hgk, hkl, rfl, hnear, hrow, hbel⟩ := hrel
    have hA : Hid (gk = L.length - k ∧ Near L c k bs) := ⟨hgk, hnear⟩
    clear hgk hnear hn0 hmk hstart hb0
    by_cases hlt : k < L.length
    · have hltI : (k : Int) < L.length := by omega
      obtain ⟨b, rfl, hbB, q0, q1⟩ := (hS.below hbel).at hlt
      have hsz := hbel.size
      by_cases h32 : L[k].kind = 32
      · rw [h32] at q0
        have q0' : wr.cell? ⟨b, k * 2, none⟩ = some (.int .u8 32) := q0
        have hn2 : Hid (Near L c (k + 1) bs) := near_keep hA.out.2 hlt h32
        clear q0 h32 hS
        generalize L[k].text = T at q1
        go_wp2
        go_roundg (L.length - (k + 1))
        case measure => have := hA.out.1; omega
        case rel => exact ⟨k + 1, bs, rfl, by omega, by go_num, hn2, hrow.alloc _, hbel.alloc hsz _⟩
      · have hne : (((L[k].kind : Nat) : Int) == 32) = false := by rw [beq_eq_false_iff_ne]; omega
        have h32' : Hid (L[k].kind ≠ 32) := h32
        clear h32
        have hI0 : Hid (NearI L c k (k - c) bs) := nearI_start hA.out.2
        have hmax : max ((k : Int) - c) 0 = ((k - c : Nat) : Int) := by omega
        have hQ : Hid (∀ bs', NearI L c k (k + c + 1) bs' → True) := fun _ _ => trivial
        clear hQ
        have hS' := hS
        clear hS
        have hend : Hid (∀ i bs', NearI L c k i bs' → (k + c < i ∨ L.length ≤ i) → i ≤ k + c + 1 → Near L c (k + 1) bs') := fun i bs' h1 h2 h3 => nearI_end h1 hlt h32'.out h2 h3
        generalize L[k].kind = KK at q0 hne
        generalize L[k].text = T at q1
        go_wp2
        have hrow1 := hrow.alloc (.cells #[.int .u8 (KK : Int), .string T] 120)
        have hbel1 := hbel.alloc hsz (.cells #[.int .u8 (KK : Int), .string T] 120)
        generalize wr.alloc (.cells #[.int .u8 (KK : Int), .string T] 120) = wa at hrow1 hbel1 ⊢
        clear q0 q1 hrow hbel
        go_loopg [8] (L.length + 20 - (k - c)) (fun g t wi => ∃ (i : Nat) (bs' : List Bool), g + i = L.length + 20 ∧ k - c ≤ i ∧ i ≤ k + c + 1 ∧ t = .int .i64 i ∧ NearI L c k i bs' ∧ wi.ownsRow w.heap.size 4 1 (.slice (some ⟨w.heap.size, 0, none⟩) L.length L.length) L.length (boolCells bs') ∧ Below w.heap.size w wi)
        case atStart => exact ⟨k - c, bs, by omega, by omega, by omega, rfl, hI0.out, hrow1, hbel1⟩
        case round =>
          obtain ⟨i, bs', hgi, hi1, hi2, rfl, hI, hrow2, hbel2⟩ := hrel
          have hI' : Hid (NearI L c k i bs') := hI
          clear hI hrow1 hbel1 hI0
          have hfz := owns_frozen hrow2
          by_cases hin : i ≤ k + c ∧ i < L.length
          · have t1 : (i : Int) ≤ (k : Int) + c := by omega
            have t2 : (i : Int) < L.length := by omega
            have hlb : bs'.length = L.length := hI'.out.1
            have hcell := owns_bool hrow2 (i := i) (by omega)
            generalize bs'.getD i false = bb at hcell
            clear hlb
            have hn2 : Hid (NearI L c k (i + 1) (bs'.set i true)) := nearI_step hI'.out hin.2 (by omega)
            have hr3 := owns_setBool hrow2 i true
            have hb3 := hbel2.setCell (p := ⟨w.heap.size, i, none⟩) (Nat.le_refl _) (.bool true)
            have hgi' : Hid (gk + i = L.length + 20 - (k - c) + (k - c)) := by unfold Hid; omega
            have hin2 : Hid (i ≤ k + c ∧ i < L.length) := hin
            clear hin hgi
            go_wp2
            go_roundg (gk - 1)
            case measure => have := hgi'.out; have := hin2.out; omega
            case rel => exact ⟨i + 1, bs'.set i true, by have := hgi'.out; have := hin2.out; omega, by omega, by have := hin2.out; omega, by go_num, hn2, hr3, hb3⟩
          · have hn2 : Hid (Near L c (k + 1) bs') := hend.out i bs' hI'.out (by omega) hi2
            by_cases t1 : (i : Int) ≤ (k : Int) + c
            · have t2 : ¬ ((i : Int) < L.length) := by omega
              clear hin
              go_wp2
              go_roundg (L.length - (k + 1))
              case measure => have := hA.out.1; omega
              case rel => exact ⟨k + 1, bs', rfl, by omega, by go_num, hn2, hrow2, hbel2⟩
            · clear hin
              go_wp2
              go_roundg (L.length - (k + 1))
              case measure => have := hA.out.1; omega
              case rel => exact ⟨k + 1, bs', rfl, by omega, by go_num, hn2, hrow2, hbel2⟩
    · have hltI : ¬ ((k : Int) < L.length) := by omega
      have hkn : k = L.length := by omega
      have hfin : bs = nearB L c := near_end (by rw [hkn] at hA; exact hA.out.2)
      subst hfin
      clear hkn
      go_wp2
      go_ret
      exact ⟨rfl, hrow, hbel⟩
end Go.Proofs.YtcclgodahlinbaaGreatDoor
