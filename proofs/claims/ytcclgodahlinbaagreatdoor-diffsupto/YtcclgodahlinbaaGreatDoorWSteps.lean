import Derived.Test.YtcclgodahlinbaaGreatDoorWSettle
namespace Go.Proofs.YtcclgodahlinbaaGreatDoor
open Go.RowKit Go
set_option maxRecDepth 100000

theorem fl_ord_all : (List.range 210).all (fun k => (FloatKind.f64.format.order (fl k) 0 == some .eq) == decide (k = 0)) = true := by kernel_rfl
theorem fl_ord {k : Nat} (h : k < 210) : (FloatKind.f64.format.order (fl k) 0 == some .eq) = decide (k = 0) := by
  have := List.all_eq_true.1 fl_ord_all k (List.mem_range.2 h)
  exact eq_of_beq this

/-! ### thing -/
set_option maxHeartbeats 400000 in
theorem thing_add (S b off n cap x y : Nat) (t : ByteArray) (w : World) (hc : w.cell? ⟨S, 1, none⟩ = some (.slice (some ⟨b, off, none⟩) n cap)) (hy : y < n) (hn : n < 210) (ht : w.cell? ⟨b, off + y, none⟩ = some (.string t)) :
    Calls Tryz.prog 99 #[.pointer (some ⟨S, 0, none⟩), .complex .f64 (fl x) (fl y), .int .u8 43] w fun e w' => e = .returned (.string t) ∧ w = w' := by
  have h2 := fun w => conv_fl (show y < 210 by omega) w
  have hyI : (y : Int) < n := by omega
  go_enter Tryz.func99, Tryz.ntmps99
  go_wp2
  go_ret
  exact ⟨rfl, rfl⟩
set_option maxHeartbeats 400000 in
theorem thing_old (S b off n cap x y k : Nat) (t : ByteArray) (w : World) (hc : w.cell? ⟨S, 0, none⟩ = some (.slice (some ⟨b, off, none⟩) n cap)) (hx : x < n) (hn : n < 210) (ht : w.cell? ⟨b, off + x, none⟩ = some (.string t)) (hk : k = 32 ∨ k = 45) :
    Calls Tryz.prog 99 #[.pointer (some ⟨S, 0, none⟩), .complex .f64 (fl x) (fl y), .int .u8 (k : Nat)] w fun e w' => e = .returned (.string t) ∧ w = w' := by
  have h2 := fun w => conv_fl (show x < 210 by omega) w
  have hxI : (x : Int) < n := by omega
  have hk' : (((k : Nat) : Int) == 43) = false := by simp; omega
  clear hk
  go_enter Tryz.func99, Tryz.ntmps99
  go_wp2
  go_ret
  exact ⟨rfl, rfl⟩

/-! ### rows of steps -/
abbrev StepB := Dn.StepM ByteArray
def stepCells (l : List StepB) : List Value := l.flatMap fun s => [.int .u8 (s.kind : Nat), .string s.text]
theorem stepCells_cons (s : StepB) (l : List StepB) : stepCells (s :: l) = .int .u8 (s.kind : Nat) :: .string s.text :: stepCells l := rfl
theorem stepCells_append (a b : List StepB) : stepCells (a ++ b) = stepCells a ++ stepCells b := by simp [stepCells]
theorem stepCells_length (l : List StepB) : (stepCells l).length = l.length * 2 := by
  induction l with
  | nil => rfl
  | cons s l ih => rw [stepCells_cons]; simp [ih]; omega
theorem stepCells_get (l : List StepB) : ∀ (i : Nat) (h : i < l.length), (stepCells l)[i * 2]? = some (.int .u8 (l[i].kind : Nat)) ∧ (stepCells l)[i * 2 + 1]? = some (.string l[i].text) := by
  induction l with
  | nil => intro i h; simp at h
  | cons s l ih =>
    intro i h
    cases i with
    | zero => simp [stepCells_cons]
    | succ i =>
      have := ih i (by simpa using h)
      rw [stepCells_cons, show (i + 1) * 2 = i * 2 + 1 + 1 by omega]
      simpa using this
theorem stepCells_set (l : List StepB) (s : StepB) : ∀ (i : Nat), i < l.length → ((stepCells l).set (i * 2) (.int .u8 (s.kind : Nat))).set (i * 2 + 1) (.string s.text) = stepCells (l.set i s) := by
  induction l with
  | nil => intro i h; simp at h
  | cons t l ih =>
    intro i h
    cases i with
    | zero => simp [stepCells_cons]
    | succ i =>
      have := ih i (by simpa using h)
      rw [List.set_cons_succ, stepCells_cons, stepCells_cons, ← this, show (i + 1) * 2 = i * 2 + 1 + 1 by omega]
      simp

theorem owns_step {w : World} {base n cap g : Nat} {l : List StepB} (h : w.ownsRow base 120 2 (.slice (some ⟨g, 0, none⟩) n cap) n (stepCells l)) {i : Nat} (hi : i < l.length) :
    w.cell? ⟨g, i * 2, none⟩ = some (.int .u8 (l[i].kind : Nat)) ∧ w.cell? ⟨g, i * 2 + 1, none⟩ = some (.string l[i].text) := by
  obtain ⟨hl, hr⟩ := h
  rcases hr with ⟨e, _⟩ | ⟨g', cap', cur, e, hb, hg, h1, h2, h3, h4⟩
  · cases e
  · cases e
    obtain ⟨a, b⟩ := stepCells_get l i hi
    rw [← h4] at a b
    have f : ∀ (j : Nat) (u : Value), (cur.toList.take (n * 2))[j]? = some u → cur[j]? = some u := by
      intro j u hu
      rw [List.getElem?_take] at hu
      split at hu
      · simpa using hu
      · cases hu
    exact ⟨cell_of hg (f _ _ a), cell_of hg (f _ _ b)⟩

def setStep (w : World) (g i : Nat) (s : StepB) : World := (w.setCell ⟨g, i * 2, none⟩ (.int .u8 (s.kind : Nat))).setCell ⟨g, i * 2 + 1, none⟩ (.string s.text)
theorem grownBy_setStep (w : World) (g i : Nat) (s : StepB) : w.grownBy (setStep w g i s) (some g) := grownBy_trans (grownBy_setCell _ _ _ _) (grownBy_setCell _ _ _ _)
theorem setStep_row {w : World} {base g n cap i : Nat} {l : List StepB} (s : StepB) (hn : n = l.length) (hi : i < l.length)
    (h : w.ownsRow base 120 2 (.slice (some ⟨g, 0, none⟩) n cap) n (stepCells l)) :
    (setStep w g i s).ownsRow base 120 2 (.slice (some ⟨g, 0, none⟩) n cap) n (stepCells (l.set i s)) := by
  subst hn
  obtain ⟨hl, hr⟩ := h
  rcases hr with ⟨e, _⟩ | ⟨g', cap', cur, e, hb, hg, h1, h2, h3, h4⟩
  · cases e
  · cases e
    refine ⟨by rw [stepCells_length]; simp, .inr ⟨g, cap, _, rfl, hb, heap_setCell_same _ _ _ _ _ _ _ (heap_setCell_same _ _ _ _ _ _ _ hg), h1, h2, by simpa using h3, ?_⟩⟩
    rw [← stepCells_set l s i hi, ← h4]
    simp [List.take_set]

/-! ### slices.Reverse -/
def Turned (l l' : List StepB) (i : Nat) : Prop := l'.length = l.length ∧ ∀ t, t < l.length → l'[t]? = if t < i ∨ l.length - i ≤ t then l[l.length - 1 - t]? else l[t]?
theorem turned_start (l : List StepB) : Turned l l 0 := ⟨rfl, fun t ht => by rw [if_neg (by omega)]⟩
theorem turned_end {l l' : List StepB} {i : Nat} (h : Turned l l' i) (hi : l.length ≤ 2 * i + 1) : l' = l.reverse := by
  apply List.ext_getElem?
  intro t
  by_cases ht : t < l.length
  · rw [h.2 t ht, List.getElem?_reverse ht]
    split
    · rfl
    · congr 1; omega
  · rw [List.getElem?_eq_none (by rw [h.1]; omega), List.getElem?_eq_none (by simp; omega)]
theorem turned_step {l l' : List StepB} {i : Nat} (h : Turned l l' i) (hi : 2 * i + 1 < l.length) (a b : StepB) (ha : l'[i]? = some a) (hb : l'[l.length - 1 - i]? = some b) :
    Turned l ((l'.set i b).set (l.length - 1 - i) a) (i + 1) := by
  obtain ⟨h1, h2⟩ := h
  have e1 := h2 i (by omega)
  rw [if_neg (by omega), ha] at e1
  have e2 := h2 (l.length - 1 - i) (by omega)
  rw [if_neg (by omega), hb] at e2
  refine ⟨by simp [h1], fun t ht => ?_⟩
  rw [List.getElem?_set, List.getElem?_set]
  by_cases c1 : l.length - 1 - i = t
  · subst c1
    rw [if_pos rfl, if_pos (by simp [h1]; omega), if_pos (by omega), show l.length - 1 - (l.length - 1 - i) = i by omega]
    exact e1
  · rw [if_neg c1]
    by_cases c2 : i = t
    · subst c2
      rw [if_pos rfl, if_pos (by rw [h1]; omega), if_pos (by omega)]
      exact e2
    · rw [if_neg c2, h2 t ht]
      by_cases c3 : t < i ∨ l.length - i ≤ t
      · rw [if_pos c3, if_pos (by omega)]
      · rw [if_neg c3, if_neg (by omega)]

set_option maxHeartbeats 1000000 in
theorem reverse_row {base g n cap : Nat} {l : List StepB} {w : World} (h : w.ownsRow base 120 2 (.slice (some ⟨g, 0, none⟩) n cap) n (stepCells l)) (hn : n = l.length) (hb : n < 1000000) (hbase : base ≤ g) (hbw : base ≤ w.heap.size) :
    Calls Tryz.prog 100 #[.slice (some ⟨g, 0, none⟩) n cap] w fun e w' =>
      e = .returned (.tuple #[]) ∧ w'.ownsRow base 120 2 (.slice (some ⟨g, 0, none⟩) n cap) n (stepCells l.reverse) ∧ Below base w w' := by
  have hn' : Hid (n = l.length) := hn
  clear hn
  go_enter Tryz.func100, Tryz.ntmps100
  go_wp2
  go_loopw [2, 3] (fun ti tj wr => ∃ (i : Nat) (l' : List StepB), ti = .int .i64 i ∧ tj = .int .i64 ((n : Int) - 1 - i) ∧ 2 * i ≤ n + 1 ∧ Hid (Turned l l' i) ∧ wr.ownsRow base 120 2 (.slice (some ⟨g, 0, none⟩) n cap) n (stepCells l') ∧ Below base w wr) (fun ti _ _ => n - (intOf ti).toNat)
  case atStart => exact ⟨0, l, rfl, by simp, by omega, turned_start l, h, Below.refl _ _⟩
  case round =>
    obtain ⟨i, l', rfl, rfl, hi, hT, hrow, hbel⟩ := hrel
    by_cases hend : 2 * i + 1 < n
    · have hl' : l'.length = n := by have := hT.out.1; have := hn'.out; omega
      have p1 := owns_step hrow (i := i) (by omega)
      have p2 := owns_step hrow (i := n - 1 - i) (by omega)
      obtain ⟨a, ha⟩ : ∃ a, l'[i]'(by omega) = a := ⟨_, rfl⟩
      obtain ⟨b, hb'⟩ : ∃ b, l'[n - 1 - i]'(by omega) = b := ⟨_, rfl⟩
      rw [ha] at p1
      rw [hb'] at p2
      obtain ⟨j, hj⟩ : ∃ j, n - 1 - i = j := ⟨_, rfl⟩
      have hji : (n : Int) - 1 - i = j := by omega
      have ha' : Hid (l'[i]? = some a) := by unfold Hid; rw [← ha]; exact List.getElem?_eq_getElem _
      have hb2 : Hid (l'[n - 1 - i]? = some b) := by unfold Hid; rw [← hb']; exact List.getElem?_eq_getElem _
      clear ha hb'
      rw [hj] at p2
      have hjn : Hid (n - 1 - i = j) := hj
      clear hj
      obtain ⟨q0, q1⟩ := p1
      obtain ⟨r0, r1⟩ := p2
      have hf := owns_frozen hrow
      have hij : ¬ i = j := by omega
      have hij' : ¬ j = i := by omega
      have c1 : (i : Int) < (j : Int) := by omega
      have c2 : (i : Int) < (n : Int) := by omega
      have c3 : (j : Int) < (n : Int) := by omega
      rw [hji]
      have hl2 : Hid (l'.length = n) := hl'
      clear hl'
      go_wp2_with fail
      go_region
      go_wp2_with fail
      have h1 := setStep_row (i := i) b hl2.out.symm (by have := hl2.out; omega) hrow
      have h2 := setStep_row (l := l'.set i b) (i := j) a (by rw [List.length_set]; exact hl2.out.symm) (by rw [List.length_set]; have := hl2.out; omega) h1
      have hg := grownBy_trans (grownBy_setStep wr g i b) (grownBy_setStep (setStep wr g i b) g j a)
      have h3 := hbel.grown hg (by have := hbel.size; omega) (fun k e => by cases e; exact hbase)
      have hT2 := turned_step hT.out (by have := hn'.out; omega) a b ha'.out (by have := hb2.out; rw [← hn'.out]; exact this)
      rw [← hn'.out, hjn.out] at hT2
      go_roundw
      case rel => exact ⟨i + 1, _, by go_num, by go_num, by omega, hT2, h2, h3.drew⟩
      case measure => simp [intOf]; omega
    · have c1 : ¬ ((i : Int) < (n : Int) - 1 - i) := by omega
      go_wp2_with fail
      go_end0
      have := turned_end hT.out (by have := hn'.out; omega)
      subst this
      exact ⟨rfl, hrow, hbel⟩
end Go.Proofs.YtcclgodahlinbaaGreatDoor
