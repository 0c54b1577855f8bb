import Derived.Test.YtcclgodahlinbaaGreatDoorWFind
import Derived.Test.YtcclgodahlinbaaGreatDoorShelf
namespace Go.Proofs.YtcclgodahlinbaaGreatDoor
open Go.RowKit Go
set_option maxRecDepth 100000

def nl : ByteArray := ⟨#[10]⟩
def isTextB (s : ByteArray) : Bool := s.toList.isEmpty || Lib.hasSuffix s.data.toList [10]
def largeB (s : ByteArray) : Bool := decide (8000 < s.size) || decide (200 < Lib.countByte s.data.toList 10)
def trimB (s : ByteArray) : ByteArray := ⟨(Lib.trimSuffix s.data.toList [10]).toArray⟩
def linesB (s : ByteArray) : List ByteArray := if s.toList.isEmpty = true then [] else Lib.splitB nl 0 (Lib.countB (trimB s) nl) (trimB s)

theorem ret_bool {a b : Bool} (h : a = b) : Ending.returned (.bool a) = .returned (.bool b) := by rw [h]

set_option maxHeartbeats 400000 in
theorem isText_any (s : ByteArray) (w : World) (hs : s.size < 4294967281) :
    Calls Tryz.prog 47 #[.string s] w fun e w' => e = .returned (.bool (isTextB s)) ∧ w = w' := by
  unfold isTextB
  by_cases h0 : s.toList.isEmpty = true
  · rw [h0]
    go_enter Tryz.func47, Tryz.ntmps47
    go_wp2
    go_ret
    exact ⟨rfl, rfl⟩
  · replace h0 : s.toList.isEmpty = false := by simpa using h0
    rw [h0]
    have hc := Tryz.strings_HasSuffix s ⟨#[10]⟩ w (by omega)
    have hc' := hc.mono (R' := fun e w' => e = .returned (.bool (Lib.hasSuffix s.data.toList [10])) ∧ w = w') (fun _ _ h => ⟨h.1, h.2.symm⟩)
    clear hc
    generalize Lib.hasSuffix s.data.toList [10] = B at hc' ⊢
    go_enter Tryz.func47, Tryz.ntmps47
    go_wp2_with (go_at_call 94; refine hc'.mono ?_; rintro e w' ⟨rfl, rfl⟩)
    go_ret
    exact ⟨rfl, rfl⟩

set_option maxHeartbeats 400000 in
theorem tooLarge_any (s : ByteArray) (w : World) (hs : s.size < 4294967281) :
    Calls Tryz.prog 48 #[.string s] w fun e w' => e = .returned (.bool (largeB s)) ∧ w = w' := by
  unfold largeB
  by_cases h0 : 8000 < s.size
  · have h1 : (8000 : Int) < s.size := by omega
    rw [decide_eq_true h0]
    go_enter Tryz.func48, Tryz.ntmps48
    go_wp2
    go_ret
    exact ⟨rfl, rfl⟩
  · have h1 : ¬ ((8000 : Int) < s.size) := by omega
    rw [decide_eq_false h0]
    have hc := Tryz.strings_Count_one s 10 w
    have hc' := hc.mono (R' := fun e w' => e = .returned (.int .i64 (Lib.countByte s.data.toList 10)) ∧ w = w') (fun _ _ h => ⟨h.1, h.2.symm⟩)
    clear hc h0
    have hle : Lib.countByte s.data.toList 10 ≤ 8000 := by
      have : Lib.countByte s.data.toList 10 ≤ s.data.toList.length := List.count_le_length
      have e : s.data.toList.length = s.size := rfl
      omega
    generalize Lib.countByte s.data.toList 10 = N at hc' hle ⊢
    go_enter Tryz.func48, Tryz.ntmps48
    go_wp2_with (go_at_call 95; refine hc'.mono ?_; rintro e w' ⟨rfl, rfl⟩)
    go_ret
    exact ⟨ret_bool (by simp; omega), rfl⟩

def checkB (old fresh : ByteArray) (c : Int) : Int :=
  if isTextB old = false ∨ isTextB fresh = false then 2 else if largeB old = true ∨ largeB fresh = true then 1 else if c < 0 ∨ 10 < c then 3 else 0

set_option maxHeartbeats 1000000 in
theorem checkDiff_any (old fresh : ByteArray) (c : Int) (w : World) (h1 : old.size < 4294967281) (h2 : fresh.size < 4294967281) :
    Calls Tryz.prog 24 #[.string old, .string fresh, .int .i64 c] w fun e w' => e = .returned (.int .i64 (checkB old fresh c)) ∧ w = w' := by
  have i1 := isText_any old w h1
  have i2 := isText_any fresh w h2
  have l1 := tooLarge_any old w h1
  have l2 := tooLarge_any fresh w h2
  unfold checkB
  cases a : isTextB old with
  | false =>
    rw [a] at i1
    rw [if_pos (.inl rfl)]
    go_enter Tryz.func24, Tryz.ntmps24
    go_wp2_with (go_at_call 47; refine i1.mono ?_; rintro e w' ⟨rfl, rfl⟩)
    go_ret
    exact ⟨rfl, rfl⟩
  | true =>
    rw [a] at i1
    cases b : isTextB fresh with
    | false =>
      rw [b] at i2
      rw [if_pos (.inr rfl)]
      go_enter Tryz.func24, Tryz.ntmps24
      go_wp2_with (first | (go_at_call 47; refine i1.mono ?_; clear i1; rintro e w' ⟨rfl, rfl⟩) | (go_at_call 47; refine i2.mono ?_; rintro e w' ⟨rfl, rfl⟩))
      go_ret
      exact ⟨rfl, rfl⟩
    | true =>
      rw [b] at i2
      rw [if_neg (by simp)]
      cases p : largeB old with
      | true =>
        rw [p] at l1
        rw [if_pos (.inl rfl)]
        go_enter Tryz.func24, Tryz.ntmps24
        go_wp2_with (first | (go_at_call 47; refine i1.mono ?_; clear i1; rintro e w' ⟨rfl, rfl⟩) | (go_at_call 47; refine i2.mono ?_; rintro e w' ⟨rfl, rfl⟩) | (go_at_call 48; refine l1.mono ?_; rintro e w' ⟨rfl, rfl⟩))
        go_ret
        exact ⟨rfl, rfl⟩
      | false =>
        rw [p] at l1
        cases q : largeB fresh with
        | true =>
          rw [q] at l2
          rw [if_pos (.inr rfl)]
          go_enter Tryz.func24, Tryz.ntmps24
          go_wp2_with (first | (go_at_call 47; refine i1.mono ?_; clear i1; rintro e w' ⟨rfl, rfl⟩) | (go_at_call 47; refine i2.mono ?_; rintro e w' ⟨rfl, rfl⟩) | (go_at_call 48; refine l1.mono ?_; clear l1; rintro e w' ⟨rfl, rfl⟩) | (go_at_call 48; refine l2.mono ?_; rintro e w' ⟨rfl, rfl⟩))
          go_ret
          exact ⟨rfl, rfl⟩
        | false =>
          rw [q] at l2
          rw [if_neg (by simp)]
          by_cases c0 : c < 0
          · rw [if_pos (.inl c0)]
            go_enter Tryz.func24, Tryz.ntmps24
            go_wp2_with (first | (go_at_call 47; refine i1.mono ?_; clear i1; rintro e w' ⟨rfl, rfl⟩) | (go_at_call 47; refine i2.mono ?_; rintro e w' ⟨rfl, rfl⟩) | (go_at_call 48; refine l1.mono ?_; clear l1; rintro e w' ⟨rfl, rfl⟩) | (go_at_call 48; refine l2.mono ?_; rintro e w' ⟨rfl, rfl⟩))
            go_ret
            exact ⟨rfl, rfl⟩
          · by_cases c1 : 10 < c
            · rw [if_pos (.inr c1)]
              go_enter Tryz.func24, Tryz.ntmps24
              go_wp2_with (first | (go_at_call 47; refine i1.mono ?_; clear i1; rintro e w' ⟨rfl, rfl⟩) | (go_at_call 47; refine i2.mono ?_; rintro e w' ⟨rfl, rfl⟩) | (go_at_call 48; refine l1.mono ?_; clear l1; rintro e w' ⟨rfl, rfl⟩) | (go_at_call 48; refine l2.mono ?_; rintro e w' ⟨rfl, rfl⟩))
              go_ret
              exact ⟨rfl, rfl⟩
            · rw [if_neg (by simp [c0, c1])]
              go_enter Tryz.func24, Tryz.ntmps24
              go_wp2_with (first | (go_at_call 47; refine i1.mono ?_; clear i1; rintro e w' ⟨rfl, rfl⟩) | (go_at_call 47; refine i2.mono ?_; rintro e w' ⟨rfl, rfl⟩) | (go_at_call 48; refine l1.mono ?_; clear l1; rintro e w' ⟨rfl, rfl⟩) | (go_at_call 48; refine l2.mono ?_; rintro e w' ⟨rfl, rfl⟩))
              go_ret
              exact ⟨rfl, rfl⟩

theorem linesOf_nil (w : World) : Calls Tryz.prog 26 #[.string ByteArray.empty] w fun e w' => e = .returned (.slice none 0 0) ∧ w = w' := by
  go_enter Tryz.func26, Tryz.ntmps26
  go_wp2
  go_ret
  exact ⟨rfl, rfl⟩
set_option maxHeartbeats 400000 in
theorem linesOf_some (s : ByteArray) (m : Int) (w : World) (hs : s.size < 4294967281) (h0 : s.toList.isEmpty = false) (hm : w.cell? ⟨0, 0, none⟩ = some (.int .i64 m)) :
    Calls Tryz.prog 26 #[.string s] w fun e w' => e = .returned (.slice (some ⟨w.heap.size, 0, none⟩) (Lib.countB (trimB s) nl + 1) (Lib.countB (trimB s) nl + 1)) ∧ w.alloc (.cells ((linesB s).map Value.string).toArray 9) = w' := by
  have ht : (trimB s).size ≤ s.size := by
    have e : (trimB s).size = (Lib.trimSuffix s.data.toList [10]).length := by unfold trimB; rfl
    rw [e]
    unfold Lib.trimSuffix
    split
    · have : s.data.toList.length = s.size := rfl
      rw [List.length_take]; omega
    · exact Nat.le_refl _
  have hc := Tryz.strings_TrimSuffix s ⟨#[10]⟩ w (by omega)
  have hc' := hc.mono (R' := fun e w' => e = .returned (.string (trimB s)) ∧ w = w') (fun _ _ h => ⟨h.1, h.2.symm⟩)
  have hd := Tryz.strings_Split (trimB s) ⟨#[10]⟩ m w (by omega) hm (by decide)
  have hl : linesB s = Lib.splitB nl 0 (Lib.countB (trimB s) nl) (trimB s) := by unfold linesB; rw [h0]; simp
  have hd' := hd.mono (R' := fun e w' => e = .returned (.slice (some ⟨w.heap.size, 0, none⟩) (Lib.countB (trimB s) nl + 1) (Lib.countB (trimB s) nl + 1)) ∧ w.alloc (.cells ((linesB s).map Value.string).toArray 9) = w') (fun _ _ h => ⟨h.1, by rw [h.2, hl]; rfl⟩)
  clear hc hd hl ht
  generalize Lib.countB (trimB s) nl = N at hd' ⊢
  generalize linesB s = L at hd' ⊢
  generalize trimB s = t at hc' hd'
  go_enter Tryz.func26, Tryz.ntmps26
  go_wp2_with (first | (go_at_call 55; refine hc'.mono ?_; rintro e w' ⟨rfl, rfl⟩) | (go_at_call 54; refine hd'.mono ?_; rintro e w' ⟨rfl, rfl⟩))
  go_ret
  exact ⟨rfl, rfl⟩

theorem linesB_length (s : ByteArray) (h0 : s.toList.isEmpty = false) : (linesB s).length = Lib.countB (trimB s) nl + 1 := by
  unfold linesB
  rw [h0]
  exact Lib.splitB_all nl (by decide) 0 _ _ rfl

theorem empty_of_toList {s : ByteArray} (h : s.toList.isEmpty = true) : s = ByteArray.empty := by
  apply ByteArray.ext
  apply Array.toList_inj.1
  have : s.toList = [] := by simpa using h
  rw [ByteArray.toList_eq] at this
  rw [this]; rfl

/-- linesOf: the text's lines, in memory of their own -/
theorem linesOf_any (s : ByteArray) (m : Int) (w : World) (hs : s.size < 4294967281) (hm : w.cell? ⟨0, 0, none⟩ = some (.int .i64 m)) :
    Calls Tryz.prog 26 #[.string s] w fun e w' => ∃ a cap, e = .returned (.slice a (linesB s).length cap) ∧ Strs w'.heap.size w' (.slice a (linesB s).length cap) (linesB s) ∧ Below w.heap.size w w' := by
  by_cases h0 : s.toList.isEmpty = true
  · have hl : linesB s = [] := by unfold linesB; rw [if_pos h0]
    rw [hl]
    have := empty_of_toList h0
    subst this
    refine (linesOf_nil w).mono ?_
    rintro e w' ⟨rfl, rfl⟩
    exact ⟨none, 0, rfl, .inl ⟨rfl, none, 0, rfl⟩, Below.refl _ _⟩
  · replace h0 : s.toList.isEmpty = false := by simpa using h0
    have hl := linesB_length s h0
    refine (linesOf_some s m w hs h0 hm).mono ?_
    rintro e w' ⟨rfl, rfl⟩
    refine ⟨_, _, by rw [hl], .inr ⟨w.heap.size, 0, _, rfl, by simp, fun i hi => ?_⟩, (Below.refl _ _).alloc (Nat.le_refl _) _⟩
    refine cell_of (t := 9) (fr := (0, 0)) (heap_alloc_new w _) ?_
    simp [hi, List.getD]
end Go.Proofs.YtcclgodahlinbaaGreatDoor
