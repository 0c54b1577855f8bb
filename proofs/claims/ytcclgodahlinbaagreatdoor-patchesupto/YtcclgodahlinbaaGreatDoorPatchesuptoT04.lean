import Derived.Test.YtcclgodahlinbaaGreatDoorPatchesuptoT03
import Derived.RangeFuncNested
import Derived.RangeFuncBound
import Derived.RangeFuncCalls
import Derived.RangeFuncLeaves
import Derived.Shelf.Abstract
import Derived.Shelf.RegionOpen
import Derived.WalkKit
import Derived.OwnWalkIn
import Derived.TacticsInMore
import Derived.LoopNIn
import Derived.LoopIn
import Derived.Lib.OthersKept
import Derived.Lib.RuneCount
import Derived.WalkSmall
import Derived.Laws.IdiomStrings
import Derived.Lib.SplitLaws
import Derived.Test.YtcclgodahlinbaaGreatDoorPatchesuptoT01
import Derived.BigQuiet
import Derived.Deep.QuietTactic
namespace Go.Proofs.YtcclgodahlinbaaGreatDoor
open Go.RowKit Go
set_option maxRecDepth 100000
theorem HSo.push2 {base g cap : Nat} {v vl : Value} {hv : List HV} {w w1 w3 : World} {ob : Obj} (h : HSo base v hv w) (H : HunkM) (hb : Below w.heap.size w w1) (hvl : w1.ownsRow w.heap.size 93 2 vl H.lines.length (stepCells H.lines)) (hbase : base ≤ w.heap.size)
    (hgr : (w1.alloc ob).grownBy w3 v.ownBlock) (hown : w3.ownsRow base 61 5 (.slice (some ⟨g, 0, none⟩) (hv.length + 1) cap) (hv.length + 1) (hunkCells hv ++ hunkCells1 (H, vl))) :
    HSo base (.slice (some ⟨g, 0, none⟩) (hv.length + 1) cap) (hv ++ [(H, vl)]) w3 := by
  have hlen : (hv ++ [(H, vl)]).length = hv.length + 1 := by simp
  have hne : ∀ {vv : Value} {n : Nat} {xs : List Value} {b : Nat}, w1.ownsRow b 93 2 vv n xs → vv.ownBlock = none ∨ vv.ownBlock ≠ v.ownBlock := by
    intro vv n xs b ho
    cases hx : vv.ownBlock with
    | none => exact .inl rfl
    | some k =>
      right
      intro e
      obtain ⟨c1, q1⟩ := owns_block ho hx
      have hrow := owns_below h.owns hb (fun j e => (h.owns.lt j e).2)
      obtain ⟨c2, q2⟩ := owns_block hrow e.symm
      rw [q1] at q2
      cases q2
  refine .inr ⟨g, cap, by rw [hlen], (hown.lt g rfl).1, ?_⟩
  rw [hlen]
  refine ⟨by simp, ?_, ?_, ?_⟩
  · rw [hunkCells_append]; simpa [hunkCells] using hown
  · intro p hp
    rw [List.mem_append] at hp
    rcases hp with hp | hp
    · rcases h with ⟨rfl, _⟩ | ⟨g0, cap0, e, _, hs⟩
      · simp at hp
      · have h1 := owns_below (hs.lines p hp) hb (fun j e => ((hs.lines p hp).lt j e).2)
        exact (h1.alloc ob).kept hgr (hne h1)
    · rw [List.mem_singleton] at hp
      subst hp
      exact owns_mono ((hvl.alloc ob).kept hgr (hne hvl)) hbase
  · rw [List.pairwise_append]
    refine ⟨?_, by simp, fun p hp q hq => ?_⟩
    · rcases h with ⟨rfl, _⟩ | ⟨g0, cap0, e, _, hs⟩
      · exact List.Pairwise.nil
      · exact hs.apart
    · rw [List.mem_singleton] at hq
      subst hq
      rcases h with ⟨rfl, _⟩ | ⟨g0, cap0, e, _, hs⟩
      · simp at hp
      · cases hx : p.2.ownBlock with
        | none => exact .inl rfl
        | some k =>
          right
          intro e2
          have h1 := ((hs.lines p hp).lt k hx).2
          have h2 := (hvl.lt k e2.symm).1
          omega
end Go.Proofs.YtcclgodahlinbaaGreatDoor
namespace Go.Proofs.YtcclgodahlinbaaGreatDoor
open Go.RowKit Go
set_option maxRecDepth 100000
def textB (l : List ByteArray) : ByteArray := ⟨(textL l).toArray⟩
end Go.Proofs.YtcclgodahlinbaaGreatDoor
namespace Go.Proofs.YtcclgodahlinbaaGreatDoor
open Go.RowKit Go
set_option maxRecDepth 100000
theorem strCells_length (L : List ByteArray) : (strCells L).length = L.length := by simp [strCells]
end Go.Proofs.YtcclgodahlinbaaGreatDoor
namespace Go.Proofs.YtcclgodahlinbaaGreatDoor
open Go.RowKit Go
set_option maxRecDepth 100000
def lettersF (s : ByteArray) : Nat → Nat → Nat → List ByteArray → Nat × List ByteArray
  | 0, _, begin', acc => (begin', acc)
  | k + 1, pos, begin', acc => if pos < s.size then lettersF s k (pos + (Utf8.decode s pos).2) (if begin' < pos then pos else begin') (if begin' < pos then acc ++ [s.extract begin' pos] else acc) else (begin', acc)
def lettersB (s : ByteArray) : List ByteArray := if (lettersF s (s.size + 1) 0 0 []).1 < s.size then (lettersF s (s.size + 1) 0 0 []).2 ++ [s.extract (lettersF s (s.size + 1) 0 0 []).1 s.size] else (lettersF s (s.size + 1) 0 0 []).2
def catL (l : List ByteArray) : List UInt8 := l.flatMap fun s => s.data.toList
theorem catL_append (a b : List ByteArray) : catL (a ++ b) = catL a ++ catL b := by unfold catL; rw [List.flatMap_append]
theorem catL_one (s : ByteArray) : catL [s] = s.data.toList := by simp [catL]
theorem extract_list (s : ByteArray) (a b : Nat) : (s.extract a b).data.toList = (s.data.toList.drop a).take (b - a) := by
  rw [Lib.extract_data]
theorem take_more {α : Type} (l : List α) {a b : Nat} (h : a ≤ b) : l.take a ++ (l.drop a).take (b - a) = l.take b := by
  conv => rhs; rw [show b = a + (b - a) by omega, List.take_add]
theorem letters_one {s : ByteArray} {a b : Nat} (h : a < b) (hb : b ≤ s.size) : (s.extract a b).size ≠ 0 := by
  rw [ByteArray.size_extract]; omega
theorem lettersF_ok (s : ByteArray) : ∀ (k pos begin' : Nat) (acc : List ByteArray), begin' ≤ s.size → catL acc = s.data.toList.take begin' → (∀ t ∈ acc, t.size ≠ 0) → acc.length ≤ begin' →
    (lettersF s k pos begin' acc).1 ≤ s.size ∧ catL (lettersF s k pos begin' acc).2 = s.data.toList.take (lettersF s k pos begin' acc).1 ∧ (∀ t ∈ (lettersF s k pos begin' acc).2, t.size ≠ 0) ∧ (lettersF s k pos begin' acc).2.length ≤ (lettersF s k pos begin' acc).1 := by
  intro k
  induction k with
  | zero => intro pos b acc h1 h2 h3 h4; exact ⟨h1, h2, h3, h4⟩
  | succ k ih =>
    intro pos b acc h1 h2 h3 h4
    unfold lettersF
    split
    · rename_i hp
      by_cases hb : b < pos
      · rw [if_pos hb, if_pos hb]
        refine ih _ _ _ (by omega) ?_ ?_ (by simp; omega)
        · rw [catL_append, catL_one, h2, extract_list, take_more _ (by omega)]
        · intro t ht
          rw [List.mem_append, List.mem_singleton] at ht
          rcases ht with ht | rfl
          · exact h3 t ht
          · exact letters_one hb (by omega)
      · rw [if_neg hb, if_neg hb]
        exact ih _ _ _ h1 h2 h3 h4
    · exact ⟨h1, h2, h3, h4⟩
theorem letters_ok (s : ByteArray) : catL (lettersB s) = s.data.toList ∧ (∀ t ∈ lettersB s, t.size ≠ 0) ∧ (lettersB s).length ≤ s.size := by
  obtain ⟨h1, h2, h3, h4⟩ := lettersF_ok s (s.size + 1) 0 0 [] (Nat.zero_le _) (by simp [catL]) (by simp) (by simp)
  have hs : s.data.toList.length = s.size := rfl
  unfold lettersB
  split
  · rename_i hl
    refine ⟨?_, ?_, by simp; omega⟩
    · rw [catL_append, catL_one, h2, extract_list, take_more _ (by omega), List.take_of_length_le (by omega)]
    · intro t ht
      rw [List.mem_append, List.mem_singleton] at ht
      rcases ht with ht | rfl
      · exact h3 t ht
      · exact letters_one hl (Nat.le_refl _)
  · rename_i hl
    exact ⟨by rw [h2, List.take_of_length_le (by omega)], h3, by omega⟩
set_option maxHeartbeats 4000000 in
theorem lettersOf_any (s : ByteArray) (w : World) (hs : s.size ≤ 1000) :
    Calls Tryz.prog 116 #[.string s] w fun e w' => ∃ v, e = .returned v ∧ w'.ownsRow w.heap.size 9 1 v (lettersB s).length (strCells (lettersB s)) ∧ Below w.heap.size w w' := by
  obtain ⟨i0, hi, hz0, hz1, hz2⟩ := info_parts info_str
  have hend : Hid (∀ b acc, lettersF s (s.size + 1) 0 0 [] = (b, acc) → lettersB s = if b < s.size then acc ++ [s.extract b s.size] else acc) := by
    intro b acc e; unfold lettersB; rw [e]
  go_enter Tryz.func116, Tryz.ntmps116
  go_wp2_with fail
  go_loopg [3, 4] (s.size + 1) (fun g v vb wr => ∃ (pos fuel b n : Nat) (acc : List ByteArray), g = fuel ∧ s.size < pos + fuel ∧ b ≤ pos ∧ b ≤ s.size ∧ n ≤ b ∧ vb = .int .i64 b ∧ wr.heap[w.heap.size]? = some (.stringIter s pos) ∧ wr.ownsRow (w.heap.size + 1) 9 1 v n (strCells acc) ∧ Hid (lettersF s fuel pos b acc = lettersF s (s.size + 1) 0 0 []) ∧ Below w.heap.size w wr)
  case atStart => exact ⟨0, s.size + 1, 0, 0, [], rfl, by omega, by omega, by omega, by omega, rfl, World.iter_heap w s 0, World.ownsRow_nil _ _ _ _, rfl, (Below.refl _ _).alloc (Nat.le_refl _) _⟩
  case round =>
    obtain ⟨pos, fuel, b, n, acc, rfl, hpf, hbp, hbs, hnb, rfl, hit, hown, HS, hbw⟩ := hrel
    have hszr := hbw.size
    obtain ⟨al, cl, rfl⟩ := owns_isSlice hown
    have hwlt : w.heap.size < wr.heap.size := (Array.getElem?_eq_some_iff.1 hit).1
    have hlen : acc.length = n := by have := hown.1; rw [strCells_length] at this; omega
    have hon : ∀ t : ByteArray, ∀ u ∈ [Value.string t], u.oneCell' = true := by intro t u hu; simp at hu; subst hu; rfl
    by_cases hp : pos < s.size
    · have hnx : ∀ ty, (Instr.next (.pointer (some ⟨w.heap.size, 0, none⟩)) true ty).run Tryz.prog wr = _ := fun ty => Lib.run_next_any_at wr w.heap.size s pos ty hit hp
      have hwd := Lib.decode_width_pos s pos hp
      obtain ⟨f', rfl⟩ : ∃ f', gk = f' + 1 := ⟨gk - 1, by omega⟩
      have hit2 := Lib.iterAt_heap wr w.heap.size s pos (pos + (Utf8.decode s pos).2) hit
      have hbw2 := Lib.below_iterAt hbw (k := w.heap.size) (Nat.le_refl _) s (pos + (Utf8.decode s pos).2)
      have hown2 := ownsRow_iterAt hown (k := w.heap.size) (by omega) s (pos + (Utf8.decode s pos).2)
      have hs2 : (wr.iterAt w.heap.size s (pos + (Utf8.decode s pos).2)).heap.size = wr.heap.size := Lib.iterAt_size _ _ _ _
      have HS2 : Hid (lettersF s f' (pos + (Utf8.decode s pos).2) (if b < pos then pos else b) (if b < pos then acc ++ [s.extract b pos] else acc) = lettersF s (s.size + 1) 0 0 []) := by
        have := HS.out
        unfold lettersF at this
        rw [if_pos hp] at this
        exact this
      clear HS hend
      generalize (Utf8.decode s pos).2 = wd at *
      by_cases hb : b < pos
      · have hbI : (b : Int) < pos := by omega
        have hb0 : (b : Int) ≤ pos := by omega
        have hpI : (pos : Int) ≤ s.size := by omega
        rw [if_pos hb, if_pos hb] at HS2
        go_wp2_with (at_builtin; refine wpList_append_own2 rfl (.tmp 14) (.tmp 19) 27 rfl (w.heap.size + 1) 9 i0 _ 1 16 Tryz.underlying27 hi hz0 hz1 hz2 rfl (by decide) (.slice al n cl) n (strCells acc) rfl (hown2.alloc _) ⟨wr.heap.size, 0, none⟩ 1 1 [.string (s.extract b pos)] rfl rfl (cells_new' hs2 [.string (s.extract b pos)] 9) (hon _) (by unfold maxLen; omega) (by omega) (by simp [hs2]; omega) ?_; intro v' w3 hown3 hgr hnew; have hb3 := (hbw2.alloc (by omega) _).grown hgr (by simp [hs2]; omega) (fun j e => by have := (hown2.lt j e).1; omega))
        have hit3 : w3.heap[w.heap.size]? = some (.stringIter s (pos + wd)) := by
          rw [hgr.block w.heap.size (by simp [hs2]; omega) (fun e => by have := (hown2.lt _ e.symm).1; omega), Below.heap_alloc _ _ _ (by omega)]
          exact hit2
        go_roundg f'
        · exact ⟨pos + wd, f', pos, n + 1, acc ++ [s.extract b pos], rfl, by omega, by omega, by omega, by omega, rfl, hit3, by rw [strCells_append]; exact hown3, HS2, hb3⟩
        · omega
      · have hbI : ¬ (b : Int) < pos := by omega
        rw [if_neg hb, if_neg hb] at HS2
        go_wp2_with fail
        go_roundg f'
        · exact ⟨pos + wd, f', b, n, acc, rfl, by omega, by omega, by omega, by omega, rfl, hit2, hown2, HS2, hbw2⟩
        · omega
    · have hnx : ∀ ty, (Instr.next (.pointer (some ⟨w.heap.size, 0, none⟩)) true ty).run Tryz.prog wr = _ := fun ty => Lib.run_next_end_at wr w.heap.size s pos ty hit hp
      have hfe : lettersF s (s.size + 1) 0 0 [] = (b, acc) := by
        rw [← HS.out]
        cases gk with
        | zero => rfl
        | succ k => unfold lettersF; rw [if_neg hp]
      have hB := hend.out b acc hfe
      clear hend HS hfe
      by_cases hb : b < s.size
      · rw [if_pos hb] at hB
        have hbI : (b : Int) < s.size := by omega
        have hB' : Hid (lettersB s = acc ++ [s.extract b s.size]) := hB
        clear hB
        go_wp2_with (at_builtin; refine wpList_append_own2 rfl (.tmp 26) (.tmp 30) 27 rfl (w.heap.size + 1) 9 i0 _ 1 16 Tryz.underlying27 hi hz0 hz1 hz2 rfl (by decide) (.slice al n cl) n (strCells acc) rfl (hown.alloc _) ⟨wr.heap.size, 0, none⟩ 1 1 [.string (s.extract b s.size)] rfl rfl (cells_new wr [.string (s.extract b s.size)] 9) (hon _) (by unfold maxLen; omega) (by omega) (by simp; omega) ?_; intro v' w3 hown3 hgr hnew; have hb3 := (hbw.alloc (by omega) _).grown hgr (by simp; omega) (fun j e => by have := (hown.lt j e).1; omega))
        go_ret
        refine ⟨_, rfl, ?_, hb3⟩
        rw [hB'.out, strCells_append, List.length_append, hlen]
        refine ⟨hown3.1, ?_⟩
        rcases hown3.2 with h | ⟨g, cap, cur, e, h1, h2⟩
        · exact .inl h
        · exact .inr ⟨g, cap, cur, e, by omega, h2⟩
      · rw [if_neg hb] at hB
        have hbI : ¬ (b : Int) < s.size := by omega
        have hB' : Hid (lettersB s = acc) := hB
        clear hB
        go_wp2_with fail
        go_ret
        refine ⟨_, rfl, ?_, hbw⟩
        rw [hB'.out, hlen]
        refine ⟨hown.1, ?_⟩
        rcases hown.2 with h | ⟨g, cap, cur, e, h1, h2⟩
        · exact .inl h
        · exact .inr ⟨g, cap, cur, e, by omega, h2⟩
end Go.Proofs.YtcclgodahlinbaaGreatDoor
namespace Go.Proofs.YtcclgodahlinbaaGreatDoor
open Go.RowKit Go
set_option maxRecDepth 100000
def runLen (L : List StepB) (k : Nat) : Nat := ((L.drop k).takeWhile (fun s => decide (s.kind = (L.getD k ⟨0, ByteArray.empty⟩).kind))).length
def runAt (L : List StepB) (b e : Nat) : StepB := ⟨(L.getD b ⟨0, ByteArray.empty⟩).kind, ⟨(catL (((L.take e).drop b).map (·.text))).toArray⟩⟩
def runsF (L : List StepB) : Nat → Nat → List StepB
  | 0, _ => []
  | k + 1, b => if b < L.length then runAt L b (b + runLen L b) :: runsF L k (b + runLen L b) else []
def runsM (L : List StepB) : List StepB := runsF L L.length 0
theorem runLen_pos {L : List StepB} {k : Nat} (h : k < L.length) : 0 < runLen L k ∧ k + runLen L k ≤ L.length := by
  unfold runLen
  refine ⟨?_, ?_⟩
  · rw [List.drop_eq_getElem_cons h, List.takeWhile_cons_of_pos (by simp [List.getD, h])]
    simp
  · have := (List.takeWhile_prefix (l := L.drop k) (fun s => decide (s.kind = (L.getD k ⟨0, ByteArray.empty⟩).kind))).length_le
    rw [List.length_drop] at this
    omega
theorem runLen_in {L : List StepB} {k j : Nat} (h : k < L.length) (hj : j < runLen L k) : k + j < L.length ∧ ∀ h', (L[k + j]'h').kind = (L.getD k ⟨0, ByteArray.empty⟩).kind := by
  have hp := (runLen_pos h).2
  refine ⟨by omega, fun h' => ?_⟩
  unfold runLen at hj
  have hm := List.getElem_mem hj
  have h1 := List.all_eq_true.1 (List.all_takeWhile (l := L.drop k) (p := fun s => decide (s.kind = (L.getD k ⟨0, ByteArray.empty⟩).kind))) _ hm
  simp only [decide_eq_true_eq] at h1
  rw [← h1, (List.takeWhile_prefix (l := L.drop k) (fun s => decide (s.kind = (L.getD k ⟨0, ByteArray.empty⟩).kind))).getElem hj, List.getElem_drop]
theorem runLen_end {L : List StepB} {k : Nat} (h : k < L.length) (h' : k + runLen L k < L.length) : L[k + runLen L k].kind ≠ (L.getD k ⟨0, ByteArray.empty⟩).kind := by
  have key : ∀ (l : List StepB) (p : StepB → Bool) (hl : (l.takeWhile p).length < l.length), p (l[(l.takeWhile p).length]) = false := by
    intro l p
    induction l with
    | nil => intro hl; simp at hl
    | cons a l ih =>
      intro hl
      by_cases ha : p a = true
      · have e : (a :: l).takeWhile p = a :: l.takeWhile p := List.takeWhile_cons_of_pos ha
        simp only [e, List.length_cons, List.getElem_cons_succ]
        exact ih (by have h2 := hl; rw [e] at h2; simpa using h2)
      · have e : (a :: l).takeWhile p = [] := List.takeWhile_cons_of_neg ha
        simp only [e, List.length_nil, List.getElem_cons_zero]
        simpa using ha
  have hl : ((L.drop k).takeWhile (fun s => decide (s.kind = (L.getD k ⟨0, ByteArray.empty⟩).kind))).length < (L.drop k).length := by
    rw [List.length_drop]
    unfold runLen at h'
    omega
  have := key (L.drop k) _ hl
  simp only [decide_eq_false_iff_not, List.getElem_drop] at this
  exact this
end Go.Proofs.YtcclgodahlinbaaGreatDoor
namespace Go.Proofs.YtcclgodahlinbaaGreatDoor
open Go.RowKit Go
set_option maxRecDepth 100000
theorem info_run : (Tryz.prog.info? 101).map (fun i => (i.zero, i.size, i.bytes)) = some (some (.agg #[.int .u8 0, .string ByteArray.empty]), 2, 24) := by kernel_rfl
theorem byteCells_cat (l : List ByteArray) (s : ByteArray) : Lib.byteCells (catL l) ++ Lib.strCells s = Lib.byteCells (catL (l ++ [s])) := by
  rw [catL_append, catL_one]
  simp [Lib.byteCells, Lib.strCells]
theorem catL_take_le (L : List StepB) (b e : Nat) : (catL (((L.take e).drop b).map (·.text))).length ≤ (catL (L.map (·.text))).length := by
  have h1 : ∀ (a c : List StepB), (catL ((a ++ c).map (·.text))).length = (catL (a.map (·.text))).length + (catL (c.map (·.text))).length := by intro a c; rw [List.map_append, catL_append, List.length_append]
  have h2 := h1 (L.take e) (L.drop e)
  rw [List.take_append_drop] at h2
  have h3 := h1 ((L.take e).take b) ((L.take e).drop b)
  rw [List.take_append_drop] at h3
  omega
theorem step_take (L : List StepB) {b e : Nat} (hb : b ≤ e) (he : e < L.length) : ((L.take (e + 1)).drop b).map (·.text) = ((L.take e).drop b).map (·.text) ++ [L[e].text] := by
  rw [List.take_succ_eq_append_getElem he, List.drop_append_of_le_length (by rw [List.length_take]; omega)]
  simp
theorem owns_lowR {B base n : Nat} {w w' : World} {v : Value} {xs : List Value} (h : w.ownsRow base 101 2 v n xs) (hb : Below B w w') (hB : ∀ g, v.ownBlock = some g → g < B) : w'.ownsRow base 101 2 v n xs := by
  refine ⟨h.1, ?_⟩
  rcases h.2 with h2 | ⟨g, cap, cur, e, h1, h2, h3⟩
  · exact .inl h2
  · exact .inr ⟨g, cap, cur, e, h1, (hb.block g (hB g (by rw [e]; rfl))).trans h2, h3⟩
set_option maxHeartbeats 4000000 in
theorem runsOf_any {L : List StepB} {a : Option Addr} {cap : Nat} {w : World} (hS : StepsAt w.heap.size w (.slice a L.length cap) L) (hL : L.length ≤ 1000) (hT : (catL (L.map (·.text))).length ≤ 100000) :
    Calls Tryz.prog 115 #[.slice a L.length cap] w fun e w' => ∃ v, e = .returned v ∧ w'.ownsRow w.heap.size 101 2 v (runsM L).length (stepCells (runsM L)) ∧ Below w.heap.size w w' := by
  obtain ⟨i0, hi, hz0, hz1, hz2⟩ := info_parts info_run
  go_enter Tryz.func115, Tryz.ntmps115
  go_wp2_with fail
  go_loopg [3, 4] L.length (fun g v t wr => ∃ (b fuel n : Nat) (R : List StepB), g = L.length - b ∧ b ≤ L.length ∧ L.length ≤ b + fuel ∧ t = .int .i64 b ∧ n ≤ b ∧ wr.ownsRow w.heap.size 101 2 v n (stepCells R) ∧ R.length = n ∧ Hid (R ++ runsF L fuel b = runsM L) ∧ Below w.heap.size w wr)
  case atStart => exact ⟨0, L.length, 0, [], by omega, by omega, by omega, rfl, by omega, World.ownsRow_nil _ _ _ _, rfl, rfl, Below.refl _ _⟩
  case round =>
    obtain ⟨b, fuel, n, R, hgk, hbl, hbf, rfl, hnb, hown, hRn, HR, hbw⟩ := hrel
    have hszr := hbw.size
    obtain ⟨ar, cr, rfl⟩ := owns_isSlice hown
    have hG : Hid (gk = L.length - b) := hgk
    clear hgk
    by_cases hb : b < L.length
    · have hbI : (b : Int) < L.length := by omega
      obtain ⟨sb, rfl, hsb, k0, _⟩ := (hS.below hbw).at hb
      obtain ⟨rp1, rp2⟩ := runLen_pos hb
      obtain ⟨f', rfl⟩ : ∃ f', fuel = f' + 1 := ⟨fuel - 1, by omega⟩
      have HR2 : Hid ((R ++ [runAt L b (b + runLen L b)]) ++ runsF L f' (b + runLen L b) = runsM L) := by
        have := HR.out
        rw [runsF, if_pos hb] at this
        show _ = _
        rw [← this, List.append_assoc]
        rfl
      have hkd : (L.getD b ⟨0, ByteArray.empty⟩).kind = L[b].kind := by simp [List.getD, hb]
      have hin := fun j (hj : j < runLen L b) => runLen_in hb hj
      have hen := fun h' => runLen_end hb h'
      rw [hkd] at hen
      have hrun : runAt L b (b + runLen L b) = ⟨L[b].kind, ⟨(catL (((L.take (b + runLen L b)).drop b).map (·.text))).toArray⟩⟩ := by unfold runAt; rw [hkd]
      rw [hrun] at HR2
      simp only [hkd] at hin
      clear hrun hkd HR
      have hinH : Hid (∀ j, j < runLen L b → b + j < L.length ∧ ∀ h', (L[b + j]'h').kind = L[b].kind) := hin
      have henH : Hid (∀ h', (L[b + runLen L b]'h').kind ≠ L[b].kind) := hen
      clear hin hen
      generalize runLen L b = r at *
      generalize hkk : L[b].kind = kd at *
      have hkk' : Hid (L[b].kind = kd) := hkk
      clear hkk
      have hst := hS.below hbw
      have hU := heap_alloc_new wr (.cells #[.pointer none, .slice none 0 0] 74)
      have bU := (Below.refl wr.heap.size wr).alloc (Nat.le_refl _) (.cells #[.pointer none, .slice none 0 0] 74)
      have sU : (wr.alloc (.cells #[.pointer none, .slice none 0 0] 74)).heap.size = wr.heap.size + 1 := by simp
      have k0' : (wr.alloc (.cells #[.pointer none, .slice none 0 0] 74)).cell? ⟨sb, b * 2, none⟩ = some (.int .u8 (kd : Nat)) := (bU.cell (p := ⟨sb, b * 2, none⟩) (by show sb < wr.heap.size; omega)).trans k0
      have hB0 : ∃ ad vb, BldM wr.heap.size ad vb (Lib.byteCells (catL (((L.take b).drop b).map (·.text)))) (wr.alloc (.cells #[.pointer none, .slice none 0 0] 74)) := by
        rw [List.drop_eq_nil_of_le (by rw [List.length_take]; omega)]
        exact ⟨_, _, ⟨hU, .inl rfl, World.ownsRow_nil _ _ _ _⟩⟩
      clear k0
      go_wp2_with fail
      generalize wr.alloc (.cells #[.pointer none, .slice none 0 0] 74) = U at *
      go_loopg [7] r (fun g t wi => ∃ e : Nat, g = b + r - e ∧ b ≤ e ∧ e ≤ b + r ∧ t = .int .i64 e ∧ (∃ ad vb, BldM wr.heap.size ad vb (Lib.byteCells (catL (((L.take e).drop b).map (·.text)))) wi) ∧ Below wr.heap.size U wi)
      case atStart => exact ⟨b, by omega, by omega, by omega, rfl, hB0, Below.refl _ _⟩
      case round =>
        rename World => wi
        obtain ⟨e, hge, he1, he2, rfl, ⟨ad, vb, hbm⟩, hbi⟩ := hrel
        have hGe : Hid (_ = b + r - e) := hge
        clear hge
        have hbwi : Below wr.heap.size wr wi := bU.trans hbi
        have hsti : StepsAt w.heap.size wi (.slice (some ⟨sb, 0, none⟩) L.length cap) L := hst.below (hbwi.mono hszr)
        have hszi := hbwi.size
        have hlti := hbm.lt
        by_cases her : e < b + r
        · obtain ⟨hel, hek⟩ := hinH.out (e - b) (by omega)
          have hel' : e < L.length := by omega
          have heI : (e : Int) < L.length := by omega
          obtain ⟨sb2, e2, _, c0, c1⟩ := hsti.at hel'
          cases e2
          have hke : L[e].kind = kd := by have := hek (by omega); rw [← this]; congr 2; omega
          rw [hke] at c0
          have hst2 := step_take L he1 hel'
          have htl := catL_take_le L b (e + 1)
          rw [hst2, catL_append, catL_one, List.length_append] at htl
          have hcs : L[e].text.data.toList.length = L[e].text.size := rfl
          have hwb := writeString_bld L[e].text hbm (by rw [Lib.byteCells_length]; omega)
          have hst3 : Hid (((L.take (e + 1)).drop b).map (·.text) = ((L.take e).drop b).map (·.text) ++ [L[e].text]) := hst2
          clear hst2 htl hcs hek hke
          go_wp2_with fail
          refine hwb.mono ?_
          rintro e' wj ⟨rfl, vb', hbm', bj, _⟩
          go_wp2_with fail
          go_roundg (b + r - (e + 1))
          · exact ⟨e + 1, rfl, by omega, by omega, by push_cast; rfl, ⟨_, vb', by rw [hst3.out, ← byteCells_cat]; exact hbm'⟩, hbi.trans bj⟩
          · have := hGe.out; omega
        · obtain rfl : e = b + r := by omega
          have hstr := bstring_bld ⟨ad, vb, hbm⟩
          have hownI := owns_lowR hown hbwi (fun g e => (hown.lt g e).2)
          have hlen := catL_take_le L b (b + r)
          generalize hTX : (⟨(catL (((L.take (b + r)).drop b).map (·.text))).toArray⟩ : ByteArray) = TX at *
          clear hTX
          have hfin : ∀ (W : World), Below wr.heap.size wr W → W.ownsRow w.heap.size 101 2 (.slice ar n cr) n (stepCells R) := fun W hW => owns_lowR hown hW (fun g e => (hown.lt g e).2)
          have hone : ∀ u ∈ [Value.int .u8 (kd : Int), Value.string TX], u.oneCell' = true := by intro u hu; simp at hu; rcases hu with rfl | rfl <;> rfl
          have hcase : (¬ ((b + r : Nat) : Int) < L.length) ∨ ∃ h' : b + r < L.length, L[b + r].kind ≠ kd := by
            by_cases h' : b + r < L.length
            · exact .inr ⟨h', henH.out h'⟩
            · exact .inl (by omega)
          generalize hee : b + r = E at *
          have hEl : E ≤ L.length := by omega
          rcases hcase with hc1 | ⟨h', hkn⟩
          · go_wp2_with fail
            refine hstr.mono ?_
            rintro e' wj ⟨rfl, bj, _⟩
            have hj := hfin wj (hbwi.trans bj)
            have hsj := (hbwi.trans bj).size
            go_wp2_with (at_builtin; refine wpList_append_own2 rfl (.tmp 39) (.tmp 43) 100 rfl w.heap.size 101 i0 _ 2 24 Tryz.underlying100 hi hz0 hz1 hz2 rfl (by decide) (.slice ar n cr) n (stepCells R) rfl (hj.alloc _) ⟨wj.heap.size, 0, none⟩ 1 1 [.int .u8 (kd : Int), .string TX] rfl rfl (cells_new wj [.int .u8 (kd : Int), .string TX] 101) hone (by unfold maxLen; omega) (by omega) (by simp; omega) ?_; intro v' w3 hown3 hgr hnew; have hb3 := ((hbw.trans ((hbwi.trans bj).mono hszr)).alloc (by omega) _).grown hgr (by simp; omega) (fun j e => (hj.lt j e).1))
            go_roundg (L.length - E)
            · exact ⟨E, f', n + 1, R ++ [⟨kd, TX⟩], rfl, hEl, by omega, rfl, by omega, by rw [stepCells_append]; exact hown3, by simp [hRn], HR2, hb3⟩
            · have := hG.out; omega
          · have heI : (E : Int) < L.length := by omega
            obtain ⟨sb2, e2, _, c0, c1⟩ := hsti.at h'
            cases e2
            generalize L[E].kind = ke at *
            have hkq : ((ke : Int) == (kd : Int)) = false := by simp; omega
            go_wp2_with fail
            refine hstr.mono ?_
            rintro e' wj ⟨rfl, bj, _⟩
            have hj := hfin wj (hbwi.trans bj)
            have hsj := (hbwi.trans bj).size
            go_wp2_with (at_builtin; refine wpList_append_own2 rfl (.tmp 39) (.tmp 43) 100 rfl w.heap.size 101 i0 _ 2 24 Tryz.underlying100 hi hz0 hz1 hz2 rfl (by decide) (.slice ar n cr) n (stepCells R) rfl (hj.alloc _) ⟨wj.heap.size, 0, none⟩ 1 1 [.int .u8 (kd : Int), .string TX] rfl rfl (cells_new wj [.int .u8 (kd : Int), .string TX] 101) hone (by unfold maxLen; omega) (by omega) (by simp; omega) ?_; intro v' w3 hown3 hgr hnew; have hb3 := ((hbw.trans ((hbwi.trans bj).mono hszr)).alloc (by omega) _).grown hgr (by simp; omega) (fun j e => (hj.lt j e).1))
            go_roundg (L.length - E)
            · exact ⟨E, f', n + 1, R ++ [⟨kd, TX⟩], rfl, hEl, by omega, rfl, by omega, by rw [stepCells_append]; exact hown3, by simp [hRn], HR2, hb3⟩
            · have := hG.out; omega
    · obtain rfl : b = L.length := by omega
      have hR : R = runsM L := by
        have := HR.out
        cases fuel with
        | zero => simpa [runsF] using this
        | succ k => unfold runsF at this; rw [if_neg hb] at this; simpa using this
      go_wp2_with fail
      go_ret
      exact ⟨_, rfl, by rw [← hR, hRn]; exact hown, hbw⟩
end Go.Proofs.YtcclgodahlinbaaGreatDoor
namespace Go.Proofs.YtcclgodahlinbaaGreatDoor
open Go.RowKit Go
set_option maxRecDepth 100000
def hasNl (s : ByteArray) : Bool := decide (0 ≤ Lib.indexByte s.data.toList 10)
def checkI (old fresh : ByteArray) : Nat := if 200 < old.size ∨ 200 < fresh.size then 1 else if hasNl old = true ∨ hasNl fresh = true then 2 else 0
theorem contains_any (s : ByteArray) (w : World) : Calls Tryz.prog 107 #[.string s, .string ⟨#[10]⟩] w fun e w' => e = .returned (.bool (hasNl s)) ∧ w = w' := by
  refine (Tryz.strings_Contains_one s 10 w).mono ?_
  rintro e w' ⟨rfl, rfl⟩
  exact ⟨rfl, rfl⟩
set_option maxHeartbeats 2000000 in
theorem checkInline_any (old fresh : ByteArray) (w : World) : Calls Tryz.prog 114 #[.string old, .string fresh] w fun e w' => e = .returned (.int .i64 (checkI old fresh : Nat)) ∧ w = w' := by
  have i1 := contains_any old w
  have i2 := contains_any fresh w
  unfold checkI
  by_cases h1 : 200 < old.size
  · have h1I : (200 : Int) < old.size := by omega
    rw [if_pos (.inl h1)]
    go_enter Tryz.func114, Tryz.ntmps114
    go_wp2
    go_ret
    exact ⟨rfl, rfl⟩
  · have h1I : ¬ (200 : Int) < old.size := by omega
    by_cases h2 : 200 < fresh.size
    · have h2I : (200 : Int) < fresh.size := by omega
      rw [if_pos (.inr h2)]
      go_enter Tryz.func114, Tryz.ntmps114
      go_wp2
      go_ret
      exact ⟨rfl, rfl⟩
    · have h2I : ¬ (200 : Int) < fresh.size := by omega
      rw [if_neg (by omega)]
      cases e1 : hasNl old with
      | true =>
        rw [e1] at i1
        rw [if_pos (.inl rfl)]
        go_enter Tryz.func114, Tryz.ntmps114
        go_wp2_with fail
        refine i1.mono ?_
        rintro e w' ⟨rfl, rfl⟩
        go_wp2
        go_ret
        exact ⟨rfl, rfl⟩
      | false =>
        rw [e1] at i1
        cases e2 : hasNl fresh with
        | true =>
          rw [e2] at i2
          rw [if_pos (.inr rfl)]
          go_enter Tryz.func114, Tryz.ntmps114
          go_wp2_with fail
          refine i1.mono ?_
          rintro e w' ⟨rfl, rfl⟩
          go_wp2_with fail
          refine i2.mono ?_
          rintro e w' ⟨rfl, rfl⟩
          go_wp2
          go_ret
          exact ⟨rfl, rfl⟩
        | false =>
          rw [e2] at i2
          rw [if_neg (by simp)]
          go_enter Tryz.func114, Tryz.ntmps114
          go_wp2_with fail
          refine i1.mono ?_
          rintro e w' ⟨rfl, rfl⟩
          go_wp2_with fail
          refine i2.mono ?_
          rintro e w' ⟨rfl, rfl⟩
          go_wp2
          go_ret
          exact ⟨rfl, rfl⟩
def inlineM (old fresh : ByteArray) : List StepB := runsM (Dn.wayM (lettersB old) (lettersB fresh))
set_option maxHeartbeats 2000000 in
theorem inline_no {old fresh : ByteArray} {k : Nat} (w : World) (h : checkI old fresh = k) (hk : k ≠ 0) :
    Calls Tryz.prog 83 #[.string old, .string fresh] w fun e w' => e = .returned (.tuple #[.slice none 0 0, .int .i64 k]) ∧ w = w' := by
  have hc := checkInline_any old fresh w
  rw [h] at hc
  have hq : ((k : Int) == 0) = false := by simp; omega
  have hq2 : ((k : Int) != 0) = true := by simp; omega
  go_enter Tryz.func83, Tryz.ntmps83
  go_wp2_with fail
  refine hc.mono ?_
  rintro e w' ⟨rfl, rfl⟩
  go_wp2
  go_ret2
  exact ⟨rfl, rfl⟩
theorem catL_len {l : List ByteArray} {k : Nat} (h : ∀ s ∈ l, s.size ≤ k) : (catL l).length ≤ l.length * k := by
  induction l with
  | nil => simp [catL]
  | cons a l ih =>
    have e : catL (a :: l) = a.data.toList ++ catL l := rfl
    have h1 := ih (fun s hs => h s (List.mem_cons_of_mem _ hs))
    have h2 : a.data.toList.length = a.size := rfl
    have h3 := h a (by simp)
    rw [e, List.length_append, List.length_cons, Nat.add_mul]
    omega
theorem letter_size {s t : ByteArray} (h : t ∈ lettersB s) : t.size ≤ s.size := by
  have h1 := (letters_ok s).1
  obtain ⟨a, b, e⟩ := List.append_of_mem h
  rw [e] at h1
  have h2 := congrArg List.length h1
  rw [catL_append] at h2
  have h3 : catL (t :: b) = t.data.toList ++ catL b := rfl
  rw [h3] at h2
  simp only [List.length_append] at h2
  have h4 : t.data.toList.length = t.size := rfl
  have h5 : s.data.toList.length = s.size := rfl
  omega
set_option maxHeartbeats 4000000 in
theorem inline_ok {old fresh : ByteArray} (w : World) (h : checkI old fresh = 0) :
    Calls Tryz.prog 83 #[.string old, .string fresh] w fun e w' => ∃ a cap, e = .returned (.tuple #[.slice a (inlineM old fresh).length cap, .int .i64 0]) ∧ w'.ownsRow w.heap.size 101 2 (.slice a (inlineM old fresh).length cap) (inlineM old fresh).length (stepCells (inlineM old fresh)) ∧ Below w.heap.size w w' := by
  have hc := checkInline_any old fresh w
  rw [h] at hc
  have hsz : old.size ≤ 200 ∧ fresh.size ≤ 200 := by
    unfold checkI at h
    split at h
    · cases h
    · omega
  have l1 := (letters_ok old).2.2
  have l2 := (letters_ok fresh).2.2
  have hw := way_len (lettersB old) (lettersB fresh)
  have hwt : (catL ((Dn.wayM (lettersB old) (lettersB fresh)).map (·.text))).length ≤ 100000 := by
    have := catL_len (l := (Dn.wayM (lettersB old) (lettersB fresh)).map (·.text)) (k := 200) (by
      intro s hs
      obtain ⟨x, hx, rfl⟩ := List.mem_map.1 hs
      rcases way_text hx with h | h
      · have := letter_size h; omega
      · have := letter_size h; omega)
    rw [List.length_map] at this
    have h2 := Nat.mul_le_mul_right 200 (show (Dn.wayM (lettersB old) (lettersB fresh)).length ≤ 400 by omega)
    omega
  have hLo := lettersOf_any old w (by omega)
  have hLf : Hid (∀ w2 : World, Calls Tryz.prog 116 #[.string fresh] w2 fun e w' => ∃ v, e = .returned v ∧ w'.ownsRow w2.heap.size 9 1 v (lettersB fresh).length (strCells (lettersB fresh)) ∧ Below w2.heap.size w2 w') := fun w2 => lettersOf_any fresh w2 (by omega)
  have hFi : Hid (∀ (w3 : World) ao capo af capf, Strs w3.heap.size w3 (.slice ao (lettersB old).length capo) (lettersB old) → Strs w3.heap.size w3 (.slice af (lettersB fresh).length capf) (lettersB fresh) →
      Calls Tryz.prog 25 #[.slice ao (lettersB old).length capo, .slice af (lettersB fresh).length capf] w3 fun e w' => ∃ a cap, e = .returned (.slice a (Dn.wayM (lettersB old) (lettersB fresh)).length cap) ∧ StepsAt w'.heap.size w' (.slice a (Dn.wayM (lettersB old) (lettersB fresh)).length cap) (Dn.wayM (lettersB old) (lettersB fresh)) ∧ Below w3.heap.size w3 w') := by
    intro w3 ao capo af capf s1 s2
    refine (find_row s1 s2 (by omega) (by omega)).mono ?_
    rintro e w' ⟨v, rfl, ho, hb⟩
    have hst := StepsAt.of_owns ho
    obtain ⟨a, cap, rfl⟩ := hst.slice
    exact ⟨a, cap, rfl, hst, hb⟩
  have hRu : Hid (∀ (w4 : World) a cap, StepsAt w4.heap.size w4 (.slice a (Dn.wayM (lettersB old) (lettersB fresh)).length cap) (Dn.wayM (lettersB old) (lettersB fresh)) →
      Calls Tryz.prog 115 #[.slice a (Dn.wayM (lettersB old) (lettersB fresh)).length cap] w4 fun e w' => ∃ v, e = .returned v ∧ w'.ownsRow w4.heap.size 101 2 v (inlineM old fresh).length (stepCells (inlineM old fresh)) ∧ Below w4.heap.size w4 w') := by
    intro w4 a cap hst
    exact runsOf_any hst (by omega) hwt
  clear hw hwt l1 l2 hsz h
  generalize inlineM old fresh = IM at *
  generalize lettersB old = Lo at *
  generalize lettersB fresh = Lf at *
  generalize Dn.wayM Lo Lf = WW at *
  go_enter Tryz.func83, Tryz.ntmps83
  go_wp2_with fail
  refine hc.mono ?_
  rintro e w' ⟨rfl, rfl⟩
  clear hc
  go_wp2_with fail
  refine hLo.mono ?_
  clear hLo
  rintro e w1 ⟨v1, rfl, o1, b1⟩
  obtain ⟨a1, c1, rfl⟩ := owns_isSlice o1
  have s1 := Strs.of_owns o1
  go_wp2_with fail
  refine (hLf.out w1).mono ?_
  rintro e w2 ⟨v2, rfl, o2, b2⟩
  obtain ⟨a2, c2, rfl⟩ := owns_isSlice o2
  have s2 := Strs.of_owns o2
  have z1 := b1.size
  have z2 := b2.size
  have s1' := (s1.below b2).mono b2.size
  go_wp2_with fail
  refine (hFi.out w2 _ _ _ _ s1' s2).mono ?_
  rintro e w3 ⟨a3, c3, rfl, st, b3⟩
  have z3 := b3.size
  go_wp2_with fail
  refine (hRu.out w3 _ _ st).mono ?_
  rintro e w4 ⟨v4, rfl, o4, b4⟩
  obtain ⟨a4, c4, rfl⟩ := owns_isSlice o4
  go_wp2_with fail
  go_ret2
  refine ⟨a4, c4, rfl, ⟨o4.1, ?_⟩, b1.trans ((b2.mono z1).trans ((b3.mono (by omega)).trans (b4.mono (by omega))))⟩
  rcases o4.2 with h | ⟨g, cap, cur, e, h1, h2⟩
  · exact .inl h
  · exact .inr ⟨g, cap, cur, e, by omega, h2⟩
end Go.Proofs.YtcclgodahlinbaaGreatDoor
namespace Go.Proofs.YtcclgodahlinbaaGreatDoor
open Go.RowKit Go
set_option maxRecDepth 100000
theorem index_nl : ∀ (a r : List UInt8), (10 : UInt8) ∉ a → Lib.index (a ++ 10 :: r) [10] = (a.length : Int)
  | [], r, _ => by rw [List.nil_append, Lib.index]; simp [List.isPrefixOf]
  | b :: a, r, h => by
    have hb : b ≠ 10 := by intro e; exact h (by simp [e])
    have ih := index_nl a r (fun e => h (List.mem_cons_of_mem _ e))
    have hp : ([10] : List UInt8).isPrefixOf (b :: (a ++ 10 :: r)) = false := by simp [List.isPrefixOf, Ne.symm hb]
    rw [List.cons_append, Lib.index, hp, ih]
    simp
theorem index_none : ∀ (a : List UInt8), (10 : UInt8) ∉ a → Lib.index a [10] = -1
  | [], _ => by simp [Lib.index]
  | b :: a, h => by
    have hb : b ≠ 10 := by intro e; exact h (by simp [e])
    have ih := index_none a (fun e => h (List.mem_cons_of_mem _ e))
    have hp : ([10] : List UInt8).isPrefixOf (b :: a) = false := by simp [List.isPrefixOf, Ne.symm hb]
    rw [Lib.index, hp, ih]
    simp
def joinL : List (List UInt8) → List UInt8
  | [] => []
  | [a] => a
  | a :: b :: l => a ++ 10 :: joinL (b :: l)
theorem joinL_count : ∀ (L : List (List UInt8)), (∀ a ∈ L, (10 : UInt8) ∉ a) → L ≠ [] → (joinL L).count 10 + 1 = L.length
  | [], _, h => absurd rfl h
  | [a], h, _ => by simp [joinL, List.count_eq_zero.2 (h a (by simp))]
  | a :: b :: l, h, _ => by
    have ih := joinL_count (b :: l) (fun x hx => h x (List.mem_cons_of_mem _ hx)) (by simp)
    rw [joinL, List.count_append, List.count_cons_self, List.count_eq_zero.2 (h a (by simp))]
    simp only [List.length_cons] at ih ⊢
    omega
theorem splitK_join : ∀ (L : List (List UInt8)), (∀ a ∈ L, (10 : UInt8) ∉ a) → L ≠ [] → ∀ k, k + 1 = L.length → Lib.splitK [10] 0 k (joinL L) = L
  | [], _, h, _, _ => absurd rfl h
  | [a], _, _, k, hk => by
    obtain rfl : k = 0 := by simpa using hk
    rfl
  | a :: b :: l, h, _, k, hk => by
    cases k with
    | zero => simp at hk
    | succ k =>
      have ih := splitK_join (b :: l) (fun x hx => h x (List.mem_cons_of_mem _ hx)) (by simp) k (by simpa using hk)
      have hi := index_nl a (joinL (b :: l)) (h a (by simp))
      rw [joinL, Lib.splitK, hi, if_neg (by simp)]
      have e1 : (a ++ 10 :: joinL (b :: l)).take (((a.length : Int)).toNat + 0) = a := by simp
      have e2 : (a ++ 10 :: joinL (b :: l)).drop (((a.length : Int)).toNat + [(10 : UInt8)].length) = joinL (b :: l) := by
        rw [Int.toNat_natCast, List.drop_append, List.drop_eq_nil_of_le (by simp)]
        simp
      rw [e1, e2, ih]
theorem textL_join : ∀ (L : List ByteArray), L ≠ [] → textL L = joinL (L.map (·.data.toList)) ++ [10]
  | [], h => absurd rfl h
  | [a], _ => by simp [textL, joinL]
  | a :: b :: l, _ => by
    have ih := textL_join (b :: l) (by simp)
    have e : textL (a :: b :: l) = (a.data.toList ++ [10]) ++ textL (b :: l) := rfl
    rw [e, ih]
    simp [joinL]
theorem bytes_inj {a b : List ByteArray} (h : a.map (·.data.toList) = b.map (·.data.toList)) : a = b := by
  refine List.map_inj_right (f := fun s : ByteArray => s.data.toList) ?_ |>.1 h
  intro x y e
  apply ByteArray.ext
  exact Array.toList_inj.1 e
def Plain (L : List ByteArray) : Prop := ∀ s ∈ L, (10 : UInt8) ∉ s.data.toList
theorem linesB_text {L : List ByteArray} (h : Plain L) : linesB (textB L) = L := by
  by_cases h0 : L = []
  · subst h0; simp [linesB, textB, textL]
  · have hj := textL_join L h0
    have hne : (textB L).toList.isEmpty = false := by
      unfold textB
      rw [hj]
      simp
    have ht : trimB (textB L) = ⟨(joinL (L.map (·.data.toList))).toArray⟩ := by
      unfold trimB textB Lib.trimSuffix Lib.hasSuffix
      simp only [hj]
      rw [if_pos (by simp)]
      simp
    unfold linesB
    rw [hne, if_neg (by simp), ht]
    apply bytes_inj
    have hP : ∀ a ∈ L.map (·.data.toList), (10 : UInt8) ∉ a := by
      intro a ha
      obtain ⟨s, hs, rfl⟩ := List.mem_map.1 ha
      exact h s hs
    have hc := joinL_count _ hP (by simp [h0])
    rw [Lib.splitB_data]
    have e3 : Lib.countB ⟨(joinL (L.map (·.data.toList))).toArray⟩ nl = (joinL (L.map (·.data.toList))).count 10 := by
      show Lib.count _ _ = _
      exact Lib.count_one 10 _
    rw [e3]
    exact splitK_join _ hP (by simp [h0]) _ hc
theorem isTextB_text (L : List ByteArray) : isTextB (textB L) = true := by
  by_cases h0 : L = []
  · subst h0; simp [isTextB, textB, textL]
  · unfold isTextB textB Lib.hasSuffix
    simp only [textL_join L h0]
    simp
end Go.Proofs.YtcclgodahlinbaaGreatDoor
namespace Dn
section
set_option linter.unusedSectionVars false
variable {α : Type} [DecidableEq α]
def distRow (a : α) (prev : List α → Nat) : List α → Nat
  | [] => prev [] + 1
  | b :: r => if a = b then prev r else 1 + min (prev (b :: r)) (distRow a prev r)
def dist : List α → List α → Nat
  | [] => List.length
  | a :: l => distRow a (dist l)
theorem dist_nil_l (r : List α) : dist [] r = r.length := rfl
theorem dist_nil_r (l : List α) : dist l [] = l.length := by
  induction l with
  | nil => rfl
  | cons a l ih => show dist l [] + 1 = _; rw [ih]; rfl
theorem dist_cc (a b : α) (l r : List α) : dist (a :: l) (b :: r) = if a = b then dist l r else 1 + min (dist l (b :: r)) (dist (a :: l) r) := rfl
theorem dist_same (a : α) (l r : List α) : dist (a :: l) (a :: r) = dist l r := by rw [dist_cc, if_pos rfl]
theorem dist_ne {a b : α} (h : a ≠ b) (l r : List α) : dist (a :: l) (b :: r) = 1 + min (dist l (b :: r)) (dist (a :: l) r) := by rw [dist_cc, if_neg h]
theorem dist_comm : ∀ (n : Nat) (l r : List α), l.length + r.length ≤ n → dist l r = dist r l := by
  intro n
  induction n with
  | zero =>
    intro l r h
    have h1 : l = [] := List.eq_nil_of_length_eq_zero (by omega)
    have h2 : r = [] := List.eq_nil_of_length_eq_zero (by omega)
    rw [h1, h2]
  | succ n ih =>
    intro l r h
    cases l with
    | nil => rw [dist_nil_l, dist_nil_r]
    | cons a l =>
      cases r with
      | nil => rw [dist_nil_l, dist_nil_r]
      | cons b r =>
        simp only [List.length_cons] at h
        by_cases e : a = b
        · subst e; rw [dist_same, dist_same]; exact ih _ _ (by omega)
        · rw [dist_ne e, dist_ne (Ne.symm e), ih l (b :: r) (by simp; omega), ih (a :: l) r (by simp; omega)]
          omega
theorem dist_near : ∀ (n : Nat) (l r : List α), l.length + r.length ≤ n → (∀ a, dist (a :: l) r ≤ dist l r + 1) ∧ (∀ b, dist l r ≤ dist l (b :: r) + 1) := by
  intro n
  induction n with
  | zero =>
    intro l r h
    have h1 : l = [] := List.eq_nil_of_length_eq_zero (by omega)
    have h2 : r = [] := List.eq_nil_of_length_eq_zero (by omega)
    subst h1 h2
    simp [dist_nil_l, dist_nil_r]
  | succ n ih =>
    intro l r h
    refine ⟨fun a => ?_, fun b => ?_⟩
    · cases r with
      | nil => rw [dist_nil_r, dist_nil_r]; simp
      | cons b r =>
        simp only [List.length_cons] at h
        by_cases e : a = b
        · subst e
          rw [dist_same]
          exact (ih l r (by omega)).2 a
        · rw [dist_ne e]; omega
    · cases l with
      | nil => rw [dist_nil_l, dist_nil_l]; simp; omega
      | cons c l =>
        simp only [List.length_cons] at h
        by_cases e : c = b
        · subst e
          rw [dist_same]
          exact (ih l r (by omega)).1 c
        · rw [dist_ne e]
          have h1 := (ih l r (by omega)).1 c
          have h2 := (ih l r (by omega)).2 b
          omega
theorem dist_l1 (a : α) (l r : List α) : dist (a :: l) r ≤ dist l r + 1 := (dist_near _ l r (Nat.le_refl _)).1 a
theorem dist_r1 (b : α) (l r : List α) : dist l (b :: r) ≤ dist l r + 1 := by
  rw [dist_comm _ l (b :: r) (Nat.le_refl _), dist_comm _ l r (Nat.le_refl _)]; exact dist_l1 b r l
variable (o f : List α)
def rd (x y : Nat) : Nat := dist (o.drop x) (f.drop y)
theorem rd_same {x y : Nat} (h : same o f x y = true) : rd o f x y = rd o f (x + 1) (y + 1) := by
  obtain ⟨hx, hy⟩ := same_lt o f h
  unfold same at h
  simp only [decide_eq_true_eq] at h
  have e := h.2.2
  unfold rd
  rw [List.drop_eq_getElem_cons hx, List.drop_eq_getElem_cons hy]
  rw [List.getElem?_eq_getElem hx, List.getElem?_eq_getElem hy] at e
  rw [Option.some.inj e, dist_same]
theorem rd_ne {x y : Nat} (h : same o f x y = false) (hx : x < o.length) (hy : y < f.length) : rd o f x y = 1 + min (rd o f (x + 1) y) (rd o f x (y + 1)) := by
  unfold same at h
  simp only [decide_eq_false_iff_not, not_and] at h
  have e := h hx hy
  unfold rd
  rw [List.drop_eq_getElem_cons hx, List.drop_eq_getElem_cons hy]
  rw [List.getElem?_eq_getElem hx, List.getElem?_eq_getElem hy] at e
  rw [dist_ne (fun e' => e (by rw [e']))]
theorem rd_endx {y : Nat} (hy : y < f.length) : rd o f o.length y = 1 + rd o f o.length (y + 1) := by
  unfold rd; rw [List.drop_length, dist_nil_l, dist_nil_l]; simp; omega
theorem rd_endy {x : Nat} (hx : x < o.length) : rd o f x f.length = 1 + rd o f (x + 1) f.length := by
  unfold rd; rw [List.drop_length, dist_nil_r, dist_nil_r]; simp; omega
def Near (st : Srch) (G : Nat → Nat → Nat) (x y c : Nat) : Prop := (st.at f.length x y ≠ 0 ∧ G x y ≤ c) ∨ ∃ s ∈ st.op, s.x = x ∧ s.y = y ∧ s.far ≤ c
end
end Dn
namespace Dn
section
variable {α : Type} [DecidableEq α]
def specRow (a : α) (l : List α) (prev : List α → List (StepM α)) : List α → List (StepM α)
  | [] => ⟨45, a⟩ :: prev []
  | b :: r => if a = b then ⟨32, a⟩ :: prev r else if dist l (b :: r) ≤ dist (a :: l) r then ⟨45, a⟩ :: prev (b :: r) else ⟨43, b⟩ :: specRow a l prev r
def spec : List α → List α → List (StepM α)
  | [] => List.map fun b => ⟨43, b⟩
  | a :: l => specRow a l (spec l)
theorem spec_nn : spec ([] : List α) [] = [] := rfl
theorem spec_nc (b : α) (r : List α) : spec [] (b :: r) = ⟨43, b⟩ :: spec [] r := rfl
theorem spec_cn (a : α) (l : List α) : spec (a :: l) [] = ⟨45, a⟩ :: spec l [] := rfl
theorem spec_cc (a b : α) (l r : List α) : spec (a :: l) (b :: r) = if a = b then ⟨32, a⟩ :: spec l r else if dist l (b :: r) ≤ dist (a :: l) r then ⟨45, a⟩ :: spec l (b :: r) else ⟨43, b⟩ :: spec (a :: l) r := rfl
def keyAdd : List α → Nat
  | [] => 0
  | _ :: r => 2 ^ r.length + keyAdd r
def keyRow (a : α) (l : List α) (prev : List α → Nat) : List α → Nat
  | [] => prev []
  | b :: r => if a = b then prev r else if dist l (b :: r) ≤ dist (a :: l) r then prev (b :: r) else 2 ^ dist (a :: l) r + keyRow a l prev r
def key : List α → List α → Nat
  | [] => keyAdd
  | a :: l => keyRow a l (key l)
theorem key_nn : key ([] : List α) [] = 0 := rfl
theorem key_nc (b : α) (r : List α) : key [] (b :: r) = 2 ^ r.length + key [] r := rfl
theorem key_cn (a : α) (l : List α) : key (a :: l) [] = key l [] := rfl
theorem key_cc (a b : α) (l r : List α) : key (a :: l) (b :: r) = if a = b then key l r else if dist l (b :: r) ≤ dist (a :: l) r then key l (b :: r) else 2 ^ dist (a :: l) r + key (a :: l) r := rfl
theorem pw1 (k r : Nat) : k * 2 ^ (r + 1) = 2 * (k * 2 ^ r) := by rw [Nat.pow_succ, ← Nat.mul_assoc, Nat.mul_comm]
theorem pw2 (k p : Nat) : 2 * k * p = 2 * (k * p) := Nat.mul_assoc _ _ _
theorem pw3 (k p : Nat) : (2 * k + 1) * p = 2 * (k * p) + p := by rw [Nat.add_mul, Nat.mul_assoc, Nat.one_mul]
theorem key_lt : ∀ (n : Nat) (l r : List α), l.length + r.length ≤ n → key l r < 2 ^ dist l r := by
  intro n
  induction n with
  | zero =>
    intro l r h
    have h1 : l = [] := List.eq_nil_of_length_eq_zero (by omega)
    have h2 : r = [] := List.eq_nil_of_length_eq_zero (by omega)
    subst h1 h2
    rw [key_nn]
    exact Nat.two_pow_pos _
  | succ n ih =>
    intro l r h
    cases l with
    | nil =>
      cases r with
      | nil => rw [key_nn]; exact Nat.two_pow_pos _
      | cons b r =>
        simp only [List.length_cons] at h
        have := ih [] r (by simp at h ⊢; omega)
        rw [dist_nil_l] at this
        rw [key_nc, dist_nil_l, List.length_cons, Nat.pow_succ]
        omega
    | cons a l =>
      simp only [List.length_cons] at h
      cases r with
      | nil =>
        have := ih l [] (by simp at h ⊢; omega)
        rw [dist_nil_r] at this
        rw [key_cn, dist_nil_r, List.length_cons, Nat.pow_succ]
        omega
      | cons b r =>
        simp only [List.length_cons] at h
        by_cases e : a = b
        · subst e
          rw [key_cc, if_pos rfl, dist_same]
          exact ih l r (by omega)
        · rw [key_cc, if_neg e, dist_ne e]
          split
          · rename_i hle
            have := ih l (b :: r) (by simp; omega)
            rw [Nat.min_eq_left hle, Nat.add_comm, Nat.pow_succ]
            omega
          · rename_i hle
            have := ih (a :: l) r (by simp; omega)
            rw [Nat.min_eq_right (by omega), Nat.add_comm 1, Nat.pow_succ]
            omega
variable (o f : List α)
def kb (x y : Nat) : Nat := key (o.drop x) (f.drop y)
def sp (x y : Nat) : List (StepM α) := spec (o.drop x) (f.drop y)
def Drops (x y : Nat) : Prop := x < o.length ∧ (f.length ≤ y ∨ rd o f (x + 1) y ≤ rd o f x (y + 1))
theorem kb_lt (x y : Nat) : kb o f x y < 2 ^ rd o f x y := key_lt _ _ _ (Nat.le_refl _)
theorem at_same [Inhabited α] {x y : Nat} (h : same o f x y = true) : kb o f x y = kb o f (x + 1) (y + 1) ∧ sp o f x y = ⟨32, o.getD x default⟩ :: sp o f (x + 1) (y + 1) := by
  obtain ⟨hx, hy⟩ := same_lt o f h
  unfold same at h
  simp only [decide_eq_true_eq] at h
  have e := h.2.2
  unfold kb sp
  rw [List.drop_eq_getElem_cons hx, List.drop_eq_getElem_cons hy]
  rw [List.getElem?_eq_getElem hx, List.getElem?_eq_getElem hy] at e
  rw [← Option.some.inj e, key_cc, if_pos rfl, spec_cc, if_pos rfl]
  simp [List.getD, hx]
theorem at_drop [Inhabited α] {x y : Nat} (h : same o f x y = false) (hy : y ≤ f.length) (hd : Drops o f x y) : rd o f x y = rd o f (x + 1) y + 1 ∧ kb o f x y = kb o f (x + 1) y ∧ sp o f x y = ⟨45, o.getD x default⟩ :: sp o f (x + 1) y := by
  obtain ⟨hx, hd⟩ := hd
  by_cases ey : y < f.length
  · have hd' : rd o f (x + 1) y ≤ rd o f x (y + 1) := by omega
    refine ⟨by rw [rd_ne o f h hx ey]; omega, ?_⟩
    unfold same at h
    simp only [decide_eq_false_iff_not, not_and] at h
    have e := h hx ey
    unfold rd at hd'
    unfold kb sp
    rw [List.drop_eq_getElem_cons hx, List.drop_eq_getElem_cons ey] at *
    rw [List.getElem?_eq_getElem hx, List.getElem?_eq_getElem ey] at e
    have e' : o[x] ≠ f[y] := fun e' => e (by rw [e'])
    rw [key_cc, if_neg e', if_pos hd', spec_cc, if_neg e', if_pos hd']
    simp [List.getD, hx]
  · obtain rfl : y = f.length := by omega
    refine ⟨by rw [rd_endy o f hx]; omega, ?_⟩
    unfold kb sp
    rw [List.drop_length, List.drop_eq_getElem_cons hx, key_cn, spec_cn]
    simp [List.getD, hx]
theorem at_add [Inhabited α] {x y : Nat} (h : same o f x y = false) (hx : x ≤ o.length) (hy : y < f.length) (hd : ¬ Drops o f x y) :
    rd o f x y = rd o f x (y + 1) + 1 ∧ kb o f x y = 2 ^ rd o f x (y + 1) + kb o f x (y + 1) ∧ sp o f x y = ⟨43, f.getD y default⟩ :: sp o f x (y + 1) ∧ (x < o.length → rd o f x y < rd o f (x + 1) y + 1) := by
  by_cases ex : x < o.length
  · have hd' : ¬ rd o f (x + 1) y ≤ rd o f x (y + 1) := fun e => hd ⟨ex, .inr e⟩
    have hr := rd_ne o f h ex hy
    refine ⟨by rw [hr]; omega, ?_⟩
    rw [← and_assoc]
    refine ⟨?_, fun _ => by rw [hr]; omega⟩
    unfold same at h
    simp only [decide_eq_false_iff_not, not_and] at h
    have e := h ex hy
    clear hr
    unfold rd at hd'
    unfold kb sp rd
    rw [List.drop_eq_getElem_cons ex, List.drop_eq_getElem_cons hy] at *
    rw [List.getElem?_eq_getElem ex, List.getElem?_eq_getElem hy] at e
    have e' : o[x] ≠ f[y] := fun e' => e (by rw [e'])
    rw [key_cc, if_neg e', if_neg hd', spec_cc, if_neg e', if_neg hd']
    simp [List.getD, hy]
  · obtain rfl : x = o.length := by omega
    refine ⟨by rw [rd_endx o f hy]; omega, ?_⟩
    rw [← and_assoc]
    refine ⟨?_, fun h => absurd h (by omega)⟩
    unfold kb sp rd
    rw [List.drop_length, List.drop_eq_getElem_cons hy, key_nc, spec_nc, dist_nil_l]
    simp [List.getD, hy]
theorem rd_x {x : Nat} (y : Nat) (h : x < o.length) : rd o f x y ≤ rd o f (x + 1) y + 1 := by
  unfold rd; rw [List.drop_eq_getElem_cons h]; exact dist_l1 _ _ _
theorem rd_y {y : Nat} (x : Nat) (h : y < f.length) : rd o f x y ≤ rd o f x (y + 1) + 1 := by
  unfold rd; rw [List.drop_eq_getElem_cons h]; exact dist_r1 _ _ _
def Low (x y c k : Nat) : Prop := dist o f ≤ c + rd o f x y ∧ (c + rd o f x y = dist o f → key o f ≤ k * 2 ^ rd o f x y + kb o f x y)
variable [Inhabited α]
theorem Low.keep {x y c k : Nat} (h : Low o f x y c k) (hs : same o f x y = true) : Low o f (x + 1) (y + 1) c k := by
  unfold Low at *
  rw [← (at_same o f hs).1, ← rd_same o f hs]
  exact h
theorem Low.drop {x y c k : Nat} (h : Low o f x y c k) (hs : same o f x y = false) (hx : x < o.length) (hy : y ≤ f.length) : Low o f (x + 1) y (c + 1) (2 * k) := by
  obtain ⟨h1, h2⟩ := h
  have hr := rd_x o f y hx
  refine ⟨by omega, fun e => ?_⟩
  have h3 := h2 (by omega)
  have hd : Drops o f x y := by
    by_cases hd : Drops o f x y
    · exact hd
    · have hy' : y < f.length := by
        by_cases ey : y < f.length
        · exact ey
        · exact absurd ⟨hx, .inl (by omega)⟩ hd
      have := (at_add o f hs (by omega) hy' hd).2.2.2 hx
      omega
  obtain ⟨e1, e2, _⟩ := at_drop o f hs hy hd
  rw [e1, e2, pw1] at h3
  rw [pw2]
  exact h3
theorem Low.add {x y c k : Nat} (h : Low o f x y c k) (hs : same o f x y = false) (hx : x ≤ o.length) (hy : y < f.length) : Low o f x (y + 1) (c + 1) (2 * k + 1) := by
  obtain ⟨h1, h2⟩ := h
  have hr := rd_y o f x hy
  refine ⟨by omega, fun e => ?_⟩
  have h3 := h2 (by omega)
  have e0 : rd o f x y = rd o f x (y + 1) + 1 := by omega
  rw [pw3]
  rw [e0, pw1] at h3
  by_cases hd : Drops o f x y
  · obtain ⟨e1, e2, _⟩ := at_drop o f hs (by omega) hd
    have h4 := kb_lt o f (x + 1) y
    rw [show rd o f (x + 1) y = rd o f x (y + 1) by omega] at h4
    omega
  · obtain ⟨_, e2, _⟩ := at_add o f hs hx hy hd
    omega
def le2 (a b c d : Nat) : Prop := a < c ∨ (a = c ∧ b ≤ d)
def CostK (st : Srch) (G Q : Nat → Nat → Nat) (x y kind c k : Nat) : Prop :=
  (kind = 46 ∧ x = 0 ∧ y = 0 ∧ c = 0 ∧ k = 0) ∨
  (kind = 32 ∧ 0 < x ∧ 0 < y ∧ st.at f.length (x - 1) (y - 1) ≠ 0 ∧ same o f (x - 1) (y - 1) = true ∧ c = G (x - 1) (y - 1) ∧ k = Q (x - 1) (y - 1)) ∨
  (kind = 45 ∧ 0 < x ∧ st.at f.length (x - 1) y ≠ 0 ∧ same o f (x - 1) y = false ∧ c = G (x - 1) y + 1 ∧ k = 2 * Q (x - 1) y) ∨
  (kind = 43 ∧ 0 < y ∧ st.at f.length x (y - 1) ≠ 0 ∧ same o f x (y - 1) = false ∧ c = G x (y - 1) + 1 ∧ k = 2 * Q x (y - 1) + 1)
def NearK (st : Srch) (G Q : Nat → Nat → Nat) (κ : Nat → Nat) (x y c k : Nat) : Prop :=
  (st.at f.length x y ≠ 0 ∧ le2 (G x y) (Q x y) c k) ∨ ∃ s ∈ st.op, s.x = x ∧ s.y = y ∧ le2 s.far (κ s.turn) c k
def NextK (st : Srch) (G Q : Nat → Nat → Nat) (κ : Nat → Nat) (x y : Nat) : Prop :=
  if same o f x y = true then NearK f st G Q κ (x + 1) (y + 1) (G x y) (Q x y)
  else (x < o.length → NearK f st G Q κ (x + 1) y (G x y + 1) (2 * Q x y)) ∧ (y < f.length → NearK f st G Q κ x (y + 1) (G x y + 1) (2 * Q x y + 1))
structure InvK (hole : Option (Nat × Nat)) (st : Srch) (G Q : Nat → Nat → Nat) (κ : Nat → Nat) : Prop where
  heap : heapL st.op
  uniq : (st.op.map (·.turn)).Nodup
  tle : ∀ s ∈ st.op, s.turn ≤ st.turns
  far : ∀ s1 ∈ st.op, ∀ s2 ∈ st.op, s1.far ≤ s2.far + 1
  ord : ∀ s1 ∈ st.op, ∀ s2 ∈ st.op, s1.far = s2.far → s1.turn < s2.turn → κ s1.turn < κ s2.turn
  ord2 : ∀ s1 ∈ st.op, ∀ s2 ∈ st.op, s1.far = s2.far + 1 → κ s1.turn < 2 * κ s2.turn
  mono : ∀ x y, x ≤ o.length → y ≤ f.length → st.at f.length x y ≠ 0 → ∀ s ∈ st.op, le2 (G x y) (Q x y) s.far (κ s.turn)
  spots : ∀ s ∈ st.op, CostK o f st G Q s.x s.y s.kind s.far (κ s.turn)
  known : ∀ x y, x ≤ o.length → y ≤ f.length → st.at f.length x y ≠ 0 → CostK o f st G Q x y (st.at f.length x y) (G x y) (Q x y)
  start : NearK f st G Q κ 0 0 0 0
  next : ∀ x y, x ≤ o.length → y ≤ f.length → st.at f.length x y ≠ 0 → hole ≠ some (x, y) → NextK o f st G Q κ x y
  low : ∀ x y, x ≤ o.length → y ≤ f.length → st.at f.length x y ≠ 0 → Low o f x y (G x y) (Q x y)
  lowS : ∀ s ∈ st.op, Low o f s.x s.y s.far (κ s.turn)
  top : st.at f.length o.length f.length ≠ 0 → G o.length f.length = dist o f ∧ Q o.length f.length ≤ key o f
def GoodS (x y c k : Nat) : Prop := c + rd o f x y = dist o f ∧ k * 2 ^ rd o f x y + kb o f x y ≤ key o f
theorem goodK_from {st : Srch} {G Q : Nat → Nat → Nat} {κ : Nat → Nat} (h : InvK o f none st G Q κ) (he : st.at f.length o.length f.length = 0) :
    ∀ n x y, x ≤ o.length → y ≤ f.length → (o.length - x) + (f.length - y) = n → st.at f.length x y ≠ 0 → GoodS o f x y (G x y) (Q x y) → ∃ s ∈ st.op, GoodS o f s.x s.y s.far (κ s.turn) := by
  intro n
  induction n using Nat.strongRecOn with
  | ind n ih =>
    intro x y hx hy hk hr hD
    have hn := h.next x y hx hy hr (by simp)
    have go : ∀ x' y' c k, x' ≤ o.length → y' ≤ f.length → (o.length - x') + (f.length - y') < n → GoodS o f x' y' c k → NearK f st G Q κ x' y' c k → ∃ s ∈ st.op, GoodS o f s.x s.y s.far (κ s.turn) := by
      intro x' y' c k hx' hy' hlt hc hnear
      rcases hnear with ⟨h1, h2⟩ | ⟨s, hs, e1, e2, h2⟩
      · have hl := (h.low x' y' hx' hy' h1).1
        have hc1 := hc.1
        refine ih _ hlt x' y' hx' hy' rfl h1 ?_
        rcases h2 with h2 | ⟨h2, h3⟩
        · omega
        · refine ⟨by omega, ?_⟩
          have := Nat.mul_le_mul_right (2 ^ rd o f x' y') h3
          have := hc.2
          omega
      · have hl := (h.lowS s hs).1
        have hc1 := hc.1
        rw [← e1, ← e2] at hc1
        refine ⟨s, hs, ?_⟩
        rcases h2 with h2 | ⟨h2, h3⟩
        · omega
        · rw [e1, e2]
          rw [e1, e2] at hc1
          refine ⟨by omega, ?_⟩
          have := Nat.mul_le_mul_right (2 ^ rd o f x' y') h3
          have := hc.2
          omega
    obtain ⟨hD1, hD2⟩ := hD
    unfold NextK at hn
    split at hn
    · rename_i hs
      have hlt := same_lt o f hs
      refine go _ _ _ _ (by omega) (by omega) (by omega) ⟨?_, ?_⟩ hn
      · rw [← rd_same o f hs]; exact hD1
      · rw [← rd_same o f hs, ← (at_same o f hs).1]; exact hD2
    · rename_i hs
      have hs' : same o f x y = false := by simpa using hs
      by_cases hd : Drops o f x y
      · obtain ⟨e1, e2, _⟩ := at_drop o f hs' hy hd
        refine go _ _ _ _ (by have := hd.1; omega) (by omega) (by have := hd.1; omega) ⟨by omega, ?_⟩ (hn.1 hd.1)
        rw [e1, e2, pw1] at hD2
        rw [pw2]
        exact hD2
      · have ey : y < f.length := by
          by_cases ey : y < f.length
          · exact ey
          · obtain rfl : y = f.length := by omega
            by_cases ex : x < o.length
            · exact absurd ⟨ex, .inl (Nat.le_refl _)⟩ hd
            · obtain rfl : x = o.length := by omega
              exact absurd he hr
        obtain ⟨e1, e2, _⟩ := at_add o f hs' hx ey hd
        refine go _ _ _ _ (by omega) (by omega) (by omega) ⟨by omega, ?_⟩ (hn.2 ey)
        rw [e1, e2, pw1] at hD2
        rw [pw3]
        omega
theorem goodK {st : Srch} {G Q : Nat → Nat → Nat} {κ : Nat → Nat} (h : InvK o f none st G Q κ) (he : st.at f.length o.length f.length = 0) : ∃ s ∈ st.op, GoodS o f s.x s.y s.far (κ s.turn) := by
  have e1 : rd o f 0 0 = dist o f := by simp [rd]
  have e2 : kb o f 0 0 = key o f := by simp [kb]
  rcases h.start with ⟨h1, h2⟩ | ⟨s, hs, x0, y0, h2⟩
  · have h2' : G 0 0 = 0 ∧ Q 0 0 = 0 := by unfold le2 at h2; omega
    exact goodK_from o f h he _ 0 0 (by omega) (by omega) rfl h1 ⟨by rw [h2'.1, e1]; omega, by rw [h2'.2, e2]; omega⟩
  · have h2' : s.far = 0 ∧ κ s.turn = 0 := by unfold le2 at h2; omega
    exact ⟨s, hs, by rw [x0, y0]; exact ⟨by rw [h2'.1, e1]; omega, by rw [h2'.2, e2]; omega⟩⟩
end
end Dn
namespace Dn
section
set_option linter.unusedSectionVars false
variable {α : Type} [DecidableEq α] (o f : List α) [Inhabited α]
theorem NearK.kap {st : Srch} {G Q : Nat → Nat → Nat} {κ κ' : Nat → Nat} {x y c k : Nat} (h : NearK f st G Q κ x y c k) (ht : ∀ s ∈ st.op, s.turn ≤ st.turns) (hk : ∀ t, t ≤ st.turns → κ' t = κ t) : NearK f st G Q κ' x y c k := by
  rcases h with h | ⟨s, hs, e1, e2, e3⟩
  · exact .inl h
  · exact .inr ⟨s, hs, e1, e2, by rw [hk _ (ht s hs)]; exact e3⟩
theorem InvK.kap {hole : Option (Nat × Nat)} {st : Srch} {G Q : Nat → Nat → Nat} {κ κ' : Nat → Nat} (h : InvK o f hole st G Q κ) (hk : ∀ t, t ≤ st.turns → κ' t = κ t) : InvK o f hole st G Q κ' := by
  have e : ∀ s ∈ st.op, κ' s.turn = κ s.turn := fun s hs => hk _ (h.tle s hs)
  refine ⟨h.heap, h.uniq, h.tle, h.far, ?_, ?_, ?_, ?_, h.known, h.start.kap f h.tle hk, ?_, h.low, ?_, h.top⟩
  · intro s1 h1 s2 h2 a b; rw [e s1 h1, e s2 h2]; exact h.ord s1 h1 s2 h2 a b
  · intro s1 h1 s2 h2 a; rw [e s1 h1, e s2 h2]; exact h.ord2 s1 h1 s2 h2 a
  · intro x y hx hy hr s hs; rw [e s hs]; exact h.mono x y hx hy hr s hs
  · intro s hs; rw [e s hs]; exact h.spots s hs
  · intro x y hx hy hr hh
    have := h.next x y hx hy hr hh
    unfold NextK at this ⊢
    split at this
    · rename_i hs; rw [if_pos hs]; exact this.kap f h.tle hk
    · rename_i hs; rw [if_neg hs]; exact ⟨fun a => (this.1 a).kap f h.tle hk, fun a => (this.2 a).kap f h.tle hk⟩
  · intro s hs; rw [e s hs]; exact h.lowS s hs
theorem NearK.push {st : Srch} {G Q : Nat → Nat → Nat} {κ : Nat → Nat} {x y c k : Nat} (h : NearK f st G Q κ x y c k) (s : Spot) (t : Nat) : NearK f { op := pushM st.op s, turns := t, led := st.led } G Q κ x y c k := by
  rcases h with h | ⟨q, hq, e⟩
  · exact .inl h
  · exact .inr ⟨q, (pushM_perm st.op s).mem_iff.2 (by simp [hq]), e⟩
theorem InvK.push {hole : Option (Nat × Nat)} {st : Srch} {G Q : Nat → Nat → Nat} {κ : Nat → Nat} (h : InvK o f hole st G Q κ) (s : Spot) (t : Nat) (hn : ∀ q ∈ st.op, q.turn ≠ s.turn) (ht1 : s.turn ≤ t) (ht2 : st.turns ≤ t)
    (hq : ∀ q ∈ st.op, s.far ≤ q.far + 1 ∧ q.far ≤ s.far + 1 ∧ (q.far = s.far → (q.turn < s.turn → κ q.turn < κ s.turn) ∧ (s.turn < q.turn → κ s.turn < κ q.turn)) ∧ (q.far = s.far + 1 → κ q.turn < 2 * κ s.turn) ∧ (s.far = q.far + 1 → κ s.turn < 2 * κ q.turn))
    (hm : ∀ x y, x ≤ o.length → y ≤ f.length → st.at f.length x y ≠ 0 → le2 (G x y) (Q x y) s.far (κ s.turn)) (hc : CostK o f st G Q s.x s.y s.kind s.far (κ s.turn)) (hl : Low o f s.x s.y s.far (κ s.turn)) :
    InvK o f hole { op := pushM st.op s, turns := t, led := st.led } G Q κ := by
  have hmem : ∀ q, q ∈ pushM st.op s ↔ q ∈ st.op ∨ q = s := by intro q; rw [(pushM_perm st.op s).mem_iff]; simp
  refine ⟨push_heap h.heap s, ?_, ?_, ?_, ?_, ?_, ?_, ?_, h.known, h.start.push f s t, ?_, h.low, ?_, h.top⟩
  · have hp := (pushM_perm st.op s).map (·.turn)
    rw [hp.nodup_iff, List.map_append, List.nodup_append]
    refine ⟨h.uniq, by simp, ?_⟩
    intro a ha b hb e
    obtain ⟨q, hq', rfl⟩ := List.mem_map.1 ha
    simp at hb
    exact hn q hq' (e.trans hb)
  · intro q hq'
    rcases (hmem q).1 hq' with h1 | rfl
    · exact Nat.le_trans (h.tle q h1) ht2
    · exact ht1
  · intro s1 h1 s2 h2
    rcases (hmem s1).1 h1 with g1 | g1 <;> rcases (hmem s2).1 h2 with g2 | g2
    · exact h.far s1 g1 s2 g2
    · rw [g2]; exact (hq s1 g1).2.1
    · rw [g1]; exact (hq s2 g2).1
    · rw [g1, g2]; omega
  · intro s1 h1 s2 h2 e1 e2
    rcases (hmem s1).1 h1 with g1 | g1 <;> rcases (hmem s2).1 h2 with g2 | g2
    · exact h.ord s1 g1 s2 g2 e1 e2
    · rw [g2] at e1 e2 ⊢; exact ((hq s1 g1).2.2.1 e1).1 e2
    · rw [g1] at e1 e2 ⊢; exact ((hq s2 g2).2.2.1 e1.symm).2 e2
    · rw [g1, g2] at e2; omega
  · intro s1 h1 s2 h2 e1
    rcases (hmem s1).1 h1 with g1 | g1 <;> rcases (hmem s2).1 h2 with g2 | g2
    · exact h.ord2 s1 g1 s2 g2 e1
    · rw [g2] at e1 ⊢; exact (hq s1 g1).2.2.2.1 e1
    · rw [g1] at e1 ⊢; exact (hq s2 g2).2.2.2.2 e1
    · rw [g1, g2] at e1; omega
  · intro x y hx hy hr q hq'
    rcases (hmem q).1 hq' with h1 | rfl
    · exact h.mono x y hx hy hr q h1
    · exact hm x y hx hy hr
  · intro q hq'
    rcases (hmem q).1 hq' with h1 | rfl
    · exact h.spots q h1
    · exact hc
  · intro x y hx hy hr hh
    have := h.next x y hx hy hr hh
    unfold NextK at this ⊢
    split at this
    · rename_i hs; rw [if_pos hs]; exact this.push f s t
    · rename_i hs; rw [if_neg hs]; exact ⟨fun a => (this.1 a).push f s t, fun a => (this.2 a).push f s t⟩
  · intro q hq'
    rcases (hmem q).1 hq' with h1 | rfl
    · exact h.lowS q h1
    · exact hl
theorem InvK.change {hole : Option (Nat × Nat)} {st : Srch} {G Q : Nat → Nat → Nat} {κ : Nat → Nat} (h : InvK o f hole st G Q κ) (p : Spot) (dx dy kind nk : Nat) (hpt : p.turn ≤ st.turns)
    (hx : p.x + dx ≤ o.length) (hy : p.y + dy ≤ f.length) (hnk : nk ≤ 2 * κ p.turn + 1)
    (hq : ∀ q ∈ st.op, p.far ≤ q.far ∧ q.far ≤ p.far + 1 ∧ (q.far = p.far → κ p.turn < κ q.turn) ∧ (q.far = p.far + 1 → κ q.turn < nk))
    (hm : ∀ x y, x ≤ o.length → y ≤ f.length → st.at f.length x y ≠ 0 → le2 (G x y) (Q x y) p.far (κ p.turn))
    (hc : CostK o f st G Q (p.x + dx) (p.y + dy) kind (p.far + 1) nk) (hl : Low o f (p.x + dx) (p.y + dy) (p.far + 1) nk) :
    ∃ κ', (∀ t, t ≤ st.turns → κ' t = κ t) ∧ InvK o f hole (changeM f.length st p dx dy kind) G Q κ' ∧ NearK f (changeM f.length st p dx dy kind) G Q κ' (p.x + dx) (p.y + dy) (p.far + 1) nk ∧
      (changeM f.length st p dx dy kind).led = st.led ∧ st.turns ≤ (changeM f.length st p dx dy kind).turns ∧ (∀ x y c k, NearK f st G Q κ x y c k → NearK f (changeM f.length st p dx dy kind) G Q κ' x y c k) ∧
      (∀ q ∈ (changeM f.length st p dx dy kind).op, p.far ≤ q.far ∧ q.far ≤ p.far + 1 ∧ (q.far = p.far → κ' p.turn < κ' q.turn) ∧ (q.far = p.far + 1 → κ' q.turn < nk + 1)) := by
  unfold changeM
  split
  · have hk : ∀ t, t ≤ st.turns → (fun t => if t = st.turns + 1 then nk else κ t) t = κ t := by intro t ht; simp only; rw [if_neg (by omega)]
    have hnew : (fun t => if t = st.turns + 1 then nk else κ t) (st.turns + 1) = nk := by simp
    generalize (fun t => if t = st.turns + 1 then nk else κ t) = κ' at hk hnew
    have h' := h.kap o f hk
    have hpush := h'.push o f ⟨p.x + dx, p.y + dy, p.far + 1, st.turns + 1, kind⟩ (st.turns + 1) (fun q hq' => by have := h.tle q hq'; show q.turn ≠ st.turns + 1; omega) (Nat.le_refl _) (by omega) (by
        intro q hq'
        obtain ⟨a, b, c, d⟩ := hq q hq'
        have ht := h.tle q hq'
        simp only [hnew, hk _ ht]
        refine ⟨by omega, by omega, fun e => ⟨fun _ => d e, fun hlt => by omega⟩, fun e => by omega, fun e => ?_⟩
        have := c (by omega)
        omega) (by
        intro x y hx' hy' hr
        have := hm x y hx' hy' hr
        unfold le2 at *
        simp only [hnew]
        omega) (by simp only [hnew]; exact hc) (by simp only [hnew]; exact hl)
    refine ⟨κ', hk, hpush, .inr ⟨⟨p.x + dx, p.y + dy, p.far + 1, st.turns + 1, kind⟩, (pushM_perm st.op _).mem_iff.2 (by simp), rfl, rfl, by simp only [hnew]; exact .inr ⟨rfl, Nat.le_refl _⟩⟩, rfl, by simp, fun x y c k hn => (hn.kap f h.tle hk).push f _ _, ?_⟩
    intro q hq'
    rw [(pushM_perm st.op _).mem_iff, List.mem_append] at hq'
    rcases hq' with hq' | hq'
    · obtain ⟨a, b, c, d⟩ := hq q hq'
      rw [hk _ hpt, hk _ (h.tle q hq')]
      exact ⟨a, b, c, fun e => Nat.lt_succ_of_lt (d e)⟩
    · simp at hq'
      subst hq'
      simp only [hnew]
      exact ⟨by omega, by omega, fun e => by omega, fun _ => by omega⟩
  · rename_i h0
    refine ⟨κ, fun _ _ => rfl, h, .inl ⟨h0, ?_⟩, rfl, Nat.le_refl _, fun _ _ _ _ hn => hn, fun q hq' => ?_⟩
    · have := hm _ _ hx hy h0
      unfold le2 at *
      omega
    · obtain ⟨a, b, c, d⟩ := hq q hq'
      exact ⟨a, b, c, fun e => Nat.lt_succ_of_lt (d e)⟩
theorem InvK.round {st : Srch} {G Q : Nat → Nat → Nat} {κ : Nat → Nat} (hi : Inv o f st) (h : InvK o f none st G Q κ) (he : st.at f.length o.length f.length = 0) : ∃ G' Q' κ', InvK o f none (roundM o f st) G' Q' κ' := by
  have hne := hi.open_ne he
  have hperm := pop_perm st.op hne
  have hmem : ∀ q, q ∈ st.op ↔ q ∈ popR st.op ∨ q = popS st.op := by intro q; rw [← hperm.mem_iff]; simp
  have hu := h.uniq
  rw [← (hperm.map (·.turn)).nodup_iff, List.map_append, List.nodup_append] at hu
  obtain ⟨hu1, _, hu2⟩ := hu
  have hut : ∀ q ∈ popR st.op, q.turn ≠ (popS st.op).turn := fun q hq => hu2 _ (List.mem_map.2 ⟨q, hq, rfl⟩) _ (by simp)
  obtain ⟨hh, _, hmin⟩ := pop_heap h.heap hne
  have pmem : popS st.op ∈ st.op := (hmem _).2 (.inr rfl)
  have hmin1 : ∀ s ∈ st.op, (popS st.op).far ≤ s.far ∧ ((popS st.op).far = s.far → (popS st.op).turn ≤ s.turn) := by
    intro s hs
    have := hmin s hs
    unfold Spot.lt at this
    omega
  have hmin2 : ∀ s ∈ st.op, le2 (popS st.op).far (κ (popS st.op).turn) s.far (κ s.turn) := by
    intro s hs
    obtain ⟨a, b⟩ := hmin1 s hs
    by_cases e : (popS st.op).far = s.far
    · refine .inr ⟨e, ?_⟩
      by_cases e2 : (popS st.op).turn = s.turn
      · rw [e2]; exact Nat.le_refl _
      · have := h.ord _ pmem s hs e (by have := b e; omega)
        omega
    · exact .inl (by omega)
  obtain ⟨px, py, _, ptn, pl⟩ := hi.spots _ pmem
  have pc := h.spots _ pmem
  have plow := h.lowS _ pmem
  have pm : ∀ x y, x ≤ o.length → y ≤ f.length → st.at f.length x y ≠ 0 → le2 (G x y) (Q x y) (popS st.op).far (κ (popS st.op).turn) := fun x y a b c => h.mono x y a b c _ pmem
  have hrel : ∀ q ∈ popR st.op, (popS st.op).far ≤ q.far ∧ q.far ≤ (popS st.op).far + 1 ∧ (q.far = (popS st.op).far → κ (popS st.op).turn < κ q.turn) ∧ (q.far = (popS st.op).far + 1 → κ q.turn < 2 * κ (popS st.op).turn) := by
    intro q hq
    have hq' := (hmem q).2 (.inl hq)
    refine ⟨(hmin1 q hq').1, h.far q hq' _ pmem, fun e => ?_, fun e => h.ord2 q hq' _ pmem e⟩
    have := (hmin1 q hq').2 e.symm
    have := hut q hq
    exact h.ord _ pmem q hq' e.symm (by omega)
  have ptop : (popS st.op).x = o.length → (popS st.op).y = f.length → (popS st.op).far = dist o f ∧ κ (popS st.op).turn ≤ key o f := by
    intro e1 e2
    obtain ⟨s, hs, g1, g2⟩ := goodK o f h he
    have h1 := hmin2 s hs
    have h2 := plow.1
    have e3 : rd o f o.length f.length = 0 := by unfold rd; simp [dist_nil_l]
    rw [e1, e2, e3] at h2
    unfold le2 at h1
    have e4 : rd o f s.x s.y = 0 := by omega
    rw [e4] at g2
    simp at g2
    omega
  unfold roundM settleM
  simp only
  generalize hs : popS st.op = s at *
  have hat : ∀ x y, Srch.at { op := popR st.op, turns := st.turns, led := st.led } f.length x y = st.at f.length x y := fun _ _ => rfl
  rw [hat]
  split
  · rename_i h0
    have hset := fun x y (hy : y ≤ f.length) => at_set (st := st) (n := o.length) (m := f.length) (x0 := s.x) (y0 := s.y) (x := x) (y := y) (k := s.kind) hi.len px py hy (popR st.op) st.turns
    generalize hG : (fun x y => if x = s.x ∧ y = s.y then s.far else G x y) = G'
    generalize hQ : (fun x y => if x = s.x ∧ y = s.y then κ s.turn else Q x y) = Q'
    have hG1 : G' s.x s.y = s.far := by rw [← hG]; simp
    have hQ1 : Q' s.x s.y = κ s.turn := by rw [← hQ]; simp
    have hG2 : ∀ x y, ¬ (x = s.x ∧ y = s.y) → G' x y = G x y ∧ Q' x y = Q x y := by intro x y hn; rw [← hG, ← hQ]; simp only; rw [if_neg hn, if_neg hn]; exact ⟨rfl, rfl⟩
    have hG3 : ∀ x y, st.at f.length x y ≠ 0 → G' x y = G x y ∧ Q' x y = Q x y := by
      intro x y hr
      refine hG2 x y ?_
      rintro ⟨rfl, rfl⟩
      exact hr h0
    have hmono : ∀ x y, y ≤ f.length → st.at f.length x y ≠ 0 → Srch.at { op := popR st.op, turns := st.turns, led := st.led.set (idx f.length s.x s.y) s.kind } f.length x y ≠ 0 := by
      intro x y hy hr
      rw [hset x y hy]
      split
      · exact pl.pos
      · exact hr
    have hcost : ∀ x y k c d, y ≤ f.length → CostK o f st G Q x y k c d → CostK o f { op := popR st.op, turns := st.turns, led := st.led.set (idx f.length s.x s.y) s.kind } G' Q' x y k c d := by
      intro x y k c d hy hc
      rcases hc with hc | ⟨h1, h2, h3, h4, h5, h6, h7⟩ | ⟨h1, h2, h3, h4, h5, h6⟩ | ⟨h1, h2, h3, h4, h5, h6⟩
      · exact .inl hc
      · exact .inr (.inl ⟨h1, h2, h3, hmono _ _ (by omega) h4, h5, by rw [(hG3 _ _ h4).1]; exact h6, by rw [(hG3 _ _ h4).2]; exact h7⟩)
      · exact .inr (.inr (.inl ⟨h1, h2, hmono _ _ hy h3, h4, by rw [(hG3 _ _ h3).1]; exact h5, by rw [(hG3 _ _ h3).2]; exact h6⟩))
      · exact .inr (.inr (.inr ⟨h1, h2, hmono _ _ (by omega) h3, h4, by rw [(hG3 _ _ h3).1]; exact h5, by rw [(hG3 _ _ h3).2]; exact h6⟩))
    have hnear : ∀ x y c k, y ≤ f.length → NearK f st G Q κ x y c k → NearK f { op := popR st.op, turns := st.turns, led := st.led.set (idx f.length s.x s.y) s.kind } G' Q' κ x y c k := by
      intro x y c k hy hn
      rcases hn with ⟨h1, h2⟩ | ⟨q, hq, e1, e2, e3⟩
      · exact .inl ⟨hmono x y hy h1, by rw [(hG3 _ _ h1).1, (hG3 _ _ h1).2]; exact h2⟩
      · by_cases e : x = s.x ∧ y = s.y
        · left
          obtain ⟨rfl, rfl⟩ := e
          refine ⟨by rw [hset _ _ hy, if_pos ⟨rfl, rfl⟩]; exact pl.pos, ?_⟩
          rw [hG1, hQ1]
          have := hmin2 q hq
          unfold le2 at *
          omega
        · rcases (hmem q).1 hq with hq | rfl
          · exact .inr ⟨q, hq, e1, e2, e3⟩
          · exact absurd ⟨e1.symm, e2.symm⟩ e
    have hGle : ∀ x y, x ≤ o.length → y ≤ f.length → Srch.at { op := popR st.op, turns := st.turns, led := st.led.set (idx f.length s.x s.y) s.kind } f.length x y ≠ 0 → le2 (G' x y) (Q' x y) s.far (κ s.turn) := by
      intro x y hx hy hr
      by_cases e : x = s.x ∧ y = s.y
      · rw [e.1, e.2, hG1, hQ1]; exact .inr ⟨rfl, Nat.le_refl _⟩
      · rw [hset x y hy, if_neg e] at hr
        rw [(hG2 x y e).1, (hG2 x y e).2]
        exact pm x y hx hy hr
    have hhere : Srch.at { op := popR st.op, turns := st.turns, led := st.led.set (idx f.length s.x s.y) s.kind } f.length s.x s.y ≠ 0 := by rw [hset _ _ py, if_pos ⟨rfl, rfl⟩]; exact pl.pos
    have i0 : InvK o f (some (s.x, s.y)) { op := popR st.op, turns := st.turns, led := st.led.set (idx f.length s.x s.y) s.kind } G' Q' κ := by
      refine ⟨hh, hu1, fun q hq => h.tle q ((hmem q).2 (.inl hq)), fun q1 h1 q2 h2 => h.far q1 ((hmem q1).2 (.inl h1)) q2 ((hmem q2).2 (.inl h2)), fun q1 h1 q2 h2 => h.ord q1 ((hmem q1).2 (.inl h1)) q2 ((hmem q2).2 (.inl h2)), fun q1 h1 q2 h2 => h.ord2 q1 ((hmem q1).2 (.inl h1)) q2 ((hmem q2).2 (.inl h2)), ?_, ?_, ?_, hnear 0 0 0 0 (by omega) h.start, ?_, ?_, fun q hq => h.lowS q ((hmem q).2 (.inl hq)), ?_⟩
      · intro x y hx hy hr q hq
        have h1 := hGle x y hx hy hr
        have h2 := hmin2 q ((hmem q).2 (.inl hq))
        unfold le2 at *
        omega
      · intro q hq
        have hq' := (hmem q).2 (.inl hq)
        exact hcost _ _ _ _ _ (hi.spots q hq').2.1 (h.spots q hq')
      · intro x y hx hy hr
        by_cases e : x = s.x ∧ y = s.y
        · rw [hset x y hy, if_pos e, e.1, e.2, hG1, hQ1]
          exact hcost _ _ _ _ _ py pc
        · rw [hset x y hy, if_neg e] at hr ⊢
          rw [(hG2 x y e).1, (hG2 x y e).2]
          exact hcost _ _ _ _ _ hy (h.known x y hx hy hr)
      · intro x y hx hy hr hne'
        have e : ¬ (x = s.x ∧ y = s.y) := by rintro ⟨rfl, rfl⟩; exact hne' rfl
        rw [hset x y hy, if_neg e] at hr
        have := h.next x y hx hy hr (by simp)
        unfold NextK at this ⊢
        rw [(hG2 x y e).1, (hG2 x y e).2]
        split at this
        · rename_i hs'
          have hlt := same_lt o f hs'
          rw [if_pos hs']
          exact hnear _ _ _ _ (by omega) this
        · rename_i hs'
          rw [if_neg hs']
          exact ⟨fun a => hnear _ _ _ _ hy (this.1 a), fun a => hnear _ _ _ _ (by omega) (this.2 a)⟩
      · intro x y hx hy hr
        by_cases e : x = s.x ∧ y = s.y
        · rw [e.1, e.2, hG1, hQ1]; exact plow
        · rw [hset x y hy, if_neg e] at hr
          rw [(hG2 x y e).1, (hG2 x y e).2]
          exact h.low x y hx hy hr
      · intro hr
        by_cases e : o.length = s.x ∧ f.length = s.y
        · have h1 : G' o.length f.length = s.far := by rw [e.1, e.2]; exact hG1
          have h2 : Q' o.length f.length = κ s.turn := by rw [e.1, e.2]; exact hQ1
          rw [h1, h2]
          exact ptop e.1.symm e.2.symm
        · rw [hset _ _ (Nat.le_refl _), if_neg e] at hr
          exact absurd he hr
    have close : ∀ (S : Srch) (K : Nat → Nat), InvK o f (some (s.x, s.y)) S G' Q' K → NextK o f S G' Q' K s.x s.y → InvK o f none S G' Q' K := by
      intro S K hS hN
      refine ⟨hS.heap, hS.uniq, hS.tle, hS.far, hS.ord, hS.ord2, hS.mono, hS.spots, hS.known, hS.start, ?_, hS.low, hS.lowS, hS.top⟩
      intro x y hx hy hr _
      by_cases e : x = s.x ∧ y = s.y
      · rw [e.1, e.2]; exact hN
      · exact hS.next x y hx hy hr (by simp only [ne_eq, Option.some.injEq, Prod.mk.injEq]; intro hh; exact e ⟨hh.1.symm, hh.2.symm⟩)
    split
    · rename_i hsame
      have hlt := same_lt o f hsame
      refine ⟨G', Q', κ, close _ _ (i0.push o f ⟨s.x + 1, s.y + 1, s.far, s.turn, 32⟩ st.turns hut ptn (Nat.le_refl _) ?_ hGle (.inr (.inl ⟨rfl, by simp, by simp, by simpa using hhere, by simpa using hsame, by simp [hG1], by simp [hQ1]⟩)) (plow.keep o f hsame)) ?_⟩
      · intro q hq
        obtain ⟨a, b, c, d⟩ := hrel q hq
        have hq' := (hmem q).2 (.inl hq)
        refine ⟨by simp only; omega, by simp only; omega, fun e => ⟨fun e2 => ?_, fun e2 => ?_⟩, fun e => d e, fun e => by simp only at e; omega⟩
        · have := (hmin1 q hq').2 e.symm
          simp only at e2
          omega
        · exact c e
      · unfold NextK
        rw [if_pos hsame]
        exact .inr ⟨⟨s.x + 1, s.y + 1, s.far, s.turn, 32⟩, (pushM_perm _ _).mem_iff.2 (by simp), rfl, rfl, by rw [hG1, hQ1]; exact .inr ⟨rfl, Nat.le_refl _⟩⟩
    · rename_i hsame
      have hsf : same o f s.x s.y = false := by simpa using hsame
      have key1 : ∃ (st2 : Srch) (κ2 : Nat → Nat), st2 = (if s.x < o.length then changeM f.length { op := popR st.op, turns := st.turns, led := st.led.set (idx f.length s.x s.y) s.kind } s 1 0 45 else { op := popR st.op, turns := st.turns, led := st.led.set (idx f.length s.x s.y) s.kind }) ∧
          κ2 s.turn = κ s.turn ∧ st.turns ≤ st2.turns ∧ InvK o f (some (s.x, s.y)) st2 G' Q' κ2 ∧ (s.x < o.length → NearK f st2 G' Q' κ2 (s.x + 1) s.y (s.far + 1) (2 * κ s.turn)) ∧ st2.led = st.led.set (idx f.length s.x s.y) s.kind ∧
          (∀ q ∈ st2.op, s.far ≤ q.far ∧ q.far ≤ s.far + 1 ∧ (q.far = s.far → κ2 s.turn < κ2 q.turn) ∧ (q.far = s.far + 1 → κ2 q.turn < 2 * κ s.turn + 1)) := by
        split
        · rename_i hxl
          obtain ⟨κ2, c1, c2, c3, c4, c5, c6, c7⟩ := i0.change o f s 1 0 45 (2 * κ s.turn) ptn (by omega) (by omega) (by omega) hrel hGle (.inr (.inr (.inl ⟨rfl, by omega, by simpa using hhere, by simpa using hsf, by simp [hG1], by simp [hQ1]⟩))) (by simpa using plow.drop o f hsf hxl py)
          exact ⟨_, κ2, rfl, c1 _ ptn, c5, c2, fun _ => by simpa using c3, c4, c7⟩
        · exact ⟨_, κ, rfl, rfl, Nat.le_refl _, i0, fun hh => absurd hh (by assumption), rfl, fun q hq => by
            obtain ⟨a, b, c, d⟩ := hrel q hq
            exact ⟨a, b, c, fun e => Nat.lt_succ_of_lt (d e)⟩⟩
      obtain ⟨st2, κ2, hst2, k1, k2, j1, j2, j3, j4⟩ := key1
      rw [← hst2]
      have hat2 : ∀ x y, st2.at f.length x y = Srch.at { op := popR st.op, turns := st.turns, led := st.led.set (idx f.length s.x s.y) s.kind } f.length x y := by intro x y; unfold Srch.at; rw [j3]
      split
      · rename_i hyl
        obtain ⟨κ3, c1, c2, c3, c4, c5, c6, c7⟩ := j1.change o f s 0 1 43 (2 * κ s.turn + 1) (by omega) (by omega) (by omega) (by omega) j4 (fun x y hx hy hr => by rw [k1]; exact hGle x y hx hy (by rw [← hat2]; exact hr)) (.inr (.inr (.inr ⟨rfl, by omega, by rw [hat2]; simpa using hhere, by simpa using hsf, by simp [hG1], by simp [hQ1]⟩))) (by simpa using plow.add o f hsf px hyl)
        refine ⟨G', Q', κ3, close _ _ c2 ?_⟩
        unfold NextK
        rw [if_neg hsame, hG1, hQ1]
        exact ⟨fun hx => c6 _ _ _ _ (j2 hx), fun _ => by simpa using c3⟩
      · rename_i hyl
        refine ⟨G', Q', κ2, close _ _ j1 ?_⟩
        unfold NextK
        rw [if_neg hsame, hG1, hQ1]
        exact ⟨j2, fun hy => absurd hy hyl⟩
  · rename_i h0
    refine ⟨G, Q, κ, ?_⟩
    have hnear : ∀ x y c k, x ≤ o.length → y ≤ f.length → NearK f st G Q κ x y c k → NearK f { op := popR st.op, turns := st.turns, led := st.led } G Q κ x y c k := by
      intro x y c k hx hy hn
      rcases hn with h1 | ⟨q, hq, e1, e2, e3⟩
      · exact .inl h1
      · rcases (hmem q).1 hq with hq' | rfl
        · exact .inr ⟨q, hq', e1, e2, e3⟩
        · left
          subst e1 e2
          refine ⟨h0, ?_⟩
          have := pm _ _ hx hy h0
          unfold le2 at *
          omega
    refine ⟨hh, hu1, fun q hq => h.tle q ((hmem q).2 (.inl hq)), fun q1 h1 q2 h2 => h.far q1 ((hmem q1).2 (.inl h1)) q2 ((hmem q2).2 (.inl h2)), fun q1 h1 q2 h2 => h.ord q1 ((hmem q1).2 (.inl h1)) q2 ((hmem q2).2 (.inl h2)), fun q1 h1 q2 h2 => h.ord2 q1 ((hmem q1).2 (.inl h1)) q2 ((hmem q2).2 (.inl h2)),
      fun x y hx hy hr q hq => h.mono x y hx hy hr q ((hmem q).2 (.inl hq)), fun q hq => h.spots q ((hmem q).2 (.inl hq)), h.known, hnear 0 0 0 0 (by omega) (by omega) h.start, ?_, h.low, fun q hq => h.lowS q ((hmem q).2 (.inl hq)), h.top⟩
    intro x y hx hy hr _
    have := h.next x y hx hy hr (by simp)
    unfold NextK at this ⊢
    split at this
    · rename_i hs'
      have hlt := same_lt o f hs'
      rw [if_pos hs']
      exact hnear _ _ _ _ (by omega) (by omega) this
    · rename_i hs'
      rw [if_neg hs']
      exact ⟨fun a => hnear _ _ _ _ (by omega) hy (this.1 a), fun a => hnear _ _ _ _ hx (by omega) (this.2 a)⟩
theorem startK : InvK o f none (startM o f) (fun _ _ => 0) (fun _ _ => 0) (fun _ => 0) := by
  have h0 : ∀ x y, (startM o f).at f.length x y = 0 := by
    intro x y
    simp [startM, Srch.at, List.getD, List.getElem?_replicate]
    split <;> rfl
  have hop : ∀ s ∈ (startM o f).op, s = ⟨0, 0, 0, 0, 46⟩ := by intro s hs; simpa [startM] using hs
  refine ⟨?_, by simp [startM], ?_, ?_, ?_, ?_, fun x y _ _ hr => absurd (h0 x y) hr, ?_, fun x y _ _ hr => absurd (h0 x y) hr, .inr ⟨⟨0, 0, 0, 0, 46⟩, by simp [startM], rfl, rfl, .inr ⟨rfl, Nat.le_refl _⟩⟩, fun x y _ _ hr => absurd (h0 x y) hr, fun x y _ _ hr => absurd (h0 x y) hr, ?_, fun hr => absurd (h0 _ _) hr⟩
  · intro i hi hl; simp [startM] at hl; omega
  · intro s hs; rw [hop s hs]; exact Nat.zero_le _
  · intro s hs q hq; rw [hop s hs, hop q hq]; simp
  · intro s hs q hq _ hlt; rw [hop s hs, hop q hq] at hlt; simp at hlt
  · intro s hs q hq e; rw [hop s hs, hop q hq] at e; simp at e
  · intro s hs; rw [hop s hs]; exact .inl ⟨rfl, rfl, rfl, rfl, rfl⟩
  · intro s hs; rw [hop s hs]; exact ⟨by simp [rd], fun _ => by simp [kb]⟩
theorem searchM_K : ∀ (k : Nat) (st : Srch) (G Q : Nat → Nat → Nat) (κ : Nat → Nat), Inv o f st → InvK o f none st G Q κ → ∃ G' Q' κ', InvK o f none (searchM o f k st) G' Q' κ' := by
  intro k
  induction k with
  | zero => intro st G Q κ _ hG; exact ⟨G, Q, κ, hG⟩
  | succ k ih =>
    intro st G Q κ hi hG
    by_cases he : st.at f.length o.length f.length = 0
    · simp only [searchM, he, if_true]
      obtain ⟨G1, Q1, κ1, hG1⟩ := hG.round o f hi he
      exact ih _ G1 Q1 κ1 (hi.round (hi.open_ne he)).1 hG1
    · rw [searchM_done he]; exact ⟨G, Q, κ, hG⟩
theorem backM_spec {st : Srch} {G Q : Nat → Nat → Nat} {κ : Nat → Nat} (h : InvK o f none st G Q κ) : ∀ (k x y : Nat), x + y ≤ k → x ≤ o.length → y ≤ f.length → st.at f.length x y ≠ 0 →
    G x y + rd o f x y = dist o f → Q x y * 2 ^ rd o f x y + kb o f x y = key o f → (backM o f st k x y).reverse ++ sp o f x y = spec o f := by
  intro k
  induction k with
  | zero =>
    intro x y hk _ _ _ _ _
    obtain rfl : x = 0 := by omega
    obtain rfl : y = 0 := by omega
    simp [backM, sp]
  | succ k ih =>
    intro x y hk hx hy hr hD hK
    unfold backM
    split
    · rename_i e
      rw [e.1, e.2]
      simp [sp]
    · rename_i hne
      have hc := h.known x y hx hy hr
      rcases hc with ⟨_, h1, h2, _⟩ | ⟨h1, h2, h3, h4, h5, h6, h7⟩ | ⟨h1, h2, h3, h4, h5, h6⟩ | ⟨h1, h2, h3, h4, h5, h6⟩
      · exact absurd ⟨h1, h2⟩ hne
      · rw [if_pos h1]
        obtain ⟨x, rfl⟩ : ∃ x', x = x' + 1 := ⟨x - 1, by omega⟩
        obtain ⟨y, rfl⟩ : ∃ y', y = y' + 1 := ⟨y - 1, by omega⟩
        simp only [Nat.add_sub_cancel] at *
        have hs := at_same o f h5
        have := ih x y (by omega) (by omega) (by omega) h4 (by rw [rd_same o f h5, ← h6]; exact hD) (by rw [rd_same o f h5, hs.1, ← h7]; exact hK)
        rw [hs.2] at this
        simpa using this
      · rw [if_neg (by omega), if_pos h1]
        obtain ⟨x, rfl⟩ : ∃ x', x = x' + 1 := ⟨x - 1, by omega⟩
        simp only [Nat.add_sub_cancel] at *
        have hl := (h.low x y (by omega) hy h3).1
        have hr1 := rd_x o f y (show x < o.length by omega)
        have hd : Drops o f x y := by
          by_cases hd : Drops o f x y
          · exact hd
          · have hy' : y < f.length := by
              by_cases ey : y < f.length
              · exact ey
              · exact absurd ⟨by omega, .inl (by omega)⟩ hd
            have := (at_add o f h4 (by omega) hy' hd).2.2.2 (by omega)
            omega
        obtain ⟨e1, e2, e3⟩ := at_drop o f h4 hy hd
        have := ih x y (by omega) (by omega) (by omega) h3 (by omega) (by rw [e1, e2, pw1, ← pw2, ← h6]; exact hK)
        rw [e3] at this
        simpa using this
      · rw [if_neg (by omega), if_neg (by omega), h1]
        obtain ⟨y, rfl⟩ : ∃ y', y = y' + 1 := ⟨y - 1, by omega⟩
        simp only [Nat.add_sub_cancel] at *
        have hl := h.low x y hx (by omega) h3
        have hl1 := hl.1
        have hr1 := rd_y o f x (show y < f.length by omega)
        have e0 : rd o f x y = rd o f x (y + 1) + 1 := by omega
        have hl2 := hl.2 (by omega)
        rw [e0, pw1] at hl2
        rw [h6, pw3] at hK
        have hd : ¬ Drops o f x y := by
          intro hd
          obtain ⟨e1, e2, _⟩ := at_drop o f h4 (by omega) hd
          have h8 := kb_lt o f (x + 1) y
          rw [show rd o f (x + 1) y = rd o f x (y + 1) by omega] at h8
          omega
        obtain ⟨e1, e2, e3, _⟩ := at_add o f h4 hx (by omega) hd
        have := ih x y (by omega) (by omega) (by omega) h3 (by omega) (by rw [e1, e2, pw1]; omega)
        rw [e3] at this
        simpa using this
theorem wayM_spec : wayM o f = spec o f := by
  obtain ⟨_, he⟩ := foundM_inv o f
  obtain ⟨G, Q, κ, hG⟩ := searchM_K o f (mu (startM o f)) (startM o f) _ _ _ (startM_inv o f) (startK o f)
  have hK : InvK o f none (foundM o f) G Q κ := hG
  have e3 : rd o f o.length f.length = 0 := by unfold rd; simp [dist_nil_l]
  have e4 : kb o f o.length f.length = 0 := by unfold kb; rw [List.drop_length, List.drop_length]; rfl
  have e5 : sp o f o.length f.length = [] := by unfold sp; rw [List.drop_length, List.drop_length]; rfl
  obtain ⟨t1, t2⟩ := hK.top he
  have hl := hK.low o.length f.length (Nat.le_refl _) (Nat.le_refl _) he
  have hl2 := hl.2 (by rw [e3, t1]; omega)
  rw [e3, e4] at hl2
  have := backM_spec o f hK (o.length + f.length) o.length f.length (Nat.le_refl _) (Nat.le_refl _) (Nat.le_refl _) he (by rw [e3, t1]; omega) (by rw [e3, e4]; simp at hl2 ⊢; omega)
  rw [e5] at this
  unfold wayM
  simpa using this
end
end Dn
namespace Go.Proofs.YtcclgodahlinbaaGreatDoor
open Go.RowKit Go
set_option maxRecDepth 100000
abbrev hkObj (h : HunkM) (a : Option Addr) (c : Nat) : Obj := .cells #[.int .i64 (h.fr : Int), .int .i64 (h.fc : Int), .int .i64 (h.tr : Int), .int .i64 (h.tc : Int), .slice a h.lines.length c] 61 (0, 0)
end Go.Proofs.YtcclgodahlinbaaGreatDoor
namespace Go.Proofs.YtcclgodahlinbaaGreatDoor
open Go.RowKit Go
set_option maxRecDepth 100000
def inl (a b : ByteArray) : List StepB := if checkI a b = 0 then inlineM a b else []
theorem inline_any (a b : ByteArray) (w : World) :
    Calls Tryz.prog 83 #[.string a, .string b] w fun e w' => ∃ al cl, e = .returned (.tuple #[.slice al (inl a b).length cl, .int .i64 (checkI a b : Nat)]) ∧ w'.ownsRow w.heap.size 101 2 (.slice al (inl a b).length cl) (inl a b).length (stepCells (inl a b)) ∧ Below w.heap.size w w' := by
  unfold inl
  by_cases h : checkI a b = 0
  · rw [if_pos h, h]
    exact inline_ok w h
  · rw [if_neg h]
    refine (inline_no w rfl h).mono ?_
    rintro e w' ⟨rfl, rfl⟩
    exact ⟨none, 0, rfl, World.ownsRow_nil _ _ _ _, Below.refl _ _⟩
def nlB (s : ByteArray) (i : Nat) : Bool := (s.data.toList.take i).contains 10
theorem index_has : ∀ l : List UInt8, decide (0 ≤ Lib.indexByte l 10) = l.contains 10
  | [] => by simp [Lib.indexByte]
  | b :: l => by
    have ih := index_has l
    have hg := Lib.indexByte_ge l 10
    rw [Lib.indexByte]
    by_cases hb : b = 10
    · subst hb; simp
    · have hb' : (b == 10) = false := by simpa using hb
      rw [hb', List.contains_cons]
      have : ((10 : UInt8) == b) = false := by simp; exact fun e => hb e.symm
      rw [this, Bool.false_or, ← ih]
      by_cases hm : Lib.indexByte l 10 = -1
      · simp [hm]
      · have h0 : 0 ≤ Lib.indexByte l 10 := by omega
        simp [hm, h0]
        omega
theorem hasNl_eq (s : ByteArray) : hasNl s = nlB s s.size := by
  unfold hasNl nlB
  rw [index_has, List.take_of_length_le (show s.data.toList.length ≤ s.size from Nat.le_refl _)]
theorem nlB_succ (s : ByteArray) (i : Nat) (h : i < s.size) : nlB s (i + 1) = (nlB s i || decide (s.data[i]'h = 10)) := by
  unfold nlB
  have h' : i < s.data.toList.length := h
  rw [List.take_succ_eq_append_getElem h', List.contains_append]
  congr 1
  simp [Array.getElem_toList]
  exact ⟨fun e => e.symm, fun e => e.symm⟩
theorem isEmpty_size (s : ByteArray) : s.toList.isEmpty = decide (s.size = 0) := by
  obtain ⟨⟨l⟩⟩ := s
  cases l <;> simp [ByteArray.size]
theorem byte_ten (x : UInt8) : (((x.toNat : Nat) : Int) == 10) = decide (x = 10) := by
  by_cases h : x = 10
  · subst h; rfl
  · have h1 : x.toNat ≠ 10 := by
      intro e
      apply h
      exact UInt8.toNat_inj.1 (by rw [e]; rfl)
    simp [h]
    omega
theorem nlB_next (s : ByteArray) (i : Nat) (h : i < s.size) : nlB s (i + 1) = (nlB s i || (((s[i]'h).toNat : Nat) : Int) == 10) := by
  rw [nlB_succ s i h, byte_ten]
  rfl
theorem bytes_app (l : List UInt8) (t : ByteArray) : (⟨l.toArray⟩ : ByteArray) ++ t = ⟨(l ++ t.data.toList).toArray⟩ := by
  apply ByteArray.ext
  simp [ByteArray.data_append]
theorem owns_run {base n c : Nat} {w : World} {a : Option Addr} {R : List StepB} (h : w.ownsRow base 101 2 (.slice a n c) n (stepCells R)) {i : Nat} (hi : i < R.length) :
    ∃ g, a = some ⟨g, 0, none⟩ ∧ g < w.heap.size ∧ w.cell? ⟨g, i * 2, none⟩ = some (.int .u8 (R[i].kind : Nat)) ∧ w.cell? ⟨g, i * 2 + 1, none⟩ = some (.string R[i].text) := by
  have hl : (stepCells R).length = n * 2 := h.1
  rw [stepCells_length] at hl
  obtain ⟨g, cap, e, _, hg, _⟩ := owns_slice h (by omega)
  cases e
  obtain ⟨s0, s1⟩ := stepCells_get R i hi
  exact ⟨g, rfl, hg, (h.cellAt (i * 2) (by omega)).trans s0, (h.cellAt (i * 2 + 1) (by omega)).trans s1⟩
end Go.Proofs.YtcclgodahlinbaaGreatDoor
namespace Go.Proofs.YtcclgodahlinbaaGreatDoor
open Go.RowKit Go
set_option maxRecDepth 100000
structure HI where
  fr : Int
  fc : Int
  tr : Int
  tc : Int
  lines : List StepB
def HI.ofM (h : HunkM) : HI := ⟨h.fr, h.fc, h.tr, h.tc, h.lines⟩
def cntF (L : List StepB) : Nat := (L.filter fun s => s.kind != 43).length
def cntT (L : List StepB) : Nat := (L.filter fun s => s.kind != 45).length
def chg (L : List StepB) : Bool := L.any fun s => s.kind != 32
def kindOk (k : Nat) : Bool := k == 32 || k == 45 || k == 43
def lnOk (s : StepB) : Bool := kindOk s.kind && !hasNl s.text
def numOk (f c : Int) : Bool := decide (0 ≤ f) && decide (f ≤ 100000) && decide (0 ≤ c) && decide (c ≤ 100000) && (decide (0 < f) || decide (c = 0))
def placeI (f c : Int) : Int := if 0 < c then f - 1 else f
def fitsI (h : HI) (en gr : Int) : Bool := numOk h.fr h.fc && numOk h.tr h.tc && decide (en ≤ placeI h.fr h.fc) && decide (placeI h.tr h.tc = placeI h.fr h.fc + gr)
def bodyOk (h : HI) : Bool := h.lines.all lnOk && chg h.lines && decide ((cntF h.lines : Int) = h.fc) && decide ((cntT h.lines : Int) = h.tc)
def rightI : Int → Int → List HI → Bool
  | _, _, [] => true
  | en, gr, h :: l => fitsI h en gr && bodyOk h && rightI (placeI h.fr h.fc + h.fc) (gr + h.tc - h.fc) l
theorem numOk_iff {f c : Int} : numOk f c = true ↔ 0 ≤ f ∧ f ≤ 100000 ∧ 0 ≤ c ∧ c ≤ 100000 ∧ (0 < f ∨ c = 0) := by
  unfold numOk; simp [Bool.and_eq_true, and_assoc]
theorem fitsI_iff {h : HI} {en gr : Int} : fitsI h en gr = true ↔ numOk h.fr h.fc = true ∧ numOk h.tr h.tc = true ∧ en ≤ placeI h.fr h.fc ∧ placeI h.tr h.tc = placeI h.fr h.fc + gr := by
  unfold fitsI; simp [Bool.and_eq_true, and_assoc]
theorem place_range {f c : Int} (h : numOk f c = true) : 0 ≤ placeI f c ∧ placeI f c ≤ 100000 := by
  rw [numOk_iff] at h; unfold placeI; split <;> omega
theorem cntF_take {L : List StepB} {k : Nat} (h : k < L.length) : cntF (L.take (k + 1)) = cntF (L.take k) + (if L[k].kind = 43 then 0 else 1) := by
  unfold cntF
  rw [List.take_succ_eq_append_getElem h, List.filter_append, List.length_append]
  by_cases hk : L[k].kind = 43 <;> simp [hk]
theorem cntT_take {L : List StepB} {k : Nat} (h : k < L.length) : cntT (L.take (k + 1)) = cntT (L.take k) + (if L[k].kind = 45 then 0 else 1) := by
  unfold cntT
  rw [List.take_succ_eq_append_getElem h, List.filter_append, List.length_append]
  by_cases hk : L[k].kind = 45 <;> simp [hk]
theorem chg_take {L : List StepB} {k : Nat} (h : k < L.length) : chg (L.take (k + 1)) = (chg (L.take k) || L[k].kind != 32) := by
  unfold chg
  rw [List.take_succ_eq_append_getElem h, List.any_append]
  simp
theorem all_take {L : List StepB} {k : Nat} (h : k < L.length) : (L.take (k + 1)).all lnOk = ((L.take k).all lnOk && lnOk L[k]) := by
  rw [List.take_succ_eq_append_getElem h, List.all_append]
  simp
theorem cntF_le (L : List StepB) (k : Nat) : cntF (L.take k) ≤ cntF L := by
  unfold cntF
  exact List.Sublist.length_le ((List.take_sublist k L).filter _)
theorem cntT_le (L : List StepB) (k : Nat) : cntT (L.take k) ≤ cntT L := by
  unfold cntT
  exact List.Sublist.length_le ((List.take_sublist k L).filter _)
theorem cntF_len (L : List StepB) : cntF L ≤ L.length := List.length_filter_le _ _
theorem cntT_len (L : List StepB) : cntT L ≤ L.length := List.length_filter_le _ _
theorem body_line {h : HI} {k : Nat} (hk : k < h.lines.length) (hb : lnOk h.lines[k] = false) : bodyOk h = false := by
  unfold bodyOk
  have : h.lines.all lnOk = false := by
    rw [Bool.eq_false_iff]
    intro ha
    rw [List.all_eq_true] at ha
    rw [ha _ (List.getElem_mem hk)] at hb
    cases hb
  rw [this]; rfl
theorem body_from {h : HI} {k : Nat} (hb : h.fc < cntF (h.lines.take k)) : bodyOk h = false := by
  have := cntF_le h.lines k
  unfold bodyOk
  rw [show decide ((cntF h.lines : Int) = h.fc) = false from decide_eq_false (by omega)]
  simp
theorem body_to {h : HI} {k : Nat} (hb : h.tc < cntT (h.lines.take k)) : bodyOk h = false := by
  have := cntT_le h.lines k
  unfold bodyOk
  rw [show decide ((cntT h.lines : Int) = h.tc) = false from decide_eq_false (by omega)]
  simp
def LinesAt (B : Nat) (w : World) (v : Value) (L : List StepB) : Prop :=
  (L = [] ∧ ∃ a c, v = .slice a 0 c) ∨ ∃ b off cap, v = .slice (some ⟨b, off, none⟩) L.length cap ∧ b < B ∧
    ∀ i (h : i < L.length), w.cell? ⟨b, off + i * 2, none⟩ = some (.int .u8 (L[i].kind : Nat)) ∧ w.cell? ⟨b, off + i * 2 + 1, none⟩ = some (.string L[i].text)
theorem LinesAt.below {B : Nat} {w w' : World} {v : Value} {L : List StepB} (h : LinesAt B w v L) (hb : Below B w w') : LinesAt B w' v L := by
  rcases h with h | ⟨b, off, cap, e, hB, hc⟩
  · exact .inl h
  · exact .inr ⟨b, off, cap, e, hB, fun i hi => ⟨(hb.cell (p := ⟨b, off + i * 2, none⟩) hB).trans (hc i hi).1, (hb.cell (p := ⟨b, off + i * 2 + 1, none⟩) hB).trans (hc i hi).2⟩⟩
theorem LinesAt.mono {B B' : Nat} {w : World} {v : Value} {L : List StepB} (h : LinesAt B w v L) (hb : B ≤ B') : LinesAt B' w v L := by
  rcases h with h | ⟨b, off, cap, e, hB, hc⟩
  · exact .inl h
  · exact .inr ⟨b, off, cap, e, by omega, hc⟩
theorem LinesAt.at {B n cap : Nat} {w : World} {a : Option Addr} {L : List StepB} (h : LinesAt B w (.slice a n cap) L) {i : Nat} (hi : i < L.length) :
    ∃ b off, a = some ⟨b, off, none⟩ ∧ b < B ∧ w.cell? ⟨b, off + i * 2, none⟩ = some (.int .u8 (L[i].kind : Nat)) ∧ w.cell? ⟨b, off + i * 2 + 1, none⟩ = some (.string L[i].text) := by
  rcases h with ⟨rfl, _⟩ | ⟨b, off, cap, e, hb, hc⟩
  · simp at hi
  · cases e
    exact ⟨b, off, rfl, hb, hc i hi⟩
theorem LinesAt.of_steps {B : Nat} {w : World} {v : Value} {L : List StepB} (h : StepsAt B w v L) : LinesAt B w v L := by
  rcases h with h | ⟨b, cap, e, hB, hc⟩
  · exact .inl h
  · refine .inr ⟨b, 0, cap, e, hB, fun i hi => ?_⟩
    have := hc i hi
    simpa using this
def HIAt (B : Nat) (w : World) (v : Value) (hs : List HI) : Prop :=
  (hs = [] ∧ ∃ a c, v = .slice a 0 c) ∨ ∃ b off cap, v = .slice (some ⟨b, off, none⟩) hs.length cap ∧ b < B ∧
    ∀ i (h : i < hs.length), ∃ a c, w.cell? ⟨b, off + i * 5, none⟩ = some (.int .i64 hs[i].fr) ∧ w.cell? ⟨b, off + i * 5 + 1, none⟩ = some (.int .i64 hs[i].fc) ∧ w.cell? ⟨b, off + i * 5 + 2, none⟩ = some (.int .i64 hs[i].tr) ∧
      w.cell? ⟨b, off + i * 5 + 3, none⟩ = some (.int .i64 hs[i].tc) ∧ w.cell? ⟨b, off + i * 5 + 4, none⟩ = some (.slice a hs[i].lines.length c) ∧ LinesAt B w (.slice a hs[i].lines.length c) hs[i].lines
theorem HIAt.below {B : Nat} {w w' : World} {v : Value} {hs : List HI} (h : HIAt B w v hs) (hb : Below B w w') : HIAt B w' v hs := by
  rcases h with h | ⟨b, off, cap, e, hB, hc⟩
  · exact .inl h
  · refine .inr ⟨b, off, cap, e, hB, fun i hi => ?_⟩
    obtain ⟨a, c, h0, h1, h2, h3, h4, h5⟩ := hc i hi
    exact ⟨a, c, (hb.cell (p := ⟨b, off + i * 5, none⟩) hB).trans h0, (hb.cell (p := ⟨b, off + i * 5 + 1, none⟩) hB).trans h1, (hb.cell (p := ⟨b, off + i * 5 + 2, none⟩) hB).trans h2, (hb.cell (p := ⟨b, off + i * 5 + 3, none⟩) hB).trans h3, (hb.cell (p := ⟨b, off + i * 5 + 4, none⟩) hB).trans h4, h5.below hb⟩
theorem HIAt.mono {B B' : Nat} {w : World} {v : Value} {hs : List HI} (h : HIAt B w v hs) (hb : B ≤ B') : HIAt B' w v hs := by
  rcases h with h | ⟨b, off, cap, e, hB, hc⟩
  · exact .inl h
  · refine .inr ⟨b, off, cap, e, by omega, fun i hi => ?_⟩
    obtain ⟨a, c, h0, h1, h2, h3, h4, h5⟩ := hc i hi
    exact ⟨a, c, h0, h1, h2, h3, h4, h5.mono hb⟩
theorem HIAt.at {B n cap : Nat} {w : World} {a : Option Addr} {hs : List HI} (h : HIAt B w (.slice a n cap) hs) {i : Nat} (hi : i < hs.length) :
    ∃ b off a' c, a = some ⟨b, off, none⟩ ∧ b < B ∧ w.cell? ⟨b, off + i * 5, none⟩ = some (.int .i64 hs[i].fr) ∧ w.cell? ⟨b, off + i * 5 + 1, none⟩ = some (.int .i64 hs[i].fc) ∧ w.cell? ⟨b, off + i * 5 + 2, none⟩ = some (.int .i64 hs[i].tr) ∧
      w.cell? ⟨b, off + i * 5 + 3, none⟩ = some (.int .i64 hs[i].tc) ∧ w.cell? ⟨b, off + i * 5 + 4, none⟩ = some (.slice a' hs[i].lines.length c) ∧ LinesAt B w (.slice a' hs[i].lines.length c) hs[i].lines := by
  rcases h with ⟨rfl, _⟩ | ⟨b, off, cap, e, hb, hc⟩
  · simp at hi
  · cases e
    obtain ⟨a', c, r⟩ := hc i hi
    exact ⟨b, off, a', c, rfl, hb, r⟩
theorem HIAt.of_hunks {B : Nat} {w : World} {v : Value} {hs : List HunkM} (h : HunksAt B w v hs) : HIAt B w v (hs.map HI.ofM) := by
  rcases h with ⟨rfl, h⟩ | ⟨b, cap, e, hB, hc⟩
  · exact .inl ⟨rfl, h⟩
  · refine .inr ⟨b, 0, cap, by rw [List.length_map]; exact e, hB, fun i hi => ?_⟩
    have hi' : i < hs.length := by simpa using hi
    obtain ⟨a, c, h0, h1, h2, h3, h4, h5⟩ := hc i hi'
    simp only [List.getElem_map, Nat.zero_add]
    exact ⟨a, c, h0, h1, h2, h3, h4, .of_steps h5⟩
def Lim (hs : List HI) : Prop := hs.length ≤ 300000 ∧ ∀ h ∈ hs, h.lines.length ≤ 1048576 ∧ (-9223372036854775808 ≤ h.fr ∧ h.fr ≤ 9223372036854775807) ∧ (-9223372036854775808 ≤ h.fc ∧ h.fc ≤ 9223372036854775807) ∧ (-9223372036854775808 ≤ h.tr ∧ h.tr ≤ 9223372036854775807) ∧ (-9223372036854775808 ≤ h.tc ∧ h.tc ≤ 9223372036854775807) ∧ ∀ s ∈ h.lines, s.kind < 256 ∧ s.text.size ≤ 1048576
abbrev hiVal (h : HI) (v : Value) : Value := .agg #[.int .i64 h.fr, .int .i64 h.fc, .int .i64 h.tr, .int .i64 h.tc, v]
abbrev hiObj (h : HI) (v : Value) : Obj := .cells #[.int .i64 h.fr, .int .i64 h.fc, .int .i64 h.tr, .int .i64 h.tc, v] 61 (0, 0)
end Go.Proofs.YtcclgodahlinbaaGreatDoor
