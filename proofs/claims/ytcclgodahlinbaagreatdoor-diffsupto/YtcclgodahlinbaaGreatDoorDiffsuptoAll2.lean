import Derived.Test.YtcclgodahlinbaaGreatDoorDiffsuptoAll1
import Derived.Test.YtcclgodahlinbaaGreatDoorWDiff
import Derived.Lib.SplitLaws
import Derived.Test.YtcclgodahlinbaaGreatDoorMSearch3
import Derived.Test.YtcclgodahlinbaaGreatDoorMHeap
import Derived.Laws.IdiomStrings
import Derived.Test.YtcclgodahlinbaaGreatDoorWReader
import Derived.Laws.AppendOwnNone
import Derived.Orders
import Derived.Deep.DeepCutAuto
import Derived.Deep.CutBlock
namespace Go.Proofs.YtcclgodahlinbaaGreatDoor
open Go.RowKit Go
set_option maxRecDepth 100000

set_option maxHeartbeats 8000000 in
theorem lsame_yes {hs : List HunkM} {a b : Option Addr} {ca cb : Nat} {w : World} (hA : HunksAt w.heap.size w (.slice a hs.length ca) hs) (hB : HunksAt w.heap.size w (.slice b hs.length cb) hs) (hL : hs.length ≤ 1000) (hl : ∀ h ∈ hs, h.lines.length ≤ 1000) :
    Calls Tryz.prog 81 #[.agg #[.slice a hs.length ca], .agg #[.slice b hs.length cb]] w fun e w' => e = .returned (.bool true) ∧ Below w.heap.size w w' := by
  have hb0 := ((Below.refl w.heap.size w).alloc (Nat.le_refl _) (.cells #[.slice a hs.length ca] 32)).alloc (by simp) (.cells #[.slice b hs.length cb] 32)
  have hP1 := heap_alloc_new w (.cells #[.slice a hs.length ca] 32)
  have hP2 := heap_alloc_new (w.alloc (.cells #[.slice a hs.length ca] 32)) (.cells #[.slice b hs.length cb] 32)
  rw [World.size_alloc] at hP2
  have hP1' := (Below.heap_alloc (w.alloc (.cells #[.slice a hs.length ca] 32)) (.cells #[.slice b hs.length cb] 32) w.heap.size (by simp)).trans hP1
  have hz : ((w.alloc (.cells #[.slice a hs.length ca] 32)).alloc (.cells #[.slice b hs.length cb] 32)).heap.size = w.heap.size + 2 := by simp
  go_enter Tryz.func81, Tryz.ntmps81
  go_wp2_with fail
  generalize (w.alloc (.cells #[.slice a hs.length ca] 32)).alloc (.cells #[.slice b hs.length cb] 32) = W0 at *
  clear hP1
  go_loopg [5] hs.length (fun g t wr => ∃ k : Nat, g = hs.length - k ∧ k ≤ hs.length ∧ t = .int .i64 k ∧ Below W0.heap.size W0 wr)
  case atStart => exact ⟨0, by omega, by omega, rfl, Below.refl _ _⟩
  case round =>
    obtain ⟨k, hgk, hkl, rfl, hbel⟩ := hrel
    have hG : Hid (gk = hs.length - k) := hgk
    clear hgk
    have hsw := hbel.size
    have hbw := hb0.trans (hbel.mono (by omega))
    have p1 : wr.cell? ⟨w.heap.size, 0, none⟩ = some (.slice a hs.length ca) := cell_of ((hbel.block w.heap.size (by omega)).trans hP1') rfl
    have p2 : wr.cell? ⟨w.heap.size + 1, 0, none⟩ = some (.slice b hs.length cb) := cell_of ((hbel.block (w.heap.size + 1) (by omega)).trans hP2) rfl
    by_cases hk : k < hs.length
    · have hkI : (k : Int) < hs.length := by omega
      obtain ⟨bA, a1, c1, rfl, hbA, r0, r1, r2, r3, r4, hsA⟩ := (hA.below hbw).at hk
      obtain ⟨bB, a2, c2, rfl, hbB, t0, t1, t2, t3, t4, hsB⟩ := (hB.below hbw).at hk
      have l1 := hl _ (List.getElem_mem hk)
      generalize hs[k] = h at *
      have q1 := (Below.refl wr.heap.size wr).alloc (Nat.le_refl _) (hkObj h a1 c1)
      have q2 := q1.alloc q1.size (hkObj h a2 c2)
      have hX1 := heap_alloc_new wr (hkObj h a1 c1)
      have hX2 := heap_alloc_new (wr.alloc (hkObj h a1 c1)) (hkObj h a2 c2)
      rw [World.size_alloc] at hX2
      have hX1' := (Below.heap_alloc (wr.alloc (hkObj h a1 c1)) (hkObj h a2 c2) wr.heap.size (by simp)).trans hX1
      have hzU : ((wr.alloc (hkObj h a1 c1)).alloc (hkObj h a2 c2)).heap.size = wr.heap.size + 2 := by simp
      have t0' : (wr.alloc (hkObj h a1 c1)).cell? ⟨bB, k * 5, none⟩ = some (.int .i64 (h.fr : Int)) := (q1.cell (p := ⟨bB, k * 5, none⟩) (by show bB < wr.heap.size; omega)).trans t0
      have t1' : (wr.alloc (hkObj h a1 c1)).cell? ⟨bB, k * 5 + 1, none⟩ = some (.int .i64 (h.fc : Int)) := (q1.cell (p := ⟨bB, k * 5 + 1, none⟩) (by show bB < wr.heap.size; omega)).trans t1
      have t2' : (wr.alloc (hkObj h a1 c1)).cell? ⟨bB, k * 5 + 2, none⟩ = some (.int .i64 (h.tr : Int)) := (q1.cell (p := ⟨bB, k * 5 + 2, none⟩) (by show bB < wr.heap.size; omega)).trans t2
      have t3' : (wr.alloc (hkObj h a1 c1)).cell? ⟨bB, k * 5 + 3, none⟩ = some (.int .i64 (h.tc : Int)) := (q1.cell (p := ⟨bB, k * 5 + 3, none⟩) (by show bB < wr.heap.size; omega)).trans t3
      have t4' : (wr.alloc (hkObj h a1 c1)).cell? ⟨bB, k * 5 + 4, none⟩ = some (.slice a2 h.lines.length c2) := (q1.cell (p := ⟨bB, k * 5 + 4, none⟩) (by show bB < wr.heap.size; omega)).trans t4
      have p2' : (wr.alloc (hkObj h a1 c1)).cell? ⟨w.heap.size + 1, 0, none⟩ = some (.slice (some ⟨bB, 0, none⟩) hs.length cb) := (q1.cell (p := ⟨w.heap.size + 1, 0, none⟩) (by show w.heap.size + 1 < wr.heap.size; omega)).trans p2
      clear hX1 t0 t1 t2 t3 t4
      have e0 : ∀ x : Int, (x != x) = false := by simp
      go_wp2_with fail
      generalize (wr.alloc (hkObj h a1 c1)).alloc (hkObj h a2 c2) = U at *
      have hbU := hbel.trans (q2.mono (by omega))
      have hsA' := hsA.below (q2.mono (by omega))
      have hsB' := hsB.below (q2.mono (by omega))
      clear t0' t1' t2' t3' t4' p2' r0 r1 r2 r3 r4 p1 p2 hsA hsB q1
      unfold hkObj at hX1' hX2
      generalize h.lines = M at *
      go_loopg [8] M.length (fun g t wi => ∃ j : Nat, g = M.length - j ∧ j ≤ M.length ∧ t = .int .i64 j ∧ Below U.heap.size U wi)
      case atStart => exact ⟨0, by omega, by omega, rfl, Below.refl _ _⟩
      case round =>
        rename World => wi
        obtain ⟨j, hgj, hjl, rfl, hbi⟩ := hrel
        have hGj : Hid (_ = M.length - j) := hgj
        clear hgj
        have hsi := hbi.size
        have x1 : wi.cell? ⟨wr.heap.size, 4, none⟩ = some (.slice a1 M.length c1) := cell_of ((hbi.block wr.heap.size (by omega)).trans hX1') rfl
        have x2 : wi.cell? ⟨wr.heap.size + 1, 4, none⟩ = some (.slice a2 M.length c2) := cell_of ((hbi.block (wr.heap.size + 1) (by omega)).trans hX2) rfl
        by_cases hj : j < M.length
        · have hjI : (j : Int) < M.length := by omega
          obtain ⟨g1, rfl, hg1, u0, u1⟩ := (hsA'.below (hbi.mono (by omega))).at hj
          obtain ⟨g2, rfl, hg2, v0, v1⟩ := (hsB'.below (hbi.mono (by omega))).at hj
          generalize M[j] = sx at *
          have hjI0 : (0 : Int) ≤ (j : Int) := by omega
          go_wp2_with fail
          go_quiet (fail)
          go_wp2_with fail
          go_roundg (M.length - (j + 1))
          · exact ⟨j + 1, rfl, by omega, by push_cast; rfl, Below.drewN' hbi⟩
          · have := hGj.out; omega
        · have hjI : ¬ ((j : Int) < M.length) := by omega
          go_wp2_with fail
          go_roundg (hs.length - (k + 1))
          · exact ⟨k + 1, rfl, by omega, by push_cast; rfl, hbU.trans (hbi.mono (by omega))⟩
          · have := hG.out; omega
    · have hkI : ¬ ((k : Int) < hs.length) := by omega
      go_wp2_with fail
      go_ret
      exact ⟨rfl, hbw⟩
end Go.Proofs.YtcclgodahlinbaaGreatDoor

namespace Go.Proofs.YtcclgodahlinbaaGreatDoor
open Go.RowKit Go
set_option maxRecDepth 100000

def hasNl (s : ByteArray) : Bool := decide (0 ≤ Lib.indexByte s.data.toList 10)
def checkI (old fresh : ByteArray) : Nat := if 200 < old.size ∨ 200 < fresh.size then 1 else if hasNl old = true ∨ hasNl fresh = true then 2 else 0
theorem contains_any (s : ByteArray) (w : World) : Calls Tryz.prog 107 #[.string s, .string ⟨#[10]⟩] w fun e w' => e = .returned (.bool (hasNl s)) ∧ w = w' := by
  refine (Tryz.strings_Contains_one s 10 w).mono ?_
  rintro e w' ⟨rfl, rfl⟩
  exact ⟨rfl, rfl⟩
set_option maxHeartbeats 2000000 in
theorem checkInline_any (old fresh : ByteArray) (w : World) : Calls Tryz.prog 114 #[.string old, .string fresh] w fun e w' => e = .returned (.int .i64 (checkI old fresh : Nat)) ∧ w = w' := by
  have i1 := contains_any old w
  have i2 := contains_any fresh w
  unfold checkI
  by_cases h1 : 200 < old.size
  · have h1I : (200 : Int) < old.size := by omega
    rw [if_pos (.inl h1)]
    go_enter Tryz.func114, Tryz.ntmps114
    go_wp2
    go_ret
    exact ⟨rfl, rfl⟩
  · have h1I : ¬ (200 : Int) < old.size := by omega
    by_cases h2 : 200 < fresh.size
    · have h2I : (200 : Int) < fresh.size := by omega
      rw [if_pos (.inr h2)]
      go_enter Tryz.func114, Tryz.ntmps114
      go_wp2
      go_ret
      exact ⟨rfl, rfl⟩
    · have h2I : ¬ (200 : Int) < fresh.size := by omega
      rw [if_neg (by omega)]
      cases e1 : hasNl old with
      | true =>
        rw [e1] at i1
        rw [if_pos (.inl rfl)]
        go_enter Tryz.func114, Tryz.ntmps114
        go_wp2_with fail
        refine i1.mono ?_
        rintro e w' ⟨rfl, rfl⟩
        go_wp2
        go_ret
        exact ⟨rfl, rfl⟩
      | false =>
        rw [e1] at i1
        cases e2 : hasNl fresh with
        | true =>
          rw [e2] at i2
          rw [if_pos (.inr rfl)]
          go_enter Tryz.func114, Tryz.ntmps114
          go_wp2_with fail
          refine i1.mono ?_
          rintro e w' ⟨rfl, rfl⟩
          go_wp2_with fail
          refine i2.mono ?_
          rintro e w' ⟨rfl, rfl⟩
          go_wp2
          go_ret
          exact ⟨rfl, rfl⟩
        | false =>
          rw [e2] at i2
          rw [if_neg (by simp)]
          go_enter Tryz.func114, Tryz.ntmps114
          go_wp2_with fail
          refine i1.mono ?_
          rintro e w' ⟨rfl, rfl⟩
          go_wp2_with fail
          refine i2.mono ?_
          rintro e w' ⟨rfl, rfl⟩
          go_wp2
          go_ret
          exact ⟨rfl, rfl⟩

def inlineM (old fresh : ByteArray) : List StepB := runsM (Dn.wayM (lettersB old) (lettersB fresh))
set_option maxHeartbeats 2000000 in
theorem inline_no {old fresh : ByteArray} {k : Nat} (w : World) (h : checkI old fresh = k) (hk : k ≠ 0) :
    Calls Tryz.prog 83 #[.string old, .string fresh] w fun e w' => e = .returned (.tuple #[.slice none 0 0, .int .i64 k]) ∧ w = w' := by
  have hc := checkInline_any old fresh w
  rw [h] at hc
  have hq : ((k : Int) == 0) = false := by simp; omega
  have hq2 : ((k : Int) != 0) = true := by simp; omega
  go_enter Tryz.func83, Tryz.ntmps83
  go_wp2_with fail
  refine hc.mono ?_
  rintro e w' ⟨rfl, rfl⟩
  go_wp2
  go_ret2
  exact ⟨rfl, rfl⟩
theorem catL_len {l : List ByteArray} {k : Nat} (h : ∀ s ∈ l, s.size ≤ k) : (catL l).length ≤ l.length * k := by
  induction l with
  | nil => simp [catL]
  | cons a l ih =>
    have e : catL (a :: l) = a.data.toList ++ catL l := rfl
    have h1 := ih (fun s hs => h s (List.mem_cons_of_mem _ hs))
    have h2 : a.data.toList.length = a.size := rfl
    have h3 := h a (by simp)
    rw [e, List.length_append, List.length_cons, Nat.add_mul]
    omega
theorem letter_size {s t : ByteArray} (h : t ∈ lettersB s) : t.size ≤ s.size := by
  have h1 := (letters_ok s).1
  obtain ⟨a, b, e⟩ := List.append_of_mem h
  rw [e] at h1
  have h2 := congrArg List.length h1
  rw [catL_append] at h2
  have h3 : catL (t :: b) = t.data.toList ++ catL b := rfl
  rw [h3] at h2
  simp only [List.length_append] at h2
  have h4 : t.data.toList.length = t.size := rfl
  have h5 : s.data.toList.length = s.size := rfl
  omega
set_option maxHeartbeats 4000000 in
theorem inline_ok {old fresh : ByteArray} (w : World) (h : checkI old fresh = 0) :
    Calls Tryz.prog 83 #[.string old, .string fresh] w fun e w' => ∃ a cap, e = .returned (.tuple #[.slice a (inlineM old fresh).length cap, .int .i64 0]) ∧ w'.ownsRow w.heap.size 101 2 (.slice a (inlineM old fresh).length cap) (inlineM old fresh).length (stepCells (inlineM old fresh)) ∧ Below w.heap.size w w' := by
  have hc := checkInline_any old fresh w
  rw [h] at hc
  have hsz : old.size ≤ 200 ∧ fresh.size ≤ 200 := by
    unfold checkI at h
    split at h
    · cases h
    · omega
  have l1 := (letters_ok old).2.2
  have l2 := (letters_ok fresh).2.2
  have hw := way_len (lettersB old) (lettersB fresh)
  have hwt : (catL ((Dn.wayM (lettersB old) (lettersB fresh)).map (·.text))).length ≤ 100000 := by
    have := catL_len (l := (Dn.wayM (lettersB old) (lettersB fresh)).map (·.text)) (k := 200) (by
      intro s hs
      obtain ⟨x, hx, rfl⟩ := List.mem_map.1 hs
      rcases way_text hx with h | h
      · have := letter_size h; omega
      · have := letter_size h; omega)
    rw [List.length_map] at this
    have h2 := Nat.mul_le_mul_right 200 (show (Dn.wayM (lettersB old) (lettersB fresh)).length ≤ 400 by omega)
    omega
  have hLo := lettersOf_any old w (by omega)
  have hLf : Hid (∀ w2 : World, Calls Tryz.prog 116 #[.string fresh] w2 fun e w' => ∃ v, e = .returned v ∧ w'.ownsRow w2.heap.size 9 1 v (lettersB fresh).length (strCells (lettersB fresh)) ∧ Below w2.heap.size w2 w') := fun w2 => lettersOf_any fresh w2 (by omega)
  have hFi : Hid (∀ (w3 : World) ao capo af capf, Strs w3.heap.size w3 (.slice ao (lettersB old).length capo) (lettersB old) → Strs w3.heap.size w3 (.slice af (lettersB fresh).length capf) (lettersB fresh) →
      Calls Tryz.prog 25 #[.slice ao (lettersB old).length capo, .slice af (lettersB fresh).length capf] w3 fun e w' => ∃ a cap, e = .returned (.slice a (Dn.wayM (lettersB old) (lettersB fresh)).length cap) ∧ StepsAt w'.heap.size w' (.slice a (Dn.wayM (lettersB old) (lettersB fresh)).length cap) (Dn.wayM (lettersB old) (lettersB fresh)) ∧ Below w3.heap.size w3 w') := by
    intro w3 ao capo af capf s1 s2
    refine (find_row s1 s2 (by omega) (by omega)).mono ?_
    rintro e w' ⟨v, rfl, ho, hb⟩
    have hst := StepsAt.of_owns ho
    obtain ⟨a, cap, rfl⟩ := hst.slice
    exact ⟨a, cap, rfl, hst, hb⟩
  have hRu : Hid (∀ (w4 : World) a cap, StepsAt w4.heap.size w4 (.slice a (Dn.wayM (lettersB old) (lettersB fresh)).length cap) (Dn.wayM (lettersB old) (lettersB fresh)) →
      Calls Tryz.prog 115 #[.slice a (Dn.wayM (lettersB old) (lettersB fresh)).length cap] w4 fun e w' => ∃ v, e = .returned v ∧ w'.ownsRow w4.heap.size 101 2 v (inlineM old fresh).length (stepCells (inlineM old fresh)) ∧ Below w4.heap.size w4 w') := by
    intro w4 a cap hst
    exact runsOf_any hst (by omega) hwt
  clear hw hwt l1 l2 hsz h
  generalize inlineM old fresh = IM at *
  generalize lettersB old = Lo at *
  generalize lettersB fresh = Lf at *
  generalize Dn.wayM Lo Lf = WW at *
  go_enter Tryz.func83, Tryz.ntmps83
  go_wp2_with fail
  refine hc.mono ?_
  rintro e w' ⟨rfl, rfl⟩
  clear hc
  go_wp2_with fail
  refine hLo.mono ?_
  clear hLo
  rintro e w1 ⟨v1, rfl, o1, b1⟩
  obtain ⟨a1, c1, rfl⟩ := owns_isSlice o1
  have s1 := Strs.of_owns o1
  go_wp2_with fail
  refine (hLf.out w1).mono ?_
  rintro e w2 ⟨v2, rfl, o2, b2⟩
  obtain ⟨a2, c2, rfl⟩ := owns_isSlice o2
  have s2 := Strs.of_owns o2
  have z1 := b1.size
  have z2 := b2.size
  have s1' := (s1.below b2).mono b2.size
  go_wp2_with fail
  refine (hFi.out w2 _ _ _ _ s1' s2).mono ?_
  rintro e w3 ⟨a3, c3, rfl, st, b3⟩
  have z3 := b3.size
  go_wp2_with fail
  refine (hRu.out w3 _ _ st).mono ?_
  rintro e w4 ⟨v4, rfl, o4, b4⟩
  obtain ⟨a4, c4, rfl⟩ := owns_isSlice o4
  go_wp2_with fail
  go_ret2
  refine ⟨a4, c4, rfl, ⟨o4.1, ?_⟩, b1.trans ((b2.mono z1).trans ((b3.mono (by omega)).trans (b4.mono (by omega))))⟩
  rcases o4.2 with h | ⟨g, cap, cur, e, h1, h2⟩
  · exact .inl h
  · exact .inr ⟨g, cap, cur, e, by omega, h2⟩
end Go.Proofs.YtcclgodahlinbaaGreatDoor

namespace Go.Proofs.YtcclgodahlinbaaGreatDoor
open Go.RowKit Go
set_option maxRecDepth 100000

theorem index_nl : ∀ (a r : List UInt8), (10 : UInt8) ∉ a → Lib.index (a ++ 10 :: r) [10] = (a.length : Int)
  | [], r, _ => by rw [List.nil_append, Lib.index]; simp [List.isPrefixOf]
  | b :: a, r, h => by
    have hb : b ≠ 10 := by intro e; exact h (by simp [e])
    have ih := index_nl a r (fun e => h (List.mem_cons_of_mem _ e))
    have hp : ([10] : List UInt8).isPrefixOf (b :: (a ++ 10 :: r)) = false := by simp [List.isPrefixOf, Ne.symm hb]
    rw [List.cons_append, Lib.index, hp, ih]
    simp
theorem index_none : ∀ (a : List UInt8), (10 : UInt8) ∉ a → Lib.index a [10] = -1
  | [], _ => by simp [Lib.index]
  | b :: a, h => by
    have hb : b ≠ 10 := by intro e; exact h (by simp [e])
    have ih := index_none a (fun e => h (List.mem_cons_of_mem _ e))
    have hp : ([10] : List UInt8).isPrefixOf (b :: a) = false := by simp [List.isPrefixOf, Ne.symm hb]
    rw [Lib.index, hp, ih]
    simp

/-- lines with signs between them alone -/
def joinL : List (List UInt8) → List UInt8
  | [] => []
  | [a] => a
  | a :: b :: l => a ++ 10 :: joinL (b :: l)
theorem joinL_count : ∀ (L : List (List UInt8)), (∀ a ∈ L, (10 : UInt8) ∉ a) → L ≠ [] → (joinL L).count 10 + 1 = L.length
  | [], _, h => absurd rfl h
  | [a], h, _ => by simp [joinL, List.count_eq_zero.2 (h a (by simp))]
  | a :: b :: l, h, _ => by
    have ih := joinL_count (b :: l) (fun x hx => h x (List.mem_cons_of_mem _ hx)) (by simp)
    rw [joinL, List.count_append, List.count_cons_self, List.count_eq_zero.2 (h a (by simp))]
    simp only [List.length_cons] at ih ⊢
    omega
theorem splitK_join : ∀ (L : List (List UInt8)), (∀ a ∈ L, (10 : UInt8) ∉ a) → L ≠ [] → ∀ k, k + 1 = L.length → Lib.splitK [10] 0 k (joinL L) = L
  | [], _, h, _, _ => absurd rfl h
  | [a], _, _, k, hk => by
    obtain rfl : k = 0 := by simpa using hk
    rfl
  | a :: b :: l, h, _, k, hk => by
    cases k with
    | zero => simp at hk
    | succ k =>
      have ih := splitK_join (b :: l) (fun x hx => h x (List.mem_cons_of_mem _ hx)) (by simp) k (by simpa using hk)
      have hi := index_nl a (joinL (b :: l)) (h a (by simp))
      rw [joinL, Lib.splitK, hi, if_neg (by simp)]
      have e1 : (a ++ 10 :: joinL (b :: l)).take (((a.length : Int)).toNat + 0) = a := by simp
      have e2 : (a ++ 10 :: joinL (b :: l)).drop (((a.length : Int)).toNat + [(10 : UInt8)].length) = joinL (b :: l) := by
        rw [Int.toNat_natCast, List.drop_append, List.drop_eq_nil_of_le (by simp)]
        simp
      rw [e1, e2, ih]
theorem textL_join : ∀ (L : List ByteArray), L ≠ [] → textL L = joinL (L.map (·.data.toList)) ++ [10]
  | [], h => absurd rfl h
  | [a], _ => by simp [textL, joinL]
  | a :: b :: l, _ => by
    have ih := textL_join (b :: l) (by simp)
    have e : textL (a :: b :: l) = (a.data.toList ++ [10]) ++ textL (b :: l) := rfl
    rw [e, ih]
    simp [joinL]
theorem bytes_inj {a b : List ByteArray} (h : a.map (·.data.toList) = b.map (·.data.toList)) : a = b := by
  refine List.map_inj_right (f := fun s : ByteArray => s.data.toList) ?_ |>.1 h
  intro x y e
  apply ByteArray.ext
  exact Array.toList_inj.1 e
/-- no sign of a line's end -/
def Plain (L : List ByteArray) : Prop := ∀ s ∈ L, (10 : UInt8) ∉ s.data.toList
theorem linesB_text {L : List ByteArray} (h : Plain L) : linesB (textB L) = L := by
  by_cases h0 : L = []
  · subst h0; simp [linesB, textB, textL]
  · have hj := textL_join L h0
    have hne : (textB L).toList.isEmpty = false := by
      unfold textB
      rw [hj]
      simp
    have ht : trimB (textB L) = ⟨(joinL (L.map (·.data.toList))).toArray⟩ := by
      unfold trimB textB Lib.trimSuffix Lib.hasSuffix
      simp only [hj]
      rw [if_pos (by simp)]
      simp
    unfold linesB
    rw [hne, if_neg (by simp), ht]
    apply bytes_inj
    have hP : ∀ a ∈ L.map (·.data.toList), (10 : UInt8) ∉ a := by
      intro a ha
      obtain ⟨s, hs, rfl⟩ := List.mem_map.1 ha
      exact h s hs
    have hc := joinL_count _ hP (by simp [h0])
    rw [Lib.splitB_data]
    have e3 : Lib.countB ⟨(joinL (L.map (·.data.toList))).toArray⟩ nl = (joinL (L.map (·.data.toList))).count 10 := by
      show Lib.count _ _ = _
      exact Lib.count_one 10 _
    rw [e3]
    exact splitK_join _ hP (by simp [h0]) _ hc
theorem textL_count {L : List ByteArray} (h : Plain L) : (textL L).count 10 = L.length := by
  by_cases h0 : L = []
  · subst h0; rfl
  · have hP : ∀ a ∈ L.map (·.data.toList), (10 : UInt8) ∉ a := by
      intro a ha
      obtain ⟨s, hs, rfl⟩ := List.mem_map.1 ha
      exact h s hs
    have hc := joinL_count _ hP (by simp [h0])
    rw [textL_join L h0, List.count_append]
    simp at hc ⊢
    omega
theorem isTextB_text (L : List ByteArray) : isTextB (textB L) = true := by
  by_cases h0 : L = []
  · subst h0; simp [isTextB, textB, textL]
  · unfold isTextB textB Lib.hasSuffix
    simp only [textL_join L h0]
    simp
theorem largeB_text {L : List ByteArray} (h : Plain L) (h1 : L.length ≤ 200) (h2 : (textL L).length ≤ 8000) : largeB (textB L) = false := by
  have e1 : (textB L).size = (textL L).length := rfl
  have e2 : Lib.countByte (textB L).data.toList 10 = L.length := textL_count h
  unfold largeB
  rw [e1, e2]
  simp
  omega
theorem checkB_text {L R : List ByteArray} {c : Nat} (h : Plain L) (h1 : L.length ≤ 200) (h2 : (textL L).length ≤ 8000) (g : Plain R) (g1 : R.length ≤ 200) (g2 : (textL R).length ≤ 8000) (hc : c ≤ 10) : checkB (textB L) (textB R) c = 0 := by
  unfold checkB
  rw [isTextB_text, isTextB_text, largeB_text h h1 h2, largeB_text g g1 g2]
  simp
  omega
end Go.Proofs.YtcclgodahlinbaaGreatDoor

namespace Dn
section
set_option linter.unusedSectionVars false
variable {α : Type} [DecidableEq α]

/-- a way from a row to another with so many drops and adds: whatever holds of the empty rows and is handed on by a keep, a drop and an add, holds of them -/
def Ed (l r : List α) (k : Nat) : Prop :=
  ∀ P : List α → List α → Nat → Prop, P [] [] 0 → (∀ a l r k, P l r k → P (a :: l) (a :: r) k) → (∀ a l r k, P l r k → P (a :: l) r (k + 1)) → (∀ a l r k, P l r k → P l (a :: r) (k + 1)) → P l r k
theorem Ed.nil : Ed ([] : List α) [] 0 := fun _ h _ _ _ => h
theorem Ed.keep (a : α) (l r : List α) (k : Nat) (h : Ed l r k) : Ed (a :: l) (a :: r) k := fun P p1 p2 p3 p4 => p2 a l r k (h P p1 p2 p3 p4)
theorem Ed.drop (a : α) (l r : List α) (k : Nat) (h : Ed l r k) : Ed (a :: l) r (k + 1) := fun P p1 p2 p3 p4 => p3 a l r k (h P p1 p2 p3 p4)
theorem Ed.add (a : α) (l r : List α) (k : Nat) (h : Ed l r k) : Ed l (a :: r) (k + 1) := fun P p1 p2 p3 p4 => p4 a l r k (h P p1 p2 p3 p4)
theorem Ed.ind {motive : (l r : List α) → (k : Nat) → Ed l r k → Prop} (nil : motive [] [] 0 Ed.nil)
    (keep : ∀ (a : α) (l r : List α) (k : Nat) (h : Ed l r k), motive l r k h → motive (a :: l) (a :: r) k (Ed.keep a l r k h))
    (drop : ∀ (a : α) (l r : List α) (k : Nat) (h : Ed l r k), motive l r k h → motive (a :: l) r (k + 1) (Ed.drop a l r k h))
    (add : ∀ (a : α) (l r : List α) (k : Nat) (h : Ed l r k), motive l r k h → motive l (a :: r) (k + 1) (Ed.add a l r k h)) {l r : List α} {k : Nat} (h : Ed l r k) : motive l r k h :=
  (h (fun l r k => ∃ h : Ed l r k, motive l r k h) ⟨Ed.nil, nil⟩ (fun a l r k ⟨h, p⟩ => ⟨Ed.keep a l r k h, keep a l r k h p⟩) (fun a l r k ⟨h, p⟩ => ⟨Ed.drop a l r k h, drop a l r k h p⟩) (fun a l r k ⟨h, p⟩ => ⟨Ed.add a l r k h, add a l r k h p⟩)).elim fun _ p => p

def distRow (a : α) (prev : List α → Nat) : List α → Nat
  | [] => prev [] + 1
  | b :: r => if a = b then prev r else 1 + min (prev (b :: r)) (distRow a prev r)
def dist : List α → List α → Nat
  | [] => List.length
  | a :: l => distRow a (dist l)

theorem dist_nil_l (r : List α) : dist [] r = r.length := rfl
theorem dist_nil_r (l : List α) : dist l [] = l.length := by
  induction l with
  | nil => rfl
  | cons a l ih => show dist l [] + 1 = _; rw [ih]; rfl
theorem dist_cc (a b : α) (l r : List α) : dist (a :: l) (b :: r) = if a = b then dist l r else 1 + min (dist l (b :: r)) (dist (a :: l) r) := rfl
theorem dist_same (a : α) (l r : List α) : dist (a :: l) (a :: r) = dist l r := by rw [dist_cc, if_pos rfl]
theorem dist_ne {a b : α} (h : a ≠ b) (l r : List α) : dist (a :: l) (b :: r) = 1 + min (dist l (b :: r)) (dist (a :: l) r) := by rw [dist_cc, if_neg h]

theorem dist_comm : ∀ (n : Nat) (l r : List α), l.length + r.length ≤ n → dist l r = dist r l := by
  intro n
  induction n with
  | zero =>
    intro l r h
    have h1 : l = [] := List.eq_nil_of_length_eq_zero (by omega)
    have h2 : r = [] := List.eq_nil_of_length_eq_zero (by omega)
    rw [h1, h2]
  | succ n ih =>
    intro l r h
    cases l with
    | nil => rw [dist_nil_l, dist_nil_r]
    | cons a l =>
      cases r with
      | nil => rw [dist_nil_l, dist_nil_r]
      | cons b r =>
        simp only [List.length_cons] at h
        by_cases e : a = b
        · subst e; rw [dist_same, dist_same]; exact ih _ _ (by omega)
        · rw [dist_ne e, dist_ne (Ne.symm e), ih l (b :: r) (by simp; omega), ih (a :: l) r (by simp; omega)]
          omega

theorem dist_near : ∀ (n : Nat) (l r : List α), l.length + r.length ≤ n → (∀ a, dist (a :: l) r ≤ dist l r + 1) ∧ (∀ b, dist l r ≤ dist l (b :: r) + 1) := by
  intro n
  induction n with
  | zero =>
    intro l r h
    have h1 : l = [] := List.eq_nil_of_length_eq_zero (by omega)
    have h2 : r = [] := List.eq_nil_of_length_eq_zero (by omega)
    subst h1 h2
    simp [dist_nil_l, dist_nil_r]
  | succ n ih =>
    intro l r h
    refine ⟨fun a => ?_, fun b => ?_⟩
    · cases r with
      | nil => rw [dist_nil_r, dist_nil_r]; simp
      | cons b r =>
        simp only [List.length_cons] at h
        by_cases e : a = b
        · subst e
          rw [dist_same]
          exact (ih l r (by omega)).2 a
        · rw [dist_ne e]; omega
    · cases l with
      | nil => rw [dist_nil_l, dist_nil_l]; simp; omega
      | cons c l =>
        simp only [List.length_cons] at h
        by_cases e : c = b
        · subst e
          rw [dist_same]
          exact (ih l r (by omega)).1 c
        · rw [dist_ne e]
          have h1 := (ih l r (by omega)).1 c
          have h2 := (ih l r (by omega)).2 b
          omega
theorem dist_l1 (a : α) (l r : List α) : dist (a :: l) r ≤ dist l r + 1 := (dist_near _ l r (Nat.le_refl _)).1 a
theorem dist_r1 (b : α) (l r : List α) : dist l (b :: r) ≤ dist l r + 1 := by
  rw [dist_comm _ l (b :: r) (Nat.le_refl _), dist_comm _ l r (Nat.le_refl _)]; exact dist_l1 b r l
theorem Ed.dist_le {l r : List α} {k : Nat} (h : Ed l r k) : dist l r ≤ k := by
  induction h using Ed.ind with
  | nil => exact Nat.le_refl _
  | keep a l r k _ ih => rw [dist_same]; exact ih
  | drop a l r k _ ih => have := dist_l1 a l r; omega
  | add a l r k _ ih => have := dist_r1 a l r; omega
theorem Ed.refl (l : List α) : Ed l l 0 := by
  induction l with
  | nil => exact .nil
  | cons a l ih => exact .keep a l l 0 ih
/-- a line more -/
theorem Ed.put {l r : List α} {k : Nat} (h : Ed l r k) (a : α) : ∀ i, i ≤ r.length → Ed l (r.take i ++ a :: r.drop i) (k + 1) := by
  induction h using Ed.ind with
  | nil => intro i hi; simp at hi; subst hi; exact .add a _ _ _ .nil
  | keep b l r k h ih =>
    intro i hi
    cases i with
    | zero => exact .add a _ _ _ (.keep b l r k h)
    | succ i => exact .keep b _ _ _ (ih i (by simpa using hi))
  | drop b l r k h ih => intro i hi; exact .drop b _ _ _ (ih i hi)
  | add b l r k h ih =>
    intro i hi
    cases i with
    | zero => exact .add a _ _ _ (.add b l r k h)
    | succ i => exact .add b _ _ _ (ih i (by simpa using hi))
/-- a line less -/
theorem Ed.cut {l r : List α} {k : Nat} (h : Ed l r k) : ∀ i, i < r.length → ∃ k', k' ≤ k + 1 ∧ Ed l (r.take i ++ r.drop (i + 1)) k' := by
  induction h using Ed.ind with
  | nil => intro i hi; simp at hi
  | keep b l r k h ih =>
    intro i hi
    cases i with
    | zero => exact ⟨k + 1, Nat.le_refl _, .drop b _ _ _ h⟩
    | succ i => obtain ⟨k', hk, he⟩ := ih i (by simpa using hi); exact ⟨k', hk, .keep b _ _ _ he⟩
  | drop b l r k h ih => intro i hi; obtain ⟨k', hk, he⟩ := ih i hi; exact ⟨k' + 1, by omega, .drop b _ _ _ he⟩
  | add b l r k h ih =>
    intro i hi
    cases i with
    | zero => exact ⟨k, by omega, h⟩
    | succ i => obtain ⟨k', hk, he⟩ := ih i (by simpa using hi); exact ⟨k' + 1, by omega, .add b _ _ _ he⟩

variable (o f : List α)
def rd (x y : Nat) : Nat := dist (o.drop x) (f.drop y)
theorem rd_same {x y : Nat} (h : same o f x y = true) : rd o f x y = rd o f (x + 1) (y + 1) := by
  obtain ⟨hx, hy⟩ := same_lt o f h
  unfold same at h
  simp only [decide_eq_true_eq] at h
  have e := h.2.2
  unfold rd
  rw [List.drop_eq_getElem_cons hx, List.drop_eq_getElem_cons hy]
  rw [List.getElem?_eq_getElem hx, List.getElem?_eq_getElem hy] at e
  rw [Option.some.inj e, dist_same]
theorem rd_ne {x y : Nat} (h : same o f x y = false) (hx : x < o.length) (hy : y < f.length) : rd o f x y = 1 + min (rd o f (x + 1) y) (rd o f x (y + 1)) := by
  unfold same at h
  simp only [decide_eq_false_iff_not, not_and] at h
  have e := h hx hy
  unfold rd
  rw [List.drop_eq_getElem_cons hx, List.drop_eq_getElem_cons hy]
  rw [List.getElem?_eq_getElem hx, List.getElem?_eq_getElem hy] at e
  rw [dist_ne (fun e' => e (by rw [e']))]
theorem rd_endx {y : Nat} (hy : y < f.length) : rd o f o.length y = 1 + rd o f o.length (y + 1) := by
  unfold rd; rw [List.drop_length, dist_nil_l, dist_nil_l]; simp; omega
theorem rd_endy {x : Nat} (hx : x < o.length) : rd o f x f.length = 1 + rd o f (x + 1) f.length := by
  unfold rd; rw [List.drop_length, dist_nil_r, dist_nil_r]; simp; omega

/-- what it takes to be led to a place -/
def Cost (st : Srch) (G : Nat → Nat → Nat) (x y kind c : Nat) : Prop :=
  (kind = 46 ∧ x = 0 ∧ y = 0 ∧ c = 0) ∨
  (kind = 32 ∧ 0 < x ∧ 0 < y ∧ st.at f.length (x - 1) (y - 1) ≠ 0 ∧ c = G (x - 1) (y - 1)) ∨
  (kind = 45 ∧ 0 < x ∧ st.at f.length (x - 1) y ≠ 0 ∧ c = G (x - 1) y + 1) ∨
  (kind = 43 ∧ 0 < y ∧ st.at f.length x (y - 1) ≠ 0 ∧ c = G x (y - 1) + 1)
def Near (st : Srch) (G : Nat → Nat → Nat) (x y c : Nat) : Prop := (st.at f.length x y ≠ 0 ∧ G x y ≤ c) ∨ ∃ s ∈ st.op, s.x = x ∧ s.y = y ∧ s.far ≤ c
def NextG (st : Srch) (G : Nat → Nat → Nat) (x y : Nat) : Prop :=
  if same o f x y = true then Near f st G (x + 1) (y + 1) (G x y)
  else (x < o.length → Near f st G (x + 1) y (G x y + 1)) ∧ (y < f.length → Near f st G x (y + 1) (G x y + 1))
structure InvG (D : Nat) (hole : Option (Nat × Nat)) (st : Srch) (G : Nat → Nat → Nat) : Prop where
  heap : heapL st.op
  mono : ∀ x y, x ≤ o.length → y ≤ f.length → st.at f.length x y ≠ 0 → ∀ s ∈ st.op, G x y ≤ s.far
  spots : ∀ s ∈ st.op, Cost f st G s.x s.y s.kind s.far
  known : ∀ x y, x ≤ o.length → y ≤ f.length → st.at f.length x y ≠ 0 → Cost f st G x y (st.at f.length x y) (G x y)
  start : Near f st G 0 0 0
  next : ∀ x y, x ≤ o.length → y ≤ f.length → st.at f.length x y ≠ 0 → hole ≠ some (x, y) → NextG o f st G x y
  top : ∀ x y, x ≤ o.length → y ≤ f.length → st.at f.length x y ≠ 0 → G x y ≤ D

theorem good_from {D : Nat} {st : Srch} {G : Nat → Nat → Nat} (h : InvG o f D none st G) (he : st.at f.length o.length f.length = 0) :
    ∀ k x y, x ≤ o.length → y ≤ f.length → (o.length - x) + (f.length - y) = k → st.at f.length x y ≠ 0 → G x y + rd o f x y ≤ D → ∃ s ∈ st.op, s.far ≤ D := by
  intro k
  induction k using Nat.strongRecOn with
  | ind k ih =>
    intro x y hx hy hk hr hD
    have hn := h.next x y hx hy hr (by simp)
    have go : ∀ x' y' c, x' ≤ o.length → y' ≤ f.length → (o.length - x') + (f.length - y') < k → c + rd o f x' y' ≤ D → Near f st G x' y' c → ∃ s ∈ st.op, s.far ≤ D := by
      intro x' y' c hx' hy' hlt hc hnear
      rcases hnear with ⟨h1, h2⟩ | ⟨s, hs, _, _, h2⟩
      · exact ih _ hlt x' y' hx' hy' rfl h1 (by omega)
      · exact ⟨s, hs, by omega⟩
    unfold NextG at hn
    split at hn
    · rename_i hs
      have hlt := same_lt o f hs
      exact go _ _ _ (by omega) (by omega) (by omega) (by rw [← rd_same o f hs]; exact hD) hn
    · rename_i hs
      have hs' : same o f x y = false := by simpa using hs
      by_cases ex : x < o.length
      · by_cases ey : y < f.length
        · have e := rd_ne o f hs' ex ey
          by_cases hm : rd o f (x + 1) y ≤ rd o f x (y + 1)
          · exact go _ _ _ (by omega) (by omega) (by omega) (by omega) (hn.1 ex)
          · exact go _ _ _ (by omega) (by omega) (by omega) (by omega) (hn.2 ey)
        · obtain rfl : y = f.length := by omega
          have e := rd_endy o f ex
          exact go _ _ _ (by omega) (by omega) (by omega) (by omega) (hn.1 ex)
      · obtain rfl : x = o.length := by omega
        by_cases ey : y < f.length
        · have e := rd_endx o f ey
          exact go _ _ _ (by omega) (by omega) (by omega) (by omega) (hn.2 ey)
        · obtain rfl : y = f.length := by omega
          exact absurd he hr
theorem good {st : Srch} {G : Nat → Nat → Nat} (h : InvG o f (dist o f) none st G) (he : st.at f.length o.length f.length = 0) : ∃ s ∈ st.op, s.far ≤ dist o f := by
  rcases h.start with ⟨h1, h2⟩ | ⟨s, hs, _, _, h2⟩
  · exact good_from o f h he _ 0 0 (by omega) (by omega) rfl h1 (by unfold rd; simp; omega)
  · exact ⟨s, hs, by omega⟩

theorem Near.push {st : Srch} {G : Nat → Nat → Nat} {x y c : Nat} (h : Near f st G x y c) (s : Spot) (t : Nat) : Near f { op := pushM st.op s, turns := t, led := st.led } G x y c := by
  rcases h with h | ⟨q, hq, e⟩
  · exact .inl h
  · exact .inr ⟨q, (pushM_perm st.op s).mem_iff.2 (by simp [hq]), e⟩
theorem InvG.push {D : Nat} {hole : Option (Nat × Nat)} {st : Srch} {G : Nat → Nat → Nat} (h : InvG o f D hole st G) (s : Spot) (t : Nat) (hc : Cost f st G s.x s.y s.kind s.far)
    (hm : ∀ x y, x ≤ o.length → y ≤ f.length → st.at f.length x y ≠ 0 → G x y ≤ s.far) : InvG o f D hole { op := pushM st.op s, turns := t, led := st.led } G := by
  have hmem : ∀ q, q ∈ pushM st.op s ↔ q ∈ st.op ∨ q = s := by intro q; rw [(pushM_perm st.op s).mem_iff]; simp
  refine ⟨push_heap h.heap s, ?_, ?_, h.known, h.start.push f s t, ?_, h.top⟩
  · intro x y hx hy hr q hq
    rcases (hmem q).1 hq with hq | rfl
    · exact h.mono x y hx hy hr q hq
    · exact hm x y hx hy hr
  · intro q hq
    rcases (hmem q).1 hq with hq | rfl
    · exact h.spots q hq
    · exact hc
  · intro x y hx hy hr hh
    have := h.next x y hx hy hr hh
    unfold NextG at *
    split at this
    · rename_i hs; rw [if_pos hs]; exact this.push f s t
    · rename_i hs; rw [if_neg hs]; exact ⟨fun a => (this.1 a).push f s t, fun a => (this.2 a).push f s t⟩
theorem InvG.change {D : Nat} {hole : Option (Nat × Nat)} {st : Srch} {G : Nat → Nat → Nat} (h : InvG o f D hole st G) (p : Spot) (dx dy kind : Nat) (hc : Cost f st G (p.x + dx) (p.y + dy) kind (p.far + 1))
    (hx : p.x + dx ≤ o.length) (hy : p.y + dy ≤ f.length) (hm : ∀ x y, x ≤ o.length → y ≤ f.length → st.at f.length x y ≠ 0 → G x y ≤ p.far) :
    InvG o f D hole (changeM f.length st p dx dy kind) G ∧ Near f (changeM f.length st p dx dy kind) G (p.x + dx) (p.y + dy) (p.far + 1) ∧ (changeM f.length st p dx dy kind).led = st.led ∧
      ∀ x y c, Near f st G x y c → Near f (changeM f.length st p dx dy kind) G x y c := by
  unfold changeM
  split
  · refine ⟨h.push o f _ _ hc (fun x y a b c => Nat.le_succ_of_le (hm x y a b c)), .inr ⟨⟨p.x + dx, p.y + dy, p.far + 1, st.turns + 1, kind⟩, (pushM_perm st.op _).mem_iff.2 (by simp), rfl, rfl, Nat.le_refl _⟩, rfl, fun x y c hn => hn.push f _ _⟩
  · rename_i h0
    exact ⟨h, .inl ⟨h0, Nat.le_succ_of_le (hm _ _ hx hy h0)⟩, rfl, fun _ _ _ hn => hn⟩

theorem InvG.round {st : Srch} {G : Nat → Nat → Nat} (hi : Inv o f st) (h : InvG o f (dist o f) none st G) (he : st.at f.length o.length f.length = 0) : ∃ G', InvG o f (dist o f) none (roundM o f st) G' := by
  have hne := hi.open_ne he
  have hperm := pop_perm st.op hne
  have hmem : ∀ q, q ∈ st.op ↔ q ∈ popR st.op ∨ q = popS st.op := by intro q; rw [← hperm.mem_iff]; simp
  obtain ⟨hh, _, hmin⟩ := pop_heap h.heap hne
  have hmin' : ∀ s ∈ st.op, (popS st.op).far ≤ s.far := by
    intro s hs
    have := hmin s hs
    unfold Spot.lt at this
    omega
  obtain ⟨px, py, _, _, pl⟩ := hi.spots _ ((hmem _).2 (.inr rfl))
  have pc := h.spots _ ((hmem _).2 (.inr rfl))
  have pD : (popS st.op).far ≤ dist o f := by
    obtain ⟨s, hs, h1⟩ := good o f h he
    have := hmin' s hs
    omega
  have pm : ∀ x y, x ≤ o.length → y ≤ f.length → st.at f.length x y ≠ 0 → G x y ≤ (popS st.op).far := fun x y a b c => h.mono x y a b c _ ((hmem _).2 (.inr rfl))
  unfold roundM settleM
  simp only
  generalize hs : popS st.op = s at *
  have hat : ∀ x y, Srch.at { op := popR st.op, turns := st.turns, led := st.led } f.length x y = st.at f.length x y := fun _ _ => rfl
  rw [hat]
  split
  · rename_i h0
    have hset := fun x y (hy : y ≤ f.length) => at_set (st := st) (n := o.length) (m := f.length) (x0 := s.x) (y0 := s.y) (x := x) (y := y) (k := s.kind) hi.len px py hy (popR st.op) st.turns
    refine ⟨fun x y => if x = s.x ∧ y = s.y then s.far else G x y, ?_⟩
    generalize hG : (fun x y => if x = s.x ∧ y = s.y then s.far else G x y) = G'
    have hG1 : G' s.x s.y = s.far := by rw [← hG]; simp
    have hG2 : ∀ x y, ¬ (x = s.x ∧ y = s.y) → G' x y = G x y := by intro x y hn; rw [← hG]; simp only; rw [if_neg hn]
    have hG3 : ∀ x y, st.at f.length x y ≠ 0 → G' x y = G x y := by
      intro x y hr
      refine hG2 x y ?_
      rintro ⟨rfl, rfl⟩
      exact hr h0
    have hmono : ∀ x y, y ≤ f.length → st.at f.length x y ≠ 0 → Srch.at { op := popR st.op, turns := st.turns, led := st.led.set (idx f.length s.x s.y) s.kind } f.length x y ≠ 0 := by
      intro x y hy hr
      rw [hset x y hy]
      split
      · exact pl.pos
      · exact hr
    have hcost : ∀ x y k c, y ≤ f.length → Cost f st G x y k c → Cost f { op := popR st.op, turns := st.turns, led := st.led.set (idx f.length s.x s.y) s.kind } G' x y k c := by
      intro x y k c hy hc
      rcases hc with hc | ⟨h1, h2, h3, h4, h5⟩ | ⟨h1, h2, h3, h4⟩ | ⟨h1, h2, h3, h4⟩
      · exact .inl hc
      · exact .inr (.inl ⟨h1, h2, h3, hmono _ _ (by omega) h4, by rw [hG3 _ _ h4]; exact h5⟩)
      · exact .inr (.inr (.inl ⟨h1, h2, hmono _ _ hy h3, by rw [hG3 _ _ h3]; exact h4⟩))
      · exact .inr (.inr (.inr ⟨h1, h2, hmono _ _ (by omega) h3, by rw [hG3 _ _ h3]; exact h4⟩))
    have hnear : ∀ x y c, y ≤ f.length → Near f st G x y c → Near f { op := popR st.op, turns := st.turns, led := st.led.set (idx f.length s.x s.y) s.kind } G' x y c := by
      intro x y c hy hn
      rcases hn with ⟨h1, h2⟩ | ⟨q, hq, e1, e2, e3⟩
      · exact .inl ⟨hmono x y hy h1, by rw [hG3 _ _ h1]; exact h2⟩
      · by_cases e : x = s.x ∧ y = s.y
        · left
          obtain ⟨rfl, rfl⟩ := e
          refine ⟨by rw [hset _ _ hy, if_pos ⟨rfl, rfl⟩]; exact pl.pos, ?_⟩
          rw [hG1]
          have := hmin' q hq
          omega
        · rcases (hmem q).1 hq with hq | rfl
          · exact .inr ⟨q, hq, e1, e2, e3⟩
          · exact absurd ⟨e1.symm, e2.symm⟩ e
    have hGle : ∀ x y, x ≤ o.length → y ≤ f.length → Srch.at { op := popR st.op, turns := st.turns, led := st.led.set (idx f.length s.x s.y) s.kind } f.length x y ≠ 0 → G' x y ≤ s.far := by
      intro x y hx hy hr
      by_cases e : x = s.x ∧ y = s.y
      · rw [e.1, e.2, hG1]; exact Nat.le_refl _
      · rw [hset x y hy, if_neg e] at hr
        rw [hG2 x y e]
        exact pm x y hx hy hr
    have hhere : Srch.at { op := popR st.op, turns := st.turns, led := st.led.set (idx f.length s.x s.y) s.kind } f.length s.x s.y ≠ 0 := by rw [hset _ _ py, if_pos ⟨rfl, rfl⟩]; exact pl.pos
    have i0 : InvG o f (dist o f) (some (s.x, s.y)) { op := popR st.op, turns := st.turns, led := st.led.set (idx f.length s.x s.y) s.kind } G' := by
      refine ⟨hh, ?_, ?_, ?_, hnear 0 0 0 (by omega) h.start, ?_, ?_⟩
      · intro x y hx hy hr q hq
        have h1 := hGle x y hx hy hr
        have h2 := hmin' q ((hmem q).2 (.inl hq))
        omega
      · intro q hq
        have hq' := (hmem q).2 (.inl hq)
        exact hcost _ _ _ _ (hi.spots q hq').2.1 (h.spots q hq')
      · intro x y hx hy hr
        by_cases e : x = s.x ∧ y = s.y
        · rw [hset x y hy, if_pos e, e.1, e.2, hG1]
          exact hcost _ _ _ _ py pc
        · rw [hset x y hy, if_neg e] at hr ⊢
          rw [hG2 x y e]
          exact hcost _ _ _ _ hy (h.known x y hx hy hr)
      · intro x y hx hy hr hne'
        have e : ¬ (x = s.x ∧ y = s.y) := by rintro ⟨rfl, rfl⟩; exact hne' rfl
        rw [hset x y hy, if_neg e] at hr
        have := h.next x y hx hy hr (by simp)
        unfold NextG at this ⊢
        rw [hG2 x y e]
        split at this
        · rename_i hs'
          have hlt := same_lt o f hs'
          rw [if_pos hs']
          exact hnear _ _ _ (by omega) this
        · rename_i hs'
          rw [if_neg hs']
          exact ⟨fun a => hnear _ _ _ hy (this.1 a), fun a => hnear _ _ _ (by omega) (this.2 a)⟩
      · intro x y hx hy hr
        have := hGle x y hx hy hr
        omega
    have close : ∀ (S : Srch) (G1 : Nat → Nat → Nat), InvG o f (dist o f) (some (s.x, s.y)) S G1 → NextG o f S G1 s.x s.y → InvG o f (dist o f) none S G1 := by
      intro S G1 hS hN
      refine ⟨hS.heap, hS.mono, hS.spots, hS.known, hS.start, ?_, hS.top⟩
      intro x y hx hy hr _
      by_cases e : x = s.x ∧ y = s.y
      · rw [e.1, e.2]; exact hN
      · exact hS.next x y hx hy hr (by simp only [ne_eq, Option.some.injEq, Prod.mk.injEq]; intro hh; exact e ⟨hh.1.symm, hh.2.symm⟩)
    split
    · rename_i hsame
      refine close _ _ (i0.push o f ⟨s.x + 1, s.y + 1, s.far, s.turn, 32⟩ st.turns (.inr (.inl ⟨rfl, by simp, by simp, by simpa using hhere, by simp [hG1]⟩)) hGle) ?_
      unfold NextG
      rw [if_pos hsame]
      exact .inr ⟨⟨s.x + 1, s.y + 1, s.far, s.turn, 32⟩, (pushM_perm _ _).mem_iff.2 (by simp), rfl, rfl, by rw [hG1]; exact Nat.le_refl _⟩
    · rename_i hsame
      have key : ∃ st2 : Srch, st2 = (if s.x < o.length then changeM f.length { op := popR st.op, turns := st.turns, led := st.led.set (idx f.length s.x s.y) s.kind } s 1 0 45 else { op := popR st.op, turns := st.turns, led := st.led.set (idx f.length s.x s.y) s.kind }) ∧
          InvG o f (dist o f) (some (s.x, s.y)) st2 G' ∧ (s.x < o.length → Near f st2 G' (s.x + 1) s.y (s.far + 1)) ∧ st2.led = st.led.set (idx f.length s.x s.y) s.kind := by
        refine ⟨_, rfl, ?_⟩
        split
        · rename_i hxl
          obtain ⟨a, b, c, _⟩ := i0.change o f s 1 0 45 (.inr (.inr (.inl ⟨rfl, by omega, by simpa using hhere, by simp [hG1]⟩))) (by omega) (by omega) hGle
          exact ⟨a, fun _ => by simpa using b, c⟩
        · exact ⟨i0, fun hh => absurd hh (by assumption), rfl⟩
      obtain ⟨st2, hst2, j1, j2, j3⟩ := key
      rw [← hst2]
      have hat2 : ∀ x y, st2.at f.length x y = Srch.at { op := popR st.op, turns := st.turns, led := st.led.set (idx f.length s.x s.y) s.kind } f.length x y := by intro x y; unfold Srch.at; rw [j3]
      split
      · rename_i hyl
        obtain ⟨a, b, c, d⟩ := j1.change o f s 0 1 43 (.inr (.inr (.inr ⟨rfl, by omega, by rw [hat2]; simpa using hhere, by simp [hG1]⟩))) (by omega) (by omega) (fun x y hx hy hr => hGle x y hx hy (by rw [← hat2]; exact hr))
        refine close _ _ a ?_
        unfold NextG
        rw [if_neg hsame, hG1]
        exact ⟨fun hx => d _ _ _ (j2 hx), fun _ => by simpa using b⟩
      · rename_i hyl
        refine close _ _ j1 ?_
        unfold NextG
        rw [if_neg hsame, hG1]
        exact ⟨j2, fun hy => absurd hy hyl⟩
  · rename_i h0
    refine ⟨G, ?_⟩
    have hnear : ∀ x y c, x ≤ o.length → y ≤ f.length → Near f st G x y c → Near f { op := popR st.op, turns := st.turns, led := st.led } G x y c := by
      intro x y c hx hy hn
      rcases hn with h1 | ⟨q, hq, e1, e2, e3⟩
      · exact .inl h1
      · rcases (hmem q).1 hq with hq' | rfl
        · exact .inr ⟨q, hq', e1, e2, e3⟩
        · left
          subst e1 e2
          exact ⟨h0, by have := pm _ _ hx hy h0; omega⟩
    refine ⟨hh, fun x y hx hy hr q hq => h.mono x y hx hy hr q ((hmem q).2 (.inl hq)), fun q hq => h.spots q ((hmem q).2 (.inl hq)), h.known, hnear 0 0 0 (by omega) (by omega) h.start, ?_, h.top⟩
    intro x y hx hy hr _
    have := h.next x y hx hy hr (by simp)
    unfold NextG at this ⊢
    split at this
    · rename_i hs'
      have hlt := same_lt o f hs'
      rw [if_pos hs']
      exact hnear _ _ _ (by omega) (by omega) this
    · rename_i hs'
      rw [if_neg hs']
      exact ⟨fun a => hnear _ _ _ (by omega) hy (this.1 a), fun a => hnear _ _ _ hx (by omega) (this.2 a)⟩

theorem startG : InvG o f (dist o f) none (startM o f) (fun _ _ => 0) := by
  have h0 : ∀ x y, (startM o f).at f.length x y = 0 := by
    intro x y
    simp [startM, Srch.at, List.getD, List.getElem?_replicate]
    split <;> rfl
  refine ⟨?_, fun x y _ _ hr => absurd (h0 x y) hr, ?_, fun x y _ _ hr => absurd (h0 x y) hr, .inr ⟨⟨0, 0, 0, 0, 46⟩, by simp [startM], rfl, rfl, Nat.le_refl _⟩, fun x y _ _ hr => absurd (h0 x y) hr, fun x y _ _ hr => absurd (h0 x y) hr⟩
  · intro i hi hl; simp [startM] at hl; omega
  · intro s hs
    simp [startM] at hs
    subst hs
    exact .inl ⟨rfl, rfl, rfl, rfl⟩
theorem searchM_G : ∀ (k : Nat) (st : Srch) (G : Nat → Nat → Nat), Inv o f st → InvG o f (dist o f) none st G → ∃ G', InvG o f (dist o f) none (searchM o f k st) G' := by
  intro k
  induction k with
  | zero => intro st G _ hG; exact ⟨G, hG⟩
  | succ k ih =>
    intro st G hi hG
    by_cases he : st.at f.length o.length f.length = 0
    · simp only [searchM, he, if_true]
      obtain ⟨G1, hG1⟩ := hG.round o f hi he
      exact ih _ G1 (hi.round (hi.open_ne he)).1 hG1
    · rw [searchM_done he]; exact ⟨G, hG⟩
/-- drops and adds of a way -/
def costW (l : List (StepM α)) : Nat := (l.filter (fun s => s.kind != 32)).length
theorem backM_cost [Inhabited α] {st : Srch} {G : Nat → Nat → Nat} (h : InvG o f (dist o f) none st G) : ∀ (k x y : Nat), x + y ≤ k → x ≤ o.length → y ≤ f.length → st.at f.length x y ≠ 0 →
    costW (backM o f st k x y) ≤ G x y := by
  intro k
  induction k with
  | zero => intro x y _ _ _ _; simp [backM, costW]
  | succ k ih =>
    intro x y hk hx hy hr
    unfold backM
    split
    · simp [costW]
    · rename_i hne
      have hc := h.known x y hx hy hr
      rcases hc with ⟨_, h1, h2, _⟩ | ⟨h1, h2, h3, h4, h5⟩ | ⟨h1, h2, h3, h4⟩ | ⟨h1, h2, h3, h4⟩
      · exact absurd ⟨h1, h2⟩ hne
      · rw [if_pos h1]
        have := ih (x - 1) (y - 1) (by omega) (by omega) (by omega) h4
        rw [h5]
        simpa [costW] using this
      · rw [if_neg (by omega), if_pos h1]
        have := ih (x - 1) y (by omega) (by omega) (by omega) h3
        rw [h4]
        unfold costW at this ⊢
        rw [List.filter_cons_of_pos (by simp), List.length_cons]; omega
      · rw [if_neg (by omega), if_neg (by omega)]
        have := ih x (y - 1) (by omega) (by omega) (by omega) h3
        rw [h4]
        unfold costW at this ⊢
        rw [List.filter_cons_of_pos (by simp [h1]), List.length_cons]; omega
/-- no way is shorter -/
theorem wayM_dist [Inhabited α] : costW (wayM o f) ≤ dist o f := by
  obtain ⟨hi, he⟩ := foundM_inv o f
  obtain ⟨G, hG⟩ := searchM_G o f (mu (startM o f)) (startM o f) _ (startM_inv o f) (startG o f)
  have hG' : InvG o f (dist o f) none (foundM o f) G := hG
  have h1 := backM_cost o f hG' (o.length + f.length) o.length f.length (Nat.le_refl _) (Nat.le_refl _) (Nat.le_refl _) he
  have h2 := hG'.top o.length f.length (Nat.le_refl _) (Nat.le_refl _) he
  have h3 : costW (wayM o f) = costW (backM o f (foundM o f) (o.length + f.length) o.length f.length) := by unfold wayM costW; rw [List.filter_reverse, List.length_reverse]
  omega
theorem wayM_shortest [Inhabited α] {k : Nat} (h : Ed o f k) : costW (wayM o f) ≤ k := Nat.le_trans (wayM_dist o f) h.dist_le
end
end Dn

namespace Dn
section
variable {α : Type} [DecidableEq α]

/-- the shortest way that keeps where it can, else drops where a shortest way does -/
def specRow (a : α) (l : List α) (prev : List α → List (StepM α)) : List α → List (StepM α)
  | [] => ⟨45, a⟩ :: prev []
  | b :: r => if a = b then ⟨32, a⟩ :: prev r else if dist l (b :: r) ≤ dist (a :: l) r then ⟨45, a⟩ :: prev (b :: r) else ⟨43, b⟩ :: specRow a l prev r
def spec : List α → List α → List (StepM α)
  | [] => List.map fun b => ⟨43, b⟩
  | a :: l => specRow a l (spec l)
theorem spec_nn : spec ([] : List α) [] = [] := rfl
theorem spec_nc (b : α) (r : List α) : spec [] (b :: r) = ⟨43, b⟩ :: spec [] r := rfl
theorem spec_cn (a : α) (l : List α) : spec (a :: l) [] = ⟨45, a⟩ :: spec l [] := rfl
theorem spec_cc (a b : α) (l r : List α) : spec (a :: l) (b :: r) = if a = b then ⟨32, a⟩ :: spec l r else if dist l (b :: r) ≤ dist (a :: l) r then ⟨45, a⟩ :: spec l (b :: r) else ⟨43, b⟩ :: spec (a :: l) r := rfl
/-- its drops (0) and adds (1), as a binary number -/
def keyAdd : List α → Nat
  | [] => 0
  | _ :: r => 2 ^ r.length + keyAdd r
def keyRow (a : α) (l : List α) (prev : List α → Nat) : List α → Nat
  | [] => prev []
  | b :: r => if a = b then prev r else if dist l (b :: r) ≤ dist (a :: l) r then prev (b :: r) else 2 ^ dist (a :: l) r + keyRow a l prev r
def key : List α → List α → Nat
  | [] => keyAdd
  | a :: l => keyRow a l (key l)
theorem key_nn : key ([] : List α) [] = 0 := rfl
theorem key_nc (b : α) (r : List α) : key [] (b :: r) = 2 ^ r.length + key [] r := rfl
theorem key_cn (a : α) (l : List α) : key (a :: l) [] = key l [] := rfl
theorem key_cc (a b : α) (l r : List α) : key (a :: l) (b :: r) = if a = b then key l r else if dist l (b :: r) ≤ dist (a :: l) r then key l (b :: r) else 2 ^ dist (a :: l) r + key (a :: l) r := rfl

theorem pw1 (k r : Nat) : k * 2 ^ (r + 1) = 2 * (k * 2 ^ r) := by rw [Nat.pow_succ, ← Nat.mul_assoc, Nat.mul_comm]
theorem pw2 (k p : Nat) : 2 * k * p = 2 * (k * p) := Nat.mul_assoc _ _ _
theorem pw3 (k p : Nat) : (2 * k + 1) * p = 2 * (k * p) + p := by rw [Nat.add_mul, Nat.mul_assoc, Nat.one_mul]

theorem key_lt : ∀ (n : Nat) (l r : List α), l.length + r.length ≤ n → key l r < 2 ^ dist l r := by
  intro n
  induction n with
  | zero =>
    intro l r h
    have h1 : l = [] := List.eq_nil_of_length_eq_zero (by omega)
    have h2 : r = [] := List.eq_nil_of_length_eq_zero (by omega)
    subst h1 h2
    rw [key_nn]
    exact Nat.two_pow_pos _
  | succ n ih =>
    intro l r h
    cases l with
    | nil =>
      cases r with
      | nil => rw [key_nn]; exact Nat.two_pow_pos _
      | cons b r =>
        simp only [List.length_cons] at h
        have := ih [] r (by simp at h ⊢; omega)
        rw [dist_nil_l] at this
        rw [key_nc, dist_nil_l, List.length_cons, Nat.pow_succ]
        omega
    | cons a l =>
      simp only [List.length_cons] at h
      cases r with
      | nil =>
        have := ih l [] (by simp at h ⊢; omega)
        rw [dist_nil_r] at this
        rw [key_cn, dist_nil_r, List.length_cons, Nat.pow_succ]
        omega
      | cons b r =>
        simp only [List.length_cons] at h
        by_cases e : a = b
        · subst e
          rw [key_cc, if_pos rfl, dist_same]
          exact ih l r (by omega)
        · rw [key_cc, if_neg e, dist_ne e]
          split
          · rename_i hle
            have := ih l (b :: r) (by simp; omega)
            rw [Nat.min_eq_left hle, Nat.add_comm, Nat.pow_succ]
            omega
          · rename_i hle
            have := ih (a :: l) r (by simp; omega)
            rw [Nat.min_eq_right (by omega), Nat.add_comm 1, Nat.pow_succ]
            omega

variable (o f : List α)
def kb (x y : Nat) : Nat := key (o.drop x) (f.drop y)
def sp (x y : Nat) : List (StepM α) := spec (o.drop x) (f.drop y)
def Drops (x y : Nat) : Prop := x < o.length ∧ (f.length ≤ y ∨ rd o f (x + 1) y ≤ rd o f x (y + 1))
theorem kb_lt (x y : Nat) : kb o f x y < 2 ^ rd o f x y := key_lt _ _ _ (Nat.le_refl _)
theorem at_same [Inhabited α] {x y : Nat} (h : same o f x y = true) : kb o f x y = kb o f (x + 1) (y + 1) ∧ sp o f x y = ⟨32, o.getD x default⟩ :: sp o f (x + 1) (y + 1) := by
  obtain ⟨hx, hy⟩ := same_lt o f h
  unfold same at h
  simp only [decide_eq_true_eq] at h
  have e := h.2.2
  unfold kb sp
  rw [List.drop_eq_getElem_cons hx, List.drop_eq_getElem_cons hy]
  rw [List.getElem?_eq_getElem hx, List.getElem?_eq_getElem hy] at e
  rw [← Option.some.inj e, key_cc, if_pos rfl, spec_cc, if_pos rfl]
  simp [List.getD, hx]
theorem at_drop [Inhabited α] {x y : Nat} (h : same o f x y = false) (hy : y ≤ f.length) (hd : Drops o f x y) : rd o f x y = rd o f (x + 1) y + 1 ∧ kb o f x y = kb o f (x + 1) y ∧ sp o f x y = ⟨45, o.getD x default⟩ :: sp o f (x + 1) y := by
  obtain ⟨hx, hd⟩ := hd
  by_cases ey : y < f.length
  · have hd' : rd o f (x + 1) y ≤ rd o f x (y + 1) := by omega
    refine ⟨by rw [rd_ne o f h hx ey]; omega, ?_⟩
    unfold same at h
    simp only [decide_eq_false_iff_not, not_and] at h
    have e := h hx ey
    unfold rd at hd'
    unfold kb sp
    rw [List.drop_eq_getElem_cons hx, List.drop_eq_getElem_cons ey] at *
    rw [List.getElem?_eq_getElem hx, List.getElem?_eq_getElem ey] at e
    have e' : o[x] ≠ f[y] := fun e' => e (by rw [e'])
    rw [key_cc, if_neg e', if_pos hd', spec_cc, if_neg e', if_pos hd']
    simp [List.getD, hx]
  · obtain rfl : y = f.length := by omega
    refine ⟨by rw [rd_endy o f hx]; omega, ?_⟩
    unfold kb sp
    rw [List.drop_length, List.drop_eq_getElem_cons hx, key_cn, spec_cn]
    simp [List.getD, hx]
theorem at_add [Inhabited α] {x y : Nat} (h : same o f x y = false) (hx : x ≤ o.length) (hy : y < f.length) (hd : ¬ Drops o f x y) :
    rd o f x y = rd o f x (y + 1) + 1 ∧ kb o f x y = 2 ^ rd o f x (y + 1) + kb o f x (y + 1) ∧ sp o f x y = ⟨43, f.getD y default⟩ :: sp o f x (y + 1) ∧ (x < o.length → rd o f x y < rd o f (x + 1) y + 1) := by
  by_cases ex : x < o.length
  · have hd' : ¬ rd o f (x + 1) y ≤ rd o f x (y + 1) := fun e => hd ⟨ex, .inr e⟩
    have hr := rd_ne o f h ex hy
    refine ⟨by rw [hr]; omega, ?_⟩
    rw [← and_assoc]
    refine ⟨?_, fun _ => by rw [hr]; omega⟩
    unfold same at h
    simp only [decide_eq_false_iff_not, not_and] at h
    have e := h ex hy
    clear hr
    unfold rd at hd'
    unfold kb sp rd
    rw [List.drop_eq_getElem_cons ex, List.drop_eq_getElem_cons hy] at *
    rw [List.getElem?_eq_getElem ex, List.getElem?_eq_getElem hy] at e
    have e' : o[x] ≠ f[y] := fun e' => e (by rw [e'])
    rw [key_cc, if_neg e', if_neg hd', spec_cc, if_neg e', if_neg hd']
    simp [List.getD, hy]
  · obtain rfl : x = o.length := by omega
    refine ⟨by rw [rd_endx o f hy]; omega, ?_⟩
    rw [← and_assoc]
    refine ⟨?_, fun h => absurd h (by omega)⟩
    unfold kb sp rd
    rw [List.drop_length, List.drop_eq_getElem_cons hy, key_nc, spec_nc, dist_nil_l]
    simp [List.getD, hy]
theorem rd_x {x : Nat} (y : Nat) (h : x < o.length) : rd o f x y ≤ rd o f (x + 1) y + 1 := by
  unfold rd; rw [List.drop_eq_getElem_cons h]; exact dist_l1 _ _ _
theorem rd_y {y : Nat} (x : Nat) (h : y < f.length) : rd o f x y ≤ rd o f x (y + 1) + 1 := by
  unfold rd; rw [List.drop_eq_getElem_cons h]; exact dist_r1 _ _ _

/-- no way through here is better than the best -/
def Low (x y c k : Nat) : Prop := dist o f ≤ c + rd o f x y ∧ (c + rd o f x y = dist o f → key o f ≤ k * 2 ^ rd o f x y + kb o f x y)
variable [Inhabited α]
theorem Low.keep {x y c k : Nat} (h : Low o f x y c k) (hs : same o f x y = true) : Low o f (x + 1) (y + 1) c k := by
  unfold Low at *
  rw [← (at_same o f hs).1, ← rd_same o f hs]
  exact h
theorem Low.drop {x y c k : Nat} (h : Low o f x y c k) (hs : same o f x y = false) (hx : x < o.length) (hy : y ≤ f.length) : Low o f (x + 1) y (c + 1) (2 * k) := by
  obtain ⟨h1, h2⟩ := h
  have hr := rd_x o f y hx
  refine ⟨by omega, fun e => ?_⟩
  have h3 := h2 (by omega)
  have hd : Drops o f x y := by
    by_cases hd : Drops o f x y
    · exact hd
    · have hy' : y < f.length := by
        by_cases ey : y < f.length
        · exact ey
        · exact absurd ⟨hx, .inl (by omega)⟩ hd
      have := (at_add o f hs (by omega) hy' hd).2.2.2 hx
      omega
  obtain ⟨e1, e2, _⟩ := at_drop o f hs hy hd
  rw [e1, e2, pw1] at h3
  rw [pw2]
  exact h3
theorem Low.add {x y c k : Nat} (h : Low o f x y c k) (hs : same o f x y = false) (hx : x ≤ o.length) (hy : y < f.length) : Low o f x (y + 1) (c + 1) (2 * k + 1) := by
  obtain ⟨h1, h2⟩ := h
  have hr := rd_y o f x hy
  refine ⟨by omega, fun e => ?_⟩
  have h3 := h2 (by omega)
  have e0 : rd o f x y = rd o f x (y + 1) + 1 := by omega
  rw [pw3]
  rw [e0, pw1] at h3
  by_cases hd : Drops o f x y
  · obtain ⟨e1, e2, _⟩ := at_drop o f hs (by omega) hd
    have h4 := kb_lt o f (x + 1) y
    rw [show rd o f (x + 1) y = rd o f x (y + 1) by omega] at h4
    omega
  · obtain ⟨_, e2, _⟩ := at_add o f hs hx hy hd
    omega

def le2 (a b c d : Nat) : Prop := a < c ∨ (a = c ∧ b ≤ d)
def CostK (st : Srch) (G Q : Nat → Nat → Nat) (x y kind c k : Nat) : Prop :=
  (kind = 46 ∧ x = 0 ∧ y = 0 ∧ c = 0 ∧ k = 0) ∨
  (kind = 32 ∧ 0 < x ∧ 0 < y ∧ st.at f.length (x - 1) (y - 1) ≠ 0 ∧ same o f (x - 1) (y - 1) = true ∧ c = G (x - 1) (y - 1) ∧ k = Q (x - 1) (y - 1)) ∨
  (kind = 45 ∧ 0 < x ∧ st.at f.length (x - 1) y ≠ 0 ∧ same o f (x - 1) y = false ∧ c = G (x - 1) y + 1 ∧ k = 2 * Q (x - 1) y) ∨
  (kind = 43 ∧ 0 < y ∧ st.at f.length x (y - 1) ≠ 0 ∧ same o f x (y - 1) = false ∧ c = G x (y - 1) + 1 ∧ k = 2 * Q x (y - 1) + 1)
def NearK (st : Srch) (G Q : Nat → Nat → Nat) (κ : Nat → Nat) (x y c k : Nat) : Prop :=
  (st.at f.length x y ≠ 0 ∧ le2 (G x y) (Q x y) c k) ∨ ∃ s ∈ st.op, s.x = x ∧ s.y = y ∧ le2 s.far (κ s.turn) c k
def NextK (st : Srch) (G Q : Nat → Nat → Nat) (κ : Nat → Nat) (x y : Nat) : Prop :=
  if same o f x y = true then NearK f st G Q κ (x + 1) (y + 1) (G x y) (Q x y)
  else (x < o.length → NearK f st G Q κ (x + 1) y (G x y + 1) (2 * Q x y)) ∧ (y < f.length → NearK f st G Q κ x (y + 1) (G x y + 1) (2 * Q x y + 1))
structure InvK (hole : Option (Nat × Nat)) (st : Srch) (G Q : Nat → Nat → Nat) (κ : Nat → Nat) : Prop where
  heap : heapL st.op
  uniq : (st.op.map (·.turn)).Nodup
  tle : ∀ s ∈ st.op, s.turn ≤ st.turns
  far : ∀ s1 ∈ st.op, ∀ s2 ∈ st.op, s1.far ≤ s2.far + 1
  ord : ∀ s1 ∈ st.op, ∀ s2 ∈ st.op, s1.far = s2.far → s1.turn < s2.turn → κ s1.turn < κ s2.turn
  ord2 : ∀ s1 ∈ st.op, ∀ s2 ∈ st.op, s1.far = s2.far + 1 → κ s1.turn < 2 * κ s2.turn
  mono : ∀ x y, x ≤ o.length → y ≤ f.length → st.at f.length x y ≠ 0 → ∀ s ∈ st.op, le2 (G x y) (Q x y) s.far (κ s.turn)
  spots : ∀ s ∈ st.op, CostK o f st G Q s.x s.y s.kind s.far (κ s.turn)
  known : ∀ x y, x ≤ o.length → y ≤ f.length → st.at f.length x y ≠ 0 → CostK o f st G Q x y (st.at f.length x y) (G x y) (Q x y)
  start : NearK f st G Q κ 0 0 0 0
  next : ∀ x y, x ≤ o.length → y ≤ f.length → st.at f.length x y ≠ 0 → hole ≠ some (x, y) → NextK o f st G Q κ x y
  low : ∀ x y, x ≤ o.length → y ≤ f.length → st.at f.length x y ≠ 0 → Low o f x y (G x y) (Q x y)
  lowS : ∀ s ∈ st.op, Low o f s.x s.y s.far (κ s.turn)
  top : st.at f.length o.length f.length ≠ 0 → G o.length f.length = dist o f ∧ Q o.length f.length ≤ key o f

def GoodS (x y c k : Nat) : Prop := c + rd o f x y = dist o f ∧ k * 2 ^ rd o f x y + kb o f x y ≤ key o f
theorem goodK_from {st : Srch} {G Q : Nat → Nat → Nat} {κ : Nat → Nat} (h : InvK o f none st G Q κ) (he : st.at f.length o.length f.length = 0) :
    ∀ n x y, x ≤ o.length → y ≤ f.length → (o.length - x) + (f.length - y) = n → st.at f.length x y ≠ 0 → GoodS o f x y (G x y) (Q x y) → ∃ s ∈ st.op, GoodS o f s.x s.y s.far (κ s.turn) := by
  intro n
  induction n using Nat.strongRecOn with
  | ind n ih =>
    intro x y hx hy hk hr hD
    have hn := h.next x y hx hy hr (by simp)
    have go : ∀ x' y' c k, x' ≤ o.length → y' ≤ f.length → (o.length - x') + (f.length - y') < n → GoodS o f x' y' c k → NearK f st G Q κ x' y' c k → ∃ s ∈ st.op, GoodS o f s.x s.y s.far (κ s.turn) := by
      intro x' y' c k hx' hy' hlt hc hnear
      rcases hnear with ⟨h1, h2⟩ | ⟨s, hs, e1, e2, h2⟩
      · have hl := (h.low x' y' hx' hy' h1).1
        have hc1 := hc.1
        refine ih _ hlt x' y' hx' hy' rfl h1 ?_
        rcases h2 with h2 | ⟨h2, h3⟩
        · omega
        · refine ⟨by omega, ?_⟩
          have := Nat.mul_le_mul_right (2 ^ rd o f x' y') h3
          have := hc.2
          omega
      · have hl := (h.lowS s hs).1
        have hc1 := hc.1
        rw [← e1, ← e2] at hc1
        refine ⟨s, hs, ?_⟩
        rcases h2 with h2 | ⟨h2, h3⟩
        · omega
        · rw [e1, e2]
          rw [e1, e2] at hc1
          refine ⟨by omega, ?_⟩
          have := Nat.mul_le_mul_right (2 ^ rd o f x' y') h3
          have := hc.2
          omega
    obtain ⟨hD1, hD2⟩ := hD
    unfold NextK at hn
    split at hn
    · rename_i hs
      have hlt := same_lt o f hs
      refine go _ _ _ _ (by omega) (by omega) (by omega) ⟨?_, ?_⟩ hn
      · rw [← rd_same o f hs]; exact hD1
      · rw [← rd_same o f hs, ← (at_same o f hs).1]; exact hD2
    · rename_i hs
      have hs' : same o f x y = false := by simpa using hs
      by_cases hd : Drops o f x y
      · obtain ⟨e1, e2, _⟩ := at_drop o f hs' hy hd
        refine go _ _ _ _ (by have := hd.1; omega) (by omega) (by have := hd.1; omega) ⟨by omega, ?_⟩ (hn.1 hd.1)
        rw [e1, e2, pw1] at hD2
        rw [pw2]
        exact hD2
      · have ey : y < f.length := by
          by_cases ey : y < f.length
          · exact ey
          · obtain rfl : y = f.length := by omega
            by_cases ex : x < o.length
            · exact absurd ⟨ex, .inl (Nat.le_refl _)⟩ hd
            · obtain rfl : x = o.length := by omega
              exact absurd he hr
        obtain ⟨e1, e2, _⟩ := at_add o f hs' hx ey hd
        refine go _ _ _ _ (by omega) (by omega) (by omega) ⟨by omega, ?_⟩ (hn.2 ey)
        rw [e1, e2, pw1] at hD2
        rw [pw3]
        omega
theorem goodK {st : Srch} {G Q : Nat → Nat → Nat} {κ : Nat → Nat} (h : InvK o f none st G Q κ) (he : st.at f.length o.length f.length = 0) : ∃ s ∈ st.op, GoodS o f s.x s.y s.far (κ s.turn) := by
  have e1 : rd o f 0 0 = dist o f := by simp [rd]
  have e2 : kb o f 0 0 = key o f := by simp [kb]
  rcases h.start with ⟨h1, h2⟩ | ⟨s, hs, x0, y0, h2⟩
  · have h2' : G 0 0 = 0 ∧ Q 0 0 = 0 := by unfold le2 at h2; omega
    exact goodK_from o f h he _ 0 0 (by omega) (by omega) rfl h1 ⟨by rw [h2'.1, e1]; omega, by rw [h2'.2, e2]; omega⟩
  · have h2' : s.far = 0 ∧ κ s.turn = 0 := by unfold le2 at h2; omega
    exact ⟨s, hs, by rw [x0, y0]; exact ⟨by rw [h2'.1, e1]; omega, by rw [h2'.2, e2]; omega⟩⟩
end
end Dn

namespace Dn
section
set_option linter.unusedSectionVars false
variable {α : Type} [DecidableEq α] (o f : List α) [Inhabited α]

theorem NearK.kap {st : Srch} {G Q : Nat → Nat → Nat} {κ κ' : Nat → Nat} {x y c k : Nat} (h : NearK f st G Q κ x y c k) (ht : ∀ s ∈ st.op, s.turn ≤ st.turns) (hk : ∀ t, t ≤ st.turns → κ' t = κ t) : NearK f st G Q κ' x y c k := by
  rcases h with h | ⟨s, hs, e1, e2, e3⟩
  · exact .inl h
  · exact .inr ⟨s, hs, e1, e2, by rw [hk _ (ht s hs)]; exact e3⟩
theorem InvK.kap {hole : Option (Nat × Nat)} {st : Srch} {G Q : Nat → Nat → Nat} {κ κ' : Nat → Nat} (h : InvK o f hole st G Q κ) (hk : ∀ t, t ≤ st.turns → κ' t = κ t) : InvK o f hole st G Q κ' := by
  have e : ∀ s ∈ st.op, κ' s.turn = κ s.turn := fun s hs => hk _ (h.tle s hs)
  refine ⟨h.heap, h.uniq, h.tle, h.far, ?_, ?_, ?_, ?_, h.known, h.start.kap f h.tle hk, ?_, h.low, ?_, h.top⟩
  · intro s1 h1 s2 h2 a b; rw [e s1 h1, e s2 h2]; exact h.ord s1 h1 s2 h2 a b
  · intro s1 h1 s2 h2 a; rw [e s1 h1, e s2 h2]; exact h.ord2 s1 h1 s2 h2 a
  · intro x y hx hy hr s hs; rw [e s hs]; exact h.mono x y hx hy hr s hs
  · intro s hs; rw [e s hs]; exact h.spots s hs
  · intro x y hx hy hr hh
    have := h.next x y hx hy hr hh
    unfold NextK at this ⊢
    split at this
    · rename_i hs; rw [if_pos hs]; exact this.kap f h.tle hk
    · rename_i hs; rw [if_neg hs]; exact ⟨fun a => (this.1 a).kap f h.tle hk, fun a => (this.2 a).kap f h.tle hk⟩
  · intro s hs; rw [e s hs]; exact h.lowS s hs
theorem NearK.push {st : Srch} {G Q : Nat → Nat → Nat} {κ : Nat → Nat} {x y c k : Nat} (h : NearK f st G Q κ x y c k) (s : Spot) (t : Nat) : NearK f { op := pushM st.op s, turns := t, led := st.led } G Q κ x y c k := by
  rcases h with h | ⟨q, hq, e⟩
  · exact .inl h
  · exact .inr ⟨q, (pushM_perm st.op s).mem_iff.2 (by simp [hq]), e⟩
theorem InvK.push {hole : Option (Nat × Nat)} {st : Srch} {G Q : Nat → Nat → Nat} {κ : Nat → Nat} (h : InvK o f hole st G Q κ) (s : Spot) (t : Nat) (hn : ∀ q ∈ st.op, q.turn ≠ s.turn) (ht1 : s.turn ≤ t) (ht2 : st.turns ≤ t)
    (hq : ∀ q ∈ st.op, s.far ≤ q.far + 1 ∧ q.far ≤ s.far + 1 ∧ (q.far = s.far → (q.turn < s.turn → κ q.turn < κ s.turn) ∧ (s.turn < q.turn → κ s.turn < κ q.turn)) ∧ (q.far = s.far + 1 → κ q.turn < 2 * κ s.turn) ∧ (s.far = q.far + 1 → κ s.turn < 2 * κ q.turn))
    (hm : ∀ x y, x ≤ o.length → y ≤ f.length → st.at f.length x y ≠ 0 → le2 (G x y) (Q x y) s.far (κ s.turn)) (hc : CostK o f st G Q s.x s.y s.kind s.far (κ s.turn)) (hl : Low o f s.x s.y s.far (κ s.turn)) :
    InvK o f hole { op := pushM st.op s, turns := t, led := st.led } G Q κ := by
  have hmem : ∀ q, q ∈ pushM st.op s ↔ q ∈ st.op ∨ q = s := by intro q; rw [(pushM_perm st.op s).mem_iff]; simp
  refine ⟨push_heap h.heap s, ?_, ?_, ?_, ?_, ?_, ?_, ?_, h.known, h.start.push f s t, ?_, h.low, ?_, h.top⟩
  · have hp := (pushM_perm st.op s).map (·.turn)
    rw [hp.nodup_iff, List.map_append, List.nodup_append]
    refine ⟨h.uniq, by simp, ?_⟩
    intro a ha b hb e
    obtain ⟨q, hq', rfl⟩ := List.mem_map.1 ha
    simp at hb
    exact hn q hq' (e.trans hb)
  · intro q hq'
    rcases (hmem q).1 hq' with h1 | rfl
    · exact Nat.le_trans (h.tle q h1) ht2
    · exact ht1
  · intro s1 h1 s2 h2
    rcases (hmem s1).1 h1 with g1 | g1 <;> rcases (hmem s2).1 h2 with g2 | g2
    · exact h.far s1 g1 s2 g2
    · rw [g2]; exact (hq s1 g1).2.1
    · rw [g1]; exact (hq s2 g2).1
    · rw [g1, g2]; omega
  · intro s1 h1 s2 h2 e1 e2
    rcases (hmem s1).1 h1 with g1 | g1 <;> rcases (hmem s2).1 h2 with g2 | g2
    · exact h.ord s1 g1 s2 g2 e1 e2
    · rw [g2] at e1 e2 ⊢; exact ((hq s1 g1).2.2.1 e1).1 e2
    · rw [g1] at e1 e2 ⊢; exact ((hq s2 g2).2.2.1 e1.symm).2 e2
    · rw [g1, g2] at e2; omega
  · intro s1 h1 s2 h2 e1
    rcases (hmem s1).1 h1 with g1 | g1 <;> rcases (hmem s2).1 h2 with g2 | g2
    · exact h.ord2 s1 g1 s2 g2 e1
    · rw [g2] at e1 ⊢; exact (hq s1 g1).2.2.2.1 e1
    · rw [g1] at e1 ⊢; exact (hq s2 g2).2.2.2.2 e1
    · rw [g1, g2] at e1; omega
  · intro x y hx hy hr q hq'
    rcases (hmem q).1 hq' with h1 | rfl
    · exact h.mono x y hx hy hr q h1
    · exact hm x y hx hy hr
  · intro q hq'
    rcases (hmem q).1 hq' with h1 | rfl
    · exact h.spots q h1
    · exact hc
  · intro x y hx hy hr hh
    have := h.next x y hx hy hr hh
    unfold NextK at this ⊢
    split at this
    · rename_i hs; rw [if_pos hs]; exact this.push f s t
    · rename_i hs; rw [if_neg hs]; exact ⟨fun a => (this.1 a).push f s t, fun a => (this.2 a).push f s t⟩
  · intro q hq'
    rcases (hmem q).1 hq' with h1 | rfl
    · exact h.lowS q h1
    · exact hl
theorem InvK.change {hole : Option (Nat × Nat)} {st : Srch} {G Q : Nat → Nat → Nat} {κ : Nat → Nat} (h : InvK o f hole st G Q κ) (p : Spot) (dx dy kind nk : Nat) (hpt : p.turn ≤ st.turns)
    (hx : p.x + dx ≤ o.length) (hy : p.y + dy ≤ f.length) (hnk : nk ≤ 2 * κ p.turn + 1)
    (hq : ∀ q ∈ st.op, p.far ≤ q.far ∧ q.far ≤ p.far + 1 ∧ (q.far = p.far → κ p.turn < κ q.turn) ∧ (q.far = p.far + 1 → κ q.turn < nk))
    (hm : ∀ x y, x ≤ o.length → y ≤ f.length → st.at f.length x y ≠ 0 → le2 (G x y) (Q x y) p.far (κ p.turn))
    (hc : CostK o f st G Q (p.x + dx) (p.y + dy) kind (p.far + 1) nk) (hl : Low o f (p.x + dx) (p.y + dy) (p.far + 1) nk) :
    ∃ κ', (∀ t, t ≤ st.turns → κ' t = κ t) ∧ InvK o f hole (changeM f.length st p dx dy kind) G Q κ' ∧ NearK f (changeM f.length st p dx dy kind) G Q κ' (p.x + dx) (p.y + dy) (p.far + 1) nk ∧
      (changeM f.length st p dx dy kind).led = st.led ∧ st.turns ≤ (changeM f.length st p dx dy kind).turns ∧ (∀ x y c k, NearK f st G Q κ x y c k → NearK f (changeM f.length st p dx dy kind) G Q κ' x y c k) ∧
      (∀ q ∈ (changeM f.length st p dx dy kind).op, p.far ≤ q.far ∧ q.far ≤ p.far + 1 ∧ (q.far = p.far → κ' p.turn < κ' q.turn) ∧ (q.far = p.far + 1 → κ' q.turn < nk + 1)) := by
  unfold changeM
  split
  · have hk : ∀ t, t ≤ st.turns → (fun t => if t = st.turns + 1 then nk else κ t) t = κ t := by intro t ht; simp only; rw [if_neg (by omega)]
    have hnew : (fun t => if t = st.turns + 1 then nk else κ t) (st.turns + 1) = nk := by simp
    generalize (fun t => if t = st.turns + 1 then nk else κ t) = κ' at hk hnew
    have h' := h.kap o f hk
    have hpush := h'.push o f ⟨p.x + dx, p.y + dy, p.far + 1, st.turns + 1, kind⟩ (st.turns + 1) (fun q hq' => by have := h.tle q hq'; show q.turn ≠ st.turns + 1; omega) (Nat.le_refl _) (by omega) (by
        intro q hq'
        obtain ⟨a, b, c, d⟩ := hq q hq'
        have ht := h.tle q hq'
        simp only [hnew, hk _ ht]
        refine ⟨by omega, by omega, fun e => ⟨fun _ => d e, fun hlt => by omega⟩, fun e => by omega, fun e => ?_⟩
        have := c (by omega)
        omega) (by
        intro x y hx' hy' hr
        have := hm x y hx' hy' hr
        unfold le2 at *
        simp only [hnew]
        omega) (by simp only [hnew]; exact hc) (by simp only [hnew]; exact hl)
    refine ⟨κ', hk, hpush, .inr ⟨⟨p.x + dx, p.y + dy, p.far + 1, st.turns + 1, kind⟩, (pushM_perm st.op _).mem_iff.2 (by simp), rfl, rfl, by simp only [hnew]; exact .inr ⟨rfl, Nat.le_refl _⟩⟩, rfl, by simp, fun x y c k hn => (hn.kap f h.tle hk).push f _ _, ?_⟩
    intro q hq'
    rw [(pushM_perm st.op _).mem_iff, List.mem_append] at hq'
    rcases hq' with hq' | hq'
    · obtain ⟨a, b, c, d⟩ := hq q hq'
      rw [hk _ hpt, hk _ (h.tle q hq')]
      exact ⟨a, b, c, fun e => Nat.lt_succ_of_lt (d e)⟩
    · simp at hq'
      subst hq'
      simp only [hnew]
      exact ⟨by omega, by omega, fun e => by omega, fun _ => by omega⟩
  · rename_i h0
    refine ⟨κ, fun _ _ => rfl, h, .inl ⟨h0, ?_⟩, rfl, Nat.le_refl _, fun _ _ _ _ hn => hn, fun q hq' => ?_⟩
    · have := hm _ _ hx hy h0
      unfold le2 at *
      omega
    · obtain ⟨a, b, c, d⟩ := hq q hq'
      exact ⟨a, b, c, fun e => Nat.lt_succ_of_lt (d e)⟩

theorem InvK.round {st : Srch} {G Q : Nat → Nat → Nat} {κ : Nat → Nat} (hi : Inv o f st) (h : InvK o f none st G Q κ) (he : st.at f.length o.length f.length = 0) : ∃ G' Q' κ', InvK o f none (roundM o f st) G' Q' κ' := by
  have hne := hi.open_ne he
  have hperm := pop_perm st.op hne
  have hmem : ∀ q, q ∈ st.op ↔ q ∈ popR st.op ∨ q = popS st.op := by intro q; rw [← hperm.mem_iff]; simp
  have hu := h.uniq
  rw [← (hperm.map (·.turn)).nodup_iff, List.map_append, List.nodup_append] at hu
  obtain ⟨hu1, _, hu2⟩ := hu
  have hut : ∀ q ∈ popR st.op, q.turn ≠ (popS st.op).turn := fun q hq => hu2 _ (List.mem_map.2 ⟨q, hq, rfl⟩) _ (by simp)
  obtain ⟨hh, _, hmin⟩ := pop_heap h.heap hne
  have pmem : popS st.op ∈ st.op := (hmem _).2 (.inr rfl)
  have hmin1 : ∀ s ∈ st.op, (popS st.op).far ≤ s.far ∧ ((popS st.op).far = s.far → (popS st.op).turn ≤ s.turn) := by
    intro s hs
    have := hmin s hs
    unfold Spot.lt at this
    omega
  have hmin2 : ∀ s ∈ st.op, le2 (popS st.op).far (κ (popS st.op).turn) s.far (κ s.turn) := by
    intro s hs
    obtain ⟨a, b⟩ := hmin1 s hs
    by_cases e : (popS st.op).far = s.far
    · refine .inr ⟨e, ?_⟩
      by_cases e2 : (popS st.op).turn = s.turn
      · rw [e2]; exact Nat.le_refl _
      · have := h.ord _ pmem s hs e (by have := b e; omega)
        omega
    · exact .inl (by omega)
  obtain ⟨px, py, _, ptn, pl⟩ := hi.spots _ pmem
  have pc := h.spots _ pmem
  have plow := h.lowS _ pmem
  have pm : ∀ x y, x ≤ o.length → y ≤ f.length → st.at f.length x y ≠ 0 → le2 (G x y) (Q x y) (popS st.op).far (κ (popS st.op).turn) := fun x y a b c => h.mono x y a b c _ pmem
  have hrel : ∀ q ∈ popR st.op, (popS st.op).far ≤ q.far ∧ q.far ≤ (popS st.op).far + 1 ∧ (q.far = (popS st.op).far → κ (popS st.op).turn < κ q.turn) ∧ (q.far = (popS st.op).far + 1 → κ q.turn < 2 * κ (popS st.op).turn) := by
    intro q hq
    have hq' := (hmem q).2 (.inl hq)
    refine ⟨(hmin1 q hq').1, h.far q hq' _ pmem, fun e => ?_, fun e => h.ord2 q hq' _ pmem e⟩
    have := (hmin1 q hq').2 e.symm
    have := hut q hq
    exact h.ord _ pmem q hq' e.symm (by omega)
  have ptop : (popS st.op).x = o.length → (popS st.op).y = f.length → (popS st.op).far = dist o f ∧ κ (popS st.op).turn ≤ key o f := by
    intro e1 e2
    obtain ⟨s, hs, g1, g2⟩ := goodK o f h he
    have h1 := hmin2 s hs
    have h2 := plow.1
    have e3 : rd o f o.length f.length = 0 := by unfold rd; simp [dist_nil_l]
    rw [e1, e2, e3] at h2
    unfold le2 at h1
    have e4 : rd o f s.x s.y = 0 := by omega
    rw [e4] at g2
    simp at g2
    omega
  unfold roundM settleM
  simp only
  generalize hs : popS st.op = s at *
  have hat : ∀ x y, Srch.at { op := popR st.op, turns := st.turns, led := st.led } f.length x y = st.at f.length x y := fun _ _ => rfl
  rw [hat]
  split
  · rename_i h0
    have hset := fun x y (hy : y ≤ f.length) => at_set (st := st) (n := o.length) (m := f.length) (x0 := s.x) (y0 := s.y) (x := x) (y := y) (k := s.kind) hi.len px py hy (popR st.op) st.turns
    generalize hG : (fun x y => if x = s.x ∧ y = s.y then s.far else G x y) = G'
    generalize hQ : (fun x y => if x = s.x ∧ y = s.y then κ s.turn else Q x y) = Q'
    have hG1 : G' s.x s.y = s.far := by rw [← hG]; simp
    have hQ1 : Q' s.x s.y = κ s.turn := by rw [← hQ]; simp
    have hG2 : ∀ x y, ¬ (x = s.x ∧ y = s.y) → G' x y = G x y ∧ Q' x y = Q x y := by intro x y hn; rw [← hG, ← hQ]; simp only; rw [if_neg hn, if_neg hn]; exact ⟨rfl, rfl⟩
    have hG3 : ∀ x y, st.at f.length x y ≠ 0 → G' x y = G x y ∧ Q' x y = Q x y := by
      intro x y hr
      refine hG2 x y ?_
      rintro ⟨rfl, rfl⟩
      exact hr h0
    have hmono : ∀ x y, y ≤ f.length → st.at f.length x y ≠ 0 → Srch.at { op := popR st.op, turns := st.turns, led := st.led.set (idx f.length s.x s.y) s.kind } f.length x y ≠ 0 := by
      intro x y hy hr
      rw [hset x y hy]
      split
      · exact pl.pos
      · exact hr
    have hcost : ∀ x y k c d, y ≤ f.length → CostK o f st G Q x y k c d → CostK o f { op := popR st.op, turns := st.turns, led := st.led.set (idx f.length s.x s.y) s.kind } G' Q' x y k c d := by
      intro x y k c d hy hc
      rcases hc with hc | ⟨h1, h2, h3, h4, h5, h6, h7⟩ | ⟨h1, h2, h3, h4, h5, h6⟩ | ⟨h1, h2, h3, h4, h5, h6⟩
      · exact .inl hc
      · exact .inr (.inl ⟨h1, h2, h3, hmono _ _ (by omega) h4, h5, by rw [(hG3 _ _ h4).1]; exact h6, by rw [(hG3 _ _ h4).2]; exact h7⟩)
      · exact .inr (.inr (.inl ⟨h1, h2, hmono _ _ hy h3, h4, by rw [(hG3 _ _ h3).1]; exact h5, by rw [(hG3 _ _ h3).2]; exact h6⟩))
      · exact .inr (.inr (.inr ⟨h1, h2, hmono _ _ (by omega) h3, h4, by rw [(hG3 _ _ h3).1]; exact h5, by rw [(hG3 _ _ h3).2]; exact h6⟩))
    have hnear : ∀ x y c k, y ≤ f.length → NearK f st G Q κ x y c k → NearK f { op := popR st.op, turns := st.turns, led := st.led.set (idx f.length s.x s.y) s.kind } G' Q' κ x y c k := by
      intro x y c k hy hn
      rcases hn with ⟨h1, h2⟩ | ⟨q, hq, e1, e2, e3⟩
      · exact .inl ⟨hmono x y hy h1, by rw [(hG3 _ _ h1).1, (hG3 _ _ h1).2]; exact h2⟩
      · by_cases e : x = s.x ∧ y = s.y
        · left
          obtain ⟨rfl, rfl⟩ := e
          refine ⟨by rw [hset _ _ hy, if_pos ⟨rfl, rfl⟩]; exact pl.pos, ?_⟩
          rw [hG1, hQ1]
          have := hmin2 q hq
          unfold le2 at *
          omega
        · rcases (hmem q).1 hq with hq | rfl
          · exact .inr ⟨q, hq, e1, e2, e3⟩
          · exact absurd ⟨e1.symm, e2.symm⟩ e
    have hGle : ∀ x y, x ≤ o.length → y ≤ f.length → Srch.at { op := popR st.op, turns := st.turns, led := st.led.set (idx f.length s.x s.y) s.kind } f.length x y ≠ 0 → le2 (G' x y) (Q' x y) s.far (κ s.turn) := by
      intro x y hx hy hr
      by_cases e : x = s.x ∧ y = s.y
      · rw [e.1, e.2, hG1, hQ1]; exact .inr ⟨rfl, Nat.le_refl _⟩
      · rw [hset x y hy, if_neg e] at hr
        rw [(hG2 x y e).1, (hG2 x y e).2]
        exact pm x y hx hy hr
    have hhere : Srch.at { op := popR st.op, turns := st.turns, led := st.led.set (idx f.length s.x s.y) s.kind } f.length s.x s.y ≠ 0 := by rw [hset _ _ py, if_pos ⟨rfl, rfl⟩]; exact pl.pos
    have i0 : InvK o f (some (s.x, s.y)) { op := popR st.op, turns := st.turns, led := st.led.set (idx f.length s.x s.y) s.kind } G' Q' κ := by
      refine ⟨hh, hu1, fun q hq => h.tle q ((hmem q).2 (.inl hq)), fun q1 h1 q2 h2 => h.far q1 ((hmem q1).2 (.inl h1)) q2 ((hmem q2).2 (.inl h2)), fun q1 h1 q2 h2 => h.ord q1 ((hmem q1).2 (.inl h1)) q2 ((hmem q2).2 (.inl h2)), fun q1 h1 q2 h2 => h.ord2 q1 ((hmem q1).2 (.inl h1)) q2 ((hmem q2).2 (.inl h2)), ?_, ?_, ?_, hnear 0 0 0 0 (by omega) h.start, ?_, ?_, fun q hq => h.lowS q ((hmem q).2 (.inl hq)), ?_⟩
      · intro x y hx hy hr q hq
        have h1 := hGle x y hx hy hr
        have h2 := hmin2 q ((hmem q).2 (.inl hq))
        unfold le2 at *
        omega
      · intro q hq
        have hq' := (hmem q).2 (.inl hq)
        exact hcost _ _ _ _ _ (hi.spots q hq').2.1 (h.spots q hq')
      · intro x y hx hy hr
        by_cases e : x = s.x ∧ y = s.y
        · rw [hset x y hy, if_pos e, e.1, e.2, hG1, hQ1]
          exact hcost _ _ _ _ _ py pc
        · rw [hset x y hy, if_neg e] at hr ⊢
          rw [(hG2 x y e).1, (hG2 x y e).2]
          exact hcost _ _ _ _ _ hy (h.known x y hx hy hr)
      · intro x y hx hy hr hne'
        have e : ¬ (x = s.x ∧ y = s.y) := by rintro ⟨rfl, rfl⟩; exact hne' rfl
        rw [hset x y hy, if_neg e] at hr
        have := h.next x y hx hy hr (by simp)
        unfold NextK at this ⊢
        rw [(hG2 x y e).1, (hG2 x y e).2]
        split at this
        · rename_i hs'
          have hlt := same_lt o f hs'
          rw [if_pos hs']
          exact hnear _ _ _ _ (by omega) this
        · rename_i hs'
          rw [if_neg hs']
          exact ⟨fun a => hnear _ _ _ _ hy (this.1 a), fun a => hnear _ _ _ _ (by omega) (this.2 a)⟩
      · intro x y hx hy hr
        by_cases e : x = s.x ∧ y = s.y
        · rw [e.1, e.2, hG1, hQ1]; exact plow
        · rw [hset x y hy, if_neg e] at hr
          rw [(hG2 x y e).1, (hG2 x y e).2]
          exact h.low x y hx hy hr
      · intro hr
        by_cases e : o.length = s.x ∧ f.length = s.y
        · have h1 : G' o.length f.length = s.far := by rw [e.1, e.2]; exact hG1
          have h2 : Q' o.length f.length = κ s.turn := by rw [e.1, e.2]; exact hQ1
          rw [h1, h2]
          exact ptop e.1.symm e.2.symm
        · rw [hset _ _ (Nat.le_refl _), if_neg e] at hr
          exact absurd he hr
    have close : ∀ (S : Srch) (K : Nat → Nat), InvK o f (some (s.x, s.y)) S G' Q' K → NextK o f S G' Q' K s.x s.y → InvK o f none S G' Q' K := by
      intro S K hS hN
      refine ⟨hS.heap, hS.uniq, hS.tle, hS.far, hS.ord, hS.ord2, hS.mono, hS.spots, hS.known, hS.start, ?_, hS.low, hS.lowS, hS.top⟩
      intro x y hx hy hr _
      by_cases e : x = s.x ∧ y = s.y
      · rw [e.1, e.2]; exact hN
      · exact hS.next x y hx hy hr (by simp only [ne_eq, Option.some.injEq, Prod.mk.injEq]; intro hh; exact e ⟨hh.1.symm, hh.2.symm⟩)
    split
    · rename_i hsame
      have hlt := same_lt o f hsame
      refine ⟨G', Q', κ, close _ _ (i0.push o f ⟨s.x + 1, s.y + 1, s.far, s.turn, 32⟩ st.turns hut ptn (Nat.le_refl _) ?_ hGle (.inr (.inl ⟨rfl, by simp, by simp, by simpa using hhere, by simpa using hsame, by simp [hG1], by simp [hQ1]⟩)) (plow.keep o f hsame)) ?_⟩
      · intro q hq
        obtain ⟨a, b, c, d⟩ := hrel q hq
        have hq' := (hmem q).2 (.inl hq)
        refine ⟨by simp only; omega, by simp only; omega, fun e => ⟨fun e2 => ?_, fun e2 => ?_⟩, fun e => d e, fun e => by simp only at e; omega⟩
        · have := (hmin1 q hq').2 e.symm
          simp only at e2
          omega
        · exact c e
      · unfold NextK
        rw [if_pos hsame]
        exact .inr ⟨⟨s.x + 1, s.y + 1, s.far, s.turn, 32⟩, (pushM_perm _ _).mem_iff.2 (by simp), rfl, rfl, by rw [hG1, hQ1]; exact .inr ⟨rfl, Nat.le_refl _⟩⟩
    · rename_i hsame
      have hsf : same o f s.x s.y = false := by simpa using hsame
      have key1 : ∃ (st2 : Srch) (κ2 : Nat → Nat), st2 = (if s.x < o.length then changeM f.length { op := popR st.op, turns := st.turns, led := st.led.set (idx f.length s.x s.y) s.kind } s 1 0 45 else { op := popR st.op, turns := st.turns, led := st.led.set (idx f.length s.x s.y) s.kind }) ∧
          κ2 s.turn = κ s.turn ∧ st.turns ≤ st2.turns ∧ InvK o f (some (s.x, s.y)) st2 G' Q' κ2 ∧ (s.x < o.length → NearK f st2 G' Q' κ2 (s.x + 1) s.y (s.far + 1) (2 * κ s.turn)) ∧ st2.led = st.led.set (idx f.length s.x s.y) s.kind ∧
          (∀ q ∈ st2.op, s.far ≤ q.far ∧ q.far ≤ s.far + 1 ∧ (q.far = s.far → κ2 s.turn < κ2 q.turn) ∧ (q.far = s.far + 1 → κ2 q.turn < 2 * κ s.turn + 1)) := by
        split
        · rename_i hxl
          obtain ⟨κ2, c1, c2, c3, c4, c5, c6, c7⟩ := i0.change o f s 1 0 45 (2 * κ s.turn) ptn (by omega) (by omega) (by omega) hrel hGle (.inr (.inr (.inl ⟨rfl, by omega, by simpa using hhere, by simpa using hsf, by simp [hG1], by simp [hQ1]⟩))) (by simpa using plow.drop o f hsf hxl py)
          exact ⟨_, κ2, rfl, c1 _ ptn, c5, c2, fun _ => by simpa using c3, c4, c7⟩
        · exact ⟨_, κ, rfl, rfl, Nat.le_refl _, i0, fun hh => absurd hh (by assumption), rfl, fun q hq => by
            obtain ⟨a, b, c, d⟩ := hrel q hq
            exact ⟨a, b, c, fun e => Nat.lt_succ_of_lt (d e)⟩⟩
      obtain ⟨st2, κ2, hst2, k1, k2, j1, j2, j3, j4⟩ := key1
      rw [← hst2]
      have hat2 : ∀ x y, st2.at f.length x y = Srch.at { op := popR st.op, turns := st.turns, led := st.led.set (idx f.length s.x s.y) s.kind } f.length x y := by intro x y; unfold Srch.at; rw [j3]
      split
      · rename_i hyl
        obtain ⟨κ3, c1, c2, c3, c4, c5, c6, c7⟩ := j1.change o f s 0 1 43 (2 * κ s.turn + 1) (by omega) (by omega) (by omega) (by omega) j4 (fun x y hx hy hr => by rw [k1]; exact hGle x y hx hy (by rw [← hat2]; exact hr)) (.inr (.inr (.inr ⟨rfl, by omega, by rw [hat2]; simpa using hhere, by simpa using hsf, by simp [hG1], by simp [hQ1]⟩))) (by simpa using plow.add o f hsf px hyl)
        refine ⟨G', Q', κ3, close _ _ c2 ?_⟩
        unfold NextK
        rw [if_neg hsame, hG1, hQ1]
        exact ⟨fun hx => c6 _ _ _ _ (j2 hx), fun _ => by simpa using c3⟩
      · rename_i hyl
        refine ⟨G', Q', κ2, close _ _ j1 ?_⟩
        unfold NextK
        rw [if_neg hsame, hG1, hQ1]
        exact ⟨j2, fun hy => absurd hy hyl⟩
  · rename_i h0
    refine ⟨G, Q, κ, ?_⟩
    have hnear : ∀ x y c k, x ≤ o.length → y ≤ f.length → NearK f st G Q κ x y c k → NearK f { op := popR st.op, turns := st.turns, led := st.led } G Q κ x y c k := by
      intro x y c k hx hy hn
      rcases hn with h1 | ⟨q, hq, e1, e2, e3⟩
      · exact .inl h1
      · rcases (hmem q).1 hq with hq' | rfl
        · exact .inr ⟨q, hq', e1, e2, e3⟩
        · left
          subst e1 e2
          refine ⟨h0, ?_⟩
          have := pm _ _ hx hy h0
          unfold le2 at *
          omega
    refine ⟨hh, hu1, fun q hq => h.tle q ((hmem q).2 (.inl hq)), fun q1 h1 q2 h2 => h.far q1 ((hmem q1).2 (.inl h1)) q2 ((hmem q2).2 (.inl h2)), fun q1 h1 q2 h2 => h.ord q1 ((hmem q1).2 (.inl h1)) q2 ((hmem q2).2 (.inl h2)), fun q1 h1 q2 h2 => h.ord2 q1 ((hmem q1).2 (.inl h1)) q2 ((hmem q2).2 (.inl h2)),
      fun x y hx hy hr q hq => h.mono x y hx hy hr q ((hmem q).2 (.inl hq)), fun q hq => h.spots q ((hmem q).2 (.inl hq)), h.known, hnear 0 0 0 0 (by omega) (by omega) h.start, ?_, h.low, fun q hq => h.lowS q ((hmem q).2 (.inl hq)), h.top⟩
    intro x y hx hy hr _
    have := h.next x y hx hy hr (by simp)
    unfold NextK at this ⊢
    split at this
    · rename_i hs'
      have hlt := same_lt o f hs'
      rw [if_pos hs']
      exact hnear _ _ _ _ (by omega) (by omega) this
    · rename_i hs'
      rw [if_neg hs']
      exact ⟨fun a => hnear _ _ _ _ (by omega) hy (this.1 a), fun a => hnear _ _ _ _ hx (by omega) (this.2 a)⟩

theorem startK : InvK o f none (startM o f) (fun _ _ => 0) (fun _ _ => 0) (fun _ => 0) := by
  have h0 : ∀ x y, (startM o f).at f.length x y = 0 := by
    intro x y
    simp [startM, Srch.at, List.getD, List.getElem?_replicate]
    split <;> rfl
  have hop : ∀ s ∈ (startM o f).op, s = ⟨0, 0, 0, 0, 46⟩ := by intro s hs; simpa [startM] using hs
  refine ⟨?_, by simp [startM], ?_, ?_, ?_, ?_, fun x y _ _ hr => absurd (h0 x y) hr, ?_, fun x y _ _ hr => absurd (h0 x y) hr, .inr ⟨⟨0, 0, 0, 0, 46⟩, by simp [startM], rfl, rfl, .inr ⟨rfl, Nat.le_refl _⟩⟩, fun x y _ _ hr => absurd (h0 x y) hr, fun x y _ _ hr => absurd (h0 x y) hr, ?_, fun hr => absurd (h0 _ _) hr⟩
  · intro i hi hl; simp [startM] at hl; omega
  · intro s hs; rw [hop s hs]; exact Nat.zero_le _
  · intro s hs q hq; rw [hop s hs, hop q hq]; simp
  · intro s hs q hq _ hlt; rw [hop s hs, hop q hq] at hlt; simp at hlt
  · intro s hs q hq e; rw [hop s hs, hop q hq] at e; simp at e
  · intro s hs; rw [hop s hs]; exact .inl ⟨rfl, rfl, rfl, rfl, rfl⟩
  · intro s hs; rw [hop s hs]; exact ⟨by simp [rd], fun _ => by simp [kb]⟩
theorem searchM_K : ∀ (k : Nat) (st : Srch) (G Q : Nat → Nat → Nat) (κ : Nat → Nat), Inv o f st → InvK o f none st G Q κ → ∃ G' Q' κ', InvK o f none (searchM o f k st) G' Q' κ' := by
  intro k
  induction k with
  | zero => intro st G Q κ _ hG; exact ⟨G, Q, κ, hG⟩
  | succ k ih =>
    intro st G Q κ hi hG
    by_cases he : st.at f.length o.length f.length = 0
    · simp only [searchM, he, if_true]
      obtain ⟨G1, Q1, κ1, hG1⟩ := hG.round o f hi he
      exact ih _ G1 Q1 κ1 (hi.round (hi.open_ne he)).1 hG1
    · rw [searchM_done he]; exact ⟨G, Q, κ, hG⟩
theorem backM_spec {st : Srch} {G Q : Nat → Nat → Nat} {κ : Nat → Nat} (h : InvK o f none st G Q κ) : ∀ (k x y : Nat), x + y ≤ k → x ≤ o.length → y ≤ f.length → st.at f.length x y ≠ 0 →
    G x y + rd o f x y = dist o f → Q x y * 2 ^ rd o f x y + kb o f x y = key o f → (backM o f st k x y).reverse ++ sp o f x y = spec o f := by
  intro k
  induction k with
  | zero =>
    intro x y hk _ _ _ _ _
    obtain rfl : x = 0 := by omega
    obtain rfl : y = 0 := by omega
    simp [backM, sp]
  | succ k ih =>
    intro x y hk hx hy hr hD hK
    unfold backM
    split
    · rename_i e
      rw [e.1, e.2]
      simp [sp]
    · rename_i hne
      have hc := h.known x y hx hy hr
      rcases hc with ⟨_, h1, h2, _⟩ | ⟨h1, h2, h3, h4, h5, h6, h7⟩ | ⟨h1, h2, h3, h4, h5, h6⟩ | ⟨h1, h2, h3, h4, h5, h6⟩
      · exact absurd ⟨h1, h2⟩ hne
      · rw [if_pos h1]
        obtain ⟨x, rfl⟩ : ∃ x', x = x' + 1 := ⟨x - 1, by omega⟩
        obtain ⟨y, rfl⟩ : ∃ y', y = y' + 1 := ⟨y - 1, by omega⟩
        simp only [Nat.add_sub_cancel] at *
        have hs := at_same o f h5
        have := ih x y (by omega) (by omega) (by omega) h4 (by rw [rd_same o f h5, ← h6]; exact hD) (by rw [rd_same o f h5, hs.1, ← h7]; exact hK)
        rw [hs.2] at this
        simpa using this
      · rw [if_neg (by omega), if_pos h1]
        obtain ⟨x, rfl⟩ : ∃ x', x = x' + 1 := ⟨x - 1, by omega⟩
        simp only [Nat.add_sub_cancel] at *
        have hl := (h.low x y (by omega) hy h3).1
        have hr1 := rd_x o f y (show x < o.length by omega)
        have hd : Drops o f x y := by
          by_cases hd : Drops o f x y
          · exact hd
          · have hy' : y < f.length := by
              by_cases ey : y < f.length
              · exact ey
              · exact absurd ⟨by omega, .inl (by omega)⟩ hd
            have := (at_add o f h4 (by omega) hy' hd).2.2.2 (by omega)
            omega
        obtain ⟨e1, e2, e3⟩ := at_drop o f h4 hy hd
        have := ih x y (by omega) (by omega) (by omega) h3 (by omega) (by rw [e1, e2, pw1, ← pw2, ← h6]; exact hK)
        rw [e3] at this
        simpa using this
      · rw [if_neg (by omega), if_neg (by omega), h1]
        obtain ⟨y, rfl⟩ : ∃ y', y = y' + 1 := ⟨y - 1, by omega⟩
        simp only [Nat.add_sub_cancel] at *
        have hl := h.low x y hx (by omega) h3
        have hl1 := hl.1
        have hr1 := rd_y o f x (show y < f.length by omega)
        have e0 : rd o f x y = rd o f x (y + 1) + 1 := by omega
        have hl2 := hl.2 (by omega)
        rw [e0, pw1] at hl2
        rw [h6, pw3] at hK
        have hd : ¬ Drops o f x y := by
          intro hd
          obtain ⟨e1, e2, _⟩ := at_drop o f h4 (by omega) hd
          have h8 := kb_lt o f (x + 1) y
          rw [show rd o f (x + 1) y = rd o f x (y + 1) by omega] at h8
          omega
        obtain ⟨e1, e2, e3, _⟩ := at_add o f h4 hx (by omega) hd
        have := ih x y (by omega) (by omega) (by omega) h3 (by omega) (by rw [e1, e2, pw1]; omega)
        rw [e3] at this
        simpa using this
/-- the way that is found is the one that the document asks for -/
theorem wayM_spec : wayM o f = spec o f := by
  obtain ⟨_, he⟩ := foundM_inv o f
  obtain ⟨G, Q, κ, hG⟩ := searchM_K o f (mu (startM o f)) (startM o f) _ _ _ (startM_inv o f) (startK o f)
  have hK : InvK o f none (foundM o f) G Q κ := hG
  have e3 : rd o f o.length f.length = 0 := by unfold rd; simp [dist_nil_l]
  have e4 : kb o f o.length f.length = 0 := by unfold kb; rw [List.drop_length, List.drop_length]; rfl
  have e5 : sp o f o.length f.length = [] := by unfold sp; rw [List.drop_length, List.drop_length]; rfl
  obtain ⟨t1, t2⟩ := hK.top he
  have hl := hK.low o.length f.length (Nat.le_refl _) (Nat.le_refl _) he
  have hl2 := hl.2 (by rw [e3, t1]; omega)
  rw [e3, e4] at hl2
  have := backM_spec o f hK (o.length + f.length) o.length f.length (Nat.le_refl _) (Nat.le_refl _) (Nat.le_refl _) he (by rw [e3, t1]; omega) (by rw [e3, e4]; simp at hl2 ⊢; omega)
  rw [e5] at this
  unfold wayM
  simpa using this
end
end Dn

namespace Go.Proofs.YtcclgodahlinbaaGreatDoor
open Go.RowKit Go
set_option maxRecDepth 100000

/-! ### ways between texts whose lines are all different -/
section
variable {α : Type} [DecidableEq α]
theorem dist_new_r : ∀ (l r : List α) (b : α), b ∉ l → Dn.dist l (b :: r) = Dn.dist l r + 1
  | [], r, b, _ => by rw [Dn.dist_nil_l, Dn.dist_nil_l]; simp
  | c :: l, r, b, h => by
    have hne : c ≠ b := fun e => h (by simp [e])
    have ih := dist_new_r l r b (fun e => h (List.mem_cons_of_mem _ e))
    have h1 := Dn.dist_l1 c l r
    rw [Dn.dist_ne hne, ih]
    omega
theorem dist_new_l (l r : List α) (a : α) (h : a ∉ r) : Dn.dist (a :: l) r = Dn.dist l r + 1 := by
  rw [Dn.dist_comm _ _ _ (Nat.le_refl _), dist_new_r r l a h, Dn.dist_comm _ _ _ (Nat.le_refl _)]
theorem dist_self (l : List α) : Dn.dist l l = 0 := by
  induction l with
  | nil => rw [Dn.dist_nil_l]; rfl
  | cons a l ih => rw [Dn.dist_same, ih]
theorem spec_keep (a : α) (l r : List α) : Dn.spec (a :: l) (a :: r) = ⟨32, a⟩ :: Dn.spec l r := by rw [Dn.spec_cc, if_pos rfl]
theorem spec_keeps (A l r : List α) : Dn.spec (A ++ l) (A ++ r) = A.map (fun a => ⟨32, a⟩) ++ Dn.spec l r := by
  induction A with
  | nil => rfl
  | cons a A ih => rw [List.cons_append, List.cons_append, spec_keep, ih]; rfl
theorem spec_self (l : List α) : Dn.spec l l = l.map (fun a => ⟨32, a⟩) := by
  have := spec_keeps l [] []
  rw [List.append_nil] at this
  rw [this, Dn.spec_nn, List.append_nil]
theorem spec_drop {a b : α} {l r : List α} (h : a ≠ b) (hd : Dn.dist l (b :: r) ≤ Dn.dist (a :: l) r) : Dn.spec (a :: l) (b :: r) = ⟨45, a⟩ :: Dn.spec l (b :: r) := by rw [Dn.spec_cc, if_neg h, if_pos hd]
theorem spec_add {a b : α} {l r : List α} (h : a ≠ b) (hd : ¬ Dn.dist l (b :: r) ≤ Dn.dist (a :: l) r) : Dn.spec (a :: l) (b :: r) = ⟨43, b⟩ :: Dn.spec (a :: l) r := by rw [Dn.spec_cc, if_neg h, if_neg hd]
/-- a line in another's place -/
theorem spec_change {a b m : α} {l r : List α} (h1 : a ≠ b) (h2 : a ∉ m :: r) (h3 : b ∉ m :: l) (h4 : m ∉ l) : Dn.spec (a :: m :: l) (b :: m :: r) = ⟨45, a⟩ :: ⟨43, b⟩ :: Dn.spec (m :: l) (m :: r) := by
  rw [spec_drop h1 (by rw [dist_new_r _ _ _ h3, dist_new_l _ _ _ h2]; exact Nat.le_refl _)]
  rw [spec_add (fun e => h3 (by simp [e])) (by rw [dist_new_r _ _ _ (fun e => h3 (List.mem_cons_of_mem _ e)), dist_new_r _ _ _ h4, Dn.dist_same]; omega)]
theorem spec_last {a b : α} (h : a ≠ b) : Dn.spec [a] [b] = [⟨45, a⟩, ⟨43, b⟩] := by
  rw [spec_drop h (by rw [Dn.dist_nil_l, Dn.dist_nil_r]; exact Nat.le_refl _), Dn.spec_nc, Dn.spec_nn]
/-- a line more -/
theorem spec_more {m : α} {B : List α} (h : m ∉ B) (hn : B.Nodup) : Dn.spec B (m :: B) = ⟨43, m⟩ :: B.map (fun a => ⟨32, a⟩) := by
  cases B with
  | nil => rfl
  | cons b B =>
    rw [List.nodup_cons] at hn
    rw [spec_add (fun e => h (by simp [e])) (by rw [dist_new_r _ _ _ (fun e => h (List.mem_cons_of_mem _ e)), dist_new_r _ _ _ hn.1, dist_self, dist_self]; omega), spec_self]
/-- a line less -/
theorem spec_less {c : α} {B : List α} (h : c ∉ B) : Dn.spec (c :: B) B = ⟨45, c⟩ :: B.map (fun a => ⟨32, a⟩) := by
  cases B with
  | nil => rfl
  | cons b B =>
    rw [spec_drop (fun e => h (by simp [e])) (by rw [dist_self]; omega), spec_self]
end

/-! ### Diff and Apply of lines -/
theorem diff_text {L R : List ByteArray} {c : Nat} {m : Int} {w : World} (h : Plain L) (h1 : L.length ≤ 200) (h2 : (textL L).length ≤ 8000) (g : Plain R) (g1 : R.length ≤ 200) (g2 : (textL R).length ≤ 8000) (hc : c ≤ 10)
    (hm : w.cell? ⟨0, 0, none⟩ = some (.int .i64 m)) :
    Calls Tryz.prog 12 #[.string (textB L), .string (textB R), .int .i64 c] w fun e w' =>
      ∃ a cap, e = .returned (.tuple #[.agg #[.slice a (hunksM (Dn.wayM L R) c).length cap], .int .i64 0]) ∧ HunksAt w'.heap.size w' (.slice a (hunksM (Dn.wayM L R) c).length cap) (hunksM (Dn.wayM L R) c) ∧ Below w.heap.size w w' := by
  have e1 : (textB L).size = (textL L).length := rfl
  have e2 : (textB R).size = (textL R).length := rfl
  have := diff_at (checkB_text h h1 h2 g g1 g2 hc) (by omega) (by omega) hm
  unfold diffM at this
  rw [linesB_text h, linesB_text g] at this
  exact this
theorem apply_text {T : List ByteArray} {hs : List HunkM} {fz : Nat} {a : Option Addr} {cap : Nat} {m : Int} {w : World} (h : Plain T) (h1 : T.length ≤ 200) (h2 : (textL T).length ≤ 8000) (hf : fz ≤ 10)
    (hH : HunksAt w.heap.size w (.slice a hs.length cap) hs) (hr : rightM 0 0 hs = true) (hl : hs.length ≤ 1000) (hh : hs.all hunkOkB = true) (hm : w.cell? ⟨0, 0, none⟩ = some (.int .i64 m)) (hm0 : 0 < w.heap.size) :
    Calls Tryz.prog 14 #[.string (textB T), .agg #[.slice a hs.length cap], .int .i64 fz] w fun e w' =>
      ∃ a' c', e = .returned (.tuple #[.string (applyT T fz hs), .slice a' hs.length c', .int .i64 0]) ∧ SeamsAt w' (.slice a' hs.length c') (applyS T fz hs) ∧ Below w.heap.size w w' := by
  have e1 : (textB T).size = (textL T).length := rfl
  rw [List.all_eq_true] at hh
  have := apply_at (isTextB_text T) (largeB_text h h1 h2) hf hH hr hl (by omega) hm hm0 (fun x hx => hunkOk_of (hh x hx)) (by rw [linesB_text h]; omega) (by rw [linesB_text h]; omega)
  rw [linesB_text h] at this
  exact this

/-! ### fuzz beyond the keeps at the ends changes nothing -/
theorem sewM_rounds {T : List ByteArray} {s : SewS} {h : HunkM} {f g : Nat} (e : sewRounds h f = sewRounds h g) : sewM T s h f = sewM T s h g := by
  unfold sewM sewFind
  rw [e]
theorem applyFrom_rounds {T : List ByteArray} {f g : Nat} : ∀ (hs : List HunkM) (s : SewS), (∀ h ∈ hs, sewRounds h f = sewRounds h g) → applyFrom T f s hs = applyFrom T g s hs
  | [], _, _ => rfl
  | h :: hs, s, e => by
    unfold applyFrom
    simp only
    rw [sewM_rounds (e h (by simp)), applyFrom_rounds hs _ (fun x hx => e x (List.mem_cons_of_mem _ hx))]
theorem apply_rounds {T : List ByteArray} {f g : Nat} {hs : List HunkM} (e : ∀ h ∈ hs, sewRounds h f = sewRounds h g) : applyT T f hs = applyT T g hs ∧ applyS T f hs = applyS T g hs := by
  unfold applyT applyS applyK
  rw [List.take_length, applyFrom_rounds hs _ e]
  exact ⟨rfl, rfl⟩

/-! ### the lines of Left and Apart -/
def lineB (i : Nat) : ByteArray := ⟨#[108, 105, 110, 101, 32, UInt8.ofNat (97 + i / 10), UInt8.ofNat (48 + i % 10)]⟩
def lineOk (i : Nat) : Bool := !(lineB i).data.toList.contains 10
def lineNe (i : Nat) : Bool := (List.range 60).all fun j => decide (i = j) || decide (lineB i ≠ lineB j)
theorem lines_ok : (List.range 60).all lineOk = true := by kernel_rfl
theorem lines_ne : (List.range 60).all lineNe = true := by kernel_rfl
theorem lineB_ok {i : Nat} (h : i < 60) : (10 : UInt8) ∉ (lineB i).data.toList := by
  have h1 := (List.all_eq_true.1 lines_ok) i (List.mem_range.2 h)
  unfold lineOk at h1
  simpa using h1
theorem lineB_inj {i j : Nat} (hi : i < 60) (hj : j < 60) (e : lineB i = lineB j) : i = j := by
  have h1 := (List.all_eq_true.1 lines_ne) i (List.mem_range.2 hi)
  unfold lineNe at h1
  have h2 := (List.all_eq_true.1 h1) j (List.mem_range.2 hj)
  simp only [Bool.or_eq_true, decide_eq_true_eq] at h2
  rcases h2 with h2 | h2
  · exact h2
  · exact absurd e h2
def xL (n : Nat) : List ByteArray := (List.range n).map lineB
theorem xL_length (n : Nat) : (xL n).length = n := by simp [xL]
theorem xL_succ (n : Nat) : xL (n + 1) = xL n ++ [lineB n] := by unfold xL; rw [List.range_succ, List.map_append]; rfl
theorem xL_plain {n : Nat} (h : n ≤ 60) : Plain (xL n) := by
  intro s hs
  obtain ⟨i, hi, rfl⟩ := List.mem_map.1 hs
  exact lineB_ok (by have := List.mem_range.1 hi; omega)
theorem textL_bound (L : List ByteArray) (k : Nat) (h : ∀ s ∈ L, s.size ≤ k) : (textL L).length ≤ L.length * (k + 1) := by
  induction L with
  | nil => simp [textL]
  | cons x l ih =>
    have e : textL (x :: l) = (x.data.toList ++ [10]) ++ textL l := rfl
    have h1 := ih (fun s hs => h s (List.mem_cons_of_mem _ hs))
    have h2 : x.data.toList.length = x.size := rfl
    have h3 := h x (by simp)
    rw [e]
    simp only [List.length_append, List.length_cons, List.length_nil, Nat.add_mul]
    omega
end Go.Proofs.YtcclgodahlinbaaGreatDoor

namespace Go.Proofs.YtcclgodahlinbaaGreatDoor
open Go.RowKit Go
set_option maxRecDepth 100000

theorem kindAll_old {M : List StepB} {kd : Nat} (h : ∀ s ∈ M, s.kind = kd) : Dn.oldOf M = if kd = 43 then [] else M.map (·.text) := by
  unfold Dn.oldOf
  by_cases e : kd = 43
  · rw [if_pos e, List.filter_eq_nil_iff.2 (fun s hs => by simp [h s hs, e])]; rfl
  · rw [if_neg e, List.filter_eq_self.2 (fun s hs => by simp [h s hs, e])]
theorem kindAll_new {M : List StepB} {kd : Nat} (h : ∀ s ∈ M, s.kind = kd) : Dn.newOf M = if kd = 45 then [] else M.map (·.text) := by
  unfold Dn.newOf
  by_cases e : kd = 45
  · rw [if_pos e, List.filter_eq_nil_iff.2 (fun s hs => by simp [h s hs, e])]; rfl
  · rw [if_neg e, List.filter_eq_self.2 (fun s hs => by simp [h s hs, e])]
structure RunsOk (L R : List StepB) (b : Nat) : Prop where
  ne : ∀ r ∈ R, r.text.size ≠ 0
  kinds : ∀ r ∈ R, ∃ s ∈ L, r.kind = s.kind
  adj : ∀ i (h : i + 1 < R.length), R[i].kind ≠ R[i + 1].kind
  head : ∀ h : b < L.length, ∃ r t, R = r :: t ∧ r.kind = L[b].kind
  old : catL (Dn.oldOf R) = catL (Dn.oldOf (L.drop b))
  fresh : catL (Dn.newOf R) = catL (Dn.newOf (L.drop b))
  len : R.length ≤ L.length - b
theorem runsF_ok {L : List StepB} (ht : ∀ s ∈ L, s.text.size ≠ 0) : ∀ k b, L.length ≤ b + k → RunsOk L (runsF L k b) b := by
  intro k
  induction k with
  | zero =>
    intro b hb
    have e : L.drop b = [] := List.drop_eq_nil_of_le (by omega)
    exact ⟨by simp [runsF], by simp [runsF], by simp [runsF], fun h => by omega, by rw [e]; rfl, by rw [e]; rfl, by simp [runsF]⟩
  | succ k ih =>
    intro b hb
    unfold runsF
    by_cases h : b < L.length
    · rw [if_pos h]
      obtain ⟨p1, p2⟩ := runLen_pos h
      have hi := ih (b + runLen L b) (by omega)
      have hkd : (L.getD b ⟨0, ByteArray.empty⟩).kind = L[b].kind := by simp [List.getD, h]
      have hM : ∀ s ∈ (L.take (b + runLen L b)).drop b, s.kind = L[b].kind := by
        intro s hs
        obtain ⟨i, hi, rfl⟩ := List.getElem_of_mem hs
        rw [List.length_drop, List.length_take] at hi
        rw [List.getElem_drop, List.getElem_take, ← hkd]
        exact (runLen_in h (by omega)).2 (by omega)
      have hsp : L.drop b = (L.take (b + runLen L b)).drop b ++ L.drop (b + runLen L b) := by
        conv => lhs; rw [← List.take_append_drop (b + runLen L b) L]
        rw [List.drop_append_of_le_length (by rw [List.length_take]; omega)]
      have hrk : (runAt L b (b + runLen L b)).kind = L[b].kind := hkd
      have hrt : (runAt L b (b + runLen L b)).text.data.toList = catL (((L.take (b + runLen L b)).drop b).map (·.text)) := by unfold runAt; simp
      have hr1 : ∀ s ∈ [runAt L b (b + runLen L b)], s.kind = L[b].kind := by intro s hs; rw [List.mem_singleton] at hs; rw [hs]; exact hrk
      have hcons : runAt L b (b + runLen L b) :: runsF L k (b + runLen L b) = [runAt L b (b + runLen L b)] ++ runsF L k (b + runLen L b) := rfl
      refine ⟨?_, ?_, ?_, ?_, ?_, ?_, ?_⟩
      · intro r hr
        rcases List.mem_cons.1 hr with rfl | hr
        · have e : (runAt L b (b + runLen L b)).text.size = (catL (((L.take (b + runLen L b)).drop b).map (·.text))).length := by rw [← hrt]; rfl
          rw [e]
          have e2 : (L.take (b + runLen L b)).drop b = L[b] :: ((L.take (b + runLen L b)).drop (b + 1)) := by
            rw [List.drop_eq_getElem_cons (by rw [List.length_take]; omega), List.getElem_take]
          rw [e2]
          have e3 : catL ((L[b] :: (L.take (b + runLen L b)).drop (b + 1)).map (·.text)) = L[b].text.data.toList ++ catL (((L.take (b + runLen L b)).drop (b + 1)).map (·.text)) := rfl
          rw [e3, List.length_append]
          have := ht L[b] (List.getElem_mem _)
          have e4 : L[b].text.data.toList.length = L[b].text.size := rfl
          omega
        · exact hi.ne r hr
      · intro r hr
        rcases List.mem_cons.1 hr with rfl | hr
        · exact ⟨L[b], List.getElem_mem _, hrk⟩
        · exact hi.kinds r hr
      · intro i hl
        cases i with
        | zero =>
          simp only [List.length_cons] at hl
          have hne : b + runLen L b < L.length := by
            by_cases hx : b + runLen L b < L.length
            · exact hx
            · have := hi.len; omega
          obtain ⟨r, t, e, hk⟩ := hi.head hne
          simp only [e, List.getElem_cons_zero, List.getElem_cons_succ, hrk, hk]
          intro hx
          have := runLen_end h hne
          rw [hkd] at this
          exact this hx.symm
        | succ i =>
          simp only [List.getElem_cons_succ]
          exact hi.adj i (by simpa using hl)
      · intro _; exact ⟨_, _, rfl, hrk⟩
      · rw [hcons, Dn.oldOf_append, catL_append, hi.old, hsp, Dn.oldOf_append, catL_append, kindAll_old hM, kindAll_old hr1]
        split
        · rfl
        · rw [List.map_singleton, catL_one, hrt]
      · rw [hcons, Dn.newOf_append, catL_append, hi.fresh, hsp, Dn.newOf_append, catL_append, kindAll_new hM, kindAll_new hr1]
        split
        · rfl
        · rw [List.map_singleton, catL_one, hrt]
      · have := hi.len
        simp only [List.length_cons]
        omega
    · rw [if_neg h]
      have e : L.drop b = [] := List.drop_eq_nil_of_le (by omega)
      exact ⟨by simp, by simp, by simp, fun h' => by omega, by rw [e], by rw [e], by simp⟩

/-- what Lettered asks of the runs between two lines -/
structure LetOk (a b : ByteArray) (R : List StepB) : Prop where
  ne : ∀ r ∈ R, r.text.size ≠ 0
  kinds : ∀ r ∈ R, r.kind = 32 ∨ r.kind = 45 ∨ r.kind = 43
  adj : ∀ i (h : i + 1 < R.length), R[i].kind ≠ R[i + 1].kind
  old : catL (Dn.oldOf R) = a.data.toList
  fresh : catL (Dn.newOf R) = b.data.toList
  len : R.length ≤ a.size + b.size
theorem inline_let (a b : ByteArray) : LetOk a b (inlineM a b) := by
  obtain ⟨h1, h2, h3⟩ := Dn.wayM_way (lettersB a) (lettersB b)
  have hl := way_len (lettersB a) (lettersB b)
  have ok := runsF_ok (L := Dn.wayM (lettersB a) (lettersB b)) (by
    intro s hs
    rcases way_text hs with h | h
    · exact (letters_ok a).2.1 _ h
    · exact (letters_ok b).2.1 _ h) (Dn.wayM (lettersB a) (lettersB b)).length 0 (by omega)
  have l1 := (letters_ok a).2.2
  have l2 := (letters_ok b).2.2
  refine ⟨ok.ne, fun r hr => ?_, ok.adj, ?_, ?_, ?_⟩
  · obtain ⟨s, hs, e⟩ := ok.kinds r hr
    rw [e]
    exact h3 s hs
  · have := ok.old
    rw [List.drop_zero, h1, (letters_ok a).1] at this
    exact this
  · have := ok.fresh
    rw [List.drop_zero, h2, (letters_ok b).1] at this
    exact this
  · have := ok.len
    unfold inlineM runsM
    omega
theorem inline_same (a : ByteArray) : inlineM a a = if a.size = 0 then [] else [⟨32, a⟩] := by
  have ok := inline_let a a
  have hk : ∀ r ∈ inlineM a a, r.kind = 32 := by
    intro r hr
    have ok2 := runsF_ok (L := Dn.wayM (lettersB a) (lettersB a)) (by
      intro s hs
      rcases way_text hs with h | h
      · exact (letters_ok a).2.1 _ h
      · exact (letters_ok a).2.1 _ h) (Dn.wayM (lettersB a) (lettersB a)).length 0 (by omega)
    obtain ⟨s, hs, e⟩ := ok2.kinds r hr
    rw [Dn.wayM_spec, spec_self] at hs
    obtain ⟨x, _, rfl⟩ := List.mem_map.1 hs
    exact e
  generalize inlineM a a = R at *
  have hs : a.data.toList.length = a.size := rfl
  match R, ok, hk with
  | [], ok, _ =>
    have h0 : a.size = 0 := by rw [← hs, ← ok.old]; rfl
    rw [if_pos h0]
  | [r], ok, hk =>
    have h1 := hk r (by simp)
    have h2 := ok.old
    rw [kindAll_old (kd := 32) (by intro s hs; exact hk s hs), if_neg (by decide)] at h2
    rw [List.map_singleton, catL_one] at h2
    have h3 : r.text = a := by
      apply ByteArray.ext
      exact Array.toList_inj.1 h2
    have h4 := ok.ne r (by simp)
    rw [h3] at h4
    rw [if_neg h4]
    obtain ⟨k, t⟩ := r
    simp only at h1 h3
    rw [h1, h3]
  | r :: q :: t, ok, hk =>
    exfalso
    have h1 := hk r (by simp)
    have h2 := hk q (by simp)
    exact ok.adj 0 (by simp) (by simp [h1, h2])
def neA : ByteArray := ⟨#[110, 195, 169]⟩
def neB : ByteArray := ⟨#[110, 195, 168]⟩
theorem ne_check : checkI neA neB = 0 := by kernel_rfl
theorem ne_runs : inlineM neA neB = [⟨32, ⟨#[110]⟩⟩, ⟨45, ⟨#[195, 169]⟩⟩, ⟨43, ⟨#[195, 168]⟩⟩] := by kernel_rfl
end Go.Proofs.YtcclgodahlinbaaGreatDoor

namespace Go.Proofs.YtcclgodahlinbaaGreatDoor
open Go.RowKit Go
set_option maxRecDepth 100000

def inl (a b : ByteArray) : List StepB := if checkI a b = 0 then inlineM a b else []
theorem inline_any (a b : ByteArray) (w : World) :
    Calls Tryz.prog 83 #[.string a, .string b] w fun e w' => ∃ al cl, e = .returned (.tuple #[.slice al (inl a b).length cl, .int .i64 (checkI a b : Nat)]) ∧ w'.ownsRow w.heap.size 101 2 (.slice al (inl a b).length cl) (inl a b).length (stepCells (inl a b)) ∧ Below w.heap.size w w' := by
  unfold inl
  by_cases h : checkI a b = 0
  · rw [if_pos h, h]
    exact inline_ok w h
  · rw [if_neg h]
    refine (inline_no w rfl h).mono ?_
    rintro e w' ⟨rfl, rfl⟩
    exact ⟨none, 0, rfl, World.ownsRow_nil _ _ _ _, Below.refl _ _⟩
def nlB (s : ByteArray) (i : Nat) : Bool := (s.data.toList.take i).contains 10
theorem index_has : ∀ l : List UInt8, decide (0 ≤ Lib.indexByte l 10) = l.contains 10
  | [] => by simp [Lib.indexByte]
  | b :: l => by
    have ih := index_has l
    have hg := Lib.indexByte_ge l 10
    rw [Lib.indexByte]
    by_cases hb : b = 10
    · subst hb; simp
    · have hb' : (b == 10) = false := by simpa using hb
      rw [hb', List.contains_cons]
      have : ((10 : UInt8) == b) = false := by simp; exact fun e => hb e.symm
      rw [this, Bool.false_or, ← ih]
      by_cases hm : Lib.indexByte l 10 = -1
      · simp [hm]
      · have h0 : 0 ≤ Lib.indexByte l 10 := by omega
        simp [hm, h0]
        omega
theorem hasNl_eq (s : ByteArray) : hasNl s = nlB s s.size := by
  unfold hasNl nlB
  rw [index_has, List.take_of_length_le (show s.data.toList.length ≤ s.size from Nat.le_refl _)]
theorem nlB_succ (s : ByteArray) (i : Nat) (h : i < s.size) : nlB s (i + 1) = (nlB s i || decide (s.data[i]'h = 10)) := by
  unfold nlB
  have h' : i < s.data.toList.length := h
  rw [List.take_succ_eq_append_getElem h', List.contains_append]
  congr 1
  simp [Array.getElem_toList]
  exact ⟨fun e => e.symm, fun e => e.symm⟩

theorem isEmpty_size (s : ByteArray) : s.toList.isEmpty = decide (s.size = 0) := by
  obtain ⟨⟨l⟩⟩ := s
  cases l <;> simp [ByteArray.size]
theorem byte_ten (x : UInt8) : (((x.toNat : Nat) : Int) == 10) = decide (x = 10) := by
  by_cases h : x = 10
  · subst h; rfl
  · have h1 : x.toNat ≠ 10 := by
      intro e
      apply h
      exact UInt8.toNat_inj.1 (by rw [e]; rfl)
    simp [h]
    omega
theorem nlB_next (s : ByteArray) (i : Nat) (h : i < s.size) : nlB s (i + 1) = (nlB s i || (((s[i]'h).toNat : Nat) : Int) == 10) := by
  rw [nlB_succ s i h, byte_ten]
  rfl
theorem bytes_app (l : List UInt8) (t : ByteArray) : (⟨l.toArray⟩ : ByteArray) ++ t = ⟨(l ++ t.data.toList).toArray⟩ := by
  apply ByteArray.ext
  simp [ByteArray.data_append]
theorem owns_run {base n c : Nat} {w : World} {a : Option Addr} {R : List StepB} (h : w.ownsRow base 101 2 (.slice a n c) n (stepCells R)) {i : Nat} (hi : i < R.length) :
    ∃ g, a = some ⟨g, 0, none⟩ ∧ g < w.heap.size ∧ w.cell? ⟨g, i * 2, none⟩ = some (.int .u8 (R[i].kind : Nat)) ∧ w.cell? ⟨g, i * 2 + 1, none⟩ = some (.string R[i].text) := by
  have hl : (stepCells R).length = n * 2 := h.1
  rw [stepCells_length] at hl
  obtain ⟨g, cap, e, _, hg, _⟩ := owns_slice h (by omega)
  cases e
  obtain ⟨s0, s1⟩ := stepCells_get R i hi
  exact ⟨g, rfl, hg, (h.cellAt (i * 2) (by omega)).trans s0, (h.cellAt (i * 2 + 1) (by omega)).trans s1⟩

end Go.Proofs.YtcclgodahlinbaaGreatDoor

namespace Go.Proofs.YtcclgodahlinbaaGreatDoor
open Go.RowKit Go
set_option maxRecDepth 100000

/-- a text, cut at its newlines: the lines, and what is behind the last newline -/
def cutSt (r : List (List UInt8) × List UInt8) (c : UInt8) : List (List UInt8) × List UInt8 := if c = 10 then (r.1 ++ [r.2], []) else (r.1, r.2 ++ [c])
def cutL (l : List UInt8) : List (List UInt8) × List UInt8 := l.foldl cutSt ([], [])
def ofL (l : List UInt8) : ByteArray := ⟨l.toArray⟩
def refL (s : ByteArray) : List ByteArray := (cutL s.data.toList).1.map ofL
def refOk (s : ByteArray) : Bool := (cutL s.data.toList).2.isEmpty
theorem cutL_snoc (l : List UInt8) (c : UInt8) : cutL (l ++ [c]) = cutSt (cutL l) c := by
  unfold cutL; rw [List.foldl_append]; rfl
theorem snocInd {α : Type} {p : List α → Prop} (h0 : p []) (h1 : ∀ l a, p l → p (l ++ [a])) (l : List α) : p l := by
  have : ∀ r : List α, p r.reverse := by
    intro r
    induction r with
    | nil => exact h0
    | cons a r ih => rw [List.reverse_cons]; exact h1 _ _ ih
  simpa using this l.reverse
theorem cutL_ok (l : List UInt8) : (cutL l).1.flatMap (· ++ [10]) ++ (cutL l).2 = l ∧ (∀ a ∈ (cutL l).1, (10 : UInt8) ∉ a) ∧ (10 : UInt8) ∉ (cutL l).2 ∧ (cutL l).1.length = l.count 10 := by
  induction l using snocInd with
  | h0 => refine ⟨rfl, ?_, ?_, rfl⟩ <;> simp [cutL]
  | h1 l c ih =>
    obtain ⟨i1, i2, i3, i4⟩ := ih
    rw [cutL_snoc]
    unfold cutSt
    by_cases hc : c = 10
    · rw [if_pos hc]
      subst hc
      refine ⟨?_, ?_, by simp, ?_⟩
      · simp only [List.flatMap_append, List.flatMap_cons, List.flatMap_nil, List.append_nil]
        rw [← List.append_assoc, i1]
      · intro a ha
        rw [List.mem_append, List.mem_singleton] at ha
        rcases ha with ha | rfl
        · exact i2 a ha
        · exact i3
      · simp [i4]
    · rw [if_neg hc]
      refine ⟨by rw [← List.append_assoc, i1], i2, ?_, ?_⟩
      · rw [List.mem_append, List.mem_singleton]
        rintro (h | h)
        · exact i3 h
        · exact hc h.symm
      · rw [List.count_append, i4]
        have : List.count 10 [c] = 0 := by rw [List.count_eq_zero]; simp; exact fun e => hc e.symm
        omega
theorem textL_flat (L : List (List UInt8)) : textL (L.map ofL) = L.flatMap (· ++ [10]) := by
  induction L with
  | nil => rfl
  | cons a L ih =>
    rw [List.map_cons, List.flatMap_cons, ← ih]
    simp [textL, ofL]
theorem refL_plain (s : ByteArray) : Plain (refL s) := by
  intro t ht
  unfold refL at ht
  obtain ⟨a, ha, rfl⟩ := List.mem_map.1 ht
  exact (cutL_ok s.data.toList).2.1 a ha
theorem refOk_text {s : ByteArray} (h : refOk s = true) : s = textB (refL s) := by
  have h1 := (cutL_ok s.data.toList).1
  unfold refOk at h
  rw [List.isEmpty_iff.1 h, List.append_nil] at h1
  unfold textB refL
  rw [textL_flat, h1]
theorem refL_lines {s : ByteArray} (h : refOk s = true) : refL s = linesB s := by
  conv => rhs; rw [refOk_text h]
  exact (linesB_text (refL_plain s)).symm
theorem refL_length (s : ByteArray) : (refL s).length = s.data.toList.count 10 := by
  unfold refL; rw [List.length_map]; exact (cutL_ok _).2.2.2
theorem countByte_count : ∀ l : List UInt8, Lib.countByte l 10 = l.count 10 := fun l => by
  simp [Lib.countByte, List.count]
theorem refL_large (s : ByteArray) : (decide (8000 < s.size) || decide (200 < (refL s).length)) = largeB s := by
  unfold largeB; rw [refL_length, countByte_count]
theorem refOk_is (s : ByteArray) : refOk s = isTextB s := by
  by_cases h : refOk s = true
  · rw [h]
    conv => rhs; rw [refOk_text h]
    exact (isTextB_text _).symm
  · have hf : refOk s = false := by simpa using h
    rw [hf]
    obtain ⟨h1, _, h3, _⟩ := cutL_ok s.data.toList
    unfold refOk at hf
    have hne : (cutL s.data.toList).2 ≠ [] := by intro e; rw [e] at hf; cases hf
    symm
    unfold isTextB
    rw [Bool.or_eq_false_iff]
    constructor
    · rw [isEmpty_size]
      simp only [decide_eq_false_iff_not]
      intro e
      have hl : s.data.toList.length = 0 := e
      rw [← h1] at hl
      simp at hl
      exact hne hl.2
    · cases hq : Lib.hasSuffix s.data.toList [10] with
      | false => rfl
      | true =>
        exfalso
        have hlast : s.data.toList.getLast? = some 10 := by
          unfold Lib.hasSuffix at hq
          simp at hq
          obtain ⟨t, ht⟩ := hq
          rw [← ht]; simp
        rw [← h1, List.getLast?_append] at hlast
        obtain ⟨r, x, hrx⟩ : ∃ r x, (cutL s.data.toList).2 = r ++ [x] := by
          rcases List.eq_nil_or_concat (cutL s.data.toList).2 with h | ⟨r, x, h⟩
          · exact absurd h hne
          · exact ⟨r, x, by simpa using h⟩
        rw [hrx] at hlast h3
        simp at hlast
        apply h3
        rw [hlast]; simp
/-- what is told of the first i bytes: the lines acc, and the place behind their last newline -/
structure CutAt (s : ByteArray) (i f : Nat) (acc : List ByteArray) : Prop where
  lines : acc = (cutL (s.data.toList.take i)).1.map ofL
  rest : (s.data.toList.take i).drop f = (cutL (s.data.toList.take i)).2
  le : f ≤ i
  few : acc.length ≤ i
theorem CutAt.start (s : ByteArray) : CutAt s 0 0 [] := ⟨rfl, rfl, Nat.le_refl _, Nat.le_refl _⟩
theorem CutAt.nl {s : ByteArray} {i f : Nat} {acc : List ByteArray} (h : CutAt s i f acc) (hi : i < s.size) (hc : s[i]'hi = 10) : CutAt s (i + 1) (i + 1) (acc ++ [s.extract f i]) := by
  have hi' : i < s.data.toList.length := hi
  have hx : s.data.toList[i] = 10 := hc
  have e : cutL (s.data.toList.take (i + 1)) = cutSt (cutL (s.data.toList.take i)) 10 := by rw [List.take_succ_eq_append_getElem hi', cutL_snoc, hx]
  refine ⟨?_, ?_, Nat.le_refl _, by have := h.few; simp; omega⟩
  · rw [e]
    unfold cutSt
    rw [if_pos rfl]
    simp only [List.map_append, List.map_cons, List.map_nil]
    rw [← h.lines]
    congr 2
    apply ByteArray.ext
    apply Array.toList_inj.1
    rw [extract_list]
    show _ = (cutL (s.data.toList.take i)).2
    rw [← h.rest, List.drop_take]
  · rw [e]
    unfold cutSt
    rw [if_pos rfl]
    simp
theorem CutAt.no {s : ByteArray} {i f : Nat} {acc : List ByteArray} (h : CutAt s i f acc) (hi : i < s.size) (hc : s[i]'hi ≠ 10) : CutAt s (i + 1) f acc := by
  have hi' : i < s.data.toList.length := hi
  have hx : s.data.toList[i] ≠ 10 := hc
  have e : cutL (s.data.toList.take (i + 1)) = cutSt (cutL (s.data.toList.take i)) s.data.toList[i] := by rw [List.take_succ_eq_append_getElem hi', cutL_snoc]
  have hle := h.le
  refine ⟨?_, ?_, by omega, by have := h.few; omega⟩
  · rw [e]
    unfold cutSt
    rw [if_neg hx]
    exact h.lines
  · rw [e]
    unfold cutSt
    rw [if_neg hx, List.take_succ_eq_append_getElem hi', List.drop_append_of_le_length (by rw [List.length_take]; omega), h.rest]
theorem CutAt.done {s : ByteArray} {f : Nat} {acc : List ByteArray} (h : CutAt s s.size f acc) : acc = refL s ∧ decide (f = s.size) = refOk s := by
  have e : s.data.toList.take s.size = s.data.toList := List.take_of_length_le (Nat.le_refl _)
  have h1 := h.lines
  have h2 := h.rest
  have hl : s.data.toList.length = s.size := rfl
  have hle := h.le
  rw [e] at h1 h2
  refine ⟨h1, ?_⟩
  unfold refOk
  rw [← h2]
  by_cases hf : f = s.size
  · subst hf; rw [List.drop_eq_nil_of_le (Nat.le_refl s.size)]; simp
  · have : s.data.toList.drop f ≠ [] := by
      intro e2
      have := congrArg List.length e2
      rw [List.length_drop] at this
      simp at this
      omega
    cases hd : s.data.toList.drop f with
    | nil => exact absurd hd this
    | cons a l => simp [hf]
set_option maxHeartbeats 4000000 in
theorem refLines_any (s : ByteArray) (w : World) (hs : s.size ≤ 4000000000) :
    Calls Tryz.prog 37 #[.string s] w fun e w' => ∃ a c, e = .returned (.tuple #[.slice a (refL s).length c, .bool (refOk s)]) ∧ w'.ownsRow w.heap.size 9 1 (.slice a (refL s).length c) (refL s).length (strCells (refL s)) ∧ Below w.heap.size w w' := by
  obtain ⟨i0, hi, hz0, hz1, hz2⟩ := info_parts info_str
  go_enter Tryz.func37, Tryz.ntmps37
  go_wp2_with fail
  go_loopg [4, 5, 6] s.size (fun g v vf vi wr => ∃ (i f n : Nat) (acc : List ByteArray), g = s.size - i ∧ i ≤ s.size ∧ f ≤ i ∧ n ≤ i ∧ vf = .int .i64 f ∧ vi = .int .i64 i ∧ acc.length = n ∧ Hid (CutAt s i f acc) ∧ wr.ownsRow w.heap.size 9 1 v n (strCells acc) ∧ Below w.heap.size w wr)
  case atStart => exact ⟨0, 0, 0, [], by omega, by omega, by omega, by omega, rfl, rfl, rfl, CutAt.start s, World.ownsRow_nil _ _ _ _, Below.refl _ _⟩
  case round =>
    obtain ⟨i, f, n, acc, hgi, hil, hfi, hni, rfl, rfl, hlen, hcut, hown, hbw⟩ := hrel
    have hG : Hid (gk = s.size - i) := hgi
    clear hgi
    have hszr := hbw.size
    obtain ⟨al, cl, rfl⟩ := owns_isSlice hown
    have hon : ∀ t : ByteArray, ∀ u ∈ [Value.string t], u.oneCell' = true := by intro t u hu; simp at hu; subst hu; rfl
    by_cases hi2 : i < s.size
    · have hiI : (i : Int) < s.size := by omega
      have hfI : (f : Int) ≤ i := by omega
      have hiI2 : (i : Int) ≤ s.size := by omega
      by_cases hc : s[i]'hi2 = 10
      · have hq : ((((s[i]'hi2).toNat : Nat) : Int) == 10) = true := by rw [byte_ten]; simp [hc]
        have hcut2 : Hid (CutAt s (i + 1) (i + 1) (acc ++ [s.extract f i])) := hcut.out.nl hi2 hc
        clear hcut
        go_wp2_with (at_builtin; refine wpList_append_own2 rfl (.tmp 17) (.tmp 22) 27 rfl w.heap.size 9 i0 _ 1 16 Tryz.underlying27 hi hz0 hz1 hz2 rfl (by decide) (.slice al n cl) n (strCells acc) rfl (hown.alloc _) ⟨wr.heap.size, 0, none⟩ 1 1 [.string (s.extract f i)] rfl rfl (cells_new wr [.string (s.extract f i)] 9) (hon _) (by unfold maxLen; omega) (by omega) (by simp; omega) ?_; intro v' w3 hown3 hgr hnew; have hb3 := (hbw.alloc (by omega) _).grown hgr (by simp; omega) (fun j e => by have := (hown.lt j e).1; omega))
        go_roundg (s.size - (i + 1))
        · exact ⟨i + 1, i + 1, n + 1, acc ++ [s.extract f i], rfl, by omega, by omega, by omega, by push_cast; rfl, by push_cast; rfl, by simp [hlen], hcut2, by rw [strCells_append]; exact hown3, hb3⟩
        · have := hG.out; omega
      · have hq : ((((s[i]'hi2).toNat : Nat) : Int) == 10) = false := by rw [byte_ten]; simp [hc]
        have hcut2 : Hid (CutAt s (i + 1) f acc) := hcut.out.no hi2 hc
        clear hcut
        go_wp2_with fail
        go_roundg (s.size - (i + 1))
        · exact ⟨i + 1, f, n, acc, rfl, by omega, by omega, by omega, rfl, by push_cast; rfl, hlen, hcut2, hown, hbw⟩
        · have := hG.out; omega
    · obtain rfl : i = s.size := by omega
      obtain ⟨e1, e2⟩ := hcut.out.done
      have hiI : ¬ ((s.size : Int) < s.size) := by omega
      have he2 : Hid (decide (f = s.size) = refOk s) := e2
      have he1 : Hid (acc = refL s) := e1
      clear e1 e2 hcut
      have hfe : (((f : Nat) : Int) == (s.size : Int)) = decide (f = s.size) := by rw [Bool.eq_iff_iff]; simp; omega
      go_wp2_with fail
      go_ret2
      have e1 := he1.out
      have e2 := he2.out
      refine ⟨al, cl, ?_, ?_, hbw⟩
      · rw [← e1, ← e2, hlen]; rfl
      · rw [← e1, hlen]
        exact hown
set_option maxHeartbeats 2000000 in
theorem large_any (s : ByteArray) (w : World) (hs : s.size ≤ 4000000000) :
    Calls Tryz.prog 38 #[.string s] w fun e w' => e = .returned (.bool (largeB s)) ∧ Below w.heap.size w w' := by
  have hlm := refL_large s
  have hl : (refL s).length ≤ s.size := by rw [refL_length]; exact List.count_le_length
  go_enter Tryz.func38, Tryz.ntmps38
  go_wp2_with fail
  refine (refLines_any s w hs).mono ?_
  rintro e w1 ⟨a, c, rfl, ho, hb⟩
  generalize (refL s).length = n at *
  by_cases h1 : 8000 < s.size
  · have h1I : (8000 : Int) < s.size := by omega
    go_wp2_with fail
    go_ret
    exact ⟨by rw [← hlm]; simp [h1], hb⟩
  · have h1I : ¬ ((8000 : Int) < s.size) := by omega
    go_wp2_with fail
    go_ret
    refine ⟨?_, hb⟩
    rw [← hlm]
    have e1 : decide (8000 < s.size) = false := by simp [h1]
    have e2 : decide ((8000 : Int) < s.size) = false := by simp; omega
    have e3 : decide ((200 : Int) < n) = decide (200 < n) := by rw [Bool.eq_iff_iff]; simp; omega
    simp only [e1, e2, e3, Bool.false_or]
    simp
set_option maxHeartbeats 2000000 in
theorem lined_any (s : ByteArray) (w : World) (hs : s.size ≤ 4000000000) :
    Calls Tryz.prog 117 #[.string s] w fun e w' => e = .returned (.bool (hasNl s)) ∧ w = w' := by
  go_enter Tryz.func117, Tryz.ntmps117
  go_wp2_with fail
  go_loopg [3] s.size (fun g t wr => ∃ i : Nat, g = s.size - i ∧ i ≤ s.size ∧ t = .int .i64 i ∧ Hid (nlB s i = false) ∧ wr = w)
  case atStart => exact ⟨0, by omega, by omega, rfl, rfl, rfl⟩
  case round =>
    obtain ⟨i, hgi, hil, rfl, hn, rfl⟩ := hrel
    have hG : Hid (gk = s.size - i) := hgi
    clear hgi
    by_cases hi : i < s.size
    · have hiI : (i : Int) < s.size := by omega
      have hS : Hid (nlB s (i + 1) = (nlB s i || (((s[i]'hi).toNat : Nat) : Int) == 10)) := nlB_next s i hi
      cases hq : ((((s[i]'hi).toNat : Nat) : Int) == 10) with
      | true =>
        have hY : Hid (hasNl s = true) := by
          show _ = _
          rw [hasNl_eq]
          have h1 : nlB s (i + 1) = true := by rw [hS.out, hq]; simp
          unfold nlB at h1 ⊢
          rw [List.contains_iff_mem] at h1 ⊢
          rw [List.take_of_length_le (show s.data.toList.length ≤ s.size from Nat.le_refl _)]
          exact List.mem_of_mem_take h1
        go_wp2_with fail
        go_ret
        exact ⟨by rw [hY.out]; rfl, rfl⟩
      | false =>
        have hN : Hid (nlB s (i + 1) = false) := by
          show _ = _
          rw [hS.out, hn.out, hq]; rfl
        go_wp2_with fail
        go_roundg (s.size - (i + 1))
        · exact ⟨i + 1, rfl, by omega, by push_cast; rfl, hN, rfl⟩
        · have := hG.out; omega
    · obtain rfl : i = s.size := by omega
      have hiI : ¬ ((s.size : Int) < s.size) := by omega
      have hN : Hid (hasNl s = false) := by show _ = _; rw [hasNl_eq]; exact hn.out
      go_wp2_with fail
      go_ret
      exact ⟨by rw [hN.out]; rfl, rfl⟩
end Go.Proofs.YtcclgodahlinbaaGreatDoor

namespace Go.Proofs.YtcclgodahlinbaaGreatDoor
open Go.RowKit Go
set_option maxRecDepth 100000

/-- how few drops and adds are left from two places on -/
def Dd (o f : List ByteArray) (i j : Nat) : Nat := Dn.dist (o.drop i) (f.drop j)
theorem Dd_low (o f : List ByteArray) (j : Nat) : Dd o f o.length j = f.length - j := by
  unfold Dd; rw [List.drop_length, Dn.dist_nil_l, List.length_drop]
theorem Dd_right (o f : List ByteArray) (i : Nat) : Dd o f i f.length = o.length - i := by
  unfold Dd; rw [List.drop_length, Dn.dist_nil_r, List.length_drop]
theorem Dd_same {o f : List ByteArray} {i j : Nat} (hi : i < o.length) (hj : j < f.length) (h : o[i] = f[j]) : Dd o f i j = Dd o f (i + 1) (j + 1) := by
  unfold Dd; rw [List.drop_eq_getElem_cons hi, List.drop_eq_getElem_cons hj, h, Dn.dist_same]
theorem Dd_ne {o f : List ByteArray} {i j : Nat} (hi : i < o.length) (hj : j < f.length) (h : ¬ o[i] = f[j]) : Dd o f i j = 1 + min (Dd o f (i + 1) j) (Dd o f i (j + 1)) := by
  unfold Dd
  rw [List.drop_eq_getElem_cons hi, List.drop_eq_getElem_cons hj, Dn.dist_ne h]
theorem Dd_le (o f : List ByteArray) (i j : Nat) : Dd o f i j ≤ o.length + f.length := by
  unfold Dd
  have : ∀ l r : List ByteArray, Dn.dist l r ≤ l.length + r.length := by
    intro l
    induction l with
    | nil => intro r; rw [Dn.dist_nil_l]; simp
    | cons a l ih => intro r; have := Dn.dist_l1 a l r; have := ih r; simp; omega
  have h := this (o.drop i) (f.drop j)
  rw [List.length_drop, List.length_drop] at h
  omega
theorem specW_keep (o f : List ByteArray) {i j : Nat} (hi : i < o.length) (hj : j < f.length) (h : o[i] = f[j]) : Dn.spec (o.drop i) (f.drop j) = ⟨32, o[i]⟩ :: Dn.spec (o.drop (i + 1)) (f.drop (j + 1)) := by
  rw [List.drop_eq_getElem_cons hi, List.drop_eq_getElem_cons hj, Dn.spec_cc, if_pos h]
theorem specW_drop (o f : List ByteArray) {i j : Nat} (hi : i < o.length) (hj : j ≤ f.length) (h : ∀ hj : j < f.length, ¬ o[i] = f[j]) (hd : Dd o f (i + 1) j + 1 = Dd o f i j) : Dn.spec (o.drop i) (f.drop j) = ⟨45, o[i]⟩ :: Dn.spec (o.drop (i + 1)) (f.drop j) := by
  by_cases hj2 : j < f.length
  · have hne := h hj2
    have hD := Dd_ne hi hj2 hne
    unfold Dd at hd hD
    rw [List.drop_eq_getElem_cons hi, List.drop_eq_getElem_cons hj2] at hd hD ⊢
    rw [Dn.spec_cc, if_neg hne, if_pos (by omega)]
  · obtain rfl : j = f.length := by omega
    rw [List.drop_length, List.drop_eq_getElem_cons hi, Dn.spec_cn]
theorem specW_add (o f : List ByteArray) {i j : Nat} (hi : i ≤ o.length) (hj : j < f.length) (h : ∀ hi : i < o.length, ¬ o[i] = f[j] ∧ ¬ Dd o f (i + 1) j + 1 = Dd o f i j) : Dn.spec (o.drop i) (f.drop j) = ⟨43, f[j]⟩ :: Dn.spec (o.drop i) (f.drop (j + 1)) := by
  by_cases hi2 : i < o.length
  · obtain ⟨hne, hd⟩ := h hi2
    have hD := Dd_ne hi2 hj hne
    unfold Dd at hd hD
    rw [List.drop_eq_getElem_cons hi2, List.drop_eq_getElem_cons hj] at hd hD ⊢
    rw [Dn.spec_cc, if_neg hne, if_neg (by omega)]
  · obtain rfl : i = o.length := by omega
    rw [List.drop_length, List.drop_eq_getElem_cons hj, Dn.spec_nc]
/-- a row of the table, as far as it is filled from its end; the table -/
def rowC (D : Nat → Nat) (m q : Nat) : List Value := (List.range (m + 1)).map fun j => .int .i64 (((if q ≤ j then D j else 0) : Nat) : Int)
def tabC (B n m p : Nat) : List Value := (List.range (n + 1)).map fun k => if p ≤ k then .slice (some ⟨B + 1 + (n - k), 0, none⟩) (m + 1) (m + 1) else .slice none 0 0
theorem rowC_at {D : Nat → Nat} {m q j : Nat} (h1 : q ≤ j) (h2 : j ≤ m) : (rowC D m q).toArray[j]? = some (.int .i64 (D j : Int)) := by
  have : j < m + 1 := by omega
  simp [rowC, this, h1]
theorem rowC_any {D : Nat → Nat} {m q j : Nat} (h2 : j ≤ m) : (rowC D m q).toArray[j]? = some (.int .i64 (((if q ≤ j then D j else 0) : Nat) : Int)) := by
  have : j < m + 1 := by omega
  simp [rowC, this]
theorem tabC_at {B n m p k : Nat} (h1 : p ≤ k) (h2 : k ≤ n) : (tabC B n m p).toArray[k]? = some (.slice (some ⟨B + 1 + (n - k), 0, none⟩) (m + 1) (m + 1)) := by
  have : k < n + 1 := by omega
  simp [tabC, this, h1]
theorem tabC_any {B n m p k : Nat} (h2 : k ≤ n) : ∃ v, (tabC B n m p).toArray[k]? = some v ∧ ∃ a x y, v = .slice a x y := by
  have : k < n + 1 := by omega
  refine ⟨_, by simp [tabC, this]; rfl, ?_⟩
  split
  · exact ⟨_, _, _, rfl⟩
  · exact ⟨_, _, _, rfl⟩
theorem rowC_set {D : Nat → Nat} {m q : Nat} (_h : q ≤ m) : (rowC D m (q + 1)).toArray.setIfInBounds q (.int .i64 (D q : Int)) = (rowC D m q).toArray := by
  apply Array.ext'
  apply List.ext_getElem
  · simp [rowC]
  · intro i h1 h2
    simp [rowC] at h1
    simp [rowC, List.getElem_set]
    by_cases e : q = i
    · subst e; simp
    · have e1 : (q + 1 ≤ i) ↔ (q ≤ i) := by omega
      simp [e, e1]
theorem tabC_set {B n m p : Nat} (_h : p ≤ n) : (tabC B n m (p + 1)).toArray.setIfInBounds p (.slice (some ⟨B + 1 + (n - p), 0, none⟩) (m + 1) (m + 1)) = (tabC B n m p).toArray := by
  apply Array.ext'
  apply List.ext_getElem
  · simp [tabC]
  · intro i h1 h2
    simp [tabC] at h1
    simp [tabC, List.getElem_set]
    by_cases e : p = i
    · subst e; simp
    · have e1 : (p + 1 ≤ i) ↔ (p ≤ i) := by omega
      simp [e, e1]
theorem rowC_new (D : Nat → Nat) (m : Nat) : madeCells #[.int .i64 0] (m + 1) = (rowC D m (m + 1)).toArray := by
  rw [madeCells_one]
  apply Array.ext'
  apply List.ext_getElem
  · simp [rowC]
  · intro i h1 h2
    simp at h1
    have : ¬ m + 1 ≤ i := by omega
    simp [rowC, this]
theorem tabC_new (B n m : Nat) : madeCells #[.slice none 0 0] (n + 1) = (tabC B n m (n + 1)).toArray := by
  rw [madeCells_one]
  apply Array.ext'
  apply List.ext_getElem
  · simp [tabC]
  · intro i h1 h2
    simp at h1
    have : ¬ n + 1 ≤ i := by omega
    simp [tabC, this]
structure Tab (o f : List ByteArray) (B p : Nat) (w : World) : Prop where
  size : w.heap.size = B + 1 + (o.length + 1 - p)
  tab : w.heap[B]? = some (.cells (tabC B o.length f.length p).toArray 25 (0, 0))
  rows : ∀ k, p ≤ k → k ≤ o.length → w.heap[B + 1 + (o.length - k)]? = some (.cells (rowC (Dd o f k) f.length 0).toArray 3 (0, 0))
structure TabI (o f : List ByteArray) (B i q : Nat) (w : World) : Prop where
  size : w.heap.size = B + 1 + (o.length + 1 - i)
  tab : w.heap[B]? = some (.cells (tabC B o.length f.length i).toArray 25 (0, 0))
  rows : ∀ k, i < k → k ≤ o.length → w.heap[B + 1 + (o.length - k)]? = some (.cells (rowC (Dd o f k) f.length 0).toArray 3 (0, 0))
  row : w.heap[B + 1 + (o.length - i)]? = some (.cells (rowC (Dd o f i) f.length q).toArray 3 (0, 0))
theorem TabI.done {o f : List ByteArray} {B i : Nat} {w : World} (h : TabI o f B i 0 w) : Tab o f B i w :=
  ⟨h.size, h.tab, fun k h1 h2 => by
    by_cases e : i = k
    · subst e; exact h.row
    · exact h.rows k (by omega) h2⟩
theorem TabI.link {o f : List ByteArray} {B i q k : Nat} {w : World} (h : TabI o f B i q w) (h1 : i ≤ k) (h2 : k ≤ o.length) : w.cell? ⟨B, k, none⟩ = some (.slice (some ⟨B + 1 + (o.length - k), 0, none⟩) (f.length + 1) (f.length + 1)) :=
  cell_of h.tab (tabC_at h1 h2)
theorem TabI.full {o f : List ByteArray} {B i q k j : Nat} {w : World} (h : TabI o f B i q w) (h1 : i < k) (h2 : k ≤ o.length) (hj : j ≤ f.length) : w.cell? ⟨B + 1 + (o.length - k), j, none⟩ = some (.int .i64 (Dd o f k j : Int)) :=
  cell_of (h.rows k h1 h2) (rowC_at (Nat.zero_le _) hj)
theorem TabI.own {o f : List ByteArray} {B i q j : Nat} {w : World} (h : TabI o f B i q w) (h1 : q ≤ j) (hj : j ≤ f.length) : w.cell? ⟨B + 1 + (o.length - i), j, none⟩ = some (.int .i64 (Dd o f i j : Int)) :=
  cell_of h.row (rowC_at h1 hj)
theorem TabI.there {o f : List ByteArray} {B i q j : Nat} {w : World} (h : TabI o f B i q w) (hj : j ≤ f.length) : ∃ z : Int, w.cell? ⟨B + 1 + (o.length - i), j, none⟩ = some (.int .i64 z) :=
  ⟨_, cell_of h.row (rowC_any hj)⟩
theorem TabI.warm {o f : List ByteArray} {B i q : Nat} {w : World} (h : TabI o f B i q w) (j : Nat) : w.frozen? ⟨B + 1 + (o.length - i), j, none⟩ = false := frozen_of h.row
theorem TabI.put {o f : List ByteArray} {B i q : Nat} {w : World} (h : TabI o f B i (q + 1) w) (hq : q ≤ f.length) (hi : i ≤ o.length) {z : Int} (hz : z = (Dd o f i q : Int)) : TabI o f B i q (w.setCell ⟨B + 1 + (o.length - i), q, none⟩ (.int .i64 z)) := by
  subst hz
  refine ⟨by rw [World.size_setCell]; exact h.size, ?_, fun k h1 h2 => ?_, ?_⟩
  · rw [heap_setCell_other _ _ _ _ _ (by omega)]; exact h.tab
  · rw [heap_setCell_other _ _ _ _ _ (by omega)]; exact h.rows k h1 h2
  · rw [heap_setCell_same _ _ _ _ _ _ _ h.row, rowC_set hq]
theorem Tab.row {o f : List ByteArray} {B p : Nat} {w : World} (h : Tab o f B (p + 1) w) (hp : p ≤ o.length) :
    TabI o f B p (f.length + 1) ((w.alloc (.cells (madeCells #[.int .i64 0] (f.length + 1)) 3)).setCell ⟨B, p, none⟩ (.slice (some ⟨w.heap.size, 0, none⟩) (f.length + 1) (f.length + 1))) := by
  have hs := h.size
  have e : w.heap.size = B + 1 + (o.length - p) := by omega
  refine ⟨by rw [World.size_setCell, World.size_alloc]; omega, ?_, fun k h1 h2 => ?_, ?_⟩
  · rw [heap_setCell_same _ _ _ _ _ _ _ ((Below.heap_alloc w _ B (by omega)).trans h.tab), e, tabC_set hp]
  · rw [heap_setCell_other _ _ _ _ _ (by omega), Below.heap_alloc w _ _ (by omega)]; exact h.rows k (by omega) h2
  · rw [heap_setCell_other _ _ _ _ _ (by omega), ← e, heap_alloc_new, rowC_new (Dd o f p)]
theorem Tab.link {o f : List ByteArray} {B p k : Nat} {w : World} (h : Tab o f B p w) (h2 : k ≤ o.length) : ∃ a x y, w.cell? ⟨B, k, none⟩ = some (.slice a x y) := by
  obtain ⟨v, hv, a, x, y, rfl⟩ := tabC_any (B := B) (m := f.length) (p := p) h2
  exact ⟨a, x, y, cell_of h.tab hv⟩
theorem Tab.warm {o f : List ByteArray} {B p : Nat} {w : World} (h : Tab o f B p w) (j : Nat) : w.frozen? ⟨B, j, none⟩ = false := frozen_of h.tab
/-- the whole table, in a later world -/
theorem Tab.cells {o f : List ByteArray} {B i j : Nat} {w w' : World} (h : Tab o f B 0 w) (hb : Below w.heap.size w w') (hi : i ≤ o.length) (hj : j ≤ f.length) :
    w'.cell? ⟨B, i, none⟩ = some (.slice (some ⟨B + 1 + (o.length - i), 0, none⟩) (f.length + 1) (f.length + 1)) ∧ w'.cell? ⟨B + 1 + (o.length - i), j, none⟩ = some (.int .i64 (Dd o f i j : Int)) := by
  have hs := h.size
  refine ⟨?_, ?_⟩
  · exact (hb.cell (p := ⟨B, i, none⟩) (by show B < _; omega)).trans (cell_of h.tab (tabC_at (Nat.zero_le _) hi))
  · exact (hb.cell (p := ⟨B + 1 + (o.length - i), j, none⟩) (by show B + 1 + (o.length - i) < _; omega)).trans (cell_of (h.rows i (Nat.zero_le _) hi) (rowC_at (Nat.zero_le _) hj))
end Go.Proofs.YtcclgodahlinbaaGreatDoor

namespace Go.Proofs.YtcclgodahlinbaaGreatDoor
open Go.RowKit Go
set_option maxRecDepth 100000

/-- lines turned round: adds wait for the next keep -/
def revStep (r : List StepB × List StepB) (s : StepB) : List StepB × List StepB :=
  if s.kind = 45 then (r.1, r.2 ++ [⟨43, s.text⟩]) else if s.kind = 43 then (r.1 ++ [⟨45, s.text⟩], r.2) else (r.1 ++ r.2 ++ [⟨32, s.text⟩], [])
def revF (L : List StepB) : List StepB × List StepB := L.foldl revStep ([], [])
def revL (L : List StepB) : List StepB := (revF L).1 ++ (revF L).2
theorem revF_take {L : List StepB} {k : Nat} (h : k < L.length) : revF (L.take (k + 1)) = revStep (revF (L.take k)) L[k] := by
  unfold revF
  rw [List.take_succ_eq_append_getElem h, List.foldl_append]
  rfl
theorem revF_len : ∀ (L : List StepB), (revF L).1.length + (revF L).2.length = L.length := by
  intro L
  have key : ∀ (L : List StepB) (r : List StepB × List StepB), (L.foldl revStep r).1.length + (L.foldl revStep r).2.length = r.1.length + r.2.length + L.length := by
    intro L
    induction L with
    | nil => intro r; simp
    | cons s L ih =>
      intro r
      rw [List.foldl_cons, ih]
      unfold revStep
      split
      · simp; omega
      · split
        · simp; omega
        · simp; omega
  have := key L ([], [])
  simpa [revF] using this
theorem step_one (l : List StepB) : ∀ u ∈ stepCells l, u.oneCell' = true := by
  induction l with
  | nil => simp [stepCells]
  | cons s l ih =>
    intro u hu
    have e : stepCells (s :: l) = .int .u8 (s.kind : Nat) :: .string s.text :: stepCells l := rfl
    rw [e] at hu
    rcases List.mem_cons.1 hu with rfl | hu
    · rfl
    · rcases List.mem_cons.1 hu with rfl | hu
      · rfl
      · exact ih u hu
/-- append(v, x...), of two rows of lines; x may be nil -/
theorem wpList_joinL {ops : Array Oper} {rest : List Oper} {o : Oper} {a : Act} {w : World} {Q : Exit → Act → World → Prop} (hgd : o.guard = none) (s x : Operand)
    (ho : o.op = .call { callee := .builtin .append, args := #[s, x], argTypes := #[59, 59] }) {base : Nat} {v : Value} {A B : List StepB} (hs : a.eval s = v) (hA : w.ownsRow base 93 2 v A.length (stepCells A))
    {vx : Value} (hx : a.eval x = vx) (hX : w.ownsRow base 93 2 vx B.length (stepCells B)) (hn : A.length + B.length ≤ 100000) (hb : base ≤ w.heap.size)
    (h : ∀ v' w', w'.ownsRow base 93 2 v' (A.length + B.length) (stepCells (A ++ B)) → w.grownBy w' v.ownBlock → (v'.ownBlock = v.ownBlock ∨ ∀ g, v'.ownBlock = some g → w.heap.size ≤ g) →
      wpList Tryz.prog ops Q rest (a.put o.dst v') w') : wpList Tryz.prog ops Q (o :: rest) a w := by
  obtain ⟨i0, hi, hz0, hz1, hz2⟩ := info_parts info_line
  rcases hX.2 with ⟨rfl, h0⟩ | ⟨g, cap, cur, rfl, hbg, hg, hnc, hcm, hcs, htake⟩
  · obtain rfl : B = [] := List.eq_nil_of_length_eq_zero h0
    refine wpList_append_own_none hgd s x 59 ho base 93 i0 2 Tryz.underlying59 hi v A.length (stepCells A) hs hA hx ?_
    exact h v w (by simpa using hA) ⟨rfl, rfl, rfl, Nat.le_refl _, fun _ _ _ => rfl⟩ (.inl rfl)
  · refine wpList_append_own2 hgd s x 59 ho base 93 i0 _ 2 24 Tryz.underlying59 hi hz0 hz1 hz2 rfl (by decide) v A.length (stepCells A) hs hA ⟨g, 0, none⟩ B.length cap (stepCells B) hx hX.1 (fun j u hu => hX.cells (g := g) rfl j u hu) (step_one B) (by unfold maxLen; omega) (by omega) hb ?_
    intro v' w' h1 h2 h3
    exact h v' w' (by rw [stepCells_append]; exact h1) h2 h3
/-- a row cut to nothing is still its owner's -/
theorem owns_cut0 {base : Nat} {w : World} {n cap : Nat} {a : Option Addr} {xs : List Value} (h : w.ownsRow base 93 2 (.slice a n cap) n xs) : w.ownsRow base 93 2 (.slice a 0 cap) 0 (stepCells []) := by
  refine ⟨rfl, ?_⟩
  rcases h.2 with ⟨e, _⟩ | ⟨g, cap', cur, e, hbg, hg, hnc, hcm, hcs, htake⟩
  · cases e; exact .inl ⟨rfl, rfl⟩
  · cases e; exact .inr ⟨g, cap, cur, rfl, hbg, hg, Nat.zero_le _, hcm, hcs, by simp [stepCells]⟩
theorem run_cut0 {a : Option Addr} {n c : Nat} (w : World) :
    (Instr.slice 59 (.slice a n c) none (some (.int .i64 0)) none).run Tryz.prog w = .ok (.slice a 0 c) w := by
  cases a <;> simp [go_sem, Tryz.underlying59]
end Go.Proofs.YtcclgodahlinbaaGreatDoor

namespace Go.Proofs.YtcclgodahlinbaaGreatDoor
open Go.RowKit Go
set_option maxRecDepth 100000

theorem ownBlock_cut (a : Option Addr) (n m c : Nat) : (Value.slice a n c).ownBlock = (Value.slice a m c).ownBlock := by cases a <;> rfl
/-- two rows of lines that a call has made -/
structure Two (base : Nat) (vt va : Value) (r : List StepB × List StepB) (w : World) : Prop where
  t : w.ownsRow base 93 2 vt r.1.length (stepCells r.1)
  a : w.ownsRow base 93 2 va r.2.length (stepCells r.2)
  ap : va.ownBlock = none ∨ vt.ownBlock ≠ va.ownBlock
theorem Two.below {base : Nat} {vt va : Value} {r : List StepB × List StepB} {w w' : World} (h : Two base vt va r w) (hb : Below w.heap.size w w') : Two base vt va r w' :=
  ⟨owns_below h.t hb (fun k e => (h.t.lt k e).2), owns_below h.a hb (fun k e => (h.a.lt k e).2), h.ap⟩
theorem Two.alloc {base : Nat} {vt va : Value} {r : List StepB × List StepB} {w : World} (h : Two base vt va r w) (o : Obj) : Two base vt va r (w.alloc o) := ⟨h.t.alloc o, h.a.alloc o, h.ap⟩
theorem Two.newT {base : Nat} {vt va vt' : Value} {r : List StepB × List StepB} {w w' : World} (h : Two base vt va r w) {T : List StepB} (ht : w'.ownsRow base 93 2 vt' T.length (stepCells T)) (hg : w.grownBy w' vt.ownBlock)
    (hn : vt'.ownBlock = vt.ownBlock ∨ ∀ g, vt'.ownBlock = some g → w.heap.size ≤ g) : Two base vt' va (T, r.2) w' := by
  refine ⟨ht, h.a.kept hg ?_, ?_⟩
  · rcases h.ap with e | e
    · exact .inl e
    · exact .inr (fun e2 => e e2.symm)
  · rcases h.ap with e | e
    · exact .inl e
    · cases hv : va.ownBlock with
      | none => exact .inl rfl
      | some k =>
        right
        intro e2
        rcases hn with h1 | h1
        · exact e (by rw [← h1, e2, hv])
        · have := h1 k e2
          have := (h.a.lt k hv).2
          omega
theorem Two.newA {base : Nat} {vt va va' : Value} {r : List StepB × List StepB} {w w' : World} (h : Two base vt va r w) {A : List StepB} (ha : w'.ownsRow base 93 2 va' A.length (stepCells A)) (hg : w.grownBy w' va.ownBlock)
    (hn : va'.ownBlock = va.ownBlock ∨ ∀ g, va'.ownBlock = some g → w.heap.size ≤ g) : Two base vt va' (r.1, A) w' := by
  refine ⟨h.t.kept hg ?_, ha, ?_⟩
  · rcases h.ap with e | e
    · cases hv : vt.ownBlock with
      | none => exact .inl rfl
      | some k => right; rw [e]; intro e2; cases e2
    · exact .inr e
  · cases hv : va'.ownBlock with
    | none => exact .inl rfl
    | some k =>
      right
      intro e2
      rcases hn with h1 | h1
      · rcases h.ap with e | e
        · rw [← h1, hv] at e; cases e
        · exact e (by rw [e2, ← h1, hv])
      · have := h1 k hv
        have := (h.t.lt k e2).2
        omega
set_option maxHeartbeats 8000000 in
theorem revLines_any {L : List StepB} {a : Option Addr} {cap : Nat} {w : World} (hS : StepsAt w.heap.size w (.slice a L.length cap) L) (hL : L.length ≤ 1000) (hK : ∀ s ∈ L, Fine s) :
    Calls Tryz.prog 70 #[.slice a L.length cap] w fun e w' => ∃ v, e = .returned v ∧ w'.ownsRow w.heap.size 93 2 v (revL L).length (stepCells (revL L)) ∧ Below w.heap.size w w' := by
  obtain ⟨i0, hi, hz0, hz1, hz2⟩ := info_parts info_line
  obtain ⟨W0, hmk, hM, hgm⟩ := run_makeSlice_owned (P := Tryz.prog) (w := w) w.heap.size 59 93 i0 _ 2 Tryz.underlying59 hi hz0 hz1 .i64 .i64 L.length (by omega) (by rw [hz2]; omega) (by unfold maxLen; omega) (Nat.le_refl _)
  have hb0 : Below w.heap.size w W0 := (Below.refl _ _).grown hgm (Nat.le_refl _) (fun k e => by cases e)
  have hTw0 : Two w.heap.size (.slice (some ⟨w.heap.size, 0, none⟩) 0 L.length) (.slice none 0 0) (revF (L.take 0)) W0 := ⟨hM, World.ownsRow_nil _ _ _ _, .inl rfl⟩
  clear hM hgm
  go_enter Tryz.func70, Tryz.ntmps70
  go_wp2_with fail
  clear hmk
  go_loopg [3, 4, 13] L.length (fun g vt va t wr => ∃ k : Nat, g = L.length - k ∧ k ≤ L.length ∧ t = .int .i64 k ∧ Two w.heap.size vt va (revF (L.take k)) wr ∧ Below w.heap.size w wr)
  case atStart => exact ⟨0, by omega, by omega, rfl, hTw0, hb0⟩
  case round =>
    obtain ⟨k, hgk, hkl, rfl, hTw, hbel⟩ := hrel
    have hG : Hid (gk = L.length - k) := hgk
    clear hgk hTw0 hb0
    have hsw := hbel.size
    have hrl := revF_len (L.take k)
    rw [List.length_take, Nat.min_eq_left hkl] at hrl
    have hrl' : (revF (L.take k)).1.length + (revF (L.take k)).2.length ≤ 1000 := by omega
    clear hrl
    by_cases hk : k < L.length
    · have hkI : (k : Int) < L.length := by omega
      obtain ⟨bb, rfl, hbB, r0, r1⟩ := (hS.below hbel).at hk
      have hF := hK _ (List.getElem_mem hk)
      have hrt : Hid (revF (L.take (k + 1)) = revStep (revF (L.take k)) L[k]) := revF_take hk
      generalize L[k] = s at *
      generalize revF (L.take k) = R at *
      have hB1 := heap_alloc_new wr (.cells #[.int .u8 (s.kind : Int), .string s.text] 93)
      have hT1 := hTw.alloc (.cells #[.int .u8 (s.kind : Int), .string s.text] 93)
      have hb1 := hbel.alloc hsw (.cells #[.int .u8 (s.kind : Int), .string s.text] 93)
      have hz1' : (wr.alloc (.cells #[.int .u8 (s.kind : Int), .string s.text] 93)).heap.size = wr.heap.size + 1 := by simp
      have y0 : (wr.alloc (.cells #[.int .u8 (s.kind : Int), .string s.text] 93)).cell? ⟨wr.heap.size, 0, none⟩ = some (.int .u8 (s.kind : Int)) := cell_of hB1 rfl
      have y1 : (wr.alloc (.cells #[.int .u8 (s.kind : Int), .string s.text] 93)).cell? ⟨wr.heap.size, 1, none⟩ = some (.string s.text) := cell_of hB1 rfl
      go_wp2_with fail
      generalize wr.alloc (.cells #[.int .u8 (s.kind : Int), .string s.text] 93) = W1 at *
      refine (clone_any s.text W1 (by have := hF.2; omega)).mono ?_
      rintro e W2 ⟨rfl, b2⟩
      have hT2 := hT1.below b2
      have hb2 := hb1.trans (b2.mono (by omega))
      have hsz2 := hb2.size
      have y0' : W2.cell? ⟨wr.heap.size, 0, none⟩ = some (.int .u8 (s.kind : Int)) := (b2.cell (p := ⟨wr.heap.size, 0, none⟩) (by show wr.heap.size < _; omega)).trans y0
      clear hTw hT1 hB1 y0 y1 hb1
      have hone : ∀ (kk : Int), ∀ u ∈ [Value.int .u8 kk, Value.string s.text], u.oneCell' = true := by intro kk u hu; simp at hu; rcases hu with rfl | rfl <;> rfl
      obtain ⟨aT, cT, rfl⟩ := owns_isSlice hT2.t
      obtain ⟨aA, cA, rfl⟩ := owns_isSlice hT2.a
      rcases hF.1 with hk32 | hk45 | hk43
      · rw [hk32] at y0'
        have hrt2 : Hid (revF (L.take (k + 1)) = (R.1 ++ R.2 ++ [⟨32, s.text⟩], [])) := by unfold Hid; rw [hrt.out]; unfold revStep; rw [if_neg (by omega), if_neg (by omega)]
        clear hrt hk32
        have hcut := fun w => run_cut0 (a := aA) (n := R.2.length) (c := cA) w
        go_wp2_with (first | (at_builtin; refine wpList_joinL rfl (.tmp 22) (.tmp 23) rfl rfl hT2.t rfl hT2.a (by omega) hsz2 ?_; intro v3 w3 hown3 hgr3 hnew3; have hT3 := hT2.newT (T := R.1 ++ R.2) (by rw [List.length_append]; exact hown3) hgr3 hnew3; obtain ⟨a3, c3, rfl⟩ := owns_isSlice hown3; have hsz3 := hgr3.size) | (at_builtin; refine wpList_append_own2 rfl (.tmp 27) (.tmp 30) 59 rfl w.heap.size 93 i0 _ 2 24 Tryz.underlying59 hi hz0 hz1 hz2 rfl (by decide) (.slice a3 (R.1.length + R.2.length) c3) (R.1.length + R.2.length) (stepCells (R.1 ++ R.2)) rfl (hown3.alloc _) ⟨w3.heap.size, 0, none⟩ 1 1 [.int .u8 32, .string s.text] rfl rfl (cells_new w3 [.int .u8 32, .string s.text] 93) (hone 32) (by unfold maxLen; omega) (by omega) (by simp; omega) ?_; intro v' w4 hown4 hgr hnew))
        have hT3c : Two w.heap.size (.slice a3 (R.1.length + R.2.length) c3) (.slice aA 0 cA) (R.1 ++ R.2, []) w3 := ⟨hT3.t, owns_cut0 hT3.a, by rw [ownBlock_cut aA 0 R.2.length cA]; exact hT3.ap⟩
        go_roundg (L.length - (k + 1))
        · refine ⟨k + 1, rfl, by omega, by push_cast; rfl, ?_, ?_⟩
          · rw [hrt2.out]
            exact (hT3c.alloc _).newT (T := R.1 ++ R.2 ++ [⟨32, s.text⟩]) (by rw [List.length_append, List.length_append, stepCells_append]; exact hown4) hgr hnew
          · exact ((hb2.grown hgr3 hsz2 (fun j e => (hT2.t.lt j e).1)).alloc (by omega) _).grown hgr (by simp; omega) (fun j e => (hown3.lt j e).1)
        · have := hG.out; omega
      · rw [hk45] at y0'
        have hrt2 : Hid (revF (L.take (k + 1)) = (R.1, R.2 ++ [⟨43, s.text⟩])) := by unfold Hid; rw [hrt.out]; unfold revStep; rw [if_pos hk45]
        clear hrt hk45
        go_wp2_with (at_builtin; refine wpList_append_own2 rfl (.tmp 34) (.tmp 37) 59 rfl w.heap.size 93 i0 _ 2 24 Tryz.underlying59 hi hz0 hz1 hz2 rfl (by decide) (.slice aA R.2.length cA) R.2.length (stepCells R.2) rfl (hT2.a.alloc _) ⟨W2.heap.size, 0, none⟩ 1 1 [.int .u8 43, .string s.text] rfl rfl (cells_new W2 [.int .u8 43, .string s.text] 93) (hone 43) (by unfold maxLen; omega) (by omega) (by simp; omega) ?_; intro v' w3 hown3 hgr hnew)
        go_roundg (L.length - (k + 1))
        · refine ⟨k + 1, rfl, by omega, by push_cast; rfl, ?_, ?_⟩
          · rw [hrt2.out]
            exact (hT2.alloc _).newA (by rw [List.length_append, stepCells_append]; exact hown3) hgr hnew
          · exact (hb2.alloc hsz2 _).grown hgr (by simp; omega) (fun j e => (hT2.a.lt j e).1)
        · have := hG.out; omega
      · rw [hk43] at y0'
        have hrt2 : Hid (revF (L.take (k + 1)) = (R.1 ++ [⟨45, s.text⟩], R.2)) := by unfold Hid; rw [hrt.out]; unfold revStep; rw [if_neg (by omega), if_pos hk43]
        clear hrt hk43
        go_wp2_with (at_builtin; refine wpList_append_own2 rfl (.tmp 41) (.tmp 44) 59 rfl w.heap.size 93 i0 _ 2 24 Tryz.underlying59 hi hz0 hz1 hz2 rfl (by decide) (.slice aT R.1.length cT) R.1.length (stepCells R.1) rfl (hT2.t.alloc _) ⟨W2.heap.size, 0, none⟩ 1 1 [.int .u8 45, .string s.text] rfl rfl (cells_new W2 [.int .u8 45, .string s.text] 93) (hone 45) (by unfold maxLen; omega) (by omega) (by simp; omega) ?_; intro v' w3 hown3 hgr hnew)
        go_roundg (L.length - (k + 1))
        · refine ⟨k + 1, rfl, by omega, by push_cast; rfl, ?_, ?_⟩
          · rw [hrt2.out]
            exact (hT2.alloc _).newT (by rw [List.length_append, stepCells_append]; exact hown3) hgr hnew
          · exact (hb2.alloc hsz2 _).grown hgr (by simp; omega) (fun j e => (hT2.t.lt j e).1)
        · have := hG.out; omega
    · obtain rfl : k = L.length := by omega
      rw [List.take_length] at hTw hrl'
      obtain ⟨aT, cT, rfl⟩ := owns_isSlice hTw.t
      obtain ⟨aA, cA, rfl⟩ := owns_isSlice hTw.a
      have hRL : Hid (revL L = (revF L).1 ++ (revF L).2) := rfl
      generalize revF L = R at *
      go_wp2_with (at_builtin; refine wpList_joinL rfl (.tmp 47) (.tmp 48) rfl rfl hTw.t rfl hTw.a (by omega) hsw ?_; intro v3 w3 hown3 hgr3 hnew3; obtain ⟨a3, c3, rfl⟩ := owns_isSlice hown3)
      go_ret
      exact ⟨_, rfl, by rw [hRL.out, List.length_append]; exact hown3, hbel.grown hgr3 hsw (fun j e => (hTw.t.lt j e).1)⟩
end Go.Proofs.YtcclgodahlinbaaGreatDoor

namespace Go.Proofs.YtcclgodahlinbaaGreatDoor
open Go.RowKit Go
set_option maxRecDepth 100000

section
variable {P : Program} {ops : Array Oper} {Q : Exit → Act → World → Prop} {md : Region.Mode}
/-- an operation that yields v in every world of a kind, and leaves it -/
def YieldsIn (P : Program) (ops : Array Oper) (I : World → Prop) (o : Oper) (v : Value) (a : Act) : Prop :=
  Region.wanted o (yielded ops a.tmps) = true ∧ ∀ w, I w → (execOp a.eval o).run P w = .ok (.value v) w
/-- all orders, through worlds of a kind alone -/
def wpKind (P : Program) (md : Region.Mode) (ops : Array Oper) (Q : Exit → Act → World → Prop) (I : World → Prop) : Nat → Array Bool → Act → World → Prop
  | 0, l, a, w => I w ∧ Region.ready md ops l = [] ∧ Q .normal a w
  | n + 1, l, a, w => I w ∧ (Region.ready md ops l = [] → Q .normal a w) ∧ ∀ i ∈ Region.ready md ops l, wpOp P ops Q i (wpKind P md ops Q I n (l.setIfInBounds i true)) a w
theorem wpKind.world {I : World → Prop} {n : Nat} {l : Array Bool} {a : Act} {w : World} (h : wpKind P md ops Q I n l a w) : I w := by
  cases n with
  | zero => exact h.1
  | succ n => exact h.1
theorem wpKind.any {I : World → Prop} : ∀ {n : Nat} {l : Array Bool} {a : Act} {w : World}, wpKind P md ops Q I n l a w → wpAny P md ops Q n l a w
  | 0, _, _, _, h => h.2
  | _ + 1, _, _, _, h => ⟨h.2.1, fun i hi => wpOp_mono (fun _ _ h' => wpKind.any h') (h.2.2 i hi)⟩
theorem YieldsIn.keeps {I : World → Prop} {o p : Oper} {v : Value} {a : Act} (hs : ∀ cs b, o.op ≠ .select cs b) (hap : ∀ d, p.dst = some d → d ∉ o.looksAt ops) (h : YieldsIn P ops I o v a) (u : Value) : YieldsIn P ops I o v (a.put p.dst u) := by
  refine ⟨(wanted_put o a p.dst u hap).trans h.1, fun w hw => ?_⟩
  rw [execOp_put o hs a p.dst u hap]
  exact h.2 w hw
/-- such an operation may as well come first -/
theorem wpOp_swap {I : World → Prop} {j : Nat} {o p : Oper} {v : Value} (hj : ops[j]? = some p) (hap : o.apart ops p = true) (hso : ∀ cs b, o.op ≠ .select cs b) (hsp : ∀ cs b, p.op ≠ .select cs b)
    (hQ : ∀ c a w, Q (.panic c) (a.put o.dst v) w → Q (.panic c) a w) {K : Act → World → Prop} {a : Act} {w : World} (hy : YieldsIn P ops I o v a) (h : wpOp P ops Q j K (a.put o.dst v) w) :
    wpOp P ops Q j (fun a' w' => YieldsIn P ops I o v a' ∧ K (a'.put o.dst v) w') a w := by
  obtain ⟨h1, h2, h3⟩ := Oper.apart_spec hap
  have hk := fun u => hy.keeps (p := p) hso h3 u
  unfold wpOp at h ⊢
  simp only [hj] at h ⊢
  rw [wanted_put p a o.dst v h1] at h
  by_cases hw : Region.wanted p (yielded ops a.tmps) = true
  · rw [if_pos hw] at h ⊢
    have hx := execOp_put p hsp a o.dst v h1
    rcases h with h | ⟨q1, q2⟩
    · left
      unfold Oper.wp at h ⊢
      rw [hx] at h
      cases hr : (execOp a.eval p).run P w with
      | halt x w' =>
        rw [hr] at h
        cases x <;> simp only [Oper.upon] at h ⊢
        exact hQ _ _ _ h
      | ok n w' =>
        rw [hr] at h
        cases n with
        | value u => exact ⟨hk u, by rw [← Act.put_comm a v u h2]; exact h⟩
        | skip => exact ⟨hk undef, by rw [← Act.put_comm a v undef h2]; exact h⟩
        | defer d =>
          simp only [Oper.upon] at h ⊢
          have hk2 : YieldsIn P ops I o v ({ a with defers := d :: a.defers }) := hy
          exact ⟨hk2.keeps (p := p) hso h3 undef, by rw [← Act.put_comm _ v undef h2, ← Act.put_defers]; exact h⟩
        | enter f args =>
          simp only [Oper.upon] at h ⊢
          refine h.mono fun e w'' he => ?_
          cases e with
          | returned u => exact ⟨hk u, by rw [← Act.put_comm a v u h2]; exact he⟩
          | panicked c => exact hQ _ _ _ he
          | outgrown => exact he
        | row r args =>
          simp only [Oper.upon] at h ⊢
          exact Rows.mono h fun u w'' he => ⟨hk u, by rw [← Act.put_comm a v u h2]; exact he⟩
        | _ => simp only [Oper.upon] at h
    · right
      unfold Oper.asks at q1 ⊢
      rw [hx] at q1
      exact ⟨q1, q2⟩
  · rw [if_neg hw] at h ⊢
    exact ⟨hk undef, by rw [← Act.put_comm a v undef h2]; exact h⟩
theorem YieldsIn.op {I : World → Prop} {i : Nat} {o : Oper} {v : Value} {a : Act} {w : World} {K : Act → World → Prop} (hi : ops[i]? = some o) (hy : YieldsIn P ops I o v a) (hw : I w) (h : K (a.put o.dst v) w) : wpOp P ops Q i K a w := by
  unfold wpOp
  simp only [hi]
  rw [if_pos hy.1]
  left
  unfold Oper.wp
  rw [hy.2 w hw]
  exact h
theorem wpKind_first {I : World → Prop} {i : Nat} {o : Oper} {v : Value} (hi : ops[i]? = some o) (hsel : Region.noSelect ops = true) (hQ : ∀ c a w, Q (.panic c) (a.put o.dst v) w → Q (.panic c) a w) :
    ∀ (n : Nat) (l : Array Bool) (a : Act) (w : World), (∀ j p, ops[j]? = some p → j ≠ i → l.getD j true = false → (∀ e ∈ p.after, Region.binds md e = true → e.on ≠ i) → o.apart ops p = true) →
      i ∈ Region.ready md ops l → YieldsIn P ops I o v a → wpKind P md ops Q I n (l.setIfInBounds i true) (a.put o.dst v) w → wpKind P md ops Q I (n + 1) l a w
  | n, l, a, w, hf, hr, hy, h => by
    have hns := Region.noSelect_spec hsel
    refine ⟨h.world, fun h0 => (by rw [h0] at hr; cases hr), fun j hj => ?_⟩
    by_cases hji : j = i
    · subst hji
      exact hy.op hi h.world h
    · have hj2 := ready_mono hj hji
      cases n with
      | zero => rw [h.2.1] at hj2; cases hj2
      | succ n =>
        obtain ⟨hju, p, hp, hall⟩ := mem_ready.1 hj
        have hiu := (mem_ready.1 hr).1
        have hno : ∀ e ∈ p.after, Region.binds md e = true → e.on ≠ i := fun e he hb heq => by
          have h2 := hall e he hb
          rw [heq] at h2
          by_cases hs : i < l.size
          · simp [hs] at hiu h2; rw [hiu] at h2; cases h2
          · simp [Array.getElem?_eq_none (Nat.le_of_not_lt hs)] at h2
        have h2 := wpOp_swap hp (hf j p hp hji hju hno) (fun cs b => hns i o cs b hi) (fun cs b => hns j p cs b hp) hQ hy (h.2.2 j hj2)
        refine wpOp_mono (fun a' w' h3 => wpKind_first hi hsel hQ n _ a' w' (fun k q hk hki hun hno => hf k q hk hki ?_ hno) (ready_mono hr (Ne.symm hji)) h3.1 (by rw [Array.setIfInBounds_comm _ _ hji]; exact h3.2)) h2
        by_cases hjk : j = k
        · subst hjk; exact hju
        · rw [getD_set_ne true hjk] at hun; exact hun
theorem wpKind_take {I : World → Prop} {i : Nat} {o : Oper} {v : Value} {n : Nat} {l : Array Bool} {a : Act} {w : World} (hi : ops[i]? = some o) (hs : Region.noSelect ops = true) (hf : Region.free md ops l i = true) (hr : (Region.ready md ops l).contains i = true)
    (hQ : ∀ c a w, Q (.panic c) (a.put o.dst v) w → Q (.panic c) a w) (hy : YieldsIn P ops I o v a) (h : wpKind P md ops Q I n (l.setIfInBounds i true) (a.put o.dst v) w) : wpKind P md ops Q I (n + 1) l a w :=
  wpKind_first hi hs hQ n l a w (fun j p hj hji hun hno => Region.free_spec hi hf j p hj hji hun hno) (by simpa using hr) hy h
theorem wpKind_one {I : World → Prop} {i : Nat} {n : Nat} {l : Array Bool} {a : Act} {w : World} (hw : I w) (hr : Region.ready md ops l = [i]) (h : wpOp P ops Q i (wpKind P md ops Q I n (l.setIfInBounds i true)) a w) : wpKind P md ops Q I (n + 1) l a w :=
  ⟨hw, fun h0 => (by rw [hr] at h0; cases h0), fun j hj => by rw [hr, List.mem_singleton] at hj; subst hj; exact h⟩
theorem wpOp_call {i : Nat} {o : Oper} {a : Act} {w : World} {K : Act → World → Prop} (hi : ops[i]? = some o) (hg : o.guard = none) (f : FuncId) (xs : Array Operand) (ts : Array TypeId) (hop : o.op = Op.call { callee := Callee.value (.func f), args := xs, argTypes := ts })
    (args : Array Value) (ha : xs.map a.eval = args) (hrun : (callFunc f args).run P w = .ok (.enter f args) w) (R : Value → World → Prop)
    (hc : Calls P f args w fun e w' => ∃ v, e = .returned v ∧ R v w') (hK : ∀ v w', R v w' → K (a.put o.dst v) w') : wpOp P ops Q i K a w := by
  have h := step_call (ops := ops) (Q := Q) (E := True) hg f xs ts hop args ha hrun R hc hK
  have hw : Region.wanted o (yielded ops a.tmps) = true := by simp [Region.wanted, hg]
  rw [if_pos hw] at h
  unfold wpOp
  simp only [hi]
  rw [if_pos hw]
  exact .inl h
theorem wpOp_skip {i : Nat} {o : Oper} {a : Act} {w w' : World} {K : Act → World → Prop} (hi : ops[i]? = some o) (hg : o.guard = none) (hrun : (execOp a.eval o).run P w = .ok .skip w') (hK : K (a.put o.dst undef) w') : wpOp P ops Q i K a w := by
  have hw : Region.wanted o (yielded ops a.tmps) = true := by simp [Region.wanted, hg]
  unfold wpOp
  simp only [hi]
  rw [if_pos hw]
  left
  unfold Oper.wp
  rw [hrun]
  exact hK
theorem wpKind_done {I : World → Prop} {l : Array Bool} {a : Act} {w : World} (hw : I w) (hr : Region.ready md ops l = []) (h : Q .normal a w) : wpKind P md ops Q I 0 l a w := ⟨hw, hr, h⟩
end
end Go.Proofs.YtcclgodahlinbaaGreatDoor

namespace Go.Proofs.YtcclgodahlinbaaGreatDoor
open Go.RowKit Go
set_option maxRecDepth 100000

theorem info_int : (Tryz.prog.info? 3).map (fun i => (i.zero, i.size, i.bytes)) = some (some (.int .i64 0), 1, 8) := by kernel_rfl
theorem info_ints : (Tryz.prog.info? 25).map (fun i => (i.zero, i.size, i.bytes)) = some (some (.slice none 0 0), 1, 24) := by kernel_rfl
theorem make_ints (n : Nat) (hn : n ≤ 1000) (w : World) : (Instr.makeSlice 25 (.int .i64 ((n : Int) + 1)) (.int .i64 ((n : Int) + 1))).run Tryz.prog w = .ok (.slice (some ⟨w.heap.size, 0, none⟩) (n + 1) (n + 1)) (w.alloc (.cells (madeCells #[.int .i64 0] (n + 1)) 3)) := by
  have h := run_make_row' (P := Tryz.prog) 25 3 (.int .i64 0) 8 Tryz.underlying25 info_int rfl .i64 .i64 (n + 1) (by omega) (by omega) w
  rw [show ((n + 1 : Nat) : Int) = (n : Int) + 1 by omega] at h
  exact h
theorem make_intss (n : Nat) (hn : n ≤ 1000) (w : World) : (Instr.makeSlice 148 (.int .i64 ((n : Int) + 1)) (.int .i64 ((n : Int) + 1))).run Tryz.prog w = .ok (.slice (some ⟨w.heap.size, 0, none⟩) (n + 1) (n + 1)) (w.alloc (.cells (madeCells #[.slice none 0 0] (n + 1)) 25)) := by
  have h := run_make_row' (P := Tryz.prog) 148 25 (.slice none 0 0) 24 Tryz.underlying148 info_ints rfl .i64 .i64 (n + 1) (by omega) (by omega) w
  rw [show ((n + 1 : Nat) : Int) = (n : Int) + 1 by omega] at h
  exact h
set_option maxHeartbeats 8000000 in
theorem way_row {o f : List ByteArray} {ao af : Option Addr} {co cf : Nat} {w : World} (hO : Strs w.heap.size w (.slice ao o.length co) o) (hF : Strs w.heap.size w (.slice af f.length cf) f) (hno : o.length ≤ 1000) (hnf : f.length ≤ 1000) :
    Calls Tryz.prog 39 #[.slice ao o.length co, .slice af f.length cf] w fun e w' => ∃ a c, e = .returned (.slice a (Dn.wayM o f).length c) ∧ w'.ownsRow w.heap.size 93 2 (.slice a (Dn.wayM o f).length c) (Dn.wayM o f).length (stepCells (Dn.wayM o f)) ∧ Below w.heap.size w w' := by
  obtain ⟨i0, hi, hz0, hz1, hz2⟩ := info_parts info_line
  have hmkT := make_intss o.length hno
  have hmkR := make_ints f.length hnf
  have hT0 : Tab o f w.heap.size (o.length + 1) (w.alloc (.cells (madeCells #[.slice none 0 0] (o.length + 1)) 25)) := by
    refine ⟨by simp, ?_, fun k h1 h2 => by omega⟩
    rw [heap_alloc_new, tabC_new w.heap.size o.length f.length]
  have hb0 := (Below.refl w.heap.size w).alloc (Nat.le_refl _) (.cells (madeCells #[.slice none 0 0] (o.length + 1)) 25)
  go_enter Tryz.func39, Tryz.ntmps39
  go_wp2_with fail
  go_loopg [8] (o.length + 1) (fun g t wr => ∃ p : Nat, g = p ∧ p ≤ o.length + 1 ∧ t = .int .i64 ((p : Int) - 1) ∧ Tab o f w.heap.size p wr ∧ Below w.heap.size w wr)
  case atStart => exact ⟨o.length + 1, rfl, Nat.le_refl _, by rw [show ((o.length + 1 : Nat) : Int) - 1 = o.length by omega], hT0, hb0⟩
  case round =>
    obtain ⟨p, hgp, hpl, rfl, hT, hbel⟩ := hrel
    have hG : Hid (gk = p) := hgp
    clear hgp hT0 hb0
    have hsw := hbel.size
    cases p with
    | zero =>
      have hiI : ¬ ((0 : Int) ≤ ((0 : Nat) : Int) - 1) := by omega
      have hstart : Hid (([] : List StepB) ++ Dn.spec (o.drop 0) (f.drop 0) = Dn.wayM o f) := by show _ = _; rw [Dn.wayM_spec]; rfl
      go_wp2_with fail
      go_loopg [10, 11, 12] (o.length + f.length) (fun g v ti tj wj => ∃ (i j : Nat) (acc : List StepB), g = (o.length - i) + (f.length - j) ∧ i ≤ o.length ∧ j ≤ f.length ∧ ti = .int .i64 i ∧ tj = .int .i64 j ∧ acc.length ≤ i + j ∧ wj.ownsRow wr.heap.size 93 2 v acc.length (stepCells acc) ∧ Hid (acc ++ Dn.spec (o.drop i) (f.drop j) = Dn.wayM o f) ∧ Below wr.heap.size wr wj)
      case atStart => exact ⟨0, 0, [], by omega, by omega, by omega, rfl, rfl, by simp, World.ownsRow_nil _ _ _ _, hstart, Below.refl _ _⟩
      case round =>
        rename World => wj
        obtain ⟨i, j, acc, hgi, hil, hjl, rfl, rfl, hal, hown, hacc, hbj⟩ := hrel
        have hGq : Hid (_ = (o.length - i) + (f.length - j)) := hgi
        clear hgi hstart
        have hszj := hbj.size
        obtain ⟨al, cl, rfl⟩ := owns_isSlice hown
        have hon : ∀ (t : ByteArray) (k : Int), ∀ u ∈ [Value.int .u8 k, .string t], u.oneCell' = true := by intro t k u hu; simp at hu; rcases hu with rfl | rfl <;> rfl
        have hbwj := hbel.trans (hbj.mono hsw)
        obtain ⟨q0, q1⟩ := hT.cells hbj hil hjl
        have hiI2 : (i : Int) < (o.length : Int) + 1 := by omega
        have hjI2 : (j : Int) < (f.length : Int) + 1 := by omega
        have hD0 : Dd o f i j ≤ 2000 := by have := Dd_le o f i j; omega
        by_cases hi1 : i < o.length
        · have hiI3 : (i : Int) < o.length := by omega
          have hiI4 : (i : Int) + 1 < (o.length : Int) + 1 := by omega
          obtain ⟨q2, q3⟩ := hT.cells hbj (show i + 1 ≤ o.length by omega) hjl
          have hD1 : Dd o f (i + 1) j ≤ 2000 := by have := Dd_le o f (i + 1) j; omega
          obtain ⟨bo, oo, rfl, hbo, so⟩ := (hO.below hbwj).at hi1
          rw [show o.getD i ByteArray.empty = o[i] by simp [List.getD, hi1]] at so
          have hdec : decide ((i : Int) < o.length) = true := by simpa using hiI3
          by_cases hj1 : j < f.length
          · have hjI3 : (j : Int) < f.length := by omega
            have hdej : decide ((j : Int) < f.length) = true := by simpa using hjI3
            obtain ⟨bf, of, rfl, hbf, sf⟩ := (hF.below hbwj).at hj1
            rw [show f.getD j ByteArray.empty = f[j] by simp [List.getD, hj1]] at sf
            by_cases e3 : o[i] = f[j]
            · have hq3 : (o[i].toList == f[j].toList) = true := by rw [e3]; simp
              have hN : Hid ((acc ++ [⟨32, o[i]⟩]) ++ Dn.spec (o.drop (i + 1)) (f.drop (j + 1)) = Dn.wayM o f) := by
                show _ = _
                rw [← hacc.out, specW_keep o f hi1 hj1 e3]; simp
              clear hacc e3
              generalize o[i] = so' at *
              generalize f[j] = sf' at *
              go_wp2_with fail
              go_quiet (fail)
              go_wp2_with (at_builtin; refine wpList_append_own2 rfl (.tmp 173) (.tmp 179) 59 rfl wr.heap.size 93 i0 _ 2 24 Tryz.underlying59 hi hz0 hz1 hz2 rfl (by decide) (.slice al acc.length cl) acc.length (stepCells acc) rfl (World.ownsRow.alloc (w := wj.drewN _) hown _) ⟨wj.heap.size, 0, none⟩ 1 1 [.int .u8 32, .string so'] rfl rfl (cells_new (wj.drewN _) [.int .u8 32, .string so'] 93) (hon _ _) (by unfold maxLen; omega) (by omega) (by simp; omega) ?_; intro v' w3 hown3 hgr hnew; have hb3 := ((Below.drewN' hbj).alloc hszj _).grown hgr (by simp; omega) (fun j e => by have := (hown.lt j e).1; omega))
              go_wp2_with fail
              go_roundg ((o.length - (i + 1)) + (f.length - (j + 1)))
              · exact ⟨i + 1, j + 1, acc ++ [⟨32, so'⟩], rfl, by omega, by omega, by push_cast; rfl, by push_cast; rfl, by simp; omega, by rw [stepCells_append, List.length_append]; exact hown3, hN, hb3⟩
              · have := hGq.out; omega
            · have hq3 : (o[i].toList == f[j].toList) = false := str_ne e3
              by_cases e4 : Dd o f (i + 1) j + 1 = Dd o f i j
              · have hq4 : (((Dd o f (i + 1) j : Nat) : Int) + 1 == (Dd o f i j : Int)) = true := by simp; omega
                have hN : Hid ((acc ++ [⟨45, o[i]⟩]) ++ Dn.spec (o.drop (i + 1)) (f.drop j) = Dn.wayM o f) := by
                  show _ = _
                  rw [← hacc.out, specW_drop o f hi1 hjl (fun _ => e3) e4]; simp
                clear hacc e3 e4
                generalize o[i] = so' at *
                generalize f[j] = sf' at *
                generalize Dd o f (i + 1) j = d1 at *
                generalize Dd o f i j = d0 at *
                go_wp2_with fail
                go_quiet (fail)
                go_wp2_with fail
                go_quiet (fail)
                go_wp2_with (at_builtin; refine wpList_append_own2 rfl (.tmp 208) (.tmp 214) 59 rfl wr.heap.size 93 i0 _ 2 24 Tryz.underlying59 hi hz0 hz1 hz2 rfl (by decide) (.slice al acc.length cl) acc.length (stepCells acc) rfl (World.ownsRow.alloc (w := wj.drewN _) hown _) ⟨wj.heap.size, 0, none⟩ 1 1 [.int .u8 45, .string so'] rfl rfl (cells_new (wj.drewN _) [.int .u8 45, .string so'] 93) (hon _ _) (by unfold maxLen; omega) (by omega) (by simp; omega) ?_; intro v' w3 hown3 hgr hnew; have hb3 := ((Below.drewN' hbj).alloc hszj _).grown hgr (by simp; omega) (fun j e => by have := (hown.lt j e).1; omega))
                go_wp2_with fail
                go_roundg ((o.length - (i + 1)) + (f.length - j))
                · exact ⟨i + 1, j, acc ++ [⟨45, so'⟩], rfl, by omega, by omega, by push_cast; rfl, rfl, by simp; omega, by rw [stepCells_append, List.length_append]; exact hown3, hN, hb3⟩
                · have := hGq.out; omega
              · have hq4 : (((Dd o f (i + 1) j : Nat) : Int) + 1 == (Dd o f i j : Int)) = false := by simp; omega
                have hN : Hid ((acc ++ [⟨43, f[j]⟩]) ++ Dn.spec (o.drop i) (f.drop (j + 1)) = Dn.wayM o f) := by
                  show _ = _
                  rw [← hacc.out, specW_add o f hil hj1 (fun _ => ⟨e3, e4⟩)]; simp
                clear hacc e3 e4
                generalize o[i] = so' at *
                generalize f[j] = sf' at *
                generalize Dd o f (i + 1) j = d1 at *
                generalize Dd o f i j = d0 at *
                go_wp2_with fail
                go_quiet (fail)
                go_wp2_with fail
                go_quiet (fail)
                go_wp2_with (at_builtin; refine wpList_append_own2 rfl (.tmp 143) (.tmp 149) 59 rfl wr.heap.size 93 i0 _ 2 24 Tryz.underlying59 hi hz0 hz1 hz2 rfl (by decide) (.slice al acc.length cl) acc.length (stepCells acc) rfl (World.ownsRow.alloc (w := wj.drewN _) hown _) ⟨wj.heap.size, 0, none⟩ 1 1 [.int .u8 43, .string sf'] rfl rfl (cells_new (wj.drewN _) [.int .u8 43, .string sf'] 93) (hon _ _) (by unfold maxLen; omega) (by omega) (by simp; omega) ?_; intro v' w3 hown3 hgr hnew; have hb3 := ((Below.drewN' hbj).alloc hszj _).grown hgr (by simp; omega) (fun j e => by have := (hown.lt j e).1; omega))
                go_wp2_with fail
                go_roundg ((o.length - i) + (f.length - (j + 1)))
                · exact ⟨i, j + 1, acc ++ [⟨43, sf'⟩], rfl, by omega, by omega, rfl, by push_cast; rfl, by simp; omega, by rw [stepCells_append, List.length_append]; exact hown3, hN, hb3⟩
                · have := hGq.out; omega
          · have hjI3 : ¬ ((j : Int) < f.length) := by omega
            have hdej : decide ((j : Int) < f.length) = false := by simpa using hjI3
            have e4 : Dd o f (i + 1) j + 1 = Dd o f i j := by
              have ej : j = f.length := by omega
              rw [ej, Dd_right, Dd_right]; omega
            have hq4 : (((Dd o f (i + 1) j : Nat) : Int) + 1 == (Dd o f i j : Int)) = true := by simp; omega
            have hN : Hid ((acc ++ [⟨45, o[i]⟩]) ++ Dn.spec (o.drop (i + 1)) (f.drop j) = Dn.wayM o f) := by
              show _ = _
              rw [← hacc.out, specW_drop o f hi1 hjl (fun h => absurd h hj1) e4]; simp
            clear hacc e4
            generalize o[i] = so' at *
            generalize Dd o f (i + 1) j = d1 at *
            generalize Dd o f i j = d0 at *
            go_wp2_with fail
            go_quiet (fail)
            go_wp2_with fail
            go_quiet (fail)
            go_wp2_with (at_builtin; refine wpList_append_own2 rfl (.tmp 208) (.tmp 214) 59 rfl wr.heap.size 93 i0 _ 2 24 Tryz.underlying59 hi hz0 hz1 hz2 rfl (by decide) (.slice al acc.length cl) acc.length (stepCells acc) rfl (World.ownsRow.alloc (w := wj.drewN _) hown _) ⟨wj.heap.size, 0, none⟩ 1 1 [.int .u8 45, .string so'] rfl rfl (cells_new (wj.drewN _) [.int .u8 45, .string so'] 93) (hon _ _) (by unfold maxLen; omega) (by omega) (by simp; omega) ?_; intro v' w3 hown3 hgr hnew; have hb3 := ((Below.drewN' hbj).alloc hszj _).grown hgr (by simp; omega) (fun j e => by have := (hown.lt j e).1; omega))
            go_wp2_with fail
            go_roundg ((o.length - (i + 1)) + (f.length - j))
            · exact ⟨i + 1, j, acc ++ [⟨45, so'⟩], rfl, by omega, by omega, by push_cast; rfl, rfl, by simp; omega, by rw [stepCells_append, List.length_append]; exact hown3, hN, hb3⟩
            · have := hGq.out; omega
        · have hiI3 : ¬ ((i : Int) < o.length) := by omega
          have hdec : decide ((i : Int) < o.length) = false := by simpa using hiI3
          by_cases hj1 : j < f.length
          · have hjI3 : (j : Int) < f.length := by omega
            obtain ⟨bf, of, rfl, hbf, sf⟩ := (hF.below hbwj).at hj1
            rw [show f.getD j ByteArray.empty = f[j] by simp [List.getD, hj1]] at sf
            have hN : Hid ((acc ++ [⟨43, f[j]⟩]) ++ Dn.spec (o.drop i) (f.drop (j + 1)) = Dn.wayM o f) := by
              show _ = _
              rw [← hacc.out, specW_add o f hil hj1 (fun h => absurd h hi1)]; simp
            clear hacc
            generalize f[j] = sf' at *
            go_wp2_with fail
            go_quiet (fail)
            go_wp2_with fail
            go_quiet (fail)
            go_wp2_with (at_builtin; refine wpList_append_own2 rfl (.tmp 143) (.tmp 149) 59 rfl wr.heap.size 93 i0 _ 2 24 Tryz.underlying59 hi hz0 hz1 hz2 rfl (by decide) (.slice al acc.length cl) acc.length (stepCells acc) rfl (World.ownsRow.alloc (w := wj.drewN _) hown _) ⟨wj.heap.size, 0, none⟩ 1 1 [.int .u8 43, .string sf'] rfl rfl (cells_new (wj.drewN _) [.int .u8 43, .string sf'] 93) (hon _ _) (by unfold maxLen; omega) (by omega) (by simp; omega) ?_; intro v' w3 hown3 hgr hnew; have hb3 := ((Below.drewN' hbj).alloc hszj _).grown hgr (by simp; omega) (fun j e => by have := (hown.lt j e).1; omega))
            go_wp2_with fail
            go_roundg ((o.length - i) + (f.length - (j + 1)))
            · exact ⟨i, j + 1, acc ++ [⟨43, sf'⟩], rfl, by omega, by omega, rfl, by push_cast; rfl, by simp; omega, by rw [stepCells_append, List.length_append]; exact hown3, hN, hb3⟩
            · have := hGq.out; omega
          · have hjI3 : ¬ ((j : Int) < f.length) := by omega
            have hF' : Hid (Dn.wayM o f = acc) := by
              show _ = _
              rw [← hacc.out, List.drop_eq_nil_of_le (show o.length ≤ i by omega), List.drop_eq_nil_of_le (show f.length ≤ j by omega), Dn.spec_nn, List.append_nil]
            clear hacc
            go_wp2_with fail
            go_ret
            refine ⟨al, cl, ?_, ?_, hbwj⟩
            · rw [hF'.out]; rfl
            · rw [hF'.out]; exact owns_mono hown hsw
    | succ i =>
      rw [show ((i + 1 : Nat) : Int) - 1 = (i : Int) by omega]
      have hiI : (0 : Int) ≤ i := by omega
      have hil : i ≤ o.length := by omega
      have hi2 : (i : Int) < (o.length : Int) + 1 := by omega
      obtain ⟨xa, xl, xc, hx⟩ := hT.link hil
      have hxf := hT.warm i
      have hTI := hT.row hil
      have hbI := (hbel.alloc hsw (.cells (madeCells #[.int .i64 0] (f.length + 1)) 3)).setCell (p := ⟨w.heap.size, i, none⟩) (Nat.le_refl _) (.slice (some ⟨wr.heap.size, 0, none⟩) (f.length + 1) (f.length + 1))
      have hxa : (wr.alloc (.cells (madeCells #[.int .i64 0] (f.length + 1)) 3)).cell? ⟨w.heap.size, i, none⟩ = some (.slice xa xl xc) := ((Below.refl wr.heap.size wr).alloc (Nat.le_refl _) _).cell (p := ⟨w.heap.size, i, none⟩) (by show w.heap.size < wr.heap.size; have := hT.size; omega) |>.trans hx
      have hxaf : (wr.alloc (.cells (madeCells #[.int .i64 0] (f.length + 1)) 3)).frozen? ⟨w.heap.size, i, none⟩ = false := frozen_of ((Below.heap_alloc wr _ w.heap.size (by have := hT.size; omega)).trans hT.tab)
      go_wp2_with fail
      generalize (wr.alloc (.cells (madeCells #[.int .i64 0] (f.length + 1)) 3)).setCell ⟨w.heap.size, i, none⟩ (.slice (some ⟨wr.heap.size, 0, none⟩) (f.length + 1) (f.length + 1)) = W1 at *
      clear hxa hxaf hx hxf hT hbel
      go_loopg [9] (f.length + 1) (fun g t wi => ∃ q : Nat, g = q ∧ q ≤ f.length + 1 ∧ t = .int .i64 ((q : Int) - 1) ∧ TabI o f w.heap.size i q wi ∧ Below w.heap.size w wi)
      case atStart => exact ⟨f.length + 1, rfl, Nat.le_refl _, by rw [show ((f.length + 1 : Nat) : Int) - 1 = f.length by omega], hTI, hbI⟩
      case round =>
        rename World => wi
        obtain ⟨q, hgq, hql, rfl, hQ, hbq⟩ := hrel
        have hGq : Hid (_ = q) := hgq
        clear hgq hTI hbI
        cases q with
        | zero =>
          have hz : (0 : Int) ≤ ((0 : Nat) : Int) - 1 ↔ False := by simp
          go_wp2_with fail
          go_roundg i
          · exact ⟨i, rfl, by omega, rfl, hQ.done, hbq⟩
          · have := hG.out; omega
        | succ j =>
          rw [show ((j + 1 : Nat) : Int) - 1 = (j : Int) by omega]
          have hjI : (0 : Int) ≤ j := by omega
          have hjl : j ≤ f.length := by omega
          have hj2 : (j : Int) < (f.length : Int) + 1 := by omega
          have hL0 := hQ.link (Nat.le_refl i) hil
          obtain ⟨z0, hc0⟩ := hQ.there hjl
          have hcf := hQ.warm j
          by_cases e1 : i = o.length
          · have hq1 : (((i : Nat) : Int) == (o.length : Int)) = true := by simp [e1]
            have hP : Hid (TabI o f w.heap.size i j (wi.setCell ⟨w.heap.size + 1 + (o.length - i), j, none⟩ (.int .i64 ((f.length : Int) - j)))) := hQ.put hjl hil (by rw [e1, Dd_low]; omega)
            have hBp := hbq.setCell (p := ⟨w.heap.size + 1 + (o.length - i), j, none⟩) (by show w.heap.size ≤ w.heap.size + 1 + (o.length - i); omega) (.int .i64 ((f.length : Int) - j))
            clear hQ e1
            go_wp2_with fail
            go_roundg j
            · exact ⟨j, rfl, by omega, rfl, hP.out, hBp⟩
            · have := hGq.out; omega
          · have hq1 : (((i : Nat) : Int) == (o.length : Int)) = false := by simp; omega
            have hi3 : i < o.length := by omega
            by_cases e2 : j = f.length
            · have hq2 : (((j : Nat) : Int) == (f.length : Int)) = true := by simp [e2]
              have hP : Hid (TabI o f w.heap.size i j (wi.setCell ⟨w.heap.size + 1 + (o.length - i), j, none⟩ (.int .i64 ((o.length : Int) - i)))) := hQ.put hjl hil (by rw [e2, Dd_right]; omega)
              have hBp := hbq.setCell (p := ⟨w.heap.size + 1 + (o.length - i), j, none⟩) (by show w.heap.size ≤ w.heap.size + 1 + (o.length - i); omega) (.int .i64 ((o.length : Int) - i))
              clear hQ e1 e2
              go_wp2_with fail
              go_roundg j
              · exact ⟨j, rfl, by omega, rfl, hP.out, hBp⟩
              · have := hGq.out; omega
            · have hq2 : (((j : Nat) : Int) == (f.length : Int)) = false := by simp; omega
              have hj3 : j < f.length := by omega
              have hL1 := hQ.link (Nat.le_succ i) (show i + 1 ≤ o.length by omega)
              have hi4 : (i : Int) < o.length := by omega
              have hj4 : (j : Int) < f.length := by omega
              obtain ⟨bo, oo, rfl, hbo, so⟩ := (hO.below hbq).at hi3
              obtain ⟨bf, of, rfl, hbf, sf⟩ := (hF.below hbq).at hj3
              rw [show o.getD i ByteArray.empty = o[i] by simp [List.getD, hi3]] at so
              rw [show f.getD j ByteArray.empty = f[j] by simp [List.getD, hj3]] at sf
              have hi5 : (i : Int) + 1 < (o.length : Int) + 1 := by omega
              have hj5 : (j : Int) + 1 < (f.length : Int) + 1 := by omega
              have hD0 : Dd o f i j ≤ 2000 := by have := Dd_le o f i j; omega
              by_cases e3 : o[i] = f[j]
              · have hq3 : (o[i].toList == f[j].toList) = true := by rw [e3]; simp
                have hc1 := hQ.full (Nat.lt_succ_self i) (show i + 1 ≤ o.length by omega) (show j + 1 ≤ f.length by omega)
                have hP : Hid (∀ k, TabI o f w.heap.size i j ((wi.drewN k).setCell ⟨w.heap.size + 1 + (o.length - i), j, none⟩ (.int .i64 (Dd o f (i + 1) (j + 1) : Int)))) := fun k => TabI.put (w := wi.drewN k) ⟨hQ.size, hQ.tab, hQ.rows, hQ.row⟩ hjl hil (by rw [Dd_same hi3 hj3 e3])
                generalize o[i] = so' at *
                generalize f[j] = sf' at *
                generalize Dd o f (i + 1) (j + 1) = dd at *
                clear hQ
                go_wp2_with fail
                go_quiet (fail)
                go_wp2_with fail
                go_region
                go_wp2_with fail
                go_roundg j
                · exact ⟨j, rfl, by omega, rfl, hP.out _, (Below.drewN' hbq).setCell (p := ⟨w.heap.size + 1 + (o.length - i), j, none⟩) (by show w.heap.size ≤ w.heap.size + 1 + (o.length - i); omega) _⟩
                · have := hGq.out; omega
              · have hq3 : (o[i].toList == f[j].toList) = false := str_ne e3
                have hDn := Dd_ne hi3 hj3 e3
                have hc1 := hQ.full (Nat.lt_succ_self i) (show i + 1 ≤ o.length by omega) hjl
                have hc2 := hQ.own (Nat.le_refl (j + 1)) (show j + 1 ≤ f.length by omega)
                have hP : Hid (∀ k (z : Int), z = (Dd o f i j : Int) → TabI o f w.heap.size i j ((wi.drewN k).setCell ⟨w.heap.size + 1 + (o.length - i), j, none⟩ (.int .i64 z))) := fun k z hz => TabI.put (w := wi.drewN k) ⟨hQ.size, hQ.tab, hQ.rows, hQ.row⟩ hjl hil hz
                have hd1 : Dd o f (i + 1) j ≤ 2000 := by have := Dd_le o f (i + 1) j; omega
                have hd2 : Dd o f i (j + 1) ≤ 2000 := by have := Dd_le o f i (j + 1); omega
                generalize o[i] = so' at *
                generalize f[j] = sf' at *
                generalize Dd o f (i + 1) j = d1 at *
                generalize Dd o f i (j + 1) = d2 at *
                generalize Dd o f i j = d0 at *
                have hDH : Hid (d0 = 1 + min d1 d2) := hDn
                clear hQ hDn
                by_cases hle : d1 ≤ d2
                · have hleI : (d1 : Int) ≤ d2 := by omega
                  go_wp2_with fail
                  go_quiet (fail)
                  go_wp2_with fail
                  go_quiet (fail)
                  go_wp2_with fail
                  go_region
                  go_wp2_with fail
                  go_roundg j
                  · exact ⟨j, rfl, by omega, rfl, hP.out _ _ (by have := hDH.out; omega), (Below.drewN' hbq).setCell (p := ⟨w.heap.size + 1 + (o.length - i), j, none⟩) (by show w.heap.size ≤ w.heap.size + 1 + (o.length - i); omega) _⟩
                  · have := hGq.out; omega
                · have hleI : ¬ ((d1 : Int) ≤ d2) := by omega
                  go_wp2_with fail
                  go_quiet (fail)
                  go_wp2_with fail
                  go_quiet (fail)
                  go_wp2_with fail
                  go_region
                  go_wp2_with fail
                  go_roundg j
                  · exact ⟨j, rfl, by omega, rfl, hP.out _ _ (by have := hDH.out; omega), (Below.drewN' hbq).setCell (p := ⟨w.heap.size + 1 + (o.length - i), j, none⟩) (by show w.heap.size ≤ w.heap.size + 1 + (o.length - i); omega) _⟩
                  · have := hGq.out; omega
end Go.Proofs.YtcclgodahlinbaaGreatDoor

namespace Go.Proofs.YtcclgodahlinbaaGreatDoor
open Go.RowKit Go
set_option maxRecDepth 100000

theorem StepsAt.of_ownsT {T base : Nat} {w : World} {v : Value} {L : List StepB} (h : w.ownsRow base T 2 v L.length (stepCells L)) : StepsAt w.heap.size w v L := by
  by_cases h0 : L.length = 0
  · have : L = [] := List.eq_nil_of_length_eq_zero h0
    subst this
    rcases h.2 with ⟨e, _⟩ | ⟨g, cap, cur, e, _⟩
    · exact .inl ⟨rfl, _, _, e⟩
    · exact .inl ⟨rfl, _, _, e⟩
  · obtain ⟨g, cap, rfl, _, hg, _⟩ := owns_slice h (by omega)
    refine .inr ⟨g, cap, rfl, hg, fun i hi => ?_⟩
    obtain ⟨s0, s1⟩ := stepCells_get L i hi
    exact ⟨(h.cellAt (i * 2) (by omega)).trans s0, (h.cellAt (i * 2 + 1) (by omega)).trans s1⟩
theorem nearI_past {L : List StepB} {c k i : Nat} {bs : List Bool} (h : NearI L c k i bs) (hi : L.length ≤ i) : NearI L c k (i + 1) bs :=
  ⟨h.1, fun j hj => by
    rw [h.2 j hj]
    have e1 : decide (j < i) = true := by simp; omega
    have e2 : decide (j < i + 1) = true := by simp; omega
    rw [e1, e2]⟩
theorem make_bools (n : Nat) (hn : n ≤ 1000) (w : World) : (Instr.makeSlice 97 (.int .i64 (n : Int)) (.int .i64 (n : Int))).run Tryz.prog w = .ok (.slice (some ⟨w.heap.size, 0, none⟩) n n) (w.alloc (.cells (madeCells #[.bool false] n) 4)) :=
  run_make_row' (P := Tryz.prog) 97 4 (.bool false) 1 Tryz.underlying97 info_bool rfl .i64 .i64 n (by omega) (by omega) w
theorem bools_new (n : Nat) (hn : n ≤ 1000) (w : World) : (w.alloc (.cells (madeCells #[.bool false] n) 4)).ownsRow w.heap.size 4 1 (.slice (some ⟨w.heap.size, 0, none⟩) n n) n (boolCells (List.replicate n false)) :=
  ⟨by simp [boolCells], .inr ⟨_, _, _, rfl, Nat.le_refl _, heap_alloc_new w _, Nat.le_refl _, by unfold maxLen; omega, by rw [madeCells_one]; simp, by rw [madeCells_one]; simp [boolCells]⟩⟩
/-- a hunk numbered, by the stores that it takes -/
theorem number_fin {base g n cap i : Nat} {hv : List HV} {w : World} (hs : HSv base g n cap hv w) (hbase : base ≤ w.heap.size) (hgb : base ≤ g) (hi : i < hv.length) (l : List (Nat × Value))
    (hl : (l = [] ∧ numL hv[i].1 = hv[i].1) ∨ (l = [(i * 5, .int .i64 ((numL hv[i].1).fr : Nat))] ∧ (numL hv[i].1).tr = hv[i].1.tr) ∨ (l = [(i * 5 + 2, .int .i64 ((numL hv[i].1).tr : Nat))] ∧ (numL hv[i].1).fr = hv[i].1.fr) ∨ l = [(i * 5, .int .i64 ((numL hv[i].1).fr : Nat)), (i * 5 + 2, .int .i64 ((numL hv[i].1).tr : Nat))]) :
    HSv base g n cap (hv.set i (numL hv[i].1, hv[i].2)) (l.foldl (fun w p => w.setCell ⟨g, p.1, none⟩ p.2) w) ∧ Below base w (l.foldl (fun w p => w.setCell ⟨g, p.1, none⟩ p.2) w) ∧ w.grownBy (l.foldl (fun w p => w.setCell ⟨g, p.1, none⟩ p.2) w) (some g) := by
  obtain ⟨cur, hcur⟩ := owns_block hs.row (g := g) rfl
  have hG := hunkCells_get hv i hi
  have hgr : ∀ (l : List (Nat × Value)) (w : World), w.grownBy (l.foldl (fun w p => w.setCell ⟨g, p.1, none⟩ p.2) w) (some g) := by
    intro l
    induction l with
    | nil => intro w; exact ⟨rfl, rfl, rfl, Nat.le_refl _, fun _ _ _ => rfl⟩
    | cons p l ih => intro w; exact grownBy_trans (grownBy_setCell w g p.1 p.2) (ih _)
  have hgw := hgr l w
  have hrow : (l.foldl (fun w p => w.setCell ⟨g, p.1, none⟩ p.2) w).ownsRow base 61 5 (.slice (some ⟨g, 0, none⟩) n cap) n (hunkCells (hv.set i (numL hv[i].1, hv[i].2))) := by
    refine owns_setHunk hs.row hs.len hi _ (fun cu hcu htk => ?_)
    have hb : (numL hv[i].1).fc = hv[i].1.fc ∧ (numL hv[i].1).tc = hv[i].1.tc := ⟨rfl, rfl⟩
    simp only [hb.1, hb.2]
    rw [two (by rw [htk]; exact hG.2.1) (by rw [htk]; exact hG.2.2.2.1) (by rw [htk]; exact hG.2.2.2.2)]
    rcases hl with ⟨rfl, e⟩ | ⟨rfl, e⟩ | ⟨rfl, e⟩ | rfl
    · refine ⟨cu, hcu, rfl, ?_⟩
      rw [e, set_self' (l := List.take (n * 5) cu.toList) (by rw [htk]; exact hG.1), set_self' (by rw [htk]; exact hG.2.2.1)]
    · refine ⟨_, heap_setCell_same _ _ _ _ _ _ _ hcu, by simp, ?_⟩
      rw [e, set_self' (i := i * 5 + 2) (by rw [List.getElem?_set, htk]; simp [hG.2.2.1])]
      simp [List.take_set]
    · refine ⟨_, heap_setCell_same _ _ _ _ _ _ _ hcu, by simp, ?_⟩
      rw [e, set_self' (i := i * 5) (by rw [htk]; exact hG.1)]
      simp [List.take_set]
    · refine ⟨_, heap_setCell_same _ _ _ _ _ _ _ (heap_setCell_same _ _ _ _ _ _ _ hcu), by simp, ?_⟩
      simp [List.take_set]
  refine ⟨⟨by simp [hs.len], hrow, fun p hp => ?_, ?_⟩, (Below.refl base w).grown hgw hbase (fun k e => by cases e; exact hgb), hgw⟩
  · have key : ∃ q ∈ hv, q.2 = p.2 ∧ q.1.lines = p.1.lines := by
      rcases List.mem_or_eq_of_mem_set hp with h | h
      · exact ⟨p, h, rfl, rfl⟩
      · exact ⟨hv[i], List.getElem_mem hi, by rw [h], by rw [h]; rfl⟩
    obtain ⟨q, hq, e1, e2⟩ := key
    have ho := hs.lines q hq
    have := ho.kept hgw (.inr (owns_ne ho hcur (by decide)))
    rw [e1, e2] at this
    exact this
  · have h0 := hs.apart
    have h1 : (hv.map (·.2)).Pairwise (fun a b : Value => a.ownBlock = none ∨ a.ownBlock ≠ b.ownBlock) := List.pairwise_map.2 h0
    have h2 : (hv.set i (numL hv[i].1, hv[i].2)).map (·.2) = hv.map (·.2) := by
      rw [List.map_set]
      apply List.ext_getElem?
      intro j
      rw [List.getElem?_set]
      split
      · rename_i e; subst e; simp [hi]
      · rfl
    rw [← h2] at h1
    exact List.pairwise_map.1 h1
/-- a line more in the last hunk, by the stores that it takes -/
theorem addLine_end {base g n cap g' cap' O : Nat} {init : List HV} {h : HunkM} {vl : Value} {s : StepB} {w w2 : World} (hs : HSv base g n cap (init ++ [(h, vl)]) w) (hO : init.length * 5 = O)
    (hown : w2.ownsRow base 93 2 (.slice (some ⟨g', 0, none⟩) (h.lines.length + 1) cap') (h.lines.length + 1) (stepCells h.lines ++ [.int .u8 (s.kind : Nat), .string s.text]))
    (hold : ∀ k, k < w.heap.size → some k ≠ vl.ownBlock → w2.heap[k]? = w.heap[k]?)
    (hnew : (Value.slice (some ⟨g', 0, none⟩) (h.lines.length + 1) cap').ownBlock = vl.ownBlock ∨ ∀ k, (Value.slice (some ⟨g', 0, none⟩) (h.lines.length + 1) cap').ownBlock = some k → w.heap.size ≤ k) :
    (s.kind = 32 → HSv base g n cap (init ++ [(addL h s, .slice (some ⟨g', 0, none⟩) (h.lines.length + 1) cap')]) (((w2.setCell ⟨g, O + 4, none⟩ (.slice (some ⟨g', 0, none⟩) (h.lines.length + 1) cap')).setCell ⟨g, O + 1, none⟩ (.int .i64 ((h.fc : Int) + 1))).setCell ⟨g, O + 3, none⟩ (.int .i64 ((h.tc : Int) + 1)))) ∧
    (s.kind = 45 → HSv base g n cap (init ++ [(addL h s, .slice (some ⟨g', 0, none⟩) (h.lines.length + 1) cap')]) ((w2.setCell ⟨g, O + 4, none⟩ (.slice (some ⟨g', 0, none⟩) (h.lines.length + 1) cap')).setCell ⟨g, O + 1, none⟩ (.int .i64 ((h.fc : Int) + 1)))) ∧
    (s.kind = 43 → HSv base g n cap (init ++ [(addL h s, .slice (some ⟨g', 0, none⟩) (h.lines.length + 1) cap')]) ((w2.setCell ⟨g, O + 4, none⟩ (.slice (some ⟨g', 0, none⟩) (h.lines.length + 1) cap')).setCell ⟨g, O + 3, none⟩ (.int .i64 ((h.tc : Int) + 1)))) := by
  have hget := hunkCells_get (init ++ [(h, vl)]) init.length (by simp)
  simp only [last_get, hO] at hget
  refine ⟨fun hk => ?_, fun hk => ?_, fun hk => ?_⟩
  · have hA : (addL h s).fc = h.fc + 1 ∧ (addL h s).tc = h.tc + 1 := by unfold addL; simp [hk]
    refine addLine_fin hs hown hold hnew (grownBy_trans (grownBy_trans (grownBy_setCell _ _ _ _) (grownBy_setCell _ _ _ _)) (grownBy_setCell _ _ _ _)) ?_
    intro cu hcu htk
    obtain ⟨cu', k1, k2, k3⟩ := heap3 (o1 := O + 4) (o2 := O + 1) (o3 := O + 3) (v1 := .slice (some ⟨g', 0, none⟩) (h.lines.length + 1) cap') (v2 := .int .i64 ((h.fc : Int) + 1)) (v3 := .int .i64 ((h.tc : Int) + 1)) hcu (n * 5)
    refine ⟨cu', k1, k2, ?_⟩
    rw [k3, hO, five (by rw [htk]; exact hget.1) (by rw [htk]; exact hget.2.2.1), hA.1, hA.2]
    rfl
  · have hA : (addL h s).fc = h.fc + 1 ∧ (addL h s).tc = h.tc := by unfold addL; simp [hk]
    refine addLine_fin hs hown hold hnew (grownBy_trans (grownBy_setCell _ _ _ _) (grownBy_setCell _ _ _ _)) ?_
    intro cu hcu htk
    obtain ⟨cu', k1, k2, k3⟩ := heap2 (o1 := O + 4) (o2 := O + 1) (v1 := .slice (some ⟨g', 0, none⟩) (h.lines.length + 1) cap') (v2 := .int .i64 ((h.fc : Int) + 1)) hcu (n * 5)
    refine ⟨cu', k1, k2, ?_⟩
    rw [k3, hO, five (by rw [htk]; exact hget.1) (by rw [htk]; exact hget.2.2.1), hA.1, hA.2]
    refine (set_self ?_).symm
    rw [List.getElem?_set, List.getElem?_set, htk]
    simp [hget.2.2.2.1]
  · have hA : (addL h s).fc = h.fc ∧ (addL h s).tc = h.tc + 1 := by unfold addL; simp [hk]
    refine addLine_fin hs hown hold hnew (grownBy_trans (grownBy_setCell _ _ _ _) (grownBy_setCell _ _ _ _)) ?_
    intro cu hcu htk
    obtain ⟨cu', k1, k2, k3⟩ := heap2 (o1 := O + 4) (o2 := O + 3) (v1 := .slice (some ⟨g', 0, none⟩) (h.lines.length + 1) cap') (v2 := .int .i64 ((h.tc : Int) + 1)) hcu (n * 5)
    refine ⟨cu', k1, k2, ?_⟩
    rw [k3, hO, five (by rw [htk]; exact hget.1) (by rw [htk]; exact hget.2.2.1), hA.1, hA.2]
    rw [set_self (l := (List.take (n * 5) cu.toList).set (O + 4) _) (i := O + 1)]
    · rfl
    · rw [List.getElem?_set, htk]; simp [hget.2.1]
end Go.Proofs.YtcclgodahlinbaaGreatDoor

namespace Go.Proofs.YtcclgodahlinbaaGreatDoor
open Go.RowKit Go
set_option maxRecDepth 100000

theorem numL_zero {H : HunkM} (h1 : H.fc = 0) (h2 : H.tc = 0) : numL H = H := by cases H; simp_all [numL]
def diffR (a b : ByteArray) (c : Int) : List HunkM := if checkB a b c = 0 then diffM a b c.toNat else []
abbrev patch0 : Obj := .cells #[.slice none 0 0] 32 (0, 0)
set_option maxHeartbeats 8000000 in
theorem refDiff_any {a b : ByteArray} {c : Int} {w : World} (h1 : a.size ≤ 4000000000) (h2 : b.size ≤ 4000000000) :
    Calls Tryz.prog 20 #[.string a, .string b, .int .i64 c] w fun e w' => ∃ al cl, e = .returned (.tuple #[.agg #[.slice al (diffR a b c).length cl], .int .i64 (checkB a b c)]) ∧ HunksAt w'.heap.size w' (.slice al (diffR a b c).length cl) (diffR a b c) ∧ Below w.heap.size w w' := by
  obtain ⟨j0, ji, jz0, jz1, jz2⟩ := info_parts info_line
  obtain ⟨i0, hinf, ix0, ix1, ix2⟩ := info_parts info_hunk
  obtain ⟨W0, hW0⟩ : ∃ W0, w.alloc (.cells #[.slice none 0 0] 32) = W0 := ⟨_, rfl⟩
  have hP0 : W0.heap[w.heap.size]? = some patch0 := by rw [← hW0]; exact heap_alloc_new w _
  have hz0 : W0.heap.size = w.heap.size + 1 := by rw [← hW0]; simp
  have hb0 : Below w.heap.size w W0 := by rw [← hW0]; exact (Below.refl _ _).alloc (Nat.le_refl _) _
  have hbad : Hid (∀ (k : Int) (W : World), checkB a b c = k → k ≠ 0 → W.heap[w.heap.size]? = some patch0 → Below w.heap.size w W → ∀ e, e = Ending.returned (.tuple #[.agg #[.slice none 0 0], .int .i64 k]) →
      (∃ al cl, e = .returned (.tuple #[.agg #[.slice al (diffR a b c).length cl], .int .i64 (checkB a b c)]) ∧ HunksAt (W.setCell ⟨w.heap.size, 0, none⟩ (.slice none 0 0)).heap.size (W.setCell ⟨w.heap.size, 0, none⟩ (.slice none 0 0)) (.slice al (diffR a b c).length cl) (diffR a b c) ∧ Below w.heap.size w (W.setCell ⟨w.heap.size, 0, none⟩ (.slice none 0 0)))) := by
    intro k W hk hk0 hP hb e he
    have hD : diffR a b c = [] := by unfold diffR; rw [if_neg (by rw [hk]; exact hk0)]
    rw [hD, hk]
    exact ⟨none, 0, he, .inl ⟨rfl, _, _, rfl⟩, hb.setCell (p := ⟨w.heap.size, 0, none⟩) (Nat.le_refl _) _⟩
  go_enter Tryz.func20, Tryz.ntmps20
  go_wp2_with fail
  clear hW0
  refine (refLines_any a W0 h1).mono ?_
  rintro e W1 ⟨a1, c1, rfl, o1, b1⟩
  have z1 := b1.size
  go_wp2_with fail
  refine (refLines_any b W1 h2).mono ?_
  rintro e W2 ⟨a2, c2, rfl, o2, b2⟩
  have z2 := b2.size
  have hbW2 := hb0.trans ((b1.mono (by omega)).trans (b2.mono (by omega)))
  have hP2 : W2.heap[w.heap.size]? = some patch0 := (b2.block w.heap.size (by omega)).trans ((b1.block w.heap.size (by omega)).trans hP0)
  have s1 := Strs.of_owns (owns_below o1 b2 (fun k e => (o1.lt k e).2))
  have s2 := Strs.of_owns o2
  have q0 : W2.cell? ⟨w.heap.size, 0, none⟩ = some (.slice none 0 0) := cell_of hP2 rfl
  have qf : ∀ k, W2.frozen? ⟨w.heap.size, k, none⟩ = false := fun k => frozen_of hP2
  have qr : (W2.setCell ⟨w.heap.size, 0, none⟩ (.slice none 0 0)).cell? ⟨w.heap.size, 0, none⟩ = some (.slice none 0 0) := cell_of (heap_setCell_same _ _ _ _ _ _ _ hP2) rfl
  have hz20 : w.heap.size < W2.heap.size := by omega
  have hT1 : Hid (refOk a = isTextB a ∧ refOk b = isTextB b) := ⟨refOk_is a, refOk_is b⟩
  clear o1 o2 b1 b2 hb0 hP0 z1 z2
  by_cases t1 : refOk a = true
  · by_cases t2 : refOk b = true
    · have i1 : Hid (isTextB a = true ∧ isTextB b = true) := ⟨by rw [← hT1.out.1]; exact t1, by rw [← hT1.out.2]; exact t2⟩
      have r1 : Hid (refL a = linesB a ∧ refL b = linesB b) := ⟨refL_lines t1, refL_lines t2⟩
      rw [t1, t2]
      clear hT1 t1 t2
      go_wp2_with fail
      refine (large_any a W2 h1).mono ?_
      rintro e W3 ⟨rfl, b3⟩
      have z3 := b3.size
      go_wp2_with fail
      refine (large_any b W3 h2).mono ?_
      rintro e W4 ⟨rfl, b4⟩
      have z4 := b4.size
      have hb24 := b3.trans (b4.mono z3)
      have hbW4 := hbW2.trans (hb24.mono (by omega))
      have hP4 : W4.heap[w.heap.size]? = some patch0 := (hb24.block w.heap.size (by omega)).trans hP2
      have s1' := (s1.below hb24).mono hb24.size
      have s2' := (s2.below hb24).mono hb24.size
      have hz40 : w.heap.size < W4.heap.size := by omega
      clear q0 qf qr s1 s2 b3 b4 hb24 hbW2 hP2 z3 z4
      have q0 : W4.cell? ⟨w.heap.size, 0, none⟩ = some (.slice none 0 0) := cell_of hP4 rfl
      have qf : ∀ k, W4.frozen? ⟨w.heap.size, k, none⟩ = false := fun k => frozen_of hP4
      have qr : (W4.setCell ⟨w.heap.size, 0, none⟩ (.slice none 0 0)).cell? ⟨w.heap.size, 0, none⟩ = some (.slice none 0 0) := cell_of (heap_setCell_same _ _ _ _ _ _ _ hP4) rfl
      cases g1 : largeB a with
      | true =>
        have hck : Hid (checkB a b c = 1) := by
          show _ = _
          unfold checkB
          rw [if_neg (by rw [i1.out.1, i1.out.2]; simp), if_pos (.inl g1)]
        clear g1
        go_wp2_with fail
        refine bodyPost_ret (v := .tuple #[.agg #[.slice none 0 0], .int .i64 1]) ?_ rfl (hbad.out 1 W4 hck.out (by decide) hP4 hbW4 _ rfl)
        simp [results, Tryz.results20, go_sem, qr]
      | false =>
      cases g2 : largeB b with
      | true =>
        have hck : Hid (checkB a b c = 1) := by
          show _ = _
          unfold checkB
          rw [if_neg (by rw [i1.out.1, i1.out.2]; simp), if_pos (.inr g2)]
        clear g1 g2
        go_wp2_with fail
        refine bodyPost_ret (v := .tuple #[.agg #[.slice none 0 0], .int .i64 1]) ?_ rfl (hbad.out 1 W4 hck.out (by decide) hP4 hbW4 _ rfl)
        simp [results, Tryz.results20, go_sem, qr]
      | false =>
      by_cases hc0 : c < 0
      · have hck : Hid (checkB a b c = 3) := by
          show _ = _
          unfold checkB
          rw [if_neg (by rw [i1.out.1, i1.out.2]; simp), if_neg (by rw [g1, g2]; simp), if_pos (.inl hc0)]
        clear g1 g2
        go_wp2_with fail
        refine bodyPost_ret (v := .tuple #[.agg #[.slice none 0 0], .int .i64 3]) ?_ rfl (hbad.out 3 W4 hck.out (by decide) hP4 hbW4 _ rfl)
        simp [results, Tryz.results20, go_sem, qr]
      by_cases hc1 : 10 < c
      · have hck : Hid (checkB a b c = 3) := by
          show _ = _
          unfold checkB
          rw [if_neg (by rw [i1.out.1, i1.out.2]; simp), if_neg (by rw [g1, g2]; simp), if_pos (.inr hc1)]
        clear g1 g2
        go_wp2_with fail
        refine bodyPost_ret (v := .tuple #[.agg #[.slice none 0 0], .int .i64 3]) ?_ rfl (hbad.out 3 W4 hck.out (by decide) hP4 hbW4 _ rfl)
        simp [results, Tryz.results20, go_sem, qr]
      obtain ⟨C, rfl⟩ : ∃ C : Nat, c = (C : Int) := ⟨c.toNat, by omega⟩
      have hck : Hid (checkB a b (C : Int) = 0) := by
        show _ = _
        unfold checkB
        rw [if_neg (by rw [i1.out.1, i1.out.2]; simp), if_neg (by rw [g1, g2]; simp), if_neg (by omega)]
      have hC : C ≤ 10 := by omega
      have hC0 : (0 : Int) ≤ (C : Int) := by omega
      have n1 := linesB_few g1
      have n2 := linesB_few g2
      have hD : Hid (diffR a b (C : Int) = hunksM (Dn.wayM (linesB a) (linesB b)) C) := by
        show _ = _
        unfold diffR
        rw [if_pos hck.out]
        rfl
      rw [r1.out.1] at s1' ⊢
      rw [r1.out.2] at s2' ⊢
      have hwl : (Dn.wayM (linesB a) (linesB b)).length ≤ 402 := by have := way_len (linesB a) (linesB b); omega
      have hwk : Hid (∀ s ∈ Dn.wayM (linesB a) (linesB b), s.kind = 32 ∨ s.kind = 45 ∨ s.kind = 43) := (Dn.wayM_way _ _).2.2
      go_wp2_with fail
      refine (way_row s1' s2' (by omega) (by omega)).mono ?_
      rintro e W5 ⟨aw, cw, rfl, ow, b5⟩
      have z5 := b5.size
      have hS := StepsAt.of_ownsT ow
      have hbW5 := hbW4.trans (b5.mono (by omega))
      have hP5 : W5.heap[w.heap.size]? = some patch0 := (b5.block w.heap.size (by omega)).trans hP4
      have hz50 : w.heap.size < W5.heap.size := by omega
      clear g1 g2 i1 r1 hbad s1' s2' q0 qf qr ow b5 hbW4 hP4 z5 hc0 hc1
      generalize Dn.wayM (linesB a) (linesB b) = L at *
      have hmk := make_bools L.length (by omega)
      have hob := bools_new L.length (by omega) W5
      have hb6 := (Below.refl W5.heap.size W5).alloc (Nat.le_refl _) (.cells (madeCells #[.bool false] L.length) 4)
      have hn0 : Hid (Near L C 0 (List.replicate L.length false)) := ⟨by simp, fun j hj => by simp [nearU, List.getD, hj]⟩
      go_wp2_with fail
      go_loopg [16, 17] L.length (fun g t tk wr => ∃ (i : Nat) (bs : List Bool), g = L.length - i ∧ i ≤ L.length ∧ t = .int .i64 i ∧ Hid (Near L C i bs) ∧ wr.ownsRow W5.heap.size 4 1 (.slice (some ⟨W5.heap.size, 0, none⟩) L.length L.length) L.length (boolCells bs) ∧ Below W5.heap.size W5 wr)
      case atStart => exact ⟨0, _, by omega, by omega, rfl, hn0, hob, hb6⟩
      case round =>
        obtain ⟨i, bs, hgi, hil, rfl, hnear, hrow, hbel⟩ := hrel
        have hG : Hid (gk = L.length - i) := hgi
        clear hgi hob hb6 hn0 hmk
        by_cases hi : i < L.length
        · have hiI : (i : Int) < L.length := by omega
          obtain ⟨bw, rfl, hbw, r0, _⟩ := hS.at hi
          have hr0 : Hid (∀ W, Below W5.heap.size W5 W → W.cell? ⟨bw, i * 2, none⟩ = some (.int .u8 (L[i].kind : Nat))) := fun W hb => (hb.cell (p := ⟨bw, i * 2, none⟩) hbw).trans r0
          clear r0
          have hend : Hid (∀ k bs', NearI L C i k bs' → L[i].kind ≠ 32 → (i + C < k ∨ L.length ≤ k) → k ≤ i + C + 1 → Near L C (i + 1) bs') := fun k bs' h1 h0 h2 h3 => nearI_end h1 hi h0 h2 h3
          have hkeep : Hid (∀ bs', Near L C i bs' → L[i].kind = 32 → Near L C (i + 1) bs') := fun bs' h1 h0 => near_keep h1 hi h0
          have hst : Hid (L[i].kind ≠ 32 → NearI L C i ((i : Int) - C).toNat bs) := fun _ => by
            have := nearI_start hnear.out
            rw [show ((i : Int) - C).toNat = i - C by omega]
            exact this
          generalize L[i].kind = K at *
          go_wp2_with fail
          go_loopg [17] (2 * C + 1) (fun g t wi => ∃ (kz : Int) (bs' : List Bool), kz + g = i + C + 1 ∧ (i : Int) - C ≤ kz ∧ t = .int .i64 kz ∧ Hid ((K = 32 → Near L C i bs') ∧ (K ≠ 32 → NearI L C i kz.toNat bs')) ∧ wi.ownsRow W5.heap.size 4 1 (.slice (some ⟨W5.heap.size, 0, none⟩) L.length L.length) L.length (boolCells bs') ∧ Below W5.heap.size W5 wi)
          case atStart => exact ⟨(i : Int) - C, bs, by push_cast; omega, by omega, rfl, ⟨fun _ => hnear.out, hst.out⟩, hrow, hbel⟩
          case round =>
            rename World => wi
            obtain ⟨kz, bs', hgk, hk1, rfl, hN, hrow2, hbel2⟩ := hrel
            have hGk : Hid (kz + _ = i + C + 1) := hgk
            clear hrow hbel hst hgk
            have r0 := hr0.out wi hbel2
            have hfz := owns_frozen hrow2
            have hkz : -10 ≤ kz ∧ kz ≤ 2000 := by have := hGk.out; omega
            by_cases hkI : kz ≤ (i : Int) + C
            · by_cases hK : K = 32
              · have r0' : wi.cell? ⟨bw, i * 2, none⟩ = some (.int .u8 32) := by rw [r0, hK]; rfl
                clear r0
                go_wp2_with fail
                go_roundg (gk - 1)
                · exact ⟨kz + 1, bs', by have := hGk.out; omega, by omega, rfl, ⟨hN.out.1, fun h => absurd hK h⟩, hrow2, hbel2⟩
                · have := hGk.out; omega
              · have hne : (((K : Nat) : Int) == 32) = false := by rw [beq_eq_false_iff_ne]; omega
                by_cases h0 : 0 ≤ kz
                · obtain ⟨kn, rfl⟩ : ∃ kn : Nat, kz = (kn : Int) := ⟨kz.toNat, by omega⟩
                  have hN2 : NearI L C i kn bs' := hN.out.2 hK
                  by_cases h1 : kn < L.length
                  · have h1I : (kn : Int) < L.length := by omega
                    have hlb : bs'.length = L.length := hN2.1
                    have hcell := owns_bool hrow2 (i := kn) (by omega)
                    have hN3 : Hid (NearI L C i (kn + 1) (bs'.set kn true)) := nearI_step hN2 h1 (by omega)
                    have hr3 := owns_setBool hrow2 kn true
                    have hb3 := hbel2.setCell (p := ⟨W5.heap.size, kn, none⟩) (Nat.le_refl _) (.bool true)
                    generalize bs'.getD kn false = bb at hcell
                    clear hlb hN2
                    go_wp2_with fail
                    go_roundg (gk - 1)
                    · exact ⟨(kn : Int) + 1, bs'.set kn true, by have := hGk.out; omega, by omega, rfl, ⟨fun h => absurd h hK, fun _ => by rw [show ((kn : Int) + 1).toNat = kn + 1 by omega]; exact hN3.out⟩, hr3, hb3⟩
                    · have := hGk.out; omega
                  · have h1I : ¬ ((kn : Int) < L.length) := by omega
                    have hN3 : Hid (NearI L C i (kn + 1) bs') := nearI_past hN2 (by omega)
                    clear hN2
                    go_wp2_with fail
                    go_roundg (gk - 1)
                    · exact ⟨(kn : Int) + 1, bs', by have := hGk.out; omega, by omega, rfl, ⟨fun h => absurd h hK, fun _ => by rw [show ((kn : Int) + 1).toNat = kn + 1 by omega]; exact hN3.out⟩, hrow2, hbel2⟩
                    · have := hGk.out; omega
                · go_wp2_with fail
                  go_roundg (gk - 1)
                  · exact ⟨kz + 1, bs', by have := hGk.out; omega, by omega, rfl, ⟨fun h => absurd h hK, fun _ => by have := hN.out.2 hK; rw [show (kz + 1).toNat = kz.toNat by omega]; exact this⟩, hrow2, hbel2⟩
                  · have := hGk.out; omega
            · have hF : Hid (Near L C (i + 1) bs') := by
                by_cases hK : K = 32
                · exact hkeep.out bs' (hN.out.1 hK) hK
                · have := hGk.out
                  exact hend.out kz.toNat bs' (hN.out.2 hK) hK (.inl (by omega)) (by omega)
              go_wp2_with fail
              go_roundg (L.length - (i + 1))
              · exact ⟨i + 1, bs', rfl, by omega, by push_cast; rfl, hF, hrow2, hbel2⟩
              · have := hG.out; omega
        · obtain rfl : i = L.length := by omega
          have hNB : Hid (bs = nearB L C) := near_end hnear.out
          have hlb : bs.length = L.length := hnear.out.1
          have hiI : ¬ ((L.length : Int) < L.length) := by omega
          have hDD : Hid (diffR a b (C : Int) = (foldH L bs L.length).hs.map numL) := by show _ = _; rw [hD.out, hNB.out]; rfl
          have hzr := hbel.size
          have hzr2 : W5.heap.size < wr.heap.size := (hrow.lt _ rfl).2
          have hP6 : wr.heap[w.heap.size]? = some patch0 := (hbel.block w.heap.size (by omega)).trans hP5
          have hbW6 := hbW5.trans (hbel.mono (by omega))
          have hS6 := hS.below hbel
          have hbo : Hid (∀ W, Below wr.heap.size wr W → ∀ k, k < L.length → W.cell? ⟨W5.heap.size, k, none⟩ = some (.bool (bs.getD k false))) := fun W hb k hk => (hb.cell (p := ⟨W5.heap.size, k, none⟩) hzr2).trans (owns_bool hrow (by omega))
          have hsteps : Hid (∀ W, Below wr.heap.size wr W → StepsAt W5.heap.size W (.slice aw L.length cw) L) := fun W hb => hS6.below (hb.mono (by omega))
          have hPn := heap_alloc_new wr (.cells #[.slice none 0 0] 32)
          have hPz : (wr.alloc (.cells #[.slice none 0 0] 32)).heap.size = wr.heap.size + 1 := by simp
          have hPb := (Below.refl wr.heap.size wr).alloc (Nat.le_refl _) (.cells #[.slice none 0 0] 32)
          have x0 : (wr.alloc (.cells #[.slice none 0 0] 32)).cell? ⟨wr.heap.size, 0, none⟩ = some (.slice none 0 0) := cell_of hPn rfl
          have xf : ∀ k, (wr.alloc (.cells #[.slice none 0 0] 32)).frozen? ⟨wr.heap.size, k, none⟩ = false := fun k => frozen_of hPn
          clear hNB hrow hbel hnear hS hS6 hbW5 hP5 hD
          go_wp2_with fail
          have hPz' : Hid ((wr.alloc (.cells #[.slice none 0 0] 32)).heap.size = wr.heap.size + 1) := hPz
          generalize hPBe : wr.heap.size = PB at *
          generalize hw7 : wr.alloc (.cells #[.slice none 0 0] 32) = w8 at *
          have hPB : Hid (wr.heap.size = PB) := hPBe
          clear hPBe hw7 hPz x0 xf
          go_loopg [19, 20, 21] L.length (fun g t19 t20 t21 wk => ∃ (k : Nat) (v : Value) (hv : List HV), g = L.length - k ∧ k ≤ L.length ∧ t21 = .int .i64 k ∧ t19 = .int .i64 (foldH L bs k).og ∧ t20 = .int .i64 (foldH L bs k).fg ∧ HSo (PB + 1) v hv wk ∧ Hid (hv.map (·.1) = (foldH L bs k).hs) ∧ wk.heap[PB]? = some (.cells #[v] 32 (0, 0)) ∧ Below PB wr wk)
          case atStart => exact ⟨0, _, [], by omega, by omega, rfl, rfl, rfl, .inl ⟨rfl, rfl⟩, rfl, hPn, hPb⟩
          case round =>
            rename World => wk
            obtain ⟨k, v, hv, hgk, hkl, rfl, rfl, rfl, hso, hmap, hQ, hbk⟩ := hrel
            have hG2 : Hid (_ = L.length - k) := hgk
            clear hgk hPn hPb
            obtain ⟨q1, q2, q3, q4, q5⟩ := foldH_bounds L bs k
            have hvlen : Hid (hv.length = (foldH L bs k).hs.length) := by show _ = _; rw [← hmap.out, List.length_map]
            have hvl' : hv.length ≤ 1000 := by have := hvlen.out; omega
            have hkz := hbk.size
            by_cases hlt : k < L.length
            · have hltI : (k : Int) < L.length := by omega
              obtain ⟨bw, rfl, hbw, _, _⟩ := (hsteps.out wr (Below.refl _ _)).at hlt
              have hxs : Hid (∀ W, Below PB wr W → W.cell? ⟨bw, k * 2, none⟩ = some (.int .u8 (L[k].kind : Nat)) ∧ W.cell? ⟨bw, k * 2 + 1, none⟩ = some (.string L[k].text)) := fun W hb => by
                obtain ⟨b', e, _, h0, h1⟩ := (hsteps.out W hb).at hlt
                cases e
                exact ⟨h0, h1⟩
              have hkk := hwk.out _ (List.getElem_mem hlt)
              have hfold : Hid (foldH L bs (k + 1) = _) := foldH_succ (nb := bs) hlt
              obtain ⟨s, hs⟩ : ∃ s, L[k] = s := ⟨_, rfl⟩
              rw [hs] at hxs hkk hfold
              clear hs
              have hone : ∀ u ∈ [Value.int .u8 (s.kind : Int), Value.string s.text], u.oneCell' = true := by intro u hu; simp at hu; rcases hu with rfl | rfl <;> rfl
              have hbwP : bw < PB := by omega
              have hog : Hid ((foldH L bs (k + 1)).og = (foldH L bs k).og + (if s.kind = 43 then 0 else 1) ∧ (foldH L bs (k + 1)).fg = (foldH L bs k).fg + (if s.kind = 45 then 0 else 1)) := by
                show _ ∧ _
                rw [hfold.out]; exact ⟨rfl, rfl⟩
              have hhs : Hid ((foldH L bs (k + 1)).hs = stepHs (bs.getD k false) (decide (0 < k) && bs.getD (k - 1) false) s (foldH L bs k)) := by
                show _ = _
                rw [hfold.out]
              clear hfold
              have hnbc := hbo.out wk hbk k hlt
              obtain ⟨nb, hnb⟩ : ∃ nb, bs.getD k false = nb := ⟨_, rfl⟩
              have hnbH : Hid (bs.getD k false = nb) := hnb
              rw [hnb] at hnbc hhs
              obtain ⟨pb, hpb⟩ : ∃ pb, (decide (0 < k) && bs.getD (k - 1) false) = pb := ⟨_, rfl⟩
              rw [hpb] at hhs
              have hpc : Hid (k ≠ 0 → wk.cell? ⟨W5.heap.size, ((k : Int) - 1).toNat, none⟩ = some (.bool pb)) := by
                intro h0
                have h1 : decide (0 < k) = true := by simp; omega
                rw [show ((k : Int) - 1).toNat = k - 1 by omega, hbo.out wk hbk (k - 1) (by omega), ← hpb, h1, Bool.true_and]
              have hpb0 : Hid (k = 0 → pb = false) := by intro h0; rw [← hpb, h0]; rfl
              have hq5 : Hid (pb = true → (foldH L bs k).hs ≠ []) := by
                intro h1
                rw [← hpb] at h1
                simp at h1
                exact q5 h1.1 hkl (by simpa using h1.2)
              have hq4 : Hid (∀ h ∈ (foldH L bs k).hs, h.fc ≤ 1000 ∧ h.tc ≤ 1000 ∧ h.lines.length ≤ 1000) := fun h hh => by have := q4 h hh; omega
              obtain ⟨og, hogE⟩ : ∃ og, (foldH L bs k).og = og := ⟨_, rfl⟩
              obtain ⟨fg, hfgE⟩ : ∃ fg, (foldH L bs k).fg = fg := ⟨_, rfl⟩
              have hogH : Hid ((foldH L bs k).og = og ∧ (foldH L bs k).fg = fg) := ⟨hogE, hfgE⟩
              rw [hogE] at q1 ⊢
              rw [hfgE] at q2 ⊢
              clear hnb hpb hogE hfgE q4 q5
              go_upto_region 27 with fail
              go_cut [121] (fun s121 wx => s121 = .bool (nb && !pb) ∧ wk = wx)
              case first =>
                cases nb with
                | false =>
                  go_wp2_with fail
                  go_meet
                  case rel => exact ⟨rfl, rfl⟩
                | true =>
                  by_cases hk0 : k = 0
                  · have hp0 := hpb0.out hk0
                    subst hk0
                    subst hp0
                    go_wp2_with fail
                    go_meet
                    case rel => exact ⟨rfl, rfl⟩
                  · have hk0I : (((k : Nat) : Int) == 0) = false := by simp; omega
                    have hpc' := hpc.out hk0
                    have hpc2 := hpc'
                    rw [show ((k : Int) - 1).toNat = k - 1 by omega] at hpc2
                    cases pb with
                    | false =>
                      go_wp2_with fail
                      go_meet
                      case rel => exact ⟨rfl, rfl⟩
                    | true =>
                      go_wp2_with fail
                      go_meet
                      case rel => exact ⟨rfl, rfl⟩
              case rest =>
                obtain ⟨rfl, rfl⟩ := hcut
                clear hpc hnbc
                go_upto_if 121 with fail
                go_cut [] (fun wx => ∃ (v2 : Value) (hv2 : List HV), HSo (PB + 1) v2 hv2 wx ∧ Hid (hv2.map (·.1) = if (nb && !pb) = true then (foldH L bs k).hs ++ [newHunk og fg] else (foldH L bs k).hs) ∧ wx.heap[PB]? = some (.cells #[v2] 32 (0, 0)) ∧ Below PB wr wx)
                case first =>
                  cases hN : (nb && !pb) with
                  | false =>
                    go_wp2_with fail
                    go_meet
                    case rel => exact ⟨v, hv, hso, by show _ = _; rw [hmap.out, hN]; simp, hQ, hbk⟩
                  | true =>
                    have hone5 : ∀ u ∈ [Value.int .i64 (og : Int), .int .i64 0, .int .i64 (fg : Int), .int .i64 0, .slice none 0 0], u.oneCell' = true := by intro u hu; simp at hu; rcases hu with rfl | rfl | rfl | rfl | rfl <;> rfl
                    have hm1 : hv.length + 1 ≤ maxLen := by unfold maxLen; omega
                    have hm2 : (hv.length + 1) * 56 ≤ 140737488355328 := by omega
                    have hPk : PB < wk.heap.size := (Array.getElem?_eq_some_iff.1 hQ).1
                    have hbs : ∀ ob, PB + 1 ≤ (wk.alloc ob).heap.size := by intro ob; simp; omega
                    have hown := hso.owns
                    have pk : wk.cell? ⟨PB, 0, none⟩ = some v := cell_of hQ rfl
                    have hpushed : Hid (∀ (ob : Obj) (w2 : World) (g' cap' : Nat), (wk.alloc ob).grownBy w2 v.ownBlock → w2.ownsRow (PB + 1) 61 5 (.slice (some ⟨g', 0, none⟩) (hv.length + 1) cap') (hv.length + 1) (hunkCells hv ++ [.int .i64 (og : Int), .int .i64 0, .int .i64 (fg : Int), .int .i64 0, .slice none 0 0]) → PB + 1 ≤ g' →
                        w2.heap[PB]? = some (.cells #[v] 32 (0, 0)) ∧ ∃ (v2 : Value) (hv2 : List HV), HSo (PB + 1) v2 hv2 (w2.setCell ⟨PB, 0, none⟩ (.slice (some ⟨g', 0, none⟩) (hv.length + 1) cap')) ∧ Hid (hv2.map (·.1) = if (nb && !pb) = true then (foldH L bs k).hs ++ [newHunk og fg] else (foldH L bs k).hs) ∧ (w2.setCell ⟨PB, 0, none⟩ (.slice (some ⟨g', 0, none⟩) (hv.length + 1) cap')).heap[PB]? = some (.cells #[v2] 32 (0, 0)) ∧ Below PB wr (w2.setCell ⟨PB, 0, none⟩ (.slice (some ⟨g', 0, none⟩) (hv.length + 1) cap'))) := by
                      intro ob w2 g' cap' h2 h1 h3
                      have hp := hso.push (newHunk og fg) rfl h2 h1
                      have hx : w2.heap[PB]? = some (.cells #[v] 32 (0, 0)) := by
                        rw [h2.block PB (by simp; omega) (fun e => by have := (hown.lt PB e.symm).1; omega)]
                        exact (Below.heap_alloc wk ob PB hPk).trans hQ
                      have hso2 : HSo (PB + 1) (.slice (some ⟨g', 0, none⟩) (hv.length + 1) cap') (hv ++ [(newHunk og fg, .slice none 0 0)]) w2 := .inr ⟨g', cap', by simp, h3, hp⟩
                      have hb2 : Below PB wr w2 := (hbk.alloc (by omega) ob).grown h2 (by simp; omega) (fun j e => by have := (hown.lt j e).1; omega)
                      refine ⟨hx, _, _, hso2.kept (row := some PB) (grownBy_setCell _ _ _ _) (fun k e => .inr ?_), ?_, ?_, hb2.setCell (p := ⟨PB, 0, none⟩) (Nat.le_refl _) _⟩
                      · cases e
                        exact ⟨_, _, _, hx, by decide, by decide⟩
                      · show _ = _
                        rw [if_pos hN, List.map_append, hmap.out]
                        rfl
                      · rw [heap_setCell_same _ _ _ _ _ _ _ hx]
                        rfl
                    go_wp2_with (at_builtin; refine wpList_append_own2 rfl (.tmp 123) (.tmp 127) 30 rfl (PB + 1) 61 i0 _ 5 56 Tryz.underlying30 hinf ix0 ix1 ix2 rfl (by decide) v hv.length (hunkCells hv) rfl (hown.alloc _) ⟨wk.heap.size, 0, none⟩ 1 1 [.int .i64 (og : Int), .int .i64 0, .int .i64 (fg : Int), .int .i64 0, .slice none 0 0] rfl rfl (cells_new wk _ _) hone5 hm1 hm2 (hbs _) ?_; intro v' w2 hown' hgrow _; obtain ⟨g', cap', rfl, hg', _⟩ := owns_slice hown' (Nat.succ_pos _); obtain ⟨hx2, hR⟩ := hpushed.out _ w2 g' cap' hgrow hown' hg'; have p2 : w2.cell? ⟨PB, 0, none⟩ = some v := cell_of hx2 rfl; have pf2 : ∀ k, w2.frozen? ⟨PB, k, none⟩ = false := fun k => frozen_of hx2; clear hx2 hown' hgrow hg')
                    go_meet
                    case rel => exact hR
                case rest =>
                  obtain ⟨v2, hv2, hso2, hmap2, hQ2, hb2⟩ := hcut
                  obtain ⟨U, rfl⟩ : ∃ U, U = wc := ⟨_, rfl⟩
                  have hvl2 : Hid (hv2.length = (if (nb && !pb) = true then (foldH L bs k).hs ++ [newHunk og fg] else (foldH L bs k).hs).length) := by show _ = _; rw [← hmap2.out, List.length_map]
                  clear hso hmap hQ hbk hvlen hvl' hkz
                  have nbU := (hbo.out U hb2 k hlt).trans (by rw [hnbH.out])
                  have hUz := hb2.size
                  go_upto_if 133 with fail
                  go_cut [] (fun wx => ∃ (v3 : Value) (hv3 : List HV), HSo (PB + 1) v3 hv3 wx ∧ Hid (hv3.map (·.1) = (foldH L bs (k + 1)).hs) ∧ wx.heap[PB]? = some (.cells #[v3] 32 (0, 0)) ∧ Below PB wr wx)
                  case first =>
                    cases nb with
                    | false =>
                      go_wp2_with fail
                      go_meet
                      case rel => exact ⟨v2, hv2, hso2, by show _ = _; rw [hmap2.out, hhs.out]; simp [stepHs], hQ2, hb2⟩
                    | true =>
                      have hstep0 : Hid ((foldH L bs (k + 1)).hs = lastAdd (hv2.map (·.1)) s) := by
                        show _ = _
                        rw [hhs.out, hmap2.out, ← hogH.out.1, ← hogH.out.2]
                        cases pb <;> rfl
                      have hne : hv2 ≠ [] := fun e => by
                        have h1 := hmap2.out
                        rw [e] at h1
                        cases pb with
                        | true => exact hq5.out rfl (by simpa using h1.symm)
                        | false => simp at h1
                      have hbd2 : Hid (∀ h ∈ hv2.map (·.1), h.fc ≤ 1000 ∧ h.tc ≤ 1000 ∧ h.lines.length ≤ 1000) := by
                        intro h hh
                        rw [hmap2.out] at hh
                        cases pb with
                        | true => exact hq4.out h (by simpa using hh)
                        | false =>
                          simp only [Bool.not_false, Bool.and_self, if_true] at hh
                          rcases List.mem_append.1 hh with h1 | h1
                          · exact hq4.out h h1
                          · rw [List.mem_singleton] at h1; subst h1; exact ⟨Nat.zero_le _, Nat.zero_le _, Nat.zero_le _⟩
                      have hvl' : hv2.length ≤ 1001 := by
                        have h1 := hvl2.out
                        cases pb with
                        | true => simp at h1; omega
                        | false => simp at h1; omega
                      obtain ⟨init, h, vl, rfl⟩ : ∃ init h vl, hv2 = init ++ [(h, vl)] := ⟨hv2.dropLast, (hv2.getLast hne).1, (hv2.getLast hne).2, (List.dropLast_concat_getLast hne).symm⟩
                      rcases hso2 with ⟨e, _⟩ | ⟨g, cap, rfl, hgb, hsv⟩
                      · simp at e
                      rw [show (init ++ [(h, vl)]).length = init.length + 1 by simp] at hsv hvl'
                      rw [show (init ++ [(h, vl)]).length = init.length + 1 by simp] at hQ2
                      have hbd := hbd2.out h (by simp)
                      have hstep : Hid (init.map (·.1) ++ [addL h s] = (foldH L bs (k + 1)).hs) := by
                        show _ = _
                        rw [hstep0.out]
                        simp [lastAdd_append]
                      have hbU := hb2
                      have hU := hQ2
                      clear hb2 hQ2 hmap2 hbd2 hne
                      have hvl := hsv.lines (h, vl) (by simp)
                      have hvlW : Hid _ := hvl
                      obtain ⟨cur, hcur⟩ := owns_block hsv.row (g := g) rfl
                      have hgw : g < U.heap.size := (Array.getElem?_eq_some_iff.1 hcur).1
                      have hge : vl.ownBlock ≠ some g := owns_ne hvl hcur (by decide)
                      obtain ⟨d0, d1, d2, d3, d4⟩ := owns_hunk hsv.row (i := init.length) (by simp)
                      simp only [last_get] at d0 d1 d2 d3 d4
                      have dfz : ∀ k, U.frozen? ⟨g, k, none⟩ = false := fun k => frozen_of hcur
                      obtain ⟨x0, x1⟩ := hxs.out U hbU
                      have pU : U.cell? ⟨PB, 0, none⟩ = some (.slice (some ⟨g, 0, none⟩) (init.length + 1) cap) := cell_of hU rfl
                      have hPU : PB < U.heap.size := (Array.getElem?_eq_some_iff.1 hU).1
                      have hY : Hid (∀ ob w2, (U.drew.alloc ob).grownBy w2 vl.ownBlock → w2.heap[g]? = U.heap[g]? ∧ w2.heap[bw]? = U.heap[bw]? ∧ w2.heap[PB]? = U.heap[PB]? ∧ (∀ k, k < U.heap.size → some k ≠ vl.ownBlock → w2.heap[k]? = U.heap[k]?) ∧ Below (PB + 1) U w2 ∧ U.heap.size ≤ w2.heap.size) := by
                        intro ob w2 hg
                        have hk1 : ∀ k, k < U.heap.size → some k ≠ vl.ownBlock → w2.heap[k]? = U.heap[k]? := by
                          intro k hk hne
                          rw [hg.block k (by simp; omega) hne, Below.heap_alloc U.drew ob k (by simp; omega)]
                          rfl
                        refine ⟨hk1 g hgw (fun e => hge e.symm), hk1 bw (by omega) (fun e => by have := (hvl.lt bw e.symm).1; omega), hk1 PB hPU (fun e => by have := (hvl.lt PB e.symm).1; omega), hk1, ?_, ?_⟩
                        · exact (((Below.refl (PB + 1) U).drew).alloc (by simp; omega) ob).grown hg (by simp; omega) (fun k e => (hvl.lt k e).1)
                        · have := hg.size; simp at this; omega
                      have hm1 : h.lines.length + 1 ≤ maxLen := by unfold maxLen; omega
                      have hm2 : (h.lines.length + 1) * 24 ≤ 140737488355328 := by omega
                      have hbs : ∀ ob, PB + 1 ≤ (U.drew.alloc ob).heap.size := by intro ob; simp; omega
                      have hwv : IntKind.i64.wrap (init.length : Int) = init.length := by rw [IntKind.wrap_i64]; omega
                      have hix : (init.length : Int) < ((init.length + 1 : Nat) : Int) := by omega
                      have hix2 : (init.length : Int) < (init.length : Int) + 1 := by omega
                      obtain ⟨O, hO⟩ : ∃ O, init.length * 5 = O := ⟨_, rfl⟩
                      rw [hO] at d0 d1 d2 d3 d4
                      have hOH : Hid (init.length * 5 = O) := hO
                      clear hvl' hvl2
                      have hgbw : ¬ g = bw := by omega
                      have hgbw' : ¬ bw = g := by omega
                      have hgPB : ¬ PB = g := by omega
                      have hend : Hid (∀ (w2 W : World) (g' cap' : Nat), w2.heap[PB]? = U.heap[PB]? → Below (PB + 1) U w2 → HSv (PB + 1) g (init.length + 1) cap (init ++ [(addL h s, .slice (some ⟨g', 0, none⟩) (h.lines.length + 1) cap')]) W → W.heap[PB]? = w2.heap[PB]? → Below PB w2 W →
                          HSo (PB + 1) (.slice (some ⟨g, 0, none⟩) (init.length + 1) cap) (init ++ [(addL h s, .slice (some ⟨g', 0, none⟩) (h.lines.length + 1) cap')]) W ∧ Hid (List.map (fun p : HV => p.1) (init ++ [(addL h s, .slice (some ⟨g', 0, none⟩) (h.lines.length + 1) cap')]) = (foldH L bs (k + 1)).hs) ∧ W.heap[PB]? = some (.cells #[.slice (some ⟨g, 0, none⟩) (init.length + 1) cap] 32 (0, 0)) ∧ Below PB wr W) := by
                        intro w2 W g' cap' p1 p2 p3 p4 p5
                        exact ⟨.inr ⟨g, cap, by simp, hgb, by simpa using p3⟩, by show _ = _; rw [← hstep.out]; simp, p4.trans (p1.trans hU), hbU.trans ((p2.mono (Nat.le_succ PB)).trans p5)⟩
                      have hfin : Hid (∀ (w2 : World) (g' cap' : Nat), w2.ownsRow (PB + 1) 93 2 (.slice (some ⟨g', 0, none⟩) (h.lines.length + 1) cap') (h.lines.length + 1) (stepCells h.lines ++ [.int .u8 (s.kind : Nat), .string s.text]) → (∀ k, k < U.heap.size → some k ≠ vl.ownBlock → w2.heap[k]? = U.heap[k]?) → ((Value.slice (some ⟨g', 0, none⟩) (h.lines.length + 1) cap').ownBlock = vl.ownBlock ∨ ∀ k, (Value.slice (some ⟨g', 0, none⟩) (h.lines.length + 1) cap').ownBlock = some k → U.heap.size ≤ k) → _) := fun w2 g' cap' p1 p2 p3 => addLine_end (s := s) hsv hO p1 p2 p3
                      have hbwU : bw < U.heap.size := by omega
                      clear hstep hsv hvl hcur d0 d2 hge
                      go_wp2_with fail
                      have hvl := hvlW.out
                      go_region_law (refine step_append_own rfl (.tmp 145) (.tmp 150) 59 rfl (PB + 1) 93 j0 _ 2 24 Tryz.underlying59 ji jz0 jz1 jz2 rfl (by decide) vl h.lines.length (stepCells h.lines) (by simp [Act.eval]) (World.ownsRow.alloc (w := U.drew) hvl _) ⟨U.heap.size, 0, none⟩ 1 1 [.int .u8 (s.kind : Int), .string s.text] (by simp [Act.eval]) rfl (cells_new U.drew _ _) hone hm1 hm2 (hbs _) ?_; intro vl' w2 hown' hgrow hnew; obtain ⟨g', cap', rfl, _, _⟩ := owns_slice hown' (Nat.succ_pos _); obtain ⟨e1, e2, e3, e4, e5, e6⟩ := hY.out _ w2 hgrow; have f1 := (World.cell?_of_block (a := ⟨g, O + 1, none⟩) e1).trans d1; have f3 := (World.cell?_of_block (a := ⟨g, O + 3, none⟩) e1).trans d3; have f4 := (World.cell?_of_block (a := ⟨g, O + 4, none⟩) e1).trans d4; have ff := fun k => (World.frozen?_of_block (a := ⟨g, k, none⟩) e1).trans (dfz k); have y0 := (World.cell?_of_block (a := ⟨bw, k * 2, none⟩) e2).trans x0)
                      all_goals
                        have E : Hid (w2.heap[PB]? = U.heap[PB]? ∧ Below (PB + 1) U w2) := ⟨e3, e5⟩
                        have hF := hfin.out w2 g' cap' hown' e4 (hnew.imp id (fun hh k e => by have h1 := hh k e; simp at h1; omega))
                        have hFH : Hid _ := hF
                        clear hF e1 e2 e3 e4 e5 e6 hY hvl hown' hgrow hnew
                        rcases hkk with hkk | hkk | hkk
                        · have y1 : w2.cell? ⟨bw, k * 2, none⟩ = some (.int .u8 32) := by rw [y0, hkk]; rfl
                          clear y0
                          have hR := hend.out w2 _ g' cap' E.out.1 E.out.2 (hFH.out.1 hkk) (by rw [heap_setCell_other _ _ _ _ _ hgPB, heap_setCell_other _ _ _ _ _ hgPB, heap_setCell_other _ _ _ _ _ hgPB]) ((((Below.refl PB w2).setCell (p := ⟨g, O + 4, none⟩) (by show PB ≤ g; omega) _).setCell (p := ⟨g, O + 1, none⟩) (by show PB ≤ g; omega) _).setCell (p := ⟨g, O + 3, none⟩) (by show PB ≤ g; omega) _)
                          have hRH : Hid _ := hR
                          clear hR
                          go_wp2_with fail
                          go_meet
                          case rel => exact ⟨_, _, hRH.out⟩
                        · have y1 : w2.cell? ⟨bw, k * 2, none⟩ = some (.int .u8 45) := by rw [y0, hkk]; rfl
                          clear y0
                          have hR := hend.out w2 _ g' cap' E.out.1 E.out.2 (hFH.out.2.1 hkk) (by rw [heap_setCell_other _ _ _ _ _ hgPB, heap_setCell_other _ _ _ _ _ hgPB]) (((Below.refl PB w2).setCell (p := ⟨g, O + 4, none⟩) (by show PB ≤ g; omega) _).setCell (p := ⟨g, O + 1, none⟩) (by show PB ≤ g; omega) _)
                          have hRH : Hid _ := hR
                          clear hR
                          go_wp2_with fail
                          go_meet
                          case rel => exact ⟨_, _, hRH.out⟩
                        · have y1 : w2.cell? ⟨bw, k * 2, none⟩ = some (.int .u8 43) := by rw [y0, hkk]; rfl
                          clear y0
                          have hR := hend.out w2 _ g' cap' E.out.1 E.out.2 (hFH.out.2.2 hkk) (by rw [heap_setCell_other _ _ _ _ _ hgPB, heap_setCell_other _ _ _ _ _ hgPB]) (((Below.refl PB w2).setCell (p := ⟨g, O + 4, none⟩) (by show PB ≤ g; omega) _).setCell (p := ⟨g, O + 3, none⟩) (by show PB ≤ g; omega) _)
                          have hRH : Hid _ := hR
                          clear hR
                          go_wp2_with fail
                          go_meet
                          case rel => exact ⟨_, _, hRH.out⟩
                  case rest =>
                    obtain ⟨v3, hv3, hR⟩ := hcut
                    obtain ⟨U3, rfl⟩ : ∃ U3, U3 = wc := ⟨_, rfl⟩
                    have x0 := (hxs.out U3 hR.2.2.2).1
                    have hRH : Hid _ := hR
                    clear hR hso2 hmap2 hQ2 hb2 hvl2 nbU
                    rcases hkk with hkk | hkk | hkk
                    · have y1 : U3.cell? ⟨bw, k * 2, none⟩ = some (.int .u8 32) := by rw [x0, hkk]; rfl
                      clear x0
                      go_wp2_with fail
                      go_roundg (L.length - (k + 1))
                      · exact ⟨k + 1, _, _, rfl, by omega, by push_cast; rfl, by rw [(hog.out).1, hogH.out.1, hkk]; push_cast; rfl, by rw [(hog.out).2, hogH.out.2, hkk]; push_cast; rfl, hRH.out⟩
                      · have := hG2.out; omega
                    · have y1 : U3.cell? ⟨bw, k * 2, none⟩ = some (.int .u8 45) := by rw [x0, hkk]; rfl
                      clear x0
                      go_wp2_with fail
                      go_roundg (L.length - (k + 1))
                      · exact ⟨k + 1, _, _, rfl, by omega, by push_cast; rfl, by rw [(hog.out).1, hogH.out.1, hkk]; push_cast; rfl, by rw [(hog.out).2, hogH.out.2, hkk]; simp, hRH.out⟩
                      · have := hG2.out; omega
                    · have y1 : U3.cell? ⟨bw, k * 2, none⟩ = some (.int .u8 43) := by rw [x0, hkk]; rfl
                      clear x0
                      go_wp2_with fail
                      go_roundg (L.length - (k + 1))
                      · exact ⟨k + 1, _, _, rfl, by omega, by push_cast; rfl, by rw [(hog.out).1, hogH.out.1, hkk]; simp, by rw [(hog.out).2, hogH.out.2, hkk]; push_cast; rfl, hRH.out⟩
                      · have := hG2.out; omega
            · have hltI : ¬ ((k : Int) < L.length) := by omega
              have hkn : k = L.length := by omega
              have hF : Hid (diffR a b (C : Int) = (foldH L bs k).hs.map numL) := by show _ = _; rw [hkn]; exact hDD.out
              have hq4 : Hid (∀ h ∈ (foldH L bs k).hs, h.fr ≤ 100000 ∧ h.tr ≤ 100000 ∧ h.fc ≤ 100000 ∧ h.tc ≤ 100000) := fun h hh => by have := q4 h hh; omega
              clear hkn q4 q5 hDD hwk
              generalize foldH L bs k = F at *
              obtain ⟨og, hog⟩ : ∃ og, F.og = og := ⟨_, rfl⟩
              obtain ⟨fg, hfg⟩ : ∃ fg, F.fg = fg := ⟨_, rfl⟩
              rw [hog, hfg]
              clear hog hfg q1 q2
              have hsl : ∃ a1 c1, v = .slice a1 hv.length c1 := by
                rcases hso with ⟨rfl, rfl⟩ | ⟨g, c1, rfl, _⟩
                · exact ⟨_, _, rfl⟩
                · exact ⟨_, _, rfl⟩
              obtain ⟨a1, c1, rfl⟩ := hsl
              obtain ⟨n, hn⟩ : ∃ n, hv.length = n := ⟨_, rfl⟩
              rw [hn] at hso hvl' hvlen hQ
              have hn' : Hid (hv.length = n) := hn
              clear hn q3
              go_wp2_with fail
              go_loopg [23] n (fun g t wx => ∃ (j : Nat) (hv' : List HV), g = n - j ∧ j ≤ n ∧ t = .int .i64 j ∧ HSo (PB + 1) (.slice a1 n c1) hv' wx ∧ Hid (hv'.map (·.1) = numJ F.hs j) ∧ wx.heap[PB]? = some (.cells #[.slice a1 n c1] 32 (0, 0)) ∧ Below PB wr wx)
              case atStart => exact ⟨0, hv, by omega, by omega, rfl, hso, by show _ = _; rw [numJ_zero]; exact hmap.out, hQ, hbk⟩
              case round =>
                rename World => wx
                obtain ⟨j, hv', hgj, hjn, rfl, hso', hmm, hQ', hb'⟩ := hrel
                have hl' : hv'.length = n := by
                  have e : (hv'.map (·.1)).length = (numJ F.hs j).length := by rw [hmm.out]
                  rw [List.length_map, numJ_length] at e
                  have := hvlen.out; omega
                have hA : Hid (hv'.length = n ∧ _ = n - j) := ⟨hl', hgj⟩
                have pX : wx.cell? ⟨PB, 0, none⟩ = some (.slice a1 n c1) := cell_of hQ' rfl
                have hPx : PB < wx.heap.size := (Array.getElem?_eq_some_iff.1 hQ').1
                clear hgj hso hmap hQ hbk
                by_cases hlt2 : j < n
                · have hltI2 : (j : Int) < n := by omega
                  rcases hso' with ⟨e, _⟩ | ⟨g, cap1, e, hg, hsv⟩
                  · subst e; simp at hl'; omega
                  obtain ⟨rfl, hnn, rfl⟩ : a1 = some ⟨g, 0, none⟩ ∧ n = hv'.length ∧ c1 = cap1 := by cases e; exact ⟨rfl, rfl, rfl⟩
                  rw [← hnn] at hsv
                  clear e hnn
                  have hj' : j < hv'.length := by omega
                  have hx : hv'[j].1 = F.hs[j]'(by have := hvlen.out; omega) := by
                    have e1 : (hv'.map (·.1))[j]'(by simpa using hj') = (numJ F.hs j)[j]'(by rw [numJ_length]; have := hvlen.out; omega) := by simp only [hmm.out]
                    rw [numJ_get _ _ (by have := hvlen.out; omega)] at e1
                    simpa using e1
                  have hbd := hq4.out hv'[j].1 (by rw [hx]; exact List.getElem_mem _)
                  obtain ⟨d0, d1, d2, d3, d4⟩ := owns_hunk hsv.row (i := j) hj'
                  obtain ⟨cur, hcur⟩ := owns_block hsv.row (g := g) rfl
                  have hgw : g < wx.heap.size := (Array.getElem?_eq_some_iff.1 hcur).1
                  have dfz : ∀ k, wx.frozen? ⟨g, k, none⟩ = false := fun k => frozen_of hcur
                  have hgPB : ¬ PB = g := by omega
                  have hNF := number_fin hsv (by omega) hg hj'
                  have hm2 : Hid ((hv'.set j (numL hv'[j].1, hv'[j].2)).map (·.1) = numJ F.hs (j + 1)) := by
                    show _ = _
                    rw [List.map_set, hmm.out]
                    simp only
                    rw [hx, numJ_succ]
                  have hl2 : Hid ((hv'.set j (numL hv'[j].1, hv'[j].2)).length = n) := by show _ = _; rw [List.length_set]; exact hA.out.1
                  generalize hv'.set j (numL hv'[j].1, hv'[j].2) = hv2 at hNF hm2 hl2
                  obtain ⟨H, hH⟩ : ∃ H, hv'[j].1 = H := ⟨_, rfl⟩
                  rw [hH] at hNF hbd d0 d1 d2 d3
                  have hfin : Hid (∀ l : List (Nat × Value), ((l = [] ∧ numL H = H) ∨ (l = [(j * 5, .int .i64 ((numL H).fr : Nat))] ∧ (numL H).tr = H.tr) ∨ (l = [(j * 5 + 2, .int .i64 ((numL H).tr : Nat))] ∧ (numL H).fr = H.fr) ∨ l = [(j * 5, .int .i64 ((numL H).fr : Nat)), (j * 5 + 2, .int .i64 ((numL H).tr : Nat))]) → ∀ W, W = l.foldl (fun w p => w.setCell ⟨g, p.1, none⟩ p.2) wx →
                      HSo (PB + 1) (.slice (some ⟨g, 0, none⟩) n c1) hv2 W ∧ Hid (hv2.map (·.1) = numJ F.hs (j + 1)) ∧ W.heap[PB]? = some (.cells #[.slice (some ⟨g, 0, none⟩) n c1] 32 (0, 0)) ∧ Below PB wr W) := by
                    intro l hl W hW
                    subst hW
                    obtain ⟨r1, r2, r3⟩ := hNF l hl
                    refine ⟨.inr ⟨g, c1, by rw [hl2.out], hg, by rw [hl2.out]; exact r1⟩, hm2, ?_, hb'.trans (r2.mono (Nat.le_succ PB))⟩
                    rw [r3.block PB hPx (fun e => hgPB (by cases e; rfl))]
                    exact hQ'
                  obtain ⟨O, hO⟩ : ∃ O, j * 5 = O := ⟨_, rfl⟩
                  rw [hO] at d0 d1 d2 d3
                  rw [hO] at hfin
                  clear d4 hNF hx hH hsv hcur hm2 hl2 hmm hl' hb' hQ'
                  by_cases f0 : 0 < H.fc
                  · have f0I : 0 < (H.fc : Int) := by omega
                    have f1 : ¬ H.fc = 0 := by omega
                    by_cases t0 : 0 < H.tc
                    · have t0I : 0 < (H.tc : Int) := by omega
                      have t1 : ¬ H.tc = 0 := by omega
                      have hR := hfin.out [(O, .int .i64 ((numL H).fr : Nat)), (O + 2, .int .i64 ((numL H).tr : Nat))] (.inr (.inr (.inr rfl))) ((wx.setCell ⟨g, O, none⟩ (.int .i64 ((H.fr : Int) + 1))).setCell ⟨g, O + 2, none⟩ (.int .i64 ((H.tr : Int) + 1))) (by simp [numL, f1, t1])
                      have hRH : Hid _ := hR
                      clear hR hfin f0 t0 f1 t1
                      go_wp2_with fail
                      go_roundg (n - (j + 1))
                      · exact ⟨j + 1, hv2, rfl, by omega, by push_cast; rfl, hRH.out⟩
                      · have := hA.out.2; omega
                    · have t0I : ¬ 0 < (H.tc : Int) := by omega
                      have t1 : H.tc = 0 := by omega
                      have hR := hfin.out [(O, .int .i64 ((numL H).fr : Nat))] (.inr (.inl ⟨rfl, by simp [numL, t1]⟩)) (wx.setCell ⟨g, O, none⟩ (.int .i64 ((H.fr : Int) + 1))) (by simp [numL, f1])
                      have hRH : Hid _ := hR
                      clear hR hfin f0 t0 f1 t1
                      go_wp2_with fail
                      go_roundg (n - (j + 1))
                      · exact ⟨j + 1, hv2, rfl, by omega, by push_cast; rfl, hRH.out⟩
                      · have := hA.out.2; omega
                  · have f0I : ¬ 0 < (H.fc : Int) := by omega
                    have f1 : H.fc = 0 := by omega
                    by_cases t0 : 0 < H.tc
                    · have t0I : 0 < (H.tc : Int) := by omega
                      have t1 : ¬ H.tc = 0 := by omega
                      have hR := hfin.out [(O + 2, .int .i64 ((numL H).tr : Nat))] (.inr (.inr (.inl ⟨rfl, by simp [numL, f1]⟩))) (wx.setCell ⟨g, O + 2, none⟩ (.int .i64 ((H.tr : Int) + 1))) (by simp [numL, t1])
                      have hRH : Hid _ := hR
                      clear hR hfin f0 t0 f1 t1
                      go_wp2_with fail
                      go_roundg (n - (j + 1))
                      · exact ⟨j + 1, hv2, rfl, by omega, by push_cast; rfl, hRH.out⟩
                      · have := hA.out.2; omega
                    · have t0I : ¬ 0 < (H.tc : Int) := by omega
                      have t1 : H.tc = 0 := by omega
                      have hR := hfin.out [] (.inl ⟨rfl, numL_zero f1 t1⟩) wx rfl
                      have hRH : Hid _ := hR
                      clear hR hfin f0 t0 f1 t1
                      go_wp2_with fail
                      go_roundg (n - (j + 1))
                      · exact ⟨j + 1, hv2, rfl, by omega, by push_cast; rfl, hRH.out⟩
                      · have := hA.out.2; omega
                · have hltI2 : ¬ ((j : Int) < n) := by omega
                  have hjn2 : j = n := by omega
                  have hfin : Hid (hv'.map (·.1) = diffR a b (C : Int)) := by
                    show _ = _
                    rw [hmm.out, hF.out, hjn2, hvlen.out, numJ_all]
                  have hP9 : wx.heap[w.heap.size]? = some patch0 := (hb'.block w.heap.size (by omega)).trans hP6
                  have hbW9 := hbW6.trans (hb'.mono (by omega))
                  have q0 : wx.cell? ⟨w.heap.size, 0, none⟩ = some (.slice none 0 0) := cell_of hP9 rfl
                  have qf : ∀ k, wx.frozen? ⟨w.heap.size, k, none⟩ = false := fun k => frozen_of hP9
                  have qr : (wx.setCell ⟨w.heap.size, 0, none⟩ (.slice a1 n c1)).cell? ⟨w.heap.size, 0, none⟩ = some (.slice a1 n c1) := cell_of (heap_setCell_same _ _ _ _ _ _ _ hP9) rfl
                  have hso9 := hso'.kept (w' := wx.setCell ⟨w.heap.size, 0, none⟩ (.slice a1 n c1)) (row := some w.heap.size) (grownBy_setCell _ _ _ _) (fun k e => .inr (by cases e; exact ⟨_, _, _, hP9, by decide, by decide⟩))
                  have hR : ∃ al cl, Ending.returned (.tuple #[.agg #[.slice a1 n c1], .int .i64 0]) = Ending.returned (.tuple #[.agg #[.slice al (diffR a b (C : Int)).length cl], .int .i64 (checkB a b (C : Int))]) ∧ HunksAt (wx.setCell ⟨w.heap.size, 0, none⟩ (.slice a1 n c1)).heap.size (wx.setCell ⟨w.heap.size, 0, none⟩ (.slice a1 n c1)) (.slice al (diffR a b (C : Int)).length cl) (diffR a b (C : Int)) ∧ Below w.heap.size w (wx.setCell ⟨w.heap.size, 0, none⟩ (.slice a1 n c1)) := by
                    have hl9 : n = (diffR a b (C : Int)).length := by rw [← hfin.out, List.length_map]; exact hl'.symm
                    refine ⟨a1, c1, by rw [← hl9, hck.out], ?_, hbW9.setCell (p := ⟨w.heap.size, 0, none⟩) (Nat.le_refl _) _⟩
                    have := HunksAt.of_owns hso9
                    rw [hfin.out] at this
                    rw [← hl9]
                    exact this
                  have hRH : Hid _ := hR
                  clear hR hso9 hfin hmm hjn2 hl' hck hF
                  go_wp2_with fail
                  refine bodyPost_ret (v := .tuple #[.agg #[.slice a1 n c1], .int .i64 0]) ?_ rfl hRH.out
                  simp [results, Tryz.results20, go_sem, qr]
    · have hck : Hid (checkB a b c = 2) := by
        show _ = _
        unfold checkB
        rw [if_pos (.inr (by rw [← hT1.out.2]; simpa using t2))]
      have t2' : refOk b = false := by simpa using t2
      clear t2 hT1
      rw [t1, t2']
      go_wp2_with fail
      refine bodyPost_ret (v := .tuple #[.agg #[.slice none 0 0], .int .i64 2]) ?_ rfl (hbad.out 2 W2 hck.out (by decide) hP2 hbW2 _ rfl)
      simp [results, Tryz.results20, go_sem, qr]
  · have hck : Hid (checkB a b c = 2) := by
      show _ = _
      unfold checkB
      rw [if_pos (.inl (by rw [← hT1.out.1]; simpa using t1))]
    have t1' : refOk a = false := by simpa using t1
    clear t1 hT1
    rw [t1']
    go_wp2_with fail
    refine bodyPost_ret (v := .tuple #[.agg #[.slice none 0 0], .int .i64 2]) ?_ rfl (hbad.out 2 W2 hck.out (by decide) hP2 hbW2 _ rfl)
    simp [results, Tryz.results20, go_sem, qr]
end Go.Proofs.YtcclgodahlinbaaGreatDoor

namespace Go.Proofs.YtcclgodahlinbaaGreatDoor
open Go.RowKit Go
set_option maxRecDepth 100000

theorem checkB_range (a b : ByteArray) (c : Int) : 0 ≤ checkB a b c ∧ checkB a b c ≤ 3 := by
  unfold checkB
  repeat' split
  all_goals omega
set_option maxHeartbeats 2000000 in
theorem diff_no {a b : ByteArray} {c : Int} {w : World} (h1 : a.size < 4294967281) (h2 : b.size < 4294967281) (hk : checkB a b c ≠ 0) :
    Calls Tryz.prog 12 #[.string a, .string b, .int .i64 c] w fun e w' => e = .returned (.tuple #[.agg #[.slice none 0 0], .int .i64 (checkB a b c)]) ∧ Below w.heap.size w w' := by
  have hck := fun W : World => checkDiff_any a b c W h1 h2
  have hr := checkB_range a b c
  generalize checkB a b c = k at *
  have hq : ((k : Int) == 0) = false := by simp; exact hk
  have hq2 : ((k : Int) != 0) = true := by simp; exact hk
  have hb0 : Below w.heap.size w (w.alloc (.cells #[.slice none 0 0] 32)) := (Below.refl _ _).alloc (Nat.le_refl _) _
  have hP0 : (w.alloc (.cells #[.slice none 0 0] 32)).heap[w.heap.size]? = some (.cells #[.slice none 0 0] 32 (0, 0)) := heap_alloc_new w _
  go_enter Tryz.func12, Tryz.ntmps12
  go_wp2_with fail
  generalize w.alloc (.cells #[.slice none 0 0] 32) = W0 at *
  refine (hck W0).mono ?_
  rintro e W1 ⟨rfl, rfl⟩
  have q0 : W0.cell? ⟨w.heap.size, 0, none⟩ = some (.slice none 0 0) := cell_of hP0 rfl
  have qf : ∀ k, W0.frozen? ⟨w.heap.size, k, none⟩ = false := fun k => frozen_of hP0
  have qr : (W0.setCell ⟨w.heap.size, 0, none⟩ (.slice none 0 0)).cell? ⟨w.heap.size, 0, none⟩ = some (.slice none 0 0) := cell_of (heap_setCell_same _ _ _ _ _ _ _ hP0) rfl
  go_wp2_with fail
  refine bodyPost_ret (v := .tuple #[.agg #[.slice none 0 0], .int .i64 k]) ?_ rfl ⟨rfl, hb0.setCell (p := ⟨w.heap.size, 0, none⟩) (Nat.le_refl _) _⟩
  simp [results, Tryz.results12, go_sem, qr]
theorem diff_any {a b : ByteArray} {c m : Int} {w : World} (h1 : a.size < 4294967281) (h2 : b.size < 4294967281) (hm : w.cell? ⟨0, 0, none⟩ = some (.int .i64 m)) :
    Calls Tryz.prog 12 #[.string a, .string b, .int .i64 c] w fun e w' => ∃ al cl hv, e = .returned (.tuple #[.agg #[.slice al hv.length cl], .int .i64 (checkB a b c)]) ∧ HSo w.heap.size (.slice al hv.length cl) hv w' ∧ hv.map (·.1) = diffR a b c ∧ Below w.heap.size w w' := by
  by_cases h : checkB a b c = 0
  · have hc : 0 ≤ c := by
      unfold checkB at h
      split at h
      · simp at h
      · split at h
        · simp at h
        · split at h
          · simp at h
          · rename_i d
            simp at d
            omega
    obtain ⟨C, rfl⟩ : ∃ C : Nat, c = (C : Int) := ⟨c.toNat, by omega⟩
    refine (diff_ok h h1 h2 hm).mono ?_
    rintro e w' ⟨v, rfl, hv, hso, hmap, hb⟩
    have hs : ∃ al cl, v = .slice al hv.length cl := by
      rcases hso with ⟨rfl, rfl⟩ | ⟨g, cap, rfl, _⟩
      · exact ⟨_, _, rfl⟩
      · exact ⟨_, _, rfl⟩
    obtain ⟨al, cl, rfl⟩ := hs
    refine ⟨al, cl, hv, by rw [h], hso, ?_, hb⟩
    rw [hmap]
    unfold diffR
    rw [if_pos h]
    rfl
  · refine (diff_no h1 h2 h).mono ?_
    rintro e w' ⟨rfl, hb⟩
    refine ⟨none, 0, [], rfl, .inl ⟨rfl, rfl⟩, ?_, hb⟩
    unfold diffR
    rw [if_neg h]
    rfl
theorem diffR_small (a b : ByteArray) (c : Int) : (diffR a b c).length ≤ 402 ∧ ∀ h ∈ diffR a b c, h.lines.length ≤ 402 := by
  unfold diffR
  by_cases hk : checkB a b c = 0
  · rw [if_pos hk]
    have hl : largeB a = false ∧ largeB b = false := by
      unfold checkB at hk
      split at hk
      · simp at hk
      · split at hk
        · simp at hk
        · rename_i _ d
          simp at d
          exact d
    have n1 := linesB_few hl.1
    have n2 := linesB_few hl.2
    have hw := way_len (linesB a) (linesB b)
    unfold diffM
    generalize Dn.wayM (linesB a) (linesB b) = L at *
    have hb := foldH_bounds L (nearB L c.toNat) L.length
    unfold hunksM
    refine ⟨by rw [List.length_map]; have := hb.2.2.1; omega, ?_⟩
    intro x hx
    obtain ⟨y, hy, rfl⟩ := List.mem_map.1 hx
    have e : (numL y).lines = y.lines := rfl
    rw [e]
    have := (hb.2.2.2.1 y hy).2.2.1
    omega
  · rw [if_neg hk]
    exact ⟨by simp, by simp⟩
end Go.Proofs.YtcclgodahlinbaaGreatDoor

namespace Go.Proofs.YtcclgodahlinbaaGreatDoor
open Go.RowKit Go
set_option maxRecDepth 100000

def byN (s : ByteArray) (i : Nat) : Nat := (s.get! i).toNat
def wd (s : ByteArray) (i : Nat) : Nat := (Utf8.decode s i).2
def contB (s : ByteArray) (i k : Nat) : Bool := decide (128 ≤ byN s (i + k) ∧ byN s (i + k) < 192)
def tailN (c : Nat) : Int := if c < 128 then 0 else if 194 ≤ c ∧ c < 224 then 1 else if 224 ≤ c ∧ c < 240 then 2 else if 240 ≤ c ∧ c < 245 then 3 else -1
def tailL (c : Nat) : Int := if c < 128 then 0 else if 194 ≤ c ∧ c < 224 then 128 else if 224 ≤ c ∧ c < 240 then 2048 else if 240 ≤ c ∧ c < 245 then 65536 else 0
def rK (s : ByteArray) (i : Nat) : Nat → Nat
  | 0 => 0
  | k + 1 => 64 * rK s i k + byN s (i + (k + 1)) % 64
theorem byN_lt (s : ByteArray) (i : Nat) : byN s i < 256 := by unfold byN; exact (s.get! i).toNat_lt
theorem contB_div (s : ByteArray) (i k : Nat) : (byN s (i + k) / 64 == 2) = contB s i k := by
  unfold contB
  by_cases h : 128 ≤ byN s (i + k) ∧ byN s (i + k) < 192
  · simp [h]; omega
  · simp [h]; omega
def wC (s : ByteArray) (i : Nat) : Nat :=
  if byN s i < 128 then 1
  else if byN s i / 32 = 6 ∧ (i + 1 < s.size ∧ contB s i 1 = true) then (if 128 ≤ (byN s i % 32) * 64 + byN s (i + 1) % 64 then 2 else 1)
  else if byN s i / 16 = 14 ∧ (i + 1 < s.size ∧ contB s i 1 = true) ∧ (i + 2 < s.size ∧ contB s i 2 = true) then (if 2048 ≤ (byN s i % 16) * 4096 + (byN s (i + 1) % 64) * 64 + byN s (i + 2) % 64 ∧ Utf8.valid (((byN s i % 16) * 4096 + (byN s (i + 1) % 64) * 64 + byN s (i + 2) % 64 : Nat) : Int) = true then 3 else 1)
  else if byN s i / 8 = 30 ∧ (i + 1 < s.size ∧ contB s i 1 = true) ∧ (i + 2 < s.size ∧ contB s i 2 = true) ∧ (i + 3 < s.size ∧ contB s i 3 = true) then (if 65536 ≤ (byN s i % 8) * 262144 + (byN s (i + 1) % 64) * 4096 + (byN s (i + 2) % 64) * 64 + byN s (i + 3) % 64 ∧ Utf8.valid (((byN s i % 8) * 262144 + (byN s (i + 1) % 64) * 4096 + (byN s (i + 2) % 64) * 64 + byN s (i + 3) % 64 : Nat) : Int) = true then 4 else 1)
  else 1
theorem wd_is (s : ByteArray) (i : Nat) : wd s i = wC s i := by
  have e : ∀ k, (s.get! k).toNat = byN s k := fun _ => rfl
  unfold wd Utf8.decode wC
  simp only [e, Nat.add_zero, contB_div]
  by_cases h0 : byN s i < 128
  · rw [if_pos h0, if_pos h0]
  rw [if_neg h0, if_neg h0]
  by_cases h1 : byN s i / 32 = 6 ∧ (i + 1 < s.size ∧ contB s i 1 = true)
  · rw [if_pos h1, if_pos (by simp [h1])]
    split <;> simp_all
  rw [if_neg h1, if_neg (by simpa using h1)]
  by_cases h2 : byN s i / 16 = 14 ∧ (i + 1 < s.size ∧ contB s i 1 = true) ∧ (i + 2 < s.size ∧ contB s i 2 = true)
  · rw [if_pos h2, if_pos (by simp [h2])]
    split <;> simp_all
  rw [if_neg h2, if_neg (by intro h; apply h2; simp at h; simp [h])]
  by_cases h3 : byN s i / 8 = 30 ∧ (i + 1 < s.size ∧ contB s i 1 = true) ∧ (i + 2 < s.size ∧ contB s i 2 = true) ∧ (i + 3 < s.size ∧ contB s i 3 = true)
  · rw [if_pos h3, if_pos (by simp [h3])]
    split <;> simp_all
  rw [if_neg h3, if_neg (by intro h; apply h3; simp at h; simp [h])]
theorem wd_pos (s : ByteArray) (i : Nat) : 1 ≤ wd s i := by
  rw [wd_is]; unfold wC; repeat' split
  all_goals omega
theorem wd_fits (s : ByteArray) (i : Nat) (h : i < s.size) : i + wd s i ≤ s.size := by
  rw [wd_is]; unfold wC; repeat' split
  all_goals omega
theorem wd_bad (s : ByteArray) (i : Nat) (h : tailN (byN s i) < 0 ∨ (s.size : Int) ≤ i + tailN (byN s i)) : wd s i = 1 := by
  have hb := byN_lt s i
  have v : ∀ n : Nat, Utf8.valid (n : Int) = true → n < 1114112 := by intro n; simp [Utf8.valid]; omega
  rw [wd_is]; unfold wC; unfold tailN at h; repeat' split
  all_goals try rfl
  all_goals exfalso
  all_goals (repeat' split at h)
  all_goals try omega
  all_goals (obtain ⟨_, hv⟩ := ‹_ ≤ _ ∧ Utf8.valid _ = true›; have := v _ hv; omega)
theorem wd_cont (s : ByteArray) (i : Nat) {m : Nat} (h1 : 1 ≤ m) (h2 : (m : Int) ≤ tailN (byN s i)) (hc : contB s i m = false) : wd s i = 1 := by
  have hb := byN_lt s i
  have hm : m = 1 ∨ m = 2 ∨ m = 3 := by unfold tailN at h2; repeat' split at h2
                                        all_goals omega
  rw [wd_is]; unfold wC
  repeat' split
  all_goals try rfl
  all_goals exfalso
  all_goals rcases hm with rfl | rfl | rfl
  all_goals simp_all
  all_goals (unfold tailN at h2; repeat' split at h2)
  all_goals omega

/-- the lead byte's bits -/
def leadN (c : Nat) (n : Nat) : Nat := if n = 3 then c % 8 else if n = 2 then c % 16 else c % 32
def runeN (s : ByteArray) (i n : Nat) : Nat := rK s i n + leadN (byN s i) n * 64 ^ n
theorem wd_fin (s : ByteArray) (i : Nat) {n : Nat} (h0 : 0 < n) (hn : tailN (byN s i) = n) (hs : i + n < s.size) (hc : ∀ m, 1 ≤ m → m ≤ n → contB s i m = true) :
    wd s i = if tailL (byN s i) ≤ runeN s i n ∧ runeN s i n < 1114112 ∧ (runeN s i n < 55296 ∨ 57344 ≤ runeN s i n) then n + 1 else 1 := by
  have hb := byN_lt s i
  have v : ∀ n : Nat, Utf8.valid (n : Int) = true ↔ (n < 55296 ∨ 57344 ≤ n) ∧ n < 1114112 := by intro n; simp [Utf8.valid]; omega
  have hm : n = 1 ∨ n = 2 ∨ n = 3 := by unfold tailN at hn; repeat' split at hn
                                        all_goals omega
  rw [wd_is]; unfold wC
  simp only [v]
  have c1 := hc 1 (by omega) (by omega)
  rcases hm with rfl | rfl | rfl
  · have hr : 194 ≤ byN s i ∧ byN s i < 224 := by unfold tailN at hn; repeat' split at hn
                                                  all_goals first | omega | assumption
    have hl : tailL (byN s i) = 128 := by unfold tailL; rw [if_neg (by omega), if_pos hr]
    have hru : runeN s i 1 = (byN s i % 32) * 64 + byN s (i + 1) % 64 := by simp [runeN, rK, leadN]; omega
    rw [hl, hru, if_neg (by omega), if_pos ⟨by omega, by omega, c1⟩]
    by_cases hq : 128 ≤ (byN s i % 32) * 64 + byN s (i + 1) % 64
    · rw [if_pos hq, if_pos (by omega)]
    · rw [if_neg hq, if_neg (by omega)]
  · have c2 := hc 2 (by omega) (by omega)
    have hr : 224 ≤ byN s i ∧ byN s i < 240 := by unfold tailN at hn; repeat' split at hn
                                                  all_goals first | omega | assumption
    have hl : tailL (byN s i) = 2048 := by unfold tailL; rw [if_neg (by omega), if_neg (by omega), if_pos hr]
    have hru : runeN s i 2 = (byN s i % 16) * 4096 + (byN s (i + 1) % 64) * 64 + byN s (i + 2) % 64 := by simp [runeN, rK, leadN]; omega
    rw [hl, hru, if_neg (by omega), if_neg (by omega), if_pos ⟨by omega, ⟨by omega, c1⟩, by omega, c2⟩]
    congr 1
    exact propext (by omega)
  · have c2 := hc 2 (by omega) (by omega)
    have c3 := hc 3 (by omega) (by omega)
    have hr : 240 ≤ byN s i ∧ byN s i < 245 := by unfold tailN at hn; repeat' split at hn
                                                  all_goals first | omega | assumption
    have hl : tailL (byN s i) = 65536 := by unfold tailL; rw [if_neg (by omega), if_neg (by omega), if_neg (by omega), if_pos hr]
    have hru : runeN s i 3 = (byN s i % 8) * 262144 + (byN s (i + 1) % 64) * 4096 + (byN s (i + 2) % 64) * 64 + byN s (i + 3) % 64 := by simp [runeN, rK, leadN]; omega
    rw [hl, hru, if_neg (by omega), if_neg (by omega), if_neg (by omega), if_pos ⟨by omega, ⟨by omega, c1⟩, ⟨by omega, c2⟩, by omega, c3⟩]
    congr 1
    exact propext (by omega)
theorem wd_zero (s : ByteArray) (i : Nat) (h : tailN (byN s i) = 0) : wd s i = 1 := by
  rw [wd_is]; unfold wC
  rw [if_pos]
  unfold tailN at h
  repeat' split at h
  all_goals omega
theorem tailN_le (c : Nat) : -1 ≤ tailN c ∧ tailN c ≤ 3 := by
  unfold tailN
  repeat' split
  all_goals omega
theorem rK_lt (s : ByteArray) (i : Nat) : ∀ k, rK s i k < 64 ^ k
  | 0 => by simp [rK]
  | k + 1 => by
    have := rK_lt s i k
    have h2 : 64 ^ (k + 1) = 64 * 64 ^ k := by rw [Nat.pow_succ, Nat.mul_comm]
    unfold rK
    rw [h2]
    omega
def chainL (s : ByteArray) : Nat → Nat → List ByteArray
  | 0, _ => []
  | k + 1, i => if i < s.size then s.extract i (i + wd s i) :: chainL s k (i + wd s i) else []
theorem chainL_more (s : ByteArray) : ∀ (k l i : Nat), s.size ≤ i + k → s.size ≤ i + l → chainL s k i = chainL s l i
  | 0, 0, i, _, _ => rfl
  | 0, l + 1, i, h, _ => by rw [chainL, chainL, if_neg (by omega)]
  | k + 1, 0, i, _, h => by rw [chainL, chainL, if_neg (by omega)]
  | k + 1, l + 1, i, h1, h2 => by
    have := wd_pos s i
    rw [chainL, chainL, chainL_more s k l (i + wd s i) (by omega) (by omega)]
def chainR (s : ByteArray) (i : Nat) : List ByteArray := chainL s s.size i
theorem chainR_step (s : ByteArray) (i : Nat) (h : i < s.size) : chainR s i = s.extract i (i + wd s i) :: chainR s (i + wd s i) := by
  have := wd_pos s i
  unfold chainR
  obtain ⟨k, hk⟩ : ∃ k, s.size = k + 1 := ⟨s.size - 1, by omega⟩
  conv => lhs; rw [hk, chainL, if_pos h, chainL_more s k s.size _ (by omega) (by omega)]
theorem chainR_end (s : ByteArray) (i : Nat) (h : s.size ≤ i) : chainR s i = [] := by
  unfold chainR
  cases hk : s.size with
  | zero => rfl
  | succ k => rw [chainL, if_neg (by omega)]
theorem lettersF_chain (s : ByteArray) : ∀ (k pos b : Nat) (acc : List ByteArray), b < s.size → pos = b + wd s b → s.size < pos + k →
    (if (lettersF s k pos b acc).1 < s.size then (lettersF s k pos b acc).2 ++ [s.extract (lettersF s k pos b acc).1 s.size] else (lettersF s k pos b acc).2) = acc ++ chainR s b := by
  intro k
  induction k with
  | zero =>
    intro pos b acc h1 h2 h3
    have := wd_fits s b h1
    omega
  | succ k ih =>
    intro pos b acc h1 h2 h3
    have hw := wd_pos s b
    have hf := wd_fits s b h1
    unfold lettersF
    by_cases hp : pos < s.size
    · have hb : b < pos := by omega
      have hw2 := wd_pos s pos
      simp only [if_pos hp, if_pos hb]
      rw [ih (pos + (Utf8.decode s pos).2) pos _ hp rfl (by show _ < pos + wd s pos + k; omega), chainR_step s b h1, ← h2]
      simp
    · have he : pos = s.size := by omega
      simp only [if_neg hp, if_pos h1]
      rw [chainR_step s b h1, ← h2, he, chainR_end s s.size (Nat.le_refl _)]
theorem letters_chain (s : ByteArray) : lettersB s = chainR s 0 := by
  unfold lettersB
  by_cases h : 0 < s.size
  · have hw := wd_pos s 0
    have e : lettersF s (s.size + 1) 0 0 [] = lettersF s s.size (0 + wd s 0) 0 [] := by
      conv => lhs; unfold lettersF
      rw [if_pos h]
      rfl
    rw [e, lettersF_chain s s.size (0 + wd s 0) 0 [] h rfl (by omega)]
    rfl
  · have e : lettersF s (s.size + 1) 0 0 [] = (0, []) := by unfold lettersF; rw [if_neg h]
    rw [e, chainR_end s 0 (by omega)]
    simp only [if_neg h]
end Go.Proofs.YtcclgodahlinbaaGreatDoor

namespace Go.Proofs.YtcclgodahlinbaaGreatDoor
open Go.RowKit Go
set_option maxRecDepth 100000

theorem byN_at (s : ByteArray) (i : Nat) (h : i < s.size) : (s[i]'h).toNat = byN s i := by
  unfold byN
  congr 1
  obtain ⟨d⟩ := s
  show d[i]'h = d[i]!
  rw [getElem!_pos d i h]
set_option maxHeartbeats 2000000 in
theorem tail_any (c : Nat) (w : World) :
    Calls Tryz.prog 141 #[.int .u8 (c : Nat)] w fun e w' => e = .returned (.tuple #[.int .i64 (tailN c), .int .i64 (tailL c)]) ∧ w = w' := by
  go_enter Tryz.func141, Tryz.ntmps141
  by_cases h1 : c < 128
  · have h1I : (c : Int) < 128 := by omega
    have e : Hid (tailN c = 0 ∧ tailL c = 0) := by unfold tailN tailL; rw [if_pos h1, if_pos h1]; exact ⟨rfl, rfl⟩
    clear h1
    go_wp2_with fail
    go_ret2
    exact ⟨by rw [e.out.1, e.out.2]; rfl, rfl⟩
  have h1I : ¬ (c : Int) < 128 := by omega
  by_cases h2 : 194 ≤ c ∧ c < 224
  · have e : Hid (tailN c = 1 ∧ tailL c = 128) := by unfold tailN tailL; rw [if_neg h1, if_neg h1, if_pos h2, if_pos h2]; exact ⟨rfl, rfl⟩
    have h2I : 194 ≤ (c : Int) := by omega
    have h2J : (c : Int) < 224 := by omega
    clear h1 h2
    go_wp2_with fail
    go_ret2
    exact ⟨by rw [e.out.1, e.out.2]; rfl, rfl⟩
  by_cases h3 : 224 ≤ c ∧ c < 240
  · have e : Hid (tailN c = 2 ∧ tailL c = 2048) := by unfold tailN tailL; rw [if_neg h1, if_neg h1, if_neg h2, if_neg h2, if_pos h3, if_pos h3]; exact ⟨rfl, rfl⟩
    have h2I : 194 ≤ (c : Int) := by omega
    have h2J : ¬ (c : Int) < 224 := by omega
    have h3I : 224 ≤ (c : Int) := by omega
    have h3J : (c : Int) < 240 := by omega
    clear h1 h2 h3
    go_wp2_with fail
    go_ret2
    exact ⟨by rw [e.out.1, e.out.2]; rfl, rfl⟩
  by_cases h4 : 240 ≤ c ∧ c < 245
  · have e : Hid (tailN c = 3 ∧ tailL c = 65536) := by unfold tailN tailL; rw [if_neg h1, if_neg h1, if_neg h2, if_neg h2, if_neg h3, if_neg h3, if_pos h4, if_pos h4]; exact ⟨rfl, rfl⟩
    have h2I : 194 ≤ (c : Int) := by omega
    have h2J : ¬ (c : Int) < 224 := by omega
    have h3I : 224 ≤ (c : Int) := by omega
    have h3J : ¬ (c : Int) < 240 := by omega
    have h4I : 240 ≤ (c : Int) := by omega
    have h4J : (c : Int) < 245 := by omega
    clear h1 h2 h3 h4
    go_wp2_with fail
    go_ret2
    exact ⟨by rw [e.out.1, e.out.2]; rfl, rfl⟩
  have e : Hid (tailN c = -1 ∧ tailL c = 0) := by unfold tailN tailL; rw [if_neg h1, if_neg h1, if_neg h2, if_neg h2, if_neg h3, if_neg h3, if_neg h4, if_neg h4]; exact ⟨rfl, rfl⟩
  by_cases h5 : c < 194
  · have h2I : ¬ 194 ≤ (c : Int) := by omega
    have h3I : ¬ 224 ≤ (c : Int) := by omega
    have h4I : ¬ 240 ≤ (c : Int) := by omega
    clear h1 h2 h3 h4 h5
    go_wp2_with fail
    go_ret2
    exact ⟨by rw [e.out.1, e.out.2]; rfl, rfl⟩
  · have h2I : 194 ≤ (c : Int) := by omega
    have h2J : ¬ (c : Int) < 224 := by omega
    have h3I : 224 ≤ (c : Int) := by omega
    have h3J : ¬ (c : Int) < 240 := by omega
    have h4I : 240 ≤ (c : Int) := by omega
    have h4J : ¬ (c : Int) < 245 := by omega
    clear h1 h2 h3 h4 h5
    go_wp2_with fail
    go_ret2
    exact ⟨by rw [e.out.1, e.out.2]; rfl, rfl⟩
set_option maxHeartbeats 4000000 in
theorem refLetters_any (s : ByteArray) (w : World) (hs : s.size ≤ 1000) :
    Calls Tryz.prog 118 #[.string s] w fun e w' => ∃ a c, e = .returned (.slice a (lettersB s).length c) ∧ w'.ownsRow w.heap.size 9 1 (.slice a (lettersB s).length c) (lettersB s).length (strCells (lettersB s)) ∧ Below w.heap.size w w' := by
  obtain ⟨i0, hi, hz0, hz1, hz2⟩ := info_parts info_str
  rw [letters_chain]
  go_enter Tryz.func118, Tryz.ntmps118
  go_wp2_with fail
  go_loopg [3, 4] s.size (fun g v vi wr => ∃ (i n : Nat) (acc : List ByteArray), g = s.size - i ∧ i ≤ s.size ∧ n ≤ i ∧ vi = .int .i64 i ∧ acc.length = n ∧ Hid (acc ++ chainR s i = chainR s 0) ∧ wr.ownsRow w.heap.size 9 1 v n (strCells acc) ∧ Below w.heap.size w wr)
  case atStart => exact ⟨0, 0, [], by omega, by omega, by omega, rfl, rfl, rfl, World.ownsRow_nil _ _ _ _, Below.refl _ _⟩
  case round =>
    obtain ⟨i, n, acc, hgi, hil, hni, rfl, hlen, hch, hown, hbw⟩ := hrel
    have hG : Hid (gk = s.size - i) := hgi
    clear hgi
    have hszr := hbw.size
    obtain ⟨al, cl, rfl⟩ := owns_isSlice hown
    by_cases hi2 : i < s.size
    · have hiI : (i : Int) < s.size := by omega
      have hB0 := byN_at s i hi2
      go_wp2_with fail
      refine (tail_any (byN s i) _).mono ?_
      rintro e w1 ⟨rfl, rfl⟩
      obtain ⟨hT1, hT2⟩ := tailN_le (byN s i)
      obtain ⟨T, hTe⟩ : ∃ T, tailN (byN s i) = T := ⟨_, rfl⟩
      have hTH : Hid (tailN (byN s i) = T) := hTe
      obtain ⟨Lw, hLe⟩ : ∃ Lw, tailL (byN s i) = Lw := ⟨_, rfl⟩
      have hLH : Hid (tailL (byN s i) = Lw) := hLe
      rw [hTe] at hT1 hT2 ⊢
      rw [hLe]
      clear hTe hLe
      have hS0 : Hid ((decide (0 ≤ T ∧ (i : Int) + T < s.size) = false → wd s i = 1) ∧ (decide (0 ≤ T ∧ (i : Int) + T < s.size) = true → 0 ≤ T ∧ (i : Int) + T < s.size)) := by
        refine ⟨fun h => wd_bad s i ?_, fun h => by simpa using h⟩
        rw [hTH.out]
        simp at h
        omega
      go_upto_region 5 with fail
      go_cut [7] (fun s7 wx => s7 = .bool (decide (0 ≤ T ∧ (i : Int) + T < s.size)) ∧ wr = wx)
      case first =>
        by_cases h0 : 0 ≤ T
        · by_cases h1 : (i : Int) + T < s.size
          · have hd : decide (0 ≤ T ∧ (i : Int) + T < s.size) = true := by simp [h0, h1]
            go_wp2_with fail
            go_meet
            case rel => exact ⟨by rw [hd], rfl⟩
          · have hd : decide (0 ≤ T ∧ (i : Int) + T < s.size) = false := by simp [h1]
            go_wp2_with fail
            go_meet
            case rel => exact ⟨by rw [hd], rfl⟩
        · have hd : decide (0 ≤ T ∧ (i : Int) + T < s.size) = false := by simp [h0]
          go_wp2_with fail
          go_meet
          case rel => exact ⟨by rw [hd], rfl⟩
      case rest =>
        obtain ⟨rfl, rfl⟩ := hcut
        generalize decide (0 ≤ T ∧ (i : Int) + T < s.size) = ok0 at *
        go_upto_block 2 with fail
        go_cut [7, 8, 9] (fun s7 s8 s9 wx => ∃ (ok : Bool) (r k : Nat), s7 = .bool ok ∧ s8 = .int .i64 r ∧ s9 = .int .i64 k ∧ r ≤ 1000000 ∧ Hid ((ok = false → wd s i = 1) ∧ (ok = true → 0 ≤ T ∧ (i : Int) + T < s.size ∧ r = rK s i T.toNat ∧ ∀ m, 1 ≤ m → m ≤ T.toNat → contB s i m = true)) ∧ wr = wx)
        case first =>
          go_wp2_with fail
          go_loopg [7, 8, 9] 3 (fun g t7 t8 t9 wy => ∃ (j : Nat) (ok : Bool), g = 3 - j ∧ j ≤ 3 ∧ t7 = .bool ok ∧ t8 = .int .i64 ((rK s i j : Nat) : Int) ∧ t9 = .int .i64 ((j : Int) + 1) ∧ Hid ((ok = false → wd s i = 1) ∧ (ok = true → 0 ≤ T ∧ (j : Int) ≤ T ∧ (i : Int) + T < s.size ∧ ∀ m, 1 ≤ m → m ≤ j → contB s i m = true)) ∧ wr = wy)
          case atStart => exact ⟨0, ok0, rfl, by omega, rfl, rfl, rfl, ⟨hS0.out.1, fun h => ⟨(hS0.out.2 h).1, by have := (hS0.out.2 h).1; omega, (hS0.out.2 h).2, fun m h1 h2 => by omega⟩⟩, rfl⟩
          case round =>
            obtain ⟨j, ok, hgj, hj3, rfl, rfl, rfl, hI, rfl⟩ := hrel
            have hGj : Hid (_ = 3 - j) := hgj
            have hrb : rK s i j < 1000000 := by
              have h1 := rK_lt s i j
              have h2 : 64 ^ j ≤ 64 ^ 3 := Nat.pow_le_pow_right (by omega) hj3
              have h3 : (64 : Nat) ^ 3 = 262144 := by decide
              omega
            clear hgj
            cases ok with
            | false =>
              have hw1 : Hid (wd s i = 1) := hI.out.1 rfl
              clear hI
              go_wp2_with fail
              go_meet
              case rel => exact ⟨false, rK s i j, j + 1, rfl, rfl, rfl, by omega, ⟨fun _ => hw1.out, fun h => (by cases h)⟩, rfl⟩
            | true =>
              obtain ⟨t0, t1, t2, t3⟩ := hI.out.2 rfl
              have ht3 : Hid (∀ m, 1 ≤ m → m ≤ j → contB s i m = true) := t3
              clear hI t3
              by_cases hjT : (j : Int) + 1 ≤ T
              · have hx : i + (j + 1) < s.size := by omega
                have hxI : (i : Int) + ((j : Int) + 1) < s.size := by omega
                have hB1 := byN_at s (i + (j + 1)) hx
                have hrk : Hid (rK s i (j + 1) = 64 * rK s i j + byN s (i + (j + 1)) % 64) := rfl
                have hcb : Hid (contB s i (j + 1) = decide (128 ≤ byN s (i + (j + 1)) ∧ byN s (i + (j + 1)) < 192)) := rfl
                have hBl := byN_lt s (i + (j + 1))
                have hnx : Hid (∀ ok' : Bool, ok' = contB s i (j + 1) → ∃ (j' : Nat) (ok : Bool), 3 - (j + 1) = 3 - j' ∧ j' ≤ 3 ∧ Value.bool ok' = .bool ok ∧ Value.int .i64 (64 * (rK s i j : Int) + (byN s (i + (j + 1)) : Int) % 64) = .int .i64 ((rK s i j' : Nat) : Int) ∧ Value.int .i64 ((j : Int) + 1 + 1) = .int .i64 ((j' : Int) + 1) ∧ Hid ((ok = false → wd s i = 1) ∧ (ok = true → 0 ≤ T ∧ (j' : Int) ≤ T ∧ (i : Int) + T < s.size ∧ ∀ m, 1 ≤ m → m ≤ j' → contB s i m = true))) := by
                  intro ok' hok
                  refine ⟨j + 1, ok', rfl, by omega, rfl, by rw [hrk.out]; push_cast; rfl, by push_cast; rfl, ⟨fun h => ?_, fun h => ⟨t0, by omega, t2, fun m h1 h2 => ?_⟩⟩⟩
                  · exact wd_cont s i (m := j + 1) (by omega) (by rw [hTH.out]; omega) (by rw [← hok]; exact h)
                  · by_cases hm : m = j + 1
                    · rw [hm, ← hok]; exact h
                    · exact ht3.out m h1 (by omega)
                generalize byN s (i + (j + 1)) = Bn at *
                by_cases g1 : 128 ≤ Bn
                · have g1I : 128 ≤ (Bn : Int) := by omega
                  by_cases g2 : Bn < 192
                  · have g2I : (Bn : Int) < 192 := by omega
                    have hR := hnx.out true (by rw [hcb.out]; simp [g1, g2])
                    have hRH : Hid _ := hR
                    clear hR hnx g1 g2
                    go_wp2_with fail
                    go_roundg (3 - (j + 1))
                    · obtain ⟨j', ok, q1, q2, q3, q4, q5, q6⟩ := hRH.out
                      exact ⟨j', ok, q1, q2, q3, q4, q5, q6, rfl⟩
                    · have := hGj.out; omega
                  · have g2I : ¬ (Bn : Int) < 192 := by omega
                    have hR := hnx.out false (by rw [hcb.out]; simp [g2])
                    have hRH : Hid _ := hR
                    clear hR hnx g1 g2
                    go_wp2_with fail
                    go_roundg (3 - (j + 1))
                    · obtain ⟨j', ok, q1, q2, q3, q4, q5, q6⟩ := hRH.out
                      exact ⟨j', ok, q1, q2, by rw [show decide ((Bn : Int) < 192) = false by simp; omega]; exact q3, q4, q5, q6, rfl⟩
                    · have := hGj.out; omega
                · have g1I : ¬ 128 ≤ (Bn : Int) := by omega
                  have hR := hnx.out false (by rw [hcb.out]; simp [g1])
                  have hRH : Hid _ := hR
                  clear hR hnx g1
                  go_wp2_with fail
                  go_roundg (3 - (j + 1))
                  · obtain ⟨j', ok, q1, q2, q3, q4, q5, q6⟩ := hRH.out
                    exact ⟨j', ok, q1, q2, q3, q4, q5, q6, rfl⟩
                  · have := hGj.out; omega
              · have hjE : Hid (T.toNat = j) := by show _ = _; omega
                go_wp2_with fail
                go_meet
                case rel => exact ⟨true, rK s i j, j + 1, rfl, rfl, rfl, by omega, ⟨fun h => (by cases h), fun _ => ⟨t0, t2, by rw [hjE.out], by rw [hjE.out]; exact ht3.out⟩⟩, rfl⟩
        case rest =>
          obtain ⟨ok, r, k, rfl, rfl, rfl, hr6, hK, rfl⟩ := hcut
          go_upto_region 12 with fail
          go_cut [69] (fun s69 wx => s69 = .bool (ok && decide (0 < T)) ∧ wr = wx)
          case first =>
            cases ok with
            | false =>
              go_wp2_with fail
              go_meet
              case rel => exact ⟨rfl, rfl⟩
            | true =>
              by_cases h0 : 0 < T
              · go_wp2_with fail
                go_meet
                case rel => exact ⟨by simp [h0], rfl⟩
              · go_wp2_with fail
                go_meet
                case rel => exact ⟨by simp [h0], rfl⟩
          case rest =>
            obtain ⟨rfl, rfl⟩ := hcut
            go_upto_if 69 with fail
            go_cut [7] (fun s7 wx => ∃ ok' : Bool, s7 = .bool ok' ∧ Hid ((ok' = true → 0 ≤ T ∧ wd s i = T.toNat + 1) ∧ (ok' = false → wd s i = 1)) ∧ wr = wx)
            case first =>
              cases hN : (ok && decide (0 < T)) with
              | false =>
                have hE : Hid ((ok = true → 0 ≤ T ∧ wd s i = T.toNat + 1) ∧ (ok = false → wd s i = 1)) := by
                  refine ⟨fun h => ?_, hK.out.1⟩
                  have h1 := (hK.out.2 h).1
                  rw [h] at hN
                  simp at hN
                  have h2 : T = 0 := by omega
                  rw [h2]
                  exact ⟨by omega, by rw [wd_zero s i (by rw [hTH.out, h2])]; rfl⟩
                go_wp2_with fail
                go_meet
                case rel => exact ⟨ok, rfl, hE, rfl⟩
              | true =>
                obtain ⟨hok, hT0⟩ : ok = true ∧ 0 < T := by simpa using hN
                subst hok
                obtain ⟨k0, k1, k2, k3⟩ := hK.out.2 rfl
                obtain ⟨N, rfl⟩ : ∃ N : Nat, T = (N : Int) := ⟨T.toNat, by omega⟩
                have hfin : Hid (wd s i = if Lw ≤ runeN s i N ∧ runeN s i N < 1114112 ∧ (runeN s i N < 55296 ∨ 57344 ≤ runeN s i N) then N + 1 else 1) := by
                  have := wd_fin s i (n := N) (by omega) hTH.out (by omega) (fun m h1 h2 => k3 m h1 (by omega))
                  rw [hLH.out] at this
                  exact this
                have hrn : Hid (runeN s i N = r + leadN (byN s i) N * 64 ^ N) := by
                  show _ = _
                  rw [k2]; rfl
                have hlb : leadN (byN s i) N ≤ 31 := by 
                  unfold leadN
                  repeat' split
                  all_goals omega
                have hLd : Hid (leadN (byN s i) N = if N = 3 then byN s i % 8 else if N = 2 then byN s i % 16 else byN s i % 32) := rfl
                have hBl := byN_lt s i
                clear hK k2 k3 hN
                have hN3 : N ≤ 3 := by omega
                have hN1 : 1 ≤ N := by omega
                generalize leadN (byN s i) N = ld at *
                generalize runeN s i N = R at *
                generalize byN s i = B0 at *
                go_upto_if 76 with fail
                go_cut [10] (fun s10 wx => s10 = .int .i64 (((if N = 2 then B0 % 16 else B0 % 32) : Nat) : Int) ∧ wr = wx)
                case first =>
                  by_cases h2 : N = 2
                  · have h2I : (((N : Nat) : Int) == 2) = true := by rw [h2]; rfl
                    go_wp2_with fail
                    go_meet
                    case rel => exact ⟨by simp [h2], rfl⟩
                  · have h2I : (((N : Nat) : Int) == 2) = false := by rw [beq_eq_false_iff_ne]; omega
                    go_wp2_with fail
                    go_meet
                    case rel => exact ⟨by simp [h2], rfl⟩
                case rest =>
                  obtain ⟨rfl, rfl⟩ := hcut
                  generalize (if N = 2 then B0 % 16 else B0 % 32) = l0 at *
                  go_upto_if 83 with fail
                  go_cut [10] (fun s10 wx => s10 = .int .i64 ((ld : Nat) : Int) ∧ wr = wx)
                  case first =>
                    by_cases h3 : N = 3
                    · have h3I : (((N : Nat) : Int) == 3) = true := by rw [h3]; rfl
                      go_wp2_with fail
                      go_meet
                      case rel => exact ⟨by rw [hLd.out, if_pos h3]; simp, rfl⟩
                    · have h3I : (((N : Nat) : Int) == 3) = false := by rw [beq_eq_false_iff_ne]; omega
                      go_wp2_with fail
                      go_meet
                      case rel => exact ⟨by rw [hLd.out, if_neg h3], rfl⟩
                  case rest =>
                    obtain ⟨rfl, rfl⟩ := hcut
                    clear hLd
                    have hpw : Hid (∀ j, j ≤ N → ld * 64 ^ j ≤ 8126464) := by
                      intro j hj
                      have h1 : 64 ^ j ≤ 64 ^ 3 := Nat.pow_le_pow_right (by omega) (by omega)
                      have h2 := Nat.mul_le_mul hlb h1
                      have h3 : 31 * 64 ^ 3 = 8126464 := by decide
                      omega
                    go_wp2_with fail
                    go_loopg [10, 11] N (fun g t10 t11 wy => ∃ j P : Nat, g = N - j ∧ j ≤ N ∧ t10 = .int .i64 (P : Int) ∧ Hid (P = ld * 64 ^ j) ∧ P ≤ 8126464 ∧ t11 = .int .i64 j ∧ wr = wy)
                    case atStart => exact ⟨0, ld, by omega, by omega, rfl, by show _ = _; simp, by omega, rfl, rfl⟩
                    case round =>
                      obtain ⟨j, P, hgj, hjN, rfl, hP, hPb, rfl, rfl⟩ := hrel
                      have hGj : Hid (_ = N - j) := hgj
                      clear hgj
                      by_cases hj : j < N
                      · have hjI : (j : Int) < N := by omega
                        have hP2 : Hid (P * 64 = ld * 64 ^ (j + 1)) := by
                          show _ = _
                          rw [hP.out, Nat.pow_succ, Nat.mul_assoc]
                        have hP3 : P * 64 ≤ 8126464 := by rw [hP2.out]; exact hpw.out (j + 1) hj
                        go_wp2_with fail
                        go_roundg (N - (j + 1))
                        · exact ⟨j + 1, P * 64, rfl, by omega, by push_cast; rfl, hP2, hP3, by push_cast; rfl, rfl⟩
                        · have := hGj.out; omega
                      · obtain rfl : j = N := by omega
                        have hjI : ¬ ((j : Int) < j) := by omega
                        have hRP : R = r + P := by rw [hrn.out, hP.out]
                        subst hRP
                        have hT2 : Hid ((j : Int).toNat = j) := by show _ = _; omega
                        have hmeet : Hid (∀ ok' : Bool, (ok' = true ↔ (Lw ≤ ((r + P : Nat) : Int) ∧ r + P < 1114112 ∧ (r + P < 55296 ∨ 57344 ≤ r + P))) → Hid ((ok' = true → 0 ≤ (j : Int) ∧ wd s i = (j : Int).toNat + 1) ∧ (ok' = false → wd s i = 1))) := by
                          intro ok' h
                          refine ⟨fun e => ⟨by omega, ?_⟩, fun e => ?_⟩
                          · rw [hfin.out, if_pos (h.1 e), hT2.out]
                          · rw [hfin.out, if_neg (fun h2 => by rw [h.2 h2] at e; cases e)]
                        clear hfin hrn hP hpw
                        by_cases q1 : Lw ≤ (r : Int) + P
                        · by_cases q2 : (r : Int) + P < 1114112
                          · by_cases q3 : (r : Int) + P < 55296
                            · go_wp2_with fail
                              go_meet
                              case rel => exact ⟨true, rfl, hmeet.out true (by simp; omega), rfl⟩
                            · by_cases q4 : 57344 ≤ (r : Int) + P
                              · go_wp2_with fail
                                go_meet
                                case rel => exact ⟨true, rfl, hmeet.out true (by simp; omega), rfl⟩
                              · go_wp2_with fail
                                go_meet
                                case rel => exact ⟨false, rfl, hmeet.out false (by simp; omega), rfl⟩
                          · go_wp2_with fail
                            go_meet
                            case rel => exact ⟨false, rfl, hmeet.out false (by simp; omega), rfl⟩
                        · go_wp2_with fail
                          go_meet
                          case rel => exact ⟨false, rfl, hmeet.out false (by simp; omega), rfl⟩
            case rest =>
              obtain ⟨ok2, rfl, hW, rfl⟩ := hcut
              have hon : ∀ t : ByteArray, ∀ u ∈ [Value.string t], u.oneCell' = true := by intro t u hu; simp at hu; subst hu; rfl
              have hfit := wd_fits s i hi2
              have hpos := wd_pos s i
              have hnext : Hid (chainR s i = s.extract i (i + wd s i) :: chainR s (i + wd s i)) := chainR_step s i hi2
              clear hK hS0
              cases ok2 with
              | false =>
                have hw1 := hW.out.2 rfl
                rw [hw1] at hnext hfit
                have hfI : (i : Int) + 1 ≤ s.size := by omega
                go_wp2_with (at_builtin; refine wpList_append_own2 rfl (.tmp 116) (.tmp 124) 27 rfl w.heap.size 9 i0 _ 1 16 Tryz.underlying27 hi hz0 hz1 hz2 rfl (by decide) (.slice al n cl) n (strCells acc) rfl (hown.alloc _) ⟨wr.heap.size, 0, none⟩ 1 1 [.string (s.extract i (i + 1))] rfl rfl (cells_new wr [.string (s.extract i (i + 1))] 9) (hon _) (by unfold maxLen; omega) (by omega) (by simp; omega) ?_; intro v' w3 hown3 hgr hnew; have hb3 := (hbw.alloc (by omega) _).grown hgr (by simp; omega) (fun j e => by have := (hown.lt j e).1; omega))
                go_roundg (s.size - (i + 1))
                · exact ⟨i + 1, n + 1, acc ++ [s.extract i (i + 1)], rfl, by omega, by omega, by push_cast; rfl, by simp [hlen], by show _ = _; rw [← hch.out, hnext.out]; simp, by rw [strCells_append]; exact hown3, hb3⟩
                · have := hG.out; omega
              | true =>
                obtain ⟨hT0, hw1⟩ := hW.out.1 rfl
                obtain ⟨N, rfl⟩ : ∃ N : Nat, T = (N : Int) := ⟨T.toNat, by omega⟩
                have hw2 : wd s i = N + 1 := by rw [hw1]; rfl
                rw [hw2] at hnext hfit
                have hfI : (i : Int) + N + 1 ≤ s.size := by omega
                clear hw1
                go_wp2_with (at_builtin; refine wpList_append_own2 rfl (.tmp 116) (.tmp 124) 27 rfl w.heap.size 9 i0 _ 1 16 Tryz.underlying27 hi hz0 hz1 hz2 rfl (by decide) (.slice al n cl) n (strCells acc) rfl (hown.alloc _) ⟨wr.heap.size, 0, none⟩ 1 1 [.string (s.extract i (i + N + 1))] rfl rfl (cells_new wr [.string (s.extract i (i + N + 1))] 9) (hon _) (by unfold maxLen; omega) (by omega) (by simp; omega) ?_; intro v' w3 hown3 hgr hnew; have hb3 := (hbw.alloc (by omega) _).grown hgr (by simp; omega) (fun j e => by have := (hown.lt j e).1; omega))
                go_roundg (s.size - (i + N + 1))
                · exact ⟨i + N + 1, n + 1, acc ++ [s.extract i (i + N + 1)], rfl, by omega, by omega, by push_cast; rfl, by simp [hlen], by show _ = _; rw [← hch.out, hnext.out]; simp [Nat.add_assoc], by rw [strCells_append]; exact hown3, hb3⟩
                · have := hG.out; omega
    · obtain rfl : i = s.size := by omega
      have hiI : ¬ ((s.size : Int) < s.size) := by omega
      have he : Hid (acc = chainR s 0) := by
        show _ = _
        rw [← hch.out, chainR_end s s.size (Nat.le_refl _), List.append_nil]
      clear hch
      go_wp2_with fail
      go_ret
      refine ⟨al, cl, ?_, ?_, hbw⟩
      · rw [← he.out, hlen]; rfl
      · rw [← he.out, hlen]
        exact hown
end Go.Proofs.YtcclgodahlinbaaGreatDoor
