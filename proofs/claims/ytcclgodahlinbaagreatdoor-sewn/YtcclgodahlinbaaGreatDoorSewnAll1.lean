import Derived.Test.YtcclgodahlinbaaGreatDoorWReader
import Derived.Laws.AppendOwnNone
import Derived.Orders
import Derived.Test.YtcclgodahlinbaaGreatDoorWSewM
import Derived.Lib.SplitLaws
import Derived.Test.YtcclgodahlinbaaGreatDoorMSearch3
import Derived.Test.YtcclgodahlinbaaGreatDoorMHeap
import Derived.Test.YtcclgodahlinbaaGreatDoorWReadM
namespace Go.Proofs.YtcclgodahlinbaaGreatDoor
open Go.RowKit Go
set_option maxRecDepth 100000

/-- lines turned round: adds wait for the next keep -/
def revStep (r : List StepB × List StepB) (s : StepB) : List StepB × List StepB :=
  if s.kind = 45 then (r.1, r.2 ++ [⟨43, s.text⟩]) else if s.kind = 43 then (r.1 ++ [⟨45, s.text⟩], r.2) else (r.1 ++ r.2 ++ [⟨32, s.text⟩], [])
def revF (L : List StepB) : List StepB × List StepB := L.foldl revStep ([], [])
def revL (L : List StepB) : List StepB := (revF L).1 ++ (revF L).2
theorem revF_take {L : List StepB} {k : Nat} (h : k < L.length) : revF (L.take (k + 1)) = revStep (revF (L.take k)) L[k] := by
  unfold revF
  rw [List.take_succ_eq_append_getElem h, List.foldl_append]
  rfl
theorem revF_len : ∀ (L : List StepB), (revF L).1.length + (revF L).2.length = L.length := by
  intro L
  have key : ∀ (L : List StepB) (r : List StepB × List StepB), (L.foldl revStep r).1.length + (L.foldl revStep r).2.length = r.1.length + r.2.length + L.length := by
    intro L
    induction L with
    | nil => intro r; simp
    | cons s L ih =>
      intro r
      rw [List.foldl_cons, ih]
      unfold revStep
      split
      · simp; omega
      · split
        · simp; omega
        · simp; omega
  have := key L ([], [])
  simpa [revF] using this
theorem step_one (l : List StepB) : ∀ u ∈ stepCells l, u.oneCell' = true := by
  induction l with
  | nil => simp [stepCells]
  | cons s l ih =>
    intro u hu
    have e : stepCells (s :: l) = .int .u8 (s.kind : Nat) :: .string s.text :: stepCells l := rfl
    rw [e] at hu
    rcases List.mem_cons.1 hu with rfl | hu
    · rfl
    · rcases List.mem_cons.1 hu with rfl | hu
      · rfl
      · exact ih u hu
/-- append(v, x...), of two rows of lines; x may be nil -/
theorem wpList_joinL {ops : Array Oper} {rest : List Oper} {o : Oper} {a : Act} {w : World} {Q : Exit → Act → World → Prop} (hgd : o.guard = none) (s x : Operand)
    (ho : o.op = .call { callee := .builtin .append, args := #[s, x], argTypes := #[59, 59] }) {base : Nat} {v : Value} {A B : List StepB} (hs : a.eval s = v) (hA : w.ownsRow base 93 2 v A.length (stepCells A))
    {vx : Value} (hx : a.eval x = vx) (hX : w.ownsRow base 93 2 vx B.length (stepCells B)) (hn : A.length + B.length ≤ 100000) (hb : base ≤ w.heap.size)
    (h : ∀ v' w', w'.ownsRow base 93 2 v' (A.length + B.length) (stepCells (A ++ B)) → w.grownBy w' v.ownBlock → (v'.ownBlock = v.ownBlock ∨ ∀ g, v'.ownBlock = some g → w.heap.size ≤ g) →
      wpList Tryz.prog ops Q rest (a.put o.dst v') w') : wpList Tryz.prog ops Q (o :: rest) a w := by
  obtain ⟨i0, hi, hz0, hz1, hz2⟩ := info_parts info_line
  rcases hX.2 with ⟨rfl, h0⟩ | ⟨g, cap, cur, rfl, hbg, hg, hnc, hcm, hcs, htake⟩
  · obtain rfl : B = [] := List.eq_nil_of_length_eq_zero h0
    refine wpList_append_own_none hgd s x 59 ho base 93 i0 2 Tryz.underlying59 hi v A.length (stepCells A) hs hA hx ?_
    exact h v w (by simpa using hA) ⟨rfl, rfl, rfl, Nat.le_refl _, fun _ _ _ => rfl⟩ (.inl rfl)
  · refine wpList_append_own2 hgd s x 59 ho base 93 i0 _ 2 24 Tryz.underlying59 hi hz0 hz1 hz2 rfl (by decide) v A.length (stepCells A) hs hA ⟨g, 0, none⟩ B.length cap (stepCells B) hx hX.1 (fun j u hu => hX.cells (g := g) rfl j u hu) (step_one B) (by unfold maxLen; omega) (by omega) hb ?_
    intro v' w' h1 h2 h3
    exact h v' w' (by rw [stepCells_append]; exact h1) h2 h3
/-- a row cut to nothing is still its owner's -/
theorem owns_cut0 {base : Nat} {w : World} {n cap : Nat} {a : Option Addr} {xs : List Value} (h : w.ownsRow base 93 2 (.slice a n cap) n xs) : w.ownsRow base 93 2 (.slice a 0 cap) 0 (stepCells []) := by
  refine ⟨rfl, ?_⟩
  rcases h.2 with ⟨e, _⟩ | ⟨g, cap', cur, e, hbg, hg, hnc, hcm, hcs, htake⟩
  · cases e; exact .inl ⟨rfl, rfl⟩
  · cases e; exact .inr ⟨g, cap, cur, rfl, hbg, hg, Nat.zero_le _, hcm, hcs, by simp [stepCells]⟩
theorem run_cut0 {a : Option Addr} {n c : Nat} (w : World) :
    (Instr.slice 59 (.slice a n c) none (some (.int .i64 0)) none).run Tryz.prog w = .ok (.slice a 0 c) w := by
  cases a <;> simp [go_sem, Tryz.underlying59]
end Go.Proofs.YtcclgodahlinbaaGreatDoor

namespace Go.Proofs.YtcclgodahlinbaaGreatDoor
open Go.RowKit Go
set_option maxRecDepth 100000

theorem ownBlock_cut (a : Option Addr) (n m c : Nat) : (Value.slice a n c).ownBlock = (Value.slice a m c).ownBlock := by cases a <;> rfl
/-- two rows of lines that a call has made -/
structure Two (base : Nat) (vt va : Value) (r : List StepB × List StepB) (w : World) : Prop where
  t : w.ownsRow base 93 2 vt r.1.length (stepCells r.1)
  a : w.ownsRow base 93 2 va r.2.length (stepCells r.2)
  ap : va.ownBlock = none ∨ vt.ownBlock ≠ va.ownBlock
theorem Two.below {base : Nat} {vt va : Value} {r : List StepB × List StepB} {w w' : World} (h : Two base vt va r w) (hb : Below w.heap.size w w') : Two base vt va r w' :=
  ⟨owns_below h.t hb (fun k e => (h.t.lt k e).2), owns_below h.a hb (fun k e => (h.a.lt k e).2), h.ap⟩
theorem Two.alloc {base : Nat} {vt va : Value} {r : List StepB × List StepB} {w : World} (h : Two base vt va r w) (o : Obj) : Two base vt va r (w.alloc o) := ⟨h.t.alloc o, h.a.alloc o, h.ap⟩
theorem Two.newT {base : Nat} {vt va vt' : Value} {r : List StepB × List StepB} {w w' : World} (h : Two base vt va r w) {T : List StepB} (ht : w'.ownsRow base 93 2 vt' T.length (stepCells T)) (hg : w.grownBy w' vt.ownBlock)
    (hn : vt'.ownBlock = vt.ownBlock ∨ ∀ g, vt'.ownBlock = some g → w.heap.size ≤ g) : Two base vt' va (T, r.2) w' := by
  refine ⟨ht, h.a.kept hg ?_, ?_⟩
  · rcases h.ap with e | e
    · exact .inl e
    · exact .inr (fun e2 => e e2.symm)
  · rcases h.ap with e | e
    · exact .inl e
    · cases hv : va.ownBlock with
      | none => exact .inl rfl
      | some k =>
        right
        intro e2
        rcases hn with h1 | h1
        · exact e (by rw [← h1, e2, hv])
        · have := h1 k e2
          have := (h.a.lt k hv).2
          omega
theorem Two.newA {base : Nat} {vt va va' : Value} {r : List StepB × List StepB} {w w' : World} (h : Two base vt va r w) {A : List StepB} (ha : w'.ownsRow base 93 2 va' A.length (stepCells A)) (hg : w.grownBy w' va.ownBlock)
    (hn : va'.ownBlock = va.ownBlock ∨ ∀ g, va'.ownBlock = some g → w.heap.size ≤ g) : Two base vt va' (r.1, A) w' := by
  refine ⟨h.t.kept hg ?_, ha, ?_⟩
  · rcases h.ap with e | e
    · cases hv : vt.ownBlock with
      | none => exact .inl rfl
      | some k => right; rw [e]; intro e2; cases e2
    · exact .inr e
  · cases hv : va'.ownBlock with
    | none => exact .inl rfl
    | some k =>
      right
      intro e2
      rcases hn with h1 | h1
      · rcases h.ap with e | e
        · rw [← h1, hv] at e; cases e
        · exact e (by rw [e2, ← h1, hv])
      · have := h1 k hv
        have := (h.t.lt k e2).2
        omega
set_option maxHeartbeats 8000000 in
theorem revLines_any {L : List StepB} {a : Option Addr} {cap : Nat} {w : World} (hS : StepsAt w.heap.size w (.slice a L.length cap) L) (hL : L.length ≤ 1000) (hK : ∀ s ∈ L, Fine s) :
    Calls Tryz.prog 70 #[.slice a L.length cap] w fun e w' => ∃ v, e = .returned v ∧ w'.ownsRow w.heap.size 93 2 v (revL L).length (stepCells (revL L)) ∧ Below w.heap.size w w' := by
  obtain ⟨i0, hi, hz0, hz1, hz2⟩ := info_parts info_line
  obtain ⟨W0, hmk, hM, hgm⟩ := run_makeSlice_owned (P := Tryz.prog) (w := w) w.heap.size 59 93 i0 _ 2 Tryz.underlying59 hi hz0 hz1 .i64 .i64 L.length (by omega) (by rw [hz2]; omega) (by unfold maxLen; omega) (Nat.le_refl _)
  have hb0 : Below w.heap.size w W0 := (Below.refl _ _).grown hgm (Nat.le_refl _) (fun k e => by cases e)
  have hTw0 : Two w.heap.size (.slice (some ⟨w.heap.size, 0, none⟩) 0 L.length) (.slice none 0 0) (revF (L.take 0)) W0 := ⟨hM, World.ownsRow_nil _ _ _ _, .inl rfl⟩
  clear hM hgm
  go_enter Tryz.func70, Tryz.ntmps70
  go_wp2_with fail
  clear hmk
  go_loopg [3, 4, 13] L.length (fun g vt va t wr => ∃ k : Nat, g = L.length - k ∧ k ≤ L.length ∧ t = .int .i64 k ∧ Two w.heap.size vt va (revF (L.take k)) wr ∧ Below w.heap.size w wr)
  case atStart => exact ⟨0, by omega, by omega, rfl, hTw0, hb0⟩
  case round =>
    obtain ⟨k, hgk, hkl, rfl, hTw, hbel⟩ := hrel
    have hG : Hid (gk = L.length - k) := hgk
    clear hgk hTw0 hb0
    have hsw := hbel.size
    have hrl := revF_len (L.take k)
    rw [List.length_take, Nat.min_eq_left hkl] at hrl
    have hrl' : (revF (L.take k)).1.length + (revF (L.take k)).2.length ≤ 1000 := by omega
    clear hrl
    by_cases hk : k < L.length
    · have hkI : (k : Int) < L.length := by omega
      obtain ⟨bb, rfl, hbB, r0, r1⟩ := (hS.below hbel).at hk
      have hF := hK _ (List.getElem_mem hk)
      have hrt : Hid (revF (L.take (k + 1)) = revStep (revF (L.take k)) L[k]) := revF_take hk
      generalize L[k] = s at *
      generalize revF (L.take k) = R at *
      have hB1 := heap_alloc_new wr (.cells #[.int .u8 (s.kind : Int), .string s.text] 93)
      have hT1 := hTw.alloc (.cells #[.int .u8 (s.kind : Int), .string s.text] 93)
      have hb1 := hbel.alloc hsw (.cells #[.int .u8 (s.kind : Int), .string s.text] 93)
      have hz1' : (wr.alloc (.cells #[.int .u8 (s.kind : Int), .string s.text] 93)).heap.size = wr.heap.size + 1 := by simp
      have y0 : (wr.alloc (.cells #[.int .u8 (s.kind : Int), .string s.text] 93)).cell? ⟨wr.heap.size, 0, none⟩ = some (.int .u8 (s.kind : Int)) := cell_of hB1 rfl
      have y1 : (wr.alloc (.cells #[.int .u8 (s.kind : Int), .string s.text] 93)).cell? ⟨wr.heap.size, 1, none⟩ = some (.string s.text) := cell_of hB1 rfl
      go_wp2_with fail
      generalize wr.alloc (.cells #[.int .u8 (s.kind : Int), .string s.text] 93) = W1 at *
      refine (clone_any s.text W1 (by have := hF.2; omega)).mono ?_
      rintro e W2 ⟨rfl, b2⟩
      have hT2 := hT1.below b2
      have hb2 := hb1.trans (b2.mono (by omega))
      have hsz2 := hb2.size
      have y0' : W2.cell? ⟨wr.heap.size, 0, none⟩ = some (.int .u8 (s.kind : Int)) := (b2.cell (p := ⟨wr.heap.size, 0, none⟩) (by show wr.heap.size < _; omega)).trans y0
      clear hTw hT1 hB1 y0 y1 hb1
      have hone : ∀ (kk : Int), ∀ u ∈ [Value.int .u8 kk, Value.string s.text], u.oneCell' = true := by intro kk u hu; simp at hu; rcases hu with rfl | rfl <;> rfl
      obtain ⟨aT, cT, rfl⟩ := owns_isSlice hT2.t
      obtain ⟨aA, cA, rfl⟩ := owns_isSlice hT2.a
      rcases hF.1 with hk32 | hk45 | hk43
      · rw [hk32] at y0'
        have hrt2 : Hid (revF (L.take (k + 1)) = (R.1 ++ R.2 ++ [⟨32, s.text⟩], [])) := by unfold Hid; rw [hrt.out]; unfold revStep; rw [if_neg (by omega), if_neg (by omega)]
        clear hrt hk32
        have hcut := fun w => run_cut0 (a := aA) (n := R.2.length) (c := cA) w
        go_wp2_with (first | (at_builtin; refine wpList_joinL rfl (.tmp 22) (.tmp 23) rfl rfl hT2.t rfl hT2.a (by omega) hsz2 ?_; intro v3 w3 hown3 hgr3 hnew3; have hT3 := hT2.newT (T := R.1 ++ R.2) (by rw [List.length_append]; exact hown3) hgr3 hnew3; obtain ⟨a3, c3, rfl⟩ := owns_isSlice hown3; have hsz3 := hgr3.size) | (at_builtin; refine wpList_append_own2 rfl (.tmp 27) (.tmp 30) 59 rfl w.heap.size 93 i0 _ 2 24 Tryz.underlying59 hi hz0 hz1 hz2 rfl (by decide) (.slice a3 (R.1.length + R.2.length) c3) (R.1.length + R.2.length) (stepCells (R.1 ++ R.2)) rfl (hown3.alloc _) ⟨w3.heap.size, 0, none⟩ 1 1 [.int .u8 32, .string s.text] rfl rfl (cells_new w3 [.int .u8 32, .string s.text] 93) (hone 32) (by unfold maxLen; omega) (by omega) (by simp; omega) ?_; intro v' w4 hown4 hgr hnew))
        have hT3c : Two w.heap.size (.slice a3 (R.1.length + R.2.length) c3) (.slice aA 0 cA) (R.1 ++ R.2, []) w3 := ⟨hT3.t, owns_cut0 hT3.a, by rw [ownBlock_cut aA 0 R.2.length cA]; exact hT3.ap⟩
        go_roundg (L.length - (k + 1))
        · refine ⟨k + 1, rfl, by omega, by push_cast; rfl, ?_, ?_⟩
          · rw [hrt2.out]
            exact (hT3c.alloc _).newT (T := R.1 ++ R.2 ++ [⟨32, s.text⟩]) (by rw [List.length_append, List.length_append, stepCells_append]; exact hown4) hgr hnew
          · exact ((hb2.grown hgr3 hsz2 (fun j e => (hT2.t.lt j e).1)).alloc (by omega) _).grown hgr (by simp; omega) (fun j e => (hown3.lt j e).1)
        · have := hG.out; omega
      · rw [hk45] at y0'
        have hrt2 : Hid (revF (L.take (k + 1)) = (R.1, R.2 ++ [⟨43, s.text⟩])) := by unfold Hid; rw [hrt.out]; unfold revStep; rw [if_pos hk45]
        clear hrt hk45
        go_wp2_with (at_builtin; refine wpList_append_own2 rfl (.tmp 34) (.tmp 37) 59 rfl w.heap.size 93 i0 _ 2 24 Tryz.underlying59 hi hz0 hz1 hz2 rfl (by decide) (.slice aA R.2.length cA) R.2.length (stepCells R.2) rfl (hT2.a.alloc _) ⟨W2.heap.size, 0, none⟩ 1 1 [.int .u8 43, .string s.text] rfl rfl (cells_new W2 [.int .u8 43, .string s.text] 93) (hone 43) (by unfold maxLen; omega) (by omega) (by simp; omega) ?_; intro v' w3 hown3 hgr hnew)
        go_roundg (L.length - (k + 1))
        · refine ⟨k + 1, rfl, by omega, by push_cast; rfl, ?_, ?_⟩
          · rw [hrt2.out]
            exact (hT2.alloc _).newA (by rw [List.length_append, stepCells_append]; exact hown3) hgr hnew
          · exact (hb2.alloc hsz2 _).grown hgr (by simp; omega) (fun j e => (hT2.a.lt j e).1)
        · have := hG.out; omega
      · rw [hk43] at y0'
        have hrt2 : Hid (revF (L.take (k + 1)) = (R.1 ++ [⟨45, s.text⟩], R.2)) := by unfold Hid; rw [hrt.out]; unfold revStep; rw [if_neg (by omega), if_pos hk43]
        clear hrt hk43
        go_wp2_with (at_builtin; refine wpList_append_own2 rfl (.tmp 41) (.tmp 44) 59 rfl w.heap.size 93 i0 _ 2 24 Tryz.underlying59 hi hz0 hz1 hz2 rfl (by decide) (.slice aT R.1.length cT) R.1.length (stepCells R.1) rfl (hT2.t.alloc _) ⟨W2.heap.size, 0, none⟩ 1 1 [.int .u8 45, .string s.text] rfl rfl (cells_new W2 [.int .u8 45, .string s.text] 93) (hone 45) (by unfold maxLen; omega) (by omega) (by simp; omega) ?_; intro v' w3 hown3 hgr hnew)
        go_roundg (L.length - (k + 1))
        · refine ⟨k + 1, rfl, by omega, by push_cast; rfl, ?_, ?_⟩
          · rw [hrt2.out]
            exact (hT2.alloc _).newT (by rw [List.length_append, stepCells_append]; exact hown3) hgr hnew
          · exact (hb2.alloc hsz2 _).grown hgr (by simp; omega) (fun j e => (hT2.t.lt j e).1)
        · have := hG.out; omega
    · obtain rfl : k = L.length := by omega
      rw [List.take_length] at hTw hrl'
      obtain ⟨aT, cT, rfl⟩ := owns_isSlice hTw.t
      obtain ⟨aA, cA, rfl⟩ := owns_isSlice hTw.a
      have hRL : Hid (revL L = (revF L).1 ++ (revF L).2) := rfl
      generalize revF L = R at *
      go_wp2_with (at_builtin; refine wpList_joinL rfl (.tmp 47) (.tmp 48) rfl rfl hTw.t rfl hTw.a (by omega) hsw ?_; intro v3 w3 hown3 hgr3 hnew3; obtain ⟨a3, c3, rfl⟩ := owns_isSlice hown3)
      go_ret
      exact ⟨_, rfl, by rw [hRL.out, List.length_append]; exact hown3, hbel.grown hgr3 hsw (fun j e => (hTw.t.lt j e).1)⟩
end Go.Proofs.YtcclgodahlinbaaGreatDoor

namespace Go.Proofs.YtcclgodahlinbaaGreatDoor
open Go.RowKit Go
set_option maxRecDepth 100000

section
variable {P : Program} {ops : Array Oper} {Q : Exit → Act → World → Prop} {md : Region.Mode}
/-- an operation that yields v in every world of a kind, and leaves it -/
def YieldsIn (P : Program) (ops : Array Oper) (I : World → Prop) (o : Oper) (v : Value) (a : Act) : Prop :=
  Region.wanted o (yielded ops a.tmps) = true ∧ ∀ w, I w → (execOp a.eval o).run P w = .ok (.value v) w
/-- all orders, through worlds of a kind alone -/
def wpKind (P : Program) (md : Region.Mode) (ops : Array Oper) (Q : Exit → Act → World → Prop) (I : World → Prop) : Nat → Array Bool → Act → World → Prop
  | 0, l, a, w => I w ∧ Region.ready md ops l = [] ∧ Q .normal a w
  | n + 1, l, a, w => I w ∧ (Region.ready md ops l = [] → Q .normal a w) ∧ ∀ i ∈ Region.ready md ops l, wpOp P ops Q i (wpKind P md ops Q I n (l.setIfInBounds i true)) a w
theorem wpKind.world {I : World → Prop} {n : Nat} {l : Array Bool} {a : Act} {w : World} (h : wpKind P md ops Q I n l a w) : I w := by
  cases n with
  | zero => exact h.1
  | succ n => exact h.1
theorem wpKind.any {I : World → Prop} : ∀ {n : Nat} {l : Array Bool} {a : Act} {w : World}, wpKind P md ops Q I n l a w → wpAny P md ops Q n l a w
  | 0, _, _, _, h => h.2
  | _ + 1, _, _, _, h => ⟨h.2.1, fun i hi => wpOp_mono (fun _ _ h' => wpKind.any h') (h.2.2 i hi)⟩
theorem YieldsIn.keeps {I : World → Prop} {o p : Oper} {v : Value} {a : Act} (hs : ∀ cs b, o.op ≠ .select cs b) (hap : ∀ d, p.dst = some d → d ∉ o.looksAt ops) (h : YieldsIn P ops I o v a) (u : Value) : YieldsIn P ops I o v (a.put p.dst u) := by
  refine ⟨(wanted_put o a p.dst u hap).trans h.1, fun w hw => ?_⟩
  rw [execOp_put o hs a p.dst u hap]
  exact h.2 w hw
/-- such an operation may as well come first -/
theorem wpOp_swap {I : World → Prop} {j : Nat} {o p : Oper} {v : Value} (hj : ops[j]? = some p) (hap : o.apart ops p = true) (hso : ∀ cs b, o.op ≠ .select cs b) (hsp : ∀ cs b, p.op ≠ .select cs b)
    (hQ : ∀ c a w, Q (.panic c) (a.put o.dst v) w → Q (.panic c) a w) {K : Act → World → Prop} {a : Act} {w : World} (hy : YieldsIn P ops I o v a) (h : wpOp P ops Q j K (a.put o.dst v) w) :
    wpOp P ops Q j (fun a' w' => YieldsIn P ops I o v a' ∧ K (a'.put o.dst v) w') a w := by
  obtain ⟨h1, h2, h3⟩ := Oper.apart_spec hap
  have hk := fun u => hy.keeps (p := p) hso h3 u
  unfold wpOp at h ⊢
  simp only [hj] at h ⊢
  rw [wanted_put p a o.dst v h1] at h
  by_cases hw : Region.wanted p (yielded ops a.tmps) = true
  · rw [if_pos hw] at h ⊢
    have hx := execOp_put p hsp a o.dst v h1
    rcases h with h | ⟨q1, q2⟩
    · left
      unfold Oper.wp at h ⊢
      rw [hx] at h
      cases hr : (execOp a.eval p).run P w with
      | halt x w' =>
        rw [hr] at h
        cases x <;> simp only [Oper.upon] at h ⊢
        exact hQ _ _ _ h
      | ok n w' =>
        rw [hr] at h
        cases n with
        | value u => exact ⟨hk u, by rw [← Act.put_comm a v u h2]; exact h⟩
        | skip => exact ⟨hk undef, by rw [← Act.put_comm a v undef h2]; exact h⟩
        | defer d =>
          simp only [Oper.upon] at h ⊢
          have hk2 : YieldsIn P ops I o v ({ a with defers := d :: a.defers }) := hy
          exact ⟨hk2.keeps (p := p) hso h3 undef, by rw [← Act.put_comm _ v undef h2, ← Act.put_defers]; exact h⟩
        | enter f args =>
          simp only [Oper.upon] at h ⊢
          refine h.mono fun e w'' he => ?_
          cases e with
          | returned u => exact ⟨hk u, by rw [← Act.put_comm a v u h2]; exact he⟩
          | panicked c => exact hQ _ _ _ he
          | outgrown => exact he
        | row r args =>
          simp only [Oper.upon] at h ⊢
          exact Rows.mono h fun u w'' he => ⟨hk u, by rw [← Act.put_comm a v u h2]; exact he⟩
        | _ => simp only [Oper.upon] at h
    · right
      unfold Oper.asks at q1 ⊢
      rw [hx] at q1
      exact ⟨q1, q2⟩
  · rw [if_neg hw] at h ⊢
    exact ⟨hk undef, by rw [← Act.put_comm a v undef h2]; exact h⟩
theorem YieldsIn.op {I : World → Prop} {i : Nat} {o : Oper} {v : Value} {a : Act} {w : World} {K : Act → World → Prop} (hi : ops[i]? = some o) (hy : YieldsIn P ops I o v a) (hw : I w) (h : K (a.put o.dst v) w) : wpOp P ops Q i K a w := by
  unfold wpOp
  simp only [hi]
  rw [if_pos hy.1]
  left
  unfold Oper.wp
  rw [hy.2 w hw]
  exact h
theorem wpKind_first {I : World → Prop} {i : Nat} {o : Oper} {v : Value} (hi : ops[i]? = some o) (hsel : Region.noSelect ops = true) (hQ : ∀ c a w, Q (.panic c) (a.put o.dst v) w → Q (.panic c) a w) :
    ∀ (n : Nat) (l : Array Bool) (a : Act) (w : World), (∀ j p, ops[j]? = some p → j ≠ i → l.getD j true = false → (∀ e ∈ p.after, Region.binds md e = true → e.on ≠ i) → o.apart ops p = true) →
      i ∈ Region.ready md ops l → YieldsIn P ops I o v a → wpKind P md ops Q I n (l.setIfInBounds i true) (a.put o.dst v) w → wpKind P md ops Q I (n + 1) l a w
  | n, l, a, w, hf, hr, hy, h => by
    have hns := Region.noSelect_spec hsel
    refine ⟨h.world, fun h0 => (by rw [h0] at hr; cases hr), fun j hj => ?_⟩
    by_cases hji : j = i
    · subst hji
      exact hy.op hi h.world h
    · have hj2 := ready_mono hj hji
      cases n with
      | zero => rw [h.2.1] at hj2; cases hj2
      | succ n =>
        obtain ⟨hju, p, hp, hall⟩ := mem_ready.1 hj
        have hiu := (mem_ready.1 hr).1
        have hno : ∀ e ∈ p.after, Region.binds md e = true → e.on ≠ i := fun e he hb heq => by
          have h2 := hall e he hb
          rw [heq] at h2
          by_cases hs : i < l.size
          · simp [hs] at hiu h2; rw [hiu] at h2; cases h2
          · simp [Array.getElem?_eq_none (Nat.le_of_not_lt hs)] at h2
        have h2 := wpOp_swap hp (hf j p hp hji hju hno) (fun cs b => hns i o cs b hi) (fun cs b => hns j p cs b hp) hQ hy (h.2.2 j hj2)
        refine wpOp_mono (fun a' w' h3 => wpKind_first hi hsel hQ n _ a' w' (fun k q hk hki hun hno => hf k q hk hki ?_ hno) (ready_mono hr (Ne.symm hji)) h3.1 (by rw [Array.setIfInBounds_comm _ _ hji]; exact h3.2)) h2
        by_cases hjk : j = k
        · subst hjk; exact hju
        · rw [getD_set_ne true hjk] at hun; exact hun
theorem wpKind_take {I : World → Prop} {i : Nat} {o : Oper} {v : Value} {n : Nat} {l : Array Bool} {a : Act} {w : World} (hi : ops[i]? = some o) (hs : Region.noSelect ops = true) (hf : Region.free md ops l i = true) (hr : (Region.ready md ops l).contains i = true)
    (hQ : ∀ c a w, Q (.panic c) (a.put o.dst v) w → Q (.panic c) a w) (hy : YieldsIn P ops I o v a) (h : wpKind P md ops Q I n (l.setIfInBounds i true) (a.put o.dst v) w) : wpKind P md ops Q I (n + 1) l a w :=
  wpKind_first hi hs hQ n l a w (fun j p hj hji hun hno => Region.free_spec hi hf j p hj hji hun hno) (by simpa using hr) hy h
theorem wpKind_one {I : World → Prop} {i : Nat} {n : Nat} {l : Array Bool} {a : Act} {w : World} (hw : I w) (hr : Region.ready md ops l = [i]) (h : wpOp P ops Q i (wpKind P md ops Q I n (l.setIfInBounds i true)) a w) : wpKind P md ops Q I (n + 1) l a w :=
  ⟨hw, fun h0 => (by rw [hr] at h0; cases h0), fun j hj => by rw [hr, List.mem_singleton] at hj; subst hj; exact h⟩
theorem wpOp_call {i : Nat} {o : Oper} {a : Act} {w : World} {K : Act → World → Prop} (hi : ops[i]? = some o) (hg : o.guard = none) (f : FuncId) (xs : Array Operand) (ts : Array TypeId) (hop : o.op = Op.call { callee := Callee.value (.func f), args := xs, argTypes := ts })
    (args : Array Value) (ha : xs.map a.eval = args) (hrun : (callFunc f args).run P w = .ok (.enter f args) w) (R : Value → World → Prop)
    (hc : Calls P f args w fun e w' => ∃ v, e = .returned v ∧ R v w') (hK : ∀ v w', R v w' → K (a.put o.dst v) w') : wpOp P ops Q i K a w := by
  have h := step_call (ops := ops) (Q := Q) (E := True) hg f xs ts hop args ha hrun R hc hK
  have hw : Region.wanted o (yielded ops a.tmps) = true := by simp [Region.wanted, hg]
  rw [if_pos hw] at h
  unfold wpOp
  simp only [hi]
  rw [if_pos hw]
  exact .inl h
theorem wpOp_skip {i : Nat} {o : Oper} {a : Act} {w w' : World} {K : Act → World → Prop} (hi : ops[i]? = some o) (hg : o.guard = none) (hrun : (execOp a.eval o).run P w = .ok .skip w') (hK : K (a.put o.dst undef) w') : wpOp P ops Q i K a w := by
  have hw : Region.wanted o (yielded ops a.tmps) = true := by simp [Region.wanted, hg]
  unfold wpOp
  simp only [hi]
  rw [if_pos hw]
  left
  unfold Oper.wp
  rw [hrun]
  exact hK
theorem wpKind_done {I : World → Prop} {l : Array Bool} {a : Act} {w : World} (hw : I w) (hr : Region.ready md ops l = []) (h : Q .normal a w) : wpKind P md ops Q I 0 l a w := ⟨hw, hr, h⟩
end
end Go.Proofs.YtcclgodahlinbaaGreatDoor

namespace Go.Proofs.YtcclgodahlinbaaGreatDoor
open Go.RowKit Go
set_option maxRecDepth 100000

theorem set5' {W : World} {g : Nat} {a0 a1 a2 a3 a4 : Value} {t : TypeId} (h : W.heap[g]? = some (.cells #[a0, a1, a2, a3, a4] t (0, 0))) (v0 v1 v2 v3 v4 : Value) :
    (((((W.setCell ⟨g, 0, none⟩ v0).setCell ⟨g, 1, none⟩ v1).setCell ⟨g, 2, none⟩ v2).setCell ⟨g, 3, none⟩ v3).setCell ⟨g, 4, none⟩ v4).heap[g]? = some (.cells #[v0, v1, v2, v3, v4] t (0, 0)) :=
  heap_setCell_same _ _ _ _ _ _ _ (heap_setCell_same _ _ _ _ _ _ _ (heap_setCell_same _ _ _ _ _ _ _ (heap_setCell_same _ _ _ _ _ _ _ (heap_setCell_same _ _ _ _ _ _ _ h))))
def revH (h : HunkM) : HunkM := ⟨h.tr, h.tc, h.fr, h.fc, revL h.lines⟩
theorem run_revLines (x : Value) (w : World) : (callFunc 70 #[x]).run Tryz.prog w = .ok (.enter 70 #[x]) w := by kernel_rfl
set_option maxHeartbeats 8000000 in
theorem reversed_any {h : HunkM} {a : Option Addr} {cap : Nat} {w : World} (hS : StepsAt w.heap.size w (.slice a h.lines.length cap) h.lines) (hL : h.lines.length ≤ 1000) (hK : ∀ s ∈ h.lines, Fine s) :
    Calls Tryz.prog 32 #[hunkVal h (.slice a h.lines.length cap)] w fun e w' => ∃ v, e = .returned (hunkVal (revH h) v) ∧ w'.ownsRow w.heap.size 93 2 v (revL h.lines).length (stepCells (revL h.lines)) ∧ Below w.heap.size w w' := by
  have hb1 := (Below.refl w.heap.size w).alloc (Nat.le_refl _) (.cells #[.int .i64 (h.fr : Int), .int .i64 (h.fc : Int), .int .i64 (h.tr : Int), .int .i64 (h.tc : Int), .slice a h.lines.length cap] 61)
  have hB1 := heap_alloc_new w (.cells #[.int .i64 (h.fr : Int), .int .i64 (h.fc : Int), .int .i64 (h.tr : Int), .int .i64 (h.tc : Int), .slice a h.lines.length cap] 61)
  have hz1 : (w.alloc (.cells #[.int .i64 (h.fr : Int), .int .i64 (h.fc : Int), .int .i64 (h.tr : Int), .int .i64 (h.tc : Int), .slice a h.lines.length cap] 61)).heap.size = w.heap.size + 1 := by simp
  generalize hW1 : w.alloc (.cells #[.int .i64 (h.fr : Int), .int .i64 (h.fc : Int), .int .i64 (h.tr : Int), .int .i64 (h.tc : Int), .slice a h.lines.length cap] 61) = W1 at *
  have hb2 := hb1.alloc (by omega) hunk0
  have hB2 := heap_alloc_new W1 hunk0
  rw [hz1] at hB2
  have hB1' := (Below.heap_alloc W1 hunk0 w.heap.size (by omega)).trans hB1
  have hz2 : (W1.alloc hunk0).heap.size = w.heap.size + 2 := by simp; omega
  have hWW : Hid (w.alloc (.cells #[.int .i64 (h.fr : Int), .int .i64 (h.fc : Int), .int .i64 (h.tr : Int), .int .i64 (h.tc : Int), .slice a h.lines.length cap] 61) = W1) := hW1
  clear hB1 hb1
  subst hW1
  go_enter Tryz.func32, Tryz.ntmps32
  go_wp2_with fail
  generalize (w.alloc (.cells #[.int .i64 (h.fr : Int), .int .i64 (h.fc : Int), .int .i64 (h.tr : Int), .int .i64 (h.tc : Int), .slice a h.lines.length cap] 61)).alloc hunk0 = W at *
  have hrl : Calls Tryz.prog 70 #[.slice a h.lines.length cap] W.drew fun e w' => ∃ v, e = .returned v ∧ ((∃ al cl, v = .slice al (revL h.lines).length cl) ∧ w'.ownsRow W.heap.size 93 2 v (revL h.lines).length (stepCells (revL h.lines)) ∧ Below W.heap.size W.drew w') := by
    refine (revLines_any (w := W.drew) ((hS.below hb2.drew).mono hb2.size) hL hK).mono ?_
    rintro e w' ⟨v, rfl, ho, hb⟩
    exact ⟨v, rfl, owns_isSlice ho, ho, hb⟩
  have hX : Hid (∀ w1, Below W.heap.size W.drew w1 → w1.heap[w.heap.size]? = W.heap[w.heap.size]? ∧ w1.heap[w.heap.size + 1]? = some hunk0 ∧ Below w.heap.size w w1 ∧ w.heap.size + 2 ≤ w1.heap.size) := by
    intro w1 hb
    have hz := hb.size
    have e : W.drew.heap.size = W.heap.size := rfl
    exact ⟨hb.block w.heap.size (by omega), (hb.block (w.heap.size + 1) (by omega)).trans hB2, hb2.drew.trans (hb.mono (by omega)), by omega⟩
  have x0 : W.cell? ⟨w.heap.size, 0, none⟩ = some (.int .i64 (h.fr : Int)) := cell_of hB1' rfl
  have x1 : W.cell? ⟨w.heap.size, 1, none⟩ = some (.int .i64 (h.fc : Int)) := cell_of hB1' rfl
  have x2 : W.cell? ⟨w.heap.size, 2, none⟩ = some (.int .i64 (h.tr : Int)) := cell_of hB1' rfl
  have x3 : W.cell? ⟨w.heap.size, 3, none⟩ = some (.int .i64 (h.tc : Int)) := cell_of hB1' rfl
  have x4 : W.cell? ⟨w.heap.size, 4, none⟩ = some (.slice a h.lines.length cap) := cell_of hB1' rfl
  have hln : Hid (revL h.lines = revL h.lines) := rfl
  generalize hRL : revL h.lines = RL at *
  have hRLH : Hid (revL h.lines = RL) := hRL
  have hWz : w.heap.size ≤ W.heap.size := by omega
  clear hRL hz2 hWW hln hb2 hB2 hz1
  have hI : W.drew.heap[w.heap.size]? = some (.cells #[.int .i64 (h.fr : Int), .int .i64 (h.fc : Int), .int .i64 (h.tr : Int), .int .i64 (h.tc : Int), .slice a h.lines.length cap] 61 (0, 0)) := hB1'
  refine wp_region_any mixed (wpKind.any (I := fun w' => w'.heap[w.heap.size]? = some (.cells #[.int .i64 (h.fr : Int), .int .i64 (h.fc : Int), .int .i64 (h.tr : Int), .int .i64 (h.tc : Int), .slice a h.lines.length cap] 61 (0, 0))) ?_)
  refine wpKind_take (i := 0) (n := 12) (v := .pointer (some ⟨w.heap.size, 2, none⟩)) rfl (by kernel_rfl) (by kernel_rfl) (by kernel_rfl) (fun c a w h => h) ⟨by simp [Region.wanted], fun w' hw => ?_⟩ ?_
  · simp [execOp, go_sem, Act.eval]
  refine wpKind_take (i := 1) (n := 11) (v := .int .i64 (h.tr : Int)) rfl (by kernel_rfl) (by kernel_rfl) (by kernel_rfl) (fun c a w h => h) ⟨by simp [Region.wanted], fun w' hw => ?_⟩ ?_
  · have hc : w'.cell? ⟨w.heap.size, 2, none⟩ = some (.int .i64 (h.tr : Int)) := cell_of (k := 2) hw rfl
    simp [execOp, go_sem, Act.eval, Act.put, hc]
  refine wpKind_take (i := 2) (n := 10) (v := .pointer (some ⟨w.heap.size, 3, none⟩)) rfl (by kernel_rfl) (by kernel_rfl) (by kernel_rfl) (fun c a w h => h) ⟨by simp [Region.wanted], fun w' hw => ?_⟩ ?_
  · simp [execOp, go_sem, Act.eval, Act.put]
  refine wpKind_take (i := 3) (n := 9) (v := .int .i64 (h.tc : Int)) rfl (by kernel_rfl) (by kernel_rfl) (by kernel_rfl) (fun c a w h => h) ⟨by simp [Region.wanted], fun w' hw => ?_⟩ ?_
  · have hc : w'.cell? ⟨w.heap.size, 3, none⟩ = some (.int .i64 (h.tc : Int)) := cell_of (k := 3) hw rfl
    simp [execOp, go_sem, Act.eval, Act.put, hc]
  refine wpKind_take (i := 4) (n := 8) (v := .pointer (some ⟨w.heap.size, 0, none⟩)) rfl (by kernel_rfl) (by kernel_rfl) (by kernel_rfl) (fun c a w h => h) ⟨by simp [Region.wanted], fun w' hw => ?_⟩ ?_
  · simp [execOp, go_sem, Act.eval, Act.put]
  refine wpKind_take (i := 5) (n := 7) (v := .int .i64 (h.fr : Int)) rfl (by kernel_rfl) (by kernel_rfl) (by kernel_rfl) (fun c a w h => h) ⟨by simp [Region.wanted], fun w' hw => ?_⟩ ?_
  · have hc : w'.cell? ⟨w.heap.size, 0, none⟩ = some (.int .i64 (h.fr : Int)) := cell_of (k := 0) hw rfl
    simp [execOp, go_sem, Act.eval, Act.put, hc]
  refine wpKind_take (i := 6) (n := 6) (v := .pointer (some ⟨w.heap.size, 1, none⟩)) rfl (by kernel_rfl) (by kernel_rfl) (by kernel_rfl) (fun c a w h => h) ⟨by simp [Region.wanted], fun w' hw => ?_⟩ ?_
  · simp [execOp, go_sem, Act.eval, Act.put]
  refine wpKind_take (i := 7) (n := 5) (v := .int .i64 (h.fc : Int)) rfl (by kernel_rfl) (by kernel_rfl) (by kernel_rfl) (fun c a w h => h) ⟨by simp [Region.wanted], fun w' hw => ?_⟩ ?_
  · have hc : w'.cell? ⟨w.heap.size, 1, none⟩ = some (.int .i64 (h.fc : Int)) := cell_of (k := 1) hw rfl
    simp [execOp, go_sem, Act.eval, Act.put, hc]
  refine wpKind_take (i := 8) (n := 4) (v := .pointer (some ⟨w.heap.size, 4, none⟩)) rfl (by kernel_rfl) (by kernel_rfl) (by kernel_rfl) (fun c a w h => h) ⟨by simp [Region.wanted], fun w' hw => ?_⟩ ?_
  · simp [execOp, go_sem, Act.eval, Act.put]
  refine wpKind_take (i := 9) (n := 3) (v := .slice a h.lines.length cap) rfl (by kernel_rfl) (by kernel_rfl) (by kernel_rfl) (fun c a w h => h) ⟨by simp [Region.wanted], fun w' hw => ?_⟩ ?_
  · have hc : w'.cell? ⟨w.heap.size, 4, none⟩ = some (.slice a h.lines.length cap) := cell_of (k := 4) hw rfl
    simp [execOp, go_sem, Act.eval, Act.put, hc]
  refine wpKind_one (i := 10) (n := 2) hI (by kernel_rfl) ?_
  refine wpOp_call rfl rfl 70 _ _ rfl #[.slice a h.lines.length cap] (by simp [Act.eval, Act.put]) (run_revLines _ _) (fun v w' => (∃ al cl, v = .slice al RL.length cl) ∧ w'.ownsRow W.heap.size 93 2 v RL.length (stepCells RL) ∧ Below W.heap.size W.drew w') hrl ?_
  rintro v w1 ⟨⟨al, cl, rfl⟩, hown, hbw⟩
  obtain ⟨e1, e2, e3, e4⟩ := hX.out w1 hbw
  have hI1 : w1.heap[w.heap.size]? = some (.cells #[.int .i64 (h.fr : Int), .int .i64 (h.fc : Int), .int .i64 (h.tr : Int), .int .i64 (h.tc : Int), .slice a h.lines.length cap] 61 (0, 0)) := e1.trans hB1'
  refine wpKind_take (i := 11) (n := 1) (v := .agg #[.int .i64 (h.tr : Int), .int .i64 (h.tc : Int), .int .i64 (h.fr : Int), .int .i64 (h.fc : Int), .slice al RL.length cl]) rfl (by kernel_rfl) (by kernel_rfl) (by kernel_rfl) (fun c a w h => h) ⟨by simp [Region.wanted], fun w' hw => ?_⟩ ?_
  · simp [execOp, go_sem, Act.eval, Act.put]
  refine wpKind_one (i := 12) (n := 0) hI1 (by kernel_rfl) ?_
  have r0 : w1.cell? ⟨w.heap.size + 1, 0, none⟩ = some (.int .i64 0) := cell_of e2 rfl
  have r1 : w1.cell? ⟨w.heap.size + 1, 1, none⟩ = some (.int .i64 0) := cell_of e2 rfl
  have r2 : w1.cell? ⟨w.heap.size + 1, 2, none⟩ = some (.int .i64 0) := cell_of e2 rfl
  have r3 : w1.cell? ⟨w.heap.size + 1, 3, none⟩ = some (.int .i64 0) := cell_of e2 rfl
  have r4 : w1.cell? ⟨w.heap.size + 1, 4, none⟩ = some (.slice none 0 0) := cell_of e2 rfl
  have rf : ∀ k, w1.frozen? ⟨w.heap.size + 1, k, none⟩ = false := fun k => frozen_of e2
  refine wpOp_skip (w' := ((((w1.setCell ⟨w.heap.size + 1, 0, none⟩ (.int .i64 (h.tr : Int))).setCell ⟨w.heap.size + 1, 1, none⟩ (.int .i64 (h.tc : Int))).setCell ⟨w.heap.size + 1, 2, none⟩ (.int .i64 (h.fr : Int))).setCell ⟨w.heap.size + 1, 3, none⟩ (.int .i64 (h.fc : Int))).setCell ⟨w.heap.size + 1, 4, none⟩ (.slice al RL.length cl)) rfl rfl ?_ ?_
  · simp [execOp, go_sem, Act.eval, Act.put, r0, r1, r2, r3, r4, rf]
  have hF := set5' e2 (.int .i64 (h.tr : Int)) (.int .i64 (h.tc : Int)) (.int .i64 (h.fr : Int)) (.int .i64 (h.fc : Int)) (.slice al RL.length cl)
  have hbF := ((((e3.setCell (p := ⟨w.heap.size + 1, 0, none⟩) (Nat.le_succ _) (.int .i64 (h.tr : Int))).setCell (p := ⟨w.heap.size + 1, 1, none⟩) (Nat.le_succ _) (.int .i64 (h.tc : Int))).setCell (p := ⟨w.heap.size + 1, 2, none⟩) (Nat.le_succ _) (.int .i64 (h.fr : Int))).setCell (p := ⟨w.heap.size + 1, 3, none⟩) (Nat.le_succ _) (.int .i64 (h.fc : Int))).setCell (p := ⟨w.heap.size + 1, 4, none⟩) (Nat.le_succ _) (.slice al RL.length cl)
  have hoF : ((((((w1.setCell ⟨w.heap.size + 1, 0, none⟩ (.int .i64 (h.tr : Int))).setCell ⟨w.heap.size + 1, 1, none⟩ (.int .i64 (h.tc : Int))).setCell ⟨w.heap.size + 1, 2, none⟩ (.int .i64 (h.fr : Int))).setCell ⟨w.heap.size + 1, 3, none⟩ (.int .i64 (h.fc : Int))).setCell ⟨w.heap.size + 1, 4, none⟩ (.slice al RL.length cl))).ownsRow W.heap.size 93 2 (.slice al RL.length cl) RL.length (stepCells RL) :=
    hown.kept (grownBy_trans (grownBy_trans (grownBy_trans (grownBy_trans (grownBy_setCell _ _ _ _) (grownBy_setCell _ _ _ _)) (grownBy_setCell _ _ _ _)) (grownBy_setCell _ _ _ _)) (grownBy_setCell _ _ _ _)) (.inr (owns_ne hown e2 (by decide)))
  refine wpKind_done ?_ (by kernel_rfl) ?_
  · show _ = _
    rw [heap_setCell_other _ _ _ _ _ (by omega), heap_setCell_other _ _ _ _ _ (by omega), heap_setCell_other _ _ _ _ _ (by omega), heap_setCell_other _ _ _ _ _ (by omega), heap_setCell_other _ _ _ _ _ (by omega)]
    exact hI1
  generalize ((((w1.setCell ⟨w.heap.size + 1, 0, none⟩ (.int .i64 (h.tr : Int))).setCell ⟨w.heap.size + 1, 1, none⟩ (.int .i64 (h.tc : Int))).setCell ⟨w.heap.size + 1, 2, none⟩ (.int .i64 (h.fr : Int))).setCell ⟨w.heap.size + 1, 3, none⟩ (.int .i64 (h.fc : Int))).setCell ⟨w.heap.size + 1, 4, none⟩ (.slice al RL.length cl) = WF at *
  have s0 : WF.cell? ⟨w.heap.size + 1, 0, none⟩ = some (.int .i64 (h.tr : Int)) := cell_of (k := 0) hF rfl
  have s1 : WF.cell? ⟨w.heap.size + 1, 1, none⟩ = some (.int .i64 (h.tc : Int)) := cell_of (k := 1) hF rfl
  have s2 : WF.cell? ⟨w.heap.size + 1, 2, none⟩ = some (.int .i64 (h.fr : Int)) := cell_of (k := 2) hF rfl
  have s3 : WF.cell? ⟨w.heap.size + 1, 3, none⟩ = some (.int .i64 (h.fc : Int)) := cell_of (k := 3) hF rfl
  have s4 : WF.cell? ⟨w.heap.size + 1, 4, none⟩ = some (.slice al RL.length cl) := cell_of (k := 4) hF rfl
  go_wp2_with fail
  refine bodyPost_ret (v := .agg #[.int .i64 (h.tr : Int), .int .i64 (h.tc : Int), .int .i64 (h.fr : Int), .int .i64 (h.fc : Int), .slice al RL.length cl]) ?_ rfl ⟨_, rfl, ?_, hbF⟩
  · simp [results, Tryz.results32, go_sem, s0, s1, s2, s3, s4]
  · rw [hRLH.out]
    exact owns_mono hoF (by omega)
end Go.Proofs.YtcclgodahlinbaaGreatDoor

namespace Go.Proofs.YtcclgodahlinbaaGreatDoor
open Go.RowKit Go
set_option maxRecDepth 100000

/-- a hunk more, with a row of lines of its own -/
theorem HSo.push2 {base g cap : Nat} {v vl : Value} {hv : List HV} {w w1 w3 : World} {ob : Obj} (h : HSo base v hv w) (H : HunkM) (hb : Below w.heap.size w w1) (hvl : w1.ownsRow w.heap.size 93 2 vl H.lines.length (stepCells H.lines)) (hbase : base ≤ w.heap.size)
    (hgr : (w1.alloc ob).grownBy w3 v.ownBlock) (hown : w3.ownsRow base 61 5 (.slice (some ⟨g, 0, none⟩) (hv.length + 1) cap) (hv.length + 1) (hunkCells hv ++ hunkCells1 (H, vl))) :
    HSo base (.slice (some ⟨g, 0, none⟩) (hv.length + 1) cap) (hv ++ [(H, vl)]) w3 := by
  have hlen : (hv ++ [(H, vl)]).length = hv.length + 1 := by simp
  have hne : ∀ {vv : Value} {n : Nat} {xs : List Value} {b : Nat}, w1.ownsRow b 93 2 vv n xs → vv.ownBlock = none ∨ vv.ownBlock ≠ v.ownBlock := by
    intro vv n xs b ho
    cases hx : vv.ownBlock with
    | none => exact .inl rfl
    | some k =>
      right
      intro e
      obtain ⟨c1, q1⟩ := owns_block ho hx
      have hrow := owns_below h.owns hb (fun j e => (h.owns.lt j e).2)
      obtain ⟨c2, q2⟩ := owns_block hrow e.symm
      rw [q1] at q2
      cases q2
  refine .inr ⟨g, cap, by rw [hlen], (hown.lt g rfl).1, ?_⟩
  rw [hlen]
  refine ⟨by simp, ?_, ?_, ?_⟩
  · rw [hunkCells_append]; simpa [hunkCells] using hown
  · intro p hp
    rw [List.mem_append] at hp
    rcases hp with hp | hp
    · rcases h with ⟨rfl, _⟩ | ⟨g0, cap0, e, _, hs⟩
      · simp at hp
      · have h1 := owns_below (hs.lines p hp) hb (fun j e => ((hs.lines p hp).lt j e).2)
        exact (h1.alloc ob).kept hgr (hne h1)
    · rw [List.mem_singleton] at hp
      subst hp
      exact owns_mono ((hvl.alloc ob).kept hgr (hne hvl)) hbase
  · rw [List.pairwise_append]
    refine ⟨?_, by simp, fun p hp q hq => ?_⟩
    · rcases h with ⟨rfl, _⟩ | ⟨g0, cap0, e, _, hs⟩
      · exact List.Pairwise.nil
      · exact hs.apart
    · rw [List.mem_singleton] at hq
      subst hq
      rcases h with ⟨rfl, _⟩ | ⟨g0, cap0, e, _, hs⟩
      · simp at hp
      · cases hx : p.2.ownBlock with
        | none => exact .inl rfl
        | some k =>
          right
          intro e2
          have h1 := ((hs.lines p hp).lt k hx).2
          have h2 := (hvl.lt k e2.symm).1
          omega
set_option maxHeartbeats 4000000 in
theorem reverse_ok {hs : List HunkM} {a : Option Addr} {cap : Nat} {w : World} (hH : HunksAt w.heap.size w (.slice a hs.length cap) hs) (hok : rightM 0 0 hs = true) (hL : hs.length ≤ 1000) (hsm : ∀ h ∈ hs, h.lines.length ≤ 1000 ∧ ∀ s ∈ h.lines, Fine s) :
    Calls Tryz.prog 15 #[.agg #[.slice a hs.length cap]] w fun e w' => ∃ a' cap', e = .returned (.tuple #[.agg #[.slice a' hs.length cap'], .int .i64 0]) ∧ HunksAt w'.heap.size w' (.slice a' hs.length cap') (hs.map revH) ∧ Below w.heap.size w w' := by
  obtain ⟨i0, hi, hz0, hz1, hz2⟩ := info_parts info_hunk
  have hb0 := ((Below.refl w.heap.size w).alloc (Nat.le_refl _) (.cells #[.slice a hs.length cap] 32)).alloc (by simp) (.cells #[.slice none 0 0] 32)
  have hP1 := heap_alloc_new w (.cells #[.slice a hs.length cap] 32)
  have hP2 := heap_alloc_new (w.alloc (.cells #[.slice a hs.length cap] 32)) (.cells #[.slice none 0 0] 32)
  rw [World.size_alloc] at hP2
  have hP1' := (Below.heap_alloc (w.alloc (.cells #[.slice a hs.length cap] 32)) (.cells #[.slice none 0 0] 32) w.heap.size (by simp)).trans hP1
  have hz : ((w.alloc (.cells #[.slice a hs.length cap] 32)).alloc (.cells #[.slice none 0 0] 32)).heap.size = w.heap.size + 2 := by simp
  go_enter Tryz.func15, Tryz.ntmps15
  go_wp2_with fail
  generalize (w.alloc (.cells #[.slice a hs.length cap] 32)).alloc (.cells #[.slice none 0 0] 32) = W0 at *
  refine (isRight_yes ((hH.below hb0).mono hb0.size) hok hL).mono ?_
  rintro e W1 ⟨rfl, b1⟩
  have hbW1 := hb0.trans (b1.mono (by omega))
  have hsz1 := b1.size
  have hQ1 := (b1.block w.heap.size (by omega)).trans hP1'
  have hQ2 := (b1.block (w.heap.size + 1) (by omega)).trans hP2
  have y0 : W1.cell? ⟨w.heap.size, 0, none⟩ = some (.slice a hs.length cap) := cell_of hQ1 rfl
  clear hP1 hP2 hP1' hQ1
  go_wp2_with fail
  go_loopg [4, 14] hs.length (fun g v t wr => ∃ (k : Nat) (hv : List HV), g = hs.length - k ∧ k ≤ hs.length ∧ t = .int .i64 k ∧ HSo (w.heap.size + 2) v hv wr ∧ hv.map (·.1) = (hs.take k).map revH ∧ wr.heap[w.heap.size + 1]? = some (.cells #[.slice none 0 0] 32 (0, 0)) ∧ Below w.heap.size w wr)
  case atStart => exact ⟨0, [], by omega, by omega, rfl, .inl ⟨rfl, rfl⟩, rfl, hQ2, hbW1⟩
  case round =>
    obtain ⟨k, hv, hgk, hkl, rfl, hso, hmap, hQ, hbel⟩ := hrel
    have hG : Hid (gk = hs.length - k) := hgk
    clear hgk hQ2 hbW1
    have hsw := hbel.size
    have hltQ : w.heap.size + 1 < wr.heap.size := (Array.getElem?_eq_some_iff.1 hQ).1
    have hvlH : Hid (hv.length = k) := by unfold Hid; have := congrArg List.length hmap; simp at this; omega
    have hvl' : hv.length ≤ 1000 := by have := hvlH.out; omega
    by_cases hk : k < hs.length
    · have hkI : (k : Int) < hs.length := by omega
      obtain ⟨b, a', c', rfl, hbB, r0, r1, r2, r3, r4, hst⟩ := (hH.below hbel).at hk
      obtain ⟨l1, l2⟩ := hsm _ (List.getElem_mem hk)
      have hmk : Hid ((hs.take (k + 1)).map revH = (hs.take k).map revH ++ [revH hs[k]]) := by unfold Hid; rw [List.take_succ_eq_append_getElem hk, List.map_append]; rfl
      generalize hs[k] = h at *
      have hB1 := heap_alloc_new wr (.cells #[.int .i64 (h.fr : Int), .int .i64 (h.fc : Int), .int .i64 (h.tr : Int), .int .i64 (h.tc : Int), .slice a' h.lines.length c'] 61)
      have hso1 := hso.alloc (.cells #[.int .i64 (h.fr : Int), .int .i64 (h.fc : Int), .int .i64 (h.tr : Int), .int .i64 (h.tc : Int), .slice a' h.lines.length c'] 61)
      have hbl1 := hbel.alloc hsw (.cells #[.int .i64 (h.fr : Int), .int .i64 (h.fc : Int), .int .i64 (h.tr : Int), .int .i64 (h.tc : Int), .slice a' h.lines.length c'] 61)
      have hbr1 := (Below.refl w.heap.size wr).alloc hsw (.cells #[.int .i64 (h.fr : Int), .int .i64 (h.fc : Int), .int .i64 (h.tr : Int), .int .i64 (h.tc : Int), .slice a' h.lines.length c'] 61)
      have hz1' : (wr.alloc (.cells #[.int .i64 (h.fr : Int), .int .i64 (h.fc : Int), .int .i64 (h.tr : Int), .int .i64 (h.tc : Int), .slice a' h.lines.length c'] 61)).heap.size = wr.heap.size + 1 := by simp
      have hQ1 := (Below.heap_alloc wr (.cells #[.int .i64 (h.fr : Int), .int .i64 (h.fc : Int), .int .i64 (h.tr : Int), .int .i64 (h.tc : Int), .slice a' h.lines.length c'] 61) (w.heap.size + 1) hltQ).trans hQ
      have y0 := cell_of (k := 0) hB1 rfl
      have y1 := cell_of (k := 1) hB1 rfl
      have y2 := cell_of (k := 2) hB1 rfl
      have y3 := cell_of (k := 3) hB1 rfl
      have y4 := cell_of (k := 4) hB1 rfl
      go_wp2_with fail
      generalize wr.alloc (.cells #[.int .i64 (h.fr : Int), .int .i64 (h.fc : Int), .int .i64 (h.tr : Int), .int .i64 (h.tc : Int), .slice a' h.lines.length c'] 61) = W2 at *
      refine (reversed_any ((hst.below hbr1).mono (by omega)) l1 l2).mono ?_
      rintro e W3 ⟨vl, rfl, hvo, b3⟩
      have hsz3 := b3.size
      obtain ⟨avl, cvl, rfl⟩ := owns_isSlice hvo
      have hso3 := hso1.below b3
      obtain ⟨av, cv, rfl⟩ := hso3.len
      have hown3 := hso3.owns
      have hone : ∀ u ∈ [Value.int .i64 ((revH h).fr : Int), .int .i64 ((revH h).fc : Int), .int .i64 ((revH h).tr : Int), .int .i64 ((revH h).tc : Int), .slice avl (revL h.lines).length cvl], u.oneCell' = true := by intro u hu; simp at hu; rcases hu with rfl | rfl | rfl | rfl | rfl <;> rfl
      have hps : Hid (∀ ob w4 g cap, w4.ownsRow (w.heap.size + 2) 61 5 (.slice (some ⟨g, 0, none⟩) (hv.length + 1) cap) (hv.length + 1) (hunkCells hv ++ hunkCells1 (revH h, .slice avl (revL h.lines).length cvl)) → (W3.alloc ob).grownBy w4 (Value.slice av hv.length cv).ownBlock →
          HSo (w.heap.size + 2) (.slice (some ⟨g, 0, none⟩) (hv.length + 1) cap) (hv ++ [(revH h, .slice avl (revL h.lines).length cvl)]) w4 ∧ w4.heap[w.heap.size + 1]? = some (.cells #[.slice none 0 0] 32 (0, 0)) ∧ Below w.heap.size w w4) := by
        intro ob w4 g cap ho hg
        have hvb : ∀ j, (Value.slice av hv.length cv).ownBlock = some j → w.heap.size + 2 ≤ j := fun j e => (hown3.lt j e).1
        refine ⟨hso1.push2 (revH h) b3 hvo (by omega) hg ho, ?_, ?_⟩
        · refine (hg.block (w.heap.size + 1) (by simp; omega) (fun e => by have := hvb _ e.symm; omega)).trans ((Below.heap_alloc W3 ob (w.heap.size + 1) (by omega)).trans ((b3.block (w.heap.size + 1) (by omega)).trans hQ1))
        · exact ((hbl1.trans (b3.mono (by omega))).alloc (by omega) ob).grown hg (by simp; omega) (fun j e => by have := hvb j e; omega)
      go_wp2_with (at_builtin; refine wpList_append_own2 rfl (.tmp 18) (.tmp 21) 30 rfl (w.heap.size + 2) 61 i0 _ 5 56 Tryz.underlying30 hi hz0 hz1 hz2 rfl (by decide) (.slice av hv.length cv) hv.length (hunkCells hv) rfl (hown3.alloc _) ⟨W3.heap.size, 0, none⟩ 1 1 [.int .i64 ((revH h).fr : Int), .int .i64 ((revH h).fc : Int), .int .i64 ((revH h).tr : Int), .int .i64 ((revH h).tc : Int), .slice avl (revL h.lines).length cvl] rfl rfl (cells_new W3 _ _) hone (by unfold maxLen; omega) (by omega) (by simp; omega) ?_; intro v' w4 hown4 hgr4 _; obtain ⟨g', cap', rfl, hg', _⟩ := owns_slice hown4 (Nat.succ_pos _); obtain ⟨p1, p2, p3⟩ := hps.out _ w4 g' cap' hown4 hgr4)
      go_roundg (hs.length - (k + 1))
      · exact ⟨k + 1, _, rfl, by omega, by push_cast; rfl, p1, by rw [hmk.out, List.map_append, hmap]; rfl, p2, p3⟩
      · have := hG.out; omega
    · obtain rfl : k = hs.length := by omega
      rw [List.take_length] at hmap
      obtain ⟨av, cv, rfl⟩ := hso.len
      have q0 : wr.cell? ⟨w.heap.size + 1, 0, none⟩ = some (.slice none 0 0) := cell_of hQ rfl
      have qf : ∀ k, wr.frozen? ⟨w.heap.size + 1, k, none⟩ = false := fun k => frozen_of hQ
      rw [hvlH.out]
      rw [hvlH.out] at hso
      go_wp2_with fail
      refine bodyPost_ret (v := .tuple #[.agg #[.slice av hs.length cv], .int .i64 0]) ?_ rfl ⟨_, _, rfl, ?_, ?_⟩
      · have hq : (wr.setCell ⟨w.heap.size + 1, 0, none⟩ (.slice av hs.length cv)).cell? ⟨w.heap.size + 1, 0, none⟩ = some (.slice av hs.length cv) := cell_of (heap_setCell_same _ _ _ _ _ _ _ hQ) rfl
        simp [results, Tryz.results15, go_sem, hq]
      · have hsF := hso.kept (grownBy_setCell wr (w.heap.size + 1) 0 (.slice av hs.length cv)) (fun k e => by cases e; exact .inr ⟨_, _, _, hQ, by decide, by decide⟩)
        have := HunksAt.of_owns hsF
        rw [hmap] at this
        exact this
      · exact hbel.setCell (p := ⟨w.heap.size + 1, 0, none⟩) (Nat.le_succ _) _
end Go.Proofs.YtcclgodahlinbaaGreatDoor

namespace Go.Proofs.YtcclgodahlinbaaGreatDoor
open Go.RowKit Go Go.Shelf
attribute [local go_sem] Oper.semAt_some
set_option maxRecDepth 100000

theorem alloc4 (w : World) (A B C D : Obj) : let W := (((w.alloc A).alloc B).alloc C).alloc D
    W.heap.size = w.heap.size + 4 ∧ Below w.heap.size w W ∧ W.heap[w.heap.size]? = some A ∧ W.heap[w.heap.size + 1]? = some B ∧ W.heap[w.heap.size + 2]? = some C ∧ W.heap[w.heap.size + 3]? = some D := by
  intro W
  have e1 : (w.alloc A).heap.size = w.heap.size + 1 := by simp
  have e2 : ((w.alloc A).alloc B).heap.size = w.heap.size + 2 := by simp
  have e3 : (((w.alloc A).alloc B).alloc C).heap.size = w.heap.size + 3 := by simp
  refine ⟨by simp [W], ((((Below.refl _ w).alloc (Nat.le_refl _) A).alloc (by simp) B).alloc (by omega) C).alloc (by omega) D, ?_, ?_, ?_, ?_⟩
  · exact (Below.heap_alloc _ D _ (by omega)).trans ((Below.heap_alloc _ C _ (by omega)).trans ((Below.heap_alloc _ B _ (by omega)).trans (World.alloc_heap_new w A)))
  · have := World.alloc_heap_new (w.alloc A) B
    rw [e1] at this
    exact (Below.heap_alloc _ D _ (by omega)).trans ((Below.heap_alloc _ C _ (by omega)).trans this)
  · have := World.alloc_heap_new ((w.alloc A).alloc B) C
    rw [e2] at this
    exact (Below.heap_alloc _ D _ (by omega)).trans this
  · have := World.alloc_heap_new (((w.alloc A).alloc B).alloc C) D
    rw [e3] at this
    exact this

/-- the mark that a range over a function leaves -/
def markD (D : Nat) : Deferred := { target := .collected D, args := #[] }
def Marks (Ds : List Nat) (w : World) : Prop := Ds.Nodup ∧ ∀ D ∈ Ds, w.heap[D]? = some (.deferred (some []))

theorem range86 : List.range 86 = [0, 1, 2, 3, 4, 5, 6, 7, 8, 9, 10, 11, 12, 13, 14, 15, 16, 17, 18, 19, 20, 21, 22, 23, 24, 25, 26, 27, 28, 29, 30, 31, 32, 33, 34, 35, 36, 37, 38, 39, 40, 41, 42, 43, 44, 45, 46, 47, 48, 49, 50, 51, 52, 53, 54, 55, 56, 57, 58, 59, 60, 61, 62, 63, 64, 65, 66, 67, 68, 69, 70, 71, 72, 73, 74, 75, 76, 77, 78, 79, 80, 81, 82, 83, 84, 85] := by decide
theorem arr86 {A : Array Value} {x0 x1 x2 x3 x4 x6 x7 x8 x9 x10 x34 x35 : Value} (hz : A.size = 86) (h0 : A[0]? = some x0) (h1 : A[1]? = some x1) (h2 : A[2]? = some x2) (h3 : A[3]? = some x3) (h4 : A[4]? = some x4) (h6 : A[6]? = some x6) (h7 : A[7]? = some x7) (h8 : A[8]? = some x8) (h9 : A[9]? = some x9) (h10 : A[10]? = some x10) (h34 : A[34]? = some x34) (h35 : A[35]? = some x35) : ∃ u : Nat → Value, A = #[x0, x1, x2, x3, x4, u 5, x6, x7, x8, x9, x10, u 11, u 12, u 13, u 14, u 15, u 16, u 17, u 18, u 19, u 20, u 21, u 22, u 23, u 24, u 25, u 26, u 27, u 28, u 29, u 30, u 31, u 32, u 33, x34, x35, u 36, u 37, u 38, u 39, u 40, u 41, u 42, u 43, u 44, u 45, u 46, u 47, u 48, u 49, u 50, u 51, u 52, u 53, u 54, u 55, u 56, u 57, u 58, u 59, u 60, u 61, u 62, u 63, u 64, u 65, u 66, u 67, u 68, u 69, u 70, u 71, u 72, u 73, u 74, u 75, u 76, u 77, u 78, u 79, u 80, u 81, u 82, u 83, u 84, u 85] := by
  refine ⟨fun i => A.getD i undef, ?_⟩
  have e : A.toList = (List.range 86).map (fun i => A.getD i undef) := by
    apply List.ext_getElem
    · simp [hz]
    · intro i h1 h2
      simp at h1
      simp [Array.getD, h1]
  have f : ∀ i x, A[i]? = some x → A.getD i undef = x := by intro i x hx; rw [Array.getD_eq_getD_getElem?, hx]; rfl
  rw [range86] at e
  simp only [List.map_cons, List.map_nil] at e
  rw [f 0 _ h0, f 1 _ h1, f 2 _ h2, f 3 _ h3, f 4 _ h4, f 6 _ h6, f 7 _ h7, f 8 _ h8, f 9 _ h9, f 10 _ h10, f 34 _ h34, f 35 _ h35] at e
  exact Array.toList_inj.1 e

theorem alloc2 (w : World) (A B : Obj) : let W := (w.alloc A).alloc B
    W.heap.size = w.heap.size + 2 ∧ Below w.heap.size w W ∧ W.heap[w.heap.size]? = some A ∧ W.heap[w.heap.size + 1]? = some B := by
  intro W
  have e1 : (w.alloc A).heap.size = w.heap.size + 1 := by simp
  refine ⟨by simp [W], ((Below.refl _ w).alloc (Nat.le_refl _) A).alloc (by simp) B, ?_, ?_⟩
  · exact (Below.heap_alloc _ B _ (by omega)).trans (World.alloc_heap_new w A)
  · have := World.alloc_heap_new (w.alloc A) B
    rw [e1] at this
    exact this
theorem textL_sub (l : List ByteArray) (i n : Nat) : (textL ((l.drop i).take n)).length ≤ (textL l).length := by
  conv => rhs; rw [← List.take_append_drop i l, textL_append, List.length_append, ← List.take_append_drop n (l.drop i), textL_append, List.length_append]
  omega
theorem SewA.below {S : Nat} {vl : Value} {t : List UInt8} {en mv : Int} {w w' : World} (h : SewA S vl t en mv w) (hb : Below w.heap.size w w') : SewA S vl t en mv w' := by
  obtain ⟨ad, vb, h⟩ := h
  exact ⟨ad, vb, (hb.block S h.lt).trans h.blk, h.adr, owns_below h.own hb (fun k e => (h.own.lt k e).2)⟩
theorem SewA.grow {S : Nat} {vl : Value} {t : List UInt8} {en mv : Int} {W W' : World} {row : Option Nat} (h : SewA S vl t en mv W) (hg : W.grownBy W' row) (hr : ∀ r, row = some r → ∃ o : Obj, W.heap[r]? = some o ∧ o.isCells = false) : SewA S vl t en mv W' := by
  obtain ⟨ad, vb, h⟩ := h
  have hS : some S ≠ row := by
    intro e
    obtain ⟨o, ho, hc⟩ := hr S e.symm
    rw [h.blk] at ho; cases ho; cases hc
  refine ⟨ad, vb, (hg.block S h.lt hS).trans h.blk, h.adr, h.own.kept hg ?_⟩
  cases hb : vb.ownBlock with
  | none => exact .inl rfl
  | some g =>
    right
    intro e
    obtain ⟨cur, hc⟩ := owns_block h.own hb
    obtain ⟨o, ho, hn⟩ := hr g e.symm
    rw [hc] at ho; cases ho; cases hn
theorem others_grow {e : TypeId} {b : Option Nat} {w W W' : World} {row : Option Nat} (h : Lib.OthersKept e b w W) (hg : W.grownBy W' row) (hz : w.heap.size ≤ W.heap.size) (hr : ∀ r, row = some r → w.heap.size ≤ r) : Lib.OthersKept e b w W' := by
  intro k o hk hb ho
  have hl := (Array.getElem?_eq_some_iff.1 hk).1
  rw [hg.block k (by omega) (by intro e; have := hr k e.symm; omega)]
  exact h k o hk hb ho
theorem others_below {e : TypeId} {b : Option Nat} {w w' : World} (h : Below w.heap.size w w') : Lib.OthersKept e b w w' := fun k _ hk _ _ => (h.block k (Array.getElem?_eq_some_iff.1 hk).1).trans hk
theorem keeps_below {w w' : World} (h : Below w.heap.size w w') : KeepsOthers w w' := ⟨h.size, fun k _ hk _ => (h.block k (Array.getElem?_eq_some_iff.1 hk).1).trans hk⟩
theorem keeps_others {S : Nat} {w w' : World} {cs : Array Value} {t : TypeId} {fr : Nat × Nat} (hS : w.heap[S]? = some (.cells cs t fr)) (hz : w.heap.size ≤ w'.heap.size) (h : Lib.OthersKept 5 (some S) w w') : KeepsOthers w w' :=
  ⟨hz, fun k o hk hc => h k o hk (by intro e; cases e; rw [hS] at hk; cases hk; cases hc) (by rintro c z rfl; cases hc)⟩

theorem leaves_marks {fn : Func} {tmps : Array Value} {R : Ending → World → Prop} {n : Nat} {P : Program} (B : Nat) (G : World → Prop)
    (hG : ∀ W D, B ≤ D → G W → W.heap[D]? = some (.deferred (some [])) → G (W.putObj D (.deferred none))) (hfin : ∀ W, G W → ∃ v, (results fn tmps).run P W = .ok v W ∧ R (.returned v) W) :
    ∀ Ds W, Marks Ds W → (∀ D ∈ Ds, B ≤ D) → G W → LeavesInM Fence.wide n P fn tmps R (Ds.map markD) .returning W := by
  intro Ds
  induction Ds with
  | nil => intro W _ _ hg; exact hfin W hg
  | cons D Ds ih =>
    intro W hm hB hg
    have hD := hm.2 D (by simp)
    refine ⟨by simp, .inl ⟨D, _, rfl, run_takeDeferred hD, ih _ ⟨(List.nodup_cons.1 hm.1).2, fun D' h' => ?_⟩ (fun D' h' => hB D' (by simp [h'])) (hG W D (hB D (by simp)) hg hD)⟩⟩
    have hne : D' ≠ D := fun e => (List.nodup_cons.1 hm.1).1 (e ▸ h')
    rw [World.putObj_heap_other hne]
    exact hm.2 D' (by simp [h'])
/-- a hunk has been sewn in -/
def SewFin (S : Nat) (w : World) (vl : Value) (b6 : Nat) (st : SewS) (sm : SeamM) (W : World) : Prop :=
  SewA S vl st.t (st.en : Nat) st.mv W ∧ W.heap[b6]? = some (.cells #[.bool sm.done, .int .i64 sm.at', .int .i64 (sm.fz : Nat)] 63 (0, 0)) ∧ Below S w W ∧ Lib.OthersKept 5 (some S) w W
theorem SewFin.grow {S B : Nat} {w : World} {vl : Value} {b6 : Nat} {st : SewS} {sm : SeamM} {W W' : World} {row : Option Nat} (h : SewFin S w vl b6 st sm W) (hg : W.grownBy W' row)
    (hr : ∀ r, row = some r → B ≤ r ∧ ∃ o : Obj, W.heap[r]? = some o ∧ o.isCells = false) (hB : w.heap.size ≤ B) (hS : S < w.heap.size) : SewFin S w vl b6 st sm W' := by
  obtain ⟨h1, h2, h3, h4⟩ := h
  refine ⟨h1.grow hg (fun r e => (hr r e).2), ?_, h3.grown hg (by have := h3.size; omega) (fun k e => by have := (hr k e).1; omega), others_grow h4 hg h3.size (fun r e => by have := (hr r e).1; omega)⟩
  have hl := (Array.getElem?_eq_some_iff.1 h2).1
  rw [hg.block b6 hl ?_]
  · exact h2
  · intro e
    obtain ⟨_, o, ho, hc⟩ := hr b6 e.symm
    rw [h2] at ho; cases ho; cases hc
theorem SewA.setOther {S b o : Nat} {vl v : Value} {t : List UInt8} {en mv : Int} {w : World} {cs : Array Value} {ty : TypeId} {fr : Nat × Nat} (h : SewA S vl t en mv w) (hb : w.heap[b]? = some (.cells cs ty fr)) (ht : 5 ≠ ty) (hS : b ≠ S) : SewA S vl t en mv (w.setCell ⟨b, o, none⟩ v) :=
  let ⟨ad, vb, h⟩ := h
  ⟨ad, vb, (heap_setCell_other _ _ _ _ _ (fun e => hS e.symm)).trans h.blk, h.adr, h.own.kept (grownBy_setCell _ _ _ _) (.inr (owns_ne h.own hb ht))⟩
theorem others_set {e : TypeId} {b : Option Nat} {w W : World} {k o : Nat} {v : Value} (h : Lib.OthersKept e b w W) (hz : w.heap.size ≤ W.heap.size) (hk : w.heap.size ≤ k) : Lib.OthersKept e b w (W.setCell ⟨k, o, none⟩ v) :=
  others_grow h (grownBy_setCell _ _ _ _) hz (fun r e => by cases e; exact hk)

theorem sew_final {S : Nat} {w W W10 : World} {vl : Value} {t : List UInt8} {en : Nat} {mv : Int} {f : Nat} {Ds : List Nat} (hw7 : Below w.heap.size w W) (htag : ∃ cs, W.heap[S]? = some (.cells cs 76 (0, 0)))
    (hs : SewA S vl t (en : Int) mv W10) (m6 : W10.heap[w.heap.size + 2]? = some (.cells #[.bool false, .int .i64 0, .int .i64 0] 63 (0, 0))) (hb : Below S W W10) (jo : Lib.OthersKept 5 (some S) W W10) (hS : S < w.heap.size)
    (hm : ∀ D ∈ Ds, W.heap[D]? = some (.deferred (some []))) :
    let WF := (((W10.setCell ⟨w.heap.size + 1 + 1, 0, none⟩ (.bool true)).setCell ⟨w.heap.size + 1 + 1, 1, none⟩ (.int .i64 mv)).setCell ⟨w.heap.size + 1 + 1, 2, none⟩ (.int .i64 (f : Int))).drew
    KeepsOthers W WF ∧ SewFin S w vl (w.heap.size + 2) ⟨t, en, mv⟩ ⟨true, mv, f⟩ WF ∧ ∀ D ∈ Ds, WF.heap[D]? = some (.deferred (some [])) := by
  intro WF
  obtain ⟨cs7, hcs7⟩ := htag
  have n1 := heap_setCell_same W10 (w.heap.size + 2) 0 (.bool true) _ _ _ m6
  have n2 := heap_setCell_same (W10.setCell ⟨w.heap.size + 2, 0, none⟩ (.bool true)) (w.heap.size + 2) 1 (.int .i64 mv) _ _ _ n1
  have n3 := heap_setCell_same ((W10.setCell ⟨w.heap.size + 2, 0, none⟩ (.bool true)).setCell ⟨w.heap.size + 2, 1, none⟩ (.int .i64 mv)) (w.heap.size + 2) 2 (.int .i64 (f : Int)) _ _ _ n2
  have hz := hb.size
  have hz7 := hw7.size
  have hbw : Below S w W10 := (hw7.mono (by omega)).trans hb
  have how : Lib.OthersKept 5 (some S) w W10 := (others_below hw7).trans jo
  have hzz : w.heap.size ≤ W10.heap.size := by omega
  refine ⟨(((keeps_others hcs7 hz jo).trans (KeepsOthers.setCell _ _ _)).trans (KeepsOthers.setCell _ _ _)).trans ((KeepsOthers.setCell _ _ _).trans (KeepsOthers.drew _)), ⟨?_, n3, ?_, ?_⟩, ?_⟩
  · have h1 := hs.setOther (o := 0) (v := .bool true) m6 (by decide) (by omega)
    have h2 := h1.setOther (o := 1) (v := .int .i64 mv) n1 (by decide) (by omega)
    have h3 := h2.setOther (o := 2) (v := .int .i64 (f : Int)) n2 (by decide) (by omega)
    exact h3.drew
  · exact (((hbw.setCell (p := ⟨w.heap.size + 1 + 1, 0, none⟩) (by show S ≤ w.heap.size + 1 + 1; omega) _).setCell (p := ⟨w.heap.size + 1 + 1, 1, none⟩) (by show S ≤ w.heap.size + 1 + 1; omega) _).setCell (p := ⟨w.heap.size + 1 + 1, 2, none⟩) (by show S ≤ w.heap.size + 1 + 1; omega) _).drew
  · exact others_set (others_set (others_set how hzz (by omega)) (by simpa using hzz) (by omega)) (by simpa using hzz) (by omega)
  · intro D hD
    have h1 := hm D hD
    have hDS : some D ≠ some S := by intro e; cases e; rw [hcs7] at h1; cases h1
    have h2 := jo D _ h1 hDS (by intro c z e; cases e)
    have hDb : D ≠ w.heap.size + 1 + 1 := by intro e; subst e; rw [m6] at h2; cases h2
    show (((W10.setCell ⟨w.heap.size + 1 + 1, 0, none⟩ (.bool true)).setCell ⟨w.heap.size + 1 + 1, 1, none⟩ (.int .i64 mv)).setCell ⟨w.heap.size + 1 + 1, 2, none⟩ (.int .i64 (f : Int))).heap[D]? = _
    rw [heap_setCell_other _ _ _ _ _ hDb, heap_setCell_other _ _ _ _ _ hDb, heap_setCell_other _ _ _ _ _ hDb]
    exact h2
theorem sew_leave {S : Nat} {w : World} {vl : Value} {st : SewS} {sm : SeamM} {tmps : Array Value} {Ds : List Nat} {W : World} (hfin : SewFin S w vl (w.heap.size + 2) st sm W) (hS : S < w.heap.size) (hM : Marks Ds W) (hB : ∀ D ∈ Ds, w.heap.size ≤ D)
    (hres : ∀ W : World, W.cell? ⟨w.heap.size + 1 + 1, 0, none⟩ = some (.bool sm.done) → W.cell? ⟨w.heap.size + 1 + 1, 1, none⟩ = some (.int .i64 sm.at') → W.cell? ⟨w.heap.size + 1 + 1, 2, none⟩ = some (.int .i64 (sm.fz : Nat)) → (results Tryz.f29 tmps).run Tryz.prog W = .ok (.agg #[.bool sm.done, .int .i64 sm.at', .int .i64 (sm.fz : Nat)]) W) :
    LeavesInM Fence.wide 9 Tryz.prog Tryz.f29 tmps (fun e w' => e = .returned (.agg #[.bool sm.done, .int .i64 sm.at', .int .i64 (sm.fz : Nat)]) ∧ SewA S vl st.t (st.en : Nat) st.mv w' ∧ Below S w w' ∧ Lib.OthersKept 5 (some S) w w') (Ds.map markD) .returning W := by
  refine leaves_marks w.heap.size (fun W => SewFin S w vl (w.heap.size + 2) st sm W) (fun W D hD hg hd => hg.grow (grownBy_putObj' W D _) (fun r e => by cases e; exact ⟨hD, _, hd, rfl⟩) (Nat.le_refl _) hS) (fun W hg => ?_) Ds W hM hB hfin
  obtain ⟨g1, g2, g3, g4⟩ := hg
  exact ⟨_, hres W (cell_of g2 rfl) (cell_of g2 rfl) (cell_of g2 rfl), rfl, g1, g3, g4⟩
theorem sewFrom_some {T : List ByteArray} {ei : Nat} {mv : Int} {h : HunkM} {f n : Nat} {x : Int} (hn : 0 < n) (hx : sewAt T ei mv h f = some x) : sewFrom T ei mv h f n = some (f, x) := by
  obtain ⟨m, rfl⟩ : ∃ m, n = m + 1 := ⟨n - 1, by omega⟩
  unfold sewFrom; rw [hx]
theorem sewFrom_none {T : List ByteArray} {ei : Nat} {mv : Int} {h : HunkM} {f n : Nat} (hx : sewAt T ei mv h f = none) : sewFrom T ei mv h f (n + 1) = sewFrom T ei mv h (f + 1) n := by
  conv => lhs; unfold sewFrom
  rw [hx]
theorem sew_none {S : Nat} {w W : World} {vl : Value} {s : SewS} (hS : S < w.heap.size) (hs : SewA S vl s.t (s.en : Nat) s.mv W) (m6 : W.heap[w.heap.size + 2]? = some (.cells #[.bool false, .int .i64 0, .int .i64 0] 63 (0, 0))) (hb : Below w.heap.size w W) :
    SewFin S w vl (w.heap.size + 2) s ⟨false, 0, 0⟩ (((W.setCell ⟨w.heap.size + 1 + 1, 0, none⟩ (.bool false)).setCell ⟨w.heap.size + 1 + 1, 1, none⟩ (.int .i64 0)).setCell ⟨w.heap.size + 1 + 1, 2, none⟩ (.int .i64 0)) := by
  have n1 := heap_setCell_same W (w.heap.size + 2) 0 (.bool false) _ _ _ m6
  have n2 := heap_setCell_same (W.setCell ⟨w.heap.size + 2, 0, none⟩ (.bool false)) (w.heap.size + 2) 1 (.int .i64 0) _ _ _ n1
  have n3 := heap_setCell_same ((W.setCell ⟨w.heap.size + 2, 0, none⟩ (.bool false)).setCell ⟨w.heap.size + 2, 1, none⟩ (.int .i64 0)) (w.heap.size + 2) 2 (.int .i64 0) _ _ _ n2
  have hbw : Below S w W := hb.mono (by omega)
  have how : Lib.OthersKept 5 (some S) w W := others_below hb
  have hzz := hb.size
  refine ⟨?_, n3, ?_, ?_⟩
  · have h1 := hs.setOther (o := 0) (v := .bool false) m6 (by decide) (by omega)
    have h2 := h1.setOther (o := 1) (v := .int .i64 0) n1 (by decide) (by omega)
    exact h2.setOther (o := 2) (v := .int .i64 0) n2 (by decide) (by omega)
  · exact ((hbw.setCell (p := ⟨w.heap.size + 1 + 1, 0, none⟩) (by show S ≤ w.heap.size + 1 + 1; omega) _).setCell (p := ⟨w.heap.size + 1 + 1, 1, none⟩) (by show S ≤ w.heap.size + 1 + 1; omega) _).setCell (p := ⟨w.heap.size + 1 + 1, 2, none⟩) (by show S ≤ w.heap.size + 1 + 1; omega) _
  · exact others_set (others_set (others_set how hzz (by omega)) (by simpa using hzz) (by omega)) (by simpa using hzz) (by omega)
end Go.Proofs.YtcclgodahlinbaaGreatDoor

namespace Go.Proofs.YtcclgodahlinbaaGreatDoor
open Go.RowKit Go Go.Shelf
attribute [local go_sem] Oper.semAt_some
set_option maxRecDepth 100000

set_option maxHeartbeats 2000000 in
theorem sew_any {S : Nat} {s : SewS} {w : World} {al : Option Addr} {cl : Nat} {T : List ByteArray} {h : HunkM} {a : Option Addr} {c fz : Nat}
    (hs : SewA S (.slice al T.length cl) s.t (s.en : Nat) s.mv w) (hT : RowS w (.slice al T.length cl) T) (hl : StepsAt w.heap.size w (.slice a h.lines.length c) h.lines)
    (hk : ∀ x ∈ h.lines, x.kind = 32 ∨ x.kind = 45 ∨ x.kind = 43) (hL : h.lines.length ≤ 1000) (hfr : h.fr ≤ 40000) (hfc : min h.fc 1 ≤ h.fr) (hTl : T.length ≤ 40000) (hmv : -50000 ≤ s.mv ∧ s.mv ≤ 50000)
    (hlen : s.t.length + (textL T).length + (textL (Dn.newOf h.lines)).length ≤ 50000000) (hfz : fz ≤ 1000) :
    Calls Tryz.prog 29 #[.pointer (some ⟨S, 0, none⟩), hunkVal h (.slice a h.lines.length c), .int .i64 (fz : Int)] w fun e w' =>
      e = .returned (.agg #[.bool (sewM T s h fz).2.done, .int .i64 (sewM T s h fz).2.at', .int .i64 (sewM T s h fz).2.fz]) ∧ SewA S (.slice al T.length cl) (sewM T s h fz).1.t ((sewM T s h fz).1.en : Nat) (sewM T s h fz).1.mv w' ∧ Below S w w' ∧ Lib.OthersKept 5 (some S) w w' := by
  have hp := fun w => placeOf_any h.fr h.fc w (by omega) hfc
  refine (callsIn_wide (n := 9)).1 (callsIn_of_wp_marks Tryz.func29 rfl trivial (wpIn_wide.2 ?_) rfl)
  simp only [Tryz.ntmps29, List.size_toArray, List.length_cons, List.length_nil, Nat.reduceAdd, Nat.reduceSub, Array.replicate_succ, Array.replicate_zero, List.push_toArray, List.append_toArray, List.nil_append, List.cons_append]
  go_wp2_with (go_at_call 59; refine (hp _).mono ?_; rintro e w' ⟨rfl, rfl⟩)
  obtain ⟨z1, b1, k3, k4, k6, k7⟩ := alloc4 w (.cells #[.pointer (some ⟨S, 0, none⟩)] 123) (.cells #[.int .i64 (h.fr : Int), .int .i64 (h.fc : Int), .int .i64 (h.tr : Int), .int .i64 (h.tc : Int), .slice a h.lines.length c] 61) (.cells #[.bool false, .int .i64 0, .int .i64 0] 63) (.cells #[.int .i64 (placeM h.fr h.fc : Nat)] 3)
  generalize (((w.alloc (.cells #[.pointer (some ⟨S, 0, none⟩)] 123)).alloc (.cells #[.int .i64 (h.fr : Int), .int .i64 (h.fc : Int), .int .i64 (h.tr : Int), .int .i64 (h.tc : Int), .slice a h.lines.length c] 61)).alloc (.cells #[.bool false, .int .i64 0, .int .i64 0] 63)).alloc (.cells #[.int .i64 (placeM h.fr h.fc : Nat)] 3) = W1 at z1 b1 k3 k4 k6 k7 ⊢
  have hl1 : StepsAt W1.heap.size W1 (.slice a h.lines.length c) h.lines := (hl.below b1).mono b1.size
  refine (pieceOf_any hl1 hL hk).mono ?_
  rintro e w2 ⟨vo, vf, rfl, ho, hf, b2⟩
  have hz2 := b2.size
  obtain ⟨ao, co, rfl⟩ := owns_isSlice ho
  obtain ⟨af, cf, rfl⟩ := owns_isSlice hf
  have hro := RowS.of_owns ho
  have hrf := RowS.of_owns hf
  clear ho hf
  have c4 : w2.cell? ⟨w.heap.size + 1, 4, none⟩ = some (.slice a h.lines.length c) := (b2.cell (p := ⟨w.heap.size + 1, 4, none⟩) (by show w.heap.size + 1 < _; omega)).trans (cell_of k4 rfl)
  have hne1 : w.heap.size + 1 < w2.heap.size := by omega
  have c4' := fun ob => (World.cell?_of_block (a := ⟨w.heap.size + 1, 4, none⟩) (Below.heap_alloc w2 ob (w.heap.size + 1) hne1)).trans c4
  go_wp2_with fail
  have hW2b := b2.alloc b2.size (.cells #[.slice ao (Dn.oldOf h.lines).length co, .slice af (Dn.newOf h.lines).length cf] 125)
  have k8 := heap_alloc_new w2 (.cells #[.slice ao (Dn.oldOf h.lines).length co, .slice af (Dn.newOf h.lines).length cf] 125)
  have hro2 := hro.alloc (.cells #[.slice ao (Dn.oldOf h.lines).length co, .slice af (Dn.newOf h.lines).length cf] 125)
  have hrf2 := hrf.alloc (.cells #[.slice ao (Dn.oldOf h.lines).length co, .slice af (Dn.newOf h.lines).length cf] 125)
  have z2 : (w2.alloc (.cells #[.slice ao (Dn.oldOf h.lines).length co, .slice af (Dn.newOf h.lines).length cf] 125)).heap.size = w2.heap.size + 1 := by simp
  generalize w2.alloc (.cells #[.slice ao (Dn.oldOf h.lines).length co, .slice af (Dn.newOf h.lines).length cf] 125) = W2 at hW2b k8 hro2 hrf2 z2 ⊢
  have hl2 : StepsAt W2.heap.size W2 (.slice a h.lines.length c) h.lines := (hl1.below hW2b).mono hW2b.size
  refine (keeps_any hl2 hL).mono ?_
  rintro e w3 ⟨rfl, b3⟩
  have hz3 := b3.size
  obtain ⟨hks1, hks2⟩ := keeps_sum_all h.lines
  have hkl := keepsK_le h.lines h.lines.length
  have hB8 : w2.heap.size < W2.heap.size := by omega
  -- the boxes, where the loop begins
  have hb03 : Below W1.heap.size W1 w3 := hW2b.trans (b3.mono (by omega))
  have k3' := (hb03.block w.heap.size (by omega)).trans k3
  have k6' := (hb03.block (w.heap.size + 2) (by omega)).trans k6
  have k7' := (hb03.block (w.heap.size + 3) (by omega)).trans k7
  have k8' := (b3.block w2.heap.size hB8).trans k8
  have hro3 := hro2.below b3
  have hrf3 := hrf2.below b3
  have hbw : Below w.heap.size w w3 := b1.trans (hb03.mono (by omega))
  clear hro hrf hro2 hrf2 k3 k4 k6 k7 k8 c4 b3 hl1 hl2 hW2b hb03 b1 b2
  go_wp2_with fail
  have hN : (min (fz : Int) (max ((keepsK h.lines h.lines.length).1 : Int) ((keepsK h.lines h.lines.length).2.1 : Int)) + 1) = ((sewRounds h fz : Nat) : Int) := by unfold sewRounds; omega
  rw [hN]
  have hN2 : Hid (sewRounds h fz = min fz (max (keepsK h.lines h.lines.length).1 (keepsK h.lines h.lines.length).2.1) + 1) := rfl
  have hF2 : Hid (sewFind T s.en s.mv h fz = sewFrom T s.en s.mv h 0 (sewRounds h fz)) := rfl
  have hAt : Hid (∀ f, sewAt T s.en s.mv h f = (aroundL ((placeM h.fr h.fc : Nat) + s.mv) T.length).find? fun x => standM T s.en (pieceO h.lines f) (x + (min f (keepsK h.lines h.lines.length).1 : Nat))) := fun _ => rfl
  have hpo : Hid (∀ f, pieceO h.lines f = ((Dn.oldOf h.lines).drop (min f (keepsK h.lines h.lines.length).1)).take ((Dn.oldOf h.lines).length - min f (keepsK h.lines h.lines.length).2.1 - min f (keepsK h.lines h.lines.length).1)) := fun _ => rfl
  have hpf : Hid (∀ f, pieceF h.lines f = ((Dn.newOf h.lines).drop (min f (keepsK h.lines h.lines.length).1)).take ((Dn.newOf h.lines).length - min f (keepsK h.lines h.lines.length).2.1 - min f (keepsK h.lines h.lines.length).1)) := fun _ => rfl
  have hto : Hid (∀ f x, sewTo T s h f x = ⟨s.t ++ textL ((T.drop s.en).take ((x + (min f (keepsK h.lines h.lines.length).1 : Nat)).toNat - s.en)) ++ textL (pieceF h.lines f), (x + (min f (keepsK h.lines h.lines.length).1 : Nat)).toNat + (pieceO h.lines f).length, x - (placeM h.fr h.fc : Nat)⟩) := fun _ _ => rfl
  have hol := oldOf_len h.lines
  have hnl := newOf_len h.lines
  have hpl : placeM h.fr h.fc ≤ 40000 := by unfold placeM; split <;> omega
  generalize (keepsK h.lines h.lines.length).1 = F at hN hN2 hAt hpo hpf hto hks1 hks2 hkl ⊢
  generalize (keepsK h.lines h.lines.length).2.1 = G at hN hN2 hpo hpf hks1 hks2 hkl ⊢
  have hNb : sewRounds h fz ≤ 1001 := by have := hN2.out; omega
  generalize sewRounds h fz = N at hN hN2 hF2 hNb ⊢
  clear hN hN2 hp
  refine wp_loop_ghost_k (fun k a' w' => ∃ (f : Nat) (Ds : List Nat), k = N - f ∧ f ≤ N ∧ sewFrom T s.en s.mv h 0 N = sewFrom T s.en s.mv h f (N - f) ∧ a'.defers = Ds.map markD ∧ Marks Ds w' ∧ (∀ D ∈ Ds, w3.heap.size ≤ D) ∧ Below w3.heap.size w3 w' ∧ a'.tmps.size = 86 ∧
      a'.tmps[0]? = some (.pointer (some ⟨S, 0, none⟩)) ∧ a'.tmps[1]? = some (hunkVal h (.slice a h.lines.length c)) ∧ a'.tmps[2]? = some (.int .i64 (fz : Int)) ∧ a'.tmps[3]? = some (.pointer (some ⟨w.heap.size, 0, none⟩)) ∧ a'.tmps[4]? = some (.pointer (some ⟨w.heap.size + 1, 0, none⟩)) ∧ a'.tmps[6]? = some (.pointer (some ⟨w.heap.size + 1 + 1, 0, none⟩)) ∧ a'.tmps[7]? = some (.pointer (some ⟨w.heap.size + 1 + 1 + 1, 0, none⟩)) ∧ a'.tmps[8]? = some (.pointer (some ⟨w2.heap.size, 0, none⟩)) ∧ a'.tmps[9]? = some (.int .i64 (F : Int)) ∧ a'.tmps[10]? = some (.int .i64 (G : Int)) ∧ a'.tmps[34]? = some (.int .i64 (N : Int)) ∧ a'.tmps[35]? = some (.int .i64 (f : Int))) N ?_ ?_
  · exact ⟨0, [], by omega, by omega, by simp, rfl, ⟨List.nodup_nil, by simp⟩, by simp, Below.refl _ _, rfl, rfl, rfl, rfl, rfl, rfl, rfl, rfl, rfl, rfl, rfl, rfl, rfl⟩
  · rintro gk ⟨A, ds⟩ wr ⟨f, Ds, hgk, hfN, hsf, hds, hmk, hDs, hbel, hz86, e0, e1, e2, e3, e4, e6, e7, e8, e9, e10, e34, e35⟩ J K hJ hK
    obtain ⟨u, rfl⟩ := arr86 hz86 e0 e1 e2 e3 e4 e6 e7 e8 e9 e10 e34 e35
    clear e0 e1 e2 e3 e4 e6 e7 e8 e9 e10 e34 e35 hz86
    dsimp only at hds ⊢
    have hszr := hbel.size
    have hbw' : Below w.heap.size w wr := hbw.trans (hbel.mono (by omega))
    have c3 : wr.cell? ⟨w.heap.size, 0, none⟩ = some (.pointer (some ⟨S, 0, none⟩)) := cell_of ((hbel.block _ (by omega)).trans k3') rfl
    have c7 : wr.cell? ⟨w.heap.size + 1 + 1 + 1, 0, none⟩ = some (.int .i64 (placeM h.fr h.fc : Nat)) := cell_of ((hbel.block (w.heap.size + 3) (by omega)).trans k7') rfl
    have c80 : wr.cell? ⟨w2.heap.size, 0, none⟩ = some (.slice ao (Dn.oldOf h.lines).length co) := cell_of ((hbel.block _ (by omega)).trans k8') rfl
    have c81 : wr.cell? ⟨w2.heap.size, 1, none⟩ = some (.slice af (Dn.newOf h.lines).length cf) := cell_of ((hbel.block _ (by omega)).trans k8') rfl
    have hwr1 : w.heap.size + 3 < wr.heap.size := by omega
    have hwr2 : w2.heap.size < wr.heap.size := by omega
    have hwr3 : w.heap.size < wr.heap.size := by omega
    have hror := hro3.below hbel
    have hrfr := hrf3.below hbel
    have hz3' : Hid (W1.heap.size ≤ w2.heap.size ∧ W1.heap.size = w.heap.size + 4 ∧ W2.heap.size = w2.heap.size + 1 ∧ W2.heap.size ≤ w3.heap.size ∧ w3.heap.size ≤ wr.heap.size) := ⟨hz2, z1, z2, hz3, hszr⟩
    have hH : Hid (gk = N - f ∧ sewFrom T s.en s.mv h 0 N = sewFrom T s.en s.mv h f (N - f) ∧ ds = Ds.map markD) := ⟨hgk, hsf, hds⟩
    clear hgk hsf hds z1 z2 hz2 hz3 hszr
    by_cases hff : f < N
    · have hfI : (f : Int) < N := by omega
      have m1 : min (f : Int) F = ((min f F : Nat) : Int) := by omega
      have m2 : min (f : Int) G = ((min f G : Nat) : Int) := by omega
      go_wp2_with fail
      obtain ⟨z4, hb4, q11, q12⟩ := alloc2 wr (.cells #[.int .i64 (f : Int)] 3) (.cells #[.int .i64 ((min f F : Nat) : Int)] 3)
      generalize (wr.alloc (.cells #[.int .i64 (f : Int)] 3)).alloc (.cells #[.int .i64 ((min f F : Nat) : Int)] 3) = W4 at z4 hb4 q11 q12 ⊢
      have hwo := without_any (f := min f F) (l := min f G) (hror.below hb4) (hrfr.below hb4) (by omega) (by omega) (by omega) (by omega)
      rw [← hpo.out f, ← hpf.out f] at hwo
      have hpoL : (pieceO h.lines f).length ≤ 1000 := by rw [hpo.out f]; exact Nat.le_trans (List.length_take_le' _ _) (by rw [List.length_drop]; omega)
      have hpfT : (textL (pieceF h.lines f)).length ≤ (textL (Dn.newOf h.lines)).length := by rw [hpf.out f]; exact textL_sub _ _ _
      have hat := hAt.out f
      have hto2 := hto.out f
      have hAT : Hid (sewAt T s.en s.mv h f = (aroundL ((placeM h.fr h.fc : Nat) + s.mv) T.length).find? fun x => standM T s.en (pieceO h.lines f) (x + (min f F : Nat))) := hat
      have hTO : Hid (∀ x, sewTo T s h f x = ⟨s.t ++ textL ((T.drop s.en).take ((x + (min f F : Nat)).toNat - s.en)) ++ textL (pieceF h.lines f), (x + (min f F : Nat)).toNat + (pieceO h.lines f).length, x - (placeM h.fr h.fc : Nat)⟩) := hto2
      clear hat hto2 hto hAt hpo hpf m1 m2
      refine hwo.mono ?_
      clear hwo
      generalize pieceO h.lines f = po at hpoL hAT hTO ⊢
      generalize pieceF h.lines f = pf at hpfT hTO ⊢
      generalize hahd : min f F = ahd at q12 hAT hTO ⊢
      have hahd2 : ahd ≤ 1000 := by omega
      clear hahd
      rintro e w5 ⟨ao', co', af', cf', rfl, hro5, hrf5, hb5⟩
      have hz5 := hb5.size
      have hb45 : Below wr.heap.size wr w5 := hb4.trans (hb5.mono (by omega))
      generalize hPL : placeM h.fr h.fc = PL at *
      have hpl2 : PL ≤ 40000 := hpl
      have hPLh : Hid (placeM h.fr h.fc = PL) := hPL
      clear hPL hpl
      go_wp2_with fail
      have hb6 := hb45.alloc hb45.size (.cells #[.slice ao' po.length co', .slice af' pf.length cf'] 125)
      have z6 : (w5.alloc (.cells #[.slice ao' po.length co', .slice af' pf.length cf'] 125)).heap.size = w5.heap.size + 1 := by simp
      have q13 := heap_alloc_new w5 (.cells #[.slice ao' po.length co', .slice af' pf.length cf'] 125)
      have q11' := (Below.heap_alloc w5 (.cells #[.slice ao' po.length co', .slice af' pf.length cf'] 125) wr.heap.size (by omega)).trans ((hb5.block wr.heap.size (by omega)).trans q11)
      have q12' := (Below.heap_alloc w5 (.cells #[.slice ao' po.length co', .slice af' pf.length cf'] 125) (wr.heap.size + 1) (by omega)).trans ((hb5.block (wr.heap.size + 1) (by omega)).trans q12)
      have hro6 := hro5.alloc (.cells #[.slice ao' po.length co', .slice af' pf.length cf'] 125)
      have hrf6 := hrf5.alloc (.cells #[.slice ao' po.length co', .slice af' pf.length cf'] 125)
      generalize w5.alloc (.cells #[.slice ao' po.length co', .slice af' pf.length cf'] 125) = W6 at hb6 z6 q13 q11' q12' hro6 hrf6 ⊢
      have hw6 : Below w.heap.size w W6 := hbw'.trans (hb6.mono (by omega))
      have hs6 := hs.below hw6
      have hT6 := hT.below hw6
      obtain ⟨s0, s3, s4, sf⟩ := hs6.cells
      have d3 : W6.cell? ⟨w.heap.size, 0, none⟩ = some (.pointer (some ⟨S, 0, none⟩)) := (hb6.cell (p := ⟨w.heap.size, 0, none⟩) hwr3).trans c3
      have d7 : W6.cell? ⟨w.heap.size + 1 + 1 + 1, 0, none⟩ = some (.int .i64 (PL : Int)) := (hb6.cell (p := ⟨w.heap.size + 1 + 1 + 1, 0, none⟩) hwr1).trans c7
      have hx : IntKind.i64.wrap ((PL : Int) + s.mv) = (PL : Int) + s.mv := by rw [IntKind.wrap_i64]; omega
      refine wp_still_tail 11 mixed (by kernel_rfl) ?_
      simp only [List.take_succ_cons, List.take_zero, List.drop_succ_cons, List.drop_zero]
      repeat still_step
      refine wpStill_nil ?_
      go_wp2_with (go_at_call 63; refine (around_any ((PL : Int) + s.mv) T.length _).mono ?_; rintro e w7 ⟨rfl, rfl⟩)
      obtain ⟨z7, hb7, r1, r2⟩ := alloc2 W6 (.cells #[.int .i64 ((PL : Int) + s.mv)] 3) (.cells #[.int .i64 (T.length : Int)] 3)
      replace hb7 := hb7.drew
      have z7' : (((W6.alloc (.cells #[.int .i64 ((PL : Int) + s.mv)] 3)).alloc (.cells #[.int .i64 (T.length : Int)] 3)).drew).heap.size = W6.heap.size + 2 := z7
      have r1' : (((W6.alloc (.cells #[.int .i64 ((PL : Int) + s.mv)] 3)).alloc (.cells #[.int .i64 (T.length : Int)] 3)).drew).heap[W6.heap.size]? = _ := r1
      have r2' : (((W6.alloc (.cells #[.int .i64 ((PL : Int) + s.mv)] 3)).alloc (.cells #[.int .i64 (T.length : Int)] 3)).drew).heap[W6.heap.size + 1]? = _ := r2
      clear z7 r1 r2
      generalize ((W6.alloc (.cells #[.int .i64 ((PL : Int) + s.mv)] 3)).alloc (.cells #[.int .i64 (T.length : Int)] 3)).drew = W7 at z7' hb7 r1' r2' ⊢
      rw [z6] at r1' r2' z7'
      have hDs7 : ∀ D ∈ Ds, D < W7.heap.size := fun D hD => by have := (Array.getElem?_eq_some_iff.1 (hmk.2 D hD)).1; have := hb6.size; omega
      have hwz : w.heap.size ≤ W7.heap.size := by have := hw6.size; omega
      have hSw := hs.lt
      refine wpIn_wide.1 (wpIn_rangeFunc_ownF (F := Fence.wide) (n := 9) (α := Pl) rfl (by omega) (gf := 103) (lb := #[.pointer (some ⟨w5.heap.size + 1, 0, none⟩), .pointer (some ⟨w5.heap.size + 1 + 1, 0, none⟩)]) rfl trivial (enters_of Tryz.func103 (by kernel_rfl) rfl)
        (around_stops 8 (by omega) (w5.heap.size + 1) (w5.heap.size + 1 + 1) W7.heap.size T.length ((PL : Int) + s.mv) (by omega) (by omega) (by omega) (by omega) W7 (Nat.le_refl _) (cell_of r1' rfl) (cell_of r2' rfl)) belowK_t (belowK_b (Nat.le_refl _)) (Below.refl _ _) (fun _ => rfl)
        (fun pre W => Below W7.heap.size W7 W ∧ ∀ y ∈ vals pre, standM T s.en po (y + (ahd : Int)) = false)
        (fun c pre W => c = .ret ∧ ∃ pre' x, vals pre = pre' ++ [x] ∧ (∀ y ∈ pre', standM T s.en po (y + (ahd : Int)) = false) ∧ standM T s.en po (x + (ahd : Int)) = true ∧ SewFin S w (.slice al T.length cl) (w.heap.size + 2) (sewTo T s h f x) ⟨true, x - (PL : Int), f⟩ W ∧ ∀ D ∈ Ds, W.heap[D]? = some (.deferred (some [])))
        (OwnFrom.and (ownFrom_below (Nat.le_refl _) (Nat.le_refl _)) (ownFrom_pure _ _))
        (fun c pre A B row hI hg hr => by
          obtain ⟨e, pre', x, e1, e2, e3, e4, e5⟩ := hI
          exact ⟨e, pre', x, e1, e2, e3, e4.grow hg hr hwz hSw, fun D hD => (hg.block D (Array.getElem?_eq_some_iff.1 (e5 D hD)).1 (fun e => by have := (hr D e.symm).1; have := hDs7 D hD; omega)).trans (e5 D hD)⟩)
        ⟨Below.refl _ _, by simp [vals]⟩
        (fun x => { tmps := #[.pointer (some ⟨S, 0, none⟩), hunkVal h (.slice a h.lines.length c), .int .i64 (fz : Int), .pointer (some ⟨w.heap.size, 0, none⟩), .pointer (some ⟨w.heap.size + 1, 0, none⟩), u 5, .pointer (some ⟨w.heap.size + 1 + 1, 0, none⟩), .pointer (some ⟨w.heap.size + 1 + 1 + 1, 0, none⟩), .pointer (some ⟨w2.heap.size, 0, none⟩), .int .i64 (F : Int), .int .i64 (G : Int), .pointer (some ⟨wr.heap.size, 0, none⟩), .pointer (some ⟨wr.heap.size + 1, 0, none⟩), .pointer (some ⟨w5.heap.size, 0, none⟩), .int .i64 x.1, u 15, u 16, u 17, u 18, u 19, u 20, u 21, u 22, u 23, u 24, u 25, u 26, u 27, u 28, u 29, u 30, u 31, u 32, u 33, .int .i64 (N : Int), .int .i64 (f : Int), .bool true, .int .i64 (f : Int), .int .i64 (f : Int), .int .i64 (F : Int), .int .i64 (ahd : Int), .agg #[.slice ao (Dn.oldOf h.lines).length co, .slice af (Dn.newOf h.lines).length cf], .int .i64 (ahd : Int), .int .i64 (f : Int), .int .i64 (G : Int), .int .i64 ((min f G : Nat) : Int), .agg #[.slice ao' po.length co', .slice af' pf.length cf'], .int .i64 (PL : Int), .pointer (some ⟨S, 0, none⟩), .pointer (some ⟨S, 0, none⟩), .pointer (some ⟨S, 4, none⟩), .int .i64 s.mv, .int .i64 ((PL : Int) + s.mv), .pointer (some ⟨S, 0, none⟩), .pointer (some ⟨S, 0, none⟩), .pointer (some ⟨S, 0, none⟩), .slice al T.length cl, .int .i64 (T.length : Int), .func (.func 103) #[] #[.pointer (some ⟨w5.heap.size + 1, 0, none⟩), .pointer (some ⟨w5.heap.size + 1 + 1, 0, none⟩)], .int .i64 x.1, u 60, u 61, u 62, u 63, u 64, u 65, u 66, u 67, u 68, u 69, u 70, u 71, u 72, u 73, u 74, u 75, u 76, u 77, u 78, u 79, u 80, u 81, u 82, u 83, u 84, u 85], defers := [] }) ?assign ?body ?done ?stop)
      case assign =>
        intro l x W K hK
        gi_wp2
        exact hK
      case body =>
        rintro l pre x W ⟨hBW, hfalse⟩ _
        dsimp only
        have hb67 : Below W6.heap.size W6 W := hb7.trans (hBW.mono (by omega))
        have hw7 : Below w.heap.size w W := hw6.trans (hb67.mono (by omega))
        have hs7 := hs6.below hb67
        have hT7 := hT6.below hb67
        have ho7 := hro6.below hb67
        have hf7 := hrf6.below hb67
        have g3 := (hb67.block w.heap.size (by omega)).trans ((hb6.block w.heap.size hwr3).trans ((hbel.block _ (by have := hz3'.out; omega)).trans k3'))
        have g6 := (hb67.block (w.heap.size + 2) (by omega)).trans ((hb6.block (w.heap.size + 2) (by omega)).trans ((hbel.block _ (by have := hz3'.out; omega)).trans k6'))
        have g7 := (hb67.block (w.heap.size + 3) (by omega)).trans ((hb6.block (w.heap.size + 3) hwr1).trans ((hbel.block _ (by have := hz3'.out; omega)).trans k7'))
        have g11 := (hb67.block wr.heap.size (by omega)).trans q11'
        have g12 := (hb67.block (wr.heap.size + 1) (by omega)).trans q12'
        have g13 := (hb67.block w5.heap.size (by omega)).trans q13
        obtain ⟨cs7, hcs7⟩ := hs7.tag
        have hx1 := x.2.1
        have hx2 := x.2.2
        have hcan := canStand_any (at' := x.1 + (ahd : Int)) hs7 hT7 ho7 rfl ⟨af', pf.length, cf', rfl⟩ (by omega) ⟨by omega, by omega⟩
        have e3 : W.cell? ⟨w.heap.size, 0, none⟩ = some (.pointer (some ⟨S, 0, none⟩)) := cell_of g3 rfl
        have e12 : W.cell? ⟨wr.heap.size + 1, 0, none⟩ = some (.int .i64 (ahd : Int)) := cell_of g12 rfl
        have e130 : W.cell? ⟨w5.heap.size, 0, none⟩ = some (.slice ao' po.length co') := cell_of g13 rfl
        have e131 : W.cell? ⟨w5.heap.size, 1, none⟩ = some (.slice af' pf.length cf') := cell_of g13 rfl
        have xw : IntKind.i64.wrap (x.1 + (ahd : Int)) = x.1 + (ahd : Int) := by rw [IntKind.wrap_i64]; omega
        have hWz := hBW.size
        cases hst : standM T s.en po (x.1 + (ahd : Int)) with
        | false =>
          rw [hst] at hcan
          gi_wp2_with (refine ⟨trivial, ?_⟩; gi_at_call 64; refine (CallsIn.inRound l (callsIn_wide.2 hcan)).mono ?_; rintro e w8 ⟨rfl, hb8⟩)
          refine ⟨keeps_below hb8, hb8.mono hWz, hBW.trans (hb8.mono hWz), ?_⟩
          intro y hy
          rw [vals_append, List.mem_append] at hy
          rcases hy with hy | hy
          · exact hfalse y hy
          · simp [vals] at hy; rw [hy]; exact hst
        | true =>
          rw [hst] at hcan
          obtain ⟨st1, st2, _⟩ := of_decide_eq_true hst
          obtain ⟨kk, hkk⟩ : ∃ kk : Nat, x.1 + (ahd : Int) = kk := ⟨(x.1 + (ahd : Int)).toNat, by omega⟩
          have hH2 : Hid (standM T s.en po (x.1 + (ahd : Int)) = true ∧ (x.1 + (ahd : Int)).toNat = kk) := ⟨hst, by omega⟩
          have hput : Hid (∀ W8 : World, Below W.heap.size W W8 → Calls Tryz.prog 65 #[.pointer (some ⟨S, 0, none⟩), .agg #[.slice ao' po.length co', .slice af' pf.length cf'], .int .i64 (x.1 + (ahd : Int))] W8 fun e w' =>
              e = .returned (.tuple #[]) ∧ SewA S (.slice al T.length cl) (s.t ++ textL ((T.drop s.en).take (kk - s.en)) ++ textL pf) ((kk + po.length : Nat) : Int) s.mv w' ∧ Below S W8 w' ∧ Lib.OthersKept 5 (some S) W8 w') := by
            intro W8 hb8
            rw [hkk]
            exact put_sew (hs7.below hb8) (hT7.below hb8) (hf7.below hb8) rfl (by omega) (by omega) (by omega) (by omega) (by omega)
          have hmw : IntKind.i64.wrap (x.1 - (PL : Int)) = x.1 - (PL : Int) := by rw [IntKind.wrap_i64]; omega
          have e3h : Hid (∀ W8 : World, Below W.heap.size W W8 → W8.cell? ⟨w.heap.size, 0, none⟩ = some (.pointer (some ⟨S, 0, none⟩)) ∧ W8.cell? ⟨wr.heap.size + 1, 0, none⟩ = some (.int .i64 (ahd : Int)) ∧ W8.cell? ⟨w5.heap.size, 0, none⟩ = some (.slice ao' po.length co') ∧ W8.cell? ⟨w5.heap.size, 1, none⟩ = some (.slice af' pf.length cf')) := fun W8 hb8 =>
            ⟨(hb8.cell (p := ⟨w.heap.size, 0, none⟩) (Array.getElem?_eq_some_iff.1 g3).1).trans e3, (hb8.cell (p := ⟨wr.heap.size + 1, 0, none⟩) (Array.getElem?_eq_some_iff.1 g12).1).trans e12, (hb8.cell (p := ⟨w5.heap.size, 0, none⟩) (Array.getElem?_eq_some_iff.1 g13).1).trans e130, (hb8.cell (p := ⟨w5.heap.size, 1, none⟩) (Array.getElem?_eq_some_iff.1 g13).1).trans e131⟩
          have hS7 : S < W.heap.size := hs7.lt
          have hne : ∀ k, w.heap.size ≤ k → some k ≠ some S := fun k hk e => by cases e; omega
          have hkeep : Hid (∀ W8 w9 : World, Below W.heap.size W W8 → Lib.OthersKept 5 (some S) W8 w9 → w9.heap[w.heap.size]? = W.heap[w.heap.size]? ∧ w9.heap[w.heap.size + 2]? = W.heap[w.heap.size + 2]? ∧ w9.heap[w.heap.size + 3]? = W.heap[w.heap.size + 3]? ∧ w9.heap[wr.heap.size]? = W.heap[wr.heap.size]? ∧ Lib.OthersKept 5 (some S) W w9) := by
            intro W8 w9 hb8 ho9
            have ho := (others_below (e := 5) (b := some S) hb8).trans ho9
            refine ⟨?_, ?_, ?_, ?_, ho⟩
            · rw [g3]; exact ho _ _ g3 (hne _ (Nat.le_refl _)) (by intro c z e; injection e with _ e; exact absurd e (by decide))
            · rw [g6]; exact ho _ _ g6 (hne _ (by omega)) (by intro c z e; injection e with _ e; exact absurd e (by decide))
            · rw [g7]; exact ho _ _ g7 (hne _ (by omega)) (by intro c z e; injection e with _ e; exact absurd e (by decide))
            · rw [g11]; exact ho _ _ g11 (hne _ (by omega)) (by intro c z e; injection e with _ e; exact absurd e (by decide))
          clear hkk st1 st2 hst
          gi_wp2_with (first | (refine ⟨trivial, ?_⟩; gi_at_call 64; refine (CallsIn.inRound l (callsIn_wide.2 hcan)).mono ?_; clear hcan; rintro e w8 ⟨rfl, hb8⟩; obtain ⟨f3, f12, f130, f131⟩ := e3h.out w8 hb8) | (refine ⟨trivial, ?_⟩; gi_at_call 65; refine (CallsIn.inRound l (callsIn_wide.2 (hput.out w8 hb8))).mono ?_; rintro e w9 ⟨rfl, hs9, hb9, ho9⟩; obtain ⟨j3, j6, j7, j11, jo⟩ := hkeep.out w8 w9 hb8 ho9; have i3 : w9.cell? ⟨w.heap.size, 0, none⟩ = some (.pointer (some ⟨S, 0, none⟩)) := cell_of (j3.trans g3) rfl; have i7 : w9.cell? ⟨w.heap.size + 1 + 1 + 1, 0, none⟩ = some (.int .i64 (PL : Int)) := cell_of (j7.trans g7) rfl; have i11 : w9.cell? ⟨wr.heap.size, 0, none⟩ = some (.int .i64 (f : Int)) := cell_of (j11.trans g11) rfl; obtain ⟨t0, t3, t4, tf⟩ := hs9.cells))
          have hs10 := hs9.set4 (x.1 - (PL : Int))
          have jo10 := jo.setCell ⟨S, 4, none⟩ rfl (.int .i64 (x.1 - (PL : Int)))
          have hbS10 : Below S W (w9.setCell ⟨S, 4, none⟩ (.int .i64 (x.1 - (PL : Int)))) := ((hb8.mono (by omega)).trans hb9).setCell (p := ⟨S, 4, none⟩) (Nat.le_refl _) _
          have m3 := (heap_setCell_other w9 S w.heap.size 4 (.int .i64 (x.1 - (PL : Int))) (by omega)).trans (j3.trans g3)
          have m6 := (heap_setCell_other w9 S (w.heap.size + 2) 4 (.int .i64 (x.1 - (PL : Int))) (by omega)).trans (j6.trans g6)
          have m11 := (heap_setCell_other w9 S wr.heap.size 4 (.int .i64 (x.1 - (PL : Int))) (by omega)).trans (j11.trans g11)
          generalize w9.setCell ⟨S, 4, none⟩ (.int .i64 (x.1 - (PL : Int))) = W10 at hs10 jo10 hbS10 m3 m6 m11 ⊢
          clear i3 i7 i11 t0 t3 t4 tf
          have i3 : W10.cell? ⟨w.heap.size, 0, none⟩ = some (.pointer (some ⟨S, 0, none⟩)) := cell_of m3 rfl
          have i11 : W10.cell? ⟨wr.heap.size, 0, none⟩ = some (.int .i64 (f : Int)) := cell_of m11 rfl
          obtain ⟨t0, t3, t4, tf⟩ := hs10.cells
          have i60 : W10.cell? ⟨w.heap.size + 1 + 1, 0, none⟩ = some (.bool false) := cell_of m6 rfl
          have i61 : W10.cell? ⟨w.heap.size + 1 + 1, 1, none⟩ = some (.int .i64 0) := cell_of m6 rfl
          have i62 : W10.cell? ⟨w.heap.size + 1 + 1, 2, none⟩ = some (.int .i64 0) := cell_of m6 rfl
          have if6 : ∀ k, W10.frozen? ⟨w.heap.size + 1 + 1, k, none⟩ = false := fun k => frozen_of m6
          have hz10 := hbS10.size
          have hmk7 : ∀ D ∈ Ds, W.heap[D]? = some (.deferred (some [])) := fun D hD => by
            have h1 := hmk.2 D hD
            have h2 := (Array.getElem?_eq_some_iff.1 h1).1
            have h3 := hb6.size
            exact (hb67.block D (by omega)).trans ((hb6.block D h2).trans h1)
          have hfin := sew_final (f := f) hw7 hs7.tag hs10 m6 hbS10 jo10 (by omega) hmk7
          have hTO2 := hTO.out x.1
          rw [hH2.out.2] at hTO2
          have hpost : KeepsOthers W (((W10.setCell ⟨w.heap.size + 1 + 1, 0, none⟩ (.bool true)).setCell ⟨w.heap.size + 1 + 1, 1, none⟩ (.int .i64 (x.1 - (PL : Int)))).setCell ⟨w.heap.size + 1 + 1, 2, none⟩ (.int .i64 (f : Int))).drew ∧ (∃ pre' x', vals (pre ++ [x]) = pre' ++ [x'] ∧ (∀ y ∈ pre', standM T s.en po (y + (ahd : Int)) = false) ∧ standM T s.en po (x' + (ahd : Int)) = true ∧
              SewFin S w (.slice al T.length cl) (w.heap.size + 2) (sewTo T s h f x') ⟨true, x' - (PL : Int), f⟩ (((W10.setCell ⟨w.heap.size + 1 + 1, 0, none⟩ (.bool true)).setCell ⟨w.heap.size + 1 + 1, 1, none⟩ (.int .i64 (x.1 - (PL : Int)))).setCell ⟨w.heap.size + 1 + 1, 2, none⟩ (.int .i64 (f : Int))).drew ∧
              ∀ D ∈ Ds, (((W10.setCell ⟨w.heap.size + 1 + 1, 0, none⟩ (.bool true)).setCell ⟨w.heap.size + 1 + 1, 1, none⟩ (.int .i64 (x.1 - (PL : Int)))).setCell ⟨w.heap.size + 1 + 1, 2, none⟩ (.int .i64 (f : Int))).drew.heap[D]? = some (.deferred (some []))) :=
            ⟨hfin.1, vals pre, x.1, by rw [vals_append]; rfl, hfalse, hH2.out.1, by rw [hTO2]; exact hfin.2.1, hfin.2.2⟩
          have hP : Hid _ := hpost
          clear hpost hfin hTO2 hfalse hmk7
          have hmixed := mixed
          gi_region_o
          all_goals (gi_wp2; exact ⟨hP.out.1, rfl, hP.out.2⟩)
      case done =>
        rintro D xs W hD hS ⟨hBW, hfalse⟩ hDef
        have hb67 : Below W6.heap.size W6 W := hb7.trans (hBW.mono (by omega))
        have hbw3 : Below w3.heap.size w3 W := hbel.trans ((hb6.trans (hb67.mono (by have := hb6.size; omega))).mono (by have := hz3'.out; omega))
        have hnone : sewAt T s.en s.mv h f = none := by
          rw [hAT.out]
          exact find_none (fun y hy => hfalse y (by rw [hS]; exact hy))
        have hmk7 : ∀ D ∈ Ds, W.heap[D]? = some (.deferred (some [])) := fun D hD => by
          have h1 := hmk.2 D hD
          have h2 := (Array.getElem?_eq_some_iff.1 h1).1
          have h3 := hb6.size
          exact (hb67.block D (by omega)).trans ((hb6.block D h2).trans h1)
        have hM : Marks (D :: Ds) W := ⟨List.nodup_cons.2 ⟨fun hm => by have := hDs7 D hm; omega, hmk.1⟩, fun D' hD' => by
          rcases List.mem_cons.1 hD' with rfl | hD'
          · exact hDef
          · exact hmk7 D' hD'⟩
        have hH3 : Hid (Marks (D :: Ds) W ∧ sewFrom T s.en s.mv h 0 N = sewFrom T s.en s.mv h (f + 1) (N - (f + 1)) ∧ Below w3.heap.size w3 W ∧ ∀ D' ∈ D :: Ds, w3.heap.size ≤ D') := by
          refine ⟨hM, ?_, hbw3, ?_⟩
          · rw [hH.out.2.1, show N - f = (N - (f + 1)) + 1 by omega, sewFrom_none hnone]
          · intro D' hD'
            rcases List.mem_cons.1 hD' with rfl | hD'
            · have := hb6.size; have := hz3'.out; omega
            · exact hDs D' hD'
        clear hM hmk7 hnone hbw3 hfalse hS hDef
        have hfw : IntKind.i64.wrap ((f : Int) + 1) = (f : Int) + 1 := by rw [IntKind.wrap_i64]; omega
        go_wp2_with fail
        exact Handed.intro (N - (f + 1)) (by have := hH.out.1; omega) (hJ _ _ _ ⟨f + 1, D :: Ds, rfl, by omega, hH3.out.2.1, by rw [hH.out.2.2]; rfl, hH3.out.1, hH3.out.2.2.2, hH3.out.2.2.1, rfl, rfl, rfl, rfl, rfl, rfl, rfl, rfl, rfl, rfl, rfl, rfl, rfl⟩)
      case stop =>
        rintro D c pre W hD hSp ⟨rfl, pre', x, hv, hf', ht', hfin, hmks⟩ hDef
        have hsome : sewAt T s.en s.mv h f = some x := by
          rw [hAT.out]
          exact find_split (by rw [← hv]; exact hSp) hf' ht'
        have hsm : sewM T s h fz = (sewTo T s h f x, ⟨true, x - (PL : Int), f⟩) := by
          unfold sewM
          rw [hF2.out, hH.out.2.1, sewFrom_some (by omega) hsome]
          show (sewTo T s h f x, (⟨true, x - (placeM h.fr h.fc : Nat), f⟩ : SeamM)) = _
          rw [hPLh.out]
        have hM : Marks (D :: Ds) W := ⟨List.nodup_cons.2 ⟨fun hm => by have := hDs7 D hm; omega, hmk.1⟩, fun D' hD' => by
          rcases List.mem_cons.1 hD' with rfl | hD'
          · exact hDef
          · exact hmks D' hD'⟩
        have hH4 : Hid (SewFin S w (.slice al T.length cl) (w.heap.size + 2) (sewTo T s h f x) ⟨true, x - (PL : Int), f⟩ W ∧ Marks (D :: Ds) W ∧ sewM T s h fz = (sewTo T s h f x, ⟨true, x - (PL : Int), f⟩)) := ⟨hfin, hM, hsm⟩
        clear hsm hM hsome hf' ht' hv hSp hDef hmks hfin
        refine wpIn_wide.2 ?_
        go_wp2_with fail
        rw [hH4.out.2.2, hH.out.2.2]
        refine sew_leave (Ds := D :: Ds) hH4.out.1 hSw hH4.out.2.1 ?_ ?_
        · intro D' hD'
          rcases List.mem_cons.1 hD' with rfl | hD'
          · omega
          · have := hDs D' hD'; have := hz3'.out; omega
        · intro W d0 d1 d2
          simp [results, Tryz.results29, go_sem, d0, d1, d2]
    · obtain rfl : f = N := by omega
      have k60 : wr.cell? ⟨w.heap.size + 1 + 1, 0, none⟩ = some (.bool false) := cell_of ((hbel.block (w.heap.size + 2) (by have := hz3'.out; omega)).trans k6') rfl
      have k61 : wr.cell? ⟨w.heap.size + 1 + 1, 1, none⟩ = some (.int .i64 0) := cell_of ((hbel.block (w.heap.size + 2) (by have := hz3'.out; omega)).trans k6') rfl
      have k62 : wr.cell? ⟨w.heap.size + 1 + 1, 2, none⟩ = some (.int .i64 0) := cell_of ((hbel.block (w.heap.size + 2) (by have := hz3'.out; omega)).trans k6') rfl
      have k6f : ∀ k, wr.frozen? ⟨w.heap.size + 1 + 1, k, none⟩ = false := fun k => frozen_of ((hbel.block (w.heap.size + 2) (by have := hz3'.out; omega)).trans k6')
      have hsm : sewM T s h fz = (s, ⟨false, 0, 0⟩) := by
        unfold sewM
        rw [hF2.out, hH.out.2.1, Nat.sub_self]
        rfl
      have hsmH : Hid _ := hsm
      have hs' := hs.below hbw'
      have hfin := sew_none hs.lt hs' ((hbel.block (w.heap.size + 2) (by have := hz3'.out; omega)).trans k6') hbw'
      have hmk' : ∀ D ∈ Ds, (((wr.setCell ⟨w.heap.size + 1 + 1, 0, none⟩ (.bool false)).setCell ⟨w.heap.size + 1 + 1, 1, none⟩ (.int .i64 0)).setCell ⟨w.heap.size + 1 + 1, 2, none⟩ (.int .i64 0)).heap[D]? = some (.deferred (some [])) := by
        intro D hD
        have hDb : D ≠ w.heap.size + 1 + 1 := by have := hDs D hD; have := hz3'.out; omega
        rw [heap_setCell_other _ _ _ _ _ hDb, heap_setCell_other _ _ _ _ _ hDb, heap_setCell_other _ _ _ _ _ hDb]
        exact hmk.2 D hD
      have hfinH : Hid _ := hfin
      have hmkH : Hid _ := hmk'
      clear hsm hfin hmk'
      go_wp2_with fail
      rw [hsmH.out, hH.out.2.2]
      refine sew_leave hfinH.out hs.lt ⟨hmk.1, hmkH.out⟩ (fun D hD => by have := hDs D hD; have := hz3'.out; omega) ?_
      intro W d0 d1 d2
      simp [results, Tryz.results29, go_sem, d0, d1, d2]
end Go.Proofs.YtcclgodahlinbaaGreatDoor

namespace Go.Proofs.YtcclgodahlinbaaGreatDoor
open Go.RowKit Go
set_option maxRecDepth 100000

/-- what a hunk must be for sew -/
structure HunkOk (h : HunkM) : Prop where
  kinds : ∀ x ∈ h.lines, x.kind = 32 ∨ x.kind = 45 ∨ x.kind = 43
  len : h.lines.length ≤ 1000
  fr : h.fr ≤ 40000
  fc : min h.fc 1 ≤ h.fr
  text : (textL (Dn.newOf h.lines)).length ≤ 10000

theorem sewFrom_at {T : List ByteArray} {ei : Nat} {mv : Int} {h : HunkM} : ∀ n f {g : Nat} {x : Int}, sewFrom T ei mv h f n = some (g, x) → sewAt T ei mv h g = some x := by
  intro n
  induction n with
  | zero => intro f g x e; simp [sewFrom] at e
  | succ n ih =>
    intro f g x e
    unfold sewFrom at e
    cases hx : sewAt T ei mv h f with
    | some y => rw [hx] at e; simp at e; obtain ⟨rfl, rfl⟩ := e; exact hx
    | none => rw [hx] at e; exact ih (f + 1) e

/-- bounds on what is sewn -/
structure SewOk (T : List ByteArray) (s : SewS) (n : Nat) : Prop where
  en : s.en ≤ T.length
  mv : -50000 ≤ s.mv ∧ s.mv ≤ 50000
  t : s.t.length ≤ n * 20000

theorem sewM_ok {T : List ByteArray} {s : SewS} {h : HunkM} {fz n : Nat} (hs : SewOk T s n) (hh : HunkOk h) (hT : T.length ≤ 40000) (hx : (textL T).length ≤ 10000) : SewOk T (sewM T s h fz).1 (n + 1) := by
  unfold sewM
  cases hf : sewFind T s.en s.mv h fz with
  | none => exact ⟨hs.en, hs.mv, Nat.le_trans hs.t (by omega)⟩
  | some p =>
    obtain ⟨f, x⟩ := p
    have hat := sewFrom_at _ _ hf
    have hst := List.find?_some hat
    obtain ⟨h1, h2, _⟩ := of_decide_eq_true hst
    have hk := (keepsK_le h.lines h.lines.length).1
    have hpl : placeM h.fr h.fc ≤ 40000 := by have := hh.fr; unfold placeM; split <;> omega
    have hlen := hh.len
    have e1 := textL_sub T s.en ((x + (min f (keepsK h.lines h.lines.length).1 : Nat)).toNat - s.en)
    have e2 : (textL (pieceF h.lines f)).length ≤ (textL (Dn.newOf h.lines)).length := textL_sub _ _ _
    have e3 := hh.text
    have e4 := hs.t
    refine ⟨?_, ?_, ?_⟩
    · show (x + (min f (keepsK h.lines h.lines.length).1 : Nat)).toNat + (pieceO h.lines f).length ≤ T.length
      omega
    · show -50000 ≤ x - (placeM h.fr h.fc : Nat) ∧ x - (placeM h.fr h.fc : Nat) ≤ 50000
      omega
    · show (s.t ++ _ ++ _).length ≤ _
      rw [List.length_append, List.length_append]
      omega

/-! ### the mirror of Apply -/
def applyFrom (T : List ByteArray) (fz : Nat) (s : SewS) : List HunkM → SewS × List SeamM
  | [] => (s, [])
  | h :: l => let r := sewM T s h fz; let q := applyFrom T fz r.1 l; (q.1, r.2 :: q.2)
def applyK (T : List ByteArray) (fz : Nat) (hs : List HunkM) (k : Nat) : SewS × List SeamM := applyFrom T fz ⟨[], 0, 0⟩ (hs.take k)
theorem applyFrom_snoc (T : List ByteArray) (fz : Nat) (h : HunkM) : ∀ (l : List HunkM) (s : SewS), applyFrom T fz s (l ++ [h]) = ((sewM T (applyFrom T fz s l).1 h fz).1, (applyFrom T fz s l).2 ++ [(sewM T (applyFrom T fz s l).1 h fz).2]) := by
  intro l
  induction l with
  | nil => intro s; rfl
  | cons a l ih => intro s; simp only [List.cons_append, applyFrom, ih]
theorem applyK_succ (T : List ByteArray) (fz : Nat) (hs : List HunkM) (k : Nat) (h : k < hs.length) : applyK T fz hs (k + 1) = ((sewM T (applyK T fz hs k).1 hs[k] fz).1, (applyK T fz hs k).2 ++ [(sewM T (applyK T fz hs k).1 hs[k] fz).2]) := by
  unfold applyK
  rw [List.take_succ_eq_append_getElem h, applyFrom_snoc]
theorem applyK_ok {T : List ByteArray} {fz : Nat} {hs : List HunkM} (hh : ∀ h ∈ hs, HunkOk h) (hT : T.length ≤ 40000) (hx : (textL T).length ≤ 10000) : ∀ k, k ≤ hs.length → SewOk T (applyK T fz hs k).1 k ∧ (applyK T fz hs k).2.length = k := by
  intro k
  induction k with
  | zero => intro _; exact ⟨⟨Nat.zero_le _, (show (-50000 : Int) ≤ 0 ∧ (0 : Int) ≤ 50000 by decide), Nat.zero_le _⟩, rfl⟩
  | succ k ih =>
    intro hk
    rw [applyK_succ T fz hs k hk]
    obtain ⟨i1, i2⟩ := ih (by omega)
    exact ⟨sewM_ok i1 (hh _ (List.getElem_mem _)) hT hx, by rw [List.length_append, i2]; rfl⟩
def applyT (T : List ByteArray) (fz : Nat) (hs : List HunkM) : ByteArray := ⟨((applyK T fz hs hs.length).1.t ++ textL (T.drop (applyK T fz hs hs.length).1.en)).toArray⟩
def applyS (T : List ByteArray) (fz : Nat) (hs : List HunkM) : List SeamM := (applyK T fz hs hs.length).2

def seamCells (l : List SeamM) : List Value := l.flatMap fun m => [.bool m.done, .int .i64 m.at', .int .i64 (m.fz : Nat)]
theorem seamCells_append (a b : List SeamM) : seamCells (a ++ b) = seamCells a ++ seamCells b := by unfold seamCells; rw [List.flatMap_append]
theorem info_seam : (Tryz.prog.info? 63).map (fun i => (i.zero, i.size, i.bytes)) = some (some (.agg #[.bool false, .int .i64 0, .int .i64 0]), 3, 24) := by kernel_rfl

theorem SewA.keep {S : Nat} {vl : Value} {t : List UInt8} {en mv : Int} {W W' : World} {row : Option Nat} (h : SewA S vl t en mv W) (hg : W.grownBy W' row) (hr : ∀ r, row = some r → ∃ c fz, W.heap[r]? = some (.cells c 63 fz)) : SewA S vl t en mv W' := by
  obtain ⟨ad, vb, h⟩ := h
  have hS : some S ≠ row := by
    intro e
    obtain ⟨c, z, ho⟩ := hr S e.symm
    rw [h.blk] at ho; injection ho with ho; injection ho with _ e2; exact absurd e2 (by decide)
  refine ⟨ad, vb, (hg.block S h.lt hS).trans h.blk, h.adr, h.own.kept hg ?_⟩
  cases hb : vb.ownBlock with
  | none => exact .inl rfl
  | some g =>
    right
    intro e
    obtain ⟨cur, hc⟩ := owns_block h.own hb
    obtain ⟨c, z, ho⟩ := hr g e.symm
    rw [hc] at ho; injection ho with ho; injection ho with _ e2; exact absurd e2 (by decide)
theorem RowS.keep {v : Value} {L : List ByteArray} {W W' : World} {row : Option Nat} (h : RowS W v L) (hg : W.grownBy W' row) (hr : ∀ r, row = some r → ∃ c fz, W.heap[r]? = some (.cells c 63 fz)) : RowS W' v L :=
  h.of_heap fun b cur fr hb => (hg.block b (Array.getElem?_eq_some_iff.1 hb).1 (fun e => by
    obtain ⟨c, z, ho⟩ := hr b e.symm
    rw [hb] at ho; injection ho with ho; injection ho with _ e2; exact absurd e2 (by decide))).trans hb

theorem owns_others {S base n : Nat} {w w' : World} {v : Value} {xs : List Value} {cs : Array Value} {fr : Nat × Nat} (h : w.ownsRow base 63 3 v n xs) (hS : w.heap[S]? = some (.cells cs 76 fr)) (hk : Lib.OthersKept 5 (some S) w w') : w'.ownsRow base 63 3 v n xs := by
  obtain ⟨a, b⟩ := h
  refine ⟨a, ?_⟩
  rcases b with b | ⟨g, cap, cur, e, hb, hg, r⟩
  · exact .inl b
  · refine .inr ⟨g, cap, cur, e, hb, hk g _ hg ?_ ?_, r⟩
    · rintro ⟨⟩; rw [hS] at hg; injection hg with hg; injection hg with _ e2; exact absurd e2 (by decide)
    · intro c z e2; injection e2 with _ e2; exact absurd e2 (by decide)

/-- linesOf, as a row of strings -/
theorem linesOf_row (s : ByteArray) (m : Int) (w : World) (hs : s.size < 4294967281) (hm : w.cell? ⟨0, 0, none⟩ = some (.int .i64 m)) :
    Calls Tryz.prog 26 #[.string s] w fun e w' => ∃ a c, e = .returned (.slice a (linesB s).length c) ∧ RowS w' (.slice a (linesB s).length c) (linesB s) ∧ Below w.heap.size w w' := by
  by_cases h0 : s.toList.isEmpty = true
  · have hl : linesB s = [] := by unfold linesB; rw [if_pos h0]
    rw [hl]
    have := empty_of_toList h0
    subst this
    refine (linesOf_nil w).mono ?_
    rintro e w' ⟨rfl, rfl⟩
    exact ⟨none, 0, rfl, .inl ⟨rfl, none, 0, rfl⟩, Below.refl _ _⟩
  · replace h0 : s.toList.isEmpty = false := by simpa using h0
    have hl := linesB_length s h0
    refine (linesOf_some s m w hs h0 hm).mono ?_
    rintro e w' ⟨rfl, rfl⟩
    refine ⟨_, _, by rw [hl], .inr ⟨w.heap.size, 0, _, _, _, rfl, by omega, heap_alloc_new w _, fun i hi => ?_⟩, (Below.refl _ _).alloc (Nat.le_refl _) _⟩
    simp [hi, List.getD]
end Go.Proofs.YtcclgodahlinbaaGreatDoor

namespace Go.Proofs.YtcclgodahlinbaaGreatDoor
open Go.RowKit Go
set_option maxRecDepth 100000

set_option maxHeartbeats 2000000 in
theorem apply_ok {s : ByteArray} {hs : List HunkM} {fz : Nat} {a : Option Addr} {cap : Nat} {m : Int} {w : World} (h1 : isTextB s = true) (h2 : largeB s = false) (hf : fz ≤ 10)
    (hH : HunksAt w.heap.size w (.slice a hs.length cap) hs) (hok : rightM 0 0 hs = true) (hL : hs.length ≤ 1000) (hsz : s.size < 4294967281) (hm : w.cell? ⟨0, 0, none⟩ = some (.int .i64 m)) (hm0 : 0 < w.heap.size)
    (hh : ∀ h ∈ hs, HunkOk h) (hT : (linesB s).length ≤ 40000) (hx : (textL (linesB s)).length ≤ 10000) :
    Calls Tryz.prog 14 #[.string s, .agg #[.slice a hs.length cap], .int .i64 fz] w fun e w' =>
      ∃ v, e = .returned (.tuple #[.string (applyT (linesB s) fz hs), v, .int .i64 0]) ∧ w'.ownsRow w.heap.size 63 3 v hs.length (seamCells (applyS (linesB s) fz hs)) ∧ Below w.heap.size w w' := by
  obtain ⟨i0, hi, hz0, hz1, hz2⟩ := info_parts info_seam
  have hA := fun k hk => applyK_ok (fz := fz) hh hT hx k hk
  have hw0 : Below w.heap.size w (w.alloc (.cells #[.slice a hs.length cap] 32)) := (Below.refl _ _).alloc (Nat.le_refl _) _
  have hp0 := heap_alloc_new w (.cells #[.slice a hs.length cap] 32)
  have hc := checkApply_yes (fz := fz) h1 h2 hf ((hH.below hw0).mono (by simp : w.heap.size ≤ (w.alloc (.cells #[.slice a hs.length cap] 32)).heap.size)) hok hL hsz
  have z0 : (w.alloc (.cells #[.slice a hs.length cap] 32)).heap.size = w.heap.size + 1 := by simp
  have p0 : (w.alloc (.cells #[.slice a hs.length cap] 32)).cell? ⟨w.heap.size, 0, none⟩ = some (.slice a hs.length cap) := cell_of hp0 rfl
  go_enter Tryz.func14, Tryz.ntmps14
  go_wp2_with fail
  generalize w.alloc (.cells #[.slice a hs.length cap] 32) = W0 at *
  refine hc.mono ?_
  rintro e w1 ⟨rfl, b1⟩
  have hb1 : Below w.heap.size w w1 := hw0.trans (b1.mono (by omega))
  have hz1' := b1.size
  have hl := linesOf_row s m w1 hsz ((hb1.cell (p := ⟨0, 0, none⟩) hm0).trans hm)
  go_wp2_with (go_at_call 26; refine hl.mono ?_; rintro e w2 ⟨al, cl, rfl, hrow, b2⟩; have hz2' := b2.size; have hlt2 : w.heap.size < w2.heap.size := by omega
               have q0 : w2.cell? ⟨w.heap.size, 0, none⟩ = some (.slice a hs.length cap) := (b2.cell (p := ⟨w.heap.size, 0, none⟩) (by show w.heap.size < _; omega)).trans ((b1.cell (p := ⟨w.heap.size, 0, none⟩) (by show w.heap.size < _; omega)).trans p0)
               have q0' := fun ob => (World.cell?_of_block (a := ⟨w.heap.size, 0, none⟩) (Below.heap_alloc w2 ob w.heap.size hlt2)).trans q0)
  generalize hTd : linesB s = T at *
  have hS0 : SewA w2.heap.size (.slice al T.length cl) [] (0 : Nat) 0 (w2.alloc (.cells #[.slice al T.length cl, .pointer none, .slice none 0 0, .int .i64 0, .int .i64 0] 76)) :=
    ⟨.pointer none, .slice none 0 0, heap_alloc_new w2 _, .inl rfl, World.ownsRow_nil _ _ _ _⟩
  have hR0 := hrow.alloc (.cells #[.slice al T.length cl, .pointer none, .slice none 0 0, .int .i64 0, .int .i64 0] 76)
  have hb2' : Below w.heap.size w w2 := hb1.trans (b2.mono (by omega))
  have hB0 := hb2'.alloc (by omega) (.cells #[.slice al T.length cl, .pointer none, .slice none 0 0, .int .i64 0, .int .i64 0] 76)
  go_loopg [11, 27] hs.length (fun g vs t wr => ∃ k : Nat, g = hs.length - k ∧ k ≤ hs.length ∧ t = .int .i64 k ∧ SewA w2.heap.size (.slice al T.length cl) (applyK T fz hs k).1.t ((applyK T fz hs k).1.en : Nat) (applyK T fz hs k).1.mv wr ∧ RowS wr (.slice al T.length cl) T ∧ wr.ownsRow w.heap.size 63 3 vs k (seamCells (applyK T fz hs k).2) ∧ Below w.heap.size w wr)
  case atStart => exact ⟨0, by omega, by omega, rfl, hS0, hR0, World.ownsRow_nil _ _ _ _, hB0⟩
  case round =>
    obtain ⟨k, hgk, hkl, rfl, hsew, hrw, hown, hbel⟩ := hrel
    clear hS0 hR0 hB0 q0 q0' hl hc
    have hSw := hsew.lt
    have hszr := hbel.size
    by_cases hkk : k < hs.length
    · have hkI : (k : Int) < hs.length := by omega
      obtain ⟨b, a', c', rfl, hbB, r0, r1, r2, r3, r4, hst⟩ := (hH.below hbel).at hkk
      have hho := hh _ (List.getElem_mem hkk)
      have hap := applyK_succ T fz hs k hkk
      obtain ⟨hok1, hlk⟩ := hA k hkl
      generalize applyK T fz hs k = AK at hsew hown hap hok1 hlk
      generalize hs[k] = h at r0 r1 r2 r3 r4 hst hho hap
      have hAH : Hid (gk = hs.length - k ∧ applyK T fz hs (k + 1) = ((sewM T AK.1 h fz).1, AK.2 ++ [(sewM T AK.1 h fz).2])) := ⟨hgk, hap⟩
      clear hgk hap
      have hbx := Below.heap_alloc wr (.cells #[.int .i64 (h.fr : Int), .int .i64 (h.fc : Int), .int .i64 (h.tr : Int), .int .i64 (h.tc : Int), .slice a' h.lines.length c'] 61)
      have hsew1 := hsew.alloc (.cells #[.int .i64 (h.fr : Int), .int .i64 (h.fc : Int), .int .i64 (h.tr : Int), .int .i64 (h.tc : Int), .slice a' h.lines.length c'] 61)
      have hrw1 := hrw.alloc (.cells #[.int .i64 (h.fr : Int), .int .i64 (h.fc : Int), .int .i64 (h.tr : Int), .int .i64 (h.tc : Int), .slice a' h.lines.length c'] 61)
      have hown1 := hown.alloc (.cells #[.int .i64 (h.fr : Int), .int .i64 (h.fc : Int), .int .i64 (h.tr : Int), .int .i64 (h.tc : Int), .slice a' h.lines.length c'] 61)
      have hbel1 := hbel.alloc hszr (.cells #[.int .i64 (h.fr : Int), .int .i64 (h.fc : Int), .int .i64 (h.tr : Int), .int .i64 (h.tc : Int), .slice a' h.lines.length c'] 61)
      have hst1 := (hst.below ((Below.refl w.heap.size wr).alloc hszr (.cells #[.int .i64 (h.fr : Int), .int .i64 (h.fc : Int), .int .i64 (h.tr : Int), .int .i64 (h.tc : Int), .slice a' h.lines.length c'] 61))).mono (B' := (wr.alloc (.cells #[.int .i64 (h.fr : Int), .int .i64 (h.fc : Int), .int .i64 (h.tr : Int), .int .i64 (h.tc : Int), .slice a' h.lines.length c'] 61)).heap.size) (by simp; omega)
      have hk20 : k * 20000 ≤ 20000000 := by omega
      have hse := sew_any (fz := fz) hsew1 hrw1 hst1 hho.kinds hho.len hho.fr hho.fc (by omega) hok1.mv (by have := hok1.t; have := hho.text; omega) (by omega)
      obtain ⟨ao, co, rfl⟩ := owns_isSlice hown
      have hsz1 : (wr.alloc (.cells #[.int .i64 (h.fr : Int), .int .i64 (h.fc : Int), .int .i64 (h.tr : Int), .int .i64 (h.tc : Int), .slice a' h.lines.length c'] 61)).heap.size = wr.heap.size + 1 := by simp
      go_wp2_with fail
      generalize wr.alloc (.cells #[.int .i64 (h.fr : Int), .int .i64 (h.fc : Int), .int .i64 (h.tr : Int), .int .i64 (h.tc : Int), .slice a' h.lines.length c'] 61) = W1 at hsew1 hrw1 hown1 hbel1 hse hsz1 ⊢
      refine hse.mono ?_
      clear hse hbx hst hst1
      generalize hR : sewM T AK.1 h fz = R at *
      obtain ⟨rs, ⟨rd, ra, rf⟩⟩ := R
      rintro e w5 ⟨rfl, hs5, hb5, ho5⟩
      obtain ⟨cs1, hcs1⟩ := hsew1.tag
      have hrw5 := hrw1.kept hcs1 ho5
      have hown5 := owns_others hown1 hcs1 ho5
      have hz5 := hb5.size
      have hbel5 : Below w.heap.size w w5 := hbel1.trans (hb5.mono (by omega))
      have hone : ∀ u ∈ [Value.bool rd, Value.int .i64 ra, Value.int .i64 (rf : Nat)], u.oneCell' = true := by intro u hu; simp at hu; rcases hu with rfl | rfl | rfl <;> rfl
      have hm1 : k + 1 ≤ maxLen := by unfold maxLen; omega
      have hm2 : (k + 1) * 24 ≤ 140737488355328 := by omega
      have hw5 := hbel5.size
      dsimp only at hs5 ⊢
      clear hrw hown hsew hsew1 hrw1 hown1 hcs1
      go_wp2_with (at_builtin; refine wpList_append_own2 rfl (.tmp 31) (.tmp 35) 37 rfl w.heap.size 63 i0 _ 3 24 Tryz.underlying37 hi hz0 hz1 hz2 rfl (by decide) (.slice ao k co) k (seamCells AK.2) rfl (hown5.alloc _) ⟨w5.heap.size, 0, none⟩ 1 1 [.bool rd, .int .i64 ra, .int .i64 (rf : Nat)] rfl rfl (cells_new w5 _ _) hone hm1 hm2 (by simp; omega) ?_; intro vs' w6 hown6 hgrow6 hnew6)
      go_roundg (hs.length - (k + 1))
      · have e1 := hAH.out.2
        have hk := owns_kind (hown5.alloc (.cells #[.bool rd, .int .i64 ra, .int .i64 (rf : Nat)] 63))
        refine ⟨k + 1, rfl, by omega, by push_cast; rfl, ?_, (hrw5.alloc _).keep hgrow6 hk, ?_, (hbel5.alloc (by omega) _).grown hgrow6 (by simp; omega) (fun j e => (hown5.lt j e).1)⟩
        · rw [e1]; exact (hs5.alloc _).keep hgrow6 hk
        · rw [e1, seamCells_append]; exact hown6
      · have := hAH.out.1; omega
    · obtain rfl : k = hs.length := by omega
      obtain ⟨hok1, hlk⟩ := hA _ hkl
      have htx := sewtext_any hsew hrw rfl hok1.en (by have := hok1.t; omega)
      have hT2 : Hid (applyT (linesB s) fz hs = ⟨((applyK T fz hs hs.length).1.t ++ textL (T.drop (applyK T fz hs hs.length).1.en)).toArray⟩ ∧ applyS (linesB s) fz hs = (applyK T fz hs hs.length).2) := by rw [hTd]; exact ⟨rfl, rfl⟩
      have hownh : Hid _ := hown
      clear hgk
      go_wp2_with (go_at_call 30; refine htx.mono ?_; rintro e w5 ⟨rfl, hb5, ho5⟩)
      obtain ⟨ao, co, rfl⟩ := owns_isSlice hownh.out
      obtain ⟨cs1, hcs1⟩ := hsew.tag
      have hown5 := owns_others hownh.out hcs1 ho5
      refine bodyPost_ret (v := .tuple #[.string (applyT (linesB s) fz hs), .slice ao hs.length co, .int .i64 0]) ?_ rfl ⟨_, rfl, ?_, hbel.trans (hb5.mono (by omega))⟩
      · rw [hT2.out.1]
        simp [results, Tryz.results14, go_sem]
      · rw [hT2.out.2]; exact hown5
end Go.Proofs.YtcclgodahlinbaaGreatDoor

namespace Go.Proofs.YtcclgodahlinbaaGreatDoor
open Go.RowKit Go
set_option maxRecDepth 100000

/-- which of n things a raw number speaks of -/
def pickN (c : Int) (n : Nat) : Nat := ((if c < 0 then -(c + 1) else c) % n).toNat
theorem pickN_lt (c : Int) {n : Nat} (h : 0 < n) : pickN c n < n := by
  unfold pickN
  have h1 := Int.emod_nonneg (if c < 0 then -(c + 1) else c) (b := (n : Int)) (by omega)
  have h2 := Int.emod_lt_of_pos (if c < 0 then -(c + 1) else c) (b := (n : Int)) (by omega)
  omega

set_option maxHeartbeats 400000 in
theorem pick_any (c : Int) (n : Nat) (w : World) (hc : -9223372036854775808 ≤ c ∧ c ≤ 9223372036854775807) (hn : 0 < n) (hn2 : n ≤ 1000) :
    Calls Tryz.prog 13 #[.int .i64 c, .int .i64 (n : Int)] w fun e w' => e = .returned (.int .i64 (pickN c n : Nat)) ∧ w = w' := by
  have hne : ¬ ((n : Int) = 0) := by omega
  by_cases h : c < 0
  · have e1 : IntKind.i64.wrap (c + 1) = c + 1 := by rw [IntKind.wrap_i64]; omega
    have e2 : IntKind.i64.wrap (-(c + 1)) = -(c + 1) := by rw [IntKind.wrap_i64]; omega
    have h1 := Int.emod_nonneg (-(c + 1)) (b := (n : Int)) (by omega)
    have h2 := Int.emod_lt_of_pos (-(c + 1)) (b := (n : Int)) (by omega)
    have e3 : ((pickN c n : Nat) : Int) = -(c + 1) % n := by unfold pickN; rw [if_pos h]; omega
    rw [e3]
    go_enter Tryz.func13, Tryz.ntmps13
    go_wp2
    go_ret
    refine ⟨ret_int ?_, rfl⟩
    rw [← Int.neg_tmod, Int.tmod_eq_emod_of_nonneg (by omega)]
  · have h1 := Int.emod_nonneg c (b := (n : Int)) (by omega)
    have h2 := Int.emod_lt_of_pos c (b := (n : Int)) (by omega)
    have e3 : ((pickN c n : Nat) : Int) = c % n := by unfold pickN; rw [if_neg h]; omega
    rw [e3]
    go_enter Tryz.func13, Tryz.ntmps13
    go_wp2
    go_ret
    exact ⟨rfl, rfl⟩

/-- lines joined, as a string -/
def textB (l : List ByteArray) : ByteArray := ⟨(textL l).toArray⟩
theorem textB_take (l : List ByteArray) (k : Nat) (h : k < l.length) : textB (l.take k) ++ l.getD k ByteArray.empty ++ ⟨#[10]⟩ = textB (l.take (k + 1)) := by
  apply ByteArray.ext
  unfold textB
  rw [textL_take l k h]
  simp [ByteArray.data_append]
set_option maxHeartbeats 1000000 in
theorem ktext_any {w : World} {a : Option Addr} {c : Nat} {L : List ByteArray} (hR : RowS w (.slice a L.length c) L) (hl : (textL L).length ≤ 100000) :
    Calls Tryz.prog 11 #[.slice a L.length c] w fun e w' => e = .returned (.string (textB L)) ∧ w = w' := by
  have hLl := textL_len L
  go_enter Tryz.func11, Tryz.ntmps11
  go_wp2
  go_loopg [3, 4] L.length (fun g s x wr => ∃ k : Nat, g = L.length - k ∧ k ≤ L.length ∧ x = .int .i64 k ∧ s = .string (textB (L.take k)) ∧ wr = w)
  case atStart => exact ⟨0, by omega, by omega, rfl, rfl, rfl⟩
  case round =>
    obtain ⟨k, hgk, hkl, rfl, rfl, rfl⟩ := hrel
    by_cases hkk : k < L.length
    · have hkI : (k : Int) < L.length := by omega
      obtain ⟨b, off, rfl, hc⟩ := hR.at hkk
      have htk := textB_take L k hkk
      have hle := textL_take_le L (k + 1)
      rw [textL_take L k hkk] at hle
      simp only [List.length_append, List.length_cons, List.length_nil] at hle
      have hsz : (textB (L.take k)).size = (textL (L.take k)).length := by unfold textB; rfl
      generalize L.getD k ByteArray.empty = s at hc htk hle
      have hss : s.data.toList.length = s.size := rfl
      have hA : Hid (gk = L.length - k ∧ textB (L.take k) ++ s ++ ⟨#[10]⟩ = textB (L.take (k + 1))) := ⟨hgk, htk⟩
      clear hgk htk
      go_wp2_with fail
      go_roundg (L.length - (k + 1))
      · exact ⟨k + 1, rfl, by omega, by push_cast; rfl, by rw [hA.out.2], rfl⟩
      · have := hA.out.1; omega
    · obtain rfl : k = L.length := by omega
      go_wp2
      go_ret
      refine ⟨?_, rfl⟩
      show Ending.returned (.string (textB (L.take L.length))) = _
      rw [List.take_length]
end Go.Proofs.YtcclgodahlinbaaGreatDoor

namespace Go.Proofs.YtcclgodahlinbaaGreatDoor
open Go.RowKit Go
set_option maxRecDepth 100000

theorem index_nl : ∀ (a r : List UInt8), (10 : UInt8) ∉ a → Lib.index (a ++ 10 :: r) [10] = (a.length : Int)
  | [], r, _ => by rw [List.nil_append, Lib.index]; simp [List.isPrefixOf]
  | b :: a, r, h => by
    have hb : b ≠ 10 := by intro e; exact h (by simp [e])
    have ih := index_nl a r (fun e => h (List.mem_cons_of_mem _ e))
    have hp : ([10] : List UInt8).isPrefixOf (b :: (a ++ 10 :: r)) = false := by simp [List.isPrefixOf, Ne.symm hb]
    rw [List.cons_append, Lib.index, hp, ih]
    simp
theorem index_none : ∀ (a : List UInt8), (10 : UInt8) ∉ a → Lib.index a [10] = -1
  | [], _ => by simp [Lib.index]
  | b :: a, h => by
    have hb : b ≠ 10 := by intro e; exact h (by simp [e])
    have ih := index_none a (fun e => h (List.mem_cons_of_mem _ e))
    have hp : ([10] : List UInt8).isPrefixOf (b :: a) = false := by simp [List.isPrefixOf, Ne.symm hb]
    rw [Lib.index, hp, ih]
    simp

/-- lines with signs between them alone -/
def joinL : List (List UInt8) → List UInt8
  | [] => []
  | [a] => a
  | a :: b :: l => a ++ 10 :: joinL (b :: l)
theorem joinL_count : ∀ (L : List (List UInt8)), (∀ a ∈ L, (10 : UInt8) ∉ a) → L ≠ [] → (joinL L).count 10 + 1 = L.length
  | [], _, h => absurd rfl h
  | [a], h, _ => by simp [joinL, List.count_eq_zero.2 (h a (by simp))]
  | a :: b :: l, h, _ => by
    have ih := joinL_count (b :: l) (fun x hx => h x (List.mem_cons_of_mem _ hx)) (by simp)
    rw [joinL, List.count_append, List.count_cons_self, List.count_eq_zero.2 (h a (by simp))]
    simp only [List.length_cons] at ih ⊢
    omega
theorem splitK_join : ∀ (L : List (List UInt8)), (∀ a ∈ L, (10 : UInt8) ∉ a) → L ≠ [] → ∀ k, k + 1 = L.length → Lib.splitK [10] 0 k (joinL L) = L
  | [], _, h, _, _ => absurd rfl h
  | [a], _, _, k, hk => by
    obtain rfl : k = 0 := by simpa using hk
    rfl
  | a :: b :: l, h, _, k, hk => by
    cases k with
    | zero => simp at hk
    | succ k =>
      have ih := splitK_join (b :: l) (fun x hx => h x (List.mem_cons_of_mem _ hx)) (by simp) k (by simpa using hk)
      have hi := index_nl a (joinL (b :: l)) (h a (by simp))
      rw [joinL, Lib.splitK, hi, if_neg (by simp)]
      have e1 : (a ++ 10 :: joinL (b :: l)).take (((a.length : Int)).toNat + 0) = a := by simp
      have e2 : (a ++ 10 :: joinL (b :: l)).drop (((a.length : Int)).toNat + [(10 : UInt8)].length) = joinL (b :: l) := by
        rw [Int.toNat_natCast, List.drop_append, List.drop_eq_nil_of_le (by simp)]
        simp
      rw [e1, e2, ih]
theorem textL_join : ∀ (L : List ByteArray), L ≠ [] → textL L = joinL (L.map (·.data.toList)) ++ [10]
  | [], h => absurd rfl h
  | [a], _ => by simp [textL, joinL]
  | a :: b :: l, _ => by
    have ih := textL_join (b :: l) (by simp)
    have e : textL (a :: b :: l) = (a.data.toList ++ [10]) ++ textL (b :: l) := rfl
    rw [e, ih]
    simp [joinL]
theorem bytes_inj {a b : List ByteArray} (h : a.map (·.data.toList) = b.map (·.data.toList)) : a = b := by
  refine List.map_inj_right (f := fun s : ByteArray => s.data.toList) ?_ |>.1 h
  intro x y e
  apply ByteArray.ext
  exact Array.toList_inj.1 e
/-- no sign of a line's end -/
def Plain (L : List ByteArray) : Prop := ∀ s ∈ L, (10 : UInt8) ∉ s.data.toList
theorem linesB_text {L : List ByteArray} (h : Plain L) : linesB (textB L) = L := by
  by_cases h0 : L = []
  · subst h0; simp [linesB, textB, textL]
  · have hj := textL_join L h0
    have hne : (textB L).toList.isEmpty = false := by
      unfold textB
      rw [hj]
      simp
    have ht : trimB (textB L) = ⟨(joinL (L.map (·.data.toList))).toArray⟩ := by
      unfold trimB textB Lib.trimSuffix Lib.hasSuffix
      simp only [hj]
      rw [if_pos (by simp)]
      simp
    unfold linesB
    rw [hne, if_neg (by simp), ht]
    apply bytes_inj
    have hP : ∀ a ∈ L.map (·.data.toList), (10 : UInt8) ∉ a := by
      intro a ha
      obtain ⟨s, hs, rfl⟩ := List.mem_map.1 ha
      exact h s hs
    have hc := joinL_count _ hP (by simp [h0])
    rw [Lib.splitB_data]
    have e3 : Lib.countB ⟨(joinL (L.map (·.data.toList))).toArray⟩ nl = (joinL (L.map (·.data.toList))).count 10 := by
      show Lib.count _ _ = _
      exact Lib.count_one 10 _
    rw [e3]
    exact splitK_join _ hP (by simp [h0]) _ hc
theorem textL_count {L : List ByteArray} (h : Plain L) : (textL L).count 10 = L.length := by
  by_cases h0 : L = []
  · subst h0; rfl
  · have hP : ∀ a ∈ L.map (·.data.toList), (10 : UInt8) ∉ a := by
      intro a ha
      obtain ⟨s, hs, rfl⟩ := List.mem_map.1 ha
      exact h s hs
    have hc := joinL_count _ hP (by simp [h0])
    rw [textL_join L h0, List.count_append]
    simp at hc ⊢
    omega
theorem isTextB_text (L : List ByteArray) : isTextB (textB L) = true := by
  by_cases h0 : L = []
  · subst h0; simp [isTextB, textB, textL]
  · unfold isTextB textB Lib.hasSuffix
    simp only [textL_join L h0]
    simp
theorem largeB_text {L : List ByteArray} (h : Plain L) (h1 : L.length ≤ 200) (h2 : (textL L).length ≤ 8000) : largeB (textB L) = false := by
  have e1 : (textB L).size = (textL L).length := rfl
  have e2 : Lib.countByte (textB L).data.toList 10 = L.length := textL_count h
  unfold largeB
  rw [e1, e2]
  simp
  omega
theorem checkB_text {L R : List ByteArray} {c : Nat} (h : Plain L) (h1 : L.length ≤ 200) (h2 : (textL L).length ≤ 8000) (g : Plain R) (g1 : R.length ≤ 200) (g2 : (textL R).length ≤ 8000) (hc : c ≤ 10) : checkB (textB L) (textB R) c = 0 := by
  unfold checkB
  rw [isTextB_text, isTextB_text, largeB_text h h1 h2, largeB_text g g1 g2]
  simp
  omega
end Go.Proofs.YtcclgodahlinbaaGreatDoor

namespace Go.Proofs.YtcclgodahlinbaaGreatDoor
open Go.RowKit Go
set_option maxRecDepth 100000

theorem diff_at {old fresh : ByteArray} {c : Nat} {m : Int} {w : World} (hch : checkB old fresh c = 0) (h1 : old.size < 4294967281) (h2 : fresh.size < 4294967281) (hm : w.cell? ⟨0, 0, none⟩ = some (.int .i64 m)) :
    Calls Tryz.prog 12 #[.string old, .string fresh, .int .i64 c] w fun e w' =>
      ∃ a cap, e = .returned (.tuple #[.agg #[.slice a (diffM old fresh c).length cap], .int .i64 0]) ∧ HunksAt w'.heap.size w' (.slice a (diffM old fresh c).length cap) (diffM old fresh c) ∧ Below w.heap.size w w' := by
  refine (diff_ok hch h1 h2 hm).mono ?_
  rintro e w' ⟨v, rfl, hv, hso, hmap, hb⟩
  have hH := HunksAt.of_owns hso
  rw [hmap] at hH
  obtain ⟨a, cap, rfl⟩ := hH.slice
  exact ⟨a, cap, rfl, hH, hb⟩

/-- seams in memory -/
def SeamsAt (w : World) (v : Value) (l : List SeamM) : Prop := (l = [] ∧ ∃ a c, v = .slice a 0 c) ∨ ∃ g cap, v = .slice (some ⟨g, 0, none⟩) l.length cap ∧ g < w.heap.size ∧
  ∀ i (h : i < l.length), w.cell? ⟨g, i * 3, none⟩ = some (.bool l[i].done) ∧ w.cell? ⟨g, i * 3 + 1, none⟩ = some (.int .i64 l[i].at') ∧ w.cell? ⟨g, i * 3 + 2, none⟩ = some (.int .i64 (l[i].fz : Nat))
theorem seamCells_length (l : List SeamM) : (seamCells l).length = l.length * 3 := by
  induction l with
  | nil => rfl
  | cons a l ih => have e : seamCells (a :: l) = [.bool a.done, .int .i64 a.at', .int .i64 (a.fz : Nat)] ++ seamCells l := rfl
                   rw [e, List.length_append, ih]; simp; omega
theorem seamCells_get (l : List SeamM) : ∀ i (h : i < l.length), (seamCells l)[i * 3]? = some (.bool l[i].done) ∧ (seamCells l)[i * 3 + 1]? = some (.int .i64 l[i].at') ∧ (seamCells l)[i * 3 + 2]? = some (.int .i64 (l[i].fz : Nat)) := by
  induction l with
  | nil => intro i h; simp at h
  | cons a l ih =>
    intro i h
    have e : seamCells (a :: l) = [.bool a.done, .int .i64 a.at', .int .i64 (a.fz : Nat)] ++ seamCells l := rfl
    rw [e]
    cases i with
    | zero => exact ⟨rfl, rfl, rfl⟩
    | succ i =>
      have := ih i (by simpa using h)
      refine ⟨?_, ?_, ?_⟩
      · rw [List.getElem?_append_right (by simp; omega)]
        simpa [Nat.succ_mul, show (i + 1) * 3 - 3 = i * 3 by omega] using this.1
      · rw [List.getElem?_append_right (by simp; omega)]
        simpa [show (i + 1) * 3 + 1 - 3 = i * 3 + 1 by omega] using this.2.1
      · rw [List.getElem?_append_right (by simp; omega)]
        simpa [show (i + 1) * 3 + 2 - 3 = i * 3 + 2 by omega] using this.2.2
theorem SeamsAt.of_owns {base : Nat} {w : World} {v : Value} {l : List SeamM} (h : w.ownsRow base 63 3 v l.length (seamCells l)) : SeamsAt w v l := by
  rcases h.2 with ⟨e, h0⟩ | ⟨g, cap, cur, e, _, hg, h1, h2, h3, h4⟩
  · exact .inl ⟨List.eq_nil_of_length_eq_zero h0, _, _, e⟩
  · refine .inr ⟨g, cap, e, (Array.getElem?_eq_some_iff.1 hg).1, fun i hi => ?_⟩
    have hget := seamCells_get l i hi
    have key : ∀ j v, (seamCells l)[j]? = some v → w.cell? ⟨g, j, none⟩ = some v := by
      intro j v hj
      rw [← h4, List.getElem?_take] at hj
      split at hj
      · exact cell_of hg (by simpa using hj)
      · cases hj
    exact ⟨key _ _ hget.1, key _ _ hget.2.1, key _ _ hget.2.2⟩

theorem applyS_length {T : List ByteArray} {fz : Nat} {hs : List HunkM} (hh : ∀ h ∈ hs, HunkOk h) (hT : T.length ≤ 40000) (hx : (textL T).length ≤ 10000) : (applyS T fz hs).length = hs.length := (applyK_ok hh hT hx hs.length (Nat.le_refl _)).2

theorem apply_at {s : ByteArray} {hs : List HunkM} {fz : Nat} {a : Option Addr} {cap : Nat} {m : Int} {w : World} (h1 : isTextB s = true) (h2 : largeB s = false) (hf : fz ≤ 10)
    (hH : HunksAt w.heap.size w (.slice a hs.length cap) hs) (hok : rightM 0 0 hs = true) (hL : hs.length ≤ 1000) (hsz : s.size < 4294967281) (hm : w.cell? ⟨0, 0, none⟩ = some (.int .i64 m)) (hm0 : 0 < w.heap.size)
    (hh : ∀ h ∈ hs, HunkOk h) (hT : (linesB s).length ≤ 40000) (hx : (textL (linesB s)).length ≤ 10000) :
    Calls Tryz.prog 14 #[.string s, .agg #[.slice a hs.length cap], .int .i64 fz] w fun e w' =>
      ∃ a' c', e = .returned (.tuple #[.string (applyT (linesB s) fz hs), .slice a' hs.length c', .int .i64 0]) ∧ SeamsAt w' (.slice a' hs.length c') (applyS (linesB s) fz hs) ∧ Below w.heap.size w w' := by
  have hl := applyS_length (fz := fz) hh hT hx
  refine (apply_ok h1 h2 hf hH hok hL hsz hm hm0 hh hT hx).mono ?_
  rintro e w' ⟨v, rfl, hown, hb⟩
  obtain ⟨a', c', rfl⟩ := owns_isSlice hown
  rw [← hl] at hown
  have := SeamsAt.of_owns hown
  rw [hl] at this
  exact ⟨a', c', rfl, this, hb⟩

/-- hunks and texts, ready to be reckoned -/
def hunkOkB (h : HunkM) : Bool := h.lines.all (fun x => x.kind == 32 || x.kind == 45 || x.kind == 43) && decide (h.lines.length ≤ 1000) && decide (h.fr ≤ 40000) && decide (min h.fc 1 ≤ h.fr) && decide ((textL (Dn.newOf h.lines)).length ≤ 10000)
theorem hunkOk_of {h : HunkM} (e : hunkOkB h = true) : HunkOk h := by
  unfold hunkOkB at e
  simp only [Bool.and_eq_true, decide_eq_true_eq, List.all_eq_true, Bool.or_eq_true, beq_iff_eq] at e
  exact ⟨fun x hx => by have := e.1.1.1.1 x hx; omega, e.1.1.1.2, e.1.1.2, e.1.2, e.2⟩
/-- everything that Apply asks of a text and hunks, as one bool -/
def applyOkB (s : ByteArray) (hs : List HunkM) : Bool := isTextB s && !(largeB s) && rightM 0 0 hs && decide (hs.length ≤ 1000) && decide (s.size ≤ 8000) && hs.all hunkOkB && decide ((linesB s).length ≤ 40000) && decide ((textL (linesB s)).length ≤ 10000)
theorem apply_of {s : ByteArray} {hs : List HunkM} {fz : Nat} {a : Option Addr} {cap : Nat} {m : Int} {w : World} (hok : applyOkB s hs = true) (hf : fz ≤ 10) (hH : HunksAt w.heap.size w (.slice a hs.length cap) hs) (hm : w.cell? ⟨0, 0, none⟩ = some (.int .i64 m)) (hm0 : 0 < w.heap.size) :
    Calls Tryz.prog 14 #[.string s, .agg #[.slice a hs.length cap], .int .i64 fz] w fun e w' =>
      ∃ a' c', e = .returned (.tuple #[.string (applyT (linesB s) fz hs), .slice a' hs.length c', .int .i64 0]) ∧ SeamsAt w' (.slice a' hs.length c') (applyS (linesB s) fz hs) ∧ Below w.heap.size w w' := by
  unfold applyOkB at hok
  simp only [Bool.and_eq_true, decide_eq_true_eq, List.all_eq_true, Bool.not_eq_true'] at hok
  obtain ⟨⟨⟨⟨⟨⟨⟨h1, h2⟩, h3⟩, h4⟩, h5⟩, h6⟩, h7⟩, h8⟩ := hok
  exact apply_at h1 h2 hf hH h3 h4 (by omega) hm hm0 (fun h hh => hunkOk_of (h6 h hh)) h7 h8
end Go.Proofs.YtcclgodahlinbaaGreatDoor

namespace Go.Proofs.YtcclgodahlinbaaGreatDoor
open Go.RowKit Go
set_option maxRecDepth 100000

def awA : ByteArray := ⟨#[97, 10, 98, 10, 99, 10, 100, 10]⟩
def awB : ByteArray := ⟨#[97, 10, 120, 10, 99, 10, 100, 10]⟩
def awC : ByteArray := ⟨#[110, 10, 97, 10, 98, 10, 99, 10, 100, 10]⟩
def awD : ByteArray := ⟨#[110, 10, 97, 10, 120, 10, 99, 10, 100, 10]⟩
def awH : HunkM := ⟨1, 3, 1, 3, [⟨32, ⟨#[97]⟩⟩, ⟨45, ⟨#[98]⟩⟩, ⟨43, ⟨#[120]⟩⟩, ⟨32, ⟨#[99]⟩⟩]⟩
theorem aw_check : checkB awA awB (1 : Nat) = 0 := by kernel_rfl
theorem aw_diff : diffM awA awB 1 = [awH] := by kernel_rfl
theorem aw_ok : applyOkB awC [awH] = true := by kernel_rfl
theorem aw_text : applyT (linesB awC) 0 [awH] = awD := by kernel_rfl
theorem aw_seams : applyS (linesB awC) 0 [awH] = [⟨true, 1, 0⟩] := by kernel_rfl

set_option maxHeartbeats 2000000 in
theorem awake_any {m : Int} {w : World} (hm : w.cell? ⟨0, 0, none⟩ = some (.int .i64 m)) (hm0 : 0 < w.heap.size) :
    Calls Tryz.prog 9 #[] w fun e w' => e = .returned (.bool true) ∧ Below w.heap.size w w' := by
  have hd := diff_at (c := 1) (w := w) aw_check (by decide) (by decide) hm
  rw [aw_diff] at hd
  have hd' : Calls Tryz.prog 12 #[.string ⟨#[97, 10, 98, 10, 99, 10, 100, 10]⟩, .string ⟨#[97, 10, 120, 10, 99, 10, 100, 10]⟩, .int .i64 1] w fun e w' =>
      ∃ a cap, e = .returned (.tuple #[.agg #[.slice a 1 cap], .int .i64 0]) ∧ HunksAt w'.heap.size w' (.slice a 1 cap) [awH] ∧ Below w.heap.size w w' := hd
  clear hd
  go_enter Tryz.func9, Tryz.ntmps9
  go_wp2_with fail
  refine hd'.mono ?_
  clear hd'
  rintro e w1 ⟨a, cap, rfl, hH, b1⟩
  have hz1 := b1.size
  go_wp2_with fail
  have hb2 := (Below.refl w1.heap.size w1).alloc (Nat.le_refl _) (.cells #[.slice a 1 cap] 32)
  have hp2 := heap_alloc_new w1 (.cells #[.slice a 1 cap] 32)
  have z2 : (w1.alloc (.cells #[.slice a 1 cap] 32)).heap.size = w1.heap.size + 1 := by simp
  generalize w1.alloc (.cells #[.slice a 1 cap] 32) = W2 at hb2 hp2 z2 ⊢
  have hH2 := (hH.below hb2).mono hb2.size
  have hm2 := (hb2.cell (p := ⟨0, 0, none⟩) (by show 0 < _; omega)).trans ((b1.cell (p := ⟨0, 0, none⟩) hm0).trans hm)
  have ha := apply_of (fz := 0) (cap := cap) (a := a) aw_ok (by omega) hH2 hm2 (by omega)
  rw [aw_text, aw_seams] at ha
  have ha' : Calls Tryz.prog 14 #[.string ⟨#[110, 10, 97, 10, 98, 10, 99, 10, 100, 10]⟩, .agg #[.slice a 1 cap], .int .i64 0] W2 fun e w' =>
      ∃ a' c', e = .returned (.tuple #[.string ⟨#[110, 10, 97, 10, 120, 10, 99, 10, 100, 10]⟩, .slice a' 1 c', .int .i64 0]) ∧ SeamsAt w' (.slice a' 1 c') [⟨true, 1, 0⟩] ∧ Below W2.heap.size W2 w' := ha
  clear ha
  refine ha'.mono ?_
  clear ha'
  rintro e w3 ⟨a', c', rfl, hS, b3⟩
  have hp3 := (b3.block w1.heap.size (by omega)).trans hp2
  have hH3 := hH2.below b3
  obtain ⟨b, a'', c'', rfl, hbB, r0, r1, r2, r3, r4, hst⟩ := hH3.at (i := 0) (by decide)
  rcases hS with ⟨e, _⟩ | ⟨g, cs, e, hg, hc⟩
  · cases e
  cases e
  obtain ⟨s0, s1, s2⟩ := hc 0 (by decide)
  have q0 : w3.cell? ⟨w1.heap.size, 0, none⟩ = some (.slice (some ⟨b, 0, none⟩) 1 cap) := cell_of hp3 rfl
  have t0 : w3.cell? ⟨g, 0, none⟩ = some (.bool true) := s0
  have t1 : w3.cell? ⟨g, 1, none⟩ = some (.int .i64 1) := s1
  have t2 : w3.cell? ⟨g, 2, none⟩ = some (.int .i64 0) := s2
  have t4 : w3.cell? ⟨b, 4, none⟩ = some (.slice a'' 4 c'') := r4
  have hfin : Below w.heap.size w w3 := b1.trans ((hb2.mono (by omega)).trans (b3.mono (by omega)))
  clear r0 r1 r2 r3 r4 s0 s1 s2 hc hH hH2 hH3 hst
  go_wp2_with fail
  go_ret
  exact ⟨rfl, hfin⟩
end Go.Proofs.YtcclgodahlinbaaGreatDoor

namespace Dn
section
set_option linter.unusedSectionVars false
variable {α : Type} [DecidableEq α]

/-- a way from a row to another with so many drops and adds: whatever holds of the empty rows and is handed on by a keep, a drop and an add, holds of them -/
def Ed (l r : List α) (k : Nat) : Prop :=
  ∀ P : List α → List α → Nat → Prop, P [] [] 0 → (∀ a l r k, P l r k → P (a :: l) (a :: r) k) → (∀ a l r k, P l r k → P (a :: l) r (k + 1)) → (∀ a l r k, P l r k → P l (a :: r) (k + 1)) → P l r k
theorem Ed.nil : Ed ([] : List α) [] 0 := fun _ h _ _ _ => h
theorem Ed.keep (a : α) (l r : List α) (k : Nat) (h : Ed l r k) : Ed (a :: l) (a :: r) k := fun P p1 p2 p3 p4 => p2 a l r k (h P p1 p2 p3 p4)
theorem Ed.drop (a : α) (l r : List α) (k : Nat) (h : Ed l r k) : Ed (a :: l) r (k + 1) := fun P p1 p2 p3 p4 => p3 a l r k (h P p1 p2 p3 p4)
theorem Ed.add (a : α) (l r : List α) (k : Nat) (h : Ed l r k) : Ed l (a :: r) (k + 1) := fun P p1 p2 p3 p4 => p4 a l r k (h P p1 p2 p3 p4)
theorem Ed.ind {motive : (l r : List α) → (k : Nat) → Ed l r k → Prop} (nil : motive [] [] 0 Ed.nil)
    (keep : ∀ (a : α) (l r : List α) (k : Nat) (h : Ed l r k), motive l r k h → motive (a :: l) (a :: r) k (Ed.keep a l r k h))
    (drop : ∀ (a : α) (l r : List α) (k : Nat) (h : Ed l r k), motive l r k h → motive (a :: l) r (k + 1) (Ed.drop a l r k h))
    (add : ∀ (a : α) (l r : List α) (k : Nat) (h : Ed l r k), motive l r k h → motive l (a :: r) (k + 1) (Ed.add a l r k h)) {l r : List α} {k : Nat} (h : Ed l r k) : motive l r k h :=
  (h (fun l r k => ∃ h : Ed l r k, motive l r k h) ⟨Ed.nil, nil⟩ (fun a l r k ⟨h, p⟩ => ⟨Ed.keep a l r k h, keep a l r k h p⟩) (fun a l r k ⟨h, p⟩ => ⟨Ed.drop a l r k h, drop a l r k h p⟩) (fun a l r k ⟨h, p⟩ => ⟨Ed.add a l r k h, add a l r k h p⟩)).elim fun _ p => p

def distRow (a : α) (prev : List α → Nat) : List α → Nat
  | [] => prev [] + 1
  | b :: r => if a = b then prev r else 1 + min (prev (b :: r)) (distRow a prev r)
def dist : List α → List α → Nat
  | [] => List.length
  | a :: l => distRow a (dist l)

theorem dist_nil_l (r : List α) : dist [] r = r.length := rfl
theorem dist_nil_r (l : List α) : dist l [] = l.length := by
  induction l with
  | nil => rfl
  | cons a l ih => show dist l [] + 1 = _; rw [ih]; rfl
theorem dist_cc (a b : α) (l r : List α) : dist (a :: l) (b :: r) = if a = b then dist l r else 1 + min (dist l (b :: r)) (dist (a :: l) r) := rfl
theorem dist_same (a : α) (l r : List α) : dist (a :: l) (a :: r) = dist l r := by rw [dist_cc, if_pos rfl]
theorem dist_ne {a b : α} (h : a ≠ b) (l r : List α) : dist (a :: l) (b :: r) = 1 + min (dist l (b :: r)) (dist (a :: l) r) := by rw [dist_cc, if_neg h]

theorem dist_comm : ∀ (n : Nat) (l r : List α), l.length + r.length ≤ n → dist l r = dist r l := by
  intro n
  induction n with
  | zero =>
    intro l r h
    have h1 : l = [] := List.eq_nil_of_length_eq_zero (by omega)
    have h2 : r = [] := List.eq_nil_of_length_eq_zero (by omega)
    rw [h1, h2]
  | succ n ih =>
    intro l r h
    cases l with
    | nil => rw [dist_nil_l, dist_nil_r]
    | cons a l =>
      cases r with
      | nil => rw [dist_nil_l, dist_nil_r]
      | cons b r =>
        simp only [List.length_cons] at h
        by_cases e : a = b
        · subst e; rw [dist_same, dist_same]; exact ih _ _ (by omega)
        · rw [dist_ne e, dist_ne (Ne.symm e), ih l (b :: r) (by simp; omega), ih (a :: l) r (by simp; omega)]
          omega

theorem dist_near : ∀ (n : Nat) (l r : List α), l.length + r.length ≤ n → (∀ a, dist (a :: l) r ≤ dist l r + 1) ∧ (∀ b, dist l r ≤ dist l (b :: r) + 1) := by
  intro n
  induction n with
  | zero =>
    intro l r h
    have h1 : l = [] := List.eq_nil_of_length_eq_zero (by omega)
    have h2 : r = [] := List.eq_nil_of_length_eq_zero (by omega)
    subst h1 h2
    simp [dist_nil_l, dist_nil_r]
  | succ n ih =>
    intro l r h
    refine ⟨fun a => ?_, fun b => ?_⟩
    · cases r with
      | nil => rw [dist_nil_r, dist_nil_r]; simp
      | cons b r =>
        simp only [List.length_cons] at h
        by_cases e : a = b
        · subst e
          rw [dist_same]
          exact (ih l r (by omega)).2 a
        · rw [dist_ne e]; omega
    · cases l with
      | nil => rw [dist_nil_l, dist_nil_l]; simp; omega
      | cons c l =>
        simp only [List.length_cons] at h
        by_cases e : c = b
        · subst e
          rw [dist_same]
          exact (ih l r (by omega)).1 c
        · rw [dist_ne e]
          have h1 := (ih l r (by omega)).1 c
          have h2 := (ih l r (by omega)).2 b
          omega
theorem dist_l1 (a : α) (l r : List α) : dist (a :: l) r ≤ dist l r + 1 := (dist_near _ l r (Nat.le_refl _)).1 a
theorem dist_r1 (b : α) (l r : List α) : dist l (b :: r) ≤ dist l r + 1 := by
  rw [dist_comm _ l (b :: r) (Nat.le_refl _), dist_comm _ l r (Nat.le_refl _)]; exact dist_l1 b r l
theorem Ed.dist_le {l r : List α} {k : Nat} (h : Ed l r k) : dist l r ≤ k := by
  induction h using Ed.ind with
  | nil => exact Nat.le_refl _
  | keep a l r k _ ih => rw [dist_same]; exact ih
  | drop a l r k _ ih => have := dist_l1 a l r; omega
  | add a l r k _ ih => have := dist_r1 a l r; omega
theorem Ed.refl (l : List α) : Ed l l 0 := by
  induction l with
  | nil => exact .nil
  | cons a l ih => exact .keep a l l 0 ih
/-- a line more -/
theorem Ed.put {l r : List α} {k : Nat} (h : Ed l r k) (a : α) : ∀ i, i ≤ r.length → Ed l (r.take i ++ a :: r.drop i) (k + 1) := by
  induction h using Ed.ind with
  | nil => intro i hi; simp at hi; subst hi; exact .add a _ _ _ .nil
  | keep b l r k h ih =>
    intro i hi
    cases i with
    | zero => exact .add a _ _ _ (.keep b l r k h)
    | succ i => exact .keep b _ _ _ (ih i (by simpa using hi))
  | drop b l r k h ih => intro i hi; exact .drop b _ _ _ (ih i hi)
  | add b l r k h ih =>
    intro i hi
    cases i with
    | zero => exact .add a _ _ _ (.add b l r k h)
    | succ i => exact .add b _ _ _ (ih i (by simpa using hi))
/-- a line less -/
theorem Ed.cut {l r : List α} {k : Nat} (h : Ed l r k) : ∀ i, i < r.length → ∃ k', k' ≤ k + 1 ∧ Ed l (r.take i ++ r.drop (i + 1)) k' := by
  induction h using Ed.ind with
  | nil => intro i hi; simp at hi
  | keep b l r k h ih =>
    intro i hi
    cases i with
    | zero => exact ⟨k + 1, Nat.le_refl _, .drop b _ _ _ h⟩
    | succ i => obtain ⟨k', hk, he⟩ := ih i (by simpa using hi); exact ⟨k', hk, .keep b _ _ _ he⟩
  | drop b l r k h ih => intro i hi; obtain ⟨k', hk, he⟩ := ih i hi; exact ⟨k' + 1, by omega, .drop b _ _ _ he⟩
  | add b l r k h ih =>
    intro i hi
    cases i with
    | zero => exact ⟨k, by omega, h⟩
    | succ i => obtain ⟨k', hk, he⟩ := ih i (by simpa using hi); exact ⟨k' + 1, by omega, .add b _ _ _ he⟩

variable (o f : List α)
def rd (x y : Nat) : Nat := dist (o.drop x) (f.drop y)
theorem rd_same {x y : Nat} (h : same o f x y = true) : rd o f x y = rd o f (x + 1) (y + 1) := by
  obtain ⟨hx, hy⟩ := same_lt o f h
  unfold same at h
  simp only [decide_eq_true_eq] at h
  have e := h.2.2
  unfold rd
  rw [List.drop_eq_getElem_cons hx, List.drop_eq_getElem_cons hy]
  rw [List.getElem?_eq_getElem hx, List.getElem?_eq_getElem hy] at e
  rw [Option.some.inj e, dist_same]
theorem rd_ne {x y : Nat} (h : same o f x y = false) (hx : x < o.length) (hy : y < f.length) : rd o f x y = 1 + min (rd o f (x + 1) y) (rd o f x (y + 1)) := by
  unfold same at h
  simp only [decide_eq_false_iff_not, not_and] at h
  have e := h hx hy
  unfold rd
  rw [List.drop_eq_getElem_cons hx, List.drop_eq_getElem_cons hy]
  rw [List.getElem?_eq_getElem hx, List.getElem?_eq_getElem hy] at e
  rw [dist_ne (fun e' => e (by rw [e']))]
theorem rd_endx {y : Nat} (hy : y < f.length) : rd o f o.length y = 1 + rd o f o.length (y + 1) := by
  unfold rd; rw [List.drop_length, dist_nil_l, dist_nil_l]; simp; omega
theorem rd_endy {x : Nat} (hx : x < o.length) : rd o f x f.length = 1 + rd o f (x + 1) f.length := by
  unfold rd; rw [List.drop_length, dist_nil_r, dist_nil_r]; simp; omega

/-- what it takes to be led to a place -/
def Cost (st : Srch) (G : Nat → Nat → Nat) (x y kind c : Nat) : Prop :=
  (kind = 46 ∧ x = 0 ∧ y = 0 ∧ c = 0) ∨
  (kind = 32 ∧ 0 < x ∧ 0 < y ∧ st.at f.length (x - 1) (y - 1) ≠ 0 ∧ c = G (x - 1) (y - 1)) ∨
  (kind = 45 ∧ 0 < x ∧ st.at f.length (x - 1) y ≠ 0 ∧ c = G (x - 1) y + 1) ∨
  (kind = 43 ∧ 0 < y ∧ st.at f.length x (y - 1) ≠ 0 ∧ c = G x (y - 1) + 1)
def Near (st : Srch) (G : Nat → Nat → Nat) (x y c : Nat) : Prop := (st.at f.length x y ≠ 0 ∧ G x y ≤ c) ∨ ∃ s ∈ st.op, s.x = x ∧ s.y = y ∧ s.far ≤ c
def NextG (st : Srch) (G : Nat → Nat → Nat) (x y : Nat) : Prop :=
  if same o f x y = true then Near f st G (x + 1) (y + 1) (G x y)
  else (x < o.length → Near f st G (x + 1) y (G x y + 1)) ∧ (y < f.length → Near f st G x (y + 1) (G x y + 1))
structure InvG (D : Nat) (hole : Option (Nat × Nat)) (st : Srch) (G : Nat → Nat → Nat) : Prop where
  heap : heapL st.op
  mono : ∀ x y, x ≤ o.length → y ≤ f.length → st.at f.length x y ≠ 0 → ∀ s ∈ st.op, G x y ≤ s.far
  spots : ∀ s ∈ st.op, Cost f st G s.x s.y s.kind s.far
  known : ∀ x y, x ≤ o.length → y ≤ f.length → st.at f.length x y ≠ 0 → Cost f st G x y (st.at f.length x y) (G x y)
  start : Near f st G 0 0 0
  next : ∀ x y, x ≤ o.length → y ≤ f.length → st.at f.length x y ≠ 0 → hole ≠ some (x, y) → NextG o f st G x y
  top : ∀ x y, x ≤ o.length → y ≤ f.length → st.at f.length x y ≠ 0 → G x y ≤ D

theorem good_from {D : Nat} {st : Srch} {G : Nat → Nat → Nat} (h : InvG o f D none st G) (he : st.at f.length o.length f.length = 0) :
    ∀ k x y, x ≤ o.length → y ≤ f.length → (o.length - x) + (f.length - y) = k → st.at f.length x y ≠ 0 → G x y + rd o f x y ≤ D → ∃ s ∈ st.op, s.far ≤ D := by
  intro k
  induction k using Nat.strongRecOn with
  | ind k ih =>
    intro x y hx hy hk hr hD
    have hn := h.next x y hx hy hr (by simp)
    have go : ∀ x' y' c, x' ≤ o.length → y' ≤ f.length → (o.length - x') + (f.length - y') < k → c + rd o f x' y' ≤ D → Near f st G x' y' c → ∃ s ∈ st.op, s.far ≤ D := by
      intro x' y' c hx' hy' hlt hc hnear
      rcases hnear with ⟨h1, h2⟩ | ⟨s, hs, _, _, h2⟩
      · exact ih _ hlt x' y' hx' hy' rfl h1 (by omega)
      · exact ⟨s, hs, by omega⟩
    unfold NextG at hn
    split at hn
    · rename_i hs
      have hlt := same_lt o f hs
      exact go _ _ _ (by omega) (by omega) (by omega) (by rw [← rd_same o f hs]; exact hD) hn
    · rename_i hs
      have hs' : same o f x y = false := by simpa using hs
      by_cases ex : x < o.length
      · by_cases ey : y < f.length
        · have e := rd_ne o f hs' ex ey
          by_cases hm : rd o f (x + 1) y ≤ rd o f x (y + 1)
          · exact go _ _ _ (by omega) (by omega) (by omega) (by omega) (hn.1 ex)
          · exact go _ _ _ (by omega) (by omega) (by omega) (by omega) (hn.2 ey)
        · obtain rfl : y = f.length := by omega
          have e := rd_endy o f ex
          exact go _ _ _ (by omega) (by omega) (by omega) (by omega) (hn.1 ex)
      · obtain rfl : x = o.length := by omega
        by_cases ey : y < f.length
        · have e := rd_endx o f ey
          exact go _ _ _ (by omega) (by omega) (by omega) (by omega) (hn.2 ey)
        · obtain rfl : y = f.length := by omega
          exact absurd he hr
theorem good {st : Srch} {G : Nat → Nat → Nat} (h : InvG o f (dist o f) none st G) (he : st.at f.length o.length f.length = 0) : ∃ s ∈ st.op, s.far ≤ dist o f := by
  rcases h.start with ⟨h1, h2⟩ | ⟨s, hs, _, _, h2⟩
  · exact good_from o f h he _ 0 0 (by omega) (by omega) rfl h1 (by unfold rd; simp; omega)
  · exact ⟨s, hs, by omega⟩

theorem Near.push {st : Srch} {G : Nat → Nat → Nat} {x y c : Nat} (h : Near f st G x y c) (s : Spot) (t : Nat) : Near f { op := pushM st.op s, turns := t, led := st.led } G x y c := by
  rcases h with h | ⟨q, hq, e⟩
  · exact .inl h
  · exact .inr ⟨q, (pushM_perm st.op s).mem_iff.2 (by simp [hq]), e⟩
theorem InvG.push {D : Nat} {hole : Option (Nat × Nat)} {st : Srch} {G : Nat → Nat → Nat} (h : InvG o f D hole st G) (s : Spot) (t : Nat) (hc : Cost f st G s.x s.y s.kind s.far)
    (hm : ∀ x y, x ≤ o.length → y ≤ f.length → st.at f.length x y ≠ 0 → G x y ≤ s.far) : InvG o f D hole { op := pushM st.op s, turns := t, led := st.led } G := by
  have hmem : ∀ q, q ∈ pushM st.op s ↔ q ∈ st.op ∨ q = s := by intro q; rw [(pushM_perm st.op s).mem_iff]; simp
  refine ⟨push_heap h.heap s, ?_, ?_, h.known, h.start.push f s t, ?_, h.top⟩
  · intro x y hx hy hr q hq
    rcases (hmem q).1 hq with hq | rfl
    · exact h.mono x y hx hy hr q hq
    · exact hm x y hx hy hr
  · intro q hq
    rcases (hmem q).1 hq with hq | rfl
    · exact h.spots q hq
    · exact hc
  · intro x y hx hy hr hh
    have := h.next x y hx hy hr hh
    unfold NextG at *
    split at this
    · rename_i hs; rw [if_pos hs]; exact this.push f s t
    · rename_i hs; rw [if_neg hs]; exact ⟨fun a => (this.1 a).push f s t, fun a => (this.2 a).push f s t⟩
theorem InvG.change {D : Nat} {hole : Option (Nat × Nat)} {st : Srch} {G : Nat → Nat → Nat} (h : InvG o f D hole st G) (p : Spot) (dx dy kind : Nat) (hc : Cost f st G (p.x + dx) (p.y + dy) kind (p.far + 1))
    (hx : p.x + dx ≤ o.length) (hy : p.y + dy ≤ f.length) (hm : ∀ x y, x ≤ o.length → y ≤ f.length → st.at f.length x y ≠ 0 → G x y ≤ p.far) :
    InvG o f D hole (changeM f.length st p dx dy kind) G ∧ Near f (changeM f.length st p dx dy kind) G (p.x + dx) (p.y + dy) (p.far + 1) ∧ (changeM f.length st p dx dy kind).led = st.led ∧
      ∀ x y c, Near f st G x y c → Near f (changeM f.length st p dx dy kind) G x y c := by
  unfold changeM
  split
  · refine ⟨h.push o f _ _ hc (fun x y a b c => Nat.le_succ_of_le (hm x y a b c)), .inr ⟨⟨p.x + dx, p.y + dy, p.far + 1, st.turns + 1, kind⟩, (pushM_perm st.op _).mem_iff.2 (by simp), rfl, rfl, Nat.le_refl _⟩, rfl, fun x y c hn => hn.push f _ _⟩
  · rename_i h0
    exact ⟨h, .inl ⟨h0, Nat.le_succ_of_le (hm _ _ hx hy h0)⟩, rfl, fun _ _ _ hn => hn⟩

theorem InvG.round {st : Srch} {G : Nat → Nat → Nat} (hi : Inv o f st) (h : InvG o f (dist o f) none st G) (he : st.at f.length o.length f.length = 0) : ∃ G', InvG o f (dist o f) none (roundM o f st) G' := by
  have hne := hi.open_ne he
  have hperm := pop_perm st.op hne
  have hmem : ∀ q, q ∈ st.op ↔ q ∈ popR st.op ∨ q = popS st.op := by intro q; rw [← hperm.mem_iff]; simp
  obtain ⟨hh, _, hmin⟩ := pop_heap h.heap hne
  have hmin' : ∀ s ∈ st.op, (popS st.op).far ≤ s.far := by
    intro s hs
    have := hmin s hs
    unfold Spot.lt at this
    omega
  obtain ⟨px, py, _, _, pl⟩ := hi.spots _ ((hmem _).2 (.inr rfl))
  have pc := h.spots _ ((hmem _).2 (.inr rfl))
  have pD : (popS st.op).far ≤ dist o f := by
    obtain ⟨s, hs, h1⟩ := good o f h he
    have := hmin' s hs
    omega
  have pm : ∀ x y, x ≤ o.length → y ≤ f.length → st.at f.length x y ≠ 0 → G x y ≤ (popS st.op).far := fun x y a b c => h.mono x y a b c _ ((hmem _).2 (.inr rfl))
  unfold roundM settleM
  simp only
  generalize hs : popS st.op = s at *
  have hat : ∀ x y, Srch.at { op := popR st.op, turns := st.turns, led := st.led } f.length x y = st.at f.length x y := fun _ _ => rfl
  rw [hat]
  split
  · rename_i h0
    have hset := fun x y (hy : y ≤ f.length) => at_set (st := st) (n := o.length) (m := f.length) (x0 := s.x) (y0 := s.y) (x := x) (y := y) (k := s.kind) hi.len px py hy (popR st.op) st.turns
    refine ⟨fun x y => if x = s.x ∧ y = s.y then s.far else G x y, ?_⟩
    generalize hG : (fun x y => if x = s.x ∧ y = s.y then s.far else G x y) = G'
    have hG1 : G' s.x s.y = s.far := by rw [← hG]; simp
    have hG2 : ∀ x y, ¬ (x = s.x ∧ y = s.y) → G' x y = G x y := by intro x y hn; rw [← hG]; simp only; rw [if_neg hn]
    have hG3 : ∀ x y, st.at f.length x y ≠ 0 → G' x y = G x y := by
      intro x y hr
      refine hG2 x y ?_
      rintro ⟨rfl, rfl⟩
      exact hr h0
    have hmono : ∀ x y, y ≤ f.length → st.at f.length x y ≠ 0 → Srch.at { op := popR st.op, turns := st.turns, led := st.led.set (idx f.length s.x s.y) s.kind } f.length x y ≠ 0 := by
      intro x y hy hr
      rw [hset x y hy]
      split
      · exact pl.pos
      · exact hr
    have hcost : ∀ x y k c, y ≤ f.length → Cost f st G x y k c → Cost f { op := popR st.op, turns := st.turns, led := st.led.set (idx f.length s.x s.y) s.kind } G' x y k c := by
      intro x y k c hy hc
      rcases hc with hc | ⟨h1, h2, h3, h4, h5⟩ | ⟨h1, h2, h3, h4⟩ | ⟨h1, h2, h3, h4⟩
      · exact .inl hc
      · exact .inr (.inl ⟨h1, h2, h3, hmono _ _ (by omega) h4, by rw [hG3 _ _ h4]; exact h5⟩)
      · exact .inr (.inr (.inl ⟨h1, h2, hmono _ _ hy h3, by rw [hG3 _ _ h3]; exact h4⟩))
      · exact .inr (.inr (.inr ⟨h1, h2, hmono _ _ (by omega) h3, by rw [hG3 _ _ h3]; exact h4⟩))
    have hnear : ∀ x y c, y ≤ f.length → Near f st G x y c → Near f { op := popR st.op, turns := st.turns, led := st.led.set (idx f.length s.x s.y) s.kind } G' x y c := by
      intro x y c hy hn
      rcases hn with ⟨h1, h2⟩ | ⟨q, hq, e1, e2, e3⟩
      · exact .inl ⟨hmono x y hy h1, by rw [hG3 _ _ h1]; exact h2⟩
      · by_cases e : x = s.x ∧ y = s.y
        · left
          obtain ⟨rfl, rfl⟩ := e
          refine ⟨by rw [hset _ _ hy, if_pos ⟨rfl, rfl⟩]; exact pl.pos, ?_⟩
          rw [hG1]
          have := hmin' q hq
          omega
        · rcases (hmem q).1 hq with hq | rfl
          · exact .inr ⟨q, hq, e1, e2, e3⟩
          · exact absurd ⟨e1.symm, e2.symm⟩ e
    have hGle : ∀ x y, x ≤ o.length → y ≤ f.length → Srch.at { op := popR st.op, turns := st.turns, led := st.led.set (idx f.length s.x s.y) s.kind } f.length x y ≠ 0 → G' x y ≤ s.far := by
      intro x y hx hy hr
      by_cases e : x = s.x ∧ y = s.y
      · rw [e.1, e.2, hG1]; exact Nat.le_refl _
      · rw [hset x y hy, if_neg e] at hr
        rw [hG2 x y e]
        exact pm x y hx hy hr
    have hhere : Srch.at { op := popR st.op, turns := st.turns, led := st.led.set (idx f.length s.x s.y) s.kind } f.length s.x s.y ≠ 0 := by rw [hset _ _ py, if_pos ⟨rfl, rfl⟩]; exact pl.pos
    have i0 : InvG o f (dist o f) (some (s.x, s.y)) { op := popR st.op, turns := st.turns, led := st.led.set (idx f.length s.x s.y) s.kind } G' := by
      refine ⟨hh, ?_, ?_, ?_, hnear 0 0 0 (by omega) h.start, ?_, ?_⟩
      · intro x y hx hy hr q hq
        have h1 := hGle x y hx hy hr
        have h2 := hmin' q ((hmem q).2 (.inl hq))
        omega
      · intro q hq
        have hq' := (hmem q).2 (.inl hq)
        exact hcost _ _ _ _ (hi.spots q hq').2.1 (h.spots q hq')
      · intro x y hx hy hr
        by_cases e : x = s.x ∧ y = s.y
        · rw [hset x y hy, if_pos e, e.1, e.2, hG1]
          exact hcost _ _ _ _ py pc
        · rw [hset x y hy, if_neg e] at hr ⊢
          rw [hG2 x y e]
          exact hcost _ _ _ _ hy (h.known x y hx hy hr)
      · intro x y hx hy hr hne'
        have e : ¬ (x = s.x ∧ y = s.y) := by rintro ⟨rfl, rfl⟩; exact hne' rfl
        rw [hset x y hy, if_neg e] at hr
        have := h.next x y hx hy hr (by simp)
        unfold NextG at this ⊢
        rw [hG2 x y e]
        split at this
        · rename_i hs'
          have hlt := same_lt o f hs'
          rw [if_pos hs']
          exact hnear _ _ _ (by omega) this
        · rename_i hs'
          rw [if_neg hs']
          exact ⟨fun a => hnear _ _ _ hy (this.1 a), fun a => hnear _ _ _ (by omega) (this.2 a)⟩
      · intro x y hx hy hr
        have := hGle x y hx hy hr
        omega
    have close : ∀ (S : Srch) (G1 : Nat → Nat → Nat), InvG o f (dist o f) (some (s.x, s.y)) S G1 → NextG o f S G1 s.x s.y → InvG o f (dist o f) none S G1 := by
      intro S G1 hS hN
      refine ⟨hS.heap, hS.mono, hS.spots, hS.known, hS.start, ?_, hS.top⟩
      intro x y hx hy hr _
      by_cases e : x = s.x ∧ y = s.y
      · rw [e.1, e.2]; exact hN
      · exact hS.next x y hx hy hr (by simp only [ne_eq, Option.some.injEq, Prod.mk.injEq]; intro hh; exact e ⟨hh.1.symm, hh.2.symm⟩)
    split
    · rename_i hsame
      refine close _ _ (i0.push o f ⟨s.x + 1, s.y + 1, s.far, s.turn, 32⟩ st.turns (.inr (.inl ⟨rfl, by simp, by simp, by simpa using hhere, by simp [hG1]⟩)) hGle) ?_
      unfold NextG
      rw [if_pos hsame]
      exact .inr ⟨⟨s.x + 1, s.y + 1, s.far, s.turn, 32⟩, (pushM_perm _ _).mem_iff.2 (by simp), rfl, rfl, by rw [hG1]; exact Nat.le_refl _⟩
    · rename_i hsame
      have key : ∃ st2 : Srch, st2 = (if s.x < o.length then changeM f.length { op := popR st.op, turns := st.turns, led := st.led.set (idx f.length s.x s.y) s.kind } s 1 0 45 else { op := popR st.op, turns := st.turns, led := st.led.set (idx f.length s.x s.y) s.kind }) ∧
          InvG o f (dist o f) (some (s.x, s.y)) st2 G' ∧ (s.x < o.length → Near f st2 G' (s.x + 1) s.y (s.far + 1)) ∧ st2.led = st.led.set (idx f.length s.x s.y) s.kind := by
        refine ⟨_, rfl, ?_⟩
        split
        · rename_i hxl
          obtain ⟨a, b, c, _⟩ := i0.change o f s 1 0 45 (.inr (.inr (.inl ⟨rfl, by omega, by simpa using hhere, by simp [hG1]⟩))) (by omega) (by omega) hGle
          exact ⟨a, fun _ => by simpa using b, c⟩
        · exact ⟨i0, fun hh => absurd hh (by assumption), rfl⟩
      obtain ⟨st2, hst2, j1, j2, j3⟩ := key
      rw [← hst2]
      have hat2 : ∀ x y, st2.at f.length x y = Srch.at { op := popR st.op, turns := st.turns, led := st.led.set (idx f.length s.x s.y) s.kind } f.length x y := by intro x y; unfold Srch.at; rw [j3]
      split
      · rename_i hyl
        obtain ⟨a, b, c, d⟩ := j1.change o f s 0 1 43 (.inr (.inr (.inr ⟨rfl, by omega, by rw [hat2]; simpa using hhere, by simp [hG1]⟩))) (by omega) (by omega) (fun x y hx hy hr => hGle x y hx hy (by rw [← hat2]; exact hr))
        refine close _ _ a ?_
        unfold NextG
        rw [if_neg hsame, hG1]
        exact ⟨fun hx => d _ _ _ (j2 hx), fun _ => by simpa using b⟩
      · rename_i hyl
        refine close _ _ j1 ?_
        unfold NextG
        rw [if_neg hsame, hG1]
        exact ⟨j2, fun hy => absurd hy hyl⟩
  · rename_i h0
    refine ⟨G, ?_⟩
    have hnear : ∀ x y c, x ≤ o.length → y ≤ f.length → Near f st G x y c → Near f { op := popR st.op, turns := st.turns, led := st.led } G x y c := by
      intro x y c hx hy hn
      rcases hn with h1 | ⟨q, hq, e1, e2, e3⟩
      · exact .inl h1
      · rcases (hmem q).1 hq with hq' | rfl
        · exact .inr ⟨q, hq', e1, e2, e3⟩
        · left
          subst e1 e2
          exact ⟨h0, by have := pm _ _ hx hy h0; omega⟩
    refine ⟨hh, fun x y hx hy hr q hq => h.mono x y hx hy hr q ((hmem q).2 (.inl hq)), fun q hq => h.spots q ((hmem q).2 (.inl hq)), h.known, hnear 0 0 0 (by omega) (by omega) h.start, ?_, h.top⟩
    intro x y hx hy hr _
    have := h.next x y hx hy hr (by simp)
    unfold NextG at this ⊢
    split at this
    · rename_i hs'
      have hlt := same_lt o f hs'
      rw [if_pos hs']
      exact hnear _ _ _ (by omega) (by omega) this
    · rename_i hs'
      rw [if_neg hs']
      exact ⟨fun a => hnear _ _ _ (by omega) hy (this.1 a), fun a => hnear _ _ _ hx (by omega) (this.2 a)⟩

theorem startG : InvG o f (dist o f) none (startM o f) (fun _ _ => 0) := by
  have h0 : ∀ x y, (startM o f).at f.length x y = 0 := by
    intro x y
    simp [startM, Srch.at, List.getD, List.getElem?_replicate]
    split <;> rfl
  refine ⟨?_, fun x y _ _ hr => absurd (h0 x y) hr, ?_, fun x y _ _ hr => absurd (h0 x y) hr, .inr ⟨⟨0, 0, 0, 0, 46⟩, by simp [startM], rfl, rfl, Nat.le_refl _⟩, fun x y _ _ hr => absurd (h0 x y) hr, fun x y _ _ hr => absurd (h0 x y) hr⟩
  · intro i hi hl; simp [startM] at hl; omega
  · intro s hs
    simp [startM] at hs
    subst hs
    exact .inl ⟨rfl, rfl, rfl, rfl⟩
theorem searchM_G : ∀ (k : Nat) (st : Srch) (G : Nat → Nat → Nat), Inv o f st → InvG o f (dist o f) none st G → ∃ G', InvG o f (dist o f) none (searchM o f k st) G' := by
  intro k
  induction k with
  | zero => intro st G _ hG; exact ⟨G, hG⟩
  | succ k ih =>
    intro st G hi hG
    by_cases he : st.at f.length o.length f.length = 0
    · simp only [searchM, he, if_true]
      obtain ⟨G1, hG1⟩ := hG.round o f hi he
      exact ih _ G1 (hi.round (hi.open_ne he)).1 hG1
    · rw [searchM_done he]; exact ⟨G, hG⟩
/-- drops and adds of a way -/
def costW (l : List (StepM α)) : Nat := (l.filter (fun s => s.kind != 32)).length
theorem backM_cost [Inhabited α] {st : Srch} {G : Nat → Nat → Nat} (h : InvG o f (dist o f) none st G) : ∀ (k x y : Nat), x + y ≤ k → x ≤ o.length → y ≤ f.length → st.at f.length x y ≠ 0 →
    costW (backM o f st k x y) ≤ G x y := by
  intro k
  induction k with
  | zero => intro x y _ _ _ _; simp [backM, costW]
  | succ k ih =>
    intro x y hk hx hy hr
    unfold backM
    split
    · simp [costW]
    · rename_i hne
      have hc := h.known x y hx hy hr
      rcases hc with ⟨_, h1, h2, _⟩ | ⟨h1, h2, h3, h4, h5⟩ | ⟨h1, h2, h3, h4⟩ | ⟨h1, h2, h3, h4⟩
      · exact absurd ⟨h1, h2⟩ hne
      · rw [if_pos h1]
        have := ih (x - 1) (y - 1) (by omega) (by omega) (by omega) h4
        rw [h5]
        simpa [costW] using this
      · rw [if_neg (by omega), if_pos h1]
        have := ih (x - 1) y (by omega) (by omega) (by omega) h3
        rw [h4]
        unfold costW at this ⊢
        rw [List.filter_cons_of_pos (by simp), List.length_cons]; omega
      · rw [if_neg (by omega), if_neg (by omega)]
        have := ih x (y - 1) (by omega) (by omega) (by omega) h3
        rw [h4]
        unfold costW at this ⊢
        rw [List.filter_cons_of_pos (by simp [h1]), List.length_cons]; omega
/-- no way is shorter -/
theorem wayM_dist [Inhabited α] : costW (wayM o f) ≤ dist o f := by
  obtain ⟨hi, he⟩ := foundM_inv o f
  obtain ⟨G, hG⟩ := searchM_G o f (mu (startM o f)) (startM o f) _ (startM_inv o f) (startG o f)
  have hG' : InvG o f (dist o f) none (foundM o f) G := hG
  have h1 := backM_cost o f hG' (o.length + f.length) o.length f.length (Nat.le_refl _) (Nat.le_refl _) (Nat.le_refl _) he
  have h2 := hG'.top o.length f.length (Nat.le_refl _) (Nat.le_refl _) he
  have h3 : costW (wayM o f) = costW (backM o f (foundM o f) (o.length + f.length) o.length f.length) := by unfold wayM costW; rw [List.filter_reverse, List.length_reverse]
  omega
theorem wayM_shortest [Inhabited α] {k : Nat} (h : Ed o f k) : costW (wayM o f) ≤ k := Nat.le_trans (wayM_dist o f) h.dist_le
end
end Dn

namespace Dn
section
variable {α : Type} [DecidableEq α]

/-- the shortest way that keeps where it can, else drops where a shortest way does -/
def specRow (a : α) (l : List α) (prev : List α → List (StepM α)) : List α → List (StepM α)
  | [] => ⟨45, a⟩ :: prev []
  | b :: r => if a = b then ⟨32, a⟩ :: prev r else if dist l (b :: r) ≤ dist (a :: l) r then ⟨45, a⟩ :: prev (b :: r) else ⟨43, b⟩ :: specRow a l prev r
def spec : List α → List α → List (StepM α)
  | [] => List.map fun b => ⟨43, b⟩
  | a :: l => specRow a l (spec l)
theorem spec_nn : spec ([] : List α) [] = [] := rfl
theorem spec_nc (b : α) (r : List α) : spec [] (b :: r) = ⟨43, b⟩ :: spec [] r := rfl
theorem spec_cn (a : α) (l : List α) : spec (a :: l) [] = ⟨45, a⟩ :: spec l [] := rfl
theorem spec_cc (a b : α) (l r : List α) : spec (a :: l) (b :: r) = if a = b then ⟨32, a⟩ :: spec l r else if dist l (b :: r) ≤ dist (a :: l) r then ⟨45, a⟩ :: spec l (b :: r) else ⟨43, b⟩ :: spec (a :: l) r := rfl
/-- its drops (0) and adds (1), as a binary number -/
def keyAdd : List α → Nat
  | [] => 0
  | _ :: r => 2 ^ r.length + keyAdd r
def keyRow (a : α) (l : List α) (prev : List α → Nat) : List α → Nat
  | [] => prev []
  | b :: r => if a = b then prev r else if dist l (b :: r) ≤ dist (a :: l) r then prev (b :: r) else 2 ^ dist (a :: l) r + keyRow a l prev r
def key : List α → List α → Nat
  | [] => keyAdd
  | a :: l => keyRow a l (key l)
theorem key_nn : key ([] : List α) [] = 0 := rfl
theorem key_nc (b : α) (r : List α) : key [] (b :: r) = 2 ^ r.length + key [] r := rfl
theorem key_cn (a : α) (l : List α) : key (a :: l) [] = key l [] := rfl
theorem key_cc (a b : α) (l r : List α) : key (a :: l) (b :: r) = if a = b then key l r else if dist l (b :: r) ≤ dist (a :: l) r then key l (b :: r) else 2 ^ dist (a :: l) r + key (a :: l) r := rfl

theorem pw1 (k r : Nat) : k * 2 ^ (r + 1) = 2 * (k * 2 ^ r) := by rw [Nat.pow_succ, ← Nat.mul_assoc, Nat.mul_comm]
theorem pw2 (k p : Nat) : 2 * k * p = 2 * (k * p) := Nat.mul_assoc _ _ _
theorem pw3 (k p : Nat) : (2 * k + 1) * p = 2 * (k * p) + p := by rw [Nat.add_mul, Nat.mul_assoc, Nat.one_mul]

theorem key_lt : ∀ (n : Nat) (l r : List α), l.length + r.length ≤ n → key l r < 2 ^ dist l r := by
  intro n
  induction n with
  | zero =>
    intro l r h
    have h1 : l = [] := List.eq_nil_of_length_eq_zero (by omega)
    have h2 : r = [] := List.eq_nil_of_length_eq_zero (by omega)
    subst h1 h2
    rw [key_nn]
    exact Nat.two_pow_pos _
  | succ n ih =>
    intro l r h
    cases l with
    | nil =>
      cases r with
      | nil => rw [key_nn]; exact Nat.two_pow_pos _
      | cons b r =>
        simp only [List.length_cons] at h
        have := ih [] r (by simp at h ⊢; omega)
        rw [dist_nil_l] at this
        rw [key_nc, dist_nil_l, List.length_cons, Nat.pow_succ]
        omega
    | cons a l =>
      simp only [List.length_cons] at h
      cases r with
      | nil =>
        have := ih l [] (by simp at h ⊢; omega)
        rw [dist_nil_r] at this
        rw [key_cn, dist_nil_r, List.length_cons, Nat.pow_succ]
        omega
      | cons b r =>
        simp only [List.length_cons] at h
        by_cases e : a = b
        · subst e
          rw [key_cc, if_pos rfl, dist_same]
          exact ih l r (by omega)
        · rw [key_cc, if_neg e, dist_ne e]
          split
          · rename_i hle
            have := ih l (b :: r) (by simp; omega)
            rw [Nat.min_eq_left hle, Nat.add_comm, Nat.pow_succ]
            omega
          · rename_i hle
            have := ih (a :: l) r (by simp; omega)
            rw [Nat.min_eq_right (by omega), Nat.add_comm 1, Nat.pow_succ]
            omega

variable (o f : List α)
def kb (x y : Nat) : Nat := key (o.drop x) (f.drop y)
def sp (x y : Nat) : List (StepM α) := spec (o.drop x) (f.drop y)
def Drops (x y : Nat) : Prop := x < o.length ∧ (f.length ≤ y ∨ rd o f (x + 1) y ≤ rd o f x (y + 1))
theorem kb_lt (x y : Nat) : kb o f x y < 2 ^ rd o f x y := key_lt _ _ _ (Nat.le_refl _)
theorem at_same [Inhabited α] {x y : Nat} (h : same o f x y = true) : kb o f x y = kb o f (x + 1) (y + 1) ∧ sp o f x y = ⟨32, o.getD x default⟩ :: sp o f (x + 1) (y + 1) := by
  obtain ⟨hx, hy⟩ := same_lt o f h
  unfold same at h
  simp only [decide_eq_true_eq] at h
  have e := h.2.2
  unfold kb sp
  rw [List.drop_eq_getElem_cons hx, List.drop_eq_getElem_cons hy]
  rw [List.getElem?_eq_getElem hx, List.getElem?_eq_getElem hy] at e
  rw [← Option.some.inj e, key_cc, if_pos rfl, spec_cc, if_pos rfl]
  simp [List.getD, hx]
theorem at_drop [Inhabited α] {x y : Nat} (h : same o f x y = false) (hy : y ≤ f.length) (hd : Drops o f x y) : rd o f x y = rd o f (x + 1) y + 1 ∧ kb o f x y = kb o f (x + 1) y ∧ sp o f x y = ⟨45, o.getD x default⟩ :: sp o f (x + 1) y := by
  obtain ⟨hx, hd⟩ := hd
  by_cases ey : y < f.length
  · have hd' : rd o f (x + 1) y ≤ rd o f x (y + 1) := by omega
    refine ⟨by rw [rd_ne o f h hx ey]; omega, ?_⟩
    unfold same at h
    simp only [decide_eq_false_iff_not, not_and] at h
    have e := h hx ey
    unfold rd at hd'
    unfold kb sp
    rw [List.drop_eq_getElem_cons hx, List.drop_eq_getElem_cons ey] at *
    rw [List.getElem?_eq_getElem hx, List.getElem?_eq_getElem ey] at e
    have e' : o[x] ≠ f[y] := fun e' => e (by rw [e'])
    rw [key_cc, if_neg e', if_pos hd', spec_cc, if_neg e', if_pos hd']
    simp [List.getD, hx]
  · obtain rfl : y = f.length := by omega
    refine ⟨by rw [rd_endy o f hx]; omega, ?_⟩
    unfold kb sp
    rw [List.drop_length, List.drop_eq_getElem_cons hx, key_cn, spec_cn]
    simp [List.getD, hx]
theorem at_add [Inhabited α] {x y : Nat} (h : same o f x y = false) (hx : x ≤ o.length) (hy : y < f.length) (hd : ¬ Drops o f x y) :
    rd o f x y = rd o f x (y + 1) + 1 ∧ kb o f x y = 2 ^ rd o f x (y + 1) + kb o f x (y + 1) ∧ sp o f x y = ⟨43, f.getD y default⟩ :: sp o f x (y + 1) ∧ (x < o.length → rd o f x y < rd o f (x + 1) y + 1) := by
  by_cases ex : x < o.length
  · have hd' : ¬ rd o f (x + 1) y ≤ rd o f x (y + 1) := fun e => hd ⟨ex, .inr e⟩
    have hr := rd_ne o f h ex hy
    refine ⟨by rw [hr]; omega, ?_⟩
    rw [← and_assoc]
    refine ⟨?_, fun _ => by rw [hr]; omega⟩
    unfold same at h
    simp only [decide_eq_false_iff_not, not_and] at h
    have e := h ex hy
    clear hr
    unfold rd at hd'
    unfold kb sp rd
    rw [List.drop_eq_getElem_cons ex, List.drop_eq_getElem_cons hy] at *
    rw [List.getElem?_eq_getElem ex, List.getElem?_eq_getElem hy] at e
    have e' : o[x] ≠ f[y] := fun e' => e (by rw [e'])
    rw [key_cc, if_neg e', if_neg hd', spec_cc, if_neg e', if_neg hd']
    simp [List.getD, hy]
  · obtain rfl : x = o.length := by omega
    refine ⟨by rw [rd_endx o f hy]; omega, ?_⟩
    rw [← and_assoc]
    refine ⟨?_, fun h => absurd h (by omega)⟩
    unfold kb sp rd
    rw [List.drop_length, List.drop_eq_getElem_cons hy, key_nc, spec_nc, dist_nil_l]
    simp [List.getD, hy]
theorem rd_x {x : Nat} (y : Nat) (h : x < o.length) : rd o f x y ≤ rd o f (x + 1) y + 1 := by
  unfold rd; rw [List.drop_eq_getElem_cons h]; exact dist_l1 _ _ _
theorem rd_y {y : Nat} (x : Nat) (h : y < f.length) : rd o f x y ≤ rd o f x (y + 1) + 1 := by
  unfold rd; rw [List.drop_eq_getElem_cons h]; exact dist_r1 _ _ _

/-- no way through here is better than the best -/
def Low (x y c k : Nat) : Prop := dist o f ≤ c + rd o f x y ∧ (c + rd o f x y = dist o f → key o f ≤ k * 2 ^ rd o f x y + kb o f x y)
variable [Inhabited α]
theorem Low.keep {x y c k : Nat} (h : Low o f x y c k) (hs : same o f x y = true) : Low o f (x + 1) (y + 1) c k := by
  unfold Low at *
  rw [← (at_same o f hs).1, ← rd_same o f hs]
  exact h
theorem Low.drop {x y c k : Nat} (h : Low o f x y c k) (hs : same o f x y = false) (hx : x < o.length) (hy : y ≤ f.length) : Low o f (x + 1) y (c + 1) (2 * k) := by
  obtain ⟨h1, h2⟩ := h
  have hr := rd_x o f y hx
  refine ⟨by omega, fun e => ?_⟩
  have h3 := h2 (by omega)
  have hd : Drops o f x y := by
    by_cases hd : Drops o f x y
    · exact hd
    · have hy' : y < f.length := by
        by_cases ey : y < f.length
        · exact ey
        · exact absurd ⟨hx, .inl (by omega)⟩ hd
      have := (at_add o f hs (by omega) hy' hd).2.2.2 hx
      omega
  obtain ⟨e1, e2, _⟩ := at_drop o f hs hy hd
  rw [e1, e2, pw1] at h3
  rw [pw2]
  exact h3
theorem Low.add {x y c k : Nat} (h : Low o f x y c k) (hs : same o f x y = false) (hx : x ≤ o.length) (hy : y < f.length) : Low o f x (y + 1) (c + 1) (2 * k + 1) := by
  obtain ⟨h1, h2⟩ := h
  have hr := rd_y o f x hy
  refine ⟨by omega, fun e => ?_⟩
  have h3 := h2 (by omega)
  have e0 : rd o f x y = rd o f x (y + 1) + 1 := by omega
  rw [pw3]
  rw [e0, pw1] at h3
  by_cases hd : Drops o f x y
  · obtain ⟨e1, e2, _⟩ := at_drop o f hs (by omega) hd
    have h4 := kb_lt o f (x + 1) y
    rw [show rd o f (x + 1) y = rd o f x (y + 1) by omega] at h4
    omega
  · obtain ⟨_, e2, _⟩ := at_add o f hs hx hy hd
    omega

def le2 (a b c d : Nat) : Prop := a < c ∨ (a = c ∧ b ≤ d)
def CostK (st : Srch) (G Q : Nat → Nat → Nat) (x y kind c k : Nat) : Prop :=
  (kind = 46 ∧ x = 0 ∧ y = 0 ∧ c = 0 ∧ k = 0) ∨
  (kind = 32 ∧ 0 < x ∧ 0 < y ∧ st.at f.length (x - 1) (y - 1) ≠ 0 ∧ same o f (x - 1) (y - 1) = true ∧ c = G (x - 1) (y - 1) ∧ k = Q (x - 1) (y - 1)) ∨
  (kind = 45 ∧ 0 < x ∧ st.at f.length (x - 1) y ≠ 0 ∧ same o f (x - 1) y = false ∧ c = G (x - 1) y + 1 ∧ k = 2 * Q (x - 1) y) ∨
  (kind = 43 ∧ 0 < y ∧ st.at f.length x (y - 1) ≠ 0 ∧ same o f x (y - 1) = false ∧ c = G x (y - 1) + 1 ∧ k = 2 * Q x (y - 1) + 1)
def NearK (st : Srch) (G Q : Nat → Nat → Nat) (κ : Nat → Nat) (x y c k : Nat) : Prop :=
  (st.at f.length x y ≠ 0 ∧ le2 (G x y) (Q x y) c k) ∨ ∃ s ∈ st.op, s.x = x ∧ s.y = y ∧ le2 s.far (κ s.turn) c k
def NextK (st : Srch) (G Q : Nat → Nat → Nat) (κ : Nat → Nat) (x y : Nat) : Prop :=
  if same o f x y = true then NearK f st G Q κ (x + 1) (y + 1) (G x y) (Q x y)
  else (x < o.length → NearK f st G Q κ (x + 1) y (G x y + 1) (2 * Q x y)) ∧ (y < f.length → NearK f st G Q κ x (y + 1) (G x y + 1) (2 * Q x y + 1))
structure InvK (hole : Option (Nat × Nat)) (st : Srch) (G Q : Nat → Nat → Nat) (κ : Nat → Nat) : Prop where
  heap : heapL st.op
  uniq : (st.op.map (·.turn)).Nodup
  tle : ∀ s ∈ st.op, s.turn ≤ st.turns
  far : ∀ s1 ∈ st.op, ∀ s2 ∈ st.op, s1.far ≤ s2.far + 1
  ord : ∀ s1 ∈ st.op, ∀ s2 ∈ st.op, s1.far = s2.far → s1.turn < s2.turn → κ s1.turn < κ s2.turn
  ord2 : ∀ s1 ∈ st.op, ∀ s2 ∈ st.op, s1.far = s2.far + 1 → κ s1.turn < 2 * κ s2.turn
  mono : ∀ x y, x ≤ o.length → y ≤ f.length → st.at f.length x y ≠ 0 → ∀ s ∈ st.op, le2 (G x y) (Q x y) s.far (κ s.turn)
  spots : ∀ s ∈ st.op, CostK o f st G Q s.x s.y s.kind s.far (κ s.turn)
  known : ∀ x y, x ≤ o.length → y ≤ f.length → st.at f.length x y ≠ 0 → CostK o f st G Q x y (st.at f.length x y) (G x y) (Q x y)
  start : NearK f st G Q κ 0 0 0 0
  next : ∀ x y, x ≤ o.length → y ≤ f.length → st.at f.length x y ≠ 0 → hole ≠ some (x, y) → NextK o f st G Q κ x y
  low : ∀ x y, x ≤ o.length → y ≤ f.length → st.at f.length x y ≠ 0 → Low o f x y (G x y) (Q x y)
  lowS : ∀ s ∈ st.op, Low o f s.x s.y s.far (κ s.turn)
  top : st.at f.length o.length f.length ≠ 0 → G o.length f.length = dist o f ∧ Q o.length f.length ≤ key o f

def GoodS (x y c k : Nat) : Prop := c + rd o f x y = dist o f ∧ k * 2 ^ rd o f x y + kb o f x y ≤ key o f
theorem goodK_from {st : Srch} {G Q : Nat → Nat → Nat} {κ : Nat → Nat} (h : InvK o f none st G Q κ) (he : st.at f.length o.length f.length = 0) :
    ∀ n x y, x ≤ o.length → y ≤ f.length → (o.length - x) + (f.length - y) = n → st.at f.length x y ≠ 0 → GoodS o f x y (G x y) (Q x y) → ∃ s ∈ st.op, GoodS o f s.x s.y s.far (κ s.turn) := by
  intro n
  induction n using Nat.strongRecOn with
  | ind n ih =>
    intro x y hx hy hk hr hD
    have hn := h.next x y hx hy hr (by simp)
    have go : ∀ x' y' c k, x' ≤ o.length → y' ≤ f.length → (o.length - x') + (f.length - y') < n → GoodS o f x' y' c k → NearK f st G Q κ x' y' c k → ∃ s ∈ st.op, GoodS o f s.x s.y s.far (κ s.turn) := by
      intro x' y' c k hx' hy' hlt hc hnear
      rcases hnear with ⟨h1, h2⟩ | ⟨s, hs, e1, e2, h2⟩
      · have hl := (h.low x' y' hx' hy' h1).1
        have hc1 := hc.1
        refine ih _ hlt x' y' hx' hy' rfl h1 ?_
        rcases h2 with h2 | ⟨h2, h3⟩
        · omega
        · refine ⟨by omega, ?_⟩
          have := Nat.mul_le_mul_right (2 ^ rd o f x' y') h3
          have := hc.2
          omega
      · have hl := (h.lowS s hs).1
        have hc1 := hc.1
        rw [← e1, ← e2] at hc1
        refine ⟨s, hs, ?_⟩
        rcases h2 with h2 | ⟨h2, h3⟩
        · omega
        · rw [e1, e2]
          rw [e1, e2] at hc1
          refine ⟨by omega, ?_⟩
          have := Nat.mul_le_mul_right (2 ^ rd o f x' y') h3
          have := hc.2
          omega
    obtain ⟨hD1, hD2⟩ := hD
    unfold NextK at hn
    split at hn
    · rename_i hs
      have hlt := same_lt o f hs
      refine go _ _ _ _ (by omega) (by omega) (by omega) ⟨?_, ?_⟩ hn
      · rw [← rd_same o f hs]; exact hD1
      · rw [← rd_same o f hs, ← (at_same o f hs).1]; exact hD2
    · rename_i hs
      have hs' : same o f x y = false := by simpa using hs
      by_cases hd : Drops o f x y
      · obtain ⟨e1, e2, _⟩ := at_drop o f hs' hy hd
        refine go _ _ _ _ (by have := hd.1; omega) (by omega) (by have := hd.1; omega) ⟨by omega, ?_⟩ (hn.1 hd.1)
        rw [e1, e2, pw1] at hD2
        rw [pw2]
        exact hD2
      · have ey : y < f.length := by
          by_cases ey : y < f.length
          · exact ey
          · obtain rfl : y = f.length := by omega
            by_cases ex : x < o.length
            · exact absurd ⟨ex, .inl (Nat.le_refl _)⟩ hd
            · obtain rfl : x = o.length := by omega
              exact absurd he hr
        obtain ⟨e1, e2, _⟩ := at_add o f hs' hx ey hd
        refine go _ _ _ _ (by omega) (by omega) (by omega) ⟨by omega, ?_⟩ (hn.2 ey)
        rw [e1, e2, pw1] at hD2
        rw [pw3]
        omega
theorem goodK {st : Srch} {G Q : Nat → Nat → Nat} {κ : Nat → Nat} (h : InvK o f none st G Q κ) (he : st.at f.length o.length f.length = 0) : ∃ s ∈ st.op, GoodS o f s.x s.y s.far (κ s.turn) := by
  have e1 : rd o f 0 0 = dist o f := by simp [rd]
  have e2 : kb o f 0 0 = key o f := by simp [kb]
  rcases h.start with ⟨h1, h2⟩ | ⟨s, hs, x0, y0, h2⟩
  · have h2' : G 0 0 = 0 ∧ Q 0 0 = 0 := by unfold le2 at h2; omega
    exact goodK_from o f h he _ 0 0 (by omega) (by omega) rfl h1 ⟨by rw [h2'.1, e1]; omega, by rw [h2'.2, e2]; omega⟩
  · have h2' : s.far = 0 ∧ κ s.turn = 0 := by unfold le2 at h2; omega
    exact ⟨s, hs, by rw [x0, y0]; exact ⟨by rw [h2'.1, e1]; omega, by rw [h2'.2, e2]; omega⟩⟩
end
end Dn

namespace Dn
section
set_option linter.unusedSectionVars false
variable {α : Type} [DecidableEq α] (o f : List α) [Inhabited α]

theorem NearK.kap {st : Srch} {G Q : Nat → Nat → Nat} {κ κ' : Nat → Nat} {x y c k : Nat} (h : NearK f st G Q κ x y c k) (ht : ∀ s ∈ st.op, s.turn ≤ st.turns) (hk : ∀ t, t ≤ st.turns → κ' t = κ t) : NearK f st G Q κ' x y c k := by
  rcases h with h | ⟨s, hs, e1, e2, e3⟩
  · exact .inl h
  · exact .inr ⟨s, hs, e1, e2, by rw [hk _ (ht s hs)]; exact e3⟩
theorem InvK.kap {hole : Option (Nat × Nat)} {st : Srch} {G Q : Nat → Nat → Nat} {κ κ' : Nat → Nat} (h : InvK o f hole st G Q κ) (hk : ∀ t, t ≤ st.turns → κ' t = κ t) : InvK o f hole st G Q κ' := by
  have e : ∀ s ∈ st.op, κ' s.turn = κ s.turn := fun s hs => hk _ (h.tle s hs)
  refine ⟨h.heap, h.uniq, h.tle, h.far, ?_, ?_, ?_, ?_, h.known, h.start.kap f h.tle hk, ?_, h.low, ?_, h.top⟩
  · intro s1 h1 s2 h2 a b; rw [e s1 h1, e s2 h2]; exact h.ord s1 h1 s2 h2 a b
  · intro s1 h1 s2 h2 a; rw [e s1 h1, e s2 h2]; exact h.ord2 s1 h1 s2 h2 a
  · intro x y hx hy hr s hs; rw [e s hs]; exact h.mono x y hx hy hr s hs
  · intro s hs; rw [e s hs]; exact h.spots s hs
  · intro x y hx hy hr hh
    have := h.next x y hx hy hr hh
    unfold NextK at this ⊢
    split at this
    · rename_i hs; rw [if_pos hs]; exact this.kap f h.tle hk
    · rename_i hs; rw [if_neg hs]; exact ⟨fun a => (this.1 a).kap f h.tle hk, fun a => (this.2 a).kap f h.tle hk⟩
  · intro s hs; rw [e s hs]; exact h.lowS s hs
theorem NearK.push {st : Srch} {G Q : Nat → Nat → Nat} {κ : Nat → Nat} {x y c k : Nat} (h : NearK f st G Q κ x y c k) (s : Spot) (t : Nat) : NearK f { op := pushM st.op s, turns := t, led := st.led } G Q κ x y c k := by
  rcases h with h | ⟨q, hq, e⟩
  · exact .inl h
  · exact .inr ⟨q, (pushM_perm st.op s).mem_iff.2 (by simp [hq]), e⟩
theorem InvK.push {hole : Option (Nat × Nat)} {st : Srch} {G Q : Nat → Nat → Nat} {κ : Nat → Nat} (h : InvK o f hole st G Q κ) (s : Spot) (t : Nat) (hn : ∀ q ∈ st.op, q.turn ≠ s.turn) (ht1 : s.turn ≤ t) (ht2 : st.turns ≤ t)
    (hq : ∀ q ∈ st.op, s.far ≤ q.far + 1 ∧ q.far ≤ s.far + 1 ∧ (q.far = s.far → (q.turn < s.turn → κ q.turn < κ s.turn) ∧ (s.turn < q.turn → κ s.turn < κ q.turn)) ∧ (q.far = s.far + 1 → κ q.turn < 2 * κ s.turn) ∧ (s.far = q.far + 1 → κ s.turn < 2 * κ q.turn))
    (hm : ∀ x y, x ≤ o.length → y ≤ f.length → st.at f.length x y ≠ 0 → le2 (G x y) (Q x y) s.far (κ s.turn)) (hc : CostK o f st G Q s.x s.y s.kind s.far (κ s.turn)) (hl : Low o f s.x s.y s.far (κ s.turn)) :
    InvK o f hole { op := pushM st.op s, turns := t, led := st.led } G Q κ := by
  have hmem : ∀ q, q ∈ pushM st.op s ↔ q ∈ st.op ∨ q = s := by intro q; rw [(pushM_perm st.op s).mem_iff]; simp
  refine ⟨push_heap h.heap s, ?_, ?_, ?_, ?_, ?_, ?_, ?_, h.known, h.start.push f s t, ?_, h.low, ?_, h.top⟩
  · have hp := (pushM_perm st.op s).map (·.turn)
    rw [hp.nodup_iff, List.map_append, List.nodup_append]
    refine ⟨h.uniq, by simp, ?_⟩
    intro a ha b hb e
    obtain ⟨q, hq', rfl⟩ := List.mem_map.1 ha
    simp at hb
    exact hn q hq' (e.trans hb)
  · intro q hq'
    rcases (hmem q).1 hq' with h1 | rfl
    · exact Nat.le_trans (h.tle q h1) ht2
    · exact ht1
  · intro s1 h1 s2 h2
    rcases (hmem s1).1 h1 with g1 | g1 <;> rcases (hmem s2).1 h2 with g2 | g2
    · exact h.far s1 g1 s2 g2
    · rw [g2]; exact (hq s1 g1).2.1
    · rw [g1]; exact (hq s2 g2).1
    · rw [g1, g2]; omega
  · intro s1 h1 s2 h2 e1 e2
    rcases (hmem s1).1 h1 with g1 | g1 <;> rcases (hmem s2).1 h2 with g2 | g2
    · exact h.ord s1 g1 s2 g2 e1 e2
    · rw [g2] at e1 e2 ⊢; exact ((hq s1 g1).2.2.1 e1).1 e2
    · rw [g1] at e1 e2 ⊢; exact ((hq s2 g2).2.2.1 e1.symm).2 e2
    · rw [g1, g2] at e2; omega
  · intro s1 h1 s2 h2 e1
    rcases (hmem s1).1 h1 with g1 | g1 <;> rcases (hmem s2).1 h2 with g2 | g2
    · exact h.ord2 s1 g1 s2 g2 e1
    · rw [g2] at e1 ⊢; exact (hq s1 g1).2.2.2.1 e1
    · rw [g1] at e1 ⊢; exact (hq s2 g2).2.2.2.2 e1
    · rw [g1, g2] at e1; omega
  · intro x y hx hy hr q hq'
    rcases (hmem q).1 hq' with h1 | rfl
    · exact h.mono x y hx hy hr q h1
    · exact hm x y hx hy hr
  · intro q hq'
    rcases (hmem q).1 hq' with h1 | rfl
    · exact h.spots q h1
    · exact hc
  · intro x y hx hy hr hh
    have := h.next x y hx hy hr hh
    unfold NextK at this ⊢
    split at this
    · rename_i hs; rw [if_pos hs]; exact this.push f s t
    · rename_i hs; rw [if_neg hs]; exact ⟨fun a => (this.1 a).push f s t, fun a => (this.2 a).push f s t⟩
  · intro q hq'
    rcases (hmem q).1 hq' with h1 | rfl
    · exact h.lowS q h1
    · exact hl
theorem InvK.change {hole : Option (Nat × Nat)} {st : Srch} {G Q : Nat → Nat → Nat} {κ : Nat → Nat} (h : InvK o f hole st G Q κ) (p : Spot) (dx dy kind nk : Nat) (hpt : p.turn ≤ st.turns)
    (hx : p.x + dx ≤ o.length) (hy : p.y + dy ≤ f.length) (hnk : nk ≤ 2 * κ p.turn + 1)
    (hq : ∀ q ∈ st.op, p.far ≤ q.far ∧ q.far ≤ p.far + 1 ∧ (q.far = p.far → κ p.turn < κ q.turn) ∧ (q.far = p.far + 1 → κ q.turn < nk))
    (hm : ∀ x y, x ≤ o.length → y ≤ f.length → st.at f.length x y ≠ 0 → le2 (G x y) (Q x y) p.far (κ p.turn))
    (hc : CostK o f st G Q (p.x + dx) (p.y + dy) kind (p.far + 1) nk) (hl : Low o f (p.x + dx) (p.y + dy) (p.far + 1) nk) :
    ∃ κ', (∀ t, t ≤ st.turns → κ' t = κ t) ∧ InvK o f hole (changeM f.length st p dx dy kind) G Q κ' ∧ NearK f (changeM f.length st p dx dy kind) G Q κ' (p.x + dx) (p.y + dy) (p.far + 1) nk ∧
      (changeM f.length st p dx dy kind).led = st.led ∧ st.turns ≤ (changeM f.length st p dx dy kind).turns ∧ (∀ x y c k, NearK f st G Q κ x y c k → NearK f (changeM f.length st p dx dy kind) G Q κ' x y c k) ∧
      (∀ q ∈ (changeM f.length st p dx dy kind).op, p.far ≤ q.far ∧ q.far ≤ p.far + 1 ∧ (q.far = p.far → κ' p.turn < κ' q.turn) ∧ (q.far = p.far + 1 → κ' q.turn < nk + 1)) := by
  unfold changeM
  split
  · have hk : ∀ t, t ≤ st.turns → (fun t => if t = st.turns + 1 then nk else κ t) t = κ t := by intro t ht; simp only; rw [if_neg (by omega)]
    have hnew : (fun t => if t = st.turns + 1 then nk else κ t) (st.turns + 1) = nk := by simp
    generalize (fun t => if t = st.turns + 1 then nk else κ t) = κ' at hk hnew
    have h' := h.kap o f hk
    have hpush := h'.push o f ⟨p.x + dx, p.y + dy, p.far + 1, st.turns + 1, kind⟩ (st.turns + 1) (fun q hq' => by have := h.tle q hq'; show q.turn ≠ st.turns + 1; omega) (Nat.le_refl _) (by omega) (by
        intro q hq'
        obtain ⟨a, b, c, d⟩ := hq q hq'
        have ht := h.tle q hq'
        simp only [hnew, hk _ ht]
        refine ⟨by omega, by omega, fun e => ⟨fun _ => d e, fun hlt => by omega⟩, fun e => by omega, fun e => ?_⟩
        have := c (by omega)
        omega) (by
        intro x y hx' hy' hr
        have := hm x y hx' hy' hr
        unfold le2 at *
        simp only [hnew]
        omega) (by simp only [hnew]; exact hc) (by simp only [hnew]; exact hl)
    refine ⟨κ', hk, hpush, .inr ⟨⟨p.x + dx, p.y + dy, p.far + 1, st.turns + 1, kind⟩, (pushM_perm st.op _).mem_iff.2 (by simp), rfl, rfl, by simp only [hnew]; exact .inr ⟨rfl, Nat.le_refl _⟩⟩, rfl, by simp, fun x y c k hn => (hn.kap f h.tle hk).push f _ _, ?_⟩
    intro q hq'
    rw [(pushM_perm st.op _).mem_iff, List.mem_append] at hq'
    rcases hq' with hq' | hq'
    · obtain ⟨a, b, c, d⟩ := hq q hq'
      rw [hk _ hpt, hk _ (h.tle q hq')]
      exact ⟨a, b, c, fun e => Nat.lt_succ_of_lt (d e)⟩
    · simp at hq'
      subst hq'
      simp only [hnew]
      exact ⟨by omega, by omega, fun e => by omega, fun _ => by omega⟩
  · rename_i h0
    refine ⟨κ, fun _ _ => rfl, h, .inl ⟨h0, ?_⟩, rfl, Nat.le_refl _, fun _ _ _ _ hn => hn, fun q hq' => ?_⟩
    · have := hm _ _ hx hy h0
      unfold le2 at *
      omega
    · obtain ⟨a, b, c, d⟩ := hq q hq'
      exact ⟨a, b, c, fun e => Nat.lt_succ_of_lt (d e)⟩

theorem InvK.round {st : Srch} {G Q : Nat → Nat → Nat} {κ : Nat → Nat} (hi : Inv o f st) (h : InvK o f none st G Q κ) (he : st.at f.length o.length f.length = 0) : ∃ G' Q' κ', InvK o f none (roundM o f st) G' Q' κ' := by
  have hne := hi.open_ne he
  have hperm := pop_perm st.op hne
  have hmem : ∀ q, q ∈ st.op ↔ q ∈ popR st.op ∨ q = popS st.op := by intro q; rw [← hperm.mem_iff]; simp
  have hu := h.uniq
  rw [← (hperm.map (·.turn)).nodup_iff, List.map_append, List.nodup_append] at hu
  obtain ⟨hu1, _, hu2⟩ := hu
  have hut : ∀ q ∈ popR st.op, q.turn ≠ (popS st.op).turn := fun q hq => hu2 _ (List.mem_map.2 ⟨q, hq, rfl⟩) _ (by simp)
  obtain ⟨hh, _, hmin⟩ := pop_heap h.heap hne
  have pmem : popS st.op ∈ st.op := (hmem _).2 (.inr rfl)
  have hmin1 : ∀ s ∈ st.op, (popS st.op).far ≤ s.far ∧ ((popS st.op).far = s.far → (popS st.op).turn ≤ s.turn) := by
    intro s hs
    have := hmin s hs
    unfold Spot.lt at this
    omega
  have hmin2 : ∀ s ∈ st.op, le2 (popS st.op).far (κ (popS st.op).turn) s.far (κ s.turn) := by
    intro s hs
    obtain ⟨a, b⟩ := hmin1 s hs
    by_cases e : (popS st.op).far = s.far
    · refine .inr ⟨e, ?_⟩
      by_cases e2 : (popS st.op).turn = s.turn
      · rw [e2]; exact Nat.le_refl _
      · have := h.ord _ pmem s hs e (by have := b e; omega)
        omega
    · exact .inl (by omega)
  obtain ⟨px, py, _, ptn, pl⟩ := hi.spots _ pmem
  have pc := h.spots _ pmem
  have plow := h.lowS _ pmem
  have pm : ∀ x y, x ≤ o.length → y ≤ f.length → st.at f.length x y ≠ 0 → le2 (G x y) (Q x y) (popS st.op).far (κ (popS st.op).turn) := fun x y a b c => h.mono x y a b c _ pmem
  have hrel : ∀ q ∈ popR st.op, (popS st.op).far ≤ q.far ∧ q.far ≤ (popS st.op).far + 1 ∧ (q.far = (popS st.op).far → κ (popS st.op).turn < κ q.turn) ∧ (q.far = (popS st.op).far + 1 → κ q.turn < 2 * κ (popS st.op).turn) := by
    intro q hq
    have hq' := (hmem q).2 (.inl hq)
    refine ⟨(hmin1 q hq').1, h.far q hq' _ pmem, fun e => ?_, fun e => h.ord2 q hq' _ pmem e⟩
    have := (hmin1 q hq').2 e.symm
    have := hut q hq
    exact h.ord _ pmem q hq' e.symm (by omega)
  have ptop : (popS st.op).x = o.length → (popS st.op).y = f.length → (popS st.op).far = dist o f ∧ κ (popS st.op).turn ≤ key o f := by
    intro e1 e2
    obtain ⟨s, hs, g1, g2⟩ := goodK o f h he
    have h1 := hmin2 s hs
    have h2 := plow.1
    have e3 : rd o f o.length f.length = 0 := by unfold rd; simp [dist_nil_l]
    rw [e1, e2, e3] at h2
    unfold le2 at h1
    have e4 : rd o f s.x s.y = 0 := by omega
    rw [e4] at g2
    simp at g2
    omega
  unfold roundM settleM
  simp only
  generalize hs : popS st.op = s at *
  have hat : ∀ x y, Srch.at { op := popR st.op, turns := st.turns, led := st.led } f.length x y = st.at f.length x y := fun _ _ => rfl
  rw [hat]
  split
  · rename_i h0
    have hset := fun x y (hy : y ≤ f.length) => at_set (st := st) (n := o.length) (m := f.length) (x0 := s.x) (y0 := s.y) (x := x) (y := y) (k := s.kind) hi.len px py hy (popR st.op) st.turns
    generalize hG : (fun x y => if x = s.x ∧ y = s.y then s.far else G x y) = G'
    generalize hQ : (fun x y => if x = s.x ∧ y = s.y then κ s.turn else Q x y) = Q'
    have hG1 : G' s.x s.y = s.far := by rw [← hG]; simp
    have hQ1 : Q' s.x s.y = κ s.turn := by rw [← hQ]; simp
    have hG2 : ∀ x y, ¬ (x = s.x ∧ y = s.y) → G' x y = G x y ∧ Q' x y = Q x y := by intro x y hn; rw [← hG, ← hQ]; simp only; rw [if_neg hn, if_neg hn]; exact ⟨rfl, rfl⟩
    have hG3 : ∀ x y, st.at f.length x y ≠ 0 → G' x y = G x y ∧ Q' x y = Q x y := by
      intro x y hr
      refine hG2 x y ?_
      rintro ⟨rfl, rfl⟩
      exact hr h0
    have hmono : ∀ x y, y ≤ f.length → st.at f.length x y ≠ 0 → Srch.at { op := popR st.op, turns := st.turns, led := st.led.set (idx f.length s.x s.y) s.kind } f.length x y ≠ 0 := by
      intro x y hy hr
      rw [hset x y hy]
      split
      · exact pl.pos
      · exact hr
    have hcost : ∀ x y k c d, y ≤ f.length → CostK o f st G Q x y k c d → CostK o f { op := popR st.op, turns := st.turns, led := st.led.set (idx f.length s.x s.y) s.kind } G' Q' x y k c d := by
      intro x y k c d hy hc
      rcases hc with hc | ⟨h1, h2, h3, h4, h5, h6, h7⟩ | ⟨h1, h2, h3, h4, h5, h6⟩ | ⟨h1, h2, h3, h4, h5, h6⟩
      · exact .inl hc
      · exact .inr (.inl ⟨h1, h2, h3, hmono _ _ (by omega) h4, h5, by rw [(hG3 _ _ h4).1]; exact h6, by rw [(hG3 _ _ h4).2]; exact h7⟩)
      · exact .inr (.inr (.inl ⟨h1, h2, hmono _ _ hy h3, h4, by rw [(hG3 _ _ h3).1]; exact h5, by rw [(hG3 _ _ h3).2]; exact h6⟩))
      · exact .inr (.inr (.inr ⟨h1, h2, hmono _ _ (by omega) h3, h4, by rw [(hG3 _ _ h3).1]; exact h5, by rw [(hG3 _ _ h3).2]; exact h6⟩))
    have hnear : ∀ x y c k, y ≤ f.length → NearK f st G Q κ x y c k → NearK f { op := popR st.op, turns := st.turns, led := st.led.set (idx f.length s.x s.y) s.kind } G' Q' κ x y c k := by
      intro x y c k hy hn
      rcases hn with ⟨h1, h2⟩ | ⟨q, hq, e1, e2, e3⟩
      · exact .inl ⟨hmono x y hy h1, by rw [(hG3 _ _ h1).1, (hG3 _ _ h1).2]; exact h2⟩
      · by_cases e : x = s.x ∧ y = s.y
        · left
          obtain ⟨rfl, rfl⟩ := e
          refine ⟨by rw [hset _ _ hy, if_pos ⟨rfl, rfl⟩]; exact pl.pos, ?_⟩
          rw [hG1, hQ1]
          have := hmin2 q hq
          unfold le2 at *
          omega
        · rcases (hmem q).1 hq with hq | rfl
          · exact .inr ⟨q, hq, e1, e2, e3⟩
          · exact absurd ⟨e1.symm, e2.symm⟩ e
    have hGle : ∀ x y, x ≤ o.length → y ≤ f.length → Srch.at { op := popR st.op, turns := st.turns, led := st.led.set (idx f.length s.x s.y) s.kind } f.length x y ≠ 0 → le2 (G' x y) (Q' x y) s.far (κ s.turn) := by
      intro x y hx hy hr
      by_cases e : x = s.x ∧ y = s.y
      · rw [e.1, e.2, hG1, hQ1]; exact .inr ⟨rfl, Nat.le_refl _⟩
      · rw [hset x y hy, if_neg e] at hr
        rw [(hG2 x y e).1, (hG2 x y e).2]
        exact pm x y hx hy hr
    have hhere : Srch.at { op := popR st.op, turns := st.turns, led := st.led.set (idx f.length s.x s.y) s.kind } f.length s.x s.y ≠ 0 := by rw [hset _ _ py, if_pos ⟨rfl, rfl⟩]; exact pl.pos
    have i0 : InvK o f (some (s.x, s.y)) { op := popR st.op, turns := st.turns, led := st.led.set (idx f.length s.x s.y) s.kind } G' Q' κ := by
      refine ⟨hh, hu1, fun q hq => h.tle q ((hmem q).2 (.inl hq)), fun q1 h1 q2 h2 => h.far q1 ((hmem q1).2 (.inl h1)) q2 ((hmem q2).2 (.inl h2)), fun q1 h1 q2 h2 => h.ord q1 ((hmem q1).2 (.inl h1)) q2 ((hmem q2).2 (.inl h2)), fun q1 h1 q2 h2 => h.ord2 q1 ((hmem q1).2 (.inl h1)) q2 ((hmem q2).2 (.inl h2)), ?_, ?_, ?_, hnear 0 0 0 0 (by omega) h.start, ?_, ?_, fun q hq => h.lowS q ((hmem q).2 (.inl hq)), ?_⟩
      · intro x y hx hy hr q hq
        have h1 := hGle x y hx hy hr
        have h2 := hmin2 q ((hmem q).2 (.inl hq))
        unfold le2 at *
        omega
      · intro q hq
        have hq' := (hmem q).2 (.inl hq)
        exact hcost _ _ _ _ _ (hi.spots q hq').2.1 (h.spots q hq')
      · intro x y hx hy hr
        by_cases e : x = s.x ∧ y = s.y
        · rw [hset x y hy, if_pos e, e.1, e.2, hG1, hQ1]
          exact hcost _ _ _ _ _ py pc
        · rw [hset x y hy, if_neg e] at hr ⊢
          rw [(hG2 x y e).1, (hG2 x y e).2]
          exact hcost _ _ _ _ _ hy (h.known x y hx hy hr)
      · intro x y hx hy hr hne'
        have e : ¬ (x = s.x ∧ y = s.y) := by rintro ⟨rfl, rfl⟩; exact hne' rfl
        rw [hset x y hy, if_neg e] at hr
        have := h.next x y hx hy hr (by simp)
        unfold NextK at this ⊢
        rw [(hG2 x y e).1, (hG2 x y e).2]
        split at this
        · rename_i hs'
          have hlt := same_lt o f hs'
          rw [if_pos hs']
          exact hnear _ _ _ _ (by omega) this
        · rename_i hs'
          rw [if_neg hs']
          exact ⟨fun a => hnear _ _ _ _ hy (this.1 a), fun a => hnear _ _ _ _ (by omega) (this.2 a)⟩
      · intro x y hx hy hr
        by_cases e : x = s.x ∧ y = s.y
        · rw [e.1, e.2, hG1, hQ1]; exact plow
        · rw [hset x y hy, if_neg e] at hr
          rw [(hG2 x y e).1, (hG2 x y e).2]
          exact h.low x y hx hy hr
      · intro hr
        by_cases e : o.length = s.x ∧ f.length = s.y
        · have h1 : G' o.length f.length = s.far := by rw [e.1, e.2]; exact hG1
          have h2 : Q' o.length f.length = κ s.turn := by rw [e.1, e.2]; exact hQ1
          rw [h1, h2]
          exact ptop e.1.symm e.2.symm
        · rw [hset _ _ (Nat.le_refl _), if_neg e] at hr
          exact absurd he hr
    have close : ∀ (S : Srch) (K : Nat → Nat), InvK o f (some (s.x, s.y)) S G' Q' K → NextK o f S G' Q' K s.x s.y → InvK o f none S G' Q' K := by
      intro S K hS hN
      refine ⟨hS.heap, hS.uniq, hS.tle, hS.far, hS.ord, hS.ord2, hS.mono, hS.spots, hS.known, hS.start, ?_, hS.low, hS.lowS, hS.top⟩
      intro x y hx hy hr _
      by_cases e : x = s.x ∧ y = s.y
      · rw [e.1, e.2]; exact hN
      · exact hS.next x y hx hy hr (by simp only [ne_eq, Option.some.injEq, Prod.mk.injEq]; intro hh; exact e ⟨hh.1.symm, hh.2.symm⟩)
    split
    · rename_i hsame
      have hlt := same_lt o f hsame
      refine ⟨G', Q', κ, close _ _ (i0.push o f ⟨s.x + 1, s.y + 1, s.far, s.turn, 32⟩ st.turns hut ptn (Nat.le_refl _) ?_ hGle (.inr (.inl ⟨rfl, by simp, by simp, by simpa using hhere, by simpa using hsame, by simp [hG1], by simp [hQ1]⟩)) (plow.keep o f hsame)) ?_⟩
      · intro q hq
        obtain ⟨a, b, c, d⟩ := hrel q hq
        have hq' := (hmem q).2 (.inl hq)
        refine ⟨by simp only; omega, by simp only; omega, fun e => ⟨fun e2 => ?_, fun e2 => ?_⟩, fun e => d e, fun e => by simp only at e; omega⟩
        · have := (hmin1 q hq').2 e.symm
          simp only at e2
          omega
        · exact c e
      · unfold NextK
        rw [if_pos hsame]
        exact .inr ⟨⟨s.x + 1, s.y + 1, s.far, s.turn, 32⟩, (pushM_perm _ _).mem_iff.2 (by simp), rfl, rfl, by rw [hG1, hQ1]; exact .inr ⟨rfl, Nat.le_refl _⟩⟩
    · rename_i hsame
      have hsf : same o f s.x s.y = false := by simpa using hsame
      have key1 : ∃ (st2 : Srch) (κ2 : Nat → Nat), st2 = (if s.x < o.length then changeM f.length { op := popR st.op, turns := st.turns, led := st.led.set (idx f.length s.x s.y) s.kind } s 1 0 45 else { op := popR st.op, turns := st.turns, led := st.led.set (idx f.length s.x s.y) s.kind }) ∧
          κ2 s.turn = κ s.turn ∧ st.turns ≤ st2.turns ∧ InvK o f (some (s.x, s.y)) st2 G' Q' κ2 ∧ (s.x < o.length → NearK f st2 G' Q' κ2 (s.x + 1) s.y (s.far + 1) (2 * κ s.turn)) ∧ st2.led = st.led.set (idx f.length s.x s.y) s.kind ∧
          (∀ q ∈ st2.op, s.far ≤ q.far ∧ q.far ≤ s.far + 1 ∧ (q.far = s.far → κ2 s.turn < κ2 q.turn) ∧ (q.far = s.far + 1 → κ2 q.turn < 2 * κ s.turn + 1)) := by
        split
        · rename_i hxl
          obtain ⟨κ2, c1, c2, c3, c4, c5, c6, c7⟩ := i0.change o f s 1 0 45 (2 * κ s.turn) ptn (by omega) (by omega) (by omega) hrel hGle (.inr (.inr (.inl ⟨rfl, by omega, by simpa using hhere, by simpa using hsf, by simp [hG1], by simp [hQ1]⟩))) (by simpa using plow.drop o f hsf hxl py)
          exact ⟨_, κ2, rfl, c1 _ ptn, c5, c2, fun _ => by simpa using c3, c4, c7⟩
        · exact ⟨_, κ, rfl, rfl, Nat.le_refl _, i0, fun hh => absurd hh (by assumption), rfl, fun q hq => by
            obtain ⟨a, b, c, d⟩ := hrel q hq
            exact ⟨a, b, c, fun e => Nat.lt_succ_of_lt (d e)⟩⟩
      obtain ⟨st2, κ2, hst2, k1, k2, j1, j2, j3, j4⟩ := key1
      rw [← hst2]
      have hat2 : ∀ x y, st2.at f.length x y = Srch.at { op := popR st.op, turns := st.turns, led := st.led.set (idx f.length s.x s.y) s.kind } f.length x y := by intro x y; unfold Srch.at; rw [j3]
      split
      · rename_i hyl
        obtain ⟨κ3, c1, c2, c3, c4, c5, c6, c7⟩ := j1.change o f s 0 1 43 (2 * κ s.turn + 1) (by omega) (by omega) (by omega) (by omega) j4 (fun x y hx hy hr => by rw [k1]; exact hGle x y hx hy (by rw [← hat2]; exact hr)) (.inr (.inr (.inr ⟨rfl, by omega, by rw [hat2]; simpa using hhere, by simpa using hsf, by simp [hG1], by simp [hQ1]⟩))) (by simpa using plow.add o f hsf px hyl)
        refine ⟨G', Q', κ3, close _ _ c2 ?_⟩
        unfold NextK
        rw [if_neg hsame, hG1, hQ1]
        exact ⟨fun hx => c6 _ _ _ _ (j2 hx), fun _ => by simpa using c3⟩
      · rename_i hyl
        refine ⟨G', Q', κ2, close _ _ j1 ?_⟩
        unfold NextK
        rw [if_neg hsame, hG1, hQ1]
        exact ⟨j2, fun hy => absurd hy hyl⟩
  · rename_i h0
    refine ⟨G, Q, κ, ?_⟩
    have hnear : ∀ x y c k, x ≤ o.length → y ≤ f.length → NearK f st G Q κ x y c k → NearK f { op := popR st.op, turns := st.turns, led := st.led } G Q κ x y c k := by
      intro x y c k hx hy hn
      rcases hn with h1 | ⟨q, hq, e1, e2, e3⟩
      · exact .inl h1
      · rcases (hmem q).1 hq with hq' | rfl
        · exact .inr ⟨q, hq', e1, e2, e3⟩
        · left
          subst e1 e2
          refine ⟨h0, ?_⟩
          have := pm _ _ hx hy h0
          unfold le2 at *
          omega
    refine ⟨hh, hu1, fun q hq => h.tle q ((hmem q).2 (.inl hq)), fun q1 h1 q2 h2 => h.far q1 ((hmem q1).2 (.inl h1)) q2 ((hmem q2).2 (.inl h2)), fun q1 h1 q2 h2 => h.ord q1 ((hmem q1).2 (.inl h1)) q2 ((hmem q2).2 (.inl h2)), fun q1 h1 q2 h2 => h.ord2 q1 ((hmem q1).2 (.inl h1)) q2 ((hmem q2).2 (.inl h2)),
      fun x y hx hy hr q hq => h.mono x y hx hy hr q ((hmem q).2 (.inl hq)), fun q hq => h.spots q ((hmem q).2 (.inl hq)), h.known, hnear 0 0 0 0 (by omega) (by omega) h.start, ?_, h.low, fun q hq => h.lowS q ((hmem q).2 (.inl hq)), h.top⟩
    intro x y hx hy hr _
    have := h.next x y hx hy hr (by simp)
    unfold NextK at this ⊢
    split at this
    · rename_i hs'
      have hlt := same_lt o f hs'
      rw [if_pos hs']
      exact hnear _ _ _ _ (by omega) (by omega) this
    · rename_i hs'
      rw [if_neg hs']
      exact ⟨fun a => hnear _ _ _ _ (by omega) hy (this.1 a), fun a => hnear _ _ _ _ hx (by omega) (this.2 a)⟩

theorem startK : InvK o f none (startM o f) (fun _ _ => 0) (fun _ _ => 0) (fun _ => 0) := by
  have h0 : ∀ x y, (startM o f).at f.length x y = 0 := by
    intro x y
    simp [startM, Srch.at, List.getD, List.getElem?_replicate]
    split <;> rfl
  have hop : ∀ s ∈ (startM o f).op, s = ⟨0, 0, 0, 0, 46⟩ := by intro s hs; simpa [startM] using hs
  refine ⟨?_, by simp [startM], ?_, ?_, ?_, ?_, fun x y _ _ hr => absurd (h0 x y) hr, ?_, fun x y _ _ hr => absurd (h0 x y) hr, .inr ⟨⟨0, 0, 0, 0, 46⟩, by simp [startM], rfl, rfl, .inr ⟨rfl, Nat.le_refl _⟩⟩, fun x y _ _ hr => absurd (h0 x y) hr, fun x y _ _ hr => absurd (h0 x y) hr, ?_, fun hr => absurd (h0 _ _) hr⟩
  · intro i hi hl; simp [startM] at hl; omega
  · intro s hs; rw [hop s hs]; exact Nat.zero_le _
  · intro s hs q hq; rw [hop s hs, hop q hq]; simp
  · intro s hs q hq _ hlt; rw [hop s hs, hop q hq] at hlt; simp at hlt
  · intro s hs q hq e; rw [hop s hs, hop q hq] at e; simp at e
  · intro s hs; rw [hop s hs]; exact .inl ⟨rfl, rfl, rfl, rfl, rfl⟩
  · intro s hs; rw [hop s hs]; exact ⟨by simp [rd], fun _ => by simp [kb]⟩
theorem searchM_K : ∀ (k : Nat) (st : Srch) (G Q : Nat → Nat → Nat) (κ : Nat → Nat), Inv o f st → InvK o f none st G Q κ → ∃ G' Q' κ', InvK o f none (searchM o f k st) G' Q' κ' := by
  intro k
  induction k with
  | zero => intro st G Q κ _ hG; exact ⟨G, Q, κ, hG⟩
  | succ k ih =>
    intro st G Q κ hi hG
    by_cases he : st.at f.length o.length f.length = 0
    · simp only [searchM, he, if_true]
      obtain ⟨G1, Q1, κ1, hG1⟩ := hG.round o f hi he
      exact ih _ G1 Q1 κ1 (hi.round (hi.open_ne he)).1 hG1
    · rw [searchM_done he]; exact ⟨G, Q, κ, hG⟩
theorem backM_spec {st : Srch} {G Q : Nat → Nat → Nat} {κ : Nat → Nat} (h : InvK o f none st G Q κ) : ∀ (k x y : Nat), x + y ≤ k → x ≤ o.length → y ≤ f.length → st.at f.length x y ≠ 0 →
    G x y + rd o f x y = dist o f → Q x y * 2 ^ rd o f x y + kb o f x y = key o f → (backM o f st k x y).reverse ++ sp o f x y = spec o f := by
  intro k
  induction k with
  | zero =>
    intro x y hk _ _ _ _ _
    obtain rfl : x = 0 := by omega
    obtain rfl : y = 0 := by omega
    simp [backM, sp]
  | succ k ih =>
    intro x y hk hx hy hr hD hK
    unfold backM
    split
    · rename_i e
      rw [e.1, e.2]
      simp [sp]
    · rename_i hne
      have hc := h.known x y hx hy hr
      rcases hc with ⟨_, h1, h2, _⟩ | ⟨h1, h2, h3, h4, h5, h6, h7⟩ | ⟨h1, h2, h3, h4, h5, h6⟩ | ⟨h1, h2, h3, h4, h5, h6⟩
      · exact absurd ⟨h1, h2⟩ hne
      · rw [if_pos h1]
        obtain ⟨x, rfl⟩ : ∃ x', x = x' + 1 := ⟨x - 1, by omega⟩
        obtain ⟨y, rfl⟩ : ∃ y', y = y' + 1 := ⟨y - 1, by omega⟩
        simp only [Nat.add_sub_cancel] at *
        have hs := at_same o f h5
        have := ih x y (by omega) (by omega) (by omega) h4 (by rw [rd_same o f h5, ← h6]; exact hD) (by rw [rd_same o f h5, hs.1, ← h7]; exact hK)
        rw [hs.2] at this
        simpa using this
      · rw [if_neg (by omega), if_pos h1]
        obtain ⟨x, rfl⟩ : ∃ x', x = x' + 1 := ⟨x - 1, by omega⟩
        simp only [Nat.add_sub_cancel] at *
        have hl := (h.low x y (by omega) hy h3).1
        have hr1 := rd_x o f y (show x < o.length by omega)
        have hd : Drops o f x y := by
          by_cases hd : Drops o f x y
          · exact hd
          · have hy' : y < f.length := by
              by_cases ey : y < f.length
              · exact ey
              · exact absurd ⟨by omega, .inl (by omega)⟩ hd
            have := (at_add o f h4 (by omega) hy' hd).2.2.2 (by omega)
            omega
        obtain ⟨e1, e2, e3⟩ := at_drop o f h4 hy hd
        have := ih x y (by omega) (by omega) (by omega) h3 (by omega) (by rw [e1, e2, pw1, ← pw2, ← h6]; exact hK)
        rw [e3] at this
        simpa using this
      · rw [if_neg (by omega), if_neg (by omega), h1]
        obtain ⟨y, rfl⟩ : ∃ y', y = y' + 1 := ⟨y - 1, by omega⟩
        simp only [Nat.add_sub_cancel] at *
        have hl := h.low x y hx (by omega) h3
        have hl1 := hl.1
        have hr1 := rd_y o f x (show y < f.length by omega)
        have e0 : rd o f x y = rd o f x (y + 1) + 1 := by omega
        have hl2 := hl.2 (by omega)
        rw [e0, pw1] at hl2
        rw [h6, pw3] at hK
        have hd : ¬ Drops o f x y := by
          intro hd
          obtain ⟨e1, e2, _⟩ := at_drop o f h4 (by omega) hd
          have h8 := kb_lt o f (x + 1) y
          rw [show rd o f (x + 1) y = rd o f x (y + 1) by omega] at h8
          omega
        obtain ⟨e1, e2, e3, _⟩ := at_add o f h4 hx (by omega) hd
        have := ih x y (by omega) (by omega) (by omega) h3 (by omega) (by rw [e1, e2, pw1]; omega)
        rw [e3] at this
        simpa using this
/-- the way that is found is the one that the document asks for -/
theorem wayM_spec : wayM o f = spec o f := by
  obtain ⟨_, he⟩ := foundM_inv o f
  obtain ⟨G, Q, κ, hG⟩ := searchM_K o f (mu (startM o f)) (startM o f) _ _ _ (startM_inv o f) (startK o f)
  have hK : InvK o f none (foundM o f) G Q κ := hG
  have e3 : rd o f o.length f.length = 0 := by unfold rd; simp [dist_nil_l]
  have e4 : kb o f o.length f.length = 0 := by unfold kb; rw [List.drop_length, List.drop_length]; rfl
  have e5 : sp o f o.length f.length = [] := by unfold sp; rw [List.drop_length, List.drop_length]; rfl
  obtain ⟨t1, t2⟩ := hK.top he
  have hl := hK.low o.length f.length (Nat.le_refl _) (Nat.le_refl _) he
  have hl2 := hl.2 (by rw [e3, t1]; omega)
  rw [e3, e4] at hl2
  have := backM_spec o f hK (o.length + f.length) o.length f.length (Nat.le_refl _) (Nat.le_refl _) (Nat.le_refl _) he (by rw [e3, t1]; omega) (by rw [e3, e4]; simp at hl2 ⊢; omega)
  rw [e5] at this
  unfold wayM
  simpa using this
end
end Dn

namespace Go.Proofs.YtcclgodahlinbaaGreatDoor
open Go.RowKit Go
set_option maxRecDepth 100000

/-! ### ways between texts whose lines are all different -/
section
variable {α : Type} [DecidableEq α]
theorem dist_new_r : ∀ (l r : List α) (b : α), b ∉ l → Dn.dist l (b :: r) = Dn.dist l r + 1
  | [], r, b, _ => by rw [Dn.dist_nil_l, Dn.dist_nil_l]; simp
  | c :: l, r, b, h => by
    have hne : c ≠ b := fun e => h (by simp [e])
    have ih := dist_new_r l r b (fun e => h (List.mem_cons_of_mem _ e))
    have h1 := Dn.dist_l1 c l r
    rw [Dn.dist_ne hne, ih]
    omega
theorem dist_new_l (l r : List α) (a : α) (h : a ∉ r) : Dn.dist (a :: l) r = Dn.dist l r + 1 := by
  rw [Dn.dist_comm _ _ _ (Nat.le_refl _), dist_new_r r l a h, Dn.dist_comm _ _ _ (Nat.le_refl _)]
theorem dist_self (l : List α) : Dn.dist l l = 0 := by
  induction l with
  | nil => rw [Dn.dist_nil_l]; rfl
  | cons a l ih => rw [Dn.dist_same, ih]
theorem spec_keep (a : α) (l r : List α) : Dn.spec (a :: l) (a :: r) = ⟨32, a⟩ :: Dn.spec l r := by rw [Dn.spec_cc, if_pos rfl]
theorem spec_keeps (A l r : List α) : Dn.spec (A ++ l) (A ++ r) = A.map (fun a => ⟨32, a⟩) ++ Dn.spec l r := by
  induction A with
  | nil => rfl
  | cons a A ih => rw [List.cons_append, List.cons_append, spec_keep, ih]; rfl
theorem spec_self (l : List α) : Dn.spec l l = l.map (fun a => ⟨32, a⟩) := by
  have := spec_keeps l [] []
  rw [List.append_nil] at this
  rw [this, Dn.spec_nn, List.append_nil]
theorem spec_drop {a b : α} {l r : List α} (h : a ≠ b) (hd : Dn.dist l (b :: r) ≤ Dn.dist (a :: l) r) : Dn.spec (a :: l) (b :: r) = ⟨45, a⟩ :: Dn.spec l (b :: r) := by rw [Dn.spec_cc, if_neg h, if_pos hd]
theorem spec_add {a b : α} {l r : List α} (h : a ≠ b) (hd : ¬ Dn.dist l (b :: r) ≤ Dn.dist (a :: l) r) : Dn.spec (a :: l) (b :: r) = ⟨43, b⟩ :: Dn.spec (a :: l) r := by rw [Dn.spec_cc, if_neg h, if_neg hd]
/-- a line in another's place -/
theorem spec_change {a b m : α} {l r : List α} (h1 : a ≠ b) (h2 : a ∉ m :: r) (h3 : b ∉ m :: l) (h4 : m ∉ l) : Dn.spec (a :: m :: l) (b :: m :: r) = ⟨45, a⟩ :: ⟨43, b⟩ :: Dn.spec (m :: l) (m :: r) := by
  rw [spec_drop h1 (by rw [dist_new_r _ _ _ h3, dist_new_l _ _ _ h2]; exact Nat.le_refl _)]
  rw [spec_add (fun e => h3 (by simp [e])) (by rw [dist_new_r _ _ _ (fun e => h3 (List.mem_cons_of_mem _ e)), dist_new_r _ _ _ h4, Dn.dist_same]; omega)]
theorem spec_last {a b : α} (h : a ≠ b) : Dn.spec [a] [b] = [⟨45, a⟩, ⟨43, b⟩] := by
  rw [spec_drop h (by rw [Dn.dist_nil_l, Dn.dist_nil_r]; exact Nat.le_refl _), Dn.spec_nc, Dn.spec_nn]
/-- a line more -/
theorem spec_more {m : α} {B : List α} (h : m ∉ B) (hn : B.Nodup) : Dn.spec B (m :: B) = ⟨43, m⟩ :: B.map (fun a => ⟨32, a⟩) := by
  cases B with
  | nil => rfl
  | cons b B =>
    rw [List.nodup_cons] at hn
    rw [spec_add (fun e => h (by simp [e])) (by rw [dist_new_r _ _ _ (fun e => h (List.mem_cons_of_mem _ e)), dist_new_r _ _ _ hn.1, dist_self, dist_self]; omega), spec_self]
/-- a line less -/
theorem spec_less {c : α} {B : List α} (h : c ∉ B) : Dn.spec (c :: B) B = ⟨45, c⟩ :: B.map (fun a => ⟨32, a⟩) := by
  cases B with
  | nil => rfl
  | cons b B =>
    rw [spec_drop (fun e => h (by simp [e])) (by rw [dist_self]; omega), spec_self]
end

/-! ### Diff and Apply of lines -/
theorem diff_text {L R : List ByteArray} {c : Nat} {m : Int} {w : World} (h : Plain L) (h1 : L.length ≤ 200) (h2 : (textL L).length ≤ 8000) (g : Plain R) (g1 : R.length ≤ 200) (g2 : (textL R).length ≤ 8000) (hc : c ≤ 10)
    (hm : w.cell? ⟨0, 0, none⟩ = some (.int .i64 m)) :
    Calls Tryz.prog 12 #[.string (textB L), .string (textB R), .int .i64 c] w fun e w' =>
      ∃ a cap, e = .returned (.tuple #[.agg #[.slice a (hunksM (Dn.wayM L R) c).length cap], .int .i64 0]) ∧ HunksAt w'.heap.size w' (.slice a (hunksM (Dn.wayM L R) c).length cap) (hunksM (Dn.wayM L R) c) ∧ Below w.heap.size w w' := by
  have e1 : (textB L).size = (textL L).length := rfl
  have e2 : (textB R).size = (textL R).length := rfl
  have := diff_at (checkB_text h h1 h2 g g1 g2 hc) (by omega) (by omega) hm
  unfold diffM at this
  rw [linesB_text h, linesB_text g] at this
  exact this
theorem apply_text {T : List ByteArray} {hs : List HunkM} {fz : Nat} {a : Option Addr} {cap : Nat} {m : Int} {w : World} (h : Plain T) (h1 : T.length ≤ 200) (h2 : (textL T).length ≤ 8000) (hf : fz ≤ 10)
    (hH : HunksAt w.heap.size w (.slice a hs.length cap) hs) (hr : rightM 0 0 hs = true) (hl : hs.length ≤ 1000) (hh : hs.all hunkOkB = true) (hm : w.cell? ⟨0, 0, none⟩ = some (.int .i64 m)) (hm0 : 0 < w.heap.size) :
    Calls Tryz.prog 14 #[.string (textB T), .agg #[.slice a hs.length cap], .int .i64 fz] w fun e w' =>
      ∃ a' c', e = .returned (.tuple #[.string (applyT T fz hs), .slice a' hs.length c', .int .i64 0]) ∧ SeamsAt w' (.slice a' hs.length c') (applyS T fz hs) ∧ Below w.heap.size w w' := by
  have e1 : (textB T).size = (textL T).length := rfl
  rw [List.all_eq_true] at hh
  have := apply_at (isTextB_text T) (largeB_text h h1 h2) hf hH hr hl (by omega) hm hm0 (fun x hx => hunkOk_of (hh x hx)) (by rw [linesB_text h]; omega) (by rw [linesB_text h]; omega)
  rw [linesB_text h] at this
  exact this

/-! ### fuzz beyond the keeps at the ends changes nothing -/
theorem sewM_rounds {T : List ByteArray} {s : SewS} {h : HunkM} {f g : Nat} (e : sewRounds h f = sewRounds h g) : sewM T s h f = sewM T s h g := by
  unfold sewM sewFind
  rw [e]
theorem applyFrom_rounds {T : List ByteArray} {f g : Nat} : ∀ (hs : List HunkM) (s : SewS), (∀ h ∈ hs, sewRounds h f = sewRounds h g) → applyFrom T f s hs = applyFrom T g s hs
  | [], _, _ => rfl
  | h :: hs, s, e => by
    unfold applyFrom
    simp only
    rw [sewM_rounds (e h (by simp)), applyFrom_rounds hs _ (fun x hx => e x (List.mem_cons_of_mem _ hx))]
theorem apply_rounds {T : List ByteArray} {f g : Nat} {hs : List HunkM} (e : ∀ h ∈ hs, sewRounds h f = sewRounds h g) : applyT T f hs = applyT T g hs ∧ applyS T f hs = applyS T g hs := by
  unfold applyT applyS applyK
  rw [List.take_length, applyFrom_rounds hs _ e]
  exact ⟨rfl, rfl⟩

/-! ### the lines of Left and Apart -/
def lineB (i : Nat) : ByteArray := ⟨#[108, 105, 110, 101, 32, UInt8.ofNat (97 + i / 10), UInt8.ofNat (48 + i % 10)]⟩
def lineOk (i : Nat) : Bool := !(lineB i).data.toList.contains 10
def lineNe (i : Nat) : Bool := (List.range 60).all fun j => decide (i = j) || decide (lineB i ≠ lineB j)
theorem lines_ok : (List.range 60).all lineOk = true := by kernel_rfl
theorem lines_ne : (List.range 60).all lineNe = true := by kernel_rfl
theorem lineB_ok {i : Nat} (h : i < 60) : (10 : UInt8) ∉ (lineB i).data.toList := by
  have h1 := (List.all_eq_true.1 lines_ok) i (List.mem_range.2 h)
  unfold lineOk at h1
  simpa using h1
theorem lineB_inj {i j : Nat} (hi : i < 60) (hj : j < 60) (e : lineB i = lineB j) : i = j := by
  have h1 := (List.all_eq_true.1 lines_ne) i (List.mem_range.2 hi)
  unfold lineNe at h1
  have h2 := (List.all_eq_true.1 h1) j (List.mem_range.2 hj)
  simp only [Bool.or_eq_true, decide_eq_true_eq] at h2
  rcases h2 with h2 | h2
  · exact h2
  · exact absurd e h2
def xL (n : Nat) : List ByteArray := (List.range n).map lineB
theorem xL_length (n : Nat) : (xL n).length = n := by simp [xL]
theorem xL_succ (n : Nat) : xL (n + 1) = xL n ++ [lineB n] := by unfold xL; rw [List.range_succ, List.map_append]; rfl
theorem xL_plain {n : Nat} (h : n ≤ 60) : Plain (xL n) := by
  intro s hs
  obtain ⟨i, hi, rfl⟩ := List.mem_map.1 hs
  exact lineB_ok (by have := List.mem_range.1 hi; omega)
theorem textL_bound (L : List ByteArray) (k : Nat) (h : ∀ s ∈ L, s.size ≤ k) : (textL L).length ≤ L.length * (k + 1) := by
  induction L with
  | nil => simp [textL]
  | cons x l ih =>
    have e : textL (x :: l) = (x.data.toList ++ [10]) ++ textL l := rfl
    have h1 := ih (fun s hs => h s (List.mem_cons_of_mem _ hs))
    have h2 : x.data.toList.length = x.size := rfl
    have h3 := h x (by simp)
    rw [e]
    simp only [List.length_append, List.length_cons, List.length_nil, Nat.add_mul]
    omega
end Go.Proofs.YtcclgodahlinbaaGreatDoor

namespace Go.Proofs.YtcclgodahlinbaaGreatDoor
open Go.RowKit Go
set_option maxRecDepth 100000

def firstB : ByteArray := ⟨#[102, 105, 114, 115, 116]⟩
def lastB : ByteArray := ⟨#[108, 97, 115, 116]⟩
def goneB : ByteArray := ⟨#[103, 111, 110, 101]⟩
def yL (n : Nat) : List ByteArray := ((xL n).set 0 firstB).set (n - 1) lastB
def leftZ (g n : Nat) : List ByteArray := if g = 0 then (xL n).set 0 goneB else (xL n).set (n - 1) goneB
def leftT (g n : Nat) : List ByteArray := if g = 0 then (yL n).set 0 goneB else (yL n).set (n - 1) goneB
def leftM (n : Nat) : List ByteArray := (List.range (n - 3)).map fun i => lineB (i + 2)
def leftW (n : Nat) : List StepB := ⟨45, lineB 0⟩ :: ⟨43, firstB⟩ :: ((lineB 1 :: leftM n).map (fun a => ⟨32, a⟩) ++ [⟨45, lineB (n - 1)⟩, ⟨43, lastB⟩])
def leftH (n : Nat) : List HunkM := [⟨1, 2, 1, 2, [⟨45, lineB 0⟩, ⟨43, firstB⟩, ⟨32, lineB 1⟩]⟩, ⟨n - 1, 2, n - 1, 2, [⟨32, lineB (n - 2)⟩, ⟨45, lineB (n - 1)⟩, ⟨43, lastB⟩]⟩]
def leftS (g : Nat) : List SeamM := if g = 0 then [⟨false, 0, 0⟩, ⟨true, 0, 0⟩] else [⟨true, 0, 0⟩, ⟨false, 0, 0⟩]

def eqS (a b : StepB) : Bool := decide (a.kind = b.kind) && decide (a.text = b.text)
def eqLs : List StepB → List StepB → Bool
  | [], [] => true
  | a :: l, b :: r => eqS a b && eqLs l r
  | _, _ => false
def eqH (a b : HunkM) : Bool := decide (a.fr = b.fr) && decide (a.fc = b.fc) && decide (a.tr = b.tr) && decide (a.tc = b.tc) && eqLs a.lines b.lines
def eqHs : List HunkM → List HunkM → Bool
  | [], [] => true
  | a :: l, b :: r => eqH a b && eqHs l r
  | _, _ => false
theorem eqS_of {a b : StepB} (h : eqS a b = true) : a = b := by
  obtain ⟨k, t⟩ := a
  obtain ⟨k', t'⟩ := b
  unfold eqS at h
  simp only [Bool.and_eq_true, decide_eq_true_eq] at h
  rw [h.1, h.2]
theorem eqLs_of : ∀ {l r : List StepB}, eqLs l r = true → l = r
  | [], [], _ => rfl
  | [], _ :: _, h => by simp [eqLs] at h
  | _ :: _, [], h => by simp [eqLs] at h
  | a :: l, b :: r, h => by
    simp only [eqLs, Bool.and_eq_true] at h
    rw [eqS_of h.1, eqLs_of h.2]
theorem eqH_of {a b : HunkM} (h : eqH a b = true) : a = b := by
  obtain ⟨a1, a2, a3, a4, a5⟩ := a
  obtain ⟨b1, b2, b3, b4, b5⟩ := b
  unfold eqH at h
  simp only [Bool.and_eq_true, decide_eq_true_eq] at h
  obtain ⟨⟨⟨⟨h1, h2⟩, h3⟩, h4⟩, h5⟩ := h
  rw [h1, h2, h3, h4, eqLs_of h5]
theorem eqHs_of : ∀ {l r : List HunkM}, eqHs l r = true → l = r
  | [], [], _ => rfl
  | [], _ :: _, h => by simp [eqHs] at h
  | _ :: _, [], h => by simp [eqHs] at h
  | a :: l, b :: r, h => by
    simp only [eqHs, Bool.and_eq_true] at h
    rw [eqH_of h.1, eqHs_of h.2]

def outB (a : ByteArray) (L : List ByteArray) : Bool := L.all fun x => decide (x ≠ a)
theorem out_of {a : ByteArray} {L : List ByteArray} (h : outB a L = true) : a ∉ L := by
  intro ha
  have := (List.all_eq_true.1 h) a ha
  simp at this
def plainB (L : List ByteArray) : Bool := L.all fun s => !s.data.toList.contains 10
theorem plain_of {L : List ByteArray} (h : plainB L = true) : Plain L := by
  intro s hs
  have := (List.all_eq_true.1 h) s hs
  simpa using this
def fitB (L : List ByteArray) : Bool := plainB L && decide (L.length ≤ 200) && decide ((textL L).length ≤ 8000)
/-- the text that Apply makes, as bytes -/
def applyL (T : List ByteArray) (fz : Nat) (hs : List HunkM) : List UInt8 := (applyK T fz hs hs.length).1.t ++ textL (T.drop (applyK T fz hs hs.length).1.en)
theorem applyT_of {T : List ByteArray} {fz : Nat} {hs : List HunkM} {L : List ByteArray} (h : applyL T fz hs = textL L) : applyT T fz hs = textB L := by
  unfold applyT textB
  rw [← h]
  rfl
def eqU : List UInt8 → List UInt8 → Bool
  | [], [] => true
  | a :: l, b :: r => decide (a = b) && eqU l r
  | _, _ => false
theorem eqU_of : ∀ {l r : List UInt8}, eqU l r = true → l = r
  | [], [], _ => rfl
  | [], _ :: _, h => by simp [eqU] at h
  | _ :: _, [], h => by simp [eqU] at h
  | a :: l, b :: r, h => by
    simp only [eqU, Bool.and_eq_true, decide_eq_true_eq] at h
    rw [h.1, eqU_of h.2]
/-- one case of Left, but for the fuzz -/
def leftOne (n : Nat) : Bool :=
  decide (xL n = lineB 0 :: lineB 1 :: (leftM n ++ [lineB (n - 1)])) && decide (yL n = firstB :: lineB 1 :: (leftM n ++ [lastB])) &&
  outB (lineB 0) (lineB 1 :: (leftM n ++ [lastB])) && outB firstB (lineB 1 :: (leftM n ++ [lineB (n - 1)])) && outB (lineB 1) (leftM n ++ [lineB (n - 1)]) && decide (lineB (n - 1) ≠ lastB) && decide (lineB 0 ≠ firstB) &&
  eqHs (hunksM (leftW n) 1) (leftH n) && fitB (xL n) && fitB (yL n) && rightM 0 0 (leftH n) && (leftH n).all hunkOkB && (leftH n).all (fun h => decide (max (keepsK h.lines h.lines.length).1 (keepsK h.lines h.lines.length).2.1 ≤ 1)) &&
  (List.range 2).all fun g => fitB (leftZ g n) && decide ((textL (leftT g n)).length ≤ 8000) && (List.range 2).all fun f => eqU (applyL (leftZ g n) f (leftH n)) (textL (leftT g n)) && (letI := seamDec; decide (applyS (leftZ g n) f (leftH n) = leftS g))
theorem left_all : ((List.range 30).all fun i => leftOne (i + 8)) = true := by kernel_rfl
theorem fit_of {L : List ByteArray} (h : fitB L = true) : Plain L ∧ L.length ≤ 200 ∧ (textL L).length ≤ 8000 := by
  unfold fitB at h
  simp only [Bool.and_eq_true, decide_eq_true_eq] at h
  exact ⟨plain_of h.1.1, h.1.2, h.2⟩
structure LeftFacts (n g f : Nat) : Prop where
  way : hunksM (Dn.wayM (xL n) (yL n)) 1 = leftH n
  fx : Plain (xL n) ∧ (xL n).length ≤ 200 ∧ (textL (xL n)).length ≤ 8000
  fy : Plain (yL n) ∧ (yL n).length ≤ 200 ∧ (textL (yL n)).length ≤ 8000
  fz : Plain (leftZ g n) ∧ (leftZ g n).length ≤ 200 ∧ (textL (leftZ g n)).length ≤ 8000
  ft : (textL (leftT g n)).length ≤ 8000
  right : rightM 0 0 (leftH n) = true
  ok : (leftH n).all hunkOkB = true
  text : applyT (leftZ g n) f (leftH n) = textB (leftT g n)
  seams : applyS (leftZ g n) f (leftH n) = leftS g
theorem left_facts {i g f : Nat} (hi : i < 30) (hg : g < 2) : LeftFacts (8 + i) g f := by
  have h := (List.all_eq_true.1 left_all) i (List.mem_range.2 hi)
  rw [Nat.add_comm i 8] at h
  generalize 8 + i = n at h ⊢
  unfold leftOne at h
  simp only [Bool.and_eq_true, decide_eq_true_eq] at h
  obtain ⟨⟨⟨⟨⟨⟨⟨⟨⟨⟨⟨⟨⟨h1, h2⟩, h3⟩, h4⟩, h5⟩, h6⟩, h7⟩, h8⟩, h9⟩, h10⟩, h11⟩, h12⟩, h13⟩, h14⟩ := h
  have h15 := (List.all_eq_true.1 h14) g (List.mem_range.2 hg)
  simp only [Bool.and_eq_true, decide_eq_true_eq] at h15
  obtain ⟨⟨k1, k2⟩, k3⟩ := h15
  have k4 := (List.all_eq_true.1 k3) (min f 1) (List.mem_range.2 (by omega))
  simp only [Bool.and_eq_true, decide_eq_true_eq] at k4
  have hr : ∀ h ∈ leftH n, sewRounds h f = sewRounds h (min f 1) := by
    intro h hh
    have := (List.all_eq_true.1 h13) h hh
    simp only [decide_eq_true_eq] at this
    unfold sewRounds
    omega
  obtain ⟨r1, r2⟩ := apply_rounds (T := leftZ g n) hr
  refine ⟨?_, fit_of h9, fit_of h10, fit_of k1, k2, h11, h12, by rw [r1]; exact applyT_of (eqU_of k4.1), by rw [r2]; exact k4.2⟩
  have hw : Dn.wayM (xL n) (yL n) = leftW n := by
    rw [Dn.wayM_spec, h1, h2, spec_change h7 (out_of h3) (out_of h4) (out_of h5)]
    have := spec_keeps (lineB 1 :: leftM n) [lineB (n - 1)] [lastB]
    rw [spec_last h6] at this
    unfold leftW
    rw [← this]
    rfl
  rw [hw]
  exact eqHs_of h8
end Go.Proofs.YtcclgodahlinbaaGreatDoor

namespace Go.Proofs.YtcclgodahlinbaaGreatDoor
open Go.RowKit Go
set_option maxRecDepth 100000

/-! ### hunks as windows of a way -/
def cO (l : List StepB) : Nat := (Dn.oldOf l).length
def cN (l : List StepB) : Nat := (Dn.newOf l).length
theorem cO_append (a b : List StepB) : cO (a ++ b) = cO a + cO b := by unfold cO; rw [Dn.oldOf_append, List.length_append]
theorem cN_append (a b : List StepB) : cN (a ++ b) = cN a + cN b := by unfold cN; rw [Dn.newOf_append, List.length_append]
theorem cO_one (s : StepB) : cO [s] = if s.kind = 43 then 0 else 1 := by
  unfold cO Dn.oldOf
  by_cases h : s.kind = 43
  · simp [h]
  · simp [h]
theorem cN_one (s : StepB) : cN [s] = if s.kind = 45 then 0 else 1 := by
  unfold cN Dn.newOf
  by_cases h : s.kind = 45
  · simp [h]
  · simp [h]
def mkH (og fg : Nat) (M : List StepB) : HunkM := ⟨og, cO M, fg, cN M, M⟩
theorem addL_mk (og fg : Nat) (M : List StepB) (s : StepB) : addL (mkH og fg M) s = mkH og fg (M ++ [s]) := by
  unfold addL mkH
  simp only [cO_append, cN_append, cO_one, cN_one]
theorem foldH_gone (L : List StepB) (nb : List Bool) : ∀ k, k ≤ L.length → (foldH L nb k).og = cO (L.take k) ∧ (foldH L nb k).fg = cN (L.take k) := by
  intro k
  induction k with
  | zero => intro _; exact ⟨rfl, rfl⟩
  | succ k ih =>
    intro hk
    obtain ⟨i1, i2⟩ := ih (by omega)
    rw [foldH_succ (by omega), List.take_succ_eq_append_getElem (by omega), cO_append, cN_append, cO_one, cN_one, ← i1, ← i2]
    exact ⟨rfl, rfl⟩
theorem foldH_quiet {L : List StepB} {nb : List Bool} {i : Nat} : ∀ k, i ≤ k → k ≤ L.length → (∀ j, i ≤ j → j < k → nb.getD j false = false) → (foldH L nb k).hs = (foldH L nb i).hs := by
  intro k
  induction k with
  | zero => intro h _ _; obtain rfl : i = 0 := by omega
            rfl
  | succ k ih =>
    intro h1 h2 h3
    by_cases e : i = k + 1
    · rw [e]
    · rw [← ih (by omega) (by omega) (fun j a b => h3 j a (by omega)), foldH_succ (by omega)]
      show stepHs _ _ _ _ = _
      unfold stepHs
      rw [h3 k (by omega) (by omega), if_neg (by simp)]
theorem foldH_run {L : List StepB} {nb : List Bool} {i : Nat} (h0 : i = 0 ∨ nb.getD (i - 1) false = false) : ∀ k, i < k → k ≤ L.length → (∀ j, i ≤ j → j < k → nb.getD j false = true) →
    (foldH L nb k).hs = (foldH L nb i).hs ++ [mkH (cO (L.take i)) (cN (L.take i)) ((L.take k).drop i)] := by
  intro k
  induction k with
  | zero => intro h _ _; omega
  | succ k ih =>
    intro h1 h2 h3
    have hk : k < L.length := by omega
    obtain ⟨g1, g2⟩ := foldH_gone L nb k (by omega)
    rw [foldH_succ hk]
    show stepHs _ _ _ _ = _
    unfold stepHs
    rw [h3 k (by omega) (by omega), if_pos rfl]
    have e1 : (L.take (k + 1)).drop i = (L.take k).drop i ++ [L[k]] := by
      rw [List.take_succ_eq_append_getElem hk, List.drop_append_of_le_length (by rw [List.length_take]; omega)]
    by_cases e : i = k
    · subst e
      have hpb : (decide (0 < i) && nb.getD (i - 1) false) = false := by
        rcases h0 with h0 | h0
        · subst h0; rfl
        · rw [h0, Bool.and_false]
      rw [hpb, if_neg (by simp), lastAdd_append, g1, g2, e1, List.drop_eq_nil_of_le (by rw [List.length_take]; omega)]
      have : newHunk (cO (L.take i)) (cN (L.take i)) = mkH (cO (L.take i)) (cN (L.take i)) [] := rfl
      rw [this, addL_mk]
    · have hpb : (decide (0 < k) && nb.getD (k - 1) false) = true := by rw [h3 (k - 1) (by omega) (by omega)]; simp; omega
      rw [hpb, if_pos rfl, ih (by omega) (by omega) (fun j a b => h3 j a (by omega)), lastAdd_append, addL_mk, e1]

def keeps (l : List ByteArray) : List StepB := l.map fun a => ⟨32, a⟩
theorem keeps_append (a b : List ByteArray) : keeps (a ++ b) = keeps a ++ keeps b := List.map_append
theorem keeps_length (a : List ByteArray) : (keeps a).length = a.length := List.length_map _
theorem keeps_kind {l : List ByteArray} {s : StepB} (h : s ∈ keeps l) : s.kind = 32 := by
  obtain ⟨a, _, rfl⟩ := List.mem_map.1 h
  rfl
theorem oldOf_keeps (a : List ByteArray) : Dn.oldOf (keeps a) = a := by
  induction a with
  | nil => rfl
  | cons x a ih => have e : keeps (x :: a) = [⟨32, x⟩] ++ keeps a := rfl
                   rw [e, Dn.oldOf_append, ih]; rfl
theorem newOf_keeps (a : List ByteArray) : Dn.newOf (keeps a) = a := by
  induction a with
  | nil => rfl
  | cons x a ih => have e : keeps (x :: a) = [⟨32, x⟩] ++ keeps a := rfl
                   rw [e, Dn.newOf_append, ih]; rfl
theorem cO_keeps (a : List ByteArray) : cO (keeps a) = a.length := by unfold cO; rw [oldOf_keeps]
theorem cN_keeps (a : List ByteArray) : cN (keeps a) = a.length := by unfold cN; rw [newOf_keeps]

theorem nearU_one {L : List StepB} {c t j : Nat} (hc : c < L.length) (h1 : L[c].kind ≠ 32) (h2 : ∀ i (h : i < L.length), L[i].kind ≠ 32 → i = c) : nearU L t L.length j = decide (c ≤ j + t ∧ j ≤ c + t) := by
  unfold nearU
  rw [List.take_length]
  by_cases hd : c ≤ j + t ∧ j ≤ c + t
  · rw [decide_eq_true hd, List.any_eq_true]
    refine ⟨(L[c], c), ?_, by simp [h1, hd.1, hd.2]⟩
    rw [List.mem_zipIdx_iff_getElem?]
    simp [hc]
  · rw [decide_eq_false hd, List.any_eq_false]
    rintro ⟨s, i⟩ hs
    rw [List.mem_zipIdx_iff_getElem?] at hs
    obtain ⟨hi, e⟩ := List.getElem?_eq_some_iff.1 hs
    simp only at e hi
    by_cases hk : s.kind = 32
    · simp [hk]
    · have := h2 i hi (by rw [e]; exact hk)
      subst this
      simp only [Bool.and_eq_true, decide_eq_true_eq, not_and]
      rintro ⟨_, h3⟩ h4
      exact hd ⟨h3, h4⟩
/-- a way with one change has one hunk: the change and two keeps at each side, where there are two -/
theorem hunks_one {P K1 K2 S : List ByteArray} {ch : StepB} (hch : ch.kind ≠ 32) (h1 : K1.length = 2 ∨ (K1.length ≤ 2 ∧ P = [])) (h2 : K2.length = 2 ∨ (K2.length ≤ 2 ∧ S = [])) :
    hunksM (keeps (P ++ K1) ++ ch :: keeps (K2 ++ S)) 2 = [numL (mkH P.length P.length (keeps K1 ++ ch :: keeps K2))] := by
  generalize hL : keeps (P ++ K1) ++ ch :: keeps (K2 ++ S) = L
  have hlen : L.length = P.length + K1.length + 1 + K2.length + S.length := by rw [← hL]; simp [keeps]; omega
  have hcl : P.length + K1.length < L.length := by omega
  have hLc : L[P.length + K1.length] = ch := by
    subst hL
    rw [List.getElem_append_right (by rw [keeps_length]; simp)]
    simp [keeps]
  have hLo : ∀ i (h : i < L.length), L[i].kind ≠ 32 → i = P.length + K1.length := by
    intro i hi hk
    by_cases e : i = P.length + K1.length
    · exact e
    · exfalso
      apply hk
      subst hL
      by_cases e2 : i < P.length + K1.length
      · rw [List.getElem_append_left (by rw [keeps_length]; simpa using e2)]
        exact keeps_kind (List.getElem_mem _)
      · rw [List.getElem_append_right (by rw [keeps_length]; simp; omega)]
        obtain ⟨t, ht⟩ : ∃ t, i - (keeps (P ++ K1)).length = t + 1 := ⟨i - (P.length + K1.length) - 1, by rw [keeps_length, List.length_append]; omega⟩
        simp only [ht, List.getElem_cons_succ]
        exact keeps_kind (List.getElem_mem _)
  have hnear : ∀ j, j < L.length → (nearB L 2).getD j false = decide (P.length + K1.length ≤ j + 2 ∧ j ≤ P.length + K1.length + 2) := by
    intro j hj
    have e : (nearB L 2).getD j false = nearU L 2 L.length j := by simp [nearB, List.getD, hj]
    rw [e, nearU_one hcl (by rw [hLc]; exact hch) hLo]
  have ha : ∀ j, j < P.length → (nearB L 2).getD j false = false := by
    intro j hj
    rw [hnear j (by omega)]
    have : P ≠ [] := by intro e; rw [e] at hj; simp at hj
    have hK : K1.length = 2 := by rcases h1 with h1 | h1
                                  · exact h1
                                  · exact absurd h1.2 this
    simp
    omega
  have hb : ∀ j, P.length ≤ j → j < P.length + K1.length + 1 + K2.length → (nearB L 2).getD j false = true := by
    intro j hj hj2
    rw [hnear j (by omega)]
    simp
    omega
  have hc : ∀ j, P.length + K1.length + 1 + K2.length ≤ j → j < L.length → (nearB L 2).getD j false = false := by
    intro j hj hj2
    rw [hnear j hj2]
    have : S ≠ [] := by intro e; rw [e] at hlen; simp at hlen; omega
    have hK : K2.length = 2 := by rcases h2 with h2 | h2
                                  · exact h2
                                  · exact absurd h2.2 this
    simp
    omega
  have q1 := foldH_quiet (L := L) (nb := nearB L 2) (i := 0) P.length (Nat.zero_le _) (by omega) (fun j _ h => ha j h)
  have q2 := foldH_run (L := L) (nb := nearB L 2) (i := P.length) (by
    by_cases e : P.length = 0
    · exact .inl e
    · exact .inr (ha _ (by omega))) (P.length + K1.length + 1 + K2.length) (by omega) (by omega) hb
  have q3 := foldH_quiet (L := L) (nb := nearB L 2) (i := P.length + K1.length + 1 + K2.length) L.length (by omega) (Nat.le_refl _) hc
  have t1 : L.take P.length = keeps P := by
    subst hL
    rw [keeps_append, List.append_assoc, List.take_append_of_le_length (by rw [keeps_length]; exact Nat.le_refl _), ← keeps_length P, List.take_length]
  have t2 : (L.take (P.length + K1.length + 1 + K2.length)).drop P.length = keeps K1 ++ ch :: keeps K2 := by
    have e : L = keeps P ++ ((keeps K1 ++ ch :: keeps K2) ++ keeps S) := by rw [← hL]; simp [keeps]
    have e2 : P.length + K1.length + 1 + K2.length = (keeps P).length + (keeps K1 ++ ch :: keeps K2).length := by simp [keeps]; omega
    rw [e2, e, List.take_length_add_append, List.take_append_of_le_length (Nat.le_refl _), List.take_length]
    conv => lhs; rw [show P.length = (keeps P).length from (keeps_length P).symm]
    rw [List.drop_left']
    rfl
  unfold hunksM
  rw [q3, q2, q1, t1, t2, cO_keeps, cN_keeps]
  rfl
end Go.Proofs.YtcclgodahlinbaaGreatDoor

namespace Go.Proofs.YtcclgodahlinbaaGreatDoor
open Go.RowKit Go
set_option maxRecDepth 100000

theorem pieceO_zero (L : List StepB) : pieceO L 0 = Dn.oldOf L := by unfold pieceO; simp
theorem pieceF_zero (L : List StepB) : pieceF L 0 = Dn.newOf L := by unfold pieceF; simp
theorem sewRounds_zero (h : HunkM) : sewRounds h 0 = 1 := by unfold sewRounds; simp
/-- one hunk sewn in with no fuzz -/
theorem apply_one {T : List ByteArray} {h : HunkM} {x : Nat} (hx : sewAt T 0 0 h 0 = some (x : Int)) :
    applyL T 0 [h] = textL (T.take x) ++ textL (Dn.newOf h.lines) ++ textL (T.drop (x + (Dn.oldOf h.lines).length)) ∧ applyS T 0 [h] = [⟨true, (x : Int) - (placeM h.fr h.fc : Nat), 0⟩] := by
  have e : sewM T ⟨[], 0, 0⟩ h 0 = (sewTo T ⟨[], 0, 0⟩ h 0 x, ⟨true, (x : Int) - (placeM h.fr h.fc : Nat), 0⟩) := by
    unfold sewM sewFind
    rw [sewRounds_zero]
    unfold sewFrom
    simp only [hx]
  have e2 : applyK T 0 [h] [h].length = (sewTo T ⟨[], 0, 0⟩ h 0 x, [⟨true, (x : Int) - (placeM h.fr h.fc : Nat), 0⟩]) := by
    unfold applyK applyFrom
    simp only [List.take_length, e]
    rfl
  unfold applyL applyS
  rw [e2]
  unfold sewTo
  rw [pieceF_zero, pieceO_zero]
  simp
theorem stand_yes {P O Q : List ByteArray} : standM (P ++ O ++ Q) 0 O (P.length : Int) = true := by
  unfold standM
  rw [decide_eq_true_eq]
  refine ⟨by omega, by simp; omega, ?_⟩
  simp
theorem stand_no {P O Q : List ByteArray} {l o : ByteArray} (h : l ≠ o) : standM (P ++ l :: (o :: O ++ Q)) 0 (o :: O) (P.length : Int) = false := by
  unfold standM
  rw [decide_eq_false_iff_not]
  rintro ⟨_, _, h3⟩
  simp at h3
  exact h h3.1
theorem sew_here {T P O Q : List ByteArray} {h : HunkM} (hT : T = P ++ O ++ Q) (hO : Dn.oldOf h.lines = O) (hp : placeM h.fr h.fc = P.length) : sewAt T 0 0 h 0 = some (P.length : Int) := by
  unfold sewAt
  obtain ⟨r, hr⟩ := aroundL_prefix (((placeM h.fr h.fc : Nat) : Int) + 0) (Nat.zero_le T.length)
  rw [← hr]
  have e : aroundL (((placeM h.fr h.fc : Nat) : Int) + 0) 0 = [(P.length : Int)] := by unfold aroundL; rw [hp]; simp
  rw [e, List.singleton_append, List.find?_cons_of_pos]
  rw [pieceO_zero, hO, hT]
  simpa using stand_yes (P := P) (O := O) (Q := Q)
theorem sew_next {T P O Q : List ByteArray} {l o : ByteArray} {h : HunkM} (hT : T = P ++ l :: (o :: O ++ Q)) (hO : Dn.oldOf h.lines = o :: O) (hp : placeM h.fr h.fc = P.length) (hne : l ≠ o) : sewAt T 0 0 h 0 = some ((P.length + 1 : Nat) : Int) := by
  unfold sewAt
  have h1 : 1 ≤ T.length := by rw [hT]; simp; omega
  obtain ⟨r, hr⟩ := aroundL_prefix (((placeM h.fr h.fc : Nat) : Int) + 0) h1
  rw [← hr]
  have e : aroundL (((placeM h.fr h.fc : Nat) : Int) + 0) 1 = [(P.length : Int), ((P.length + 1 : Nat) : Int), (P.length : Int) - 1] := by
    unfold aroundL aroundL
    rw [hp]
    simp
  rw [e, List.cons_append, List.find?_cons_of_neg, List.cons_append, List.find?_cons_of_pos]
  · rw [pieceO_zero, hO, hT]
    have := stand_yes (P := P ++ [l]) (O := o :: O) (Q := Q)
    simpa using this
  · rw [pieceO_zero, hO, hT]
    have := stand_no (P := P) (O := O) (Q := Q) hne
    simpa using this

theorem indexByte_none : ∀ (l : List UInt8), (10 : UInt8) ∉ l → Lib.indexByte l 10 = -1
  | [], _ => rfl
  | b :: l, h => by
    have hb : b ≠ 10 := by intro e; exact h (by simp [e])
    have ih := indexByte_none l (fun e => h (List.mem_cons_of_mem _ e))
    rw [Lib.indexByte, ih]
    simp [hb]
theorem matchM_of : ∀ (L : List StepB) (b : Bool), (∀ s ∈ L, (s.kind = 32 ∨ s.kind = 45 ∨ s.kind = 43) ∧ (10 : UInt8) ∉ s.text.data.toList) → (b = true ∨ ∃ s ∈ L, s.kind ≠ 32) → matchM (cO L) (cN L) b L = true
  | [], b, _, h => by
    have hb : b = true := by simpa using h
    subst hb
    rfl
  | s :: L, b, hs, h => by
    obtain ⟨hk, ht⟩ := hs s (by simp)
    have e1 : cO (s :: L) = kf s.kind + cO L := by
      have : s :: L = [s] ++ L := rfl
      rw [this, cO_append, cO_one]; rfl
    have e2 : cN (s :: L) = kt s.kind + cN L := by
      have : s :: L = [s] ++ L := rfl
      rw [this, cN_append, cN_one]; rfl
    unfold matchM
    rw [e1, e2, Nat.add_sub_cancel_left, Nat.add_sub_cancel_left, indexByte_none _ ht]
    rw [matchM_of L _ (fun x hx => hs x (List.mem_cons_of_mem _ hx)) (by
      rcases h with h | ⟨x, hx, hxk⟩
      · left; rw [h]; rfl
      · rcases List.mem_cons.1 hx with rfl | hx
        · left; simp [hxk]
        · right; exact ⟨x, hx, hxk⟩)]
    simp
    exact hk

/-- a hunk of few plain lines with one change, at a place -/
theorem one_right {p : Nat} {A B : List ByteArray} {ch : StepB} (hk : ch.kind = 45 ∨ ch.kind = 43) (hA : Plain A) (hB : Plain B) (ht : (10 : UInt8) ∉ ch.text.data.toList) (hp : p ≤ 1000) (hlA : A.length ≤ 2) (hlB : B.length ≤ 2) (hpos : 0 < A.length + B.length)
    (hs : ∀ s ∈ A ++ [ch.text] ++ B, s.size ≤ 7) :
    rightM 0 0 [numL (mkH p p (keeps A ++ ch :: keeps B))] = true ∧ [numL (mkH p p (keeps A ++ ch :: keeps B))].all hunkOkB = true ∧ placeM (numL (mkH p p (keeps A ++ ch :: keeps B))).fr (numL (mkH p p (keeps A ++ ch :: keeps B))).fc = p := by
  have e0 : keeps A ++ ch :: keeps B = keeps A ++ [ch] ++ keeps B := by simp
  have eO : cO (keeps A ++ ch :: keeps B) = A.length + (if ch.kind = 43 then 0 else 1) + B.length := by rw [e0, cO_append, cO_append, cO_keeps, cO_keeps, cO_one]
  have eN : cN (keeps A ++ ch :: keeps B) = A.length + (if ch.kind = 45 then 0 else 1) + B.length := by rw [e0, cN_append, cN_append, cN_keeps, cN_keeps, cN_one]
  have hlen : (keeps A ++ ch :: keeps B).length ≤ 5 := by simp [keeps]; omega
  have hmem : ∀ s ∈ keeps A ++ ch :: keeps B, (s.kind = 32 ∨ s.kind = 45 ∨ s.kind = 43) ∧ (10 : UInt8) ∉ s.text.data.toList := by
    intro s hs
    rw [e0] at hs
    simp only [List.mem_append, List.mem_singleton] at hs
    rcases hs with (hs | hs) | hs
    · obtain ⟨a, ha, rfl⟩ := List.mem_map.1 hs
      exact ⟨.inl rfl, hA a ha⟩
    · subst hs
      exact ⟨.inr hk, ht⟩
    · obtain ⟨a, ha, rfl⟩ := List.mem_map.1 hs
      exact ⟨.inl rfl, hB a ha⟩
  have hm := matchM_of (keeps A ++ ch :: keeps B) false hmem (.inr ⟨ch, by simp, by omega⟩)
  have hx : (textL (Dn.newOf (keeps A ++ ch :: keeps B))).length ≤ 10000 := by
    have h1 := textL_bound (Dn.newOf (keeps A ++ ch :: keeps B)) 7 (by
      intro s hs'
      apply hs
      have e1 : Dn.newOf (keeps A ++ ch :: keeps B) = A ++ Dn.newOf [ch] ++ B := by rw [e0, Dn.newOf_append, Dn.newOf_append, newOf_keeps, newOf_keeps]
      rw [e1] at hs'
      simp only [List.mem_append] at hs' ⊢
      rcases hs' with (h | h) | h
      · exact .inl (.inl h)
      · left; right
        obtain ⟨x, hx, rfl⟩ := List.mem_map.1 h
        have := (List.mem_filter.1 hx).1
        simp at this
        simp [this]
      · exact .inr h)
    have h2 : (Dn.newOf (keeps A ++ ch :: keeps B)).length ≤ 5 := by
      have : (Dn.newOf (keeps A ++ ch :: keeps B)).length = cN (keeps A ++ ch :: keeps B) := rfl
      rw [this, eN]
      split <;> omega
    have := Nat.mul_le_mul_right 8 h2
    omega
  generalize keeps A ++ ch :: keeps B = M at *
  have hO : 0 < cO M := by rw [eO]; split <;> omega
  have hN : 0 < cN M := by rw [eN]; split <;> omega
  have hO2 : cO M ≤ 5 := by rw [eO]; split <;> omega
  have hN2 : cN M ≤ 5 := by rw [eN]; split <;> omega
  have eh : numL (mkH p p M) = ⟨p + 1, cO M, p + 1, cN M, M⟩ := by
    unfold numL mkH
    simp only
    rw [if_neg (by omega), if_neg (by omega)]
  rw [eh]
  refine ⟨?_, ?_, ?_⟩
  · unfold rightM rightM fitsM placeM
    simp only [hm, Bool.and_true, Bool.and_eq_true, decide_eq_true_eq]
    rw [if_neg (by omega), if_neg (by omega)]
    simp
    omega
  · simp only [List.all_cons, List.all_nil, Bool.and_true]
    unfold hunkOkB
    simp only [Bool.and_eq_true, decide_eq_true_eq, List.all_eq_true, Bool.or_eq_true, beq_iff_eq]
    refine ⟨⟨⟨⟨fun x hx' => ?_, by omega⟩, by omega⟩, by omega⟩, hx⟩
    have := (hmem x hx').1
    omega
  · unfold placeM
    simp only
    rw [if_neg (by omega)]
    omega
end Go.Proofs.YtcclgodahlinbaaGreatDoor

namespace Go.Proofs.YtcclgodahlinbaaGreatDoor
open Go.RowKit Go
set_option maxRecDepth 100000

def cost1 (s : StepB) : Nat := if s.kind = 32 then 0 else 1
theorem costW_append (a b : List StepB) : Dn.costW (a ++ b) = Dn.costW a + Dn.costW b := by unfold Dn.costW; rw [List.filter_append, List.length_append]
theorem costW_one (s : StepB) : Dn.costW [s] = cost1 s := by
  unfold Dn.costW cost1
  by_cases h : s.kind = 32
  · simp [h]
  · simp [h]
theorem costW_take (L : List StepB) (k : Nat) (h : k < L.length) : Dn.costW (L.take (k + 1)) = Dn.costW (L.take k) + cost1 L[k] := by
  rw [List.take_succ_eq_append_getElem h, costW_append, costW_one]
/-- drops and adds of hunks -/
def costH (hs : List HunkM) : Nat := (hs.map fun h => Dn.costW h.lines).sum
theorem costH_append (a b : List HunkM) : costH (a ++ b) = costH a + costH b := by unfold costH; rw [List.map_append, List.sum_append]
theorem costH_one (h : HunkM) : costH [h] = Dn.costW h.lines := by simp [costH]
theorem costH_last {l : List HunkM} (h : l ≠ []) (s : StepB) : costH (lastAdd l s) = costH l + cost1 s := by
  obtain ⟨i, x, e1, e2⟩ := lastAdd_ne (s := s) h
  rw [e2, e1, costH_append, costH_append, costH_one, costH_one]
  have : (addL x s).lines = x.lines ++ [s] := rfl
  rw [this, costW_append, costW_one]
  omega
theorem foldH_cost {L : List StepB} {nb : List Bool} (hn : ∀ k (h : k < L.length), L[k].kind ≠ 32 → nb.getD k false = true) : ∀ k, k ≤ L.length → costH (foldH L nb k).hs = Dn.costW (L.take k) := by
  intro k
  induction k with
  | zero => intro _; simp [foldH, costH, Dn.costW]
  | succ k ih =>
    intro hk
    have hk' : k < L.length := by omega
    have ihk := ih (by omega)
    have hb := (foldH_bounds L nb k).2.2.2.2
    rw [foldH_succ hk', costW_take L k hk', ← ihk]
    show costH (stepHs _ _ _ _) = _
    unfold stepHs
    split
    · rw [costH_last]
      · split
        · rfl
        · rw [costH_append, costH_one]
          have : Dn.costW (newHunk (foldH L nb k).og (foldH L nb k).fg).lines = 0 := rfl
          omega
      · split
        · rename_i hp
          simp only [Bool.and_eq_true, decide_eq_true_eq] at hp
          exact hb hp.1 (by omega) hp.2
        · simp
    · rename_i hf
      have : L[k].kind = 32 := by
        by_cases e : L[k].kind = 32
        · exact e
        · exact absurd (hn k hk' e) hf
      unfold cost1
      rw [if_pos this]
      rfl
theorem near_own (L : List StepB) (c k : Nat) (h : k < L.length) (e : L[k].kind ≠ 32) : (nearB L c).getD k false = true := by
  have h1 : (nearB L c).getD k false = nearU L c L.length k := by simp [nearB, List.getD, h]
  rw [h1]
  unfold nearU
  rw [List.any_eq_true]
  refine ⟨(L[k], k), ?_, by simp [e]⟩
  rw [List.take_length, List.mem_zipIdx_iff_getElem?]
  simp [h]
theorem hunks_cost (L : List StepB) (c : Nat) : costH (hunksM L c) = Dn.costW L := by
  have h := foldH_cost (nb := nearB L c) (fun k hk e => near_own L c k hk e) L.length (Nat.le_refl _)
  rw [List.take_length] at h
  rw [← h]
  unfold hunksM costH
  rw [List.map_map]
  rfl

theorem way_counts {o f : List ByteArray} : Dn.costW (Dn.wayM o f) + o.length ≥ f.length ∧ Dn.costW (Dn.wayM o f) + f.length ≥ o.length ∧ (Dn.costW (Dn.wayM o f) + o.length + f.length) % 2 = 0 := by
  obtain ⟨h1, h2, h3⟩ := Dn.wayM_way o f
  have key : ∀ l : List StepB, (∀ s ∈ l, s.kind = 32 ∨ s.kind = 45 ∨ s.kind = 43) → ∃ a b c, Dn.costW l = b + c ∧ (Dn.oldOf l).length = a + b ∧ (Dn.newOf l).length = a + c := by
    intro l
    induction l with
    | nil => intro _; exact ⟨0, 0, 0, rfl, rfl, rfl⟩
    | cons s l ih =>
      intro h
      obtain ⟨a, b, c, e1, e2, e3⟩ := ih (fun x hx => h x (List.mem_cons_of_mem _ hx))
      unfold Dn.costW Dn.oldOf Dn.newOf at *
      rcases h s (by simp) with hs | hs | hs
      · refine ⟨a + 1, b, c, ?_, ?_, ?_⟩ <;> simp_all <;> omega
      · refine ⟨a, b + 1, c, ?_, ?_, ?_⟩ <;> simp_all <;> omega
      · refine ⟨a, b, c + 1, ?_, ?_, ?_⟩ <;> simp_all <;> omega
  obtain ⟨a, b, c, e1, e2, e3⟩ := key _ h3
  rw [h1] at e2
  rw [h2] at e3
  omega
end Go.Proofs.YtcclgodahlinbaaGreatDoor

namespace Go.Proofs.YtcclgodahlinbaaGreatDoor
open Go.RowKit Go
set_option maxRecDepth 100000

/-! ### the hunks of a way are windows of it: each with a change, all between them kept -/
def mkW (L : List StepB) (p : Nat × Nat) : HunkM := mkH (cO (L.take p.1)) (cN (L.take p.1)) ((L.take p.2).drop p.1)
def Kept (L : List StepB) (a b : Nat) : Prop := ∀ j (h : j < L.length), a ≤ j → j < b → L[j].kind = 32
def Wins (L : List StepB) : Nat → List (Nat × Nat) → Prop
  | p, [] => p ≤ L.length ∧ Kept L p L.length
  | p, (s, e) :: ws => p ≤ s ∧ s < e ∧ e ≤ L.length ∧ Kept L p s ∧ (∃ j, ∃ h : j < L.length, s ≤ j ∧ j < e ∧ L[j].kind ≠ 32) ∧ Wins L e ws
theorem Wins.back {L : List StepB} {p : Nat} (hp : p < L.length) (hk : L[p].kind = 32) : ∀ {ws : List (Nat × Nat)}, Wins L (p + 1) ws → Wins L p ws
  | [], h => ⟨by omega, fun j hj h1 h2 => by
      by_cases e : j = p
      · subst e; exact hk
      · exact h.2 j hj (by omega) h2⟩
  | (s, e) :: ws, h => ⟨by have := h.1; omega, h.2.1, h.2.2.1, fun j hj h1 h2 => by
      by_cases e : j = p
      · subst e; exact hk
      · exact h.2.2.2.1 j hj (by omega) h2, h.2.2.2.2⟩
theorem near_far {L : List StepB} {c i j : Nat} (hi : i < L.length) (hj : j < L.length) (hk : L[i].kind ≠ 32) (h1 : i ≤ j + c) (h2 : j ≤ i + c) : (nearB L c).getD j false = true := by
  have e : (nearB L c).getD j false = nearU L c L.length j := by simp [nearB, List.getD, hj]
  rw [e]
  unfold nearU
  rw [List.take_length, List.any_eq_true]
  refine ⟨(L[i], i), ?_, by simp [hk, h1, h2]⟩
  rw [List.mem_zipIdx_iff_getElem?]
  simp [hi]
theorem near_has {L : List StepB} {c j : Nat} (hj : j < L.length) (h : (nearB L c).getD j false = true) : ∃ i, ∃ hi : i < L.length, L[i].kind ≠ 32 ∧ i ≤ j + c ∧ j ≤ i + c := by
  have e : (nearB L c).getD j false = nearU L c L.length j := by simp [nearB, List.getD, hj]
  rw [e] at h
  unfold nearU at h
  rw [List.take_length, List.any_eq_true] at h
  obtain ⟨⟨s, i⟩, hs, hb⟩ := h
  rw [List.mem_zipIdx_iff_getElem?] at hs
  obtain ⟨hi, e2⟩ := List.getElem?_eq_some_iff.1 hs
  simp only [Bool.and_eq_true, decide_eq_true_eq] at hb
  simp only at e2 hi
  exact ⟨i, hi, by rw [e2]; simpa using hb.1.1, hb.1.2, hb.2⟩
theorem near_keep32 {L : List StepB} {c j : Nat} (hj : j < L.length) (h : (nearB L c).getD j false = false) : L[j].kind = 32 := by
  by_cases e : L[j].kind = 32
  · exact e
  · rw [near_own L c j hj e] at h; cases h
theorem wins_all (L : List StepB) (c : Nat) : ∀ d p, L.length - p = d → p ≤ L.length →
    ((p = 0 ∨ (nearB L c).getD (p - 1) false = false) → ∃ ws, (foldH L (nearB L c) L.length).hs = (foldH L (nearB L c) p).hs ++ ws.map (mkW L) ∧ Wins L p ws) ∧
    (∀ s, s < p → (s = 0 ∨ (nearB L c).getD (s - 1) false = false) → (∀ j, s ≤ j → j < p → (nearB L c).getD j false = true) →
      ∃ ws e, (foldH L (nearB L c) L.length).hs = (foldH L (nearB L c) s).hs ++ mkW L (s, e) :: ws.map (mkW L) ∧ p ≤ e ∧ e ≤ L.length ∧ (∀ j, s ≤ j → j < e → (nearB L c).getD j false = true) ∧ (e = L.length ∨ (nearB L c).getD e false = false) ∧ Wins L e ws) := by
  intro d
  induction d with
  | zero =>
    intro p hd hp
    obtain rfl : p = L.length := by omega
    refine ⟨fun _ => ⟨[], by simp, Nat.le_refl _, fun j hj h1 _ => by omega⟩, fun s hs h0 hn => ?_⟩
    refine ⟨[], L.length, ?_, Nat.le_refl _, Nat.le_refl _, hn, .inl rfl, Nat.le_refl _, fun j hj h1 _ => by omega⟩
    have := foldH_run h0 L.length hs (Nat.le_refl _) hn
    rw [this]
    rfl
  | succ d ih =>
    intro p hd hp
    have hpl : p < L.length := by omega
    obtain ⟨io, ii⟩ := ih (p + 1) (by omega) (by omega)
    have hin : ∀ s, s < p + 1 → (s = 0 ∨ (nearB L c).getD (s - 1) false = false) → (∀ j, s ≤ j → j < p → (nearB L c).getD j false = true) → s < p ∨ (nearB L c).getD p false = true →
      ∃ ws e, (foldH L (nearB L c) L.length).hs = (foldH L (nearB L c) s).hs ++ mkW L (s, e) :: ws.map (mkW L) ∧ p ≤ e ∧ e ≤ L.length ∧ (∀ j, s ≤ j → j < e → (nearB L c).getD j false = true) ∧ (e = L.length ∨ (nearB L c).getD e false = false) ∧ Wins L e ws := by
      intro s hs h0 hn hor
      by_cases hb : (nearB L c).getD p false = true
      · obtain ⟨ws, e, h1, h2, h3⟩ := ii s hs h0 (fun j a b => by
          by_cases e : j = p
          · rw [e]; exact hb
          · exact hn j a (by omega))
        exact ⟨ws, e, h1, by omega, h3⟩
      · have hb' : (nearB L c).getD p false = false := by simpa using hb
        have hsp : s < p := by
          rcases hor with h | h
          · exact h
          · exact absurd h hb
        obtain ⟨ws, h1, h2⟩ := io (.inr (by simpa using hb'))
        refine ⟨ws, p, ?_, Nat.le_refl _, by omega, hn, .inr hb', h2.back hpl (near_keep32 hpl hb')⟩
        rw [h1, foldH_quiet (i := p) (p + 1) (by omega) (by omega) (fun j a b => by
          have : j = p := by omega
          rw [this]; exact hb'), foldH_run h0 p hsp (by omega) hn]
        simp [mkW]
    refine ⟨fun h0 => ?_, fun s hs h0 hn => hin s (by omega) h0 hn (.inl hs)⟩
    by_cases hb : (nearB L c).getD p false = true
    · obtain ⟨ws, e, h1, h2, h3, h4, h5, h6⟩ := hin p (by omega) h0 (fun j a b => by omega) (.inr hb)
      have hpe : p < e := by
        by_cases hx : p < e
        · exact hx
        · have : e = p := by omega
          rcases h5 with h5 | h5
          · omega
          · rw [this] at h5; rw [h5] at hb; cases hb
      refine ⟨(p, e) :: ws, h1, Nat.le_refl _, hpe, h3, fun j _ a b => by omega, ?_, h6⟩
      obtain ⟨i, hi, hk, a1, a2⟩ := near_has hpl hb
      have hip : p ≤ i := by
        by_cases hx : p ≤ i
        · exact hx
        · exfalso
          rcases h0 with h0 | h0
          · omega
          · have := near_far (c := c) (j := p - 1) hi (by omega) hk (by omega) (by omega)
            rw [this] at h0; cases h0
      refine ⟨i, hi, hip, ?_, hk⟩
      by_cases hx : i < e
      · exact hx
      · exfalso
        rcases h5 with h5 | h5
        · omega
        · have := near_far (c := c) (j := e) hi (by omega) hk (by omega) (by omega)
          rw [this] at h5; cases h5
    · have hb' : (nearB L c).getD p false = false := by simpa using hb
      obtain ⟨ws, h1, h2⟩ := io (.inr (by simpa using hb'))
      refine ⟨ws, ?_, h2.back hpl (near_keep32 hpl hb')⟩
      rw [h1, foldH_quiet (i := p) (p + 1) (by omega) (by omega) (fun j a b => by
        have : j = p := by omega
        rw [this]; exact hb')]
/-- the hunks of a way -/
theorem hunks_wins (L : List StepB) (c : Nat) : ∃ ws, hunksM L c = ws.map (fun p => numL (mkW L p)) ∧ Wins L 0 ws := by
  obtain ⟨ws, h1, h2⟩ := (wins_all L c L.length 0 (by omega) (by omega)).1 (.inl rfl)
  refine ⟨ws, ?_, h2⟩
  unfold hunksM
  rw [h1]
  simp [foldH]
end Go.Proofs.YtcclgodahlinbaaGreatDoor

namespace Go.Proofs.YtcclgodahlinbaaGreatDoor
open Go.RowKit Go
set_option maxRecDepth 100000

theorem take_seg {α : Type} (L : List α) {s e : Nat} (h : s ≤ e) : L.take e = L.take s ++ (L.take e).drop s := by
  conv => lhs; rw [← List.take_append_drop s (L.take e)]
  rw [List.take_take, Nat.min_eq_left h]
theorem cO_seg (L : List StepB) {s e : Nat} (h : s ≤ e) : cO (L.take e) = cO (L.take s) + cO ((L.take e).drop s) := by conv => lhs; rw [take_seg L h, cO_append]
theorem cN_seg (L : List StepB) {s e : Nat} (h : s ≤ e) : cN (L.take e) = cN (L.take s) + cN ((L.take e).drop s) := by conv => lhs; rw [take_seg L h, cN_append]
theorem kept_seg {L : List StepB} {a b : Nat} (h : Kept L a b) : ∀ s ∈ (L.take b).drop a, s.kind = 32 := by
  intro s hs
  obtain ⟨i, hi, rfl⟩ := List.getElem_of_mem hs
  rw [List.length_drop, List.length_take] at hi
  rw [List.getElem_drop, List.getElem_take]
  exact h _ _ (by omega) (by omega)
theorem keeps_same {M : List StepB} (h : ∀ s ∈ M, s.kind = 32) : Dn.oldOf M = M.map (·.text) ∧ Dn.newOf M = M.map (·.text) := by
  unfold Dn.oldOf Dn.newOf
  rw [List.filter_eq_self.2 (fun s hs => by simp [h s hs]), List.filter_eq_self.2 (fun s hs => by simp [h s hs])]
  exact ⟨rfl, rfl⟩
theorem cOL_le (L : List StepB) : cO L ≤ L.length := by unfold cO Dn.oldOf; rw [List.length_map]; exact List.length_filter_le _ _
theorem cNL_le (L : List StepB) : cN L ≤ L.length := by unfold cN Dn.newOf; rw [List.length_map]; exact List.length_filter_le _ _
theorem place_num (o k : Nat) : placeM (o + (if k = 0 then 0 else 1)) k = o := by
  unfold placeM
  by_cases h : k = 0
  · simp [h]
  · simp [h]
/-- lines of a way as the statements have them -/
def WayOk (L : List StepB) : Prop := ∀ s ∈ L, (s.kind = 32 ∨ s.kind = 45 ∨ s.kind = 43) ∧ (10 : UInt8) ∉ s.text.data.toList ∧ s.text.size ≤ 15
theorem wins_right {L : List StepB} (hL : WayOk L) (hl : L.length ≤ 200) : ∀ (ws : List (Nat × Nat)) (p : Nat), p ≤ L.length → Wins L p ws →
    rightM (cO (L.take p)) ((cN (L.take p) : Int) - cO (L.take p)) (ws.map fun p => numL (mkW L p)) = true ∧ (ws.map fun p => numL (mkW L p)).all hunkOkB = true
  | [], _, _, _ => ⟨rfl, rfl⟩
  | (s, e) :: ws, p, hp, h => by
    obtain ⟨h1, h2, h3, h4, ⟨j, hj, j1, j2, j3⟩, h5⟩ := h
    obtain ⟨ir, io⟩ := wins_right hL hl ws e h3 h5
    have hk := keeps_same (kept_seg h4)
    have e1 := cO_seg L h1
    have e2 := cN_seg L h1
    have e3 := cO_seg L (Nat.le_of_lt h2)
    have e4 := cN_seg L (Nat.le_of_lt h2)
    have hsame : cO ((L.take s).drop p) = cN ((L.take s).drop p) := by unfold cO cN; rw [hk.1, hk.2]
    have hmem : ∀ x ∈ (L.take e).drop s, x ∈ L := fun x hx => List.mem_of_mem_take (List.mem_of_mem_drop hx)
    have hm := matchM_of ((L.take e).drop s) false (fun x hx => ⟨(hL x (hmem x hx)).1, (hL x (hmem x hx)).2.1⟩) (.inr ⟨L[j], by
      rw [List.mem_iff_getElem]
      refine ⟨j - s, by rw [List.length_drop, List.length_take]; omega, ?_⟩
      rw [List.getElem_drop, List.getElem_take]
      congr 1
      omega, j3⟩)
    have b1 := cOL_le (L.take s)
    have b2 := cNL_le (L.take s)
    have b3 := cOL_le ((L.take e).drop s)
    have b4 := cNL_le ((L.take e).drop s)
    have b5 : (L.take s).length ≤ 200 := by rw [List.length_take]; omega
    have b6 : ((L.take e).drop s).length ≤ 200 := by rw [List.length_drop, List.length_take]; omega
    have hW : numL (mkW L (s, e)) = ⟨cO (L.take s) + (if cO ((L.take e).drop s) = 0 then 0 else 1), cO ((L.take e).drop s), cN (L.take s) + (if cN ((L.take e).drop s) = 0 then 0 else 1), cN ((L.take e).drop s), (L.take e).drop s⟩ := rfl
    have pO := place_num (cO (L.take s)) (cO ((L.take e).drop s))
    have pN := place_num (cN (L.take s)) (cN ((L.take e).drop s))
    have hx : (textL (Dn.newOf ((L.take e).drop s))).length ≤ 10000 := by
      have := textL_bound (Dn.newOf ((L.take e).drop s)) 15 (by
        intro t ht
        obtain ⟨x, hx, rfl⟩ := List.mem_map.1 ht
        exact (hL x (hmem x (List.mem_filter.1 hx).1)).2.2)
      have h6 : (Dn.newOf ((L.take e).drop s)).length ≤ 200 := by
        have : (Dn.newOf ((L.take e).drop s)).length = cN ((L.take e).drop s) := rfl
        omega
      have := Nat.mul_le_mul_right 16 h6
      omega
    rw [List.map_cons, hW]
    generalize (L.take e).drop s = W at *
    refine ⟨?_, ?_⟩
    · unfold rightM fitsM
      simp only [pO, pN]
      rw [hm]
      have hr : rightM (cO (L.take s) + cO W) ((cN (L.take p) : Int) - cO (L.take p) + cN W - cO W) (ws.map fun p => numL (mkW L p)) = true := by
        have : (cN (L.take p) : Int) - cO (L.take p) + cN W - cO W = (cN (L.take e) : Int) - cO (L.take e) := by omega
        rw [this, ← e3]
        exact ir
      rw [hr]
      simp only [Bool.and_true, Bool.and_eq_true, decide_eq_true_eq]
      refine ⟨⟨⟨⟨⟨⟨⟨⟨?_, ?_⟩, ?_⟩, ?_⟩, ?_⟩, ?_⟩, ?_⟩, ?_⟩, ?_⟩
      all_goals first | omega | (split <;> omega)
    · rw [List.all_cons, io, Bool.and_true]
      unfold hunkOkB
      simp only [Bool.and_eq_true, decide_eq_true_eq, List.all_eq_true, Bool.or_eq_true, beq_iff_eq]
      refine ⟨⟨⟨⟨fun x hx' => ?_, by omega⟩, ?_⟩, ?_⟩, hx⟩
      · have := (hL x (hmem x hx')).1
        omega
      · split <;> omega
      · split <;> omega

/-! ### the same, moved -/
theorem aroundL_mem (p : Int) : ∀ k d : Nat, d ≤ k → p + (d : Int) ∈ aroundL p k := by
  intro k
  induction k with
  | zero => intro d h; obtain rfl : d = 0 := by omega
            simp [aroundL]
  | succ k ih =>
    intro d h
    rw [aroundL, List.mem_append]
    by_cases e : d = k + 1
    · right
      subst e
      simp
    · left
      exact ih d (by omega)
theorem find_unique {α : Type} {p : α → Bool} {a : α} : ∀ {l : List α}, a ∈ l → p a = true → (∀ b ∈ l, p b = true → b = a) → l.find? p = some a
  | [], h, _, _ => by simp at h
  | b :: l, h, ha, hu => by
    by_cases hb : p b = true
    · rw [List.find?_cons_of_pos hb, hu b (by simp) hb]
    · rw [List.find?_cons_of_neg hb]
      refine find_unique ?_ ha (fun c hc => hu c (List.mem_cons_of_mem _ hc))
      rcases List.mem_cons.1 h with rfl | h
      · exact absurd ha hb
      · exact h
/-- a text that holds a way's old lines, each line of them once -/
structure Once (L : List StepB) (A Z T : List ByteArray) : Prop where
  eq : T = A ++ Dn.oldOf L ++ Z
  one : ∀ x k (hx : x < T.length) (hk : k < (Dn.oldOf L).length), T[x] = (Dn.oldOf L)[k] → x = A.length + k
theorem Once.seg {L : List StepB} {A Z T : List ByteArray} (h : Once L A Z T) {p s : Nat} (hp : p ≤ s) : (T.drop (A.length + cO (L.take p))).take (cO ((L.take s).drop p)) = Dn.oldOf ((L.take s).drop p) := by
  have e1 : L = L.take p ++ (L.take s).drop p ++ L.drop s := by rw [← take_seg L hp, List.take_append_drop]
  have e2 : T = (A ++ Dn.oldOf (L.take p)) ++ (Dn.oldOf ((L.take s).drop p) ++ (Dn.oldOf (L.drop s) ++ Z)) := by
    rw [h.eq]
    conv => lhs; rw [e1, Dn.oldOf_append, Dn.oldOf_append]
    simp
  have e3 : A.length + cO (L.take p) = (A ++ Dn.oldOf (L.take p)).length := by rw [List.length_append]; rfl
  rw [e3, e2, List.drop_left' rfl]
  have e4 : cO ((L.take s).drop p) = (Dn.oldOf ((L.take s).drop p)).length := rfl
  rw [e4, List.take_left' rfl]
structure SInv (L : List StepB) (A T : List ByteArray) (p : Nat) (st : SewS) : Prop where
  en : st.en ≤ A.length + cO (L.take p)
  t : st.t ++ textL ((T.drop st.en).take (A.length + cO (L.take p) - st.en)) = textL (A ++ Dn.newOf (L.take p))
  mv : st.mv = 0 ∨ st.mv = A.length
theorem SInv.keep {L : List StepB} {A Z T : List ByteArray} (hO : Once L A Z T) {p s : Nat} {st : SewS} (h : SInv L A T p st) (hp : p ≤ s) (hk : Kept L p s) : SInv L A T s st := by
  have e1 := cO_seg L hp
  have hk2 := keeps_same (kept_seg hk)
  have hen := h.en
  refine ⟨by omega, ?_, h.mv⟩
  have e2 : A.length + cO (L.take s) - st.en = (A.length + cO (L.take p) - st.en) + cO ((L.take s).drop p) := by omega
  rw [e2, List.take_add, List.drop_drop, show st.en + (A.length + cO (L.take p) - st.en) = A.length + cO (L.take p) by omega, hO.seg hp, textL_append, ← List.append_assoc, h.t, ← textL_append]
  congr 1
  conv => rhs; rw [take_seg L hp, Dn.newOf_append]
  rw [hk2.1, hk2.2, List.append_assoc]
theorem sew_moved {L : List StepB} {A Z T : List ByteArray} (hO : Once L A Z T) {s e : Nat} {st : SewS} (h : SInv L A T s st) (h1 : s < e) (hw : 0 < cO ((L.take e).drop s)) :
    (sewM T st (numL (mkW L (s, e))) 0).2 = ⟨true, A.length, 0⟩ ∧ SInv L A T e (sewM T st (numL (mkW L (s, e))) 0).1 := by
  have hseg := hO.seg (Nat.le_of_lt h1)
  have e3 := cO_seg L (Nat.le_of_lt h1)
  have hpl : placeM (numL (mkW L (s, e))).fr (numL (mkW L (s, e))).fc = cO (L.take s) := place_num _ _
  have hln : (numL (mkW L (s, e))).lines = (L.take e).drop s := rfl
  have hX : (Dn.oldOf L).length = cO (L.take e) + cO (L.drop e) := by
    have : L = L.take e ++ L.drop e := (List.take_append_drop e L).symm
    conv => lhs; rw [this, Dn.oldOf_append, List.length_append]
    rfl
  have hT : T.length = A.length + (Dn.oldOf L).length + Z.length := by rw [hO.eq]; simp; omega
  have hen := h.en
  have hfind : sewAt T st.en st.mv (numL (mkW L (s, e))) 0 = some ((A.length + cO (L.take s) : Nat) : Int) := by
    unfold sewAt
    rw [hpl, hln, pieceO_zero]
    simp only [Nat.zero_min, Int.natCast_zero, Int.add_zero]
    refine find_unique ?_ ?_ ?_
    · rcases h.mv with e | e
      · rw [e]
        have := aroundL_mem ((cO (L.take s) : Nat) + (0 : Int)) T.length A.length (by omega)
        rw [show ((A.length + cO (L.take s) : Nat) : Int) = ((cO (L.take s) : Nat) : Int) + 0 + (A.length : Int) by omega]
        exact this
      · rw [e]
        have := aroundL_mem ((cO (L.take s) : Nat) + (A.length : Int)) T.length 0 (by omega)
        rw [show ((A.length + cO (L.take s) : Nat) : Int) = ((cO (L.take s) : Nat) : Int) + (A.length : Int) + ((0 : Nat) : Int) by omega]
        exact this
    · unfold standM
      rw [decide_eq_true_eq]
      have e4 : (Dn.oldOf ((L.take e).drop s)).length = cO ((L.take e).drop s) := rfl
      refine ⟨by omega, by rw [e4]; omega, ?_⟩
      rw [Int.toNat_natCast, e4]
      exact hseg
    · intro x _ hx
      unfold standM at hx
      rw [decide_eq_true_eq] at hx
      obtain ⟨x1, x2, x3⟩ := hx
      have e4 : (Dn.oldOf ((L.take e).drop s)).length = cO ((L.take e).drop s) := rfl
      have hxt : x.toNat < T.length := by omega
      have g1 : T[x.toNat] = (Dn.oldOf ((L.take e).drop s))[0]'(by omega) := by
        have : ((T.drop x.toNat).take (Dn.oldOf ((L.take e).drop s)).length)[0]'(by rw [List.length_take, List.length_drop]; omega) = T[x.toNat] := by
          rw [List.getElem_take, List.getElem_drop]
          simp
        rw [← this]
        simp only [x3]
      have g2 : (Dn.oldOf ((L.take e).drop s))[0]'(by omega) = (Dn.oldOf L)[cO (L.take s)]'(by omega) := by
        have e1 : L = L.take s ++ (L.take e).drop s ++ L.drop e := by rw [← take_seg L (Nat.le_of_lt h1), List.take_append_drop]
        have e5 : Dn.oldOf L = Dn.oldOf (L.take s) ++ (Dn.oldOf ((L.take e).drop s) ++ Dn.oldOf (L.drop e)) := by
          conv => lhs; rw [e1, Dn.oldOf_append, Dn.oldOf_append]
          simp
        have e6 : (Dn.oldOf (L.take s)).length = cO (L.take s) := rfl
        have g3 : (Dn.oldOf L)[cO (L.take s)]? = (Dn.oldOf ((L.take e).drop s))[0]? := by
          rw [e5, List.getElem?_append_right (by rw [e6]; exact Nat.le_refl _), e6, Nat.sub_self, List.getElem?_append_left (by rw [e4]; exact hw)]
        rw [List.getElem?_eq_getElem (by omega), List.getElem?_eq_getElem (by rw [e4]; exact hw)] at g3
        exact (Option.some.inj g3).symm
      have := hO.one x.toNat (cO (L.take s)) hxt (by omega) (g1.trans g2)
      omega
  have hsew : sewM T st (numL (mkW L (s, e))) 0 = (sewTo T st (numL (mkW L (s, e))) 0 ((A.length + cO (L.take s) : Nat) : Int), ⟨true, ((A.length + cO (L.take s) : Nat) : Int) - (cO (L.take s) : Nat), 0⟩) := by
    unfold sewM sewFind
    rw [sewRounds_zero]
    unfold sewFrom
    simp only [hfind, hpl]
  rw [hsew]
  refine ⟨by simp only; congr 1; omega, ?_⟩
  unfold sewTo
  rw [hpl, hln, pieceO_zero, pieceF_zero]
  simp only [Nat.zero_min, Int.natCast_zero, Int.add_zero, Int.toNat_natCast]
  have e4 : (Dn.oldOf ((L.take e).drop s)).length = cO ((L.take e).drop s) := rfl
  refine ⟨by show A.length + cO (L.take s) + (Dn.oldOf ((L.take e).drop s)).length ≤ _; rw [e4]; omega, ?_, .inr (by show ((A.length + cO (L.take s) : Nat) : Int) - (cO (L.take s) : Nat) = _; omega)⟩
  simp only [e4]
  rw [show A.length + cO (L.take e) - (A.length + cO (L.take s) + cO ((L.take e).drop s)) = 0 by omega, List.take_zero, h.t, ← textL_append]
  have : textL ([] : List ByteArray) = [] := rfl
  rw [this, List.append_nil]
  congr 1
  conv => rhs; rw [take_seg L (Nat.le_of_lt h1), Dn.newOf_append]
  rw [List.append_assoc]
theorem apply_moved {L : List StepB} {A Z T : List ByteArray} (hO : Once L A Z T) : ∀ (ws : List (Nat × Nat)) (p : Nat) (st : SewS), p ≤ L.length → Wins L p ws → (∀ w ∈ ws, 0 < cO ((L.take w.2).drop w.1)) → SInv L A T p st →
    (∀ m ∈ (applyFrom T 0 st (ws.map fun p => numL (mkW L p))).2, m = ⟨true, A.length, 0⟩) ∧
    (applyFrom T 0 st (ws.map fun p => numL (mkW L p))).1.t ++ textL (T.drop (applyFrom T 0 st (ws.map fun p => numL (mkW L p))).1.en) = textL (A ++ Dn.newOf L ++ Z)
  | [], p, st, hp, hw, _, hs => by
    refine ⟨by simp [applyFrom], ?_⟩
    have h := hs.keep hO hw.1 hw.2
    have hen := h.en
    rw [List.take_length] at hen
    have ht := h.t
    rw [List.take_length] at ht
    have hX : cO L = (Dn.oldOf L).length := rfl
    show st.t ++ textL (T.drop st.en) = _
    have e1 : T.drop st.en = (T.drop st.en).take (A.length + cO L - st.en) ++ Z := by
      conv => lhs; rw [← List.take_append_drop (A.length + cO L - st.en) (T.drop st.en)]
      rw [List.drop_drop, show st.en + (A.length + cO L - st.en) = (A ++ Dn.oldOf L).length by rw [List.length_append]; omega]
      congr 1
      rw [hO.eq, List.drop_left' rfl]
    rw [e1, textL_append, ← List.append_assoc, ht, ← textL_append]
  | (s, e) :: ws, p, st, hp, hw, hc, hs => by
    obtain ⟨h1, h2, h3, h4, _, h5⟩ := hw
    have h := hs.keep hO h1 h4
    obtain ⟨r1, r2⟩ := sew_moved hO h h2 (hc (s, e) (by simp))
    obtain ⟨i1, i2⟩ := apply_moved hO ws e _ h3 h5 (fun w hw' => hc w (List.mem_cons_of_mem _ hw')) r2
    rw [List.map_cons]
    unfold applyFrom
    simp only
    refine ⟨?_, i2⟩
    intro m hm
    rcases List.mem_cons.1 hm with rfl | hm
    · exact r1
    · exact i1 m hm

def aheadB : ByteArray := ⟨#[97, 104, 101, 97, 100]⟩
def behindB : ByteArray := ⟨#[98, 101, 104, 105, 110, 100]⟩
def movedT (X : List ByteArray) (n m : Nat) : List ByteArray := List.replicate n aheadB ++ X ++ List.replicate m behindB
structure MovedFacts (X Y : List ByteArray) (n m : Nat) (hs : List HunkM) : Prop where
  eq : hunksM (Dn.wayM X Y) 3 = hs
  right : rightM 0 0 hs = true
  ok : hs.all hunkOkB = true
  len : hs.length ≤ 200
  moved : X.Nodup → (∀ h ∈ hs, 0 < h.fc) → (∀ s ∈ applyS (movedT X n m) 0 hs, s = ⟨true, n, 0⟩) ∧ applyT (movedT X n m) 0 hs = textB (movedT Y n m)
theorem wins_length {L : List StepB} : ∀ (ws : List (Nat × Nat)) (p : Nat), Wins L p ws → ws.length + p ≤ L.length
  | [], p, h => by have := h.1; simpa using this
  | (s, e) :: ws, p, h => by
    have := wins_length ws e h.2.2.2.2.2
    have h1 := h.1
    have h2 := h.2.1
    simp only [List.length_cons]
    omega
theorem moved_facts {X Y : List ByteArray} (n m : Nat) (hX : ∀ s ∈ X, (10 : UInt8) ∉ s.data.toList ∧ s.size ≤ 15 ∧ s.size ≠ 5 ∧ s.size ≠ 6) (hY : ∀ s ∈ Y, (10 : UInt8) ∉ s.data.toList ∧ s.size ≤ 15) (hl : X.length + Y.length ≤ 200) : ∃ hs, MovedFacts X Y n m hs := by
  obtain ⟨w1, w2, w3⟩ := Dn.wayM_way X Y
  have hlen : (Dn.wayM X Y).length ≤ 200 := by
    have := way_len X Y
    omega
  have hok : WayOk (Dn.wayM X Y) := by
    intro s hs
    refine ⟨w3 s hs, ?_⟩
    rcases way_text hs with h | h
    · exact ⟨(hX _ h).1, (hX _ h).2.1⟩
    · exact hY _ h
  obtain ⟨ws, e1, e2⟩ := hunks_wins (Dn.wayM X Y) 3
  obtain ⟨r1, r2⟩ := wins_right hok hlen ws 0 (Nat.zero_le _) e2
  refine ⟨_, e1, by simpa [cO, cN, Dn.oldOf, Dn.newOf] using r1, r2, ?_, ?_⟩
  · have := wins_length ws 0 e2
    rw [List.length_map]
    omega
  · intro hnd hwh
    have hO : Once (Dn.wayM X Y) (List.replicate n aheadB) (List.replicate m behindB) (movedT X n m) := by
      refine ⟨by unfold movedT; rw [w1], ?_⟩
      intro x k hx hk he
      simp only [w1] at he hk
      have hmem := (hX X[k] (List.getElem_mem hk)).2.2
      have a5 : aheadB.size = 5 := rfl
      have b6 : behindB.size = 6 := rfl
      rw [List.length_replicate]
      have he2 : (movedT X n m)[x]? = some X[k] := by rw [List.getElem?_eq_getElem hx, he]
      have hxl : x < n + X.length + m := by have h2 := hx; unfold movedT at h2; simp at h2; omega
      unfold movedT at he2
      by_cases c1 : x < n
      · exfalso
        rw [List.getElem?_append_left (by simp; omega), List.getElem?_append_left (by simpa using c1), List.getElem?_replicate, if_pos c1] at he2
        rw [← Option.some.inj he2, a5] at hmem
        exact hmem.1 rfl
      · by_cases c2 : x < n + X.length
        · rw [List.getElem?_append_left (by simp; omega), List.getElem?_append_right (by simp; omega), List.length_replicate, List.getElem?_eq_getElem (by omega)] at he2
          have hpw := List.pairwise_iff_getElem.1 (List.nodup_iff_pairwise_ne.1 hnd)
          have he3 := Option.some.inj he2
          rcases Nat.lt_trichotomy (x - n) k with h1 | h1 | h1
          · exact absurd he3 (hpw _ _ (by omega) hk h1)
          · omega
          · exact absurd he3.symm (hpw _ _ hk (by omega) h1)
        · exfalso
          rw [List.getElem?_append_right (by simp; omega), List.getElem?_replicate, if_pos (by simp; omega)] at he2
          rw [← Option.some.inj he2, b6] at hmem
          exact hmem.2 rfl
    obtain ⟨m1, m2⟩ := apply_moved hO ws 0 ⟨[], 0, 0⟩ (Nat.zero_le _) e2 (fun w hw => hwh _ (List.mem_map.2 ⟨w, hw, rfl⟩)) ⟨Nat.zero_le _, by
      have h0 : cO ([] : List StepB) = 0 := rfl
      simp only [List.drop_zero, Nat.sub_zero, List.nil_append, List.take_zero]
      rw [h0, Nat.add_zero]
      unfold movedT
      rw [List.append_assoc, List.take_left' rfl]
      have : Dn.newOf ([] : List StepB) = [] := rfl
      rw [this, List.append_nil], .inl rfl⟩
    rw [List.length_replicate] at m1
    rw [w2] at m2
    refine ⟨?_, ?_⟩
    · unfold applyS applyK
      rw [List.take_length]
      exact m1
    · unfold applyT applyK textB movedT
      rw [List.take_length]
      rw [← m2]
      rfl
end Go.Proofs.YtcclgodahlinbaaGreatDoor

namespace Go.Proofs.YtcclgodahlinbaaGreatDoor
open Go.RowKit Go
set_option maxRecDepth 100000

theorem toks_count : ∀ {ts : List Tok}, (∀ t ∈ ts, (10 : UInt8) ∉ tokL t) → (toksL ts).count 10 = ts.length
  | [], _ => rfl
  | t :: ts, h => by
    rw [toksL_cons, List.count_append, List.count_append, toks_count (fun x hx => h x (List.mem_cons_of_mem _ hx)), List.count_eq_zero.2 (h t (by simp))]
    simp
    omega
theorem steps_nl {st' : Rd} : ∀ {ts : List Tok} {st : Rd}, Steps st ts st' → ∀ t ∈ ts, (10 : UInt8) ∉ tokL t
  | [], _, _, t, ht => by simp at ht
  | t0 :: ts, st, ⟨m, h1, h2⟩, t, ht => by
    rcases List.mem_cons.1 ht with rfl | ht
    · exact step_nl h1
    · exact steps_nl h2 t ht
/-- a text that is cut off: whole lines, and the beginning of one -/
theorem toks_cut : ∀ (ts : List Tok) (n : Nat), (∀ t ∈ ts, (10 : UInt8) ∉ tokL t) → ∃ k rest, k ≤ ts.length ∧ (toksL ts).take n = toksL (ts.take k) ++ rest ∧ (10 : UInt8) ∉ rest
  | [], n, _ => ⟨0, [], by simp, by simp [toksL], by simp⟩
  | t :: ts, n, h => by
    have ht := h t (by simp)
    by_cases hn : n ≤ (tokL t).length
    · refine ⟨0, (tokL t).take n, by simp, ?_, fun hm => ht (List.mem_of_mem_take hm)⟩
      rw [toksL_cons, List.append_assoc, List.take_append_of_le_length hn]
      simp [toksL]
    · obtain ⟨k, rest, h1, h2, h3⟩ := toks_cut ts (n - ((tokL t).length + 1)) (fun x hx => h x (List.mem_cons_of_mem _ hx))
      refine ⟨k + 1, rest, by simp; omega, ?_, h3⟩
      rw [toksL_cons, List.take_succ_cons, toksL_cons, List.append_assoc _ _ rest, ← h2]
      rw [List.take_append, List.take_of_length_le (by simp; omega)]
      simp
theorem toks_last {ts : List Tok} (h0 : ts ≠ []) (hk : ∀ t ∈ ts, (10 : UInt8) ∉ tokL t) : ∃ tl, (toksL ts).take ((toksL ts).length - 1) = toksL (ts.take (ts.length - 1)) ++ tl ∧ (10 : UInt8) ∉ tl ∧ tl = tokL (ts.getLast h0) := by
  have e : ts = ts.take (ts.length - 1) ++ [ts.getLast h0] := by
    conv => lhs; rw [← List.dropLast_concat_getLast h0, List.dropLast_eq_take]
  refine ⟨tokL (ts.getLast h0), ?_, hk _ (List.getLast_mem h0), rfl⟩
  conv => lhs; rw [e, toksL_append, toksL_one]
  rw [← List.append_assoc, List.take_left' (by simp)]
theorem tokL_ne (t : Tok) : tokL t ≠ [] := by cases t <;> simp [tokL, headM]

/-! ### Diff's hunks -/
structure DiffFacts (X Y : List ByteArray) (c : Nat) (hs : List HunkM) : Prop where
  eq : hunksM (Dn.wayM X Y) c = hs
  right : rightM 0 0 hs = true
  ok : hs.all hunkOkB = true
  len : hs.length ≤ 120
  sm : ∀ h ∈ hs, Small h ∧ ∀ s ∈ h.lines, Fine s
  txt : (writeM hs).length ≤ 4440
  nil : hs = [] → X = Y
  toks : (toksM hs).length ≤ 240
theorem wins_small {L : List StepB} (hL : WayOk L) (hO : cO L ≤ 60) (hN : cN L ≤ 60) : ∀ (ws : List (Nat × Nat)) (p : Nat), Wins L p ws →
    (∀ h ∈ ws.map (fun p => numL (mkW L p)), Small h ∧ ∀ s ∈ h.lines, Fine s) ∧ (writeM (ws.map fun p => numL (mkW L p))).length + 37 * p ≤ 37 * L.length ∧ (toksM (ws.map fun p => numL (mkW L p))).length + 2 * p ≤ 2 * L.length
  | [], p, h => ⟨by simp, by have := h.1; simp [writeM, toksM, toksL]; omega, by have := h.1; simp [toksM]; omega⟩
  | (s, e) :: ws, p, h => by
    obtain ⟨h1, h2, h3, h4, _, h5⟩ := h
    obtain ⟨i1, i2, i3⟩ := wins_small hL hO hN ws e h5
    have e3 := cO_seg L (Nat.le_of_lt h2)
    have e4 := cN_seg L (Nat.le_of_lt h2)
    have hW : numL (mkW L (s, e)) = ⟨cO (L.take s) + (if cO ((L.take e).drop s) = 0 then 0 else 1), cO ((L.take e).drop s), cN (L.take s) + (if cN ((L.take e).drop s) = 0 then 0 else 1), cN ((L.take e).drop s), (L.take e).drop s⟩ := rfl
    have e5 : cO L = cO (L.take e) + cO (L.drop e) := by conv => lhs; rw [← List.take_append_drop e L, cO_append]
    have e6 : cN L = cN (L.take e) + cN (L.drop e) := by conv => lhs; rw [← List.take_append_drop e L, cN_append]
    have hmem : ∀ x ∈ (L.take e).drop s, x ∈ L := fun x hx => List.mem_of_mem_take (List.mem_of_mem_drop hx)
    have hlen : ((L.take e).drop s).length = e - s := by rw [List.length_drop, List.length_take]; omega
    have hsm : Small (numL (mkW L (s, e))) := by
      rw [hW]
      unfold Small
      refine ⟨?_, ?_, ?_, ?_⟩ <;> simp only <;> (try split) <;> omega
    refine ⟨?_, ?_, ?_⟩
    · intro x hx
      rw [List.map_cons] at hx
      rcases List.mem_cons.1 hx with rfl | hx
      · exact ⟨hsm, fun y hy => ⟨(hL y (hmem y hy)).1, by have := (hL y (hmem y hy)).2.2; omega⟩⟩
      · exact i1 x hx
    · have hone : (writeM [numL (mkW L (s, e))]).length ≤ 20 + 17 * (e - s) := by
        unfold writeM
        obtain ⟨x, hx, hxs⟩ : ∃ x : HunkM, toksH (numL (mkW L (s, e))) = (Sum.inl x : Tok) :: ((L.take e).drop s).map .inr ∧ Small x := ⟨_, rfl, hsm⟩
        rw [toksM_one, hx, toksL_cons, ← hlen]
        have hh := head_len hxs
        have hb : ∀ (M : List StepB), (∀ x ∈ M, x.text.size ≤ 15) → (toksL (M.map .inr)).length ≤ 17 * M.length := by
          intro M
          induction M with
          | nil => intro _; simp [toksL]
          | cons x M ih =>
            intro hM
            have := ih (fun y hy => hM y (List.mem_cons_of_mem _ hy))
            have h15 := hM x (by simp)
            have hsz : x.text.data.toList.length = x.text.size := rfl
            rw [List.map_cons, toksL_cons]
            simp only [List.length_append, tokL, List.length_cons, List.length_nil, hsz]
            omega
        have := hb ((L.take e).drop s) (fun x hx => (hL x (hmem x hx)).2.2)
        simp only [List.length_append, List.length_cons, List.length_nil]
        have h20 : (tokL (.inl x)).length ≤ 19 := hh
        omega
      have ec : (List.map (fun p => numL (mkW L p)) ((s, e) :: ws)) = [numL (mkW L (s, e))] ++ ws.map (fun p => numL (mkW L p)) := rfl
      rw [ec, writeM_append, List.length_append]
      omega
    · have ec : (List.map (fun p => numL (mkW L p)) ((s, e) :: ws)) = [numL (mkW L (s, e))] ++ ws.map (fun p => numL (mkW L p)) := rfl
      have h1' : (toksM [numL (mkW L (s, e))]).length = 1 + (e - s) := by
        rw [toksM_one]
        show (((L.take e).drop s).map (Sum.inr : StepB → Tok)).length + 1 = _
        rw [List.length_map, hlen]
        omega
      rw [ec, toksM_append, List.length_append, h1']
      omega
theorem diff_facts {X Y : List ByteArray} (c : Nat) (hX : ∀ s ∈ X, (10 : UInt8) ∉ s.data.toList ∧ s.size ≤ 15) (hY : ∀ s ∈ Y, (10 : UInt8) ∉ s.data.toList ∧ s.size ≤ 15) (hx : X.length ≤ 60) (hy : Y.length ≤ 60) : ∃ hs, DiffFacts X Y c hs := by
  obtain ⟨w1, w2, w3⟩ := Dn.wayM_way X Y
  have hlen : (Dn.wayM X Y).length ≤ 120 := by
    have := way_len X Y
    omega
  have hok : WayOk (Dn.wayM X Y) := by
    intro s hs
    refine ⟨w3 s hs, ?_⟩
    rcases way_text hs with h | h
    · exact hX _ h
    · exact hY _ h
  obtain ⟨ws, e1, e2⟩ := hunks_wins (Dn.wayM X Y) c
  obtain ⟨r1, r2⟩ := wins_right hok (by omega) ws 0 (Nat.zero_le _) e2
  have hO : cO (Dn.wayM X Y) ≤ 60 := by unfold cO; rw [w1]; exact hx
  have hN : cN (Dn.wayM X Y) ≤ 60 := by unfold cN; rw [w2]; exact hy
  obtain ⟨q1, q2, q3⟩ := wins_small hok hO hN ws 0 e2
  refine ⟨_, e1, by simpa [cO, cN, Dn.oldOf, Dn.newOf] using r1, r2, ?_, q1, by omega, ?_, by omega⟩
  · have := wins_length ws 0 e2
    rw [List.length_map]
    omega
  · intro hnil
    have : ws = [] := by simpa using hnil
    subst this
    have hk := keeps_same (kept_seg e2.2)
    simp only [List.drop_zero, List.take_length] at hk
    rw [w1, w2] at hk
    exact hk.1.trans hk.2.symm

/-- the text of a patch of Diff's, and how it is read -/
theorem strict_run {hs : List HunkM} (hr : rightM 0 0 hs = true) (hsm : ∀ h ∈ hs, Small h ∧ ∀ s ∈ h.lines, Fine s) : ∃ st, Steps Rd.start (toksM hs) st ∧ st.hs = hs ∧ st.f = 0 ∧ st.t = 0 ∧ st.ended ∧ ∀ h tl, hs = h :: tl → fitsM h st.en st.gr = false := by
  obtain ⟨st, g1, g2, g3, g4, g5, g6, g7, g8⟩ := run_hunks hs Rd.start hr rfl rfl (.inl rfl) hsm
  refine ⟨st, g1, by rw [g2]; rfl, g3, g4, g5, ?_⟩
  intro h tl e
  subst e
  have z1 : Rd.start.en = 0 := rfl
  have z2 : Rd.start.gr = 0 := rfl
  exact first_again hr (g8 h tl rfl) (by rw [g7, z2]; omega)
end Go.Proofs.YtcclgodahlinbaaGreatDoor
