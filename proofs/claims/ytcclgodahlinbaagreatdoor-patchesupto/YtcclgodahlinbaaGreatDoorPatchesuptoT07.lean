import Derived.Test.YtcclgodahlinbaaGreatDoorPatchesuptoT04
import Derived.Test.YtcclgodahlinbaaGreatDoorPatchesuptoT05
import Derived.Test.YtcclgodahlinbaaGreatDoorPatchesuptoT06
import Derived.Test.YtcclgodahlinbaaGreatDoorPatchesuptoT03
namespace Go.Proofs.YtcclgodahlinbaaGreatDoor
open Go.RowKit Go
set_option maxRecDepth 100000
def FineB (s : StepB) : Prop := (s.kind = 32 ∨ s.kind = 45 ∨ s.kind = 43) ∧ s.text.size ≤ 1048576
theorem wpList_joinB {ops : Array Oper} {rest : List Oper} {o : Oper} {a : Act} {w : World} {Q : Exit → Act → World → Prop} (hgd : o.guard = none) (s x : Operand)
    (ho : o.op = .call { callee := .builtin .append, args := #[s, x], argTypes := #[59, 59] }) {base : Nat} {v : Value} {A B : List StepB} (hs : a.eval s = v) (hA : w.ownsRow base 93 2 v A.length (stepCells A))
    {vx : Value} (hx : a.eval x = vx) (hX : w.ownsRow base 93 2 vx B.length (stepCells B)) (hn : A.length + B.length ≤ 4000000) (hb : base ≤ w.heap.size)
    (h : ∀ v' w', w'.ownsRow base 93 2 v' (A.length + B.length) (stepCells (A ++ B)) → w.grownBy w' v.ownBlock → (v'.ownBlock = v.ownBlock ∨ ∀ g, v'.ownBlock = some g → w.heap.size ≤ g) →
      wpList Tryz.prog ops Q rest (a.put o.dst v') w') : wpList Tryz.prog ops Q (o :: rest) a w := by
  obtain ⟨i0, hi, hz0, hz1, hz2⟩ := info_parts info_line
  rcases hX.2 with ⟨rfl, h0⟩ | ⟨g, cap, cur, rfl, hbg, hg, hnc, hcm, hcs, htake⟩
  · obtain rfl : B = [] := List.eq_nil_of_length_eq_zero h0
    refine wpList_append_own_none hgd s x 59 ho base 93 i0 2 Tryz.underlying59 hi v A.length (stepCells A) hs hA hx ?_
    exact h v w (by simpa using hA) ⟨rfl, rfl, rfl, Nat.le_refl _, fun _ _ _ => rfl⟩ (.inl rfl)
  · refine wpList_append_own2 hgd s x 59 ho base 93 i0 _ 2 24 Tryz.underlying59 hi hz0 hz1 hz2 rfl (by decide) v A.length (stepCells A) hs hA ⟨g, 0, none⟩ B.length cap (stepCells B) hx hX.1 (fun j u hu => hX.cells (g := g) rfl j u hu) (step_one B) (by unfold maxLen; omega) (by omega) hb ?_
    intro v' w' h1 h2 h3
    exact h v' w' (by rw [stepCells_append]; exact h1) h2 h3
set_option maxHeartbeats 8000000 in
theorem revLines_big {L : List StepB} {a : Option Addr} {cap : Nat} {w : World} (hS : StepsAt w.heap.size w (.slice a L.length cap) L) (hL : L.length ≤ 1048576) (hK : ∀ s ∈ L, FineB s) :
    Calls Tryz.prog 70 #[.slice a L.length cap] w fun e w' => ∃ v, e = .returned v ∧ w'.ownsRow w.heap.size 93 2 v (revL L).length (stepCells (revL L)) ∧ Below w.heap.size w w' := by
  obtain ⟨i0, hi, hz0, hz1, hz2⟩ := info_parts info_line
  obtain ⟨W0, hmk, hM, hgm⟩ := run_makeSlice_owned (P := Tryz.prog) (w := w) w.heap.size 59 93 i0 _ 2 Tryz.underlying59 hi hz0 hz1 .i64 .i64 L.length (by omega) (by rw [hz2]; omega) (by unfold maxLen; omega) (Nat.le_refl _)
  have hb0 : Below w.heap.size w W0 := (Below.refl _ _).grown hgm (Nat.le_refl _) (fun k e => by cases e)
  have hTw0 : Two w.heap.size (.slice (some ⟨w.heap.size, 0, none⟩) 0 L.length) (.slice none 0 0) (revF (L.take 0)) W0 := ⟨hM, World.ownsRow_nil _ _ _ _, .inl rfl⟩
  clear hM hgm
  go_enter Tryz.func70, Tryz.ntmps70
  go_wp2_with fail
  clear hmk
  go_loopg [3, 4, 13] L.length (fun g vt va t wr => ∃ k : Nat, g = L.length - k ∧ k ≤ L.length ∧ t = .int .i64 k ∧ Two w.heap.size vt va (revF (L.take k)) wr ∧ Below w.heap.size w wr)
  case atStart => exact ⟨0, by omega, by omega, rfl, hTw0, hb0⟩
  case round =>
    obtain ⟨k, hgk, hkl, rfl, hTw, hbel⟩ := hrel
    have hG : Hid (gk = L.length - k) := hgk
    clear hgk hTw0 hb0
    have hsw := hbel.size
    have hrl := revF_len (L.take k)
    rw [List.length_take, Nat.min_eq_left hkl] at hrl
    have hrl' : (revF (L.take k)).1.length + (revF (L.take k)).2.length ≤ 1048576 := by omega
    clear hrl
    by_cases hk : k < L.length
    · have hkI : (k : Int) < L.length := by omega
      obtain ⟨bb, rfl, hbB, r0, r1⟩ := (hS.below hbel).at hk
      have hF := hK _ (List.getElem_mem hk)
      have hrt : Hid (revF (L.take (k + 1)) = revStep (revF (L.take k)) L[k]) := revF_take hk
      generalize L[k] = s at *
      generalize revF (L.take k) = R at *
      have hB1 := heap_alloc_new wr (.cells #[.int .u8 (s.kind : Int), .string s.text] 93)
      have hT1 := hTw.alloc (.cells #[.int .u8 (s.kind : Int), .string s.text] 93)
      have hb1 := hbel.alloc hsw (.cells #[.int .u8 (s.kind : Int), .string s.text] 93)
      have hz1' : (wr.alloc (.cells #[.int .u8 (s.kind : Int), .string s.text] 93)).heap.size = wr.heap.size + 1 := by simp
      have y0 : (wr.alloc (.cells #[.int .u8 (s.kind : Int), .string s.text] 93)).cell? ⟨wr.heap.size, 0, none⟩ = some (.int .u8 (s.kind : Int)) := cell_of hB1 rfl
      have y1 : (wr.alloc (.cells #[.int .u8 (s.kind : Int), .string s.text] 93)).cell? ⟨wr.heap.size, 1, none⟩ = some (.string s.text) := cell_of hB1 rfl
      go_wp2_with fail
      generalize wr.alloc (.cells #[.int .u8 (s.kind : Int), .string s.text] 93) = W1 at *
      refine (clone_any s.text W1 (by have := hF.2; omega)).mono ?_
      rintro e W2 ⟨rfl, b2⟩
      have hT2 := hT1.below b2
      have hb2 := hb1.trans (b2.mono (by omega))
      have hsz2 := hb2.size
      have y0' : W2.cell? ⟨wr.heap.size, 0, none⟩ = some (.int .u8 (s.kind : Int)) := (b2.cell (p := ⟨wr.heap.size, 0, none⟩) (by show wr.heap.size < _; omega)).trans y0
      clear hTw hT1 hB1 y0 y1 hb1
      have hone : ∀ (kk : Int), ∀ u ∈ [Value.int .u8 kk, Value.string s.text], u.oneCell' = true := by intro kk u hu; simp at hu; rcases hu with rfl | rfl <;> rfl
      obtain ⟨aT, cT, rfl⟩ := owns_isSlice hT2.t
      obtain ⟨aA, cA, rfl⟩ := owns_isSlice hT2.a
      rcases hF.1 with hk32 | hk45 | hk43
      · rw [hk32] at y0'
        have hrt2 : Hid (revF (L.take (k + 1)) = (R.1 ++ R.2 ++ [⟨32, s.text⟩], [])) := by unfold Hid; rw [hrt.out]; unfold revStep; rw [if_neg (by omega), if_neg (by omega)]
        clear hrt hk32
        have hcut := fun w => run_cut0 (a := aA) (n := R.2.length) (c := cA) w
        go_wp2_with (first | (at_builtin; refine wpList_joinB rfl (.tmp 22) (.tmp 23) rfl rfl hT2.t rfl hT2.a (by omega) hsz2 ?_; intro v3 w3 hown3 hgr3 hnew3; have hT3 := hT2.newT (T := R.1 ++ R.2) (by rw [List.length_append]; exact hown3) hgr3 hnew3; obtain ⟨a3, c3, rfl⟩ := owns_isSlice hown3; have hsz3 := hgr3.size) | (at_builtin; refine wpList_append_own2 rfl (.tmp 27) (.tmp 30) 59 rfl w.heap.size 93 i0 _ 2 24 Tryz.underlying59 hi hz0 hz1 hz2 rfl (by decide) (.slice a3 (R.1.length + R.2.length) c3) (R.1.length + R.2.length) (stepCells (R.1 ++ R.2)) rfl (hown3.alloc _) ⟨w3.heap.size, 0, none⟩ 1 1 [.int .u8 32, .string s.text] rfl rfl (cells_new w3 [.int .u8 32, .string s.text] 93) (hone 32) (by unfold maxLen; omega) (by omega) (by simp; omega) ?_; intro v' w4 hown4 hgr hnew))
        have hT3c : Two w.heap.size (.slice a3 (R.1.length + R.2.length) c3) (.slice aA 0 cA) (R.1 ++ R.2, []) w3 := ⟨hT3.t, owns_cut0 hT3.a, by rw [ownBlock_cut aA 0 R.2.length cA]; exact hT3.ap⟩
        go_roundg (L.length - (k + 1))
        · refine ⟨k + 1, rfl, by omega, by push_cast; rfl, ?_, ?_⟩
          · rw [hrt2.out]
            exact (hT3c.alloc _).newT (T := R.1 ++ R.2 ++ [⟨32, s.text⟩]) (by rw [List.length_append, List.length_append, stepCells_append]; exact hown4) hgr hnew
          · exact ((hb2.grown hgr3 hsz2 (fun j e => (hT2.t.lt j e).1)).alloc (by omega) _).grown hgr (by simp; omega) (fun j e => (hown3.lt j e).1)
        · have := hG.out; omega
      · rw [hk45] at y0'
        have hrt2 : Hid (revF (L.take (k + 1)) = (R.1, R.2 ++ [⟨43, s.text⟩])) := by unfold Hid; rw [hrt.out]; unfold revStep; rw [if_pos hk45]
        clear hrt hk45
        go_wp2_with (at_builtin; refine wpList_append_own2 rfl (.tmp 34) (.tmp 37) 59 rfl w.heap.size 93 i0 _ 2 24 Tryz.underlying59 hi hz0 hz1 hz2 rfl (by decide) (.slice aA R.2.length cA) R.2.length (stepCells R.2) rfl (hT2.a.alloc _) ⟨W2.heap.size, 0, none⟩ 1 1 [.int .u8 43, .string s.text] rfl rfl (cells_new W2 [.int .u8 43, .string s.text] 93) (hone 43) (by unfold maxLen; omega) (by omega) (by simp; omega) ?_; intro v' w3 hown3 hgr hnew)
        go_roundg (L.length - (k + 1))
        · refine ⟨k + 1, rfl, by omega, by push_cast; rfl, ?_, ?_⟩
          · rw [hrt2.out]
            exact (hT2.alloc _).newA (by rw [List.length_append, stepCells_append]; exact hown3) hgr hnew
          · exact (hb2.alloc hsz2 _).grown hgr (by simp; omega) (fun j e => (hT2.a.lt j e).1)
        · have := hG.out; omega
      · rw [hk43] at y0'
        have hrt2 : Hid (revF (L.take (k + 1)) = (R.1 ++ [⟨45, s.text⟩], R.2)) := by unfold Hid; rw [hrt.out]; unfold revStep; rw [if_neg (by omega), if_pos hk43]
        clear hrt hk43
        go_wp2_with (at_builtin; refine wpList_append_own2 rfl (.tmp 41) (.tmp 44) 59 rfl w.heap.size 93 i0 _ 2 24 Tryz.underlying59 hi hz0 hz1 hz2 rfl (by decide) (.slice aT R.1.length cT) R.1.length (stepCells R.1) rfl (hT2.t.alloc _) ⟨W2.heap.size, 0, none⟩ 1 1 [.int .u8 45, .string s.text] rfl rfl (cells_new W2 [.int .u8 45, .string s.text] 93) (hone 45) (by unfold maxLen; omega) (by omega) (by simp; omega) ?_; intro v' w3 hown3 hgr hnew)
        go_roundg (L.length - (k + 1))
        · refine ⟨k + 1, rfl, by omega, by push_cast; rfl, ?_, ?_⟩
          · rw [hrt2.out]
            exact (hT2.alloc _).newT (by rw [List.length_append, stepCells_append]; exact hown3) hgr hnew
          · exact (hb2.alloc hsz2 _).grown hgr (by simp; omega) (fun j e => (hT2.t.lt j e).1)
        · have := hG.out; omega
    · obtain rfl : k = L.length := by omega
      rw [List.take_length] at hTw hrl'
      obtain ⟨aT, cT, rfl⟩ := owns_isSlice hTw.t
      obtain ⟨aA, cA, rfl⟩ := owns_isSlice hTw.a
      have hRL : Hid (revL L = (revF L).1 ++ (revF L).2) := rfl
      generalize revF L = R at *
      go_wp2_with (at_builtin; refine wpList_joinB rfl (.tmp 47) (.tmp 48) rfl rfl hTw.t rfl hTw.a (by omega) hsw ?_; intro v3 w3 hown3 hgr3 hnew3; obtain ⟨a3, c3, rfl⟩ := owns_isSlice hown3)
      go_ret
      exact ⟨_, rfl, by rw [hRL.out, List.length_append]; exact hown3, hbel.grown hgr3 hsw (fun j e => (hTw.t.lt j e).1)⟩
set_option maxHeartbeats 8000000 in
theorem reversed_big {h : HunkM} {a : Option Addr} {cap : Nat} {w : World} (hS : StepsAt w.heap.size w (.slice a h.lines.length cap) h.lines) (hL : h.lines.length ≤ 1048576) (hK : ∀ s ∈ h.lines, FineB s) :
    Calls Tryz.prog 32 #[hunkVal h (.slice a h.lines.length cap)] w fun e w' => ∃ v, e = .returned (hunkVal (revH h) v) ∧ w'.ownsRow w.heap.size 93 2 v (revL h.lines).length (stepCells (revL h.lines)) ∧ Below w.heap.size w w' := by
  have hb1 := (Below.refl w.heap.size w).alloc (Nat.le_refl _) (.cells #[.int .i64 (h.fr : Int), .int .i64 (h.fc : Int), .int .i64 (h.tr : Int), .int .i64 (h.tc : Int), .slice a h.lines.length cap] 61)
  have hB1 := heap_alloc_new w (.cells #[.int .i64 (h.fr : Int), .int .i64 (h.fc : Int), .int .i64 (h.tr : Int), .int .i64 (h.tc : Int), .slice a h.lines.length cap] 61)
  have hz1 : (w.alloc (.cells #[.int .i64 (h.fr : Int), .int .i64 (h.fc : Int), .int .i64 (h.tr : Int), .int .i64 (h.tc : Int), .slice a h.lines.length cap] 61)).heap.size = w.heap.size + 1 := by simp
  generalize hW1 : w.alloc (.cells #[.int .i64 (h.fr : Int), .int .i64 (h.fc : Int), .int .i64 (h.tr : Int), .int .i64 (h.tc : Int), .slice a h.lines.length cap] 61) = W1 at *
  have hb2 := hb1.alloc (by omega) hunk0
  have hB2 := heap_alloc_new W1 hunk0
  rw [hz1] at hB2
  have hB1' := (Below.heap_alloc W1 hunk0 w.heap.size (by omega)).trans hB1
  have hz2 : (W1.alloc hunk0).heap.size = w.heap.size + 2 := by simp; omega
  have hWW : Hid (w.alloc (.cells #[.int .i64 (h.fr : Int), .int .i64 (h.fc : Int), .int .i64 (h.tr : Int), .int .i64 (h.tc : Int), .slice a h.lines.length cap] 61) = W1) := hW1
  clear hB1 hb1
  subst hW1
  go_enter Tryz.func32, Tryz.ntmps32
  go_wp2_with fail
  generalize (w.alloc (.cells #[.int .i64 (h.fr : Int), .int .i64 (h.fc : Int), .int .i64 (h.tr : Int), .int .i64 (h.tc : Int), .slice a h.lines.length cap] 61)).alloc hunk0 = W at *
  have hrl : Calls Tryz.prog 70 #[.slice a h.lines.length cap] W.drew fun e w' => ∃ v, e = .returned v ∧ ((∃ al cl, v = .slice al (revL h.lines).length cl) ∧ w'.ownsRow W.heap.size 93 2 v (revL h.lines).length (stepCells (revL h.lines)) ∧ Below W.heap.size W.drew w') := by
    refine (revLines_big (w := W.drew) ((hS.below hb2.drew).mono hb2.size) hL hK).mono ?_
    rintro e w' ⟨v, rfl, ho, hb⟩
    exact ⟨v, rfl, owns_isSlice ho, ho, hb⟩
  have hX : Hid (∀ w1, Below W.heap.size W.drew w1 → w1.heap[w.heap.size]? = W.heap[w.heap.size]? ∧ w1.heap[w.heap.size + 1]? = some hunk0 ∧ Below w.heap.size w w1 ∧ w.heap.size + 2 ≤ w1.heap.size) := by
    intro w1 hb
    have hz := hb.size
    have e : W.drew.heap.size = W.heap.size := rfl
    exact ⟨hb.block w.heap.size (by omega), (hb.block (w.heap.size + 1) (by omega)).trans hB2, hb2.drew.trans (hb.mono (by omega)), by omega⟩
  have x0 : W.cell? ⟨w.heap.size, 0, none⟩ = some (.int .i64 (h.fr : Int)) := cell_of hB1' rfl
  have x1 : W.cell? ⟨w.heap.size, 1, none⟩ = some (.int .i64 (h.fc : Int)) := cell_of hB1' rfl
  have x2 : W.cell? ⟨w.heap.size, 2, none⟩ = some (.int .i64 (h.tr : Int)) := cell_of hB1' rfl
  have x3 : W.cell? ⟨w.heap.size, 3, none⟩ = some (.int .i64 (h.tc : Int)) := cell_of hB1' rfl
  have x4 : W.cell? ⟨w.heap.size, 4, none⟩ = some (.slice a h.lines.length cap) := cell_of hB1' rfl
  have hln : Hid (revL h.lines = revL h.lines) := rfl
  generalize hRL : revL h.lines = RL at *
  have hRLH : Hid (revL h.lines = RL) := hRL
  have hWz : w.heap.size ≤ W.heap.size := by omega
  clear hRL hz2 hWW hln hb2 hB2 hz1
  have hI : W.drew.heap[w.heap.size]? = some (.cells #[.int .i64 (h.fr : Int), .int .i64 (h.fc : Int), .int .i64 (h.tr : Int), .int .i64 (h.tc : Int), .slice a h.lines.length cap] 61 (0, 0)) := hB1'
  refine wp_region_any mixed (wpKind.any (I := fun w' => w'.heap[w.heap.size]? = some (.cells #[.int .i64 (h.fr : Int), .int .i64 (h.fc : Int), .int .i64 (h.tr : Int), .int .i64 (h.tc : Int), .slice a h.lines.length cap] 61 (0, 0))) ?_)
  refine wpKind_take (i := 0) (n := 12) (v := .pointer (some ⟨w.heap.size, 2, none⟩)) rfl (by kernel_rfl) (by kernel_rfl) (by kernel_rfl) (fun c a w h => h) ⟨by simp [Region.wanted], fun w' hw => ?_⟩ ?_
  · simp [execOp, go_sem, Act.eval]
  refine wpKind_take (i := 1) (n := 11) (v := .int .i64 (h.tr : Int)) rfl (by kernel_rfl) (by kernel_rfl) (by kernel_rfl) (fun c a w h => h) ⟨by simp [Region.wanted], fun w' hw => ?_⟩ ?_
  · have hc : w'.cell? ⟨w.heap.size, 2, none⟩ = some (.int .i64 (h.tr : Int)) := cell_of (k := 2) hw rfl
    simp [execOp, go_sem, Act.eval, Act.put, hc]
  refine wpKind_take (i := 2) (n := 10) (v := .pointer (some ⟨w.heap.size, 3, none⟩)) rfl (by kernel_rfl) (by kernel_rfl) (by kernel_rfl) (fun c a w h => h) ⟨by simp [Region.wanted], fun w' hw => ?_⟩ ?_
  · simp [execOp, go_sem, Act.eval, Act.put]
  refine wpKind_take (i := 3) (n := 9) (v := .int .i64 (h.tc : Int)) rfl (by kernel_rfl) (by kernel_rfl) (by kernel_rfl) (fun c a w h => h) ⟨by simp [Region.wanted], fun w' hw => ?_⟩ ?_
  · have hc : w'.cell? ⟨w.heap.size, 3, none⟩ = some (.int .i64 (h.tc : Int)) := cell_of (k := 3) hw rfl
    simp [execOp, go_sem, Act.eval, Act.put, hc]
  refine wpKind_take (i := 4) (n := 8) (v := .pointer (some ⟨w.heap.size, 0, none⟩)) rfl (by kernel_rfl) (by kernel_rfl) (by kernel_rfl) (fun c a w h => h) ⟨by simp [Region.wanted], fun w' hw => ?_⟩ ?_
  · simp [execOp, go_sem, Act.eval, Act.put]
  refine wpKind_take (i := 5) (n := 7) (v := .int .i64 (h.fr : Int)) rfl (by kernel_rfl) (by kernel_rfl) (by kernel_rfl) (fun c a w h => h) ⟨by simp [Region.wanted], fun w' hw => ?_⟩ ?_
  · have hc : w'.cell? ⟨w.heap.size, 0, none⟩ = some (.int .i64 (h.fr : Int)) := cell_of (k := 0) hw rfl
    simp [execOp, go_sem, Act.eval, Act.put, hc]
  refine wpKind_take (i := 6) (n := 6) (v := .pointer (some ⟨w.heap.size, 1, none⟩)) rfl (by kernel_rfl) (by kernel_rfl) (by kernel_rfl) (fun c a w h => h) ⟨by simp [Region.wanted], fun w' hw => ?_⟩ ?_
  · simp [execOp, go_sem, Act.eval, Act.put]
  refine wpKind_take (i := 7) (n := 5) (v := .int .i64 (h.fc : Int)) rfl (by kernel_rfl) (by kernel_rfl) (by kernel_rfl) (fun c a w h => h) ⟨by simp [Region.wanted], fun w' hw => ?_⟩ ?_
  · have hc : w'.cell? ⟨w.heap.size, 1, none⟩ = some (.int .i64 (h.fc : Int)) := cell_of (k := 1) hw rfl
    simp [execOp, go_sem, Act.eval, Act.put, hc]
  refine wpKind_take (i := 8) (n := 4) (v := .pointer (some ⟨w.heap.size, 4, none⟩)) rfl (by kernel_rfl) (by kernel_rfl) (by kernel_rfl) (fun c a w h => h) ⟨by simp [Region.wanted], fun w' hw => ?_⟩ ?_
  · simp [execOp, go_sem, Act.eval, Act.put]
  refine wpKind_take (i := 9) (n := 3) (v := .slice a h.lines.length cap) rfl (by kernel_rfl) (by kernel_rfl) (by kernel_rfl) (fun c a w h => h) ⟨by simp [Region.wanted], fun w' hw => ?_⟩ ?_
  · have hc : w'.cell? ⟨w.heap.size, 4, none⟩ = some (.slice a h.lines.length cap) := cell_of (k := 4) hw rfl
    simp [execOp, go_sem, Act.eval, Act.put, hc]
  refine wpKind_one (i := 10) (n := 2) hI (by kernel_rfl) ?_
  refine wpOp_call rfl rfl 70 _ _ rfl #[.slice a h.lines.length cap] (by simp [Act.eval, Act.put]) (run_revLines _ _) (fun v w' => (∃ al cl, v = .slice al RL.length cl) ∧ w'.ownsRow W.heap.size 93 2 v RL.length (stepCells RL) ∧ Below W.heap.size W.drew w') hrl ?_
  rintro v w1 ⟨⟨al, cl, rfl⟩, hown, hbw⟩
  obtain ⟨e1, e2, e3, e4⟩ := hX.out w1 hbw
  have hI1 : w1.heap[w.heap.size]? = some (.cells #[.int .i64 (h.fr : Int), .int .i64 (h.fc : Int), .int .i64 (h.tr : Int), .int .i64 (h.tc : Int), .slice a h.lines.length cap] 61 (0, 0)) := e1.trans hB1'
  refine wpKind_take (i := 11) (n := 1) (v := .agg #[.int .i64 (h.tr : Int), .int .i64 (h.tc : Int), .int .i64 (h.fr : Int), .int .i64 (h.fc : Int), .slice al RL.length cl]) rfl (by kernel_rfl) (by kernel_rfl) (by kernel_rfl) (fun c a w h => h) ⟨by simp [Region.wanted], fun w' hw => ?_⟩ ?_
  · simp [execOp, go_sem, Act.eval, Act.put]
  refine wpKind_one (i := 12) (n := 0) hI1 (by kernel_rfl) ?_
  have r0 : w1.cell? ⟨w.heap.size + 1, 0, none⟩ = some (.int .i64 0) := cell_of e2 rfl
  have r1 : w1.cell? ⟨w.heap.size + 1, 1, none⟩ = some (.int .i64 0) := cell_of e2 rfl
  have r2 : w1.cell? ⟨w.heap.size + 1, 2, none⟩ = some (.int .i64 0) := cell_of e2 rfl
  have r3 : w1.cell? ⟨w.heap.size + 1, 3, none⟩ = some (.int .i64 0) := cell_of e2 rfl
  have r4 : w1.cell? ⟨w.heap.size + 1, 4, none⟩ = some (.slice none 0 0) := cell_of e2 rfl
  have rf : ∀ k, w1.frozen? ⟨w.heap.size + 1, k, none⟩ = false := fun k => frozen_of e2
  refine wpOp_skip (w' := ((((w1.setCell ⟨w.heap.size + 1, 0, none⟩ (.int .i64 (h.tr : Int))).setCell ⟨w.heap.size + 1, 1, none⟩ (.int .i64 (h.tc : Int))).setCell ⟨w.heap.size + 1, 2, none⟩ (.int .i64 (h.fr : Int))).setCell ⟨w.heap.size + 1, 3, none⟩ (.int .i64 (h.fc : Int))).setCell ⟨w.heap.size + 1, 4, none⟩ (.slice al RL.length cl)) rfl rfl ?_ ?_
  · simp [execOp, go_sem, Act.eval, Act.put, r0, r1, r2, r3, r4, rf]
  have hF := set5' e2 (.int .i64 (h.tr : Int)) (.int .i64 (h.tc : Int)) (.int .i64 (h.fr : Int)) (.int .i64 (h.fc : Int)) (.slice al RL.length cl)
  have hbF := ((((e3.setCell (p := ⟨w.heap.size + 1, 0, none⟩) (Nat.le_succ _) (.int .i64 (h.tr : Int))).setCell (p := ⟨w.heap.size + 1, 1, none⟩) (Nat.le_succ _) (.int .i64 (h.tc : Int))).setCell (p := ⟨w.heap.size + 1, 2, none⟩) (Nat.le_succ _) (.int .i64 (h.fr : Int))).setCell (p := ⟨w.heap.size + 1, 3, none⟩) (Nat.le_succ _) (.int .i64 (h.fc : Int))).setCell (p := ⟨w.heap.size + 1, 4, none⟩) (Nat.le_succ _) (.slice al RL.length cl)
  have hoF : ((((((w1.setCell ⟨w.heap.size + 1, 0, none⟩ (.int .i64 (h.tr : Int))).setCell ⟨w.heap.size + 1, 1, none⟩ (.int .i64 (h.tc : Int))).setCell ⟨w.heap.size + 1, 2, none⟩ (.int .i64 (h.fr : Int))).setCell ⟨w.heap.size + 1, 3, none⟩ (.int .i64 (h.fc : Int))).setCell ⟨w.heap.size + 1, 4, none⟩ (.slice al RL.length cl))).ownsRow W.heap.size 93 2 (.slice al RL.length cl) RL.length (stepCells RL) :=
    hown.kept (grownBy_trans (grownBy_trans (grownBy_trans (grownBy_trans (grownBy_setCell _ _ _ _) (grownBy_setCell _ _ _ _)) (grownBy_setCell _ _ _ _)) (grownBy_setCell _ _ _ _)) (grownBy_setCell _ _ _ _)) (.inr (owns_ne hown e2 (by decide)))
  refine wpKind_done ?_ (by kernel_rfl) ?_
  · show _ = _
    rw [heap_setCell_other _ _ _ _ _ (by omega), heap_setCell_other _ _ _ _ _ (by omega), heap_setCell_other _ _ _ _ _ (by omega), heap_setCell_other _ _ _ _ _ (by omega), heap_setCell_other _ _ _ _ _ (by omega)]
    exact hI1
  generalize ((((w1.setCell ⟨w.heap.size + 1, 0, none⟩ (.int .i64 (h.tr : Int))).setCell ⟨w.heap.size + 1, 1, none⟩ (.int .i64 (h.tc : Int))).setCell ⟨w.heap.size + 1, 2, none⟩ (.int .i64 (h.fr : Int))).setCell ⟨w.heap.size + 1, 3, none⟩ (.int .i64 (h.fc : Int))).setCell ⟨w.heap.size + 1, 4, none⟩ (.slice al RL.length cl) = WF at *
  have s0 : WF.cell? ⟨w.heap.size + 1, 0, none⟩ = some (.int .i64 (h.tr : Int)) := cell_of (k := 0) hF rfl
  have s1 : WF.cell? ⟨w.heap.size + 1, 1, none⟩ = some (.int .i64 (h.tc : Int)) := cell_of (k := 1) hF rfl
  have s2 : WF.cell? ⟨w.heap.size + 1, 2, none⟩ = some (.int .i64 (h.fr : Int)) := cell_of (k := 2) hF rfl
  have s3 : WF.cell? ⟨w.heap.size + 1, 3, none⟩ = some (.int .i64 (h.fc : Int)) := cell_of (k := 3) hF rfl
  have s4 : WF.cell? ⟨w.heap.size + 1, 4, none⟩ = some (.slice al RL.length cl) := cell_of (k := 4) hF rfl
  go_wp2_with fail
  refine bodyPost_ret (v := .agg #[.int .i64 (h.tr : Int), .int .i64 (h.tc : Int), .int .i64 (h.fr : Int), .int .i64 (h.fc : Int), .slice al RL.length cl]) ?_ rfl ⟨_, rfl, ?_, hbF⟩
  · simp [results, Tryz.results32, go_sem, s0, s1, s2, s3, s4]
  · rw [hRLH.out]
    exact owns_mono hoF (by omega)
set_option maxHeartbeats 4000000 in
theorem reverse_right {hs : List HunkM} {a : Option Addr} {cap : Nat} {w : World} (hH : HunksAt w.heap.size w (.slice a hs.length cap) hs) (hok : rightI 0 0 (hs.map HI.ofM) = true) (hLim : Lim (hs.map HI.ofM)) (hL : hs.length ≤ 300000) (hsm : ∀ h ∈ hs, h.lines.length ≤ 1048576 ∧ ∀ s ∈ h.lines, FineB s) :
    Calls Tryz.prog 15 #[.agg #[.slice a hs.length cap]] w fun e w' => ∃ al cl hv, e = .returned (.tuple #[.agg #[.slice al hv.length cl], .int .i64 0]) ∧ HSo w.heap.size (.slice al hv.length cl) hv w' ∧ hv.map (·.1) = hs.map revH ∧ Below w.heap.size w w' := by
  obtain ⟨i0, hi, hz0, hz1, hz2⟩ := info_parts info_hunk
  have hb0 := ((Below.refl w.heap.size w).alloc (Nat.le_refl _) (.cells #[.slice a hs.length cap] 32)).alloc (by simp) (.cells #[.slice none 0 0] 32)
  have hP1 := heap_alloc_new w (.cells #[.slice a hs.length cap] 32)
  have hP2 := heap_alloc_new (w.alloc (.cells #[.slice a hs.length cap] 32)) (.cells #[.slice none 0 0] 32)
  rw [World.size_alloc] at hP2
  have hP1' := (Below.heap_alloc (w.alloc (.cells #[.slice a hs.length cap] 32)) (.cells #[.slice none 0 0] 32) w.heap.size (by simp)).trans hP1
  have hz : ((w.alloc (.cells #[.slice a hs.length cap] 32)).alloc (.cells #[.slice none 0 0] 32)).heap.size = w.heap.size + 2 := by simp
  go_enter Tryz.func15, Tryz.ntmps15
  go_wp2_with fail
  generalize (w.alloc (.cells #[.slice a hs.length cap] 32)).alloc (.cells #[.slice none 0 0] 32) = W0 at *
  have hir := isRight_any (hs := hs.map HI.ofM) (a := a) (cap := cap) (w := W0) (by rw [List.length_map]; exact HIAt.of_hunks ((hH.below hb0).mono hb0.size)) hLim
  rw [List.length_map, hok] at hir
  refine hir.mono ?_
  rintro e W1 ⟨rfl, b1⟩
  have hbW1 := hb0.trans (b1.mono (by omega))
  have hsz1 := b1.size
  have hQ1 := (b1.block w.heap.size (by omega)).trans hP1'
  have hQ2 := (b1.block (w.heap.size + 1) (by omega)).trans hP2
  have y0 : W1.cell? ⟨w.heap.size, 0, none⟩ = some (.slice a hs.length cap) := cell_of hQ1 rfl
  clear hP1 hP2 hP1' hQ1
  go_wp2_with fail
  go_loopg [4, 14] hs.length (fun g v t wr => ∃ (k : Nat) (hv : List HV), g = hs.length - k ∧ k ≤ hs.length ∧ t = .int .i64 k ∧ HSo (w.heap.size + 2) v hv wr ∧ hv.map (·.1) = (hs.take k).map revH ∧ wr.heap[w.heap.size + 1]? = some (.cells #[.slice none 0 0] 32 (0, 0)) ∧ Below w.heap.size w wr)
  case atStart => exact ⟨0, [], by omega, by omega, rfl, .inl ⟨rfl, rfl⟩, rfl, hQ2, hbW1⟩
  case round =>
    obtain ⟨k, hv, hgk, hkl, rfl, hso, hmap, hQ, hbel⟩ := hrel
    have hG : Hid (gk = hs.length - k) := hgk
    clear hgk hQ2 hbW1
    have hsw := hbel.size
    have hltQ : w.heap.size + 1 < wr.heap.size := (Array.getElem?_eq_some_iff.1 hQ).1
    have hvlH : Hid (hv.length = k) := by unfold Hid; have := congrArg List.length hmap; simp at this; omega
    have hvl' : hv.length ≤ 300000 := by have := hvlH.out; omega
    by_cases hk : k < hs.length
    · have hkI : (k : Int) < hs.length := by omega
      obtain ⟨b, a', c', rfl, hbB, r0, r1, r2, r3, r4, hst⟩ := (hH.below hbel).at hk
      obtain ⟨l1, l2⟩ := hsm _ (List.getElem_mem hk)
      have hmk : Hid ((hs.take (k + 1)).map revH = (hs.take k).map revH ++ [revH hs[k]]) := by unfold Hid; rw [List.take_succ_eq_append_getElem hk, List.map_append]; rfl
      generalize hs[k] = h at *
      have hB1 := heap_alloc_new wr (.cells #[.int .i64 (h.fr : Int), .int .i64 (h.fc : Int), .int .i64 (h.tr : Int), .int .i64 (h.tc : Int), .slice a' h.lines.length c'] 61)
      have hso1 := hso.alloc (.cells #[.int .i64 (h.fr : Int), .int .i64 (h.fc : Int), .int .i64 (h.tr : Int), .int .i64 (h.tc : Int), .slice a' h.lines.length c'] 61)
      have hbl1 := hbel.alloc hsw (.cells #[.int .i64 (h.fr : Int), .int .i64 (h.fc : Int), .int .i64 (h.tr : Int), .int .i64 (h.tc : Int), .slice a' h.lines.length c'] 61)
      have hbr1 := (Below.refl w.heap.size wr).alloc hsw (.cells #[.int .i64 (h.fr : Int), .int .i64 (h.fc : Int), .int .i64 (h.tr : Int), .int .i64 (h.tc : Int), .slice a' h.lines.length c'] 61)
      have hz1' : (wr.alloc (.cells #[.int .i64 (h.fr : Int), .int .i64 (h.fc : Int), .int .i64 (h.tr : Int), .int .i64 (h.tc : Int), .slice a' h.lines.length c'] 61)).heap.size = wr.heap.size + 1 := by simp
      have hQ1 := (Below.heap_alloc wr (.cells #[.int .i64 (h.fr : Int), .int .i64 (h.fc : Int), .int .i64 (h.tr : Int), .int .i64 (h.tc : Int), .slice a' h.lines.length c'] 61) (w.heap.size + 1) hltQ).trans hQ
      have y0 := cell_of (k := 0) hB1 rfl
      have y1 := cell_of (k := 1) hB1 rfl
      have y2 := cell_of (k := 2) hB1 rfl
      have y3 := cell_of (k := 3) hB1 rfl
      have y4 := cell_of (k := 4) hB1 rfl
      go_wp2_with fail
      generalize wr.alloc (.cells #[.int .i64 (h.fr : Int), .int .i64 (h.fc : Int), .int .i64 (h.tr : Int), .int .i64 (h.tc : Int), .slice a' h.lines.length c'] 61) = W2 at *
      refine (reversed_big ((hst.below hbr1).mono (by omega)) l1 l2).mono ?_
      rintro e W3 ⟨vl, rfl, hvo, b3⟩
      have hsz3 := b3.size
      obtain ⟨avl, cvl, rfl⟩ := owns_isSlice hvo
      have hso3 := hso1.below b3
      obtain ⟨av, cv, rfl⟩ := hso3.len
      have hown3 := hso3.owns
      have hone : ∀ u ∈ [Value.int .i64 ((revH h).fr : Int), .int .i64 ((revH h).fc : Int), .int .i64 ((revH h).tr : Int), .int .i64 ((revH h).tc : Int), .slice avl (revL h.lines).length cvl], u.oneCell' = true := by intro u hu; simp at hu; rcases hu with rfl | rfl | rfl | rfl | rfl <;> rfl
      have hps : Hid (∀ ob w4 g cap, w4.ownsRow (w.heap.size + 2) 61 5 (.slice (some ⟨g, 0, none⟩) (hv.length + 1) cap) (hv.length + 1) (hunkCells hv ++ hunkCells1 (revH h, .slice avl (revL h.lines).length cvl)) → (W3.alloc ob).grownBy w4 (Value.slice av hv.length cv).ownBlock →
          HSo (w.heap.size + 2) (.slice (some ⟨g, 0, none⟩) (hv.length + 1) cap) (hv ++ [(revH h, .slice avl (revL h.lines).length cvl)]) w4 ∧ w4.heap[w.heap.size + 1]? = some (.cells #[.slice none 0 0] 32 (0, 0)) ∧ Below w.heap.size w w4) := by
        intro ob w4 g cap ho hg
        have hvb : ∀ j, (Value.slice av hv.length cv).ownBlock = some j → w.heap.size + 2 ≤ j := fun j e => (hown3.lt j e).1
        refine ⟨hso1.push2 (revH h) b3 hvo (by omega) hg ho, ?_, ?_⟩
        · refine (hg.block (w.heap.size + 1) (by simp; omega) (fun e => by have := hvb _ e.symm; omega)).trans ((Below.heap_alloc W3 ob (w.heap.size + 1) (by omega)).trans ((b3.block (w.heap.size + 1) (by omega)).trans hQ1))
        · exact ((hbl1.trans (b3.mono (by omega))).alloc (by omega) ob).grown hg (by simp; omega) (fun j e => by have := hvb j e; omega)
      go_wp2_with (at_builtin; refine wpList_append_own2 rfl (.tmp 18) (.tmp 21) 30 rfl (w.heap.size + 2) 61 i0 _ 5 56 Tryz.underlying30 hi hz0 hz1 hz2 rfl (by decide) (.slice av hv.length cv) hv.length (hunkCells hv) rfl (hown3.alloc _) ⟨W3.heap.size, 0, none⟩ 1 1 [.int .i64 ((revH h).fr : Int), .int .i64 ((revH h).fc : Int), .int .i64 ((revH h).tr : Int), .int .i64 ((revH h).tc : Int), .slice avl (revL h.lines).length cvl] rfl rfl (cells_new W3 _ _) hone (by unfold maxLen; omega) (by omega) (by simp; omega) ?_; intro v' w4 hown4 hgr4 _; obtain ⟨g', cap', rfl, hg', _⟩ := owns_slice hown4 (Nat.succ_pos _); obtain ⟨p1, p2, p3⟩ := hps.out _ w4 g' cap' hown4 hgr4)
      go_roundg (hs.length - (k + 1))
      · exact ⟨k + 1, _, rfl, by omega, by push_cast; rfl, p1, by rw [hmk.out, List.map_append, hmap]; rfl, p2, p3⟩
      · have := hG.out; omega
    · obtain rfl : k = hs.length := by omega
      rw [List.take_length] at hmap
      obtain ⟨av, cv, rfl⟩ := hso.len
      have q0 : wr.cell? ⟨w.heap.size + 1, 0, none⟩ = some (.slice none 0 0) := cell_of hQ rfl
      have qf : ∀ k, wr.frozen? ⟨w.heap.size + 1, k, none⟩ = false := fun k => frozen_of hQ
      go_wp2_with fail
      refine bodyPost_ret (v := .tuple #[.agg #[.slice av hv.length cv], .int .i64 0]) ?_ rfl ⟨av, cv, hv, rfl, ?_, hmap, ?_⟩
      · have hq : (wr.setCell ⟨w.heap.size + 1, 0, none⟩ (.slice av hv.length cv)).cell? ⟨w.heap.size + 1, 0, none⟩ = some (.slice av hv.length cv) := cell_of (heap_setCell_same _ _ _ _ _ _ _ hQ) rfl
        simp [results, Tryz.results15, go_sem, hq]
      · exact (hso.kept (grownBy_setCell wr (w.heap.size + 1) 0 (.slice av hv.length cv)) (fun k e => by cases e; exact .inr ⟨_, _, _, hQ, by decide, by decide⟩)).mono (by omega)
      · exact hbel.setCell (p := ⟨w.heap.size + 1, 0, none⟩) (Nat.le_succ _) _
def HI.toM (h : HI) : HunkM := ⟨h.fr.toNat, h.fc.toNat, h.tr.toNat, h.tc.toNat, h.lines⟩
theorem toM_of {h : HI} (h1 : numOk h.fr h.fc = true) (h2 : numOk h.tr h.tc = true) : HI.ofM h.toM = h := by
  rw [numOk_iff] at h1 h2
  unfold HI.ofM HI.toM
  obtain ⟨fr, fc, tr, tc, l⟩ := h
  simp only at h1 h2 ⊢
  simp only [HI.mk.injEq, and_true]
  exact ⟨by omega, by omega, by omega, by omega⟩
theorem right_ofM {hs : List HI} (h : rightI 0 0 hs = true) : (hs.map HI.toM).map HI.ofM = hs := by
  have ha := right_all h
  rw [List.map_map]
  conv => rhs; rw [← List.map_id hs]
  refine List.map_congr_left fun x hx => ?_
  exact toM_of (ha x hx).1 (ha x hx).2.1
theorem body_fine {h : HI} (hb : bodyOk h = true) (hl : ∀ s ∈ h.lines, s.kind < 256 ∧ s.text.size ≤ 1048576) : ∀ s ∈ h.lines, FineB s := by
  intro s hs
  unfold bodyOk at hb
  simp only [Bool.and_eq_true] at hb
  have h1 := List.all_eq_true.1 hb.1.1.1 s hs
  unfold lnOk kindOk at h1
  simp only [Bool.and_eq_true, Bool.or_eq_true, beq_iff_eq] at h1
  exact ⟨by omega, (hl s hs).2⟩
def revA (hs : List HI) : List HunkM × Int := if rightI 0 0 hs = true then (hs.map fun h => revH h.toM, 0) else ([], 4)
def H0At (B : Nat) (w : World) (v : Value) (hs : List HI) : Prop := HIAt B w v hs ∧ ∀ ms : List HunkM, ms.map HI.ofM = hs → HunksAt B w v ms
set_option maxHeartbeats 4000000 in
theorem reverse_any {hs : List HI} {a : Option Addr} {cap : Nat} {w : World} (hH : H0At w.heap.size w (.slice a hs.length cap) hs) (hL : Lim hs) :
    Calls Tryz.prog 15 #[.agg #[.slice a hs.length cap]] w fun e w' => ∃ al cl hv, e = .returned (.tuple #[.agg #[.slice al hv.length cl], .int .i64 (revA hs).2]) ∧ HSo w.heap.size (.slice al hv.length cl) hv w' ∧ hv.map (·.1) = (revA hs).1 ∧ Below w.heap.size w w' := by
  cases hr : rightI 0 0 hs with
  | true =>
    have hA : revA hs = (hs.map fun h => revH h.toM, 0) := by unfold revA; rw [hr]; rfl
    rw [hA]
    have hof := right_ofM hr
    have hal := right_all hr
    have h1 := hH.2 (hs.map HI.toM) hof
    have hlen : (hs.map HI.toM).length = hs.length := List.length_map ..
    rw [← hlen] at h1 ⊢
    have h2 := reverse_right (hs := hs.map HI.toM) h1 (by rw [hof]; exact hr) (by rw [hof]; exact hL) (by rw [hlen]; exact hL.1) (by
      intro x hx
      obtain ⟨y, hy, rfl⟩ := List.mem_map.1 hx
      exact ⟨(hL.2 y hy).1, body_fine (hal y hy).2.2 (hL.2 y hy).2.2.2.2.2⟩)
    refine h2.mono ?_
    rintro e w' ⟨al, cl, hv, rfl, h3, h4, h5⟩
    refine ⟨al, cl, hv, rfl, h3, ?_, h5⟩
    rw [h4, List.map_map]
    rfl
  | false =>
    have hA : revA hs = ([], 4) := by unfold revA; rw [hr]; rfl
    rw [hA]
    have hb0 := ((Below.refl w.heap.size w).alloc (Nat.le_refl _) (.cells #[.slice a hs.length cap] 32)).alloc (by simp) (.cells #[.slice none 0 0] 32)
    have hP2 := heap_alloc_new (w.alloc (.cells #[.slice a hs.length cap] 32)) (.cells #[.slice none 0 0] 32)
    rw [World.size_alloc] at hP2
    have hz : ((w.alloc (.cells #[.slice a hs.length cap] 32)).alloc (.cells #[.slice none 0 0] 32)).heap.size = w.heap.size + 2 := by simp
    have hir := isRight_any ((hH.1.below hb0).mono hb0.size) hL
    rw [hr] at hir
    clear hA hr
    go_enter Tryz.func15, Tryz.ntmps15
    go_wp2_with fail
    generalize (w.alloc (.cells #[.slice a hs.length cap] 32)).alloc (.cells #[.slice none 0 0] 32) = W0 at *
    refine hir.mono ?_
    rintro e W1 ⟨rfl, b1⟩
    have hQ2 := (b1.block (w.heap.size + 1) (by omega)).trans hP2
    have q0 : W1.cell? ⟨w.heap.size + 1, 0, none⟩ = some (.slice none 0 0) := cell_of hQ2 rfl
    have qf : ∀ k, W1.frozen? ⟨w.heap.size + 1, k, none⟩ = false := fun k => frozen_of hQ2
    go_wp2_with fail
    refine bodyPost_ret (v := .tuple #[.agg #[.slice none 0 0], .int .i64 4]) ?_ rfl ⟨none, 0, [], rfl, .inl ⟨rfl, rfl⟩, rfl, ?_⟩
    · have hq : (W1.setCell ⟨w.heap.size + 1, 0, none⟩ (.slice none 0 0)).cell? ⟨w.heap.size + 1, 0, none⟩ = some (.slice none 0 0) := cell_of (heap_setCell_same _ _ _ _ _ _ _ hQ2) rfl
      simp [results, Tryz.results15, go_sem, hq]
    · exact (hb0.trans (b1.mono (by omega))).setCell (p := ⟨w.heap.size + 1, 0, none⟩) (Nat.le_succ _) _
end Go.Proofs.YtcclgodahlinbaaGreatDoor
namespace Go.Proofs.YtcclgodahlinbaaGreatDoor
open Go.RowKit Go
set_option maxRecDepth 100000
def cutSt (r : List (List UInt8) × List UInt8) (c : UInt8) : List (List UInt8) × List UInt8 := if c = 10 then (r.1 ++ [r.2], []) else (r.1, r.2 ++ [c])
def cutL (l : List UInt8) : List (List UInt8) × List UInt8 := l.foldl cutSt ([], [])
def ofL (l : List UInt8) : ByteArray := ⟨l.toArray⟩
def refL (s : ByteArray) : List ByteArray := (cutL s.data.toList).1.map ofL
def refOk (s : ByteArray) : Bool := (cutL s.data.toList).2.isEmpty
theorem cutL_snoc (l : List UInt8) (c : UInt8) : cutL (l ++ [c]) = cutSt (cutL l) c := by
  unfold cutL; rw [List.foldl_append]; rfl
theorem snocInd {α : Type} {p : List α → Prop} (h0 : p []) (h1 : ∀ l a, p l → p (l ++ [a])) (l : List α) : p l := by
  have : ∀ r : List α, p r.reverse := by
    intro r
    induction r with
    | nil => exact h0
    | cons a r ih => rw [List.reverse_cons]; exact h1 _ _ ih
  simpa using this l.reverse
theorem cutL_ok (l : List UInt8) : (cutL l).1.flatMap (· ++ [10]) ++ (cutL l).2 = l ∧ (∀ a ∈ (cutL l).1, (10 : UInt8) ∉ a) ∧ (10 : UInt8) ∉ (cutL l).2 ∧ (cutL l).1.length = l.count 10 := by
  induction l using snocInd with
  | h0 => refine ⟨rfl, ?_, ?_, rfl⟩ <;> simp [cutL]
  | h1 l c ih =>
    obtain ⟨i1, i2, i3, i4⟩ := ih
    rw [cutL_snoc]
    unfold cutSt
    by_cases hc : c = 10
    · rw [if_pos hc]
      subst hc
      refine ⟨?_, ?_, by simp, ?_⟩
      · simp only [List.flatMap_append, List.flatMap_cons, List.flatMap_nil, List.append_nil]
        rw [← List.append_assoc, i1]
      · intro a ha
        rw [List.mem_append, List.mem_singleton] at ha
        rcases ha with ha | rfl
        · exact i2 a ha
        · exact i3
      · simp [i4]
    · rw [if_neg hc]
      refine ⟨by rw [← List.append_assoc, i1], i2, ?_, ?_⟩
      · rw [List.mem_append, List.mem_singleton]
        rintro (h | h)
        · exact i3 h
        · exact hc h.symm
      · rw [List.count_append, i4]
        have : List.count 10 [c] = 0 := by rw [List.count_eq_zero]; simp; exact fun e => hc e.symm
        omega
theorem textL_flat (L : List (List UInt8)) : textL (L.map ofL) = L.flatMap (· ++ [10]) := by
  induction L with
  | nil => rfl
  | cons a L ih =>
    rw [List.map_cons, List.flatMap_cons, ← ih]
    simp [textL, ofL]
theorem refL_plain (s : ByteArray) : Plain (refL s) := by
  intro t ht
  unfold refL at ht
  obtain ⟨a, ha, rfl⟩ := List.mem_map.1 ht
  exact (cutL_ok s.data.toList).2.1 a ha
theorem refOk_text {s : ByteArray} (h : refOk s = true) : s = textB (refL s) := by
  have h1 := (cutL_ok s.data.toList).1
  unfold refOk at h
  rw [List.isEmpty_iff.1 h, List.append_nil] at h1
  unfold textB refL
  rw [textL_flat, h1]
theorem refL_lines {s : ByteArray} (h : refOk s = true) : refL s = linesB s := by
  conv => rhs; rw [refOk_text h]
  exact (linesB_text (refL_plain s)).symm
theorem refL_length (s : ByteArray) : (refL s).length = s.data.toList.count 10 := by
  unfold refL; rw [List.length_map]; exact (cutL_ok _).2.2.2
theorem countByte_count : ∀ l : List UInt8, Lib.countByte l 10 = l.count 10 := fun l => by
  simp [Lib.countByte, List.count]
theorem refL_large (s : ByteArray) : (decide (8000 < s.size) || decide (200 < (refL s).length)) = largeB s := by
  unfold largeB; rw [refL_length, countByte_count]
theorem refOk_is (s : ByteArray) : refOk s = isTextB s := by
  by_cases h : refOk s = true
  · rw [h]
    conv => rhs; rw [refOk_text h]
    exact (isTextB_text _).symm
  · have hf : refOk s = false := by simpa using h
    rw [hf]
    obtain ⟨h1, _, h3, _⟩ := cutL_ok s.data.toList
    unfold refOk at hf
    have hne : (cutL s.data.toList).2 ≠ [] := by intro e; rw [e] at hf; cases hf
    symm
    unfold isTextB
    rw [Bool.or_eq_false_iff]
    constructor
    · rw [isEmpty_size]
      simp only [decide_eq_false_iff_not]
      intro e
      have hl : s.data.toList.length = 0 := e
      rw [← h1] at hl
      simp at hl
      exact hne hl.2
    · cases hq : Lib.hasSuffix s.data.toList [10] with
      | false => rfl
      | true =>
        exfalso
        have hlast : s.data.toList.getLast? = some 10 := by
          unfold Lib.hasSuffix at hq
          simp at hq
          obtain ⟨t, ht⟩ := hq
          rw [← ht]; simp
        rw [← h1, List.getLast?_append] at hlast
        obtain ⟨r, x, hrx⟩ : ∃ r x, (cutL s.data.toList).2 = r ++ [x] := by
          rcases List.eq_nil_or_concat (cutL s.data.toList).2 with h | ⟨r, x, h⟩
          · exact absurd h hne
          · exact ⟨r, x, by simpa using h⟩
        rw [hrx] at hlast h3
        simp at hlast
        apply h3
        rw [hlast]; simp
structure CutAt (s : ByteArray) (i f : Nat) (acc : List ByteArray) : Prop where
  lines : acc = (cutL (s.data.toList.take i)).1.map ofL
  rest : (s.data.toList.take i).drop f = (cutL (s.data.toList.take i)).2
  le : f ≤ i
  few : acc.length ≤ i
theorem CutAt.start (s : ByteArray) : CutAt s 0 0 [] := ⟨rfl, rfl, Nat.le_refl _, Nat.le_refl _⟩
theorem CutAt.nl {s : ByteArray} {i f : Nat} {acc : List ByteArray} (h : CutAt s i f acc) (hi : i < s.size) (hc : s[i]'hi = 10) : CutAt s (i + 1) (i + 1) (acc ++ [s.extract f i]) := by
  have hi' : i < s.data.toList.length := hi
  have hx : s.data.toList[i] = 10 := hc
  have e : cutL (s.data.toList.take (i + 1)) = cutSt (cutL (s.data.toList.take i)) 10 := by rw [List.take_succ_eq_append_getElem hi', cutL_snoc, hx]
  refine ⟨?_, ?_, Nat.le_refl _, by have := h.few; simp; omega⟩
  · rw [e]
    unfold cutSt
    rw [if_pos rfl]
    simp only [List.map_append, List.map_cons, List.map_nil]
    rw [← h.lines]
    congr 2
    apply ByteArray.ext
    apply Array.toList_inj.1
    rw [extract_list]
    show _ = (cutL (s.data.toList.take i)).2
    rw [← h.rest, List.drop_take]
  · rw [e]
    unfold cutSt
    rw [if_pos rfl]
    simp
theorem CutAt.no {s : ByteArray} {i f : Nat} {acc : List ByteArray} (h : CutAt s i f acc) (hi : i < s.size) (hc : s[i]'hi ≠ 10) : CutAt s (i + 1) f acc := by
  have hi' : i < s.data.toList.length := hi
  have hx : s.data.toList[i] ≠ 10 := hc
  have e : cutL (s.data.toList.take (i + 1)) = cutSt (cutL (s.data.toList.take i)) s.data.toList[i] := by rw [List.take_succ_eq_append_getElem hi', cutL_snoc]
  have hle := h.le
  refine ⟨?_, ?_, by omega, by have := h.few; omega⟩
  · rw [e]
    unfold cutSt
    rw [if_neg hx]
    exact h.lines
  · rw [e]
    unfold cutSt
    rw [if_neg hx, List.take_succ_eq_append_getElem hi', List.drop_append_of_le_length (by rw [List.length_take]; omega), h.rest]
theorem CutAt.done {s : ByteArray} {f : Nat} {acc : List ByteArray} (h : CutAt s s.size f acc) : acc = refL s ∧ decide (f = s.size) = refOk s := by
  have e : s.data.toList.take s.size = s.data.toList := List.take_of_length_le (Nat.le_refl _)
  have h1 := h.lines
  have h2 := h.rest
  have hl : s.data.toList.length = s.size := rfl
  have hle := h.le
  rw [e] at h1 h2
  refine ⟨h1, ?_⟩
  unfold refOk
  rw [← h2]
  by_cases hf : f = s.size
  · subst hf; rw [List.drop_eq_nil_of_le (Nat.le_refl s.size)]; simp
  · have : s.data.toList.drop f ≠ [] := by
      intro e2
      have := congrArg List.length e2
      rw [List.length_drop] at this
      simp at this
      omega
    cases hd : s.data.toList.drop f with
    | nil => exact absurd hd this
    | cons a l => simp [hf]
set_option maxHeartbeats 4000000 in
theorem refLines_any (s : ByteArray) (w : World) (hs : s.size ≤ 4000000000) :
    Calls Tryz.prog 37 #[.string s] w fun e w' => ∃ a c, e = .returned (.tuple #[.slice a (refL s).length c, .bool (refOk s)]) ∧ w'.ownsRow w.heap.size 9 1 (.slice a (refL s).length c) (refL s).length (strCells (refL s)) ∧ Below w.heap.size w w' := by
  obtain ⟨i0, hi, hz0, hz1, hz2⟩ := info_parts info_str
  go_enter Tryz.func37, Tryz.ntmps37
  go_wp2_with fail
  go_loopg [4, 5, 6] s.size (fun g v vf vi wr => ∃ (i f n : Nat) (acc : List ByteArray), g = s.size - i ∧ i ≤ s.size ∧ f ≤ i ∧ n ≤ i ∧ vf = .int .i64 f ∧ vi = .int .i64 i ∧ acc.length = n ∧ Hid (CutAt s i f acc) ∧ wr.ownsRow w.heap.size 9 1 v n (strCells acc) ∧ Below w.heap.size w wr)
  case atStart => exact ⟨0, 0, 0, [], by omega, by omega, by omega, by omega, rfl, rfl, rfl, CutAt.start s, World.ownsRow_nil _ _ _ _, Below.refl _ _⟩
  case round =>
    obtain ⟨i, f, n, acc, hgi, hil, hfi, hni, rfl, rfl, hlen, hcut, hown, hbw⟩ := hrel
    have hG : Hid (gk = s.size - i) := hgi
    clear hgi
    have hszr := hbw.size
    obtain ⟨al, cl, rfl⟩ := owns_isSlice hown
    have hon : ∀ t : ByteArray, ∀ u ∈ [Value.string t], u.oneCell' = true := by intro t u hu; simp at hu; subst hu; rfl
    by_cases hi2 : i < s.size
    · have hiI : (i : Int) < s.size := by omega
      have hfI : (f : Int) ≤ i := by omega
      have hiI2 : (i : Int) ≤ s.size := by omega
      by_cases hc : s[i]'hi2 = 10
      · have hq : ((((s[i]'hi2).toNat : Nat) : Int) == 10) = true := by rw [byte_ten]; simp [hc]
        have hcut2 : Hid (CutAt s (i + 1) (i + 1) (acc ++ [s.extract f i])) := hcut.out.nl hi2 hc
        clear hcut
        go_wp2_with (at_builtin; refine wpList_append_own2 rfl (.tmp 17) (.tmp 22) 27 rfl w.heap.size 9 i0 _ 1 16 Tryz.underlying27 hi hz0 hz1 hz2 rfl (by decide) (.slice al n cl) n (strCells acc) rfl (hown.alloc _) ⟨wr.heap.size, 0, none⟩ 1 1 [.string (s.extract f i)] rfl rfl (cells_new wr [.string (s.extract f i)] 9) (hon _) (by unfold maxLen; omega) (by omega) (by simp; omega) ?_; intro v' w3 hown3 hgr hnew; have hb3 := (hbw.alloc (by omega) _).grown hgr (by simp; omega) (fun j e => by have := (hown.lt j e).1; omega))
        go_roundg (s.size - (i + 1))
        · exact ⟨i + 1, i + 1, n + 1, acc ++ [s.extract f i], rfl, by omega, by omega, by omega, by push_cast; rfl, by push_cast; rfl, by simp [hlen], hcut2, by rw [strCells_append]; exact hown3, hb3⟩
        · have := hG.out; omega
      · have hq : ((((s[i]'hi2).toNat : Nat) : Int) == 10) = false := by rw [byte_ten]; simp [hc]
        have hcut2 : Hid (CutAt s (i + 1) f acc) := hcut.out.no hi2 hc
        clear hcut
        go_wp2_with fail
        go_roundg (s.size - (i + 1))
        · exact ⟨i + 1, f, n, acc, rfl, by omega, by omega, by omega, rfl, by push_cast; rfl, hlen, hcut2, hown, hbw⟩
        · have := hG.out; omega
    · obtain rfl : i = s.size := by omega
      obtain ⟨e1, e2⟩ := hcut.out.done
      have hiI : ¬ ((s.size : Int) < s.size) := by omega
      have he2 : Hid (decide (f = s.size) = refOk s) := e2
      have he1 : Hid (acc = refL s) := e1
      clear e1 e2 hcut
      have hfe : (((f : Nat) : Int) == (s.size : Int)) = decide (f = s.size) := by rw [Bool.eq_iff_iff]; simp; omega
      go_wp2_with fail
      go_ret2
      have e1 := he1.out
      have e2 := he2.out
      refine ⟨al, cl, ?_, ?_, hbw⟩
      · rw [← e1, ← e2, hlen]; rfl
      · rw [← e1, hlen]
        exact hown
set_option maxHeartbeats 2000000 in
theorem large_any (s : ByteArray) (w : World) (hs : s.size ≤ 4000000000) :
    Calls Tryz.prog 38 #[.string s] w fun e w' => e = .returned (.bool (largeB s)) ∧ Below w.heap.size w w' := by
  have hlm := refL_large s
  have hl : (refL s).length ≤ s.size := by rw [refL_length]; exact List.count_le_length
  go_enter Tryz.func38, Tryz.ntmps38
  go_wp2_with fail
  refine (refLines_any s w hs).mono ?_
  rintro e w1 ⟨a, c, rfl, ho, hb⟩
  generalize (refL s).length = n at *
  by_cases h1 : 8000 < s.size
  · have h1I : (8000 : Int) < s.size := by omega
    go_wp2_with fail
    go_ret
    exact ⟨by rw [← hlm]; simp [h1], hb⟩
  · have h1I : ¬ ((8000 : Int) < s.size) := by omega
    go_wp2_with fail
    go_ret
    refine ⟨?_, hb⟩
    rw [← hlm]
    have e1 : decide (8000 < s.size) = false := by simp [h1]
    have e2 : decide ((8000 : Int) < s.size) = false := by simp; omega
    have e3 : decide ((200 : Int) < n) = decide (200 < n) := by rw [Bool.eq_iff_iff]; simp; omega
    simp only [e1, e2, e3, Bool.false_or]
    simp
set_option maxHeartbeats 2000000 in
theorem lined_any (s : ByteArray) (w : World) (hs : s.size ≤ 4000000000) :
    Calls Tryz.prog 117 #[.string s] w fun e w' => e = .returned (.bool (hasNl s)) ∧ w = w' := by
  go_enter Tryz.func117, Tryz.ntmps117
  go_wp2_with fail
  go_loopg [3] s.size (fun g t wr => ∃ i : Nat, g = s.size - i ∧ i ≤ s.size ∧ t = .int .i64 i ∧ Hid (nlB s i = false) ∧ wr = w)
  case atStart => exact ⟨0, by omega, by omega, rfl, rfl, rfl⟩
  case round =>
    obtain ⟨i, hgi, hil, rfl, hn, rfl⟩ := hrel
    have hG : Hid (gk = s.size - i) := hgi
    clear hgi
    by_cases hi : i < s.size
    · have hiI : (i : Int) < s.size := by omega
      have hS : Hid (nlB s (i + 1) = (nlB s i || (((s[i]'hi).toNat : Nat) : Int) == 10)) := nlB_next s i hi
      cases hq : ((((s[i]'hi).toNat : Nat) : Int) == 10) with
      | true =>
        have hY : Hid (hasNl s = true) := by
          show _ = _
          rw [hasNl_eq]
          have h1 : nlB s (i + 1) = true := by rw [hS.out, hq]; simp
          unfold nlB at h1 ⊢
          rw [List.contains_iff_mem] at h1 ⊢
          rw [List.take_of_length_le (show s.data.toList.length ≤ s.size from Nat.le_refl _)]
          exact List.mem_of_mem_take h1
        go_wp2_with fail
        go_ret
        exact ⟨by rw [hY.out]; rfl, rfl⟩
      | false =>
        have hN : Hid (nlB s (i + 1) = false) := by
          show _ = _
          rw [hS.out, hn.out, hq]; rfl
        go_wp2_with fail
        go_roundg (s.size - (i + 1))
        · exact ⟨i + 1, rfl, by omega, by push_cast; rfl, hN, rfl⟩
        · have := hG.out; omega
    · obtain rfl : i = s.size := by omega
      have hiI : ¬ ((s.size : Int) < s.size) := by omega
      have hN : Hid (hasNl s = false) := by show _ = _; rw [hasNl_eq]; exact hn.out
      go_wp2_with fail
      go_ret
      exact ⟨by rw [hN.out]; rfl, rfl⟩
end Go.Proofs.YtcclgodahlinbaaGreatDoor
namespace Go.Proofs.YtcclgodahlinbaaGreatDoor
open Go.RowKit Go
set_option maxRecDepth 100000
set_option maxHeartbeats 1000000 in
theorem refnumber_any (f c : Int) (w : World) : Calls Tryz.prog 142 #[.int .i64 f, .int .i64 c] w fun e w' => e = .returned (.bool (numOk f c)) ∧ w = w' := by
  have hno : ¬ (0 ≤ f ∧ f ≤ 100000 ∧ 0 ≤ c ∧ c ≤ 100000 ∧ (0 < f ∨ c = 0)) → numOk f c = false := fun h => by rw [Bool.eq_false_iff]; intro h2; exact h (numOk_iff.1 h2)
  have hye : (0 ≤ f ∧ f ≤ 100000 ∧ 0 ≤ c ∧ c ≤ 100000 ∧ (0 < f ∨ c = 0)) → numOk f c = true := numOk_iff.2
  by_cases t1 : 0 ≤ f
  · by_cases t2 : f ≤ 100000
    · by_cases t3 : 0 ≤ c
      · by_cases t4 : c ≤ 100000
        · by_cases t5 : 0 < f
          · rw [hye (by omega)]
            clear hno hye
            go_enter Tryz.func142, Tryz.ntmps142
            go_wp2
            go_ret
            exact ⟨rfl, rfl⟩
          · by_cases t6 : c = 0
            · rw [hye (by omega)]
              subst t6
              clear hno hye
              go_enter Tryz.func142, Tryz.ntmps142
              go_wp2
              go_ret
              exact ⟨rfl, rfl⟩
            · rw [hno (by omega)]
              have t7 : (c == 0) = false := by rw [beq_eq_false_iff_ne]; exact t6
              clear hno hye
              go_enter Tryz.func142, Tryz.ntmps142
              go_wp2
              go_ret
              exact ⟨rfl, rfl⟩
        · rw [hno (by omega)]
          clear hno hye
          go_enter Tryz.func142, Tryz.ntmps142
          go_wp2
          go_ret
          exact ⟨rfl, rfl⟩
      · rw [hno (by omega)]
        clear hno hye
        go_enter Tryz.func142, Tryz.ntmps142
        go_wp2
        go_ret
        exact ⟨rfl, rfl⟩
    · rw [hno (by omega)]
      clear hno hye
      go_enter Tryz.func142, Tryz.ntmps142
      go_wp2
      go_ret
      exact ⟨rfl, rfl⟩
  · rw [hno (by omega)]
    clear hno hye
    go_enter Tryz.func142, Tryz.ntmps142
    go_wp2
    go_ret
    exact ⟨rfl, rfl⟩
set_option maxHeartbeats 400000 in
theorem refplace_any (f c : Int) (w : World) (h : 0 ≤ f) (h2 : f ≤ 1000000) : Calls Tryz.prog 121 #[.int .i64 f, .int .i64 c] w fun e w' => e = .returned (.int .i64 (placeI f c)) ∧ w = w' := by
  unfold placeI
  by_cases hc : 0 < c
  · rw [if_pos hc]
    go_enter Tryz.func121, Tryz.ntmps121
    go_wp2
    go_ret
    exact ⟨rfl, rfl⟩
  · rw [if_neg hc]
    go_enter Tryz.func121, Tryz.ntmps121
    go_wp2
    go_ret
    exact ⟨rfl, rfl⟩
set_option maxHeartbeats 2000000 in
theorem follows_any (h : HI) (v : Value) (en gr : Int) (w : World) (hg1 : -1000000000000 ≤ gr) (hg2 : gr ≤ 1000000000000) :
    Calls Tryz.prog 120 #[hiVal h v, .int .i64 en, .int .i64 gr] w fun e w' => e = .returned (.bool (fitsI h en gr)) ∧ Below w.heap.size w w' := by
  have m1 := fun w => refnumber_any h.fr h.fc w
  have m2 := fun w => refnumber_any h.tr h.tc w
  have hb := (Below.refl w.heap.size w).alloc (Nat.le_refl _) (hiObj h v)
  cases n1 : numOk h.fr h.fc with
  | false =>
    have hF : fitsI h en gr = false := by unfold fitsI; rw [n1]; rfl
    rw [hF]
    rw [n1] at m1
    clear n1 hF
    generalize numOk h.tr h.tc = q at *
    go_enter Tryz.func120, Tryz.ntmps120
    go_wp2_with (first | (go_at_call 142; refine (m1 _).mono ?_; clear m1; rintro e w' ⟨rfl, rfl⟩) | (go_at_call 142; refine (m2 _).mono ?_; rintro e w' ⟨rfl, rfl⟩))
    go_ret
    exact ⟨rfl, hb⟩
  | true =>
    cases n2 : numOk h.tr h.tc with
    | false =>
      have hF : fitsI h en gr = false := by unfold fitsI; rw [n2]; simp
      rw [hF]
      rw [n1] at m1
      rw [n2] at m2
      clear n1 n2 hF
      go_enter Tryz.func120, Tryz.ntmps120
      go_wp2_with (first | (go_at_call 142; refine (m1 _).mono ?_; clear m1; rintro e w' ⟨rfl, rfl⟩) | (go_at_call 142; refine (m2 _).mono ?_; rintro e w' ⟨rfl, rfl⟩))
      go_ret
      exact ⟨rfl, hb⟩
    | true =>
      have hN1 := numOk_iff.1 n1
      have hN2 := numOk_iff.1 n2
      have p1 := fun w => refplace_any h.fr h.fc w (by omega) (by omega)
      have p2 := fun w => refplace_any h.tr h.tc w (by omega) (by omega)
      obtain ⟨r1, r2⟩ := place_range n1
      have hF : fitsI h en gr = (decide (en ≤ placeI h.fr h.fc) && decide (placeI h.tr h.tc = placeI h.fr h.fc + gr)) := by unfold fitsI; rw [n1, n2]; rfl
      rw [hF]
      rw [n1] at m1
      rw [n2] at m2
      clear n1 n2 hF hN1 hN2
      generalize placeI h.fr h.fc = PL at *
      generalize placeI h.tr h.tc = PT at *
      by_cases hc : en ≤ PL
      · have hd : decide (en ≤ PL) = true := decide_eq_true hc
        rw [hd, Bool.true_and]
        by_cases hq : PT = PL + gr
        · have f8' : (PT == PL + gr) = true := by simp [hq]
          rw [decide_eq_true hq]
          clear hq
          go_enter Tryz.func120, Tryz.ntmps120
          go_wp2_with (first | (go_at_call 142; refine (m1 _).mono ?_; clear m1; rintro e w' ⟨rfl, rfl⟩) | (go_at_call 142; refine (m2 _).mono ?_; rintro e w' ⟨rfl, rfl⟩) | (go_at_call 121; refine (p1 _).mono ?_; clear p1; rintro e w' ⟨rfl, rfl⟩) | (go_at_call 121; refine (p2 _).mono ?_; rintro e w' ⟨rfl, rfl⟩))
          go_ret
          exact ⟨rfl, hb⟩
        · have f8' : (PT == PL + gr) = false := by simpa using hq
          rw [decide_eq_false hq]
          clear hq
          go_enter Tryz.func120, Tryz.ntmps120
          go_wp2_with (first | (go_at_call 142; refine (m1 _).mono ?_; clear m1; rintro e w' ⟨rfl, rfl⟩) | (go_at_call 142; refine (m2 _).mono ?_; rintro e w' ⟨rfl, rfl⟩) | (go_at_call 121; refine (p1 _).mono ?_; clear p1; rintro e w' ⟨rfl, rfl⟩) | (go_at_call 121; refine (p2 _).mono ?_; rintro e w' ⟨rfl, rfl⟩))
          go_ret
          exact ⟨rfl, hb⟩
      · have hd : decide (en ≤ PL) = false := decide_eq_false hc
        rw [hd, Bool.false_and]
        go_enter Tryz.func120, Tryz.ntmps120
        go_wp2_with (first | (go_at_call 142; refine (m1 _).mono ?_; clear m1; rintro e w' ⟨rfl, rfl⟩) | (go_at_call 142; refine (m2 _).mono ?_; rintro e w' ⟨rfl, rfl⟩) | (go_at_call 121; refine (p1 _).mono ?_; clear p1; rintro e w' ⟨rfl, rfl⟩))
        go_ret
        exact ⟨rfl, hb⟩
end Go.Proofs.YtcclgodahlinbaaGreatDoor
namespace Go.Proofs.YtcclgodahlinbaaGreatDoor
open Go.RowKit Go
set_option maxRecDepth 100000
theorem lnOk_of {s : StepB} : lnOk s = true ↔ (s.kind = 32 ∨ s.kind = 45 ∨ s.kind = 43) ∧ hasNl s.text = false := by
  unfold lnOk kindOk; simp [or_assoc]
theorem body_rest {h : HI} (ha : h.lines.all lnOk = true) : bodyOk h = (chg h.lines && decide ((cntF h.lines : Int) = h.fc) && decide ((cntT h.lines : Int) = h.tc)) := by
  unfold bodyOk; rw [ha, Bool.true_and]
set_option maxHeartbeats 8000000 in
theorem refRight_any {hs : List HI} {a : Option Addr} {cap : Nat} {w : World} (hH : HIAt w.heap.size w (.slice a hs.length cap) hs) (hL : Lim hs) :
    Calls Tryz.prog 88 #[.agg #[.slice a hs.length cap]] w fun e w' => e = .returned (.bool (rightI 0 0 hs)) ∧ Below w.heap.size w w' := by
  have hw0 : Below w.heap.size w (w.alloc (.cells #[.slice a hs.length cap] 32)) := (Below.refl _ _).alloc (Nat.le_refl _) _
  have hP0 := heap_alloc_new w (.cells #[.slice a hs.length cap] 32)
  have hz0 : (w.alloc (.cells #[.slice a hs.length cap] 32)).heap.size = w.heap.size + 1 := by simp
  obtain ⟨hL1, hL2⟩ := hL
  go_enter Tryz.func88, Tryz.ntmps88
  go_wp2_with fail
  generalize w.alloc (.cells #[.slice a hs.length cap] 32) = W0 at *
  go_loopg [3, 4, 5] hs.length (fun g t3 t4 t5 wr => ∃ (k : Nat) (en gr : Int), g = hs.length - k ∧ k ≤ hs.length ∧ t3 = .int .i64 en ∧ t4 = .int .i64 gr ∧ t5 = .int .i64 k ∧ Hid (rightI 0 0 hs = rightI en gr (hs.drop k)) ∧ -(100000 * (k : Int)) ≤ gr ∧ gr ≤ 100000 * (k : Int) ∧ Below W0.heap.size W0 wr)
  case atStart => exact ⟨0, 0, 0, by omega, by omega, rfl, rfl, rfl, rfl, by omega, by omega, Below.refl _ _⟩
  case round =>
    obtain ⟨k, en, gr, hgk, hkl, rfl, rfl, rfl, hm, hg1, hg2, hbel⟩ := hrel
    have hG : Hid (gk = hs.length - k) := hgk
    clear hgk
    have hsz := hbel.size
    have hbw := hw0.trans (hbel.mono (by omega))
    have p0 : wr.cell? ⟨w.heap.size, 0, none⟩ = some (.slice a hs.length cap) := cell_of ((hbel.block w.heap.size (by omega)).trans hP0) rfl
    by_cases hk : k < hs.length
    · have hkI : (k : Int) < hs.length := by omega
      obtain ⟨b, off, a', c', rfl, hbB, r0, r1, r2, r3, r4, hst⟩ := (hH.below hbw).at hk
      obtain ⟨l1, -, -, -, -, l2⟩ := hL2 _ (List.getElem_mem hk)
      have hm2 : Hid (rightI 0 0 hs = (fitsI hs[k] en gr && bodyOk hs[k] && rightI (placeI hs[k].fr hs[k].fc + hs[k].fc) (gr + hs[k].tc - hs[k].fc) (hs.drop (k + 1)))) := by
        show _ = _
        rw [hm.out, List.drop_eq_getElem_cons hk, rightI]
      generalize hs[k] = h at r0 r1 r2 r3 r4 hst hm2 l1 l2
      clear hm
      have hB1 := heap_alloc_new wr (hiObj h (.slice a' h.lines.length c'))
      have q1 := (Below.refl wr.heap.size wr).alloc (Nat.le_refl _) (hiObj h (.slice a' h.lines.length c'))
      have hz1 : (wr.alloc (hiObj h (.slice a' h.lines.length c'))).heap.size = wr.heap.size + 1 := by simp
      go_wp2_with fail
      generalize wr.alloc (hiObj h (.slice a' h.lines.length c')) = U at *
      have hbU := hbel.trans (q1.mono (by omega))
      have hst' := hst.below (q1.mono (by omega))
      have hE : Hid (∀ wi, Below U.heap.size U wi → Below w.heap.size w wi ∧ Below W0.heap.size W0 wi ∧ wi.heap[wr.heap.size]? = some (hiObj h (.slice a' h.lines.length c')) ∧ LinesAt w.heap.size wi (.slice a' h.lines.length c') h.lines ∧ wr.heap.size < wi.heap.size) := by
        intro wi hbi
        have hzi := hbi.size
        exact ⟨(hw0.trans (hbU.mono (by omega))).trans (hbi.mono (by have := hw0.size; omega)), hbU.trans (hbi.mono (by omega)), (hbi.block wr.heap.size (by omega)).trans hB1, hst'.below (hbi.mono (by omega)), by omega⟩
      clear r0 r1 r2 r3 r4 p0 hst hst' hB1 hbU q1 hbel hbw
      unfold hiObj at hE
      go_loopg [7, 8, 9, 10] h.lines.length (fun g t7 t8 t9 t10 wi => ∃ j : Nat, g = h.lines.length - j ∧ j ≤ h.lines.length ∧ t7 = .int .i64 (cntF (h.lines.take j) : Nat) ∧ t8 = .int .i64 (cntT (h.lines.take j) : Nat) ∧ t9 = .bool (chg (h.lines.take j)) ∧ t10 = .int .i64 j ∧ Hid ((h.lines.take j).all lnOk = true) ∧ Below U.heap.size U wi)
      case atStart => exact ⟨0, by omega, by omega, rfl, rfl, rfl, rfl, rfl, Below.refl _ _⟩
      case round =>
        rename World => wi
        obtain ⟨j, hgj, hjl, rfl, rfl, rfl, rfl, hal, hbi⟩ := hrel
        have hGj : Hid (_ = h.lines.length - j) := hgj
        clear hgj
        obtain ⟨hbwi, hb0i, hBi, hsi, hlti⟩ := hE.out wi hbi
        have hszi := hbi.size
        have x4 : wi.cell? ⟨wr.heap.size, 4, none⟩ = some (.slice a' h.lines.length c') := cell_of hBi rfl
        have hn1 : cntF (h.lines.take j) ≤ 1048576 := by have := cntF_len (h.lines.take j); simp at this; omega
        have hn2 : cntT (h.lines.take j) ≤ 1048576 := by have := cntT_len (h.lines.take j); simp at this; omega
        by_cases hj : j < h.lines.length
        · have hjI : (j : Int) < h.lines.length := by omega
          obtain ⟨bb, off2, rfl, hbB2, s0, s1⟩ := hsi.at hj
          have hF1 : Hid (cntF (h.lines.take (j + 1)) = cntF (h.lines.take j) + if h.lines[j].kind = 43 then 0 else 1) := cntF_take hj
          have hT1 : Hid (cntT (h.lines.take (j + 1)) = cntT (h.lines.take j) + if h.lines[j].kind = 45 then 0 else 1) := cntT_take hj
          have hC1 : Hid (chg (h.lines.take (j + 1)) = (chg (h.lines.take j) || h.lines[j].kind != 32)) := chg_take hj
          have hA1 : Hid ((h.lines.take (j + 1)).all lnOk = ((h.lines.take j).all lnOk && lnOk h.lines[j])) := all_take hj
          have hbad : Hid (lnOk h.lines[j] = false → rightI 0 0 hs = false) := fun hl => by rw [hm2.out, body_line hj hl]; simp
          obtain ⟨m1, m2⟩ := l2 _ (List.getElem_mem hj)
          generalize h.lines[j] = s at *
          have hli := fun w => lined_any s.text w (by omega)
          have hB2 := heap_alloc_new wi (.cells #[.int .u8 (s.kind : Int), .string s.text] 93)
          have q2 := (Below.refl wi.heap.size wi).alloc (Nat.le_refl _) (.cells #[.int .u8 (s.kind : Int), .string s.text] 93)
          have hzV : (wi.alloc (.cells #[.int .u8 (s.kind : Int), .string s.text] 93)).heap.size = wi.heap.size + 1 := by simp
          have hbV := hbi.trans (q2.mono (by omega))
          have hbV0 := hbwi.trans (q2.mono (by have := hbwi.size; omega))
          have y0 : (wi.alloc (.cells #[.int .u8 (s.kind : Int), .string s.text] 93)).cell? ⟨wi.heap.size, 0, none⟩ = some (.int .u8 (s.kind : Int)) := cell_of hB2 rfl
          have y1 : (wi.alloc (.cells #[.int .u8 (s.kind : Int), .string s.text] 93)).cell? ⟨wi.heap.size, 1, none⟩ = some (.string s.text) := cell_of hB2 rfl
          cases hn : hasNl s.text with
          | true =>
            have hR : Hid (rightI 0 0 hs = false) := hbad.out (by unfold lnOk; rw [hn]; simp)
            rw [hn] at hli
            clear hn hbad
            go_wp2_with (go_at_call 117; refine (hli _).mono ?_; rintro e w' ⟨rfl, rfl⟩)
            go_ret
            exact ⟨by rw [hR.out] <;> rfl, hbV0⟩
          | false =>
            rw [hn] at hli
            by_cases hkk : s.kind = 32 ∨ s.kind = 45 ∨ s.kind = 43
            · have hA2 : Hid ((h.lines.take (j + 1)).all lnOk = true) := by show _ = _; rw [hA1.out, hal.out, lnOk_of.2 ⟨hkk, hn⟩]; rfl
              clear hn hbad hA1 hal
              generalize cntF (h.lines.take j) = cF at *
              generalize cntT (h.lines.take j) = cT at *
              generalize chg (h.lines.take j) = cC at *
              generalize hsk : s.kind = sk at *
              clear hsk
              rcases hkk with rfl | rfl | rfl
              all_goals cases cC
              all_goals (go_wp2_with (go_at_call 117; refine (hli _).mono ?_; rintro e w' ⟨rfl, rfl⟩))
              all_goals go_roundg (h.lines.length - (j + 1))
              all_goals first | (have := hGj.out; omega) | exact ⟨j + 1, rfl, by omega, by rw [hF1.out]; first | rfl | simp, by rw [hT1.out]; first | rfl | simp, by rw [hC1.out]; rfl, by push_cast; rfl, hA2, hbV⟩
            · have hR : Hid (rightI 0 0 hs = false) := hbad.out (by rw [Bool.eq_false_iff]; intro h2; exact hkk (lnOk_of.1 h2).1)
              have x1 : ((s.kind : Int) == 32) = false := by rw [beq_eq_false_iff_ne]; omega
              have x2 : ((s.kind : Int) == 45) = false := by rw [beq_eq_false_iff_ne]; omega
              have x3 : ((s.kind : Int) == 43) = false := by rw [beq_eq_false_iff_ne]; omega
              have x1' : ((s.kind : Int) != 32) = true := by simp [bne, x1]
              have x2' : ((s.kind : Int) != 45) = true := by simp [bne, x2]
              have x3' : ((s.kind : Int) != 43) = true := by simp [bne, x3]
              clear hn hbad hkk
              go_wp2_with (go_at_call 117; refine (hli _).mono ?_; rintro e w' ⟨rfl, rfl⟩)
              go_ret
              exact ⟨by rw [hR.out] <;> rfl, hbV0⟩
        · have hjI : ¬ ((j : Int) < h.lines.length) := by omega
          have hEj : Hid (h.lines.take j = h.lines) := List.take_of_length_le (by omega)
          rw [hEj.out] at hal hn1 hn2 ⊢
          have hbr := body_rest hal.out
          have x0 : wi.cell? ⟨wr.heap.size, 0, none⟩ = some (.int .i64 h.fr) := cell_of hBi rfl
          have x1 : wi.cell? ⟨wr.heap.size, 1, none⟩ = some (.int .i64 h.fc) := cell_of hBi rfl
          have x2 : wi.cell? ⟨wr.heap.size, 2, none⟩ = some (.int .i64 h.tr) := cell_of hBi rfl
          have x3 : wi.cell? ⟨wr.heap.size, 3, none⟩ = some (.int .i64 h.tc) := cell_of hBi rfl
          have hfo := follows_any h (.slice a' h.lines.length c') en gr wi (by omega) (by omega)
          unfold hiVal at hfo
          have hcell : Hid (∀ w2, Below wi.heap.size wi w2 → w2.heap[wr.heap.size]? = some (.cells #[.int .i64 h.fr, .int .i64 h.fc, .int .i64 h.tr, .int .i64 h.tc, .slice a' h.lines.length c'] 61 (0, 0)) ∧ Below w.heap.size w w2 ∧ Below W0.heap.size W0 w2) := fun w2 hb2 =>
            ⟨(hb2.block wr.heap.size hlti).trans hBi, hbwi.trans (hb2.mono hbwi.size), hb0i.trans (hb2.mono hb0i.size)⟩
          cases hf : fitsI h en gr with
          | false =>
            have hR : Hid (rightI 0 0 hs = false) := by show _ = _; rw [hm2.out, hf]; rfl
            rw [hf] at hfo
            clear hf hbr hal hm2
            generalize cntF h.lines = cF at *
            generalize cntT h.lines = cT at *
            generalize chg h.lines = cC at *
            go_wp2_with (go_at_call 120; refine hfo.mono ?_; rintro e w2 ⟨rfl, hb2⟩; obtain ⟨hB2, hbw2, hb02⟩ := hcell.out w2 hb2)
            go_ret
            exact ⟨by rw [hR.out] <;> rfl, hbw2⟩
          | true =>
            rw [hf] at hfo
            obtain ⟨n1, n2, _⟩ := fitsI_iff.1 hf
            have hN1 := numOk_iff.1 n1
            have hN2 := numOk_iff.1 n2
            have hpr := place_range n1
            cases hc : chg h.lines with
            | false =>
              have hR : Hid (rightI 0 0 hs = false) := by show _ = _; rw [hm2.out, hbr, hc]; simp
              clear hf hbr hal hm2 hc n1 n2 hN1 hN2
              generalize cntF h.lines = cF at *
              generalize cntT h.lines = cT at *
              go_wp2_with (go_at_call 120; refine hfo.mono ?_; rintro e w2 ⟨rfl, hb2⟩; obtain ⟨hB2, hbw2, hb02⟩ := hcell.out w2 hb2)
              go_ret
              exact ⟨by rw [hR.out] <;> rfl, hbw2⟩
            | true =>
              by_cases e1 : (cntF h.lines : Int) = h.fc
              · by_cases e2 : (cntT h.lines : Int) = h.tc
                · have hR : Hid (rightI 0 0 hs = rightI (placeI h.fr h.fc + h.fc) (gr + h.tc - h.fc) (hs.drop (k + 1))) := by show _ = _; rw [hm2.out, hbr, hc, hf, decide_eq_true e1, decide_eq_true e2]; rfl
                  have hpl := fun w => refplace_any h.fr h.fc w (by omega) (by omega)
                  rw [e1, e2]
                  have e3 : (h.fc != h.fc) = false := by simp
                  have e4 : (h.tc != h.tc) = false := by simp
                  have w1 : IntKind.i64.wrap (placeI h.fr h.fc + h.fc) = placeI h.fr h.fc + h.fc := by rw [IntKind.wrap_i64]; omega
                  have w2 : IntKind.i64.wrap (gr + h.tc) = gr + h.tc := by rw [IntKind.wrap_i64]; omega
                  have w3 : IntKind.i64.wrap (gr + h.tc - h.fc) = gr + h.tc - h.fc := by rw [IntKind.wrap_i64]; omega
                  have hb1 : -(100000 * ((k + 1 : Nat) : Int)) ≤ gr + h.tc - h.fc ∧ gr + h.tc - h.fc ≤ 100000 * ((k + 1 : Nat) : Int) := ⟨by omega, by omega⟩
                  have hbH : Hid _ := hb1
                  clear hf hbr hal hm2 hc n1 n2 hN1 hN2 e1 e2 hb1 hn1 hn2
                  generalize placeI h.fr h.fc = PL at *
                  go_wp2_with (first | (go_at_call 120; refine hfo.mono ?_; rintro e w2 ⟨rfl, hb2⟩; obtain ⟨hB2, hbw2, hb02⟩ := hcell.out w2 hb2; have z0 : w2.cell? ⟨wr.heap.size, 0, none⟩ = some (.int .i64 h.fr) := cell_of hB2 rfl; have z1 : w2.cell? ⟨wr.heap.size, 1, none⟩ = some (.int .i64 h.fc) := cell_of hB2 rfl; have z3 : w2.cell? ⟨wr.heap.size, 3, none⟩ = some (.int .i64 h.tc) := cell_of hB2 rfl) | (go_at_call 121; refine (hpl _).mono ?_; rintro e w3 ⟨rfl, rfl⟩))
                  go_roundg (hs.length - (k + 1))
                  · exact ⟨k + 1, _, _, rfl, by omega, rfl, rfl, by push_cast; rfl, hR, hbH.out.1, hbH.out.2, hb02⟩
                  · have := hG.out; omega
                · have hR : Hid (rightI 0 0 hs = false) := by show _ = _; rw [hm2.out, hbr, decide_eq_false e2]; simp
                  rw [e1]
                  have e3 : (h.fc != h.fc) = false := by simp
                  have e4 : (((cntT h.lines : Nat) : Int) != h.tc) = true := by simpa using e2
                  clear hf hbr hal hm2 hc n1 n2 hN1 hN2 e1 e2 hn1
                  generalize cntT h.lines = cT at *
                  go_wp2_with (go_at_call 120; refine hfo.mono ?_; rintro e w2 ⟨rfl, hb2⟩; obtain ⟨hB2, hbw2, hb02⟩ := hcell.out w2 hb2; have z1 : w2.cell? ⟨wr.heap.size, 1, none⟩ = some (.int .i64 h.fc) := cell_of hB2 rfl; have z3 : w2.cell? ⟨wr.heap.size, 3, none⟩ = some (.int .i64 h.tc) := cell_of hB2 rfl)
                  go_ret
                  exact ⟨by rw [hR.out] <;> rfl, hbw2⟩
              · have hR : Hid (rightI 0 0 hs = false) := by show _ = _; rw [hm2.out, hbr, decide_eq_false e1]; simp
                have e3 : (((cntF h.lines : Nat) : Int) != h.fc) = true := by simpa using e1
                clear hf hbr hal hm2 hc n1 n2 hN1 hN2 e1
                generalize cntF h.lines = cF at *
                generalize cntT h.lines = cT at *
                go_wp2_with (go_at_call 120; refine hfo.mono ?_; rintro e w2 ⟨rfl, hb2⟩; obtain ⟨hB2, hbw2, hb02⟩ := hcell.out w2 hb2; have z1 : w2.cell? ⟨wr.heap.size, 1, none⟩ = some (.int .i64 h.fc) := cell_of hB2 rfl)
                go_ret
                exact ⟨by rw [hR.out] <;> rfl, hbw2⟩
    · have hkI : ¬ ((k : Int) < hs.length) := by omega
      have hF : Hid (rightI 0 0 hs = true) := by show _ = _; rw [hm.out, List.drop_eq_nil_of_le (by omega)]; rfl
      clear hm
      go_wp2_with fail
      go_ret
      exact ⟨by rw [hF.out] <;> rfl, hbw⟩
end Go.Proofs.YtcclgodahlinbaaGreatDoor
namespace Go.Proofs.YtcclgodahlinbaaGreatDoor
open Go.RowKit Go
set_option maxRecDepth 100000
section
variable {P : Program} {ops : Array Oper} {Q : Exit → Act → World → Prop}
theorem wpOp_val {i : Nat} {o : Oper} {a : Act} {w w' : World} {v : Value} {K : Act → World → Prop} (hi : ops[i]? = some o) (hg : o.guard = none) (hrun : (execOp a.eval o).run P w = .ok (.value v) w') (hK : K (a.put o.dst v) w') : wpOp P ops Q i K a w := by
  have hw : Region.wanted o (yielded ops a.tmps) = true := by simp [Region.wanted, hg]
  unfold wpOp
  simp only [hi]
  rw [if_pos hw]
  left
  unfold Oper.wp
  rw [hrun]
  exact hK
theorem wpOp_append {k : Nat} {o : Oper} {a : Act} {w : World} {K : Act → World → Prop} (hk : ops[k]? = some o) (hgd : o.guard = none) (s x : Operand) (t : TypeId)
    (ho : o.op = .call { callee := .builtin .append, args := #[s, x], argTypes := #[t, t] })
    (base : Nat) (e : TypeId) (i : TypeInfo) (z : Value) (size bytes : Nat) (ht : P.underlying t = some (.slice e)) (hi : P.info? e = some i) (hz : i.zero = some z)
    (hsize : i.size = size) (hby : i.bytes = bytes) (hzs : z.cells.size = size) (hsz : 0 < size)
    (v : Value) (n : Nat) (xs : List Value) (hs : a.eval s = v) (hown : w.ownsRow base e size v n xs)
    (ad : Addr) (m c : Nat) (news : List Value) (hx : a.eval x = .slice (some ad) m c) (hl : news.length = m * size) (hnews : ∀ j u, news[j]? = some u → w.cell? (ad.add j) = some u) (h1 : ∀ u ∈ news, u.oneCell' = true)
    (h63 : n + m ≤ maxLen) (hbytes : (n + m) * bytes ≤ 140737488355328) (hbase : base ≤ w.heap.size)
    (h : ∀ v' w', w'.ownsRow base e size v' (n + m) (xs ++ news) → ((v'.ownBlock = v.ownBlock ∧ w.grownBy w' v.ownBlock) ∨ ((∀ g, v'.ownBlock = some g → w.heap.size ≤ g) ∧ w.grownBy w' none)) → K (a.put o.dst v') w') : wpOp P ops Q k K a w := by
  obtain ⟨v', w', hr, r1, r2⟩ := run_append_own3 (P := P) w base t o.type e i z size bytes ht hi hz hsize hby hzs hsz v n xs hown ad m c news hl hnews h1 h63 hbytes hbase
  refine wpOp_val hk hgd (w' := w') (v := v') ?_ (h v' w' r1 r2)
  unfold execOp
  simp only [ho, resolve, invoke, builtin, Sem.run_bind, Sem.run_pure, Result.andThen_ok, List.map_toArray, List.map_cons, List.map_nil, hs, hx, hr]
def wpKs (P : Program) (md : Region.Mode) (ops : Array Oper) (Q : Exit → Act → World → Prop) (st : Nat) (I : World → Prop) : Nat → Array Bool → Act → World → Prop
  | 0, l, a, w => (l.getD st true = false → I w) ∧ Region.ready md ops l = [] ∧ Q .normal a w
  | n + 1, l, a, w => (l.getD st true = false → I w) ∧ (Region.ready md ops l = [] → Q .normal a w) ∧ ∀ i ∈ Region.ready md ops l, wpOp P ops Q i (wpKs P md ops Q st I n (l.setIfInBounds i true)) a w
variable {md : Region.Mode}
theorem wpKs.world {st : Nat} {I : World → Prop} {n : Nat} {l : Array Bool} {a : Act} {w : World} (h : wpKs P md ops Q st I n l a w) : l.getD st true = false → I w := by
  cases n with
  | zero => exact h.1
  | succ n => exact h.1
theorem wpKs.any {st : Nat} {I : World → Prop} : ∀ {n : Nat} {l : Array Bool} {a : Act} {w : World}, wpKs P md ops Q st I n l a w → wpAny P md ops Q n l a w
  | 0, _, _, _, h => h.2
  | _ + 1, _, _, _, h => ⟨h.2.1, fun i hi => wpOp_mono (fun _ _ h' => wpKs.any h') (h.2.2 i hi)⟩
theorem wpKs_first {st : Nat} {I : World → Prop} {i : Nat} {o : Oper} {v : Value} (hi : ops[i]? = some o) (hsel : Region.noSelect ops = true) (hQ : ∀ c a w, Q (.panic c) (a.put o.dst v) w → Q (.panic c) a w)
    (hdep : ∀ p, ops[st]? = some p → ∃ e ∈ p.after, Region.binds md e = true ∧ e.on = i) (hsi : i ≠ st) :
    ∀ (n : Nat) (l : Array Bool) (a : Act) (w : World), l.getD st true = false → (∀ j p, ops[j]? = some p → j ≠ i → l.getD j true = false → (∀ e ∈ p.after, Region.binds md e = true → e.on ≠ i) → o.apart ops p = true) →
      i ∈ Region.ready md ops l → YieldsIn P ops I o v a → wpKs P md ops Q st I n (l.setIfInBounds i true) (a.put o.dst v) w → wpKs P md ops Q st I (n + 1) l a w
  | n, l, a, w, hst, hf, hr, hy, h => by
    have hns := Region.noSelect_spec hsel
    have hIw : I w := h.world (by rw [getD_set_ne true hsi]; exact hst)
    refine ⟨fun _ => hIw, fun h0 => (by rw [h0] at hr; cases hr), fun j hj => ?_⟩
    by_cases hji : j = i
    · subst hji
      exact hy.op hi hIw h
    · have hj2 := ready_mono hj hji
      cases n with
      | zero => rw [h.2.1] at hj2; cases hj2
      | succ n =>
        obtain ⟨hju, p, hp, hall⟩ := mem_ready.1 hj
        have hiu := (mem_ready.1 hr).1
        have hno : ∀ e ∈ p.after, Region.binds md e = true → e.on ≠ i := fun e he hb heq => by
          have h2 := hall e he hb
          rw [heq] at h2
          by_cases hs : i < l.size
          · simp [hs] at hiu h2; rw [hiu] at h2; cases h2
          · simp [Array.getElem?_eq_none (Nat.le_of_not_lt hs)] at h2
        have hjs : j ≠ st := by
          rintro rfl
          obtain ⟨e, he, hb, heq⟩ := hdep p hp
          exact hno e he hb heq
        have h2 := wpOp_swap hp (hf j p hp hji hju hno) (fun cs b => hns i o cs b hi) (fun cs b => hns j p cs b hp) hQ hy (h.2.2 j hj2)
        refine wpOp_mono (fun a' w' h3 => wpKs_first hi hsel hQ hdep hsi n _ a' w' (by rw [getD_set_ne true hjs]; exact hst) (fun k q hk hki hun hno => hf k q hk hki ?_ hno) (ready_mono hr (Ne.symm hji)) h3.1 (by rw [Array.setIfInBounds_comm _ _ hji]; exact h3.2)) h2
        by_cases hjk : j = k
        · subst hjk; exact hju
        · rw [getD_set_ne true hjk] at hun; exact hun
def behind (md : Region.Mode) (ops : Array Oper) (st i : Nat) : Bool := match ops[st]? with
  | some p => p.after.any fun e => Region.binds md e && decide (e.on = i)
  | none => false
theorem wpKs_take {st : Nat} {I : World → Prop} {i : Nat} {o : Oper} {v : Value} {n : Nat} {l : Array Bool} {a : Act} {w : World} (hi : ops[i]? = some o) (hs : Region.noSelect ops = true) (hf : Region.free md ops l i = true) (hr : (Region.ready md ops l).contains i = true)
    (hst : l.getD st true = false) (hdep : behind md ops st i = true) (hsi : decide (i ≠ st) = true)
    (hQ : ∀ c a w, Q (.panic c) (a.put o.dst v) w → Q (.panic c) a w) (hy : YieldsIn P ops I o v a) (h : wpKs P md ops Q st I n (l.setIfInBounds i true) (a.put o.dst v) w) : wpKs P md ops Q st I (n + 1) l a w := by
  refine wpKs_first hi hs hQ ?_ (of_decide_eq_true hsi) n l a w hst (fun j p hj hji hun hno => Region.free_spec hi hf j p hj hji hun hno) (by simpa using hr) hy h
  intro p hp
  unfold behind at hdep
  rw [hp] at hdep
  simp only [Array.any_eq_true', Bool.and_eq_true, decide_eq_true_eq] at hdep
  obtain ⟨e, he, h1, h2⟩ := hdep
  exact ⟨e, he, h1, h2⟩
theorem wpKs_one {st : Nat} {I : World → Prop} {i : Nat} {n : Nat} {l : Array Bool} {a : Act} {w : World} (hw : I w) (hr : Region.ready md ops l = [i]) (h : wpOp P ops Q i (wpKs P md ops Q st I n (l.setIfInBounds i true)) a w) : wpKs P md ops Q st I (n + 1) l a w :=
  ⟨fun _ => hw, fun h0 => (by rw [hr] at h0; cases h0), fun j hj => by rw [hr, List.mem_singleton] at hj; subst hj; exact h⟩
theorem wpKs_done {st : Nat} {I : World → Prop} {l : Array Bool} {a : Act} {w : World} (hd : l.getD st true = true) (hr : Region.ready md ops l = []) (h : Q .normal a w) : wpKs P md ops Q st I 0 l a w := ⟨fun h => (by rw [hd] at h; cases h), hr, h⟩
theorem grown_of {w w' : World} {v v' : Value} (h : (v'.ownBlock = v.ownBlock ∧ w.grownBy w' v.ownBlock) ∨ ((∀ g, v'.ownBlock = some g → w.heap.size ≤ g) ∧ w.grownBy w' none)) : w.grownBy w' v.ownBlock ∧ (v'.ownBlock = v.ownBlock ∨ ∀ g, v'.ownBlock = some g → w.heap.size ≤ g) := by
  rcases h with ⟨h1, h2⟩ | ⟨h1, h2⟩
  · exact ⟨h2, .inl h1⟩
  · exact ⟨⟨h2.os, h2.tape, h2.output, h2.size, fun g hg _ => h2.block g hg (by simp)⟩, .inr h1⟩
end
end Go.Proofs.YtcclgodahlinbaaGreatDoor
