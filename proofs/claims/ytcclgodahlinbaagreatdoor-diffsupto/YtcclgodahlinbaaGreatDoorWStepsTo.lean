import Derived.Test.YtcclgodahlinbaaGreatDoorWSteps
namespace Go.Proofs.YtcclgodahlinbaaGreatDoor
open Go.RowKit Go
set_option maxRecDepth 100000

theorem SM.kept {base S : Nat} {vo vf : Value} {st : Dn.Srch} {w w1 : World} {row : Option Nat} (h : SM [] base S vo vf st w) (hg : w.grownBy w1 row)
    (hr : ∀ k, row = some k → ∃ cur, w.heap[k]? = some (.cells cur 120 (0, 0))) : SM [] base S vo vf st w1 := by
  obtain ⟨vop, vled, h⟩ := h
  have k1 : some S ≠ row := by
    intro e
    obtain ⟨cur, hc⟩ := hr S e.symm
    rw [h.blk] at hc
    cases hc
  have k2 : ∀ {e size n : Nat} {v : Value} {xs : List Value}, w.ownsRow base e size v n xs → e ≠ 120 → v.ownBlock = none ∨ v.ownBlock ≠ row := by
    intro e size n v xs ho hne
    cases hv : v.ownBlock with
    | none => exact .inl rfl
    | some g =>
      right
      intro e'
      obtain ⟨cur, hc⟩ := hr g e'.symm
      obtain ⟨cur', hc'⟩ := owns_block ho hv
      rw [hc] at hc'
      cases hc'
      exact hne rfl
  exact ⟨vop, vled, h.le, (hg.block S h.size.2 k1).trans h.blk, h.op.kept hg (k2 h.op (by decide)), h.led.kept hg (k2 h.led (by decide)), h.ne1, h.ne2, h.ne3, fun x hx => by simp at hx⟩

theorem SM.alloc {X : List (Nat × Obj)} {base S : Nat} {vo vf : Value} {st : Dn.Srch} {w : World} (h : SM X base S vo vf st w) (o : Obj) : SM X base S vo vf st (w.alloc o) := by
  obtain ⟨a, b, h⟩ := h; exact ⟨a, b, h.alloc o⟩
theorem SM.drewN {X : List (Nat × Obj)} {base S k : Nat} {vo vf : Value} {st : Dn.Srch} {w : World} (h : SM X base S vo vf st w) : SM X base S vo vf st (w.drewN k) := by
  obtain ⟨a, b, h⟩ := h; exact ⟨a, b, h.drewN⟩

theorem info_step : (Tryz.prog.info? 120).map (fun i => (i.zero, i.size, i.bytes)) = some (some (.agg #[.int .u8 0, .string ByteArray.empty]), 2, 24) := by kernel_rfl

def slen : Value → Nat | .slice _ l _ => l | _ => 0

set_option maxHeartbeats 400000 in
theorem reverse_nil (a : Option Addr) (cap : Nat) (w : World) : Calls Tryz.prog 100 #[.slice a 0 cap] w fun e w' => e = .returned (.tuple #[]) ∧ w = w' := by
  go_enter Tryz.func100, Tryz.ntmps100
  go_wp2
  refine wp_loop_rounds 1 ?_
  rw [rounds_succ]
  go_wp2
  go_end0
  exact ⟨rfl, rfl⟩

/-- one step back -/
theorem backM_step {o f : List ByteArray} {st : Dn.Srch} (x y : Nat) (h : ¬ (x = 0 ∧ y = 0)) :
    Dn.backM o f st (x + y) x y = if st.at f.length x y = 32 then ⟨32, o.getD (x - 1) default⟩ :: Dn.backM o f st (x + y - 1) (x - 1) (y - 1)
      else if st.at f.length x y = 45 then ⟨45, o.getD (x - 1) default⟩ :: Dn.backM o f st (x + y - 1) (x - 1) y
      else ⟨st.at f.length x y, f.getD (y - 1) default⟩ :: Dn.backM o f st (x + y - 1) x (y - 1) := by
  obtain ⟨k, hk⟩ : ∃ k, x + y = k + 1 := ⟨x + y - 1, by omega⟩
  rw [hk, Dn.backM, if_neg h]
  rfl
theorem backM_fuel {o f : List ByteArray} {st : Dn.Srch} (hi : Dn.Inv o f st) : ∀ (k k' x y : Nat), x + y ≤ k → x + y ≤ k' → x ≤ o.length → y ≤ f.length → st.at f.length x y ≠ 0 → Dn.backM o f st k x y = Dn.backM o f st k' x y := by
  intro k
  induction k with
  | zero =>
    intro k' x y h h' _ _ _
    have : x = 0 := by omega
    have : y = 0 := by omega
    subst_vars
    cases k' with
    | zero => rfl
    | succ k' => simp [Dn.backM]
  | succ k ih =>
    intro k' x y h h' hx hy hr
    by_cases h0 : x = 0 ∧ y = 0
    · rw [Dn.backM, if_pos h0]
      cases k' with
      | zero => rfl
      | succ k' => rw [Dn.backM, if_pos h0]
    · obtain ⟨k'', rfl⟩ : ∃ k'', k' = k'' + 1 := ⟨k' - 1, by omega⟩
      rw [Dn.backM, Dn.backM, if_neg h0, if_neg h0]
      rcases hi.known x y hx hy hr with ⟨a, b, c⟩ | ⟨a, b, c, d, e⟩ | ⟨a, b, c⟩ | ⟨a, b, c⟩
      · omega
      · rw [if_pos a, if_pos a, ih k'' _ _ (by omega) (by omega) (by omega) (by omega) e]
      · rw [if_neg (by omega), if_pos a, if_neg (by omega), if_pos a, ih k'' _ _ (by omega) (by omega) (by omega) (by omega) c]
      · rw [if_neg (by omega), if_neg (by omega), if_neg (by omega), if_neg (by omega), ih k'' _ _ (by omega) (by omega) (by omega) (by omega) c]

set_option maxHeartbeats 2000000 in
theorem stepsTo_sm {base S capo capf : Nat} {ao af : Option Addr} {o f : List ByteArray} {st : Dn.Srch} {w : World} (h : SM [] base S (.slice ao o.length capo) (.slice af f.length capf) st w)
    (ho : Strs base w (.slice ao o.length capo) o) (hf : Strs base w (.slice af f.length capf) f) (hn : o.length < 209) (hm : f.length < 209) (hinv : Dn.Inv o f st) (he : st.at f.length o.length f.length ≠ 0) (hbw : base ≤ w.heap.size) :
    Calls Tryz.prog 53 #[.pointer (some ⟨S, 0, none⟩), .complex .f64 (fl o.length) (fl f.length)] w fun e w' =>
      ∃ v, e = .returned v ∧ w'.ownsRow base 120 2 v (Dn.backM o f st (o.length + f.length) o.length f.length).length (stepCells (Dn.backM o f st (o.length + f.length) o.length f.length).reverse) ∧ Below base w w' := by
  have hll : st.led.length ≤ 100000 := by rw [hinv.len]; have : (o.length + 1) * (f.length + 1) ≤ 209 * 209 := Nat.mul_le_mul (by omega) (by omega); omega
  obtain ⟨i0, hi, hz0, hz1, hz2⟩ := info_parts info_step
  generalize hL : Dn.backM o f st (o.length + f.length) o.length f.length = L
  have hL' : Hid (Dn.backM o f st (o.length + f.length) o.length f.length = L) := hL
  clear hL
  go_enter Tryz.func53, Tryz.ntmps53
  go_wp2
  go_loopw [1, 5] (fun t1 v wr => ∃ (x y : Nat) (k : List StepB), t1 = .complex .f64 (fl x) (fl y) ∧ x ≤ o.length ∧ y ≤ f.length ∧ Hid (st.at f.length x y ≠ 0) ∧ Hid (k ++ Dn.backM o f st (x + y) x y = L) ∧ SM [] base S (.slice ao o.length capo) (.slice af f.length capf) st wr ∧ wr.ownsRow base 120 2 v k.length (stepCells k) ∧ Below base w wr ∧ k.length + x + y ≤ o.length + f.length) (fun _ v _ => 1000 - slen v)
  case atStart => exact ⟨o.length, f.length, [], rfl, Nat.le_refl _, Nat.le_refl _, he, hL', h, World.ownsRow_nil _ _ _ _, Below.refl _ _, by simp⟩
  case round =>
    obtain ⟨x, y, k, rfl, hx, hy, hat, hback, hsm, hrow, hbel, hkl⟩ := hrel
    have o1 := fl_ord (k := x) (by omega)
    have o2 := fl_ord (k := y) (by omega)
    by_cases h0 : x = 0 ∧ y = 0
    · obtain ⟨rfl, rfl⟩ := h0
      have hne : ((FloatKind.f64.format.order (fl 0) 0 == some .eq) && (FloatKind.f64.format.order (fl 0) 0 == some .eq)) = true := by rw [o1]; rfl
      have hkL : k = L := by have := hback.out; simpa [Dn.backM] using this
      subst hkL
      clear o1 o2 hback hat
      by_cases hk0 : k.length = 0
      · have hk1 : k = [] := List.eq_nil_of_length_eq_zero hk0
        subst hk1
        have hsl : ∃ a c, u5 = .slice a 0 c := by
          rcases hrow.2 with ⟨e, _⟩ | ⟨g, cap, cur, e, _⟩
          · exact ⟨_, _, e⟩
          · exact ⟨_, _, e⟩
        obtain ⟨a, c, rfl⟩ := hsl
        have hR := reverse_nil a c wr
        clear hkl hk0
        go_wp2_with (go_at_call 100; refine hR.mono ?_; rintro e w' ⟨rfl, rfl⟩)
        go_ret
        exact ⟨_, rfl, hrow, hbel⟩
      · obtain ⟨g, cap, rfl, hbg, _, _⟩ := owns_slice hrow (by omega)
        have hR := reverse_row hrow rfl (by omega) hbg (by have := hbel.size; omega)
        have hkl' : Hid (k.length + 0 + 0 ≤ o.length + f.length) := hkl
        clear hkl
        go_wp2_with (go_at_call 100; refine hR.mono ?_; rintro e w' ⟨rfl, hr', hb'⟩)
        go_ret
        exact ⟨_, rfl, hr', hbel.trans hb'⟩
    · have hne : ((FloatKind.f64.format.order (fl x) 0 == some .eq) && (FloatKind.f64.format.order (fl y) 0 == some .eq)) = false := by rw [o1, o2]; simp; omega
      clear o1 o2
      have hled := hinv.known x y hx hy hat.out
      have hlI := Dn.idx_lt (n := o.length) (m := f.length) hx hy
      rw [← hinv.len] at hlI
      obtain ⟨vop, vled, hsv⟩ := id hsm
      obtain ⟨g, cap, rfl, hbg, hgw, _⟩ := owns_slice hsv.led (show 0 < st.led.length by omega)
      have c0 := cell_of (k := 0) (v := .slice ao o.length capo) hsv.blk rfl
      have c1 := cell_of (k := 1) (v := .slice af f.length capf) hsv.blk rfl
      have c4 := cell_of (k := 4) (v := .slice (some ⟨g, 0, none⟩) st.led.length cap) hsv.blk rfl
      have cl := owns_led hsv.led hlI
      have hq : Hid (∀ n, Calls Tryz.prog 50 #[.pointer (some ⟨S, 0, none⟩), .complex .f64 (fl x) (fl y)] (wr.drewN n) fun e w'' => e = .returned (.int .i64 (Dn.idx f.length x y : Nat)) ∧ ∃ k, w'' = wr.drewN k) := fun n => idx_quiet c1 (by omega) (by omega) (by omega)
      have hatI : st.led.getD (Dn.idx f.length x y) 0 = st.at f.length x y := rfl
      rw [hatI] at cl
      have hlII : ((Dn.idx f.length x y : Nat) : Int) < st.led.length := by omega
      generalize Dn.idx f.length x y = I at *
      have hstep := backM_step (o := o) (f := f) (st := st) x y h0
      have hoW := ho.below hbel
      have hfW := hf.below hbel
      have hbw' : base ≤ wr.heap.size := by have := hbel.size; omega
      clear hsv hatI
      have hrk : ∀ (w1 : World) (ob : Obj) (v' : Value) (s : StepB) (nq : Nat), w1.ownsRow base 120 2 v' (k.length + 1) (stepCells k ++ [.int .u8 (s.kind : Nat), .string s.text]) → ((wr.drewN nq).alloc ob).grownBy w1 u5.ownBlock →
          SM [] base S (.slice ao o.length capo) (.slice af f.length capf) st w1 ∧ w1.ownsRow base 120 2 v' (k ++ [s]).length (stepCells (k ++ [s])) ∧ Below base w w1 := by
        intro w1 ob v' s nq h1 h2
        refine ⟨(hsm.drewN.alloc ob).kept h2 (fun j e => ?_), ?_, ?_⟩
        · obtain ⟨cur, hc⟩ := owns_block hrow e
          exact ⟨cur, (Below.heap_alloc (wr.drewN nq) ob j (Array.getElem?_eq_some_iff.1 hc).1).trans hc⟩
        · rw [stepCells_append, List.length_append]; exact h1
        · exact ((Below.drewN' (k := nq) hbel).alloc hbw' ob).grown h2 (by simp; omega) (fun j e => (hrow.lt j e).1)
      rcases hled with ⟨a, b, c⟩ | ⟨a, b, c, d, e⟩ | ⟨a, b, c⟩ | ⟨a, b, c⟩
      · omega
      · -- keep
        obtain ⟨x', rfl⟩ : ∃ x', x = x' + 1 := ⟨x - 1, by omega⟩
        obtain ⟨y', rfl⟩ : ∃ y', y = y' + 1 := ⟨y - 1, by omega⟩
        rw [if_pos a] at hstep
        rw [a] at cl
        have cl' : wr.cell? ⟨g, I, none⟩ = some (.int .u8 32) := cl
        obtain ⟨bo, oo, rfl, _, ro⟩ := hoW.at (i := x') (by omega)
        generalize ht : o.getD x' ByteArray.empty = t at ro
        have hth := fun nq => thing_old S bo oo o.length capo x' y' 32 t (wr.drewN nq) c0 (by omega) (by omega) ro (.inl rfl)
        have hs1 := fun w => csub_keep (x := x') (y := y') (by omega) (by omega) w
        have hback' : Hid ((k ++ [⟨32, t⟩]) ++ Dn.backM o f st (x' + y') x' y' = L) := by
          unfold Hid
          rw [← ht, ← hback.out, hstep, List.append_assoc, backM_fuel hinv (x' + y') (x' + 1 + (y' + 1) - 1) x' y' (by omega) (by omega) (by omega) (by omega) (by simpa using e)]
          rfl
        have hat' : Hid (st.at f.length x' y' ≠ 0) := by unfold Hid; simpa using e
        clear hback hstep cl hat a ht d e hoW hfW ho hf
        have hone : ∀ u ∈ [Value.int .u8 32, Value.string t], u.oneCell' = true := by intro u hu; simp at hu; rcases hu with rfl | rfl <;> rfl
        have hb1 : k.length + 1 ≤ maxLen := by unfold maxLen; omega
        have hb2 : (k.length + 1) * 24 ≤ 140737488355328 := by omega
        have hbs : ∀ ob nq, base ≤ ((wr.drewN nq).alloc ob).heap.size := by intro ob nq; simp; omega
        have hkl' : Hid (k.length + (x' + 1) + (y' + 1) ≤ o.length + f.length) := hkl
        clear hkl
        go_wp2_with fail
        go_quiet ((go_at_call 50; exact hq.out _))
        go_wp2_with (first | (go_at_call 99; refine (hth _).mono ?_; rintro e w' ⟨rfl, rfl⟩) | (at_builtin; refine wpList_append_own _ rfl (.tmp 29) (.tmp 36) 66 rfl base 120 i0 _ 2 24 Tryz.underlying66 hi hz0 hz1 hz2 rfl (by decide) u5 k.length (stepCells k) rfl ((ownsRow_drewN hrow).alloc _) ⟨wr.heap.size, 0, none⟩ 1 1 [.int .u8 32, .string t] rfl rfl (cells_new (wr.drewN nq) _ _) hone hb1 hb2 (hbs _ _) ?_; intro v' w1 hown' hgrow _; obtain ⟨g', cap', rfl, _, _⟩ := owns_slice hown' (Nat.succ_pos _)))
        have hr := hrk w1 _ _ ⟨32, t⟩ nq hown' hgrow
        go_roundw
        case rel => exact ⟨x', y', k ++ [⟨32, t⟩], rfl, by omega, by omega, hat', hback', hr.1, hr.2.1, hr.2.2, by have := hkl'.out; simp; omega⟩
        case measure =>
          have := hkl'.out
          rcases hrow.2 with ⟨e, h⟩ | ⟨g2, cap2, cur2, e, _⟩
          · subst e; simp [slen]; omega
          · subst e; simp [slen]; omega
      · -- drop
        obtain ⟨x', rfl⟩ : ∃ x', x = x' + 1 := ⟨x - 1, by omega⟩
        rw [if_neg (by omega), if_pos a] at hstep
        rw [a] at cl
        have cl' : wr.cell? ⟨g, I, none⟩ = some (.int .u8 45) := cl
        obtain ⟨bo, oo, rfl, _, ro⟩ := hoW.at (i := x') (by omega)
        generalize ht : o.getD x' ByteArray.empty = t at ro
        have hth := fun nq => thing_old S bo oo o.length capo x' y 45 t (wr.drewN nq) c0 (by omega) (by omega) ro (.inr rfl)
        have hs1 := fun w => csub_drop (x := x') (y := y) (by omega) (by omega) w
        have hback' : Hid ((k ++ [⟨45, t⟩]) ++ Dn.backM o f st (x' + y) x' y = L) := by
          unfold Hid
          rw [← ht, ← hback.out, hstep, List.append_assoc, backM_fuel hinv (x' + y) (x' + 1 + (y) - 1) x' y (by omega) (by omega) (by omega) (by omega) (by simpa using c)]
          rfl
        have hat' : Hid (st.at f.length x' y ≠ 0) := by unfold Hid; simpa using c
        clear hback hstep cl hat a ht c hoW hfW ho hf
        have hone : ∀ u ∈ [Value.int .u8 45, Value.string t], u.oneCell' = true := by intro u hu; simp at hu; rcases hu with rfl | rfl <;> rfl
        have hb1 : k.length + 1 ≤ maxLen := by unfold maxLen; omega
        have hb2 : (k.length + 1) * 24 ≤ 140737488355328 := by omega
        have hbs : ∀ ob nq, base ≤ ((wr.drewN nq).alloc ob).heap.size := by intro ob nq; simp; omega
        have hkl' : Hid (k.length + (x' + 1) + (y) ≤ o.length + f.length) := hkl
        clear hkl
        go_wp2_with fail
        go_quiet ((go_at_call 50; exact hq.out _))
        go_wp2_with (first | (go_at_call 99; refine (hth _).mono ?_; rintro e w' ⟨rfl, rfl⟩) | (at_builtin; refine wpList_append_own _ rfl (.tmp 29) (.tmp 36) 66 rfl base 120 i0 _ 2 24 Tryz.underlying66 hi hz0 hz1 hz2 rfl (by decide) u5 k.length (stepCells k) rfl ((ownsRow_drewN hrow).alloc _) ⟨wr.heap.size, 0, none⟩ 1 1 [.int .u8 45, .string t] rfl rfl (cells_new (wr.drewN nq) _ _) hone hb1 hb2 (hbs _ _) ?_; intro v' w1 hown' hgrow _; obtain ⟨g', cap', rfl, _, _⟩ := owns_slice hown' (Nat.succ_pos _)))
        have hr := hrk w1 _ _ ⟨45, t⟩ nq hown' hgrow
        go_roundw
        case rel => exact ⟨x', y, k ++ [⟨45, t⟩], rfl, by omega, by omega, hat', hback', hr.1, hr.2.1, hr.2.2, by have := hkl'.out; simp; omega⟩
        case measure =>
          have := hkl'.out
          rcases hrow.2 with ⟨e, h⟩ | ⟨g2, cap2, cur2, e, _⟩
          · subst e; simp [slen]; omega
          · subst e; simp [slen]; omega
      · -- add
        obtain ⟨y', rfl⟩ : ∃ y', y = y' + 1 := ⟨y - 1, by omega⟩
        rw [if_neg (by omega), if_neg (by omega), a] at hstep
        rw [a] at cl
        have cl' : wr.cell? ⟨g, I, none⟩ = some (.int .u8 43) := cl
        obtain ⟨bo, oo, rfl, _, ro⟩ := hfW.at (i := y') (by omega)
        generalize ht : f.getD y' ByteArray.empty = t at ro
        have hth := fun nq => thing_add S bo oo f.length capf x y' t (wr.drewN nq) c1 (by omega) (by omega) ro
        have hs1 := fun w => csub_add (x := x) (y := y') (by omega) (by omega) w
        have hback' : Hid ((k ++ [⟨43, t⟩]) ++ Dn.backM o f st (x + y') x y' = L) := by
          unfold Hid
          rw [← ht, ← hback.out, hstep, List.append_assoc, backM_fuel hinv (x + y') (x + (y' + 1) - 1) x y' (by omega) (by omega) (by omega) (by omega) (by simpa using c)]
          rfl
        have hat' : Hid (st.at f.length x y' ≠ 0) := by unfold Hid; simpa using c
        clear hback hstep cl hat a ht c hoW hfW ho hf
        have hone : ∀ u ∈ [Value.int .u8 43, Value.string t], u.oneCell' = true := by intro u hu; simp at hu; rcases hu with rfl | rfl <;> rfl
        have hb1 : k.length + 1 ≤ maxLen := by unfold maxLen; omega
        have hb2 : (k.length + 1) * 24 ≤ 140737488355328 := by omega
        have hbs : ∀ ob nq, base ≤ ((wr.drewN nq).alloc ob).heap.size := by intro ob nq; simp; omega
        have hkl' : Hid (k.length + (x) + (y' + 1) ≤ o.length + f.length) := hkl
        clear hkl
        go_wp2_with fail
        go_quiet ((go_at_call 50; exact hq.out _))
        go_wp2_with (first | (go_at_call 99; refine (hth _).mono ?_; rintro e w' ⟨rfl, rfl⟩) | (at_builtin; refine wpList_append_own _ rfl (.tmp 29) (.tmp 36) 66 rfl base 120 i0 _ 2 24 Tryz.underlying66 hi hz0 hz1 hz2 rfl (by decide) u5 k.length (stepCells k) rfl ((ownsRow_drewN hrow).alloc _) ⟨wr.heap.size, 0, none⟩ 1 1 [.int .u8 43, .string t] rfl rfl (cells_new (wr.drewN nq) _ _) hone hb1 hb2 (hbs _ _) ?_; intro v' w1 hown' hgrow _; obtain ⟨g', cap', rfl, _, _⟩ := owns_slice hown' (Nat.succ_pos _)))
        have hr := hrk w1 _ _ ⟨43, t⟩ nq hown' hgrow
        go_roundw
        case rel => exact ⟨x, y', k ++ [⟨43, t⟩], rfl, by omega, by omega, hat', hback', hr.1, hr.2.1, hr.2.2, by have := hkl'.out; simp; omega⟩
        case measure =>
          have := hkl'.out
          rcases hrow.2 with ⟨e, h⟩ | ⟨g2, cap2, cur2, e, _⟩
          · subst e; simp [slen]; omega
          · subst e; simp [slen]; omega
end Go.Proofs.YtcclgodahlinbaaGreatDoor
