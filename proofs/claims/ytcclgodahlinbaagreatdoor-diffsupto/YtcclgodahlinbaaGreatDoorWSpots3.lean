import Derived.Test.YtcclgodahlinbaaGreatDoorWSpots2
import Derived.Deep.RegionLaw
namespace Go.Proofs.YtcclgodahlinbaaGreatDoor
open Go.RowKit Go
set_option maxRecDepth 100000

theorem run_append_own2 {P : Program} (w : World) (base : Nat) (t ty e : TypeId) (i : TypeInfo) (z : Value) (size bytes : Nat) (h1 : P.underlying t = some (.slice e)) (h2 : P.info? e = some i) (h3 : i.zero = some z) (h4 : i.size = size) (h5 : i.bytes = bytes) (h6 : z.cells.size = size) (h7 : 0 < size)
    (v : Value) (n : Nat) (xs : List Value) (hown : w.ownsRow base e size v n xs)
    (ad : Addr) (m c : Nat) (news : List Value) (hn : news.length = m * size) (hc : ∀ j u, news[j]? = some u → w.cell? (ad.add j) = some u) (h1c : ∀ u ∈ news, u.oneCell' = true)
    (b1 : n + m ≤ maxLen) (b2 : (n + m) * bytes ≤ 140737488355328) (hbase : base ≤ w.heap.size) :
    ∃ v' w', (Builtin.append_ #[t, t] ty #[v, .slice (some ad) m c]).run P w = .ok v' w' ∧ w'.ownsRow base e size v' (n + m) (xs ++ news) ∧ w.grownBy w' v.ownBlock ∧
      (v'.ownBlock = v.ownBlock ∨ ∀ g, v'.ownBlock = some g → w.heap.size ≤ g) := by
  obtain ⟨v', w', hr, r2, r3, _⟩ := run_append_own (P := P) w base t ty e i z size bytes h1 h2 h3 h4 h5 h6 h7 v n xs hown ad m c news hn hc h1c b1 b2 hbase
  refine ⟨v', w', hr, r2, r3, ?_⟩
  rcases hown.2 with ⟨rfl, rfl⟩ | ⟨g, cap, cur, rfl, hbg, hg, hnc, hcm, hcs, htake⟩
  · have hx : xs = [] := List.eq_nil_of_length_eq_zero (by simpa using hown.1)
    subst hx
    obtain ⟨v2, w2, hr2, s2, _, _⟩ := run_append_own (P := P) w w.heap.size t ty e i z size bytes h1 h2 h3 h4 h5 h6 h7 (.slice none 0 0) 0 [] (World.ownsRow_nil w _ e size) ad m c news hn hc h1c b1 b2 (Nat.le_refl _)
    rw [hr] at hr2
    cases hr2
    exact .inr fun g hg => (s2.lt g hg).1
  · by_cases hroom : n + m ≤ cap
    · subst h4
      have hfit : n * i.size + news.length ≤ cur.size := by rw [hn, hcs, ← Nat.add_mul]; exact Nat.mul_le_mul_right _ hroom
      have hr2 := run_append_room (P := P) w t ty e i h1 h2 g n cap cur hg ad m c news hn hc h1c hroom hfit
      rw [hr] at hr2
      cases hr2
      exact .inl rfl
    · have holds : ∀ j u, xs[j]? = some u → w.cell? ((⟨g, 0, none⟩ : Addr).add j) = some u := hown.cells (g := g) rfl
      obtain ⟨v2, w2, hr2, s2, _⟩ := run_append_arg_grows (P := P) w t ty e i z size bytes h1 h2 h3 h4 h5 h6 h7 ⟨g, 0, none⟩ n cap xs hown.1 holds ad m c news hn hc (by omega) b1 b2
      rw [hr] at hr2
      cases hr2
      exact .inr fun k hk => (s2.lt k hk).1

theorem step_append_own {P : Program} {ops : Array Oper} {o : Oper} {a : Act} {w : World} {K : Act → World → Prop} {Q : Exit → Act → World → Prop} {E : Prop}
    (hg : o.guard = none) (s x : Operand) (t : TypeId) (hop : o.op = Op.call { callee := Callee.builtin Builtin.append, args := #[s, x], argTypes := #[t, t] })
    (base : Nat) (e : TypeId) (i : TypeInfo) (z : Value) (size bytes : Nat) (h1 : P.underlying t = some (.slice e)) (h2 : P.info? e = some i) (h3 : i.zero = some z) (h4 : i.size = size) (h5 : i.bytes = bytes) (h6 : z.cells.size = size) (h7 : 0 < size)
    (v : Value) (n : Nat) (xs : List Value) (hs : a.eval s = v) (hown : w.ownsRow base e size v n xs)
    (ad : Addr) (m c : Nat) (news : List Value) (hx : a.eval x = .slice (some ad) m c) (hn : news.length = m * size) (hc : ∀ j u, news[j]? = some u → w.cell? (ad.add j) = some u) (h1c : ∀ u ∈ news, u.oneCell' = true)
    (b1 : n + m ≤ maxLen) (b2 : (n + m) * bytes ≤ 140737488355328) (hbase : base ≤ w.heap.size)
    (hK : ∀ v' w', w'.ownsRow base e size v' (n + m) (xs ++ news) → w.grownBy w' v.ownBlock → (v'.ownBlock = v.ownBlock ∨ ∀ g, v'.ownBlock = some g → w.heap.size ≤ g) → K (a.put o.dst v') w') :
    if Region.wanted o (yielded ops a.tmps) = true then Oper.wp P o a w K Q else E := by
  have hw : Region.wanted o (yielded ops a.tmps) = true := by simp [Region.wanted, hg]
  rw [if_pos hw]
  obtain ⟨v', w', hr, r1, r2, r3⟩ := run_append_own2 (P := P) w base t o.type e i z size bytes h1 h2 h3 h4 h5 h6 h7 v n xs hown ad m c news hn hc h1c b1 b2 hbase
  unfold Oper.wp execOp
  simp only [hop, resolve, invoke, builtin, Sem.run_bind, Sem.run_pure, Result.andThen_ok, List.map_toArray, List.map_cons, List.map_nil, hs, hx, hr]
  exact hK v' w' r1 r2 r3

theorem cells_new (w : World) (cs : List Value) (T : TypeId) : ∀ (j : Nat) (u : Value), cs[j]? = some u → (w.alloc (.cells cs.toArray T)).cell? ((⟨w.heap.size, 0, none⟩ : Addr).add j) = some u := by
  intro j u hu
  have hadd : (⟨w.heap.size, 0, none⟩ : Addr).add j = ⟨w.heap.size, j, none⟩ := by unfold Addr.add; split <;> simp_all
  rw [hadd]
  exact cell_of (cs := cs.toArray) (t := T) (fr := (0, 0)) (heap_alloc_new w _) (by simpa using hu)
theorem spotCells_one (s : Dn.Spot) : ∀ u ∈ spotCells s, u.oneCell' = true := by
  intro u hu
  simp [spotCells] at hu
  rcases hu with rfl | rfl | rfl | rfl <;> rfl

theorem owns_block {w : World} {base e size n g : Nat} {v : Value} {xs : List Value} (h : w.ownsRow base e size v n xs) (hg : v.ownBlock = some g) : ∃ cur, w.heap[g]? = some (.cells cur e (0, 0)) := by
  rcases h.2 with ⟨rfl, _⟩ | ⟨g', cap, cur, rfl, _, hh, _⟩
  · cases hg
  · cases hg; exact ⟨cur, hh⟩
theorem owns_ne {w : World} {base e size n S : Nat} {v : Value} {xs : List Value} {cs : Array Value} {t : TypeId} {fr : Nat × Nat} (h : w.ownsRow base e size v n xs) (hS : w.heap[S]? = some (.cells cs t fr)) (hne : e ≠ t) : v.ownBlock ≠ some S := by
  intro hg
  obtain ⟨cur, hh⟩ := owns_block h hg
  rw [hS] at hh
  cases hh
  exact hne rfl
theorem owns_ne2 {w : World} {base e size n base' e' size' n' : Nat} {v v' : Value} {xs xs' : List Value} (h : w.ownsRow base e size v n xs) (h' : w.ownsRow base' e' size' v' n' xs') (hne : e ≠ e') : v.ownBlock = none ∨ v.ownBlock ≠ v'.ownBlock := by
  cases hg : v.ownBlock with
  | none => exact .inl rfl
  | some g =>
    right
    intro hg'
    obtain ⟨cur, hh⟩ := owns_block h hg
    obtain ⟨cur', hh'⟩ := owns_block h' hg'.symm
    rw [hh] at hh'
    cases hh'
    exact hne rfl
theorem SMv.mk' {X : List (Nat × Obj)} {base S : Nat} {vo vf : Value} {st : Dn.Srch} {vop vled : Value} {w : World} (le : base ≤ S)
    (blk : w.heap[S]? = some (.cells #[vo, vf, vop, .int .i64 st.turns, vled] 106 (0, 0))) (op : w.ownsRow base 112 4 vop st.op.length (rowCells st.op))
    (led : w.ownsRow base 5 1 vled st.led.length (ledCells st.led)) (fr : ∀ x ∈ X, w.heap[x.1]? = some x.2 ∧ x.1 ≠ S ∧ vop.ownBlock ≠ some x.1 ∧ vled.ownBlock ≠ some x.1) : SMv X base S vo vf st vop vled w :=
  ⟨le, blk, op, led, owns_ne op blk (by decide), owns_ne led blk (by decide), owns_ne2 op led (by decide), fr⟩

theorem ownsRow_alloc_drew {w : World} {base e size n : Nat} {v : Value} {xs : List Value} (h : w.ownsRow base e size v n xs) (o : Obj) : (w.alloc o).drew.ownsRow base e size v n xs := h.alloc o

theorem push_fin {X : List (Nat × Obj)} {base S g cap : Nat} {vo vf : Value} {st : Dn.Srch} {vop vled : Value} {w w1 : World} {s : Dn.Spot} {o : Obj} (h : SMv X base S vo vf st vop vled w)
    (hgr : (w.alloc o).drew.grownBy w1 vop.ownBlock) (hS : w1.heap[S]? = w.heap[S]?) (hown : w1.ownsRow base 112 4 (.slice (some ⟨g, 0, none⟩) (st.op.length + 1) cap) (st.op.length + 1) (rowCells st.op ++ spotCells s)) (hnew : (Value.slice (some ⟨g, 0, none⟩) (st.op.length + 1) cap).ownBlock = vop.ownBlock ∨ ∀ k, (Value.slice (some ⟨g, 0, none⟩) (st.op.length + 1) cap).ownBlock = some k → (w.alloc o).drew.heap.size ≤ k) :
    SM X base S vo vf { st with op := st.op ++ [s] } (w1.setCell ⟨S, 2, none⟩ (.slice (some ⟨g, 0, none⟩) (st.op.length + 1) cap)) ∧ Below base w (w1.setCell ⟨S, 2, none⟩ (.slice (some ⟨g, 0, none⟩) (st.op.length + 1) cap)) := by
  have hs := h.size
  have hled : w1.ownsRow base 5 1 vled st.led.length (ledCells st.led) := (ownsRow_alloc_drew h.led o).kept hgr (by
    rcases h.ne3 with e | e
    · cases hv : vled.ownBlock with
      | none => exact .inl rfl
      | some k => right; rw [e]; exact fun x => by cases x
    · exact .inr (fun x => e x.symm))
  have hblk := hS.trans h.blk
  have hg2 := grownBy_setCell w1 S 2 (.slice (some ⟨g, 0, none⟩) (st.op.length + 1) cap)
  have hn1 : (Value.slice (some ⟨g, 0, none⟩) (st.op.length + 1) cap).ownBlock ≠ some S := owns_ne hown hblk (by decide)
  have hn2 : vled.ownBlock ≠ some S := owns_ne hled hblk (by decide)
  refine ⟨⟨.slice (some ⟨g, 0, none⟩) (st.op.length + 1) cap, vled, SMv.mk' h.le ?_ ?_ (hled.kept hg2 (.inr hn2)) ?_⟩, ?_⟩
  · exact heap_setCell_same w1 S 2 _ _ _ _ hblk
  · have := hown.kept hg2 (.inr hn1)
    rw [rowCells_append]
    simpa [rowCells] using this
  · intro x hx
    obtain ⟨a, b, c, d⟩ := h.fr x hx
    have hlt := (Array.getElem?_eq_some_iff.1 a).1
    refine ⟨?_, b, ?_, d⟩
    · rw [heap_setCell_other w1 S x.1 2 _ b, hgr.block x.1 (by simp; omega) (fun e => c e.symm)]
      exact (Below.heap_alloc w o x.1 hlt).trans a
    · intro e
      rcases hnew with e' | e'
      · exact c (e'.symm.trans e)
      · have := e' _ e; simp at this; omega
  · refine ((((Below.refl base w).alloc (by omega) o).drew).grown hgr (by simp; omega) (fun k e => (h.op.lt k e).1)).setCell (p := ⟨S, 2, none⟩) h.le _

theorem info_spot : (Tryz.prog.info? 112).map (fun i => (i.zero, i.size, i.bytes)) = some (some (.agg #[.complex .f64 0 0, .int .i64 0, .int .i64 0, .int .u8 0]), 4, 40) := by kernel_rfl

set_option maxHeartbeats 800000 in
theorem push_sm {X : List (Nat × Obj)} {base S : Nat} {vo vf : Value} {st : Dn.Srch} {vop vled : Value} {w : World} (s : Dn.Spot) (h : SMv X base S vo vf st vop vled w) (hb : st.op.length ≤ 1000000) :
    Calls Tryz.prog 198 #[.pointer (some ⟨S, 2, none⟩), .iface 112 (.agg #[.complex .f64 (fl s.x) (fl s.y), .int .i64 s.far, .int .i64 s.turn, .int .u8 s.kind])] w fun e w' =>
      e = .returned (.tuple #[]) ∧ SM X base S vo vf { st with op := st.op ++ [s] } w' ∧ Below base w w' := by
  have hc := cell_of (k := 2) (v := vop) h.blk rfl
  have hf : w.frozen? ⟨S, 2, none⟩ = false := frozen_of h.blk
  have hop := h.op
  obtain ⟨i0, hi, hz0, hz1, hz2⟩ := info_parts info_spot
  go_enter Tryz.func198, Tryz.ntmps198
  have hta : ∀ (v : Value) (w : World), (Instr.typeAssert (.iface 112 v) 20 112 false).run Tryz.prog w = .ok v w := fun _ _ => by kernel_rfl
  go_wp2_with fail
  have hb1 : st.op.length + 1 ≤ maxLen := by unfold maxLen; omega
  have hb2 : (st.op.length + 1) * 40 ≤ 140737488355328 := by omega
  have hbs : ∀ o, base ≤ (w.alloc o).drew.heap.size := by intro o; have := h.size; simp; omega
  have hk : ∀ o w1, (w.alloc o).drew.grownBy w1 vop.ownBlock → w1.heap[S]? = w.heap[S]? := by
    intro o w1 hg
    have hs := h.size
    rw [hg.block S (by simp; omega) (fun e => h.ne1 e.symm)]
    exact Below.heap_alloc w o S hs.2
  have hS := h.size.2
  go_region_law (refine step_append_own rfl (.tmp 7) (.tmp 10) 104 rfl base 112 i0 _ 4 40 Tryz.underlying104 hi hz0 hz1 hz2 rfl (by decide) vop _ _ (by simp [Act.eval]) (hop.alloc _) ⟨w.heap.size, 0, none⟩ 1 1 (spotCells s) (by simp [Act.eval]) rfl (cells_new w _ _) (spotCells_one s) hb1 hb2 (hbs _) ?_; intro v' w1 hown' hgrow hnew; obtain ⟨g', cap', rfl, _, _⟩ := owns_slice hown' (Nat.succ_pos _); have hkk := hk _ w1 hgrow; have hc1 : w1.cell? ⟨S, 2, none⟩ = some vop := cell_of (hkk.trans h.blk) rfl; have hf1 : w1.frozen? ⟨S, 2, none⟩ = false := frozen_of (hkk.trans h.blk))
  all_goals
    go_end0
    exact ⟨rfl, push_fin h hgrow hkk hown' hnew⟩
end Go.Proofs.YtcclgodahlinbaaGreatDoor
