/-
  The program's queue of states: what add does. No condition.
-/
import Derived.Test.YtjjfdkmhoocfhaaOwnS
namespace Go.Proofs.Ytjjfdkmhoocfhaa.st
open Go.ChangeShapes Go.WideShapes Go.ChangeAt Go.RowKit
open Go.Proofs.Ytjjfdkmhoocfhaa.wi (heap_lt calls_w wp_w)
set_option linter.unusedVariables false
set_option linter.unusedSimpArgs false

theorem infoSt : (Try.prog.info? 28).map (fun i => (i.zero, i.size, i.bytes)) = some (some (.agg #[.int .i64 0, .string ⟨#[]⟩]), 2, 24) := by kernel_rfl
/-- a queue: its box holds the row; no block below m turns -/
structure InQ (w : World) (m q base : Nat) (v : Value) (l : List Ln) (u : World) : Prop where
  bel : Below m w u
  box : rw.At u q #[v] 79
  own : OwS base v l u
  mq : m ≤ q
  mb : m ≤ base
  bs : base ≤ u.heap.size
theorem InQ.up {w u u' : World} {m q base : Nat} {v : Value} {l : List Ln} (h : InQ w m q base v l u) (hb : Below u.heap.size u u') : InQ w m q base v l u' :=
  ⟨h.bel.trans (hb.mono (Nat.le_trans h.mq (Nat.le_of_lt h.box.lt))), h.box.up hb, h.own.up hb, h.mq, h.mb, Nat.le_trans h.bs hb.size⟩
theorem InQ.cell {w u : World} {m q base : Nat} {v : Value} {l : List Ln} (h : InQ w m q base v l u) : u.cell? ⟨q, 0, none⟩ = some v := h.box.cell 0
/-- while one more comes behind: the item's block too -/
structure InBx (w : World) (m q : Nat) (v : Value) (b : Nat) (n : Int) (t : ByteArray) (u : World) : Prop where
  bel : Below m w u
  box : rw.At u q #[v] 79
  item : rw.At u b #[.int .i64 n, .string t] 28
  mq : m ≤ q
  nb : q < b
  ob : ∀ k, v.ownBlock = some k → m ≤ k ∧ k ≠ q ∧ k < b
variable {w u u' : World} {m q b : Nat} {v : Value} {n : Int} {t : ByteArray}
theorem InBx.up (h : InBx w m q v b n t u) (hb : Below u.heap.size u u') : InBx w m q v b n t u' :=
  ⟨h.bel.trans (hb.mono (Nat.le_trans h.mq (Nat.le_of_lt h.box.lt))), h.box.up hb, h.item.up hb, h.mq, h.nb, h.ob⟩
theorem InBx.cells (h : InBx w m q v b n t u) : u.cell? ⟨q, 0, none⟩ = some v ∧ u.cell? ⟨b, 0, none⟩ = some (.int .i64 n) ∧ u.cell? ⟨b, 1, none⟩ = some (.string t) := ⟨h.box.cell 0, h.item.cell 0, h.item.cell 1⟩
theorem InBx.grown (h : InBx w m q v b n t u) (hg : u.grownBy u' v.ownBlock) : InBx w m q v b n t u' := by
  have hs : m ≤ u.heap.size := Nat.le_trans h.mq (Nat.le_of_lt h.box.lt)
  refine ⟨h.bel.grown hg hs (fun k hk => (h.ob k hk).1), ?_, ?_, h.mq, h.nb, h.ob⟩
  · exact (hg.block _ h.box.lt (fun e => (h.ob q e.symm).2.1 rfl)).trans h.box
  · exact (hg.block _ h.item.lt (fun e => by have := (h.ob b e.symm).2.2; omega)).trans h.item
/-- other blocks stay -/
def Fr (u0 : World) (q : Nat) (v : Value) (u : World) : Prop := ∀ c cs T, rw.At u0 c cs T → c ≠ q → (∀ k, v.ownBlock = some k → k ≠ c) → rw.At u c cs T
theorem Fr.up {u0 : World} (h : Fr u0 q v u) (hb : Below u.heap.size u u') : Fr u0 q v u' := fun c cs T hc h1 h2 => (h c cs T hc h1 h2).up hb
theorem Fr.grown {u0 : World} (h : Fr u0 q v u) (hg : u.grownBy u' v.ownBlock) : Fr u0 q v u' := fun c cs T hc h1 h2 => (hg.block c (h c cs T hc h1 h2).lt (fun e => h2 c e.symm rfl)).trans (h c cs T hc h1 h2)
theorem Fr.set {u0 : World} (h : Fr u0 q v u) (k : Nat) (x : Value) : Fr u0 q v (u.setCell ⟨q, k, none⟩ x) := fun c cs T hc h1 h2 => (h c cs T hc h1 h2).far h1 k x
theorem cell2 (u : World) (a b : Value) (T : TypeId) : ∀ j x, [a, b][j]? = some x → (u.alloc (.cells #[a, b] T)).cell? ((⟨u.heap.size, 0, none⟩ : Addr).add j) = some x := by
  intro j x hj
  have e : (⟨u.heap.size, 0, none⟩ : Addr).add j = ⟨u.heap.size, j, none⟩ := by unfold Addr.add; split <;> simp_all
  rw [e, World.cell?, heap_alloc_new]
  simpa using hj
set_option maxHeartbeats 4000000 in
theorem add_any (u00 : World) (w : World) (m q base : Nat) (v : Value) (l : List Ln) (n : Int) (t : ByteArray) (u : World) (h : InQ w m q base v l u) (hfr : Fr u00 q v u) (hl : l.length ≤ 1000) :
    Calls Try.prog 53 #[.pointer (some ⟨q, 0, none⟩), .agg #[.int .i64 n, .string t]] u fun e w' => e = .returned (.tuple #[]) ∧ (∃ v', InQ w m q base v' (l ++ [(n, t)]) w') ∧ Fr u00 q v w' := by
  obtain ⟨i0, hi, hz0, hz1, hz2⟩ := info_parts infoSt
  have hms : m ≤ u.heap.size := Nat.le_trans h.mq (Nat.le_of_lt h.box.lt)
  have ha0 : InBx w m q v u.heap.size n t (u.alloc (.cells #[.int .i64 n, .string t] 28)) :=
    ⟨h.bel.alloc hms _, h.box.up (rw.up_alloc _ _), rw.At.new _ _ _, h.mq, h.box.lt, fun k hk => by
      obtain ⟨h1, cur, h2⟩ := h.own.block k hk
      exact ⟨Nat.le_trans h.mb h1, fun e => (h.own.other (by decide) h.box) (by rw [hk, e]), heap_lt h2⟩⟩
  have ho0 : OwS base v l (u.alloc (.cells #[.int .i64 n, .string t] 28)) := h.own.up (rw.up_alloc _ _)
  have hmq := h.mq
  have hmb := h.mb
  have hbs0 : base ≤ (u.alloc (.cells #[.int .i64 n, .string t] 28)).heap.size := by rw [World.size_alloc]; exact Nat.le_succ_of_le h.bs
  have fr0 : Fr u00 q v (u.alloc (.cells #[.int .i64 n, .string t] 28)) := hfr.up (rw.up_alloc _ _)
  obtain ⟨p, cap, rfl⟩ := h.own.shape
  clear h hms hfr
  go_enter Try.func53, Try.ntmps53
  go_wp2_with fail
  obtain ⟨b, hb⟩ : ∃ b, b = u.heap.size := ⟨_, rfl⟩
  rw [← hb] at ha0 ⊢
  generalize u.alloc (.cells #[.int .i64 n, .string t] 28) = U at *
  have HS : Hid (∀ x, InBx w m q (.slice p l.length cap) b n t x → (x.cell? ⟨b, 0, none⟩ = some (.int .i64 n) ∧ x.cell? ⟨b, 1, none⟩ = some (.string t))) := fun x hx => hx.cells.2
  clear hb
  refine wp_region_noPanic ?_
  refine wp_region_held_drew (S := fun u => u.cell? ⟨b, 0, none⟩ = some (.int .i64 n) ∧ u.cell? ⟨b, 1, none⟩ = some (.string t)) (by kernel_rfl) (HS.out _ (ha0.up (rw.up_drew _))) (fun _ => ?_)
  refine rw.region_w (fun u => (InBx w m q (.slice p l.length cap) b n t u) ∧ (OwS base (.slice p l.length cap) l u) ∧ (base ≤ u.heap.size) ∧ (Fr u00 q (.slice p l.length cap) u)) ⟨ha0.up (rw.up_drew _), ho0.up (rw.up_drew _), hbs0, fr0.up (rw.up_drew _)⟩ ?_
  clear ha0 ho0 hbs0 fr0
  rintro u ⟨i, ow, hbs, fr⟩
  have hHeld : (u.cell? ⟨b, 0, none⟩ = some (.int .i64 n) ∧ u.cell? ⟨b, 1, none⟩ = some (.string t)) := HS.out u i
  refine wpAnyH_take (i := 0) (oi := { dst := some 4, op := Op.move (Operand.tmp 0), type := 75, pos := "l07_sync.go:54", after := #[], guard := none }) (v := ?_) rfl (by kernel_rfl) (by kernel_rfl) (by kernel_rfl) (fun _ _ _ h => h) (Or.inl ⟨by rfl, ?_⟩) hHeld ?_
  rotate_left
  · rintro w ⟨z0, z1⟩; go_simp; (try with_reducible rfl)
  try simp only [Act.put, List.setIfInBounds_toArray, List.set_cons_zero, List.set_cons_succ]
  refine wpAnyH_take (i := 1) (oi := { dst := some 5, op := Op.move (Operand.tmp 0), type := 75, pos := "l07_sync.go:54", after := #[], guard := none }) (v := ?_) rfl (by kernel_rfl) (by kernel_rfl) (by kernel_rfl) (fun _ _ _ h => h) (Or.inl ⟨by rfl, ?_⟩) hHeld ?_
  rotate_left
  · rintro w ⟨z0, z1⟩; go_simp; (try with_reducible rfl)
  try simp only [Act.put, List.setIfInBounds_toArray, List.set_cons_zero, List.set_cons_succ]
  refine wpAnyH_take (i := 2) (oi := { dst := some 6, op := Op.nilCheck (Operand.tmp 5), type := 0, pos := "l07_sync.go:54", after := #[{ on := 1, ground := Ground.data }], guard := none }) (v := ?_) rfl (by kernel_rfl) (by kernel_rfl) (by kernel_rfl) (fun _ _ _ h => h) (Or.inl ⟨by rfl, ?_⟩) hHeld ?_
  rotate_left
  · rintro w ⟨z0, z1⟩; go_simp; (try with_reducible rfl)
  try simp only [Act.put, List.setIfInBounds_toArray, List.set_cons_zero, List.set_cons_succ]
  refine wpAnyH_take (i := 3) (oi := { dst := some 7, op := Op.fieldAddr 79 (Operand.tmp 6) 0, type := 0, pos := "l07_sync.go:54", after := #[{ on := 2, ground := Ground.data }], guard := none }) (v := ?_) rfl (by kernel_rfl) (by kernel_rfl) (by kernel_rfl) (fun _ _ _ h => h) (Or.inl ⟨by rfl, ?_⟩) hHeld ?_
  rotate_left
  · rintro w ⟨z0, z1⟩; go_simp; (try with_reducible rfl)
  try simp only [Act.put, List.setIfInBounds_toArray, List.set_cons_zero, List.set_cons_succ]
  refine wpAnyH_take (i := 5) (oi := { dst := some 9, op := Op.load 28 (Operand.tmp 3), type := 28, pos := "l07_sync.go:54", after := #[], guard := none }) (v := ?_) rfl (by kernel_rfl) (by kernel_rfl) (by kernel_rfl) (fun _ _ _ h => h) (Or.inl ⟨by rfl, ?_⟩) hHeld ?_
  rotate_left
  · rintro w ⟨z0, z1⟩; go_simp; (try with_reducible rfl)
  try simp only [Act.put, List.setIfInBounds_toArray, List.set_cons_zero, List.set_cons_succ]
  refine wpAnyH_ready (rs := [4, 6]) (by kernel_rfl) (by simp) ?_
  refine AllReadyH.cons rfl (fun K hK => ?_) (AllReadyH.cons rfl (fun K hK => ?_) AllReadyH.nil)
  · skip
    have c0 := i.cells.1
    go_simp
    refine hK.out _ _ (HS.out _ i) (fun _ => ?_)
    clear hK K c0
    try simp only [Act.put, List.setIfInBounds_toArray, List.set_cons_zero, List.set_cons_succ]
    refine wpAnyH_ready (rs := [6]) (by kernel_rfl) (by simp) ?_
    refine AllReadyH.cons rfl (fun K hK => ?_) AllReadyH.nil
    go_simp
    refine hK.out _ _ (HS.out _ (i.up (rw.up_alloc _ _))) (fun _ => ?_)
    clear hK K hHeld
    try simp only [Act.put, List.setIfInBounds_toArray, List.set_cons_zero, List.set_cons_succ]
    obtain ⟨g, hg⟩ : ∃ g, g = u.heap.size := ⟨_, rfl⟩
    rw [← hg]
    refine rw.region_w (fun u => (InBx w m q (.slice p l.length cap) b n t u) ∧ (OwS base (.slice p l.length cap) l u) ∧ (base ≤ u.heap.size) ∧ (Fr u00 q (.slice p l.length cap) u) ∧ (rw.At u g #[.int .i64 n, .string t] 28)) ⟨i.up (rw.up_alloc _ _), ow.up (rw.up_alloc _ _), Nat.le_trans hbs (rw.up_alloc _ _).size, fr.up (rw.up_alloc _ _), by rw [hg]; exact rw.At.new _ _ _⟩ ?_
    clear i ow hbs fr
    rintro u ⟨i, ow, hbs, fr, ga⟩
    have hHeld : (u.cell? ⟨b, 0, none⟩ = some (.int .i64 n) ∧ u.cell? ⟨b, 1, none⟩ = some (.string t)) := HS.out u i
    clear hg
    refine wpAnyH_ready (rs := [7]) (by kernel_rfl) (by simp) ?_
    refine AllReadyH.cons rfl (fun K hK => ?_) AllReadyH.nil
    have gc : ∀ j x, [Value.int .i64 n, Value.string t][j]? = some x → u.cell? ((⟨g, 0, none⟩ : Addr).add j) = some x := fun j x hj => by
      have e : (⟨g, 0, none⟩ : Addr).add j = ⟨g, j, none⟩ := by unfold Addr.add; split <;> simp_all
      rw [e, ga.cell j]; simpa using hj
    clear ga
    rw [if_pos (by rfl)]
    refine wp_append_own _ _ _ 47 rfl base 28 i0 (.agg #[.int .i64 0, .string ⟨#[]⟩]) 2 24 Try.underlying47 hi hz0 hz1 hz2 rfl (by decide) _ l.length (flat l) rfl ow ⟨g, 0, none⟩ 1 1 [.int .i64 n, .string t] rfl rfl (fun j x hj => gc j x hj) (fun y hy => by simp at hy; rcases hy with rfl | rfl <;> rfl) (by unfold maxLen; omega) (by omega) hbs ?_
    intro v4 w4 hown hgr hnil
    clear hnil
    refine hK.out _ _ (HS.out _ (i.grown hgr)) (fun _ => ?_)
    clear hK K hHeld
    try simp only [Act.put, List.setIfInBounds_toArray, List.set_cons_zero, List.set_cons_succ]
    refine rw.region_w (fun u => (InBx w m q (.slice p l.length cap) b n t u) ∧ (OwS base v4 (l ++ [(n, t)]) u) ∧ (base ≤ u.heap.size) ∧ (Fr u00 q (.slice p l.length cap) u)) ⟨i.grown hgr, show OwS base v4 (l ++ [(n, t)]) w4 from by unfold OwS; rw [List.length_append, flat_app]; exact hown, Nat.le_trans hbs hgr.size, fr.grown hgr⟩ ?_
    clear i ow hbs fr hgr hown gc
    rintro u ⟨i, ow, hbs, fr⟩
    have hHeld : (u.cell? ⟨b, 0, none⟩ = some (.int .i64 n) ∧ u.cell? ⟨b, 1, none⟩ = some (.string t)) := HS.out u i
    refine wpAnyH_take (i := 8) (oi := { dst := some 12, op := Op.nilCheck (Operand.tmp 4), type := 0, pos := "l07_sync.go:54", after := #[{ on := 0, ground := Ground.data }, { on := 0, ground := Ground.phase }, { on := 1, ground := Ground.phase }, { on := 2, ground := Ground.phase }, { on := 3, ground := Ground.phase }, { on := 4, ground := Ground.phase }, { on := 5, ground := Ground.phase }, { on := 6, ground := Ground.phase }, { on := 7, ground := Ground.phase }], guard := none }) (v := ?_) rfl (by kernel_rfl) (by kernel_rfl) (by kernel_rfl) (fun _ _ _ h => h) (Or.inl ⟨by rfl, ?_⟩) hHeld ?_
    rotate_left
    · rintro w ⟨z0, z1⟩; go_simp; (try with_reducible rfl)
    try simp only [Act.put, List.setIfInBounds_toArray, List.set_cons_zero, List.set_cons_succ]
    refine wpAnyH_take (i := 9) (oi := { dst := some 13, op := Op.fieldAddr 79 (Operand.tmp 12) 0, type := 0, pos := "l07_sync.go:54", after := #[{ on := 8, ground := Ground.data }, { on := 0, ground := Ground.phase }, { on := 1, ground := Ground.phase }, { on := 2, ground := Ground.phase }, { on := 3, ground := Ground.phase }, { on := 4, ground := Ground.phase }, { on := 5, ground := Ground.phase }, { on := 6, ground := Ground.phase }, { on := 7, ground := Ground.phase }], guard := none }) (v := ?_) rfl (by kernel_rfl) (by kernel_rfl) (by kernel_rfl) (fun _ _ _ h => h) (Or.inl ⟨by rfl, ?_⟩) hHeld ?_
    rotate_left
    · rintro w ⟨z0, z1⟩; go_simp; (try with_reducible rfl)
    try simp only [Act.put, List.setIfInBounds_toArray, List.set_cons_zero, List.set_cons_succ]
    refine wpAnyH_ready (rs := [10]) (by kernel_rfl) (by simp) ?_
    refine AllReadyH.cons rfl (fun K hK => ?_) AllReadyH.nil
    have HF : Hid (InQ w m q base v4 (l ++ [(n, t)]) (u.setCell ⟨q, 0, none⟩ v4)) := ⟨i.bel.setCell (p := ⟨q, 0, none⟩) hmq v4, i.box.set 0 v4, World.ownsRow.kept ow (Go.Lib.grownBy_setCell u q 0 v4) (.inr (ow.other (by decide) i.box)), hmq, hmb, Nat.le_trans hbs (Go.Lib.grownBy_setCell u q 0 v4).size⟩
    have hS2 : Hid ((u.setCell ⟨q, 0, none⟩ v4).cell? ⟨b, 0, none⟩ = some (.int .i64 n) ∧ (u.setCell ⟨q, 0, none⟩ v4).cell? ⟨b, 1, none⟩ = some (.string t)) := by
      have := i.item.far (p := q) (by have := i.nb; omega) 0 v4
      exact ⟨this.cell 0, this.cell 1⟩
    have HFr : Hid (Fr u00 q (.slice p l.length cap) (u.setCell ⟨q, 0, none⟩ v4)) := fr.set 0 v4
    obtain ⟨p4, cap4, hp4⟩ := ow.shape
    have hl4 : (l ++ [(n, t)]).length = l.length + 1 := by simp
    rw [hl4] at hp4
    subst hp4
    have c0 := i.cells.1
    have f0 := fun k => i.box.frozen k
    clear i ow hbs fr hl4
    go_simp
    refine hK.out _ _ hS2.out (fun _ => ?_)
    clear hK K hHeld
    try simp only [Act.put, List.setIfInBounds_toArray, List.set_cons_zero, List.set_cons_succ]
    refine wpAnyH_done (by kernel_rfl) ?_ _
    refine NoPanic.normal ?_
    clear hS2 c0 f0 HS
    go_end0
    exact ⟨rfl, ⟨_, HF.out⟩, HFr.out⟩
  · skip
    go_simp
    refine hK.out _ _ (HS.out _ (i.up (rw.up_alloc _ _))) (fun _ => ?_)
    clear hK K hHeld
    try simp only [Act.put, List.setIfInBounds_toArray, List.set_cons_zero, List.set_cons_succ]
    obtain ⟨g, hg⟩ : ∃ g, g = u.heap.size := ⟨_, rfl⟩
    rw [← hg]
    refine rw.region_w (fun u => (InBx w m q (.slice p l.length cap) b n t u) ∧ (OwS base (.slice p l.length cap) l u) ∧ (base ≤ u.heap.size) ∧ (Fr u00 q (.slice p l.length cap) u) ∧ (rw.At u g #[.int .i64 n, .string t] 28)) ⟨i.up (rw.up_alloc _ _), ow.up (rw.up_alloc _ _), Nat.le_trans hbs (rw.up_alloc _ _).size, fr.up (rw.up_alloc _ _), by rw [hg]; exact rw.At.new _ _ _⟩ ?_
    clear i ow hbs fr
    rintro u ⟨i, ow, hbs, fr, ga⟩
    have hHeld : (u.cell? ⟨b, 0, none⟩ = some (.int .i64 n) ∧ u.cell? ⟨b, 1, none⟩ = some (.string t)) := HS.out u i
    clear hg
    refine wpAnyH_ready (rs := [4]) (by kernel_rfl) (by simp) ?_
    refine AllReadyH.cons rfl (fun K hK => ?_) AllReadyH.nil
    have c0 := i.cells.1
    go_simp
    refine hK.out _ _ (HS.out _ i) (fun _ => ?_)
    clear hK K c0
    try simp only [Act.put, List.setIfInBounds_toArray, List.set_cons_zero, List.set_cons_succ]
    refine wpAnyH_ready (rs := [7]) (by kernel_rfl) (by simp) ?_
    refine AllReadyH.cons rfl (fun K hK => ?_) AllReadyH.nil
    have gc : ∀ j x, [Value.int .i64 n, Value.string t][j]? = some x → u.cell? ((⟨g, 0, none⟩ : Addr).add j) = some x := fun j x hj => by
      have e : (⟨g, 0, none⟩ : Addr).add j = ⟨g, j, none⟩ := by unfold Addr.add; split <;> simp_all
      rw [e, ga.cell j]; simpa using hj
    clear ga
    rw [if_pos (by rfl)]
    refine wp_append_own _ _ _ 47 rfl base 28 i0 (.agg #[.int .i64 0, .string ⟨#[]⟩]) 2 24 Try.underlying47 hi hz0 hz1 hz2 rfl (by decide) _ l.length (flat l) rfl ow ⟨g, 0, none⟩ 1 1 [.int .i64 n, .string t] rfl rfl (fun j x hj => gc j x hj) (fun y hy => by simp at hy; rcases hy with rfl | rfl <;> rfl) (by unfold maxLen; omega) (by omega) hbs ?_
    intro v4 w4 hown hgr hnil
    clear hnil
    refine hK.out _ _ (HS.out _ (i.grown hgr)) (fun _ => ?_)
    clear hK K hHeld
    try simp only [Act.put, List.setIfInBounds_toArray, List.set_cons_zero, List.set_cons_succ]
    refine rw.region_w (fun u => (InBx w m q (.slice p l.length cap) b n t u) ∧ (OwS base v4 (l ++ [(n, t)]) u) ∧ (base ≤ u.heap.size) ∧ (Fr u00 q (.slice p l.length cap) u)) ⟨i.grown hgr, show OwS base v4 (l ++ [(n, t)]) w4 from by unfold OwS; rw [List.length_append, flat_app]; exact hown, Nat.le_trans hbs hgr.size, fr.grown hgr⟩ ?_
    clear i ow hbs fr hgr hown gc
    rintro u ⟨i, ow, hbs, fr⟩
    have hHeld : (u.cell? ⟨b, 0, none⟩ = some (.int .i64 n) ∧ u.cell? ⟨b, 1, none⟩ = some (.string t)) := HS.out u i
    refine wpAnyH_take (i := 8) (oi := { dst := some 12, op := Op.nilCheck (Operand.tmp 4), type := 0, pos := "l07_sync.go:54", after := #[{ on := 0, ground := Ground.data }, { on := 0, ground := Ground.phase }, { on := 1, ground := Ground.phase }, { on := 2, ground := Ground.phase }, { on := 3, ground := Ground.phase }, { on := 4, ground := Ground.phase }, { on := 5, ground := Ground.phase }, { on := 6, ground := Ground.phase }, { on := 7, ground := Ground.phase }], guard := none }) (v := ?_) rfl (by kernel_rfl) (by kernel_rfl) (by kernel_rfl) (fun _ _ _ h => h) (Or.inl ⟨by rfl, ?_⟩) hHeld ?_
    rotate_left
    · rintro w ⟨z0, z1⟩; go_simp; (try with_reducible rfl)
    try simp only [Act.put, List.setIfInBounds_toArray, List.set_cons_zero, List.set_cons_succ]
    refine wpAnyH_take (i := 9) (oi := { dst := some 13, op := Op.fieldAddr 79 (Operand.tmp 12) 0, type := 0, pos := "l07_sync.go:54", after := #[{ on := 8, ground := Ground.data }, { on := 0, ground := Ground.phase }, { on := 1, ground := Ground.phase }, { on := 2, ground := Ground.phase }, { on := 3, ground := Ground.phase }, { on := 4, ground := Ground.phase }, { on := 5, ground := Ground.phase }, { on := 6, ground := Ground.phase }, { on := 7, ground := Ground.phase }], guard := none }) (v := ?_) rfl (by kernel_rfl) (by kernel_rfl) (by kernel_rfl) (fun _ _ _ h => h) (Or.inl ⟨by rfl, ?_⟩) hHeld ?_
    rotate_left
    · rintro w ⟨z0, z1⟩; go_simp; (try with_reducible rfl)
    try simp only [Act.put, List.setIfInBounds_toArray, List.set_cons_zero, List.set_cons_succ]
    refine wpAnyH_ready (rs := [10]) (by kernel_rfl) (by simp) ?_
    refine AllReadyH.cons rfl (fun K hK => ?_) AllReadyH.nil
    have HF : Hid (InQ w m q base v4 (l ++ [(n, t)]) (u.setCell ⟨q, 0, none⟩ v4)) := ⟨i.bel.setCell (p := ⟨q, 0, none⟩) hmq v4, i.box.set 0 v4, World.ownsRow.kept ow (Go.Lib.grownBy_setCell u q 0 v4) (.inr (ow.other (by decide) i.box)), hmq, hmb, Nat.le_trans hbs (Go.Lib.grownBy_setCell u q 0 v4).size⟩
    have hS2 : Hid ((u.setCell ⟨q, 0, none⟩ v4).cell? ⟨b, 0, none⟩ = some (.int .i64 n) ∧ (u.setCell ⟨q, 0, none⟩ v4).cell? ⟨b, 1, none⟩ = some (.string t)) := by
      have := i.item.far (p := q) (by have := i.nb; omega) 0 v4
      exact ⟨this.cell 0, this.cell 1⟩
    have HFr : Hid (Fr u00 q (.slice p l.length cap) (u.setCell ⟨q, 0, none⟩ v4)) := fr.set 0 v4
    obtain ⟨p4, cap4, hp4⟩ := ow.shape
    have hl4 : (l ++ [(n, t)]).length = l.length + 1 := by simp
    rw [hl4] at hp4
    subst hp4
    have c0 := i.cells.1
    have f0 := fun k => i.box.frozen k
    clear i ow hbs fr hl4
    go_simp
    refine hK.out _ _ hS2.out (fun _ => ?_)
    clear hK K hHeld
    try simp only [Act.put, List.setIfInBounds_toArray, List.set_cons_zero, List.set_cons_succ]
    refine wpAnyH_done (by kernel_rfl) ?_ _
    refine NoPanic.normal ?_
    clear hS2 c0 f0 HS
    go_end0
    exact ⟨rfl, ⟨_, HF.out⟩, HFr.out⟩
end Go.Proofs.Ytjjfdkmhoocfhaa.st
