/-
  The model's Verify by a plain condition; no old block turns. No condition.
-/
import Derived.Test.YtcfekhahibklfaaDoorLogR
import Derived.Test.YtcfekhahibklfaaDoorLogA
import Derived.Deep.RegionHeld3
namespace Go.Proofs.YtcfekhahibklfaaDoor.lm
open Go.ChangeShapes Go.WideShapes Go.ChangeAt Go.RowKit
open Go.Proofs.YtcfekhahibklfaaDoor.wi (heap_lt calls_w wp_w)
open Go.Proofs.YtcfekhahibklfaaDoor.lg Go.Proofs.YtcfekhahibklfaaDoor.ss
open Go.Proofs.YtcfekhahibklfaaDoor.sh (macB macB_size macM_any)
set_option linter.unusedVariables false

/-- a slice of its own holds its texts -/
theorem own_slice {u : World} {base : Nat} {v : Value} {l : List ByteArray} (h : u.ownsRow base 9 1 v l.length (l.map Value.string)) : SliceIs u v l := by
  rcases h.2 with ⟨rfl, hl⟩ | ⟨g, cap, cur, rfl, hb, hg, h1, h2, h3, h4⟩
  · exact .inl ⟨_, _, List.length_eq_zero_iff.1 hl, rfl⟩
  · refine .inr ⟨g, 0, cap, heap_lt hg, rfl, fun j hj => ?_⟩
    rw [Nat.zero_add, h.cellAt j (by simpa using hj)]
    simp [List.getD, List.getElem?_eq_getElem hj]
theorem fieldR (v a b : Value) (u : World) : (Instr.field 36 (.agg #[v, a, b]) 0).run Tryd.prog u = .ok v u := by kernel_rfl
/-- the anchor's block -/
def InV (w : World) (n : Int) (c : ByteArray) (u : World) : Prop := Below w.heap.size w u ∧ u.heap[w.heap.size]? = some (.cells #[.int .i64 n, .string c] 41 (0, 0))
theorem InV.start (w : World) (n : Int) (c : ByteArray) : InV w n c (w.alloc (.cells #[.int .i64 n, .string c] 41)) := ⟨(Below.refl _ _).alloc (Nat.le_refl _) _, heap_alloc_new _ _⟩
theorem InV.up {w u u' : World} {n : Int} {c : ByteArray} (h : InV w n c u) (hb : Below u.heap.size u u') : InV w n c u' := ⟨h.1.trans (hb.mono h.1.size), (hb.block _ (heap_lt h.2)).trans h.2⟩
theorem InV.cells {w u : World} {n : Int} {c : ByteArray} (h : InV w n c u) : u.cell? ⟨w.heap.size, 0, none⟩ = some (.int .i64 n) ∧ u.cell? ⟨w.heap.size, 1, none⟩ = some (.string c) := by
  refine ⟨?_, ?_⟩ <;> simp [World.cell?, h.2]
theorem verL_iff {key text c : ByteArray} {n : Nat} {l : List ByteArray} {i : Int} (hk : KeyL key) (ht : text.size ≤ 8000) (hn : n ≤ 60) (hl : readL macB key text = (l, i)) : VerL macB key (n : Int) c text ↔ n ≤ l.length ∧ chain macB key (l.take n) = c := by
  unfold VerL
  rw [hl]
  constructor
  · rintro ⟨_, _, h1, h2⟩
    exact ⟨by have : (n : Int) ≤ (l.length : Int) := h1; omega, h2⟩
  · rintro ⟨h1, h2⟩
    exact ⟨⟨hk, ht⟩, by omega, by show (n : Int) ≤ (l.length : Int); omega, h2⟩
/-- Verify's answer under a letter -/
def VerPost (w : World) (key : ByteArray) (n : Int) (c text : ByteArray) (e : Ending) (w' : World) : Prop := ∃ d : Bool, e = .returned (.bool d) ∧ (d = true ↔ VerL macB key n c text) ∧ Below w.heap.size w w'
set_option maxRecDepth 20000 in
set_option maxHeartbeats 8000000 in
theorem verM_yes (key text c : ByteArray) (n : Nat) (w : World) (hk : KeyL key) (ht : text.size ≤ 8000) (hn : n ≤ 60) (hc : c.size ≤ maxLen) :
    Calls Tryd.prog 26 #[.string key, .agg #[.int .i64 (n : Int), .string c], .string text] w (VerPost w key n c text) := by
  have hk2 : key.size ≤ 64 := hk.2
  have HK : Hid (∀ u, Calls Tryd.prog 47 #[.string key] u fun e w' => e = .returned (.bool true) ∧ w' = u) := fun u => keyM_yes key u hk
  have HI : Hid (∀ u, Calls Tryd.prog 56 #[.int .i64 (n : Int), .int .i64 0, .int .i64 60] u fun r w' => r = .returned (.bool true) ∧ w' = u) := fun u => by
    have := isM_any (n : Int) 0 60 u
    rwa [decide_eq_true (by omega)] at this
  obtain ⟨l, i, hl⟩ : ∃ l i, readL macB key text = (l, i) := ⟨_, _, rfl⟩
  have HR : Hid (∀ u, Calls Tryd.prog 15 #[.string key, .string text] u (ReadPost u (l, i, 0))) := fun u => by
    have := readM_any key text u (Nat.le_trans hk2 (by decide)) (Nat.le_trans ht (by decide))
    rwa [logR_yes hk ht, hl] at this
  have hV := verL_iff (c := c) hk ht hn hl
  have hrl : RecsL key l := by have := readL_right (mac := macB) (text := text) hk; rwa [hl] at this
  have HCh : Hid (∀ u v, SliceIs u v l → n ≤ l.length → Calls Tryd.prog 57 #[.string key, v, .int .i64 (n : Int)] u fun r w' => r = .returned (.string (chain macB key (l.take n))) ∧ Below u.heap.size u w') := fun u v hv h => chainM_any key v l n u (Nat.le_trans hk2 (by decide)) (fun r hr => Nat.le_trans (hrl.1 r hr) (by decide)) (Nat.le_trans hrl.2.2 (by decide)) h hv
  have hl60 := hrl.2.2
  have d1 : decide (8000 < (key.size : Int)) = false := decide_eq_false (by omega)
  have d2 : decide (8000 < (text.size : Int)) = false := decide_eq_false (by omega)
  obtain ⟨z, hz⟩ : ∃ z, z = chain macB key (l.take n) := ⟨_, rfl⟩
  rw [← hz] at hV HCh
  have HV : Hid (VerL macB key (n : Int) c text ↔ n ≤ l.length ∧ z = c) := hV
  clear hz hl hrl hV
  go_enter Tryd.func26, Tryd.ntmps26
  go_wp2_with (first | (go_at_call 47; (with_reducible refine (HK.out _).mono ?_); rintro r w' ⟨rfl, hw'⟩; obtain rfl := hw'.symm) | (go_at_call 56; (with_reducible refine (HI.out _).mono ?_); rintro r w' ⟨rfl, hw'⟩; obtain rfl := hw'.symm) | (go_at_call 15; fail))
  refine calls_w (InV w n c) (InV.start w n c) ?_
  intro u hI
  refine (HR.out u).mono ?_
  rintro r w1 ⟨v, rfl, hb1, hrow⟩
  replace hI := hI.up hb1
  clear hb1 HR HK HI
  have HSl : Hid (SliceIs w1 v l) := own_slice hrow
  obtain ⟨p, cap, rfl⟩ := row_shape hrow
  clear hrow u
  obtain ⟨x0, x1⟩ := hI.cells
  have hfld := fieldR (.slice p l.length cap) (.int .i64 i) (.int .i64 0) w1
  by_cases hnl : n ≤ l.length
  · have dn : decide ((n : Int) ≤ (l.length : Int)) = true := decide_eq_true (by omega)
    have HC2 : Hid (∀ u, Below w1.heap.size w1 u → Calls Tryd.prog 57 #[.string key, .slice p l.length cap, .int .i64 (n : Int)] u fun r w' => r = .returned (.string z) ∧ Below u.heap.size u w') := fun u hu => HCh.out u _ (HSl.out.up hu) hnl
    have HIu : Hid (∀ u u', Below w1.heap.size w1 u → Below u.heap.size u u' → InV w n c u') := fun u u' h1 h2 => (hI.up h1).up h2
    clear HCh HSl
    by_cases hE : z = c
    · have HV2 : Hid (VerL macB key (n : Int) c text) := HV.out.2 ⟨hnl, hE⟩
      have dE : (z.toList == c.toList) = true := beqT hE
      clear HV hE
      go_wp2
      refine wp_region_noPanic ?_
      refine wp_region_held_drew (S := fun u => u.cell? ⟨w.heap.size, 0, none⟩ = some (.int .i64 (n : Int)) ∧ u.cell? ⟨w.heap.size, 1, none⟩ = some (.string c)) (by kernel_rfl) ⟨x0, x1⟩ (fun hHeld => ?_)
      refine wpAnyH_take (i := 0) (oi := { dst := some 31, op := Op.move (Operand.tmp 7), type := 23, pos := "l05_log.go:92", after := #[], guard := none }) (v := ?_) rfl (by kernel_rfl) (by kernel_rfl) (by kernel_rfl) (fun _ _ _ h => h) (Or.inl ⟨by rfl, ?_⟩) hHeld ?_
      rotate_left
      · rintro w ⟨z0, z1⟩; go_simp; (try with_reducible rfl)
      try simp only [Act.put, List.setIfInBounds_toArray, List.set_cons_zero, List.set_cons_succ]
      refine wpAnyH_take (i := 1) (oi := { dst := some 32, op := Op.call { callee := Callee.builtin Builtin.len, args := #[Operand.tmp 31], argTypes := #[23] }, type := 3, pos := "l05_log.go:92", after := #[{ on := 0, ground := Ground.data }], guard := none }) (v := ?_) rfl (by kernel_rfl) (by kernel_rfl) (by kernel_rfl) (fun _ _ _ h => h) (Or.inl ⟨by rfl, ?_⟩) hHeld ?_
      rotate_left
      · rintro w ⟨z0, z1⟩; go_simp; (try with_reducible rfl)
      try simp only [Act.put, List.setIfInBounds_toArray, List.set_cons_zero, List.set_cons_succ]
      refine wpAnyH_take (i := 2) (oi := { dst := some 33, op := Op.fieldAddr 41 (Operand.tmp 4) 0, type := 0, pos := "l05_log.go:92", after := #[], guard := none }) (v := ?_) rfl (by kernel_rfl) (by kernel_rfl) (by kernel_rfl) (fun _ _ _ h => h) (Or.inl ⟨by rfl, ?_⟩) hHeld ?_
      rotate_left
      · rintro w ⟨z0, z1⟩; go_simp; (try with_reducible rfl)
      try simp only [Act.put, List.setIfInBounds_toArray, List.set_cons_zero, List.set_cons_succ]
      refine wpAnyH_take (i := 3) (oi := { dst := some 34, op := Op.load 2 (Operand.tmp 33), type := 2, pos := "l05_log.go:92", after := #[{ on := 2, ground := Ground.data }], guard := none }) (v := ?_) rfl (by kernel_rfl) (by kernel_rfl) (by kernel_rfl) (fun _ _ _ h => h) (Or.inl ⟨by rfl, ?_⟩) hHeld ?_
      rotate_left
      · rintro w ⟨z0, z1⟩; go_simp; (try with_reducible rfl)
      try simp only [Act.put, List.setIfInBounds_toArray, List.set_cons_zero, List.set_cons_succ]
      refine wpAnyH_take (i := 4) (oi := { dst := some 35, op := Op.binOp BinOp.geq 2 (Operand.tmp 32) (Operand.tmp 34) 2, type := 4, pos := "l05_log.go:92", after := #[{ on := 1, ground := Ground.data }, { on := 3, ground := Ground.data }], guard := none }) (v := .bool true) rfl (by kernel_rfl) (by kernel_rfl) (by kernel_rfl) (fun _ _ _ h => h) (Or.inl ⟨by rfl, ?_⟩) hHeld ?_
      · rintro w ⟨z0, z1⟩; go_simp; (try with_reducible rfl)
      try simp only [Act.put, List.setIfInBounds_toArray, List.set_cons_zero, List.set_cons_succ]
      refine wpAnyH_take (i := 5) (oi := { dst := some 36, op := Op.move (Operand.tmp 35), type := 4, pos := "l05_log.go:92", after := #[{ on := 4, ground := Ground.data }], guard := none }) (v := ?_) rfl (by kernel_rfl) (by kernel_rfl) (by kernel_rfl) (fun _ _ _ h => h) (Or.inl ⟨by rfl, ?_⟩) hHeld ?_
      rotate_left
      · rintro w ⟨z0, z1⟩; go_simp; (try with_reducible rfl)
      try simp only [Act.put, List.setIfInBounds_toArray, List.set_cons_zero, List.set_cons_succ]
      refine wpAnyH_take (i := 6) (oi := { dst := some 37, op := Op.move (Operand.tmp 0), type := 9, pos := "l05_log.go:92", after := #[{ on := 5, ground := Ground.guard }], guard := some (5, true) }) (v := ?_) rfl (by kernel_rfl) (by kernel_rfl) (by kernel_rfl) (fun _ _ _ h => h) (Or.inl ⟨by rfl, ?_⟩) hHeld ?_
      rotate_left
      · rintro w ⟨z0, z1⟩; go_simp; (try with_reducible rfl)
      try simp only [Act.put, List.setIfInBounds_toArray, List.set_cons_zero, List.set_cons_succ]
      refine wpAnyH_take (i := 7) (oi := { dst := some 38, op := Op.move (Operand.tmp 7), type := 23, pos := "l05_log.go:92", after := #[{ on := 5, ground := Ground.guard }], guard := some (5, true) }) (v := ?_) rfl (by kernel_rfl) (by kernel_rfl) (by kernel_rfl) (fun _ _ _ h => h) (Or.inl ⟨by rfl, ?_⟩) hHeld ?_
      rotate_left
      · rintro w ⟨z0, z1⟩; go_simp; (try with_reducible rfl)
      try simp only [Act.put, List.setIfInBounds_toArray, List.set_cons_zero, List.set_cons_succ]
      refine wpAnyH_take (i := 8) (oi := { dst := some 39, op := Op.fieldAddr 41 (Operand.tmp 4) 0, type := 0, pos := "l05_log.go:92", after := #[{ on := 5, ground := Ground.guard }], guard := some (5, true) }) (v := ?_) rfl (by kernel_rfl) (by kernel_rfl) (by kernel_rfl) (fun _ _ _ h => h) (Or.inl ⟨by rfl, ?_⟩) hHeld ?_
      rotate_left
      · rintro w ⟨z0, z1⟩; go_simp; (try with_reducible rfl)
      try simp only [Act.put, List.setIfInBounds_toArray, List.set_cons_zero, List.set_cons_succ]
      refine wpAnyH_take (i := 9) (oi := { dst := some 40, op := Op.load 2 (Operand.tmp 39), type := 2, pos := "l05_log.go:92", after := #[{ on := 8, ground := Ground.data }, { on := 5, ground := Ground.guard }], guard := some (5, true) }) (v := ?_) rfl (by kernel_rfl) (by kernel_rfl) (by kernel_rfl) (fun _ _ _ h => h) (Or.inl ⟨by rfl, ?_⟩) hHeld ?_
      rotate_left
      · rintro w ⟨z0, z1⟩; go_simp; (try with_reducible rfl)
      try simp only [Act.put, List.setIfInBounds_toArray, List.set_cons_zero, List.set_cons_succ]
      refine wpAnyH_take (i := 11) (oi := { dst := some 42, op := Op.fieldAddr 41 (Operand.tmp 4) 1, type := 0, pos := "l05_log.go:92", after := #[{ on := 5, ground := Ground.guard }], guard := some (5, true) }) (v := ?_) rfl (by kernel_rfl) (by kernel_rfl) (by kernel_rfl) (fun _ _ _ h => h) (Or.inl ⟨by rfl, ?_⟩) hHeld ?_
      rotate_left
      · rintro w ⟨z0, z1⟩; go_simp; (try with_reducible rfl)
      try simp only [Act.put, List.setIfInBounds_toArray, List.set_cons_zero, List.set_cons_succ]
      refine wpAnyH_take (i := 12) (oi := { dst := some 43, op := Op.load 9 (Operand.tmp 42), type := 9, pos := "l05_log.go:92", after := #[{ on := 11, ground := Ground.data }, { on := 5, ground := Ground.guard }], guard := some (5, true) }) (v := ?_) rfl (by kernel_rfl) (by kernel_rfl) (by kernel_rfl) (fun _ _ _ h => h) (Or.inl ⟨by rfl, ?_⟩) hHeld ?_
      rotate_left
      · rintro w ⟨z0, z1⟩; go_simp; (try with_reducible rfl)
      try simp only [Act.put, List.setIfInBounds_toArray, List.set_cons_zero, List.set_cons_succ]
      refine wpAnyH_ready (rs := [10]) (by kernel_rfl) (by simp) ?_
      refine AllReadyH.cons rfl (fun K hK => ?_) AllReadyH.nil
      go_simp
      go_at_call 57
      refine (HC2.out _ (by repeat (first | exact Below.refl _ _ | apply Below.drew))).mono ?_
      rintro r w2 ⟨rfl, hb2⟩
      replace hI := HIu.out _ _ (by repeat (first | exact Below.refl _ _ | apply Below.drew)) hb2
      clear hb2
      go_wp2_with fail
      refine hK.out _ _ hI.cells (fun hHeld => ?_)
      clear hK K
      try simp only [Act.put, List.setIfInBounds_toArray, List.set_cons_zero, List.set_cons_succ]
      refine wpAnyH_take (i := 13) (oi := { dst := some 44, op := Op.binOp BinOp.eql 9 (Operand.tmp 41) (Operand.tmp 43) 9, type := 4, pos := "l05_log.go:92", after := #[{ on := 10, ground := Ground.data }, { on := 12, ground := Ground.data }, { on := 5, ground := Ground.guard }], guard := some (5, true) }) (v := .bool true) rfl (by kernel_rfl) (by kernel_rfl) (by kernel_rfl) (fun _ _ _ h => h) (Or.inl ⟨by rfl, ?_⟩) hHeld ?_
      · rintro w ⟨z0, z1⟩; go_simp; (try with_reducible rfl)
      try simp only [Act.put, List.setIfInBounds_toArray, List.set_cons_zero, List.set_cons_succ]
      refine wpAnyH_take (i := 14) (oi := { dst := some 45, op := Op.pick (Operand.tmp 36) (Operand.tmp 44) (Operand.const (Value.bool false)), type := 4, pos := "l05_log.go:92", after := #[{ on := 5, ground := Ground.data }, { on := 13, ground := Ground.data }], guard := none }) (v := .bool true) rfl (by kernel_rfl) (by kernel_rfl) (by kernel_rfl) (fun _ _ _ h => h) (Or.inl ⟨by rfl, ?_⟩) hHeld ?_
      · rintro w ⟨z0, z1⟩; go_simp; (try with_reducible rfl)
      try simp only [Act.put, List.setIfInBounds_toArray, List.set_cons_zero, List.set_cons_succ]
      refine wpAnyH_take (i := 15) (oi := { dst := some 6, op := Op.assign (Operand.tmp 45), type := 4, pos := "l05_log.go:92", after := #[{ on := 14, ground := Ground.data }, { on := 10, ground := Ground.chain }, { on := 0, ground := Ground.phase }, { on := 1, ground := Ground.phase }, { on := 2, ground := Ground.phase }, { on := 3, ground := Ground.phase }, { on := 4, ground := Ground.phase }, { on := 5, ground := Ground.phase }, { on := 6, ground := Ground.phase }, { on := 7, ground := Ground.phase }, { on := 8, ground := Ground.phase }, { on := 9, ground := Ground.phase }, { on := 10, ground := Ground.phase }, { on := 11, ground := Ground.phase }, { on := 12, ground := Ground.phase }, { on := 13, ground := Ground.phase }, { on := 14, ground := Ground.phase }], guard := none }) (v := ?_) rfl (by kernel_rfl) (by kernel_rfl) (by kernel_rfl) (fun _ _ _ h => h) (Or.inl ⟨by rfl, ?_⟩) hHeld ?_
      rotate_left
      · rintro w ⟨z0, z1⟩; go_simp; (try with_reducible rfl)
      try simp only [Act.put, List.setIfInBounds_toArray, List.set_cons_zero, List.set_cons_succ]
      refine wpAnyH_done (by kernel_rfl) ?_ _
      refine NoPanic.normal ?_
      clear hHeld x0 x1
      go_wp2
      go_ret
      exact ⟨true, rfl, ⟨fun _ => HV2.out, fun _ => rfl⟩, by first | exact hI.1 | exact hI.1.drew⟩
    · have HV2 : Hid (¬ VerL macB key (n : Int) c text) := fun h => hE (HV.out.1 h).2
      have dE : (z.toList == c.toList) = false := beqF hE
      clear HV hE
      go_wp2
      refine wp_region_noPanic ?_
      refine wp_region_held_drew (S := fun u => u.cell? ⟨w.heap.size, 0, none⟩ = some (.int .i64 (n : Int)) ∧ u.cell? ⟨w.heap.size, 1, none⟩ = some (.string c)) (by kernel_rfl) ⟨x0, x1⟩ (fun hHeld => ?_)
      refine wpAnyH_take (i := 0) (oi := { dst := some 31, op := Op.move (Operand.tmp 7), type := 23, pos := "l05_log.go:92", after := #[], guard := none }) (v := ?_) rfl (by kernel_rfl) (by kernel_rfl) (by kernel_rfl) (fun _ _ _ h => h) (Or.inl ⟨by rfl, ?_⟩) hHeld ?_
      rotate_left
      · rintro w ⟨z0, z1⟩; go_simp; (try with_reducible rfl)
      try simp only [Act.put, List.setIfInBounds_toArray, List.set_cons_zero, List.set_cons_succ]
      refine wpAnyH_take (i := 1) (oi := { dst := some 32, op := Op.call { callee := Callee.builtin Builtin.len, args := #[Operand.tmp 31], argTypes := #[23] }, type := 3, pos := "l05_log.go:92", after := #[{ on := 0, ground := Ground.data }], guard := none }) (v := ?_) rfl (by kernel_rfl) (by kernel_rfl) (by kernel_rfl) (fun _ _ _ h => h) (Or.inl ⟨by rfl, ?_⟩) hHeld ?_
      rotate_left
      · rintro w ⟨z0, z1⟩; go_simp; (try with_reducible rfl)
      try simp only [Act.put, List.setIfInBounds_toArray, List.set_cons_zero, List.set_cons_succ]
      refine wpAnyH_take (i := 2) (oi := { dst := some 33, op := Op.fieldAddr 41 (Operand.tmp 4) 0, type := 0, pos := "l05_log.go:92", after := #[], guard := none }) (v := ?_) rfl (by kernel_rfl) (by kernel_rfl) (by kernel_rfl) (fun _ _ _ h => h) (Or.inl ⟨by rfl, ?_⟩) hHeld ?_
      rotate_left
      · rintro w ⟨z0, z1⟩; go_simp; (try with_reducible rfl)
      try simp only [Act.put, List.setIfInBounds_toArray, List.set_cons_zero, List.set_cons_succ]
      refine wpAnyH_take (i := 3) (oi := { dst := some 34, op := Op.load 2 (Operand.tmp 33), type := 2, pos := "l05_log.go:92", after := #[{ on := 2, ground := Ground.data }], guard := none }) (v := ?_) rfl (by kernel_rfl) (by kernel_rfl) (by kernel_rfl) (fun _ _ _ h => h) (Or.inl ⟨by rfl, ?_⟩) hHeld ?_
      rotate_left
      · rintro w ⟨z0, z1⟩; go_simp; (try with_reducible rfl)
      try simp only [Act.put, List.setIfInBounds_toArray, List.set_cons_zero, List.set_cons_succ]
      refine wpAnyH_take (i := 4) (oi := { dst := some 35, op := Op.binOp BinOp.geq 2 (Operand.tmp 32) (Operand.tmp 34) 2, type := 4, pos := "l05_log.go:92", after := #[{ on := 1, ground := Ground.data }, { on := 3, ground := Ground.data }], guard := none }) (v := .bool true) rfl (by kernel_rfl) (by kernel_rfl) (by kernel_rfl) (fun _ _ _ h => h) (Or.inl ⟨by rfl, ?_⟩) hHeld ?_
      · rintro w ⟨z0, z1⟩; go_simp; (try with_reducible rfl)
      try simp only [Act.put, List.setIfInBounds_toArray, List.set_cons_zero, List.set_cons_succ]
      refine wpAnyH_take (i := 5) (oi := { dst := some 36, op := Op.move (Operand.tmp 35), type := 4, pos := "l05_log.go:92", after := #[{ on := 4, ground := Ground.data }], guard := none }) (v := ?_) rfl (by kernel_rfl) (by kernel_rfl) (by kernel_rfl) (fun _ _ _ h => h) (Or.inl ⟨by rfl, ?_⟩) hHeld ?_
      rotate_left
      · rintro w ⟨z0, z1⟩; go_simp; (try with_reducible rfl)
      try simp only [Act.put, List.setIfInBounds_toArray, List.set_cons_zero, List.set_cons_succ]
      refine wpAnyH_take (i := 6) (oi := { dst := some 37, op := Op.move (Operand.tmp 0), type := 9, pos := "l05_log.go:92", after := #[{ on := 5, ground := Ground.guard }], guard := some (5, true) }) (v := ?_) rfl (by kernel_rfl) (by kernel_rfl) (by kernel_rfl) (fun _ _ _ h => h) (Or.inl ⟨by rfl, ?_⟩) hHeld ?_
      rotate_left
      · rintro w ⟨z0, z1⟩; go_simp; (try with_reducible rfl)
      try simp only [Act.put, List.setIfInBounds_toArray, List.set_cons_zero, List.set_cons_succ]
      refine wpAnyH_take (i := 7) (oi := { dst := some 38, op := Op.move (Operand.tmp 7), type := 23, pos := "l05_log.go:92", after := #[{ on := 5, ground := Ground.guard }], guard := some (5, true) }) (v := ?_) rfl (by kernel_rfl) (by kernel_rfl) (by kernel_rfl) (fun _ _ _ h => h) (Or.inl ⟨by rfl, ?_⟩) hHeld ?_
      rotate_left
      · rintro w ⟨z0, z1⟩; go_simp; (try with_reducible rfl)
      try simp only [Act.put, List.setIfInBounds_toArray, List.set_cons_zero, List.set_cons_succ]
      refine wpAnyH_take (i := 8) (oi := { dst := some 39, op := Op.fieldAddr 41 (Operand.tmp 4) 0, type := 0, pos := "l05_log.go:92", after := #[{ on := 5, ground := Ground.guard }], guard := some (5, true) }) (v := ?_) rfl (by kernel_rfl) (by kernel_rfl) (by kernel_rfl) (fun _ _ _ h => h) (Or.inl ⟨by rfl, ?_⟩) hHeld ?_
      rotate_left
      · rintro w ⟨z0, z1⟩; go_simp; (try with_reducible rfl)
      try simp only [Act.put, List.setIfInBounds_toArray, List.set_cons_zero, List.set_cons_succ]
      refine wpAnyH_take (i := 9) (oi := { dst := some 40, op := Op.load 2 (Operand.tmp 39), type := 2, pos := "l05_log.go:92", after := #[{ on := 8, ground := Ground.data }, { on := 5, ground := Ground.guard }], guard := some (5, true) }) (v := ?_) rfl (by kernel_rfl) (by kernel_rfl) (by kernel_rfl) (fun _ _ _ h => h) (Or.inl ⟨by rfl, ?_⟩) hHeld ?_
      rotate_left
      · rintro w ⟨z0, z1⟩; go_simp; (try with_reducible rfl)
      try simp only [Act.put, List.setIfInBounds_toArray, List.set_cons_zero, List.set_cons_succ]
      refine wpAnyH_take (i := 11) (oi := { dst := some 42, op := Op.fieldAddr 41 (Operand.tmp 4) 1, type := 0, pos := "l05_log.go:92", after := #[{ on := 5, ground := Ground.guard }], guard := some (5, true) }) (v := ?_) rfl (by kernel_rfl) (by kernel_rfl) (by kernel_rfl) (fun _ _ _ h => h) (Or.inl ⟨by rfl, ?_⟩) hHeld ?_
      rotate_left
      · rintro w ⟨z0, z1⟩; go_simp; (try with_reducible rfl)
      try simp only [Act.put, List.setIfInBounds_toArray, List.set_cons_zero, List.set_cons_succ]
      refine wpAnyH_take (i := 12) (oi := { dst := some 43, op := Op.load 9 (Operand.tmp 42), type := 9, pos := "l05_log.go:92", after := #[{ on := 11, ground := Ground.data }, { on := 5, ground := Ground.guard }], guard := some (5, true) }) (v := ?_) rfl (by kernel_rfl) (by kernel_rfl) (by kernel_rfl) (fun _ _ _ h => h) (Or.inl ⟨by rfl, ?_⟩) hHeld ?_
      rotate_left
      · rintro w ⟨z0, z1⟩; go_simp; (try with_reducible rfl)
      try simp only [Act.put, List.setIfInBounds_toArray, List.set_cons_zero, List.set_cons_succ]
      refine wpAnyH_ready (rs := [10]) (by kernel_rfl) (by simp) ?_
      refine AllReadyH.cons rfl (fun K hK => ?_) AllReadyH.nil
      go_simp
      go_at_call 57
      refine (HC2.out _ (by repeat (first | exact Below.refl _ _ | apply Below.drew))).mono ?_
      rintro r w2 ⟨rfl, hb2⟩
      replace hI := HIu.out _ _ (by repeat (first | exact Below.refl _ _ | apply Below.drew)) hb2
      clear hb2
      go_wp2_with fail
      refine hK.out _ _ hI.cells (fun hHeld => ?_)
      clear hK K
      try simp only [Act.put, List.setIfInBounds_toArray, List.set_cons_zero, List.set_cons_succ]
      refine wpAnyH_take (i := 13) (oi := { dst := some 44, op := Op.binOp BinOp.eql 9 (Operand.tmp 41) (Operand.tmp 43) 9, type := 4, pos := "l05_log.go:92", after := #[{ on := 10, ground := Ground.data }, { on := 12, ground := Ground.data }, { on := 5, ground := Ground.guard }], guard := some (5, true) }) (v := .bool false) rfl (by kernel_rfl) (by kernel_rfl) (by kernel_rfl) (fun _ _ _ h => h) (Or.inl ⟨by rfl, ?_⟩) hHeld ?_
      · rintro w ⟨z0, z1⟩; go_simp; (try with_reducible rfl)
      try simp only [Act.put, List.setIfInBounds_toArray, List.set_cons_zero, List.set_cons_succ]
      refine wpAnyH_take (i := 14) (oi := { dst := some 45, op := Op.pick (Operand.tmp 36) (Operand.tmp 44) (Operand.const (Value.bool false)), type := 4, pos := "l05_log.go:92", after := #[{ on := 5, ground := Ground.data }, { on := 13, ground := Ground.data }], guard := none }) (v := .bool false) rfl (by kernel_rfl) (by kernel_rfl) (by kernel_rfl) (fun _ _ _ h => h) (Or.inl ⟨by rfl, ?_⟩) hHeld ?_
      · rintro w ⟨z0, z1⟩; go_simp; (try with_reducible rfl)
      try simp only [Act.put, List.setIfInBounds_toArray, List.set_cons_zero, List.set_cons_succ]
      refine wpAnyH_take (i := 15) (oi := { dst := some 6, op := Op.assign (Operand.tmp 45), type := 4, pos := "l05_log.go:92", after := #[{ on := 14, ground := Ground.data }, { on := 10, ground := Ground.chain }, { on := 0, ground := Ground.phase }, { on := 1, ground := Ground.phase }, { on := 2, ground := Ground.phase }, { on := 3, ground := Ground.phase }, { on := 4, ground := Ground.phase }, { on := 5, ground := Ground.phase }, { on := 6, ground := Ground.phase }, { on := 7, ground := Ground.phase }, { on := 8, ground := Ground.phase }, { on := 9, ground := Ground.phase }, { on := 10, ground := Ground.phase }, { on := 11, ground := Ground.phase }, { on := 12, ground := Ground.phase }, { on := 13, ground := Ground.phase }, { on := 14, ground := Ground.phase }], guard := none }) (v := ?_) rfl (by kernel_rfl) (by kernel_rfl) (by kernel_rfl) (fun _ _ _ h => h) (Or.inl ⟨by rfl, ?_⟩) hHeld ?_
      rotate_left
      · rintro w ⟨z0, z1⟩; go_simp; (try with_reducible rfl)
      try simp only [Act.put, List.setIfInBounds_toArray, List.set_cons_zero, List.set_cons_succ]
      refine wpAnyH_done (by kernel_rfl) ?_ _
      refine NoPanic.normal ?_
      clear hHeld x0 x1
      go_wp2
      go_ret
      exact ⟨false, rfl, ⟨fun h => by simp at h, fun h => absurd h HV2.out⟩, by first | exact hI.1 | exact hI.1.drew⟩
  · have dn : decide ((n : Int) ≤ (l.length : Int)) = false := decide_eq_false (by omega)
    have HV2 : Hid (¬ VerL macB key (n : Int) c text) := fun h => hnl (HV.out.1 h).1
    clear HV HCh HSl
    go_wp2
    refine wp_region_noPanic ?_
    refine wp_region_held_drew (S := fun u => u.cell? ⟨w.heap.size, 0, none⟩ = some (.int .i64 (n : Int)) ∧ u.cell? ⟨w.heap.size, 1, none⟩ = some (.string c)) (by kernel_rfl) ⟨x0, x1⟩ (fun hHeld => ?_)
    refine wpAnyH_take (i := 0) (oi := { dst := some 31, op := Op.move (Operand.tmp 7), type := 23, pos := "l05_log.go:92", after := #[], guard := none }) (v := ?_) rfl (by kernel_rfl) (by kernel_rfl) (by kernel_rfl) (fun _ _ _ h => h) (Or.inl ⟨by rfl, ?_⟩) hHeld ?_
    rotate_left
    · rintro w ⟨z0, z1⟩; go_simp; (try with_reducible rfl)
    try simp only [Act.put, List.setIfInBounds_toArray, List.set_cons_zero, List.set_cons_succ]
    refine wpAnyH_take (i := 1) (oi := { dst := some 32, op := Op.call { callee := Callee.builtin Builtin.len, args := #[Operand.tmp 31], argTypes := #[23] }, type := 3, pos := "l05_log.go:92", after := #[{ on := 0, ground := Ground.data }], guard := none }) (v := ?_) rfl (by kernel_rfl) (by kernel_rfl) (by kernel_rfl) (fun _ _ _ h => h) (Or.inl ⟨by rfl, ?_⟩) hHeld ?_
    rotate_left
    · rintro w ⟨z0, z1⟩; go_simp; (try with_reducible rfl)
    try simp only [Act.put, List.setIfInBounds_toArray, List.set_cons_zero, List.set_cons_succ]
    refine wpAnyH_take (i := 2) (oi := { dst := some 33, op := Op.fieldAddr 41 (Operand.tmp 4) 0, type := 0, pos := "l05_log.go:92", after := #[], guard := none }) (v := ?_) rfl (by kernel_rfl) (by kernel_rfl) (by kernel_rfl) (fun _ _ _ h => h) (Or.inl ⟨by rfl, ?_⟩) hHeld ?_
    rotate_left
    · rintro w ⟨z0, z1⟩; go_simp; (try with_reducible rfl)
    try simp only [Act.put, List.setIfInBounds_toArray, List.set_cons_zero, List.set_cons_succ]
    refine wpAnyH_take (i := 3) (oi := { dst := some 34, op := Op.load 2 (Operand.tmp 33), type := 2, pos := "l05_log.go:92", after := #[{ on := 2, ground := Ground.data }], guard := none }) (v := ?_) rfl (by kernel_rfl) (by kernel_rfl) (by kernel_rfl) (fun _ _ _ h => h) (Or.inl ⟨by rfl, ?_⟩) hHeld ?_
    rotate_left
    · rintro w ⟨z0, z1⟩; go_simp; (try with_reducible rfl)
    try simp only [Act.put, List.setIfInBounds_toArray, List.set_cons_zero, List.set_cons_succ]
    refine wpAnyH_take (i := 4) (oi := { dst := some 35, op := Op.binOp BinOp.geq 2 (Operand.tmp 32) (Operand.tmp 34) 2, type := 4, pos := "l05_log.go:92", after := #[{ on := 1, ground := Ground.data }, { on := 3, ground := Ground.data }], guard := none }) (v := .bool false) rfl (by kernel_rfl) (by kernel_rfl) (by kernel_rfl) (fun _ _ _ h => h) (Or.inl ⟨by rfl, ?_⟩) hHeld ?_
    · rintro w ⟨z0, z1⟩; go_simp; (try with_reducible rfl)
    try simp only [Act.put, List.setIfInBounds_toArray, List.set_cons_zero, List.set_cons_succ]
    refine wpAnyH_take (i := 5) (oi := { dst := some 36, op := Op.move (Operand.tmp 35), type := 4, pos := "l05_log.go:92", after := #[{ on := 4, ground := Ground.data }], guard := none }) (v := ?_) rfl (by kernel_rfl) (by kernel_rfl) (by kernel_rfl) (fun _ _ _ h => h) (Or.inl ⟨by rfl, ?_⟩) hHeld ?_
    rotate_left
    · rintro w ⟨z0, z1⟩; go_simp; (try with_reducible rfl)
    try simp only [Act.put, List.setIfInBounds_toArray, List.set_cons_zero, List.set_cons_succ]
    refine wpAnyH_take (i := 6) (oi := { dst := some 37, op := Op.move (Operand.tmp 0), type := 9, pos := "l05_log.go:92", after := #[{ on := 5, ground := Ground.guard }], guard := some (5, true) }) (v := undef) rfl (by kernel_rfl) (by kernel_rfl) (by kernel_rfl) (fun _ _ _ h => h) (Or.inr ⟨by rfl, rfl⟩) hHeld ?_
    try simp only [Act.put, List.setIfInBounds_toArray, List.set_cons_zero, List.set_cons_succ]
    refine wpAnyH_take (i := 7) (oi := { dst := some 38, op := Op.move (Operand.tmp 7), type := 23, pos := "l05_log.go:92", after := #[{ on := 5, ground := Ground.guard }], guard := some (5, true) }) (v := undef) rfl (by kernel_rfl) (by kernel_rfl) (by kernel_rfl) (fun _ _ _ h => h) (Or.inr ⟨by rfl, rfl⟩) hHeld ?_
    try simp only [Act.put, List.setIfInBounds_toArray, List.set_cons_zero, List.set_cons_succ]
    refine wpAnyH_take (i := 8) (oi := { dst := some 39, op := Op.fieldAddr 41 (Operand.tmp 4) 0, type := 0, pos := "l05_log.go:92", after := #[{ on := 5, ground := Ground.guard }], guard := some (5, true) }) (v := undef) rfl (by kernel_rfl) (by kernel_rfl) (by kernel_rfl) (fun _ _ _ h => h) (Or.inr ⟨by rfl, rfl⟩) hHeld ?_
    try simp only [Act.put, List.setIfInBounds_toArray, List.set_cons_zero, List.set_cons_succ]
    refine wpAnyH_take (i := 9) (oi := { dst := some 40, op := Op.load 2 (Operand.tmp 39), type := 2, pos := "l05_log.go:92", after := #[{ on := 8, ground := Ground.data }, { on := 5, ground := Ground.guard }], guard := some (5, true) }) (v := undef) rfl (by kernel_rfl) (by kernel_rfl) (by kernel_rfl) (fun _ _ _ h => h) (Or.inr ⟨by rfl, rfl⟩) hHeld ?_
    try simp only [Act.put, List.setIfInBounds_toArray, List.set_cons_zero, List.set_cons_succ]
    refine wpAnyH_take (i := 10) (oi := { dst := some 41, op := Op.call { callee := Callee.value (Operand.func 57), args := #[Operand.tmp 37, Operand.tmp 38, Operand.tmp 40], argTypes := #[9, 23, 2] }, type := 9, pos := "l05_log.go:92", after := #[{ on := 6, ground := Ground.data }, { on := 7, ground := Ground.data }, { on := 9, ground := Ground.data }, { on := 5, ground := Ground.chain }, { on := 5, ground := Ground.guard }], guard := some (5, true) }) (v := undef) rfl (by kernel_rfl) (by kernel_rfl) (by kernel_rfl) (fun _ _ _ h => h) (Or.inr ⟨by rfl, rfl⟩) hHeld ?_
    try simp only [Act.put, List.setIfInBounds_toArray, List.set_cons_zero, List.set_cons_succ]
    refine wpAnyH_take (i := 11) (oi := { dst := some 42, op := Op.fieldAddr 41 (Operand.tmp 4) 1, type := 0, pos := "l05_log.go:92", after := #[{ on := 5, ground := Ground.guard }], guard := some (5, true) }) (v := undef) rfl (by kernel_rfl) (by kernel_rfl) (by kernel_rfl) (fun _ _ _ h => h) (Or.inr ⟨by rfl, rfl⟩) hHeld ?_
    try simp only [Act.put, List.setIfInBounds_toArray, List.set_cons_zero, List.set_cons_succ]
    refine wpAnyH_take (i := 12) (oi := { dst := some 43, op := Op.load 9 (Operand.tmp 42), type := 9, pos := "l05_log.go:92", after := #[{ on := 11, ground := Ground.data }, { on := 5, ground := Ground.guard }], guard := some (5, true) }) (v := undef) rfl (by kernel_rfl) (by kernel_rfl) (by kernel_rfl) (fun _ _ _ h => h) (Or.inr ⟨by rfl, rfl⟩) hHeld ?_
    try simp only [Act.put, List.setIfInBounds_toArray, List.set_cons_zero, List.set_cons_succ]
    refine wpAnyH_take (i := 13) (oi := { dst := some 44, op := Op.binOp BinOp.eql 9 (Operand.tmp 41) (Operand.tmp 43) 9, type := 4, pos := "l05_log.go:92", after := #[{ on := 10, ground := Ground.data }, { on := 12, ground := Ground.data }, { on := 5, ground := Ground.guard }], guard := some (5, true) }) (v := undef) rfl (by kernel_rfl) (by kernel_rfl) (by kernel_rfl) (fun _ _ _ h => h) (Or.inr ⟨by rfl, rfl⟩) hHeld ?_
    try simp only [Act.put, List.setIfInBounds_toArray, List.set_cons_zero, List.set_cons_succ]
    refine wpAnyH_take (i := 14) (oi := { dst := some 45, op := Op.pick (Operand.tmp 36) (Operand.tmp 44) (Operand.const (Value.bool false)), type := 4, pos := "l05_log.go:92", after := #[{ on := 5, ground := Ground.data }, { on := 13, ground := Ground.data }], guard := none }) (v := .bool false) rfl (by kernel_rfl) (by kernel_rfl) (by kernel_rfl) (fun _ _ _ h => h) (Or.inl ⟨by rfl, ?_⟩) hHeld ?_
    · rintro w ⟨z0, z1⟩; go_simp; (try with_reducible rfl)
    try simp only [Act.put, List.setIfInBounds_toArray, List.set_cons_zero, List.set_cons_succ]
    refine wpAnyH_take (i := 15) (oi := { dst := some 6, op := Op.assign (Operand.tmp 45), type := 4, pos := "l05_log.go:92", after := #[{ on := 14, ground := Ground.data }, { on := 10, ground := Ground.chain }, { on := 0, ground := Ground.phase }, { on := 1, ground := Ground.phase }, { on := 2, ground := Ground.phase }, { on := 3, ground := Ground.phase }, { on := 4, ground := Ground.phase }, { on := 5, ground := Ground.phase }, { on := 6, ground := Ground.phase }, { on := 7, ground := Ground.phase }, { on := 8, ground := Ground.phase }, { on := 9, ground := Ground.phase }, { on := 10, ground := Ground.phase }, { on := 11, ground := Ground.phase }, { on := 12, ground := Ground.phase }, { on := 13, ground := Ground.phase }, { on := 14, ground := Ground.phase }], guard := none }) (v := ?_) rfl (by kernel_rfl) (by kernel_rfl) (by kernel_rfl) (fun _ _ _ h => h) (Or.inl ⟨by rfl, ?_⟩) hHeld ?_
    rotate_left
    · rintro w ⟨z0, z1⟩; go_simp; (try with_reducible rfl)
    try simp only [Act.put, List.setIfInBounds_toArray, List.set_cons_zero, List.set_cons_succ]
    refine wpAnyH_done (by kernel_rfl) ?_ _
    refine NoPanic.normal ?_
    clear hHeld x0 x1
    go_wp2
    go_ret
    exact ⟨false, rfl, ⟨fun h => by simp at h, fun h => absurd h HV2.out⟩, by first | exact hI.1 | exact hI.1.drew⟩
set_option maxHeartbeats 8000000 in
theorem verM_no (key text c : ByteArray) (n : Int) (w : World) (hk : key.size ≤ maxLen) (ht : text.size ≤ maxLen) (h : ¬ ((KeyL key ∧ text.size ≤ 8000) ∧ (0 ≤ n ∧ n ≤ 60))) :
    Calls Tryd.prog 26 #[.string key, .agg #[.int .i64 n, .string c], .string text] w (VerPost w key n c text) := by
  have HV2 : Hid (∀ u, InV w n c u → VerPost w key n c text (.returned (.bool false)) u) := fun u hu => ⟨false, rfl, ⟨fun x => by simp at x, fun x => absurd ⟨x.1, x.2.1⟩ h⟩, hu.1⟩
  have hI := InV.start w n c
  by_cases h1 : 8000 < key.size
  · unfold maxLen at hk ht
    have d1 : decide (8000 < (key.size : Int)) = true := decide_eq_true (by omega)
    clear h
    go_enter Tryd.func26, Tryd.ntmps26
    go_wp2
    go_ret
    exact HV2.out _ hI
  · by_cases h2 : 8000 < text.size
    · unfold maxLen at hk ht
      have d1 : decide (8000 < (key.size : Int)) = false := decide_eq_false (by omega)
      have d2 : decide (8000 < (text.size : Int)) = true := decide_eq_true (by omega)
      clear h
      go_enter Tryd.func26, Tryd.ntmps26
      go_wp2
      go_ret
      exact HV2.out _ hI
    · have d1 : decide (8000 < (key.size : Int)) = false := decide_eq_false (by omega)
      have d2 : decide (8000 < (text.size : Int)) = false := decide_eq_false (by omega)
      by_cases h3 : KeyL key
      · have HK : Hid (∀ u, Calls Tryd.prog 47 #[.string key] u fun e w' => e = .returned (.bool true) ∧ w' = u) := fun u => keyM_yes key u h3
        have HI : Hid (∀ u, Calls Tryd.prog 56 #[.int .i64 n, .int .i64 0, .int .i64 60] u fun r w' => r = .returned (.bool false) ∧ w' = u) := fun u => by
          have := isM_any n 0 60 u
          rwa [decide_eq_false (fun x => h ⟨⟨h3, by omega⟩, x⟩)] at this
        unfold maxLen at hk ht
        clear h
        go_enter Tryd.func26, Tryd.ntmps26
        go_wp2_with (first | (go_at_call 47; (with_reducible refine (HK.out _).mono ?_); rintro r w' ⟨rfl, hw'⟩; obtain rfl := hw'.symm) | (go_at_call 56; (with_reducible refine (HI.out _).mono ?_); rintro r w' ⟨rfl, hw'⟩; obtain rfl := hw'.symm))
        go_ret
        exact HV2.out _ hI
      · have HK : Hid (∀ u, Calls Tryd.prog 47 #[.string key] u fun e w' => e = .returned (.bool false) ∧ w' = u) := fun u => keyM_no key u hk h3
        unfold maxLen at hk ht
        clear h
        go_enter Tryd.func26, Tryd.ntmps26
        go_wp2_with (go_at_call 47; (with_reducible refine (HK.out _).mono ?_); rintro r w' ⟨rfl, hw'⟩; obtain rfl := hw'.symm)
        go_ret
        exact HV2.out _ hI
theorem verM_any (key text c : ByteArray) (n : Int) (w : World) (hk : key.size ≤ maxLen) (ht : text.size ≤ maxLen) (hc : c.size ≤ maxLen) :
    Calls Tryd.prog 26 #[.string key, .agg #[.int .i64 n, .string c], .string text] w (VerPost w key n c text) := by
  by_cases h : (KeyL key ∧ text.size ≤ 8000) ∧ (0 ≤ n ∧ n ≤ 60)
  · obtain ⟨m, rfl⟩ : ∃ m : Nat, n = (m : Int) := ⟨n.toNat, by omega⟩
    exact verM_yes key text c m w h.1.1 h.1.2 (by omega) hc
  · exact verM_no key text c n w hk ht h
end Go.Proofs.YtcfekhahibklfaaDoor.lm
