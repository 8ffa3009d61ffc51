/-
  What is drawn for the laws on states: two states; a state and an update. No old block turns. No condition.
-/
import Derived.Test.YtmbeanimjmfddaaStDr2
namespace Go.Proofs.Ytmbeanimjmfddaa.sd
open Go.ChangeShapes Go.WideShapes Go.ChangeAt Go.RowKit
open Go.Proofs.Ytmbeanimjmfddaa.dr
open Go.Proofs.Ytmbeanimjmfddaa.dn
open Go.Proofs.Ytmbeanimjmfddaa.wi (heap_lt calls_w wp_w)
set_option linter.unusedVariables false

theorem results_cells_rows {P : Program} {fn : Func} {p q : Tmp} {t1 t2 : TypeId} (h : fn.results = #[.cell p t1, .cell q t2]) (tmps : Array Value) (w : World) (g1 g2 : Nat) (c1 c2 : Array Value) (d1 d2 : TypeDesc)
    (hp : tmps.getD p undef = .pointer (some ⟨g1, 0, none⟩)) (hq : tmps.getD q undef = .pointer (some ⟨g2, 0, none⟩)) (h1 : rw.At w g1 c1 t1) (h2 : rw.At w g2 c2 t2)
    (u1 : P.underlying t1 = some d1) (u2 : P.underlying t2 = some d2) (k1 : (match d1 with | .struct _ | .array _ _ => true | _ => false) = true) (k2 : (match d2 with | .struct _ | .array _ _ => true | _ => false) = true)
    (i1 : (P.info? t1).map (·.size) = some c1.size) (i2 : (P.info? t2).map (·.size) = some c2.size) :
    (results fn tmps).run P w = .ok (.tuple #[.agg c1, .agg c2]) w := by
  have hp' : tmps[p]?.getD undef = .pointer (some ⟨g1, 0, none⟩) := by simpa using hp
  have hq' : tmps[q]?.getD undef = .pointer (some ⟨g2, 0, none⟩) := by simpa using hq
  simp [results, h, hp', hq', asAddr, run_loadVar_row w g1 t1 t1 c1 (0, 0) d1 h1 u1 k1 i1, run_loadVar_row w g2 t2 t2 c2 (0, 0) d2 h2 u2 k2 i2]
/-- the answers' blocks, the source, the state that is drawn -/
structure InK (w w0 : World) (a : Option Addr) (len cap X : Nat) (m : Int) (x : ByteArray) (T2 : TypeId) (d : Prop) (c1 c2 : Array Value) (u : World) : Prop where
  src : d → At w0 a len cap u
  bel : Below w.heap.size w u
  r1 : rw.At u w.heap.size c1 24
  r2 : rw.At u (w.heap.size + 1) c2 T2
  loc : rw.At u X #[.int .i64 m, .string x] 24
  hw : w.heap.size + 1 < w0.heap.size
  hX : w0.heap.size < X
variable {w w0 u u' : World} {a : Option Addr} {len cap X : Nat} {m : Int} {x : ByteArray} {c1 c2 : Array Value} {T2 : TypeId} {d : Prop}
theorem InK.up (h : InK w w0 a len cap X m x T2 d c1 c2 u) (hb : Below u.heap.size u u') : InK w w0 a len cap X m x T2 d c1 c2 u' :=
  ⟨fun z => At.up (h.src z) hb, h.bel.trans (hb.mono h.bel.size), h.r1.up hb, h.r2.up hb, h.loc.up hb, h.hw, h.hX⟩
theorem InK.next (h : InK w w0 a len cap X m x T2 d c1 c2 u) (hA : At w0 a len cap u') (hg : u.grownBy u' (some w0.heap.size)) : InK w w0 a len cap X m x T2 d c1 c2 u' :=
  ⟨fun _ => hA, h.bel.trans (gbelow hg (by have := h.hw; omega) h.bel.size), at_gr h.r1 hg (by have := h.hw; omega), at_gr h.r2 hg (by have := h.hw; omega), at_gr h.loc hg (by have := h.hX; omega), h.hw, h.hX⟩
theorem InK.cells (h : InK w w0 a len cap X m x T2 d c1 c2 u) : u.cell? ⟨X, 0, none⟩ = some (.int .i64 m) ∧ u.cell? ⟨X, 1, none⟩ = some (.string x) := ⟨h.loc.cell 0, h.loc.cell 1⟩
theorem InK.set1 (h : InK w w0 a len cap X m x T2 d c1 c2 u) (k : Nat) (y : Value) : InK w w0 a len cap X m x T2 False (c1.setIfInBounds k y) c2 (u.setCell ⟨w.heap.size, k, none⟩ y) :=
  ⟨fun z => z.elim, h.bel.setCell (p := ⟨w.heap.size, k, none⟩) (by simp) y, h.r1.set k y, h.r2.far (by omega) k y, h.loc.far (by have := h.hw; have := h.hX; omega) k y, h.hw, h.hX⟩
theorem InK.set2 (h : InK w w0 a len cap X m x T2 d c1 c2 u) (k : Nat) (y : Value) : InK w w0 a len cap X m x T2 False c1 (c2.setIfInBounds k y) (u.setCell ⟨w.heap.size + 1, k, none⟩ y) :=
  ⟨fun z => z.elim, h.bel.setCell (p := ⟨w.heap.size + 1, k, none⟩) (by simp) y, h.r1.far (by omega) k y, h.r2.set k y, h.loc.far (by have := h.hw; have := h.hX; omega) k y, h.hw, h.hX⟩
theorem codes2 {c1 c2 : Array Value} {T1 T2 : TypeId} (hC : Codes w w.heap.size a len) : Codes ((w.alloc (.cells c1 T1)).alloc (.cells c2 T2)) ((w.alloc (.cells c1 T1)).alloc (.cells c2 T2)).heap.size a len :=
  codes_later hC (((Below.refl _ _).alloc (Nat.le_refl _) _).alloc (by simp) _)
theorem InK.of {W : World} {c2 : Array Value} (hW : W = (w.alloc (.cells #[.int .i64 0, .string ⟨#[]⟩] 24)).alloc (.cells c2 T2)) (hA : At W a len cap u) : InK w W a len cap u.heap.size m x T2 True #[.int .i64 0, .string ⟨#[]⟩] c2 (u.alloc (.cells #[.int .i64 m, .string x] 24)) := by
  have hs : W.heap.size = w.heap.size + 1 + 1 := by rw [hW]; simp
  have b1 : Below w.heap.size w W := by rw [hW]; exact ((Below.refl _ _).alloc (Nat.le_refl _) _).alloc (by simp) _
  have r1 : rw.At W w.heap.size #[.int .i64 0, .string ⟨#[]⟩] 24 := by rw [hW]; exact (rw.At.new _ _ _).up (rw.up_alloc _ _)
  have r2 : rw.At W (w.heap.size + 1) c2 T2 := by
    have := rw.At.new (w.alloc (.cells #[.int .i64 0, .string ⟨#[]⟩] 24)) c2 T2
    rw [World.size_alloc, ← hW] at this; exact this
  have hb := hA.2.1
  have hb2 : Below w.heap.size w u := b1.trans (hb.mono b1.size)
  exact ⟨fun _ => At.alloc hA _, hb2.alloc hb2.size _, (r1.up hb).up (rw.up_alloc _ _), (r2.up hb).up (rw.up_alloc _ _), rw.At.new _ _ _, by omega, hA.1.lt⟩
set_option maxRecDepth 20000 in
set_option maxHeartbeats 8000000 in
theorem drawDeltaOf_any (a : Option Addr) (len cap : Nat) (w : World) (hC : Codes w w.heap.size a len) :
    Calls Try.prog 6 #[.slice a len cap] w fun e w' => ∃ (m : Int) (x : ByteArray) (n : Int) (b : ByteArray), e = .returned (.tuple #[.agg #[.int .i64 m, .string x], .agg #[.int .i64 n, .string b]]) ∧ (-1 ≤ m ∧ m ≤ 1000001) ∧ x.size ≤ 401 ∧ (-1 ≤ n ∧ n ≤ 1000001) ∧ b.size ≤ 401 ∧ Below w.heap.size w w' := by
  obtain ⟨W, hW⟩ : ∃ W, W = (w.alloc (.cells #[.int .i64 0, .string ⟨#[]⟩] 24)).alloc (.cells #[.int .i64 0, .string ⟨#[]⟩] 24) := ⟨_, rfl⟩
  have hC2 := codes2 (c1 := #[.int .i64 0, .string ⟨#[]⟩]) (c2 := #[.int .i64 0, .string ⟨#[]⟩]) (T1 := 24) (T2 := 24) hC
  rw [← hW] at hC2
  clear hC
  go_enter Try.func6, Try.ntmps6
  go_wp2_with fail
  rw [← hW]
  have HW : Hid _ := hW
  clear hW
  refine (source_at a len cap W hC2).mono ?_
  rintro e w1 ⟨rfl, hA1⟩
  go_wp2_with (go_at_call 36; fail)
  refine (state_at hA1).mono ?_
  rintro e w2 ⟨m, x, rfl, hm1, hm2, hx, hA2, hg2⟩
  clear hA1 hg2 hC2
  have i0 : InK w W a len cap w2.heap.size m x 24 True _ _ _ := InK.of HW.out hA2
  obtain ⟨X, hX⟩ : ∃ X, X = w2.heap.size := ⟨_, rfl⟩
  rw [← hX] at i0
  clear hA2 HW
  go_wp2_with fail
  rw [← hX]
  clear hX
  have HS : Hid (∀ (u : World) {d : Prop} {c1 c2 : Array Value}, InK w W a len cap X m x 24 d c1 c2 u → (u.cell? ⟨X, 0, none⟩ = some (.int .i64 m) ∧ u.cell? ⟨X, 1, none⟩ = some (.string x))) := fun u _ _ _ h => h.cells
  refine wp_region_noPanic ?_
  refine wp_region_held_drew (S := fun u => u.cell? ⟨X, 0, none⟩ = some (.int .i64 m) ∧ u.cell? ⟨X, 1, none⟩ = some (.string x)) (by kernel_rfl) (HS.out _ (i0.up (rw.up_drew _))) (fun _ => ?_)
  refine rw.region_w (fun u => InK w W a len cap X m x 24 True #[.int .i64 0, .string ⟨#[]⟩] #[.int .i64 0, .string ⟨#[]⟩] u) (i0.up (rw.up_drew _)) ?_
  clear i0
  intro u i
  have hHeld : (u.cell? ⟨X, 0, none⟩ = some (.int .i64 m) ∧ u.cell? ⟨X, 1, none⟩ = some (.string x)) := HS.out u i
  refine wpAnyH_take (i := 0) (oi := { dst := some 10, op := Op.load 24 (Operand.tmp 5), type := 24, pos := "l07_sync.go:148", after := #[], guard := none }) (v := ?_) rfl (by kernel_rfl) (by kernel_rfl) (by kernel_rfl) (fun _ _ _ h => h) (Or.inl ⟨by rfl, ?_⟩) hHeld ?_
  rotate_left
  · rintro w ⟨z0, z1⟩; go_simp; (try with_reducible rfl)
  try simp only [Act.put, List.setIfInBounds_toArray, List.set_cons_zero, List.set_cons_succ]
  refine wpAnyH_take (i := 1) (oi := { dst := some 11, op := Op.move (Operand.tmp 4), type := 66, pos := "l07_sync.go:148", after := #[], guard := none }) (v := ?_) rfl (by kernel_rfl) (by kernel_rfl) (by kernel_rfl) (fun _ _ _ h => h) (Or.inl ⟨by rfl, ?_⟩) hHeld ?_
  rotate_left
  · rintro w ⟨z0, z1⟩; go_simp; (try with_reducible rfl)
  try simp only [Act.put, List.setIfInBounds_toArray, List.set_cons_zero, List.set_cons_succ]
  refine wpAnyH_ready (rs := [2]) (by kernel_rfl) (by simp) ?_
  refine AllReadyH.cons rfl (fun K hK => ?_) AllReadyH.nil
  go_simp
  go_at_call 36
  refine (state_at (i.src trivial)).mono ?_
  rintro r7 w7 ⟨n, b, rfl, hn1, hn2, hb, hA7, hg7⟩
  go_wp2_with fail
  refine hK.out _ _ (HS.out _ (i.next hA7 hg7)) (fun _ => ?_)
  clear hK K hHeld
  try simp only [Act.put, List.setIfInBounds_toArray, List.set_cons_zero, List.set_cons_succ]
  refine rw.region_w (fun u => InK w W a len cap X m x 24 True #[.int .i64 0, .string ⟨#[]⟩] #[.int .i64 0, .string ⟨#[]⟩] u) (i.next hA7 hg7) ?_
  clear i hA7 hg7
  intro u i
  have hHeld : (u.cell? ⟨X, 0, none⟩ = some (.int .i64 m) ∧ u.cell? ⟨X, 1, none⟩ = some (.string x)) := HS.out u i
  refine wpAnyH_ready (rs := [3]) (by kernel_rfl) (by simp) ?_
  refine AllReadyH.cons rfl (fun K hK => ?_) AllReadyH.nil
  have c0 := i.r1.cell 0
  have c1 := i.r1.cell 1
  have f0 := fun k => i.r1.frozen k
  go_simp
  refine hK.out _ _ (HS.out _ (((i.set1 0 (.int .i64 m)).set1 1 (.string x)))) (fun _ => ?_)
  clear hK K hHeld
  try simp only [Act.put, List.setIfInBounds_toArray, List.set_cons_zero, List.set_cons_succ]
  refine rw.region_w (fun u => InK w W a len cap X m x 24 False #[.int .i64 m, .string x] #[.int .i64 0, .string ⟨#[]⟩] u) (((i.set1 0 (.int .i64 m)).set1 1 (.string x))) ?_
  clear i c0 c1 f0
  intro u i
  have hHeld : (u.cell? ⟨X, 0, none⟩ = some (.int .i64 m) ∧ u.cell? ⟨X, 1, none⟩ = some (.string x)) := HS.out u i
  refine wpAnyH_ready (rs := [4]) (by kernel_rfl) (by simp) ?_
  refine AllReadyH.cons rfl (fun K hK => ?_) AllReadyH.nil
  have c0 := i.r2.cell 0
  have c1 := i.r2.cell 1
  have f0 := fun k => i.r2.frozen k
  go_simp
  refine hK.out _ _ (HS.out _ (((i.set2 0 (.int .i64 n)).set2 1 (.string b)))) (fun _ => ?_)
  clear hK K hHeld
  try simp only [Act.put, List.setIfInBounds_toArray, List.set_cons_zero, List.set_cons_succ]
  refine rw.region_w (fun u => InK w W a len cap X m x 24 False #[.int .i64 m, .string x] #[.int .i64 n, .string b] u) (((i.set2 0 (.int .i64 n)).set2 1 (.string b))) ?_
  clear i c0 c1 f0
  intro u i
  have hHeld : (u.cell? ⟨X, 0, none⟩ = some (.int .i64 m) ∧ u.cell? ⟨X, 1, none⟩ = some (.string x)) := HS.out u i
  refine wpAnyH_done (by kernel_rfl) ?_ _
  refine NoPanic.normal ?_
  clear HS hHeld
  go_wp2
  exact bodyPost_ret (results_cells_rows Try.results6 _ _ w.heap.size (w.heap.size + 1) _ _ _ _ rfl rfl i.r1 i.r2 Try.underlying24 Try.underlying24 rfl rfl infoSt infoSt) rfl ⟨_, _, _, _, rfl, ⟨hm1, hm2⟩, hx, ⟨hn1, hn2⟩, hb, i.bel⟩
set_option maxRecDepth 20000 in
set_option maxHeartbeats 8000000 in
theorem drawDeltaOn_any (a : Option Addr) (len cap : Nat) (w : World) (hC : Codes w w.heap.size a len) :
    Calls Try.prog 8 #[.slice a len cap] w fun e w' => ∃ (m : Int) (x : ByteArray) (f to k : Int) (tl : ByteArray), e = .returned (.tuple #[.agg #[.int .i64 m, .string x], .agg #[.int .i64 f, .int .i64 to, .int .i64 k, .string tl]]) ∧ (-1 ≤ m ∧ m ≤ 1000001) ∧ x.size ≤ 401 ∧ tl.size ≤ 401 ∧ Below w.heap.size w w' := by
  obtain ⟨W, hW⟩ : ∃ W, W = (w.alloc (.cells #[.int .i64 0, .string ⟨#[]⟩] 24)).alloc (.cells #[.int .i64 0, .int .i64 0, .int .i64 0, .string ⟨#[]⟩] 28) := ⟨_, rfl⟩
  have hC2 := codes2 (c1 := #[.int .i64 0, .string ⟨#[]⟩]) (c2 := #[.int .i64 0, .int .i64 0, .int .i64 0, .string ⟨#[]⟩]) (T1 := 24) (T2 := 28) hC
  rw [← hW] at hC2
  clear hC
  go_enter Try.func8, Try.ntmps8
  go_wp2_with fail
  rw [← hW]
  have HW : Hid _ := hW
  clear hW
  refine (source_at a len cap W hC2).mono ?_
  rintro e w1 ⟨rfl, hA1⟩
  go_wp2_with (go_at_call 36; fail)
  refine (state_at hA1).mono ?_
  rintro e w2 ⟨m, x, rfl, hm1, hm2, hx, hA2, hg2⟩
  clear hA1 hg2 hC2
  have i0 : InK w W a len cap w2.heap.size m x 28 True _ _ _ := InK.of HW.out hA2
  obtain ⟨X, hX⟩ : ∃ X, X = w2.heap.size := ⟨_, rfl⟩
  rw [← hX] at i0
  clear hA2 HW
  go_wp2_with fail
  rw [← hX]
  clear hX
  have HS : Hid (∀ (u : World) {d : Prop} {c1 c2 : Array Value}, InK w W a len cap X m x 28 d c1 c2 u → (u.cell? ⟨X, 0, none⟩ = some (.int .i64 m) ∧ u.cell? ⟨X, 1, none⟩ = some (.string x))) := fun u _ _ _ h => h.cells
  refine wp_region_noPanic ?_
  refine wp_region_held_drew (S := fun u => u.cell? ⟨X, 0, none⟩ = some (.int .i64 m) ∧ u.cell? ⟨X, 1, none⟩ = some (.string x)) (by kernel_rfl) (HS.out _ (i0.up (rw.up_drew _))) (fun _ => ?_)
  refine rw.region_w (fun u => InK w W a len cap X m x 28 True #[.int .i64 0, .string ⟨#[]⟩] #[.int .i64 0, .int .i64 0, .int .i64 0, .string ⟨#[]⟩] u) (i0.up (rw.up_drew _)) ?_
  clear i0
  intro u i
  have hHeld : (u.cell? ⟨X, 0, none⟩ = some (.int .i64 m) ∧ u.cell? ⟨X, 1, none⟩ = some (.string x)) := HS.out u i
  refine wpAnyH_take (i := 0) (oi := { dst := some 10, op := Op.load 24 (Operand.tmp 5), type := 24, pos := "l07_sync.go:171", after := #[], guard := none }) (v := ?_) rfl (by kernel_rfl) (by kernel_rfl) (by kernel_rfl) (fun _ _ _ h => h) (Or.inl ⟨by rfl, ?_⟩) hHeld ?_
  rotate_left
  · rintro w ⟨z0, z1⟩; go_simp; (try with_reducible rfl)
  try simp only [Act.put, List.setIfInBounds_toArray, List.set_cons_zero, List.set_cons_succ]
  refine wpAnyH_take (i := 1) (oi := { dst := some 11, op := Op.move (Operand.tmp 4), type := 66, pos := "l07_sync.go:171", after := #[], guard := none }) (v := ?_) rfl (by kernel_rfl) (by kernel_rfl) (by kernel_rfl) (fun _ _ _ h => h) (Or.inl ⟨by rfl, ?_⟩) hHeld ?_
  rotate_left
  · rintro w ⟨z0, z1⟩; go_simp; (try with_reducible rfl)
  try simp only [Act.put, List.setIfInBounds_toArray, List.set_cons_zero, List.set_cons_succ]
  refine wpAnyH_take (i := 2) (oi := { dst := some 12, op := Op.load 24 (Operand.tmp 5), type := 24, pos := "l07_sync.go:171", after := #[], guard := none }) (v := ?_) rfl (by kernel_rfl) (by kernel_rfl) (by kernel_rfl) (fun _ _ _ h => h) (Or.inl ⟨by rfl, ?_⟩) hHeld ?_
  rotate_left
  · rintro w ⟨z0, z1⟩; go_simp; (try with_reducible rfl)
  try simp only [Act.put, List.setIfInBounds_toArray, List.set_cons_zero, List.set_cons_succ]
  refine wpAnyH_ready (rs := [3]) (by kernel_rfl) (by simp) ?_
  refine AllReadyH.cons rfl (fun K hK => ?_) AllReadyH.nil
  go_simp
  go_at_call 40
  refine (update_at (i.src trivial) m x ⟨hm1, hm2⟩ hx).mono ?_
  rintro r7 w7 ⟨f, to, k, tl, rfl, htl, hA7, hg7⟩
  go_wp2_with fail
  refine hK.out _ _ (HS.out _ (i.next hA7 hg7)) (fun _ => ?_)
  clear hK K hHeld
  try simp only [Act.put, List.setIfInBounds_toArray, List.set_cons_zero, List.set_cons_succ]
  refine rw.region_w (fun u => InK w W a len cap X m x 28 True #[.int .i64 0, .string ⟨#[]⟩] #[.int .i64 0, .int .i64 0, .int .i64 0, .string ⟨#[]⟩] u) (i.next hA7 hg7) ?_
  clear i hA7 hg7
  intro u i
  have hHeld : (u.cell? ⟨X, 0, none⟩ = some (.int .i64 m) ∧ u.cell? ⟨X, 1, none⟩ = some (.string x)) := HS.out u i
  refine wpAnyH_ready (rs := [4]) (by kernel_rfl) (by simp) ?_
  refine AllReadyH.cons rfl (fun K hK => ?_) AllReadyH.nil
  have c0 := i.r1.cell 0
  have c1 := i.r1.cell 1
  have f0 := fun k => i.r1.frozen k
  go_simp
  refine hK.out _ _ (HS.out _ (((i.set1 0 (.int .i64 m)).set1 1 (.string x)))) (fun _ => ?_)
  clear hK K hHeld
  try simp only [Act.put, List.setIfInBounds_toArray, List.set_cons_zero, List.set_cons_succ]
  refine rw.region_w (fun u => InK w W a len cap X m x 28 False #[.int .i64 m, .string x] #[.int .i64 0, .int .i64 0, .int .i64 0, .string ⟨#[]⟩] u) (((i.set1 0 (.int .i64 m)).set1 1 (.string x))) ?_
  clear i c0 c1 f0
  intro u i
  have hHeld : (u.cell? ⟨X, 0, none⟩ = some (.int .i64 m) ∧ u.cell? ⟨X, 1, none⟩ = some (.string x)) := HS.out u i
  refine wpAnyH_ready (rs := [5]) (by kernel_rfl) (by simp) ?_
  refine AllReadyH.cons rfl (fun K hK => ?_) AllReadyH.nil
  have c0 := i.r2.cell 0
  have c1 := i.r2.cell 1
  have c2 := i.r2.cell 2
  have c3 := i.r2.cell 3
  have f0 := fun k => i.r2.frozen k
  go_simp
  refine hK.out _ _ (HS.out _ (((((i.set2 0 (.int .i64 f)).set2 1 (.int .i64 to)).set2 2 (.int .i64 k)).set2 3 (.string tl)))) (fun _ => ?_)
  clear hK K hHeld
  try simp only [Act.put, List.setIfInBounds_toArray, List.set_cons_zero, List.set_cons_succ]
  refine rw.region_w (fun u => InK w W a len cap X m x 28 False #[.int .i64 m, .string x] #[.int .i64 f, .int .i64 to, .int .i64 k, .string tl] u) (((((i.set2 0 (.int .i64 f)).set2 1 (.int .i64 to)).set2 2 (.int .i64 k)).set2 3 (.string tl))) ?_
  clear i c0 c1 c2 c3 f0
  intro u i
  have hHeld : (u.cell? ⟨X, 0, none⟩ = some (.int .i64 m) ∧ u.cell? ⟨X, 1, none⟩ = some (.string x)) := HS.out u i
  refine wpAnyH_done (by kernel_rfl) ?_ _
  refine NoPanic.normal ?_
  clear HS hHeld
  go_wp2
  exact bodyPost_ret (results_cells_rows Try.results8 _ _ w.heap.size (w.heap.size + 1) _ _ _ _ rfl rfl i.r1 i.r2 Try.underlying24 Try.underlying28 rfl rfl infoSt infoUp) rfl ⟨_, _, _, _, _, _, rfl, ⟨hm1, hm2⟩, hx, htl, i.bel⟩
end Go.Proofs.Ytmbeanimjmfddaa.sd
