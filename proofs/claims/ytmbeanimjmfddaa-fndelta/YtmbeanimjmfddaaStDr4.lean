/-
  What is drawn for the laws on states: a receiver and an update. No old block turns. No condition.
-/
import Derived.Test.YtmbeanimjmfddaaStDr3
namespace Go.Proofs.Ytmbeanimjmfddaa.sd
open Go.ChangeShapes Go.WideShapes Go.ChangeAt Go.RowKit
open Go.Proofs.Ytmbeanimjmfddaa.dr
open Go.Proofs.Ytmbeanimjmfddaa.dn
open Go.Proofs.Ytmbeanimjmfddaa.wi (heap_lt calls_w wp_w)
set_option linter.unusedVariables false

theorem infoRc : (Try.prog.info? 33).map (·.size) = some 2 := by kernel_rfl
structure InR (w : World) (X Y : Nat) (m : Int) (x : ByteArray) (f to k : Int) (tl : ByteArray) (c1 c2 : Array Value) (u : World) : Prop where
  bel : Below w.heap.size w u
  r1 : rw.At u w.heap.size c1 33
  r2 : rw.At u (w.heap.size + 1) c2 28
  lx : rw.At u X #[.int .i64 m, .string x] 24
  ly : rw.At u Y #[.int .i64 f, .int .i64 to, .int .i64 k, .string tl] 28
  hX : w.heap.size + 1 < X
  hY : w.heap.size + 1 < Y
variable {w u u' : World} {X Y : Nat} {m : Int} {x : ByteArray} {f to k : Int} {tl : ByteArray} {c1 c2 : Array Value}
theorem InR.up (h : InR w X Y m x f to k tl c1 c2 u) (hb : Below u.heap.size u u') : InR w X Y m x f to k tl c1 c2 u' :=
  ⟨h.bel.trans (hb.mono h.bel.size), h.r1.up hb, h.r2.up hb, h.lx.up hb, h.ly.up hb, h.hX, h.hY⟩
theorem InR.cells (h : InR w X Y m x f to k tl c1 c2 u) : u.cell? ⟨X, 0, none⟩ = some (.int .i64 m) ∧ u.cell? ⟨X, 1, none⟩ = some (.string x) ∧ u.cell? ⟨Y, 0, none⟩ = some (.int .i64 f) ∧ u.cell? ⟨Y, 1, none⟩ = some (.int .i64 to) ∧ u.cell? ⟨Y, 2, none⟩ = some (.int .i64 k) ∧ u.cell? ⟨Y, 3, none⟩ = some (.string tl) := ⟨h.lx.cell 0, h.lx.cell 1, h.ly.cell 0, h.ly.cell 1, h.ly.cell 2, h.ly.cell 3⟩
theorem InR.set1 (h : InR w X Y m x f to k tl c1 c2 u) (j : Nat) (y : Value) : InR w X Y m x f to k tl (c1.setIfInBounds j y) c2 (u.setCell ⟨w.heap.size, j, none⟩ y) :=
  ⟨h.bel.setCell (p := ⟨w.heap.size, j, none⟩) (by simp) y, h.r1.set j y, h.r2.far (by omega) j y, h.lx.far (by have := h.hX; omega) j y, h.ly.far (by have := h.hY; omega) j y, h.hX, h.hY⟩
theorem InR.set2 (h : InR w X Y m x f to k tl c1 c2 u) (j : Nat) (y : Value) : InR w X Y m x f to k tl c1 (c2.setIfInBounds j y) (u.setCell ⟨w.heap.size + 1, j, none⟩ y) :=
  ⟨h.bel.setCell (p := ⟨w.heap.size + 1, j, none⟩) (by simp) y, h.r1.far (by omega) j y, h.r2.set j y, h.lx.far (by have := h.hX; omega) j y, h.ly.far (by have := h.hY; omega) j y, h.hX, h.hY⟩
theorem InR.of {W : World} (hW : W = (w.alloc (.cells #[.int .i64 0, .string ⟨#[]⟩] 33)).alloc (.cells #[.int .i64 0, .int .i64 0, .int .i64 0, .string ⟨#[]⟩] 28)) (hb : Below W.heap.size W u) : InR w u.heap.size (u.heap.size + 1) m x f to k tl #[.int .i64 0, .string ⟨#[]⟩] #[.int .i64 0, .int .i64 0, .int .i64 0, .string ⟨#[]⟩] ((u.alloc (.cells #[.int .i64 m, .string x] 24)).alloc (.cells #[.int .i64 f, .int .i64 to, .int .i64 k, .string tl] 28)) := by
  have hs : W.heap.size = w.heap.size + 1 + 1 := by rw [hW]; simp
  have b1 : Below w.heap.size w W := by rw [hW]; exact ((Below.refl _ _).alloc (Nat.le_refl _) _).alloc (by simp) _
  have r1 : rw.At W w.heap.size #[.int .i64 0, .string ⟨#[]⟩] 33 := by rw [hW]; exact (rw.At.new _ _ _).up (rw.up_alloc _ _)
  have r2 : rw.At W (w.heap.size + 1) #[.int .i64 0, .int .i64 0, .int .i64 0, .string ⟨#[]⟩] 28 := by
    have := rw.At.new (w.alloc (.cells #[.int .i64 0, .string ⟨#[]⟩] 33)) #[.int .i64 0, .int .i64 0, .int .i64 0, .string ⟨#[]⟩] 28
    rw [World.size_alloc, ← hW] at this; exact this
  have hb2 : Below w.heap.size w u := b1.trans (hb.mono b1.size)
  have hsz := hb.size
  have ly := rw.At.new (u.alloc (.cells #[.int .i64 m, .string x] 24)) #[.int .i64 f, .int .i64 to, .int .i64 k, .string tl] 28
  rw [World.size_alloc] at ly
  have hbu : Below u.heap.size u ((u.alloc (.cells #[.int .i64 m, .string x] 24)).alloc (.cells #[.int .i64 f, .int .i64 to, .int .i64 k, .string tl] 28)) := ((Below.refl _ _).alloc (Nat.le_refl _) _).alloc (by simp) _
  exact ⟨hb2.trans (hbu.mono hb2.size), (r1.up hb).up hbu, (r2.up hb).up hbu, (rw.At.new _ _ _).up (rw.up_alloc _ _), ly, by omega, by omega⟩
set_option maxRecDepth 20000 in
set_option maxHeartbeats 8000000 in
theorem drawReceiverHear_any (a : Option Addr) (len cap : Nat) (w : World) (hC : Codes w w.heap.size a len) :
    Calls Try.prog 9 #[.slice a len cap] w fun e w' => ∃ (m : Int) (x : ByteArray) (f to k : Int) (tl : ByteArray), e = .returned (.tuple #[.agg #[.int .i64 m, .string x], .agg #[.int .i64 f, .int .i64 to, .int .i64 k, .string tl]]) ∧ (-1 ≤ m ∧ m ≤ 1000001) ∧ x.size ≤ 401 ∧ tl.size ≤ 401 ∧ Below w.heap.size w w' := by
  obtain ⟨W, hW⟩ : ∃ W, W = (w.alloc (.cells #[.int .i64 0, .string ⟨#[]⟩] 33)).alloc (.cells #[.int .i64 0, .int .i64 0, .int .i64 0, .string ⟨#[]⟩] 28) := ⟨_, rfl⟩
  have hC2 := codes2 (c1 := #[.int .i64 0, .string ⟨#[]⟩]) (c2 := #[.int .i64 0, .int .i64 0, .int .i64 0, .string ⟨#[]⟩]) (T1 := 33) (T2 := 28) hC
  rw [← hW] at hC2
  clear hC
  go_enter Try.func9, Try.ntmps9
  go_wp2_with fail
  rw [← hW]
  have HW : Hid _ := hW
  clear hW
  refine (drawDeltaOn_any a len cap W hC2).mono ?_
  rintro e w1 ⟨m, x, f, to, k, tl, rfl, hm, hx, htl, hb⟩
  have i0 : InR w w1.heap.size (w1.heap.size + 1) m x f to k tl #[.int .i64 0, .string ⟨#[]⟩] #[.int .i64 0, .int .i64 0, .int .i64 0, .string ⟨#[]⟩] _ := InR.of HW.out hb
  clear hC2 hb HW
  go_wp2_with fail
  obtain ⟨Y, hY⟩ : ∃ Y, Y = w1.heap.size + 1 := ⟨_, rfl⟩
  obtain ⟨X, hX⟩ : ∃ X, X = w1.heap.size := ⟨_, rfl⟩
  rw [← hY, ← hX] at i0
  rw [← hY, ← hX]
  clear hX hY
  have HS : Hid (∀ (u : World) {c1 c2 : Array Value}, InR w X Y m x f to k tl c1 c2 u → (u.cell? ⟨X, 0, none⟩ = some (.int .i64 m) ∧ u.cell? ⟨X, 1, none⟩ = some (.string x) ∧ u.cell? ⟨Y, 0, none⟩ = some (.int .i64 f) ∧ u.cell? ⟨Y, 1, none⟩ = some (.int .i64 to) ∧ u.cell? ⟨Y, 2, none⟩ = some (.int .i64 k) ∧ u.cell? ⟨Y, 3, none⟩ = some (.string tl))) := fun u _ _ h => h.cells
  refine wp_region_noPanic ?_
  refine wp_region_held_drew (S := fun u => u.cell? ⟨X, 0, none⟩ = some (.int .i64 m) ∧ u.cell? ⟨X, 1, none⟩ = some (.string x) ∧ u.cell? ⟨Y, 0, none⟩ = some (.int .i64 f) ∧ u.cell? ⟨Y, 1, none⟩ = some (.int .i64 to) ∧ u.cell? ⟨Y, 2, none⟩ = some (.int .i64 k) ∧ u.cell? ⟨Y, 3, none⟩ = some (.string tl)) (by kernel_rfl) (HS.out _ (i0.up (rw.up_drew _))) (fun _ => ?_)
  refine rw.region_w (fun u => InR w X Y m x f to k tl #[.int .i64 0, .string ⟨#[]⟩] #[.int .i64 0, .int .i64 0, .int .i64 0, .string ⟨#[]⟩] u) (i0.up (rw.up_drew _)) ?_
  clear i0
  intro u i
  have hHeld : (u.cell? ⟨X, 0, none⟩ = some (.int .i64 m) ∧ u.cell? ⟨X, 1, none⟩ = some (.string x) ∧ u.cell? ⟨Y, 0, none⟩ = some (.int .i64 f) ∧ u.cell? ⟨Y, 1, none⟩ = some (.int .i64 to) ∧ u.cell? ⟨Y, 2, none⟩ = some (.int .i64 k) ∧ u.cell? ⟨Y, 3, none⟩ = some (.string tl)) := HS.out u i
  refine wpAnyH_take (i := 0) (oi := { dst := some 11, op := Op.load 24 (Operand.tmp 4), type := 24, pos := "l07_sync.go:203", after := #[], guard := none }) (v := ?_) rfl (by kernel_rfl) (by kernel_rfl) (by kernel_rfl) (fun _ _ _ h => h) (Or.inl ⟨by rfl, ?_⟩) hHeld ?_
  rotate_left
  · rintro w ⟨z0, z1, z2, z3, z4, z5⟩; go_simp; (try with_reducible rfl)
  try simp only [Act.put, List.setIfInBounds_toArray, List.set_cons_zero, List.set_cons_succ]
  refine wpAnyH_take (i := 1) (oi := { dst := some 12, op := Op.build 33 #[(0, Operand.tmp 11)], type := 33, pos := "l07_sync.go:203", after := #[{ on := 0, ground := Ground.data }], guard := none }) (v := ?_) rfl (by kernel_rfl) (by kernel_rfl) (by kernel_rfl) (fun _ _ _ h => h) (Or.inl ⟨by rfl, ?_⟩) hHeld ?_
  rotate_left
  · rintro w ⟨z0, z1, z2, z3, z4, z5⟩; go_simp; (try with_reducible rfl)
  try simp only [Act.put, List.setIfInBounds_toArray, List.set_cons_zero, List.set_cons_succ]
  refine wpAnyH_take (i := 2) (oi := { dst := some 13, op := Op.load 28 (Operand.tmp 5), type := 28, pos := "l07_sync.go:203", after := #[{ on := 3, ground := Ground.gcOnly Departure.lateStores }], guard := none }) (v := ?_) rfl (by kernel_rfl) (by kernel_rfl) (by kernel_rfl) (fun _ _ _ h => h) (Or.inl ⟨by rfl, ?_⟩) hHeld ?_
  rotate_left
  · rintro w ⟨z0, z1, z2, z3, z4, z5⟩; go_simp; (try with_reducible rfl)
  try simp only [Act.put, List.setIfInBounds_toArray, List.set_cons_zero, List.set_cons_succ]
  refine wpAnyH_ready (rs := [3]) (by kernel_rfl) (by simp) ?_
  refine AllReadyH.cons rfl (fun K hK => ?_) AllReadyH.nil
  have c0 := i.r1.cell 0
  have c1 := i.r1.cell 1
  have f0 := fun k => i.r1.frozen k
  go_simp
  refine hK.out _ _ (HS.out _ (((i.set1 0 (.int .i64 m)).set1 1 (.string x)))) (fun _ => ?_)
  clear hK K hHeld
  try simp only [Act.put, List.setIfInBounds_toArray, List.set_cons_zero, List.set_cons_succ]
  refine rw.region_w (fun u => InR w X Y m x f to k tl #[.int .i64 m, .string x] #[.int .i64 0, .int .i64 0, .int .i64 0, .string ⟨#[]⟩] u) (((i.set1 0 (.int .i64 m)).set1 1 (.string x))) ?_
  clear i c0 c1 f0
  intro u i
  have hHeld : (u.cell? ⟨X, 0, none⟩ = some (.int .i64 m) ∧ u.cell? ⟨X, 1, none⟩ = some (.string x) ∧ u.cell? ⟨Y, 0, none⟩ = some (.int .i64 f) ∧ u.cell? ⟨Y, 1, none⟩ = some (.int .i64 to) ∧ u.cell? ⟨Y, 2, none⟩ = some (.int .i64 k) ∧ u.cell? ⟨Y, 3, none⟩ = some (.string tl)) := HS.out u i
  refine wpAnyH_ready (rs := [4]) (by kernel_rfl) (by simp) ?_
  refine AllReadyH.cons rfl (fun K hK => ?_) AllReadyH.nil
  have c0 := i.r2.cell 0
  have c1 := i.r2.cell 1
  have c2 := i.r2.cell 2
  have c3 := i.r2.cell 3
  have f0 := fun k => i.r2.frozen k
  go_simp
  refine hK.out _ _ (HS.out _ (((((i.set2 0 (.int .i64 f)).set2 1 (.int .i64 to)).set2 2 (.int .i64 k)).set2 3 (.string tl)))) (fun _ => ?_)
  clear hK K hHeld
  try simp only [Act.put, List.setIfInBounds_toArray, List.set_cons_zero, List.set_cons_succ]
  refine rw.region_w (fun u => InR w X Y m x f to k tl #[.int .i64 m, .string x] #[.int .i64 f, .int .i64 to, .int .i64 k, .string tl] u) (((((i.set2 0 (.int .i64 f)).set2 1 (.int .i64 to)).set2 2 (.int .i64 k)).set2 3 (.string tl))) ?_
  clear i c0 c1 c2 c3 f0
  intro u i
  have hHeld : (u.cell? ⟨X, 0, none⟩ = some (.int .i64 m) ∧ u.cell? ⟨X, 1, none⟩ = some (.string x) ∧ u.cell? ⟨Y, 0, none⟩ = some (.int .i64 f) ∧ u.cell? ⟨Y, 1, none⟩ = some (.int .i64 to) ∧ u.cell? ⟨Y, 2, none⟩ = some (.int .i64 k) ∧ u.cell? ⟨Y, 3, none⟩ = some (.string tl)) := HS.out u i
  refine wpAnyH_done (by kernel_rfl) ?_ _
  refine NoPanic.normal ?_
  clear HS hHeld
  go_wp2
  exact bodyPost_ret (results_cells_rows Try.results9 _ _ w.heap.size (w.heap.size + 1) _ _ _ _ rfl rfl i.r1 i.r2 Try.underlying33 Try.underlying28 rfl rfl infoRc infoUp) rfl ⟨_, _, _, _, _, _, rfl, hm, hx, htl, i.bel⟩
end Go.Proofs.Ytmbeanimjmfddaa.sd
