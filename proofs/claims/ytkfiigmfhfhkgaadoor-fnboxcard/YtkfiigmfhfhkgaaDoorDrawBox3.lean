/-
  What is drawn for the law on boxes, third part: a key, a number and a text to be sealed. No old block turns.
-/
import Derived.Test.YtkfiigmfhfhkgaaDoorDrawBox
namespace Go.Proofs.YtkfiigmfhfhkgaaDoor.db
open Go.ChangeShapes Go.WideShapes Go.ChangeAt Go.RowKit
open Go.Proofs.YtkfiigmfhfhkgaaDoor.dr
set_option linter.unusedVariables false

/-- one of three numbers -/
def num3 (k : Nat) : Int := if k = 0 then -1 else if k = 1 then 1000000 else 1000001
theorem num3_in (k : Nat) : -1 ≤ num3 k ∧ num3 k ≤ 1000001 := by unfold num3; split <;> (try split) <;> omega
theorem num3_cell (u : World) (v : Nat) (hv : v < 3) :
    (u.alloc (.cells #[.int .i64 (-1), .int .i64 1000000, .int .i64 1000001] 2)).cell? ⟨u.heap.size, v, none⟩ = some (.int .i64 (num3 v)) := by
  match v, hv with
  | 0, _ => simp [num3]
  | 1, _ => simp [num3]
  | 2, _ => simp [num3]
theorem cell_past (u : World) (o : Obj) (b i : Nat) (v : Value) (h : u.cell? ⟨b, i, none⟩ = some v) : (u.alloc o).cell? ⟨b, i, none⟩ = some v := by
  rw [World.cell?_alloc_some _ _ _ (by rw [h]; rfl)]; exact h
theorem num3_new1 (u : World) (o : Obj) (v : Nat) (hv : v < 3) :
    ((u.alloc o).alloc (.cells #[.int .i64 (-1), .int .i64 1000000, .int .i64 1000001] 2)).cell? ⟨u.heap.size + 1, v, none⟩ = some (.int .i64 (num3 v)) := by
  have h := num3_cell (u.alloc o) v hv
  rw [World.size_alloc] at h
  exact h
/-- the bytes 0 are read later, too -/
theorem zeros_later (N : Nat) (u w' : World) (hb : Below (u.alloc (.cells (madeCells #[.int .u8 0] N) 5)).heap.size (u.alloc (.cells (madeCells #[.int .u8 0] N) 5)) w') :
    (convert 22 9 (.slice (some ⟨u.heap.size, 0, none⟩) N N)).run Tryd.prog w' = .ok (.string ⟨(List.replicate N (0 : UInt8)).toArray⟩) w' := by
  have h := run_convert_bytes_back (P := Tryd.prog) w' 22 9 5 ⟨u.heap.size, 0, none⟩ N (List.replicate N (0 : UInt8)) Tryd.underlying22 Tryd.underlying5 Tryd.underlying9 (fun j hj => by
    have e : (⟨u.heap.size, 0, none⟩ : Addr).add j = ⟨u.heap.size, j, none⟩ := by unfold Addr.add; split <;> simp_all
    rw [e, hb.cell (p := ⟨u.heap.size, j, none⟩) (by show u.heap.size < _; simp)]
    simp at hj
    simp [madeCells, hj, Nat.mod_one])
  simpa using h

theorem n3_at {w0 u : World} {a : Option Addr} {len cap : Nat} (h : At w0 a len cap u) :
    Calls Tryd.prog 47 #[.pointer (some ⟨w0.heap.size, 0, none⟩), .int .i64 3] u fun e w' => ∃ k : Nat, e = .returned (.int .i64 (k : Int)) ∧ k < 3 ∧ At w0 a len cap w' ∧ ∀ (b i : Nat) (v : Value), b ≠ w0.heap.size → u.cell? ⟨b, i, none⟩ = some v → w'.cell? ⟨b, i, none⟩ = some v := n_keep h 3 (by omega) (by omega)
theorem n2_at {w0 u : World} {a : Option Addr} {len cap : Nat} (h : At w0 a len cap u) :
    Calls Tryd.prog 47 #[.pointer (some ⟨w0.heap.size, 0, none⟩), .int .i64 2] u fun e w' => ∃ k : Nat, e = .returned (.int .i64 (k : Int)) ∧ k < 2 ∧ At w0 a len cap w' ∧ ∀ (b i : Nat) (v : Value), b ≠ w0.heap.size → u.cell? ⟨b, i, none⟩ = some v → w'.cell? ⟨b, i, none⟩ = some v := n_keep h 2 (by omega) (by omega)
theorem zeros_conv_past (N : Nat) (u : World) (o : Obj) : (convert 22 9 (.slice (some ⟨u.heap.size + 1, 0, none⟩) N N)).run Tryd.prog ((u.alloc o).alloc (.cells (madeCells #[.int .u8 0] N) 5)) =
    .ok (.string ⟨(List.replicate N (0 : UInt8)).toArray⟩) ((u.alloc o).alloc (.cells (madeCells #[.int .u8 0] N) 5)) := by
  have h := zeros_conv N (u.alloc o)
  rw [World.size_alloc] at h
  exact h
set_option maxRecDepth 20000 in
set_option maxHeartbeats 8000000 in
theorem drawSealBox_any (a : Option Addr) (len cap : Nat) (w : World) (hC : Codes w w.heap.size a len) :
    Calls Tryd.prog 34 #[.slice a len cap] w fun e w' => ∃ (key : ByteArray) (n : Int) (t : ByteArray), e = .returned (.tuple #[.string key, .int .i64 n, .string t]) ∧ key.size ≤ 65 ∧ -1 ≤ n ∧ n ≤ 1000001 ∧ t.size ≤ 1001 ∧ Below w.heap.size w w' := by
  have HC : Hid (Codes w w.heap.size a len) := hC
  clear hC
  go_enter Tryd.func34, Tryd.ntmps34
  go_wp2_with fail
  refine (source_at a len cap _ HC.out).mono ?_
  rintro e w1 ⟨rfl, hA1⟩
  go_wp2_with fail
  refine (pass_at hA1).mono ?_
  rintro e w2 ⟨key, rfl, hk, hA2⟩
  clear hA1 HC
  go_wp2_with fail
  refine (n_keep hA2 100 (by omega) (by omega)).mono ?_
  rintro e w3 ⟨n, rfl, hn, hA3, _⟩
  clear hA2
  go_wp2_with fail
  refine (one_at hA3 _ (by omega) (by omega)).mono ?_
  rintro e w4 ⟨vb, rfl, hA4⟩
  clear hA3
  cases vb
  · go_wp2_with fail
    refine (n_keep hA4 90 (by omega) (by omega)).mono ?_
    rintro e w5 ⟨k, rfl, hk5, hA5, _⟩
    clear hA4
    go_wp2_with fail
    refine (bytes_at hA5 _ (by omega) (by omega)).mono ?_
    rintro e w6 ⟨t, rfl, ht, hA6⟩
    go_wp2_with fail
    go_ret3
    exact ⟨_, _, _, rfl, hk, by omega, by omega, by omega, hA6.2.1⟩
  · go_wp2_with fail
    refine wp_world (fun u => At w a len cap u) hA4 ?_
    clear hA4
    intro u hA
    have HU := At.drew hA
    have hlt : w.heap.size < u.heap.size := HU.1.lt
    go_region_with (first | (go_at_call 47; (with_reducible refine (n3_at (At.drew (At.alloc hA (.cells #[.int .i64 (-1), .int .i64 1000000, .int .i64 1000001] 2)))).mono ?_); rintro e w5 ⟨k, rfl, hk3, H5, hc5⟩; have hz : w5.cell? ⟨u.heap.size, k, none⟩ = some (.int .i64 (num3 k)) := hc5 _ _ _ (by omega) (num3_cell u k hk3); have hz1 := fun o => cell_past _ o _ _ _ hz; clear hc5) | (go_at_call 47; (with_reducible refine (n3_at HU).mono ?_); rintro e w5 ⟨k, rfl, hk3, H5, hc5⟩; have hlA := fun u => num3_cell u k hk3; have hlB := fun u o => cell_past _ o _ _ _ (num3_cell u k hk3); have hlC := fun u o => num3_new1 u o k hk3; have hlt5 : w.heap.size < w5.heap.size := H5.1.lt; clear hc5) | (go_at_call 47; (with_reducible refine (n2_at (At.alloc H5 (.cells #[.int .i64 (-1), .int .i64 1000000, .int .i64 1000001] 2))).mono ?_); rintro e w6 ⟨k2, rfl, hk2, H6, hc6⟩; have hz6 : w6.cell? ⟨w5.heap.size, k, none⟩ = some (.int .i64 (num3 k)) := hc6 _ _ _ (by omega) (num3_cell w5 k hk3); have hz7 := fun o => cell_past _ o _ _ _ hz6; have hmk := fun u => zeros_make (1000 + k2) (by omega) u; rw [show ((1000 + k2 : Nat) : Int) = 1000 + (k2 : Int) by omega] at hmk; have hcA := fun u => zeros_conv (1000 + k2) u; have hcB := fun (u : World) (o : Obj) => zeros_later (1000 + k2) u _ ((Below.refl _ _).alloc (Nat.le_refl _) o); have hcC := fun (u : World) (o : Obj) => zeros_conv_past (1000 + k2) u o; have e2 : IntKind.i64.wrap (1000 + (k2 : Int)) = 1000 + (k2 : Int) := by { rw [IntKind.wrap_i64]; omega }; clear hc6) | (go_at_call 47; (with_reducible refine (n2_at H5).mono ?_); rintro e w6 ⟨k2, rfl, hk2, H6, hc6⟩; (try have hz6 := hc6 _ _ _ (by omega) hz); (try have hz7 := fun o => cell_past _ o _ _ _ hz6); have hmk := fun u => zeros_make (1000 + k2) (by omega) u; rw [show ((1000 + k2 : Nat) : Int) = 1000 + (k2 : Int) by omega] at hmk; have hcA := fun u => zeros_conv (1000 + k2) u; have hcB := fun (u : World) (o : Obj) => zeros_later (1000 + k2) u _ ((Below.refl _ _).alloc (Nat.le_refl _) o); have hcC := fun (u : World) (o : Obj) => zeros_conv_past (1000 + k2) u o; have e2 : IntKind.i64.wrap (1000 + (k2 : Int)) = 1000 + (k2 : Int) := by { rw [IntKind.wrap_i64]; omega }; clear hc6))
    all_goals
      go_wp2_with fail
      go_ret3
      exact ⟨_, _, _, rfl, hk, (num3_in k).1, (num3_in k).2, by simp [ByteArray.size]; omega, (by first | exact H6.2.1 | exact (At.alloc H6 _).2.1 | exact (At.alloc (At.alloc H6 _) _).2.1)⟩
end Go.Proofs.YtkfiigmfhfhkgaaDoor.db
