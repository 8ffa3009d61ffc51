/-
  The draw of a glob and a text: two short texts. No condition.
-/
import Derived.Test.YtkghbabnchofpaaDoorDraw0
import Derived.Test.YtkghbabnchofpaaDoorDrawN
import Derived.Test.YtkghbabnchofpaaDoorDrZ
import Derived.Test.YtkghbabnchofpaaDoorLogS0
import Derived.Deep.RegionWith
namespace Go.Proofs.YtkghbabnchofpaaDoor.dr
open Go.ChangeShapes Go.WideShapes Go.ChangeAt Go.RowKit
set_option linter.unusedVariables false

theorem lit_cell (u : World) (L : List ByteArray) (k : Nat) (hk : k < L.length) : (u.alloc (.cells (ss.cells L) 9)).cell? ⟨u.heap.size, k, none⟩ = some (.string (L.getD k ⟨#[]⟩)) := by
  have h : ss.Blk (u.alloc (.cells (ss.cells L) 9)) u.heap.size L := heap_alloc_new _ _
  exact h.cell k hk
theorem pick_lit {w0 u : World} {a : Option Addr} {len cap : Nat} (h : At w0 a len cap u) (L : List ByteArray) (M : Nat) (h2 : 2 ≤ L.length) (h3 : L.length ≤ 100) (hs : ∀ t ∈ L, t.size ≤ M) :
    Calls Tryd.prog 27 #[.pointer (some ⟨w0.heap.size, 0, none⟩), .slice (some ⟨u.heap.size, 0, none⟩) L.length L.length] (u.alloc (.cells (ss.cells L) 9)) fun e w' => ∃ t : ByteArray, e = .returned (.string t) ∧ t.size ≤ M ∧ At w0 a len cap w' ∧ u.grownBy w' (some w0.heap.size) := by
  have hp : w0.heap.size < u.heap.size := h.1.lt
  have HC : Hid (∀ k, k < L.length → ∃ t, (u.alloc (.cells (ss.cells L) 9)).cell? ⟨u.heap.size, k, none⟩ = some (.string t) ∧ t.size ≤ M) := fun k hk => ⟨_, lit_cell u L k hk, by
    rw [List.getD_eq_getElem?_getD, List.getElem?_eq_getElem hk]; exact hs _ (List.getElem_mem hk)⟩
  have hA0 := dn.At.alloc h (.cells (ss.cells L) 9)
  have hg0 := World.grownBy_alloc u (.cells (ss.cells L) 9) (some w0.heap.size)
  have hz0 : u.heap.size < (u.alloc (.cells (ss.cells L) 9)).heap.size := by simp
  obtain ⟨W, hW⟩ : ∃ W, W = u.alloc (.cells (ss.cells L) 9) := ⟨_, rfl⟩
  rw [← hW] at HC hA0 hg0 hz0 ⊢
  obtain ⟨n, hn⟩ : ∃ n, n = L.length := ⟨_, rfl⟩
  rw [← hn] at h2 h3 HC ⊢
  clear hW hn hs
  go_enter Tryd.func27, Tryd.ntmps27
  go_wp2_with fail
  refine (dn.n_g hA0 n (by omega) (by omega)).mono ?_
  rintro e w2 ⟨k, rfl, hk, hA, hg⟩
  obtain ⟨t, ht, h5⟩ := HC.out k (by omega)
  have hc := hg.cell ht (by simp; omega)
  have hgu : u.grownBy w2 (some w0.heap.size) := gtrans hg0 hg
  have hkn : (k : Int) < (n : Int) := by omega
  clear ht hg hg0 HC hA0
  go_wp2_with fail
  go_ret
  exact ⟨_, rfl, h5, hA, hgu⟩
theorem zeros60_make (k : Nat) (u : World) (hk : k < 2) : (Instr.makeSlice 22 (.int .i64 (60 + (k : Int))) (.int .i64 (60 + (k : Int)))).run Tryd.prog u =
    .ok (.slice (some ⟨u.heap.size, 0, none⟩) (60 + k) (60 + k)) (u.alloc (.cells (madeCells #[.int .u8 0] (60 + k)) 5)) := by
  have h := zeros_make (60 + k) (by omega) u
  obtain ⟨N, hN⟩ : ∃ N, N = 60 + k := ⟨_, rfl⟩
  rw [← hN] at h ⊢
  have e : (N : Int) = 60 + (k : Int) := by omega
  rw [← e]; exact h
theorem zeros60_conv (k : Nat) (u : World) : (convert 22 9 (.slice (some ⟨u.heap.size, 0, none⟩) (60 + k) (60 + k))).run Tryd.prog (u.alloc (.cells (madeCells #[.int .u8 0] (60 + k)) 5)) =
    .ok (.string ⟨(List.replicate (60 + k) (0 : UInt8)).toArray⟩) (u.alloc (.cells (madeCells #[.int .u8 0] (60 + k)) 5)) := zeros_conv (60 + k) u
theorem l6 : ∀ t ∈ [(⟨#[97, 42, 97, 42, 97]⟩ : ByteArray), ⟨#[42, 42]⟩, ⟨#[42, 63]⟩, ⟨#[]⟩, ⟨#[63, 42, 63]⟩, ⟨#[108, 63]⟩], t.size ≤ 5 := by decide
set_option maxHeartbeats 4000000 in
set_option maxRecDepth 10000 in
theorem glob_at {w0 u : World} {a : Option Addr} {len cap : Nat} (h : At w0 a len cap u) :
    Calls Tryd.prog 25 #[.pointer (some ⟨w0.heap.size, 0, none⟩)] u fun e w' => ∃ t : ByteArray, e = .returned (.string t) ∧ t.size ≤ 5 ∧ At w0 a len cap w' ∧ u.grownBy w' (some w0.heap.size) := by
  have hp := pick_lit h [⟨#[42]⟩, ⟨#[108, 115, 42]⟩, ⟨#[114, 109, 32, 42]⟩, ⟨#[63]⟩, ⟨#[97, 42, 98, 63, 99]⟩, ⟨#[99, 97, 116]⟩, ⟨#[42, 120, 42]⟩, ⟨#[42]⟩] 5 (by decide) (by decide) (by decide)
  go_enter Tryd.func25, Tryd.ntmps25
  go_wp2_with (go_at_call 27; fail)
  refine (show Calls _ _ _ _ _ from hp).mono ?_
  rintro e w2 ⟨t, rfl, ht, hA, hg⟩
  clear hp
  go_wp2_with fail
  go_ret
  exact ⟨_, rfl, ht, hA, hg⟩
set_option maxHeartbeats 8000000 in
set_option maxRecDepth 10000 in
theorem draw_glob (code : Option Addr) (len cap : Nat) (w : World) (hC : Codes w w.heap.size code len) :
    Calls Tryd.prog 5 #[.slice code len cap] w fun e w' => ∃ g t : ByteArray, e = .returned (.tuple #[.string g, .string t]) ∧ g.size ≤ 5 ∧ t.size ≤ 61 ∧ Below w.heap.size w w' := by
  go_enter Tryd.func5, Tryd.ntmps5
  go_wp2_with (go_at_call 24; refine (source_at _ _ _ _ hC).mono ?_; rintro e w1 ⟨rfl, hA⟩)
  refine (glob_at hA).mono ?_
  rintro e w2 ⟨g, rfl, hg, hA2, _⟩
  clear hA
  go_wp2_with (go_at_call 26; fail)
  refine (one_at hA2 4 (by omega) (by omega)).mono ?_
  rintro e w3 ⟨b, rfl, hA⟩
  clear hA2
  cases b
  · have HG : Hid (g.size ≤ 5) := hg
    clear hg
    go_wp2_with (go_at_call 26; fail)
    refine (one_at hA 15 (by omega) (by omega)).mono ?_
    rintro e w4 ⟨b2, rfl, hA2⟩
    clear hA
    cases b2
    · have hp := pick_lit hA2 [⟨#[]⟩, ⟨#[97]⟩, ⟨#[97, 97]⟩, ⟨#[97, 97, 97]⟩, ⟨#[97, 98, 97]⟩, ⟨#[108, 115]⟩, ⟨#[108, 115, 120]⟩, ⟨#[114, 109, 32]⟩, ⟨#[99, 97, 116]⟩, ⟨#[97, 120, 98, 121, 99]⟩] 5 (by decide) (by decide) (by decide)
      go_wp2_with (go_at_call 27; fail)
      refine (show Calls _ _ _ _ _ from hp).mono ?_
      rintro e w5 ⟨t, rfl, ht, hA, _⟩
      have HB : Hid (Below w.heap.size w w5) := hA.2.1
      clear hp hA hA2
      go_wp2
      go_ret2
      exact ⟨_, _, rfl, HG.out, by omega, HB.out⟩
    · have hA3 := dn.At.drew hA2
      clear hA2
      go_wp2_with fail
      go_region_with (go_at_call 28; refine (dn.n_g hA3 2 (by omega) (by omega)).mono ?_; rintro e w5 ⟨k, rfl, hk, hA, _⟩; have hwk : IntKind.i64.wrap (60 + (k : Int)) = 60 + (k : Int) := (by rw [IntKind.wrap_i64]; omega); have hmk := (fun u => zeros60_make k u hk); have hcv := (fun u => zeros60_conv k u))
      all_goals
        have HB : Hid (Below w.heap.size w (w5.alloc (.cells (madeCells #[.int .u8 0] (60 + k)) 5))) := (dn.At.alloc hA _).2.1
        have HT : Hid ((⟨(List.replicate (60 + k) (0 : UInt8)).toArray⟩ : ByteArray).size ≤ 61) := by
          show (List.replicate (60 + k) (0 : UInt8)).toArray.size ≤ 61
          simp; omega
        clear hA hA3 hmk hcv hwk
        go_wp2
        go_ret2
        exact ⟨_, _, rfl, HG.out, HT.out, HB.out⟩
  · clear hg
    have hp := pick_lit hA [⟨#[97, 42, 97, 42, 97]⟩, ⟨#[42, 42]⟩, ⟨#[42, 63]⟩, ⟨#[]⟩, ⟨#[63, 42, 63]⟩, ⟨#[108, 63]⟩] 5 (by decide) (by decide) (by decide)
    go_wp2_with (go_at_call 27; fail)
    refine (show Calls _ _ _ _ _ from hp).mono ?_
    rintro e w5 ⟨g2, rfl, hg, hA5, _⟩
    have HG : Hid (g2.size ≤ 5) := hg
    clear hp hA hg
    have hA := hA5
    clear hA5
    go_wp2_with (go_at_call 26; fail)
    refine (one_at hA 15 (by omega) (by omega)).mono ?_
    rintro e w4 ⟨b2, rfl, hA2⟩
    clear hA
    cases b2
    · have hp := pick_lit hA2 [⟨#[]⟩, ⟨#[97]⟩, ⟨#[97, 97]⟩, ⟨#[97, 97, 97]⟩, ⟨#[97, 98, 97]⟩, ⟨#[108, 115]⟩, ⟨#[108, 115, 120]⟩, ⟨#[114, 109, 32]⟩, ⟨#[99, 97, 116]⟩, ⟨#[97, 120, 98, 121, 99]⟩] 5 (by decide) (by decide) (by decide)
      go_wp2_with (go_at_call 27; fail)
      refine (show Calls _ _ _ _ _ from hp).mono ?_
      rintro e w5 ⟨t, rfl, ht, hA, _⟩
      have HB : Hid (Below w.heap.size w w5) := hA.2.1
      clear hp hA hA2
      go_wp2
      go_ret2
      exact ⟨_, _, rfl, HG.out, by omega, HB.out⟩
    · have hA3 := dn.At.drew hA2
      clear hA2
      go_wp2_with fail
      go_region_with (go_at_call 28; refine (dn.n_g hA3 2 (by omega) (by omega)).mono ?_; rintro e w5 ⟨k, rfl, hk, hA, _⟩; have hwk : IntKind.i64.wrap (60 + (k : Int)) = 60 + (k : Int) := (by rw [IntKind.wrap_i64]; omega); have hmk := (fun u => zeros60_make k u hk); have hcv := (fun u => zeros60_conv k u))
      all_goals
        have HB : Hid (Below w.heap.size w (w5.alloc (.cells (madeCells #[.int .u8 0] (60 + k)) 5))) := (dn.At.alloc hA _).2.1
        have HT : Hid ((⟨(List.replicate (60 + k) (0 : UInt8)).toArray⟩ : ByteArray).size ≤ 61) := by
          show (List.replicate (60 + k) (0 : UInt8)).toArray.size ≤ 61
          simp; omega
        clear hA hA3 hmk hcv hwk
        go_wp2
        go_ret2
        exact ⟨_, _, rfl, HG.out, HT.out, HB.out⟩
end Go.Proofs.YtkghbabnchofpaaDoor.dr
