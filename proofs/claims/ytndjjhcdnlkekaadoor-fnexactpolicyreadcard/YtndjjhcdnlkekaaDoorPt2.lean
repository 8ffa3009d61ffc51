/-
  The line of a rule: the model's l08Text. No condition.
-/
import Derived.Test.YtndjjhcdnlkekaaDoorPt1
import Derived.Laws.IdiomStrings
namespace Go.Proofs.YtndjjhcdnlkekaaDoor.rl
open Go.ChangeShapes Go.WideShapes Go.ChangeAt Go.RowKit
open Go.Proofs.YtndjjhcdnlkekaaDoor.sc (ret_b)
open Go.Proofs.YtndjjhcdnlkekaaDoor.wi (heap_lt calls_w wp_w)
open Go.Proofs.YtndjjhcdnlkekaaDoor.jo (joined_any joinB total joined2 bytesOf_length)
open Classical
set_option linter.unusedVariables false

theorem conv_one (c : UInt8) (u : World) : (convert 78 9 (.slice (some ⟨u.heap.size, 0, none⟩) 1 1)).run Tryd.prog (u.alloc (.cells #[.int .u8 c.toNat] 5)) = .ok (.string ⟨#[c]⟩) (u.alloc (.cells #[.int .u8 c.toNat] 5)) := by
  have h := run_convert_bytes_back (P := Tryd.prog) (u.alloc (.cells #[.int .u8 c.toNat] 5)) 78 9 5 ⟨u.heap.size, 0, none⟩ 1 [c] Tryd.underlying78 Tryd.underlying5 Tryd.underlying9 (fun j hj => by
    have e : (⟨u.heap.size, 0, none⟩ : Addr).add j = ⟨u.heap.size, j, none⟩ := by unfold Addr.add; split <;> simp_all
    rw [e]
    have : j = 0 := by simpa using hj
    subst this
    simp)
  simpa using h
set_option maxRecDepth 100000 in
theorem dec_1 (w : World) : Calls Tryd.prog 58 #[.int .i64 1] w fun e w' => e = .returned (.string ⟨#[49]⟩) ∧ Below w.heap.size w w' := by
  have HB : Hid (∀ o, Below w.heap.size w (w.alloc o)) := fun o => (Below.refl _ _).alloc (Nat.le_refl _) o
  have hcv : ∀ u : World, (convert 78 9 (.slice (some ⟨u.heap.size, 0, none⟩) 1 1)).run Tryd.prog (u.alloc (.cells #[.int .u8 49] 5)) = .ok (.string ⟨#[49]⟩) (u.alloc (.cells #[.int .u8 49] 5)) := fun u => conv_one 49 u
  go_enter Tryd.func58, Tryd.ntmps58
  go_wp2
  refine wp_loop_rounds 2 ?_
  rw [rounds_succ]
  go_wp2
  rw [rounds_succ]
  go_wp2
  go_ret
  exact ⟨fmt_ret (by rfl), HB.out _⟩
set_option maxRecDepth 100000 in
theorem dec_2 (w : World) : Calls Tryd.prog 58 #[.int .i64 2] w fun e w' => e = .returned (.string ⟨#[50]⟩) ∧ Below w.heap.size w w' := by
  have HB : Hid (∀ o, Below w.heap.size w (w.alloc o)) := fun o => (Below.refl _ _).alloc (Nat.le_refl _) o
  have hcv : ∀ u : World, (convert 78 9 (.slice (some ⟨u.heap.size, 0, none⟩) 1 1)).run Tryd.prog (u.alloc (.cells #[.int .u8 50] 5)) = .ok (.string ⟨#[50]⟩) (u.alloc (.cells #[.int .u8 50] 5)) := fun u => conv_one 50 u
  go_enter Tryd.func58, Tryd.ntmps58
  go_wp2
  refine wp_loop_rounds 2 ?_
  rw [rounds_succ]
  go_wp2
  rw [rounds_succ]
  go_wp2
  go_ret
  exact ⟨fmt_ret (by rfl), HB.out _⟩
set_option maxRecDepth 100000 in
theorem dec_3 (w : World) : Calls Tryd.prog 58 #[.int .i64 3] w fun e w' => e = .returned (.string ⟨#[51]⟩) ∧ Below w.heap.size w w' := by
  have HB : Hid (∀ o, Below w.heap.size w (w.alloc o)) := fun o => (Below.refl _ _).alloc (Nat.le_refl _) o
  have hcv : ∀ u : World, (convert 78 9 (.slice (some ⟨u.heap.size, 0, none⟩) 1 1)).run Tryd.prog (u.alloc (.cells #[.int .u8 51] 5)) = .ok (.string ⟨#[51]⟩) (u.alloc (.cells #[.int .u8 51] 5)) := fun u => conv_one 51 u
  go_enter Tryd.func58, Tryd.ntmps58
  go_wp2
  refine wp_loop_rounds 2 ?_
  rw [rounds_succ]
  go_wp2
  rw [rounds_succ]
  go_wp2
  go_ret
  exact ⟨fmt_ret (by rfl), HB.out _⟩
theorem dec_any (n : Int) (h : 1 ≤ n ∧ n ≤ 3) (w : World) : Calls Tryd.prog 58 #[.int .i64 n] w fun e w' => e = .returned (.string (decB n)) ∧ Below w.heap.size w w' := by
  rcases (show n = 1 ∨ n = 2 ∨ n = 3 by omega) with rfl | rfl | rfl
  · exact dec_1 w
  · exact dec_2 w
  · exact dec_3 w
theorem line_cat (W u g : ByteArray) : W ++ ⟨#[32]⟩ ++ u ++ ⟨#[32]⟩ ++ g ++ ⟨#[10]⟩ = joinB [W, ⟨#[32]⟩, u, ⟨#[32]⟩, g, ⟨#[10]⟩] := by
  apply ByteArray.ext
  simp [joinB, jo.bytesOf]
theorem hold_cat (n : Int) : (⟨#[104, 111, 108, 100]⟩ : ByteArray) ++ ⟨#[32]⟩ ++ decB n = holdB n := by
  unfold holdB
  congr 1
set_option maxHeartbeats 4000000 in
theorem textM_any (k n : Int) (u g : ByteArray) (w : World) (hk : Known k n) (hu : u.size ≤ 20) (hg : g.size ≤ 30) :
    Calls Tryd.prog 37 #[.agg #[.int .i64 k, .int .i64 n, .string u, .string g]] w fun e w' => e = .returned (.string (lineB k n u g)) ∧ Below w.heap.size w w' := by
  have HB : Hid (∀ o o2, Below w.heap.size w ((w.alloc o).alloc o2)) := fun o o2 => ((Below.refl _ _).alloc (Nat.le_refl _) o).alloc (by simp) o2
  rcases hk with ⟨rfl, rfl⟩ | ⟨rfl, rfl⟩ | ⟨rfl, h1, h2⟩
  · have HE : Hid (_ = lineB 0 0 u g) := line_cat denyB u g
    go_enter Tryd.func37, Tryd.ntmps37
    go_wp2
    go_ret
    exact ⟨fmt_ret HE.out, HB.out _ _⟩
  · have HE : Hid (_ = lineB 1 0 u g) := line_cat allowB u g
    go_enter Tryd.func37, Tryd.ntmps37
    go_wp2
    go_ret
    exact ⟨fmt_ret HE.out, HB.out _ _⟩
  · have HE : Hid (_ = lineB 2 n u g) := line_cat (holdB n) u g
    rw [← hold_cat n] at HE
    have hd := fun u => dec_any n ⟨h1, h2⟩ u
    have hds := decB_size n
    obtain ⟨D, hD⟩ : ∃ D, D = decB n := ⟨_, rfl⟩
    rw [← hD] at hd hds HE
    have HI : Hid (∀ o o2, rw.Bel w ((w.alloc o).alloc o2) ∧ rw.At ((w.alloc (.cells #[.int .i64 2, .int .i64 n, .string u, .string g] 26)).alloc o2) w.heap.size #[.int .i64 2, .int .i64 n, .string u, .string g] 26) := fun o o2 => ⟨HB.out o o2, (rw.At.new _ _ _).up (rw.up_alloc _ _)⟩
    clear hD
    go_enter Tryd.func37, Tryd.ntmps37
    go_wp2_with (go_at_call 58; fail)
    refine calls_w (fun u1 => rw.Bel w u1 ∧ rw.At u1 w.heap.size #[.int .i64 2, .int .i64 n, .string u, .string g] 26) (HI.out _ _) ?_
    clear HI
    rintro u0 ⟨i, a⟩
    refine (hd u0).mono ?_
    rintro e w1 ⟨rfl, hb⟩
    have HB2 : Hid (Below w.heap.size w w1) := i.up hb
    replace a := a.up hb
    have c2 := a.cell 2
    have c3 := a.cell 3
    clear i hb a hd HB
    go_wp2
    go_ret
    exact ⟨fmt_ret HE.out, HB2.out⟩
end Go.Proofs.YtndjjhcdnlkekaaDoor.rl
