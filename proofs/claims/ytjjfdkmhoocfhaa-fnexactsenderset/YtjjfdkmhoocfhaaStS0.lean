/-
  Blocks and slices of states (a number and a text each). No condition.
-/
import Derived.Test.YtjjfdkmhoocfhaaStW
namespace Go.Proofs.Ytjjfdkmhoocfhaa.st
open Go.ChangeShapes Go.WideShapes Go.ChangeAt Go.RowKit
open Go.Proofs.Ytjjfdkmhoocfhaa.wi (heap_lt calls_w wp_w)
set_option linter.unusedVariables false

abbrev Ln := Int × ByteArray
abbrev ln0 : Ln := (0, ⟨#[]⟩)
/-- a slice that holds these states -/
def Row (w : World) (b off : Nat) (s : List Ln) : Prop := ∀ j, j < s.length → w.cell? ⟨b, off + j * 2, none⟩ = some (.int .i64 (s.getD j ln0).1) ∧ w.cell? ⟨b, off + j * 2 + 1, none⟩ = some (.string (s.getD j ln0).2)
def SliceIs (w : World) (v : Value) (s : List Ln) : Prop := (∃ p cap, s = [] ∧ v = .slice p 0 cap) ∨ ∃ b off cap, b < w.heap.size ∧ v = .slice (some ⟨b, off, none⟩) s.length cap ∧ Row w b off s
theorem Row.below {w u : World} {n b off : Nat} {s : List Ln} (h : Row w b off s) (hB : Below n w u) (hb : b < n) : Row u b off s := fun j hj => ⟨(hB.cell (p := ⟨b, off + j * 2, none⟩) hb).trans (h j hj).1, (hB.cell (p := ⟨b, off + j * 2 + 1, none⟩) hb).trans (h j hj).2⟩
theorem SliceIs.up {w u : World} {v : Value} {s : List Ln} (h : SliceIs w v s) (hb : Below w.heap.size w u) : SliceIs u v s := by
  rcases h with h | ⟨b, off, cap, hb', rfl, hR⟩
  · exact .inl h
  · exact .inr ⟨b, off, cap, Nat.lt_of_lt_of_le hb' hb.size, rfl, hR.below hb hb'⟩
theorem SliceIs.shape {w : World} {v : Value} {s : List Ln} (h : SliceIs w v s) : ∃ p cap, v = .slice p s.length cap := by
  rcases h with ⟨p, cap, rfl, rfl⟩ | ⟨b, off, cap, hb, rfl, hR⟩
  · exact ⟨_, _, rfl⟩
  · exact ⟨_, _, rfl⟩
/-- how many bytes the states' texts have together -/
def tot (s : List Ln) : Nat := (s.map fun x => x.2.size).sum
theorem tot_app (a b : List Ln) : tot (a ++ b) = tot a + tot b := by simp [tot]
theorem tot_succ {s : List Ln} {k : Nat} (h : k < s.length) : tot (s.take (k + 1)) = tot (s.take k) + (s.getD k ln0).2.size := by
  rw [← List.take_append_getElem h, tot_app]
  simp [tot, List.getD, List.getElem?_eq_getElem h]
theorem tot_take_le (s : List Ln) (k : Nat) : tot (s.take k) ≤ tot s := by
  have := tot_app (s.take k) (s.drop k)
  rw [List.take_append_drop] at this
  omega
def szV (left : Int) (s : List Ln) : Int := if left - ((s.length : Int) + (tot s : Int)) < 0 then -1 else left - ((s.length : Int) + (tot s : Int))
theorem infoLn : (Try.prog.info? 23).map (·.size) = some 2 := by kernel_rfl

set_option maxHeartbeats 2000000 in
theorem szState_any (a : Int) (t : ByteArray) (left : Int) (w : World) (h0 : 0 ≤ left) (h1 : left ≤ 1048576) (ht : t.size ≤ 9223372036854775807) :
    Calls Try.prog 9 #[.agg #[.int .i64 a, .string t], .int .i64 left] w fun r w' => r = .returned (.int .i64 (if left - (t.size : Int) < 0 then -1 else left - (t.size : Int))) ∧ Below w.heap.size w w' := by
  have HB : Hid (∀ o, Below w.heap.size w (w.alloc o)) := fun o => (Below.refl _ _).alloc (Nat.le_refl _) o
  by_cases h : left - (t.size : Int) < 0
  · have d : decide (left - (t.size : Int) < 0) = true := decide_eq_true h
    rw [if_pos h]
    go_enter Try.func9, Try.ntmps9
    go_wp2
    go_ret
    exact ⟨rfl, HB.out _⟩
  · have d : decide (left - (t.size : Int) < 0) = false := decide_eq_false h
    rw [if_neg h]
    go_enter Try.func9, Try.ntmps9
    go_wp2
    go_ret
    exact ⟨rfl, HB.out _⟩
set_option maxHeartbeats 8000000 in
theorem szStates_any (v : Value) (s : List Ln) (left : Int) (w : World) (h0 : 0 ≤ left) (h1 : left ≤ 1048576) (hs : s.length ≤ maxLen) (hz : ∀ r ∈ s, r.2.size ≤ maxLen) (hv : SliceIs w v s) :
    Calls Try.prog 44 #[v, .int .i64 left] w fun r w' => r = .returned (.int .i64 (szV left s)) ∧ Below w.heap.size w w' := by
  have HB : Hid (Below w.heap.size w w) := Below.refl _ _
  unfold maxLen at hs hz
  by_cases h2 : left - (s.length : Int) < 0
  · have HV : Hid (szV left s = -1) := if_pos (by omega)
    obtain ⟨p, cap, rfl⟩ := hv.shape
    clear hv
    go_enter Try.func44, Try.ntmps44
    go_wp2
    go_ret
    exact ⟨by rw [HV.out]; rfl, HB.out⟩
  · rcases hv with ⟨p, cap, rfl, rfl⟩ | ⟨b, off, cap, hb, rfl, hR⟩
    · have HV : Hid (szV left [] = left) := by
        show szV left [] = left
        unfold szV
        rw [show tot [] = 0 from rfl, if_neg (by simp; omega)]; simp
      go_enter Try.func44, Try.ntmps44
      go_wp2
      refine wp_loop_rounds 1 ?_
      rw [rounds_succ]
      go_wp2
      go_ret
      refine ⟨?_, HB.out⟩
      rw [HV.out]; simp
    · have HZ : Hid (∀ k, k < s.length → (s.getD k ln0).2.size ≤ 9223372036854775807) := fun k hk => by
        rw [List.getD_eq_getElem?_getD, List.getElem?_eq_getElem hk]; exact hz _ (List.getElem_mem hk)
      have HS : Hid (∀ k, k < s.length → tot (s.take (k + 1)) = tot (s.take k) + (s.getD k ln0).2.size) := fun k hk => tot_succ hk
      have HN : Hid (∀ k, left - (s.length : Int) - (tot (s.take k) : Int) < 0 → szV left s = -1) := fun k hk => if_pos (by have := tot_take_le s k; omega)
      have HY : Hid (¬ left - (s.length : Int) - (tot (s.take s.length) : Int) < 0 → szV left s = left - (s.length : Int) - (tot (s.take s.length) : Int)) := fun h => by
        rw [List.take_length] at h ⊢
        unfold szV
        rw [if_neg (by omega)]; omega
      obtain ⟨n, hn⟩ : ∃ n, n = s.length := ⟨_, rfl⟩
      have HR : Hid (∀ u, Below w.heap.size w u → ∀ k, k < n → u.cell? ⟨b, off + k * 2, none⟩ = some (.int .i64 (s.getD k ln0).1) ∧ u.cell? ⟨b, off + k * 2 + 1, none⟩ = some (.string (s.getD k ln0).2)) := fun u hu k hk => (hR.below hu hb) k (by omega)
      rw [← hn] at hs h2 HZ HS HN HY ⊢
      have HT0 : Hid (tot (s.take 0) = 0) := by show tot (s.take 0) = 0; simp [tot]
      clear hn hR hz
      go_enter Try.func44, Try.ntmps44
      go_wp2
      go_loopw [1, 5] (fun x i u => ∃ k : Nat, k ≤ n ∧ i = .int .i64 k ∧ x = .int .i64 (left - (n : Int) - (tot (s.take k) : Int)) ∧ 0 ≤ left - (n : Int) - (tot (s.take k) : Int) ∧ Hid (Below w.heap.size w u)) (fun _ i _ => n - (intOf i).toNat)
      case atStart => exact ⟨0, Nat.zero_le _, rfl, by rw [HT0.out]; simp, by rw [HT0.out]; simpa using h2, HB⟩
      case round =>
        obtain ⟨k, hk, rfl, rfl, h3, HU⟩ := hrel
        by_cases hlt : k < n
        · obtain ⟨c1, c2⟩ := HR.out wr HU.out k hlt
          have h4 := HZ.out k hlt
          have h5 := HS.out k hlt
          have HN1 := HN.out (k + 1)
          rw [h5] at HN1
          obtain ⟨x, hx⟩ : ∃ x, x = (s.getD k ln0).2 := ⟨_, rfl⟩
          obtain ⟨z, hz'⟩ : ∃ z, z = (s.getD k ln0).1 := ⟨_, rfl⟩
          obtain ⟨y, hy⟩ : ∃ y : Int, y = left - (n : Int) - (tot (s.take k) : Int) := ⟨_, rfl⟩
          rw [← hx] at c2 h4 h5 HN1
          rw [← hz'] at c1
          have h6 : left - (n : Int) - (tot (s.take (k + 1)) : Int) = y - (x.size : Int) := by omega
          have HN2 : Hid (y - (x.size : Int) < 0 → szV left s = -1) := fun h => HN1 (by omega)
          have hy1 : y ≤ 1048576 := by omega
          rw [← hy] at h3 ⊢
          clear hx hz' hy HN1 h5
          go_wp2_with (go_at_call 9; fail)
          refine (szState_any z x y wr h3 hy1 h4).mono ?_
          rintro r w2 ⟨rfl, hb2⟩
          have HU2 : Hid (Below w.heap.size w w2) := HU.out.trans (hb2.mono HU.out.size)
          clear hb2 c1 c2
          by_cases hneg : y - (x.size : Int) < 0
          · have HV : Hid (szV left s = -1) := HN2.out hneg
            rw [if_pos hneg]
            clear HN2 h6
            go_wp2
            go_ret
            exact ⟨by rw [HV.out]; rfl, HU2.out⟩
          · have d : decide (y - (x.size : Int) < 0) = false := decide_eq_false hneg
            rw [if_neg hneg]
            clear HN2
            go_wp2
            refine ⟨⟨k + 1, by omega, by go_num, by rw [h6], by omega, HU2⟩, by simp [intOf]; omega⟩
        · obtain rfl : k = n := by omega
          have HV := HY.out (by omega)
          go_wp2
          go_ret
          exact ⟨by rw [HV]; rfl, HU.out⟩
end Go.Proofs.Ytjjfdkmhoocfhaa.st
