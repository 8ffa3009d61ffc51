/-
  A new sender: the model's SenderNew and the program's. No condition.
-/
import Derived.Test.YtjjfdkmhoocfhaaOwnS
import Derived.Test.YtjjfdkmhoocfhaaJoin
namespace Go.Proofs.Ytjjfdkmhoocfhaa.st
open Go.ChangeShapes Go.WideShapes Go.ChangeAt Go.RowKit
open Go.Proofs.Ytjjfdkmhoocfhaa.wi (heap_lt calls_w wp_w)
open Classical
set_option linter.unusedVariables false

theorem infoSd : (Try.prog.info? 49).map (·.size) = some 1 := by kernel_rfl
/-- what a sender is handed back as: its states in a row of their own -/
def SndPost (w : World) (l : List Ln) (r : Ending) (w' : World) : Prop := ∃ v, r = .returned (.agg #[v]) ∧ Below w.heap.size w w' ∧ OwS w.heap.size v l w'
theorem OwS.one (u : World) (n : Int) (t : ByteArray) : OwS u.heap.size (.slice (some ⟨u.heap.size, 0, none⟩) 1 1) [(n, t)] (u.alloc (.cells #[.int .i64 n, .string t] 28)) :=
  ⟨rfl, .inr ⟨u.heap.size, 1, #[.int .i64 n, .string t], rfl, Nat.le_refl _, heap_alloc_new _ _, Nat.le_refl _, by decide, rfl, rfl⟩⟩
set_option maxHeartbeats 2000000 in
theorem newM_no (t : ByteArray) (w : World) (ht : t.size ≤ maxLen) (h : 400 < t.size) : Calls Try.prog 24 #[.string t] w (SndPost w []) := by
  have HB : Hid (∀ o, Below w.heap.size w (w.alloc o)) := fun o => (Below.refl _ _).alloc (Nat.le_refl _) o
  unfold maxLen at ht
  go_enter Try.func24, Try.ntmps24
  go_wp2
  exact bodyPost_ret (results_cell_row Try.results24 _ _ w.heap.size _ #[.slice none 0 0] _ _ rfl (heap_alloc_new _ _) Try.underlying49 rfl infoSd) rfl ⟨_, rfl, HB.out _, OwS.nil _ _⟩
set_option maxHeartbeats 2000000 in
theorem newI_no (t : ByteArray) (w : World) (ht : t.size ≤ maxLen) (h : 400 < t.size) : Calls Try.prog 25 #[.string t] w (SndPost w []) := by
  have HB : Hid (∀ o, Below w.heap.size w (w.alloc o)) := fun o => (Below.refl _ _).alloc (Nat.le_refl _) o
  unfold maxLen at ht
  go_enter Try.func25, Try.ntmps25
  go_wp2
  exact bodyPost_ret (results_cell_row Try.results25 _ _ w.heap.size _ #[.slice none 0 0] _ _ rfl (heap_alloc_new _ _) Try.underlying49 rfl infoSd) rfl ⟨_, rfl, HB.out _, OwS.nil _ _⟩
set_option maxHeartbeats 2000000 in
theorem newM_yes (t : ByteArray) (w : World) (h : t.size ≤ 400) : Calls Try.prog 24 #[.string t] w (SndPost w [(0, t)]) := by
  have h1 : ¬ 400 < t.size := by omega
  go_enter Try.func24, Try.ntmps24
  have HF : Hid ((fun W => rw.At W w.heap.size #[.slice (some ⟨w.heap.size + 1, 0, none⟩) 1 1] 49 ∧ Below w.heap.size w W ∧ OwS w.heap.size (.slice (some ⟨w.heap.size + 1, 0, none⟩) 1 1) [(0, t)] W) ((w.alloc (.cells #[.slice (some ⟨w.heap.size + 1, 0, none⟩) 1 1] 49)).alloc (.cells #[.int .i64 0, .string t] 28))) := by
    refine ⟨(Below.heap_alloc _ _ _ (by simp)).trans (heap_alloc_new _ _), ((Below.refl _ _).alloc (Nat.le_refl _) _).alloc (by simp) _, ?_⟩
    have := OwS.one (w.alloc (.cells #[.slice (some ⟨w.heap.size + 1, 0, none⟩) 1 1] 49)) 0 t
    rw [World.size_alloc] at this
    exact this.le (by omega)
  go_wp2_with fail
  obtain ⟨d1, d2, d3⟩ := HF.out
  exact bodyPost_ret (results_cell_row Try.results24 _ _ w.heap.size _ #[.slice (some ⟨w.heap.size + 1, 0, none⟩) 1 1] _ _ rfl d1 Try.underlying49 rfl infoSd) rfl ⟨_, rfl, d2, d3⟩
theorem joined1_at' (s : ByteArray) (g : Nat) (u : World) (h : rw.At u g #[.string s] 9) (hs : s.size ≤ 1099511627776) :
    Calls Try.prog 39 #[.slice (some ⟨g, 0, none⟩) 1 1] u fun e w' => e = .returned (.string s) ∧ Below u.heap.size u w' := by
  refine (jo.joined_any [s] g 1 u h.lt (by simp) (by rw [jo.total_one]; omega) (fun i hi => ?_)).mono ?_
  · match i, hi with
    | 0, _ => exact h.cell 0
  · rintro e w' ⟨rfl, hb⟩
    rw [jo.joinB_one]
    exact ⟨rfl, hb⟩
set_option maxHeartbeats 2000000 in
theorem newI_yes (t : ByteArray) (w : World) (h : t.size ≤ 400) : Calls Try.prog 25 #[.string t] w (SndPost w [(0, t)]) := by
  have h1 : ¬ 400 < t.size := by omega
  have HI : Hid ((fun W => Below w.heap.size w W ∧ rw.At W w.heap.size #[.slice none 0 0] 49 ∧ rw.At W (w.heap.size + 1) #[.string t] 9) ((w.alloc (.cells #[.slice none 0 0] 49)).alloc (.cells #[.string t] 9))) :=
    ⟨((Below.refl _ _).alloc (Nat.le_refl _) _).alloc (by simp) _, (Below.heap_alloc _ _ _ (by simp)).trans (heap_alloc_new _ _), by have := rw.At.new (w.alloc (.cells #[.slice none 0 0] 49)) #[.string t] 9; rwa [World.size_alloc] at this⟩
  go_enter Try.func25, Try.ntmps25
  go_wp2_with (go_at_call 39; fail)
  refine calls_w (fun W => Below w.heap.size w W ∧ rw.At W w.heap.size #[.slice none 0 0] 49 ∧ rw.At W (w.heap.size + 1) #[.string t] 9) HI.out ?_
  clear HI
  rintro u ⟨hu, hr, hg⟩
  refine (joined1_at' t _ u hg (by omega)).mono ?_
  rintro r w1 ⟨rfl, hb⟩
  replace hu := hu.trans (hb.mono hu.size)
  replace hr := hr.up hb
  clear hb hg
  have hlt := hr.lt
  have c0 : ∀ o, (w1.alloc o).cell? ⟨w.heap.size, 0, none⟩ = some (.slice none 0 0) := fun o => (hr.up (rw.up_alloc _ o)).cell 0
  have f0 : ∀ o k, (w1.alloc o).frozen? ⟨w.heap.size, k, none⟩ = false := fun o k => (hr.up (rw.up_alloc _ o)).frozen k
  have c1 := hr.cell 0
  have f1 := fun k => hr.frozen k
  have n1 : w.heap.size ≠ w1.heap.size := Nat.ne_of_lt hlt
  have HF : Hid ((fun W => rw.At W w.heap.size #[.slice (some ⟨w1.heap.size, 0, none⟩) 1 1] 49 ∧ Below w.heap.size w W ∧ OwS w.heap.size (.slice (some ⟨w1.heap.size, 0, none⟩) 1 1) [(0, t)] W) ((w1.setCell ⟨w.heap.size, 0, none⟩ (.slice (some ⟨w1.heap.size, 0, none⟩) 1 1)).alloc (.cells #[.int .i64 0, .string t] 28))) := by
    have hs := hu.setCell (p := ⟨w.heap.size, 0, none⟩) (Nat.le_refl _) (.slice (some ⟨w1.heap.size, 0, none⟩) 1 1)
    refine ⟨(hr.set 0 _).up (rw.up_alloc _ _), hs.alloc hs.size _, ?_⟩
    have := OwS.one (w1.setCell ⟨w.heap.size, 0, none⟩ (.slice (some ⟨w1.heap.size, 0, none⟩) 1 1)) 0 t
    have e : (w1.setCell ⟨w.heap.size, 0, none⟩ (.slice (some ⟨w1.heap.size, 0, none⟩) 1 1)).heap.size = w1.heap.size := by simp [World.setCell]
    rw [e] at this
    exact this.le (by omega)
  clear hr hu
  go_wp2_with fail
  obtain ⟨d1, d2, d3⟩ := HF.out
  exact bodyPost_ret (results_cell_row Try.results25 _ _ w.heap.size _ #[.slice (some ⟨w1.heap.size, 0, none⟩) 1 1] _ _ rfl d1 Try.underlying49 rfl infoSd) rfl ⟨_, rfl, d2, d3⟩
end Go.Proofs.Ytjjfdkmhoocfhaa.st
