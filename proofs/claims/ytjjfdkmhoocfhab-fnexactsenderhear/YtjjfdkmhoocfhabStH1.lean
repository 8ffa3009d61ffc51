/-
  The program's SenderHear: its closure, firstPlace, dropAhead. No condition.
-/
import Derived.Test.YtjjfdkmhoocfhabStQo
import Derived.Test.YtjjfdkmhoocfhabStV
import Derived.FnLit
namespace Go.Proofs.Ytjjfdkmhoocfhab.st
open Go.ChangeShapes Go.WideShapes Go.ChangeAt Go.RowKit
open Go.Proofs.Ytjjfdkmhoocfhab.wi (heap_lt calls_w wp_w)
open Classical
set_option linter.unusedVariables false

set_option maxHeartbeats 2000000 in
theorem drop_any (q g n cap k : Nat) (u : World) (h : rw.At u q #[.slice (some ⟨g, 0, none⟩) n cap] 69) (hk : k < n) (hc : n ≤ cap) :
    Calls Try.prog 31 #[.pointer (some ⟨q, 0, none⟩), .int .i64 (k : Int)] u fun e w' => e = .returned (.tuple #[]) ∧ w' = u.setCell ⟨q, 0, none⟩ (.slice (some ⟨g, k * 2, none⟩) (n - k) (cap - k)) := by
  have c0 : u.cell? ⟨q, 0, none⟩ = some (.slice (some ⟨g, 0, none⟩) n cap) := h.cell 0
  have f0 := fun j => h.frozen j
  have h1 : ¬ cap = k := by omega
  have h2 : k ≤ n := by omega
  go_enter Try.func31, Try.ntmps31
  go_wp2_with fail
  go_end0
  exact ⟨rfl, rfl⟩
theorem fits_any (p : Nat) (n a : Int) (t : ByteArray) (u : World) (hp : u.cell? ⟨p, 0, none⟩ = some (.int .i64 n)) :
    Calls Try.prog 30 #[.agg #[.int .i64 a, .string t], .pointer (some ⟨p, 0, none⟩)] u fun e w' => e = .returned (.bool (a == n)) ∧ Below u.heap.size u w' := by
  have HB : Hid (∀ o, Below u.heap.size u (u.alloc o)) := fun o => rw.up_alloc u o
  have c0 : ∀ o, (u.alloc o).cell? ⟨p, 0, none⟩ = some (.int .i64 n) := fun o => by
    have := World.block_lt_of_cell? u _ hp
    rw [(rw.up_alloc u o).cell (p := ⟨p, 0, none⟩) this]; exact hp
  go_enter Try.func30, Try.ntmps30
  go_wp2_with fail
  go_ret
  exact ⟨rfl, HB.out _⟩
/-- so far none is of that number -/
def NoneTo (l : List Ln) (n : Int) (k : Nat) : Prop := ∀ j, j < k → (l.getD j ln0).1 ≠ n
set_option maxHeartbeats 2000000 in
theorem place_any (q b off cap p : Nat) (l : List Ln) (n : Int) (w : World) (hl : l.length ≤ 1000) (hb : b < w.heap.size) (hq : rw.At w q #[.slice (some ⟨b, off, none⟩) l.length cap] 69) (hR : Row w b off l) (hp : w.cell? ⟨p, 0, none⟩ = some (.int .i64 n)) :
    Calls Try.prog 29 #[.pointer (some ⟨q, 0, none⟩), .func (.func 30) #[] #[.pointer (some ⟨p, 0, none⟩)]] w fun e w' => (∃ (k : Nat) (kn : Bool), e = .returned (.tuple #[.int .i64 k, .bool kn]) ∧ (kn = true → k < l.length ∧ NoneTo l n k ∧ (l.getD k ln0).1 = n) ∧ (kn = false → k = 0 ∧ NoneTo l n l.length)) ∧ Below w.heap.size w w' := by
  have c0 : w.cell? ⟨q, 0, none⟩ = some (.slice (some ⟨b, off, none⟩) l.length cap) := hq.cell 0
  have HR : Hid (∀ u, Below w.heap.size w u → ∀ k, k < l.length → u.cell? ⟨b, off + k * 2, none⟩ = some (.int .i64 (l.getD k ln0).1) ∧ u.cell? ⟨b, off + k * 2 + 1, none⟩ = some (.string (l.getD k ln0).2)) := fun u hu k hk => (hR.below hu hb) k hk
  have HP : Hid (∀ u, Below w.heap.size w u → u.cell? ⟨p, 0, none⟩ = some (.int .i64 n)) := fun u hu => by rw [hu.cell (p := ⟨p, 0, none⟩) (World.block_lt_of_cell? w _ hp)]; exact hp
  have HB : Hid (Below w.heap.size w w) := Below.refl _ _
  obtain ⟨m, hm⟩ : ∃ m, m = l.length := ⟨_, rfl⟩
  rw [← hm] at hl c0 HR ⊢
  clear hq hR hm hp
  go_enter Try.func29, Try.ntmps29
  go_wp2_with fail
  go_loopw [13] (fun i u => ∃ k : Nat, k ≤ m ∧ i = .int .i64 k ∧ Hid (NoneTo l n k) ∧ Hid (Below w.heap.size w u)) (fun i _ => m - (intOf i).toNat)
  case atStart => exact ⟨0, Nat.zero_le _, rfl, fun j h => by omega, HB⟩
  case round =>
    clear HB c0
    obtain ⟨k, hk, rfl, HN, HU⟩ := hrel
    by_cases hlt : k < m
    · obtain ⟨c1, c2⟩ := HR.out wr HU.out k hlt
      have HK : Hid ((l.getD k ln0).1 ≠ n → NoneTo l n (k + 1)) := fun h j hj => by
        by_cases e : j = k
        · subst e; exact h
        · exact HN.out j (by omega)
      have HE : Hid ((l.getD k ln0).1 = n → (l.getD k ln0).1 = n) := fun h => h
      obtain ⟨x, hx⟩ : ∃ x, x = (l.getD k ln0).2 := ⟨_, rfl⟩
      obtain ⟨z, hz'⟩ : ∃ z, z = (l.getD k ln0).1 := ⟨_, rfl⟩
      rw [← hx] at c2
      rw [← hz'] at c1 HK
      have HZ : Hid (z = (l.getD k ln0).1) := hz'
      clear hx hz' HE
      go_wp2_with (go_at_call 30; fail)
      refine calls_w (fun u => Below w.heap.size w u ∧ u.cell? ⟨p, 0, none⟩ = some (.int .i64 n)) ⟨HU.out.alloc HU.out.size _, HP.out _ (HU.out.alloc HU.out.size _)⟩ ?_
      clear HU c1 c2
      rintro u ⟨hu, hp⟩
      refine (fits_any p n z x u hp).mono ?_
      rintro r w3 ⟨rfl, hb3⟩
      have HB3 : Hid (Below w.heap.size w w3) := hu.trans (hb3.mono hu.size)
      clear hu hb3 hp
      by_cases e : z = n
      · have e1 : (z == n) = true := by simp [e]
        have HF : Hid (k < m ∧ NoneTo l n k ∧ (l.getD k ln0).1 = n) := ⟨hlt, HN.out, by rw [← HZ.out]; exact e⟩
        rw [e1]
        clear e e1 HN HK HZ
        go_wp2
        go_ret2
        exact ⟨⟨k, true, rfl, fun _ => HF.out, fun h => absurd h (by decide)⟩, HB3.out⟩
      · have e1 : (z == n) = false := by simp [e]
        have HF : Hid (NoneTo l n (k + 1)) := HK.out e
        rw [e1]
        clear e e1 HN HK HZ
        go_wp2
        exact ⟨⟨k + 1, by omega, by go_num, HF, HB3⟩, by simp [intOf]; omega⟩
    · obtain rfl : k = m := by omega
      have HF : Hid (NoneTo l n k) := HN.out
      clear HN
      go_wp2
      go_ret2
      exact ⟨⟨0, false, rfl, fun h => absurd h (by decide), fun _ => ⟨rfl, HF.out⟩⟩, HU.out⟩
end Go.Proofs.Ytjjfdkmhoocfhab.st
