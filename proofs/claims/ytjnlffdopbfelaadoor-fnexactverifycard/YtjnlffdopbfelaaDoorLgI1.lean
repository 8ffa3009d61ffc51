/-
  The program's chainedBy (the maker), cut, firstOf, markOf, logRight: what the plain functions tell; no old block turns. No condition.
-/
import Derived.Test.YtjnlffdopbfelaaDoorLgI0
namespace Go.Proofs.YtjnlffdopbfelaaDoor.li
open Go.ChangeShapes Go.WideShapes Go.ChangeAt Go.RowKit
open Go.Proofs.YtjnlffdopbfelaaDoor.wi (heap_lt calls_w wp_w)
open Go.Proofs.YtjnlffdopbfelaaDoor.lg Go.Proofs.YtjnlffdopbfelaaDoor.ss
set_option linter.unusedVariables false

/-- a slice of texts in a variable of its own -/
def boxL (v : Value) : Obj := .cells #[v] 26
theorem chainedBy_any (key : ByteArray) (p : Option Addr) (n cap : Nat) (w : World) : Calls Tryd.prog 40 #[.string key, .slice p n cap] w fun e w' =>
    e = .returned (.func (.func 59) #[] #[.pointer (some ⟨w.heap.size, 0, none⟩), .pointer (some ⟨w.heap.size + 1, 0, none⟩)]) ∧ w' = (w.alloc (boxT key)).alloc (boxL (.slice p n cap)) := by
  go_enter Tryd.func40, Tryd.ntmps40
  go_wp2
  go_ret
  exact ⟨rfl, rfl⟩
theorem firstOf_any (p : Option Addr) (len cap n : Nat) (w : World) (hn : n ≤ cap) (hc : cap ≤ maxLen) : Calls Tryd.prog 52 #[.slice p len cap, .int .i64 n] w fun e w' =>
    e = .returned (.slice p n n) ∧ w' = w := by
  unfold maxLen at hc
  go_enter Tryd.func52, Tryd.ntmps52
  go_wp2
  go_ret
  exact ⟨rfl, rfl⟩
theorem cut_any (g len cap : Nat) (i j : Nat) (w : World) (hij : i < j) (hn : j ≤ cap) (hc : cap ≤ maxLen) : Calls Tryd.prog 61 #[.slice (some ⟨g, 0, none⟩) len cap, .int .i64 i, .int .i64 j] w fun e w' =>
    e = .returned (.slice (some ⟨g, i, none⟩) (j - i) (j - i)) ∧ w' = w := by
  unfold maxLen at hc
  have hne : ¬ j = i := by omega
  go_enter Tryd.func61, Tryd.ntmps61
  go_wp2
  go_ret
  exact ⟨rfl, rfl⟩
/-- the bytes of a text in a block of their own -/
def RowT (W : World) (g : Nat) (s : ByteArray) : Prop := ∀ j (hj : j < s.data.toList.length), W.cell? ⟨g, j, none⟩ = some (.int .u8 (s.data.toList[j].toNat : Int))
theorem RowT.below {W u : World} {g B : Nat} {s : ByteArray} (h : RowT W g s) (hb : Below B W u) (hB : g < B) : RowT u g s := fun j hj => (hb.cell (p := ⟨g, j, none⟩) hB).trans (h j hj)
theorem bytes_of (s : ByteArray) (u : World) (hs : s.size ≤ 8000) : ∃ (cap : Nat) (W : World), (convert 9 69 (.string s)).run Tryd.prog u = .ok (.slice (some ⟨u.heap.size, 0, none⟩) s.size cap) W ∧ s.size ≤ cap ∧ cap ≤ maxLen ∧ RowT W u.heap.size s ∧ Below u.heap.size u W ∧ u.heap.size < W.heap.size := by
  refine ⟨_, _, run_bytes_of_string (P := Tryd.prog) u 9 69 5 s Tryd.underlying9 Tryd.underlying69 Tryd.underlying5, grownCap_ge _ _ _ _, grownCap_le_maxLen _ _ _ _ (by unfold maxLen; omega), ?_, ((Below.refl _ _).drew).alloc (Nat.le_refl _) _, by simp⟩
  intro j hj
  have hj' : j < s.data.size := by simpa using hj
  have h := World.cell?_alloc_mark u.drew (bytesRow s (grownCap u s.size 0 5)) 5 ((bytesRow s (grownCap u s.size 0 5)).size, (bytesRow s (grownCap u s.size 0 5)).size + 1) j
  rw [bytesRow_at s _ j hj'] at h
  simpa using h
set_option maxRecDepth 20000 in
theorem piece_conv {W : World} {g i n : Nat} {s : ByteArray} (h : RowT W g s) (hn : i + n ≤ s.size) (cap : Nat) : (convert 69 9 (.slice (some ⟨g, i, none⟩) n cap)).run Tryd.prog W = .ok (.string (s.extract i (i + n))) W := by
  have hd : s.data.toList.length = s.size := by simp
  have hlen : ((s.data.toList.drop i).take n).length = n := by rw [List.length_take, List.length_drop, hd]; omega
  have h2 := run_convert_bytes_back (P := Tryd.prog) W 69 9 5 ⟨g, i, none⟩ cap ((s.data.toList.drop i).take n) Tryd.underlying69 Tryd.underlying5 Tryd.underlying9 (fun j hj => by
    rw [hlen] at hj
    have e : (⟨g, i, none⟩ : Addr).add j = ⟨g, i + j, none⟩ := by unfold Addr.add; split <;> simp_all
    rw [e, h (i + j) (by omega)]
    simp)
  rw [hlen] at h2
  rw [h2]
  congr 2
  apply ByteArray.ext
  apply Array.ext'
  rw [ByteArray.data_extract, Array.toList_extract]
  simp
set_option maxRecDepth 20000 in
set_option maxHeartbeats 4000000 in
theorem markI_any (c : ByteArray) (w : World) (h8 : 8 ≤ c.size) (hc : c.size ≤ 8000) : Calls Tryd.prog 42 #[.string c] w fun e w' => e = .returned (.string (c.extract 0 8)) ∧ Below w.heap.size w w' := by
  obtain ⟨cap, W, hrun, hcap, hmax, hrow, hb, hlt⟩ := bytes_of c w hc
  have hconv := piece_conv (i := 0) (n := 8) hrow (by omega) 8
  have HC : Hid (∀ u, Calls Tryd.prog 61 #[.slice (some ⟨w.heap.size, 0, none⟩) c.size cap, .int .i64 0, .int .i64 8] u fun e w' => e = .returned (.slice (some ⟨w.heap.size, 0, none⟩) 8 8) ∧ w' = u) := fun u => cut_any w.heap.size c.size cap 0 8 u (by omega) (by omega) hmax
  obtain ⟨y, hy⟩ : ∃ y, y = c.extract 0 8 := ⟨_, rfl⟩
  rw [Nat.zero_add, ← hy] at hconv
  rw [← hy]
  clear hy hmax hrow
  go_enter Tryd.func42, Tryd.ntmps42
  go_wp2_with (go_at_call 61; (with_reducible refine (HC.out _).mono ?_); rintro r w' ⟨rfl, hw'⟩; obtain rfl := hw'.symm)
  go_ret
  exact ⟨rfl, hb⟩
end Go.Proofs.YtjnlffdopbfelaaDoor.li
