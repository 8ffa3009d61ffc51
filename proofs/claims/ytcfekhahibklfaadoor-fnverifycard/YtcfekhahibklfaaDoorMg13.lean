/-
  The program's chainedBy (the maker), cut, firstOf, markOf, logRight: what the plain functions tell; no old block turns. No condition.
  The program's cut, markOf: what the plain functions tell; no old block turns. No condition.
  The program's logRight at every slice of texts: what a plain condition tells; nothing turns. No condition.
-/
import Derived.Test.YtcfekhahibklfaaDoorMg12
namespace Go.Proofs.YtcfekhahibklfaaDoor.li
open Go.ChangeShapes Go.WideShapes Go.ChangeAt Go.RowKit
open Go.Proofs.YtcfekhahibklfaaDoor.wi (heap_lt calls_w wp_w)
open Go.Proofs.YtcfekhahibklfaaDoor.lg Go.Proofs.YtcfekhahibklfaaDoor.ss
set_option linter.unusedVariables false

/-- a slice of texts in a variable of its own -/
def boxL (v : Value) : Obj := .cells #[v] 23
theorem chainedBy_any (key : ByteArray) (p : Option Addr) (n cap : Nat) (w : World) : Calls Tryd.prog 36 #[.string key, .slice p n cap] w fun e w' =>
    e = .returned (.func (.func 64) #[] #[.pointer (some ⟨w.heap.size, 0, none⟩), .pointer (some ⟨w.heap.size + 1, 0, none⟩)]) ∧ w' = (w.alloc (boxT key)).alloc (boxL (.slice p n cap)) := by
  go_enter Tryd.func36, Tryd.ntmps36
  go_wp2
  go_ret
  exact ⟨rfl, rfl⟩
theorem firstOf_any (p : Option Addr) (len cap n : Nat) (w : World) (hn : n ≤ cap) (hc : cap ≤ maxLen) : Calls Tryd.prog 55 #[.slice p len cap, .int .i64 n] w fun e w' =>
    e = .returned (.slice p n n) ∧ w' = w := by
  unfold maxLen at hc
  go_enter Tryd.func55, Tryd.ntmps55
  go_wp2
  go_ret
  exact ⟨rfl, rfl⟩
end Go.Proofs.YtcfekhahibklfaaDoor.li

namespace Go.Proofs.YtcfekhahibklfaaDoor.li
open Go.ChangeShapes Go.WideShapes Go.ChangeAt Go.RowKit
open Go.Proofs.YtcfekhahibklfaaDoor.wi (heap_lt calls_w wp_w)
open Go.Proofs.YtcfekhahibklfaaDoor.lg Go.Proofs.YtcfekhahibklfaaDoor.ss
set_option linter.unusedVariables false

theorem cut_any (g len cap : Nat) (i j : Nat) (w : World) (hij : i < j) (hn : j ≤ cap) (hc : cap ≤ maxLen) : Calls Tryd.prog 66 #[.slice (some ⟨g, 0, none⟩) len cap, .int .i64 i, .int .i64 j] w fun e w' =>
    e = .returned (.slice (some ⟨g, i, none⟩) (j - i) (j - i)) ∧ w' = w := by
  unfold maxLen at hc
  have hne : ¬ j = i := by omega
  go_enter Tryd.func66, Tryd.ntmps66
  go_wp2
  go_ret
  exact ⟨rfl, rfl⟩
/-- the bytes of a text in a block of their own -/
def RowT (W : World) (g : Nat) (s : ByteArray) : Prop := ∀ j (hj : j < s.data.toList.length), W.cell? ⟨g, j, none⟩ = some (.int .u8 (s.data.toList[j].toNat : Int))
theorem RowT.below {W u : World} {g B : Nat} {s : ByteArray} (h : RowT W g s) (hb : Below B W u) (hB : g < B) : RowT u g s := fun j hj => (hb.cell (p := ⟨g, j, none⟩) hB).trans (h j hj)
theorem bytes_of (s : ByteArray) (u : World) (hs : s.size ≤ 8000) : ∃ (cap : Nat) (W : World), (convert 9 22 (.string s)).run Tryd.prog u = .ok (.slice (some ⟨u.heap.size, 0, none⟩) s.size cap) W ∧ s.size ≤ cap ∧ cap ≤ maxLen ∧ RowT W u.heap.size s ∧ Below u.heap.size u W ∧ u.heap.size < W.heap.size := by
  refine ⟨_, _, run_bytes_of_string (P := Tryd.prog) u 9 22 5 s Tryd.underlying9 Tryd.underlying22 Tryd.underlying5, grownCap_ge _ _ _ _, grownCap_le_maxLen _ _ _ _ (by unfold maxLen; omega), ?_, ((Below.refl _ _).drew).alloc (Nat.le_refl _) _, by simp⟩
  intro j hj
  have hj' : j < s.data.size := by simpa using hj
  have h := World.cell?_alloc_mark u.drew (bytesRow s (grownCap u s.size 0 5)) 5 ((bytesRow s (grownCap u s.size 0 5)).size, (bytesRow s (grownCap u s.size 0 5)).size + 1) j
  rw [bytesRow_at s _ j hj'] at h
  simpa using h
set_option maxRecDepth 20000 in
theorem piece_conv {W : World} {g i n : Nat} {s : ByteArray} (h : RowT W g s) (hn : i + n ≤ s.size) (cap : Nat) : (convert 22 9 (.slice (some ⟨g, i, none⟩) n cap)).run Tryd.prog W = .ok (.string (s.extract i (i + n))) W := by
  have hd : s.data.toList.length = s.size := by simp
  have hlen : ((s.data.toList.drop i).take n).length = n := by rw [List.length_take, List.length_drop, hd]; omega
  have h2 := run_convert_bytes_back (P := Tryd.prog) W 22 9 5 ⟨g, i, none⟩ cap ((s.data.toList.drop i).take n) Tryd.underlying22 Tryd.underlying5 Tryd.underlying9 (fun j hj => by
    rw [hlen] at hj
    have e : (⟨g, i, none⟩ : Addr).add j = ⟨g, i + j, none⟩ := by unfold Addr.add; split <;> simp_all
    rw [e, h (i + j) (by omega)]
    simp)
  rw [hlen] at h2
  rw [h2]
  congr 2
  apply ByteArray.ext
  apply Array.ext'
  rw [ByteArray.data_extract, Array.toList_extract]
  simp
set_option maxRecDepth 20000 in
set_option maxHeartbeats 4000000 in
theorem markI_any (c : ByteArray) (w : World) (h8 : 8 ≤ c.size) (hc : c.size ≤ 8000) : Calls Tryd.prog 38 #[.string c] w fun e w' => e = .returned (.string (c.extract 0 8)) ∧ Below w.heap.size w w' := by
  obtain ⟨cap, W, hrun, hcap, hmax, hrow, hb, hlt⟩ := bytes_of c w hc
  have hconv := piece_conv (i := 0) (n := 8) hrow (by omega) 8
  have HC : Hid (∀ u, Calls Tryd.prog 66 #[.slice (some ⟨w.heap.size, 0, none⟩) c.size cap, .int .i64 0, .int .i64 8] u fun e w' => e = .returned (.slice (some ⟨w.heap.size, 0, none⟩) 8 8) ∧ w' = u) := fun u => cut_any w.heap.size c.size cap 0 8 u (by omega) (by omega) hmax
  obtain ⟨y, hy⟩ : ∃ y, y = c.extract 0 8 := ⟨_, rfl⟩
  rw [Nat.zero_add, ← hy] at hconv
  rw [← hy]
  clear hy hmax hrow
  go_enter Tryd.func38, Tryd.ntmps38
  go_wp2_with (go_at_call 66; (with_reducible refine (HC.out _).mono ?_); rintro r w' ⟨rfl, hw'⟩; obtain rfl := hw'.symm)
  go_ret
  exact ⟨rfl, hb⟩
end Go.Proofs.YtcfekhahibklfaaDoor.li

namespace Go.Proofs.YtcfekhahibklfaaDoor.li
open Go.ChangeShapes Go.WideShapes Go.ChangeAt Go.RowKit
open Go.Proofs.YtcfekhahibklfaaDoor.wi (heap_lt calls_w wp_w)
open Go.Proofs.YtcfekhahibklfaaDoor.lg Go.Proofs.YtcfekhahibklfaaDoor.ss
set_option linter.unusedVariables false

/-- records that may be a log's -/
def RecsR (l : List ByteArray) : Prop := (∀ r ∈ l, r.size ≤ 200) ∧ l.length ≤ 60
theorem at_getDI {l : List ByteArray} {k : Nat} (h : k < l.length) : l.getD k ⟨#[]⟩ ∈ l := by
  rw [getD_at h]; exact List.getElem_mem h
set_option maxHeartbeats 4000000 in
theorem logI_yes (v : Value) (l : List ByteArray) (w : World) (h : RecsR l) (hv : SliceIs w v l) :
    Calls Tryd.prog 35 #[v] w fun r w' => r = .returned (.bool true) ∧ w' = w := by
  obtain ⟨h1, h3⟩ := h
  rcases hv with ⟨p, cap, rfl, rfl⟩ | ⟨b, off, cap, hb, rfl, hR⟩
  · go_enter Tryd.func35, Tryd.ntmps35
    go_wp2
    refine wp_loop_rounds 1 ?_
    rw [rounds_succ]
    go_wp2
    go_ret
    exact ⟨rfl, rfl⟩
  · have HR : Hid (Row w b off l) := hR
    have HZ : Hid (∀ k, k < l.length → (l.getD k ⟨#[]⟩).size ≤ 200) := fun k hk => h1 _ (at_getDI hk)
    clear hR h1
    obtain ⟨n, hn⟩ : ∃ n, n = l.length := ⟨_, rfl⟩
    have HRn : Hid (∀ k, k < n → w.cell? ⟨b, off + k, none⟩ = some (.string (l.getD k ⟨#[]⟩))) := fun k hk => HR.out k (by omega)
    rw [← hn] at h3 HZ ⊢
    clear hn HR
    go_enter Tryd.func35, Tryd.ntmps35
    go_wp2
    go_loop [4, 10] (fun _ i => ∃ k : Nat, k ≤ n ∧ i = .int .i64 k) (fun _ i => n - (intOf i).toNat)
    case atStart => exact ⟨0, Nat.zero_le _, rfl⟩
    case round =>
      obtain ⟨k, hk, rfl⟩ := hrel
      by_cases hlt : k < n
      · have c1 : w.cell? ⟨b, off + k, none⟩ = some (.string (l.getD k ⟨#[]⟩)) := HRn.out k hlt
        have hx200 := HZ.out k hlt
        obtain ⟨x, hx⟩ : ∃ x, x = l.getD k ⟨#[]⟩ := ⟨_, rfl⟩
        rw [← hx] at c1 hx200
        have HC : Hid (∀ u, Calls Tryd.prog 50 #[.string x] u fun e w' => e = .returned (.bool true) ∧ w' = u) := fun u => by
          have := recI_any x u (by unfold maxLen; omega)
          rwa [decide_eq_true hx200] at this
        clear hx HZ hx200
        go_wp2_with (go_at_call 50; (with_reducible refine (HC.out _).mono ?_); rintro r w' ⟨rfl, hw'⟩; obtain rfl := hw'.symm)
        exact ⟨⟨k + 1, by omega, by go_num⟩, by simp [intOf]; omega⟩
      · obtain rfl : k = n := by omega
        go_wp2
        go_ret
        exact ⟨rfl, rfl⟩
set_option maxHeartbeats 4000000 in
theorem logI_no (v : Value) (l : List ByteArray) (w : World) (hl : l.length ≤ maxLen) (hz : ∀ r ∈ l, r.size ≤ maxLen) (h : ¬ RecsR l) (hv : SliceIs w v l) :
    Calls Tryd.prog 35 #[v] w fun r w' => r = .returned (.bool false) ∧ w' = w := by
  unfold maxLen at hl
  rcases hv with ⟨p, cap, rfl, rfl⟩ | ⟨b, off, cap, hb, rfl, hR⟩
  · exact absurd ⟨fun r hr => by simp at hr, by simp⟩ h
  · by_cases h60 : l.length ≤ 60
    · have HR : Hid (Row w b off l) := hR
      have HZ : Hid (∀ k, k < l.length → (l.getD k ⟨#[]⟩).size ≤ maxLen) := fun k hk => hz _ (at_getDI hk)
      have HE : Hid (∀ k, (∀ j, j < k → (l.getD j ⟨#[]⟩).size ≤ 200) → k = l.length → False) := fun k h1 hk => h ⟨fun r hr => by
        obtain ⟨j, hj, rfl⟩ := List.mem_iff_getElem.1 hr
        have := h1 j (by omega)
        rwa [getD_at hj] at this, h60⟩
      clear hR hz h
      obtain ⟨n, hn⟩ : ∃ n, n = l.length := ⟨_, rfl⟩
      have HRn : Hid (∀ k, k < n → w.cell? ⟨b, off + k, none⟩ = some (.string (l.getD k ⟨#[]⟩))) := fun k hk => HR.out k (by omega)
      rw [← hn] at hl h60 HZ HE ⊢
      clear hn HR
      go_enter Tryd.func35, Tryd.ntmps35
      go_wp2
      go_loop [4, 10] (fun _ i => ∃ k : Nat, k ≤ n ∧ i = .int .i64 k ∧ Hid (∀ j, j < k → (l.getD j ⟨#[]⟩).size ≤ 200)) (fun _ i => n - (intOf i).toNat)
      case atStart => exact ⟨0, Nat.zero_le _, rfl, fun j hj => by omega⟩
      case round =>
        obtain ⟨k, hk2, rfl, HA⟩ := hrel
        by_cases hlt : k < n
        · have c1 : w.cell? ⟨b, off + k, none⟩ = some (.string (l.getD k ⟨#[]⟩)) := HRn.out k hlt
          have hxm := HZ.out k hlt
          obtain ⟨x, hx⟩ : ∃ x, x = l.getD k ⟨#[]⟩ := ⟨_, rfl⟩
          rw [← hx] at c1 hxm
          by_cases hx200 : x.size ≤ 200
          · have HC : Hid (∀ u, Calls Tryd.prog 50 #[.string x] u fun e w' => e = .returned (.bool true) ∧ w' = u) := fun u => by
              have := recI_any x u hxm
              rwa [decide_eq_true hx200] at this
            have HA' : Hid (∀ j, j < k + 1 → (l.getD j ⟨#[]⟩).size ≤ 200) := fun j hj => by
              by_cases e : j = k
              · rw [e, ← hx]; exact hx200
              · exact HA.out j (by omega)
            clear hx HZ hx200 hxm HA HE
            go_wp2_with (go_at_call 50; (with_reducible refine (HC.out _).mono ?_); rintro r w' ⟨rfl, hw'⟩; obtain rfl := hw'.symm)
            exact ⟨⟨k + 1, by omega, by go_num, HA'⟩, by simp [intOf]; omega⟩
          · have HC : Hid (∀ u, Calls Tryd.prog 50 #[.string x] u fun e w' => e = .returned (.bool false) ∧ w' = u) := fun u => by
              have := recI_any x u hxm
              rwa [decide_eq_false hx200] at this
            clear hx HZ hx200 hxm HA HE
            go_wp2_with (go_at_call 50; (with_reducible refine (HC.out _).mono ?_); rintro r w' ⟨rfl, hw'⟩; obtain rfl := hw'.symm)
            go_ret
            exact ⟨rfl, rfl⟩
        · exact (HE.out k HA.out (by omega)).elim
    · obtain ⟨n, hn⟩ : ∃ n, n = l.length := ⟨_, rfl⟩
      rw [← hn] at hl h60 ⊢
      clear hn hR hz h
      go_enter Tryd.func35, Tryd.ntmps35
      go_wp2
      go_ret
      exact ⟨rfl, rfl⟩
end Go.Proofs.YtcfekhahibklfaaDoor.li
