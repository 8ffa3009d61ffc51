/-
  Ahead of the law on the stream: what is known of a text that is hidden; the draw of a place; what holds inside the law's great test.
-/
import Derived.Test.YtjnfeohcimcgmaaDoorDrawQuart
import Derived.Test.YtjnfeohcimcgmaaDoorChaTop
import Derived.Test.YtjnfeohcimcgmaaDoorChaIF
import Derived.Test.YtjnfeohcimcgmaaDoorChaIG
import Derived.Deep.RegionHeld2
import Derived.Deep.Cut
import Derived.Test.YtjnfeohcimcgmaaDoorChaQI
import Derived.Test.YtjnfeohcimcgmaaDoorChaLaws
namespace Go.Proofs.YtjnfeohcimcgmaaDoor.cc
open Go.ChangeShapes Go.WideShapes Go.ChangeAt Go.RowKit
open Go.Proofs.YtjnfeohcimcgmaaDoor.sh (U wr_U)
open Go.Proofs.YtjnfeohcimcgmaaDoor.dr (Codes)
open Go.Proofs.YtjnfeohcimcgmaaDoor.ds
set_option linter.unusedVariables false

def zeros64 : ByteArray := ⟨(List.replicate 64 (0 : UInt8)).toArray⟩
theorem zeros64_size : zeros64.size = 64 := rfl
theorem block_zeros (key : ByteArray) (n : Int) (nonce : ByteArray) : cipherA key n nonce zeros64 = blockA key n nonce := by
  by_cases h : key.size = 32 ∧ nonce.size = 12 ∧ 0 ≤ n ∧ n ≤ 4294967295
  · rw [blockA_yes h, cipherA_yes ⟨h.1, h.2.1, h.2.2, by rw [zeros64_size]; omega⟩]
    show (⟨(cipherL _ _ _ (List.replicate 64 0)).toArray⟩ : ByteArray) = _
    rw [cipherL_zeros _ _ _ h.2.2]
    rfl
  · rw [blockA_no h, cipherA_no (fun g => h ⟨g.1, g.2.1, g.2.2.1⟩)]
theorem bytes_ext {a b : ByteArray} (h : a.data.toList = b.data.toList) : a = b := by
  cases a; cases b; simp only [ByteArray.mk.injEq]; exact Array.ext' h
theorem toList_dataS (s : ByteArray) : s.toList = s.data.toList := ByteArray.toList_eq s
theorem extract_data (s : ByteArray) (a b : Nat) : (s.extract a b).data.toList = (s.data.toList.drop a).take (b - a) := by
  simp [ByteArray.data_extract]
/-- what is known where something is hidden -/
theorem cipher_some {key : ByteArray} {n : Int} {nonce t : ByteArray} (h : cipherA key n nonce t ≠ ⟨#[]⟩) : key.size = 32 ∧ nonce.size = 12 ∧ (0 ≤ n ∧ n ≤ 4294967295) ∧ t.size ≤ 8000 := by
  by_cases hc : key.size = 32 ∧ nonce.size = 12 ∧ (0 ≤ n ∧ n ≤ 4294967295) ∧ t.size ≤ 8000
  · exact hc
  · exact absurd (cipherA_no hc) h
theorem cipher_size {key : ByteArray} {n : Int} {nonce t : ByteArray} (h : cipherA key n nonce t ≠ ⟨#[]⟩) : (cipherA key n nonce t).size = t.size := by
  rw [cipherA_yes (cipher_some h)]
  show (List.toArray _).size = _
  rw [List.size_toArray, cipherL_length, Array.length_toList]
  rfl
theorem cipher_twice {key : ByteArray} {n : Int} {nonce t : ByteArray} (h : cipherA key n nonce t ≠ ⟨#[]⟩) : cipherA key n nonce (cipherA key n nonce t) = t := by
  have hc := cipher_some h
  have hs := cipher_size h
  rw [cipherA_yes (t := cipherA key n nonce t) ⟨hc.1, hc.2.1, hc.2.2.1, by rw [hs]; exact hc.2.2.2⟩]
  apply bytes_ext
  rw [cipherA_yes hc]
  simp only [cipherL_twice]
theorem cipher_take {key : ByteArray} {n : Int} {nonce t : ByteArray} (h : cipherA key n nonce t ≠ ⟨#[]⟩) (k : Nat) (hk : k ≤ t.size) : cipherA key n nonce (t.extract 0 k) = (cipherA key n nonce t).extract 0 k := by
  have hc := cipher_some h
  have hs : (t.extract 0 k).size = k := by simp; omega
  rw [cipherA_yes ⟨hc.1, hc.2.1, hc.2.2.1, by have := hc.2.2.2; omega⟩]
  apply bytes_ext
  rw [extract_data, cipherA_yes hc]
  simp only [extract_data, List.drop_zero, Nat.sub_zero, cipherL_take]
theorem cipher_drop {key : ByteArray} {n : Int} {nonce t : ByteArray} (h : cipherA key n nonce t ≠ ⟨#[]⟩) (hn : n < 4294967295) : cipherA key (n + 1) nonce (t.extract 64 t.size) = (cipherA key n nonce t).extract 64 (cipherA key n nonce t).size := by
  have hc := cipher_some h
  have hsz := cipher_size h
  have hs : (t.extract 64 t.size).size ≤ 8000 := by have := hc.2.2.2; simp; omega
  rw [cipherA_yes ⟨hc.1, hc.2.1, ⟨by have := hc.2.2.1.1; omega, by omega⟩, hs⟩]
  apply bytes_ext
  rw [extract_data, hsz, cipherA_yes hc]
  simp only [extract_data]
  rw [cipherL_take, cipherL_drop]
theorem zconv {u w' : World} (hb : Below (u.alloc (.cells (madeCells #[.int .u8 0] 64) 5)).heap.size (u.alloc (.cells (madeCells #[.int .u8 0] 64) 5)) w') :
    (convert 22 9 (.slice (some ⟨u.heap.size, 0, none⟩) 64 64)).run Tryd.prog w' = .ok (.string zeros64) w' := by
  have h := run_convert_bytes_back (P := Tryd.prog) w' 22 9 5 ⟨u.heap.size, 0, none⟩ 64 (List.replicate 64 (0 : UInt8)) Tryd.underlying22 Tryd.underlying5 Tryd.underlying9 (fun j hj => by
    have e : (⟨u.heap.size, 0, none⟩ : Addr).add j = ⟨u.heap.size, j, none⟩ := by unfold Addr.add; split <;> simp_all
    have hj' : j < 64 := by simpa using hj
    rw [e, hb.cell (p := ⟨u.heap.size, j, none⟩) (by show u.heap.size < _; simp), cell_of_row _ _ _ _ _ _ (heap_alloc_new _ _), madeRowB, List.getElem?_toArray, List.getElem?_replicate, if_pos hj', List.getElem_replicate]
    rfl)
  exact h
theorem lwAt_any (a : Option Addr) (len cap : Nat) (m : Nat) (w : World) (hC : Codes w w.heap.size a len) (hm : m ≤ 1000) :
    Calls Tryd.prog 33 #[.slice a len cap, .int .i64 0, .int .i64 (m : Int)] w fun e w' => ∃ k : Nat, e = .returned (.int .i64 (k : Int)) ∧ k ≤ m ∧ Below w.heap.size w w' := by
  have hl := hC.1
  by_cases h1 : m ≤ 1
  · go_enter Tryd.func33, Tryd.ntmps33
    go_wp2
    go_ret
    exact ⟨0, rfl, by omega, Below.refl _ _⟩
  · by_cases h0 : len = 0
    · subst h0
      go_enter Tryd.func33, Tryd.ntmps33
      go_wp2
      go_ret
      exact ⟨0, rfl, by omega, Below.refl _ _⟩
    · obtain ⟨_, h | ⟨b, off, rfl, hb, hc⟩⟩ := hC
      · omega
      · obtain ⟨z, hz, z0, z1⟩ := hc 0 (by omega)
        have e0 : ((0 : Int).tmod (len : Int)) = 0 := by simp
        have hz' : w.cell? ⟨b, off, none⟩ = some (.int .u8 z) := hz
        have hne : ((len : Int) == 0) = false := by simp; omega
        have hlen : (0 : Int) < (len : Int) := by omega
        have hm1 : (1 : Int) < (m : Int) := by omega
        have hmne : ¬ ((m : Int) = 0) := by omega
        have hlne : ¬ ((len : Int) = 0) := by omega
        have er : z.tmod (m : Int) = z % (m : Int) := Int.tmod_eq_emod_of_nonneg z0
        have r0 : 0 ≤ z % (m : Int) := Int.emod_nonneg _ hmne
        have r1 : z % (m : Int) < (m : Int) := Int.emod_lt_of_pos _ (by omega)
        go_enter Tryd.func33, Tryd.ntmps33
        go_wp2
        go_ret
        generalize z % (m : Int) = r at *
        exact ⟨r.toNat, congrArg (fun y => Ending.returned (.int .i64 y)) (by omega), by omega, Below.refl _ _⟩

/-- what is known inside the great test: the four numbers lie in their block -/
def InSt (w : World) (g : Nat) (q0 q1 q2 q3 : Int) (u : World) : Prop := Below w.heap.size w u ∧ u.heap[g]? = some (.cells #[.int .i64 q0, .int .i64 q1, .int .i64 q2, .int .i64 q3] 47 (0, 0))
theorem InSt.up {w u u' : World} {g : Nat} {q0 q1 q2 q3 : Int} (h : InSt w g q0 q1 q2 q3 u) (hb : Below u.heap.size u u') : InSt w g q0 q1 q2 q3 u' := ⟨h.1.trans (hb.mono h.1.size), (hb.block _ (lt_of h.2)).trans h.2⟩
theorem InSt.alloc {w u : World} {g : Nat} {q0 q1 q2 q3 : Int} (h : InSt w g q0 q1 q2 q3 u) (o : Obj) : InSt w g q0 q1 q2 q3 (u.alloc o) := ⟨h.1.alloc h.1.size _, (Below.heap_alloc _ _ _ (lt_of h.2)).trans h.2⟩
theorem InSt.drew {w u : World} {g : Nat} {q0 q1 q2 q3 : Int} (h : InSt w g q0 q1 q2 q3 u) : InSt w g q0 q1 q2 q3 u.drew := ⟨h.1.drew, h.2⟩


theorem InSt.below {w u : World} {g : Nat} {q0 q1 q2 q3 : Int} (h : InSt w g q0 q1 q2 q3 u) : Below w.heap.size w u := h.1
theorem InSt.cells {w u : World} {g : Nat} {q0 q1 q2 q3 : Int} (h : InSt w g q0 q1 q2 q3 u) : InSt w g q0 q1 q2 q3 u ∧ u.cell? ⟨g, 0, none⟩ = some (.int .i64 q0) ∧ u.cell? ⟨g, 1, none⟩ = some (.int .i64 q1) ∧ u.cell? ⟨g, 2, none⟩ = some (.int .i64 q2) ∧ u.cell? ⟨g, 3, none⟩ = some (.int .i64 q3) := by
  obtain ⟨k0, k1, k2, k3, _⟩ := cellsF h.2
  exact ⟨h, k0, k1, k2, k3⟩
end Go.Proofs.YtjnfeohcimcgmaaDoor.cc
