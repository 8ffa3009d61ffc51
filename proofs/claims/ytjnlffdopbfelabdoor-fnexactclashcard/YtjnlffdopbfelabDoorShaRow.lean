/-
  Rows of bytes that a call makes of a text and goes on from by append: what they hold, whatever room they have; no old block turns.
-/
import Derived.Test.YtjnlffdopbfelabDoorShaOne
import Derived.ArgAppend
namespace Go.Proofs.YtjnlffdopbfelabDoor.sa
open Go.ChangeShapes Go.WideShapes Go.ChangeAt Go.RowKit sh
set_option linter.unusedVariables false

/-- a row of the call's own that holds these bytes -/
def Row8 (B : Nat) (w : World) (v : Value) (L : List UInt8) : Prop :=
  ∃ g cap, v = .slice (some ⟨g, 0, none⟩) L.length cap ∧ B ≤ g ∧ L.length ≤ cap ∧ (∀ j (h : j < L.length), w.cell? ⟨g, j, none⟩ = some (.int .u8 (L[j].toNat : Int))) ∧ (∀ j, j < cap → (w.cell? ⟨g, j, none⟩).isSome = true ∧ w.frozen? ⟨g, j, none⟩ = false)
theorem Row8.alloc {B : Nat} {w : World} {v : Value} {L : List UInt8} (h : Row8 B w v L) (o : Obj) : Row8 B (w.alloc o) v L := by
  obtain ⟨g, cap, hv, hB, hl, hc, hs⟩ := h
  have key : ∀ j u, w.cell? ⟨g, j, none⟩ = some u → (w.alloc o).cell? ⟨g, j, none⟩ = some u := fun j u hu => by
    rw [World.cell?_alloc_lt _ _ _ (World.block_lt_of_cell? w _ hu)]; exact hu
  refine ⟨g, cap, hv, hB, hl, fun j hj => key _ _ (hc j hj), fun j hj => ?_⟩
  obtain ⟨h1, h2⟩ := hs j hj
  obtain ⟨u, hu⟩ := Option.isSome_iff_exists.1 h1
  exact ⟨by rw [key j u hu]; rfl, by rw [World.frozen?_alloc_past _ _ _ (World.block_lt_of_cell? w _ hu)]; exact h2⟩
theorem Row8.up {B : Nat} {w w' : World} {v : Value} {L : List UInt8} (h : Row8 B w v L) (hb : Below w.heap.size w w') : Row8 B w' v L := by
  obtain ⟨g, cap, hv, hB, hl, hc, hs⟩ := h
  refine ⟨g, cap, hv, hB, hl, fun j hj => ?_, fun j hj => ?_⟩
  · rw [hb.cell (p := ⟨g, j, none⟩) (World.block_lt_of_cell? w _ (hc j hj))]; exact hc j hj
  · obtain ⟨h1, h2⟩ := hs j hj
    obtain ⟨u, hu⟩ := Option.isSome_iff_exists.1 h1
    have hlt := World.block_lt_of_cell? w _ hu
    exact ⟨by rw [hb.cell (p := ⟨g, j, none⟩) hlt, hu]; rfl, by rw [hb.frozen (p := ⟨g, j, none⟩) hlt]; exact h2⟩

theorem row_of_own {B : Nat} {w : World} {v : Value} {L : List UInt8} (hl : 0 < L.length) (h : w.ownsRow B 5 1 v L.length (L.map fun b => Value.int .u8 (b.toNat : Int))) : Row8 B w v L := by
  obtain ⟨_, ⟨_, h0⟩ | ⟨g, cap, cur, hv, hg, hh, h1, h2, h3, h4⟩⟩ := h
  · omega
  · refine ⟨g, cap, hv, hg, h1, fun j hj => ?_, fun j hj => ?_⟩
    · rw [cell_of_row _ _ _ _ _ _ hh]
      have e : (cur.toList.take (L.length * 1))[j]? = some (.int .u8 (L[j].toNat : Int)) := by
        rw [h4, List.getElem?_map, List.getElem?_eq_getElem hj]; rfl
      rw [List.getElem?_take_of_lt (by omega)] at e
      simpa using e
    · refine ⟨?_, frozen_of_row _ _ _ _ _ hh⟩
      rw [cell_of_row _ _ _ _ _ _ hh, Array.getElem?_eq_getElem (by omega)]; rfl

/-- '[]byte(s)' -/
theorem row_of_text (s : ByteArray) (u : World) : ∃ (cap : Nat) (W : World), (convert 9 53 (.string s)).run Tryd.prog u = .ok (.slice (some ⟨u.heap.size, 0, none⟩) s.size cap) W ∧ Row8 u.heap.size W (.slice (some ⟨u.heap.size, 0, none⟩) s.size cap) s.data.toList ∧ Below u.heap.size u W := by
  have hge := grownCap_ge u s.size 0 5
  have hsz : (bytesRow s (grownCap u s.size 0 5)).size = grownCap u s.size 0 5 := by
    have hd : s.data.size = s.size := rfl
    simp [bytesRow]; omega
  have hh : (u.drew.alloc (.cells (bytesRow s (grownCap u s.size 0 5)) 5 ((bytesRow s (grownCap u s.size 0 5)).size, (bytesRow s (grownCap u s.size 0 5)).size + 1))).heap[u.heap.size]? = some (.cells (bytesRow s (grownCap u s.size 0 5)) 5 ((bytesRow s (grownCap u s.size 0 5)).size, (bytesRow s (grownCap u s.size 0 5)).size + 1)) := heap_alloc_new u.drew _
  refine ⟨_, _, run_bytes_of_string (P := Tryd.prog) u 9 53 5 s Tryd.underlying9 Tryd.underlying53 Tryd.underlying5, ⟨u.heap.size, grownCap u s.size 0 5, by simp, Nat.le_refl _, by simpa using hge, fun j hj => ?_, fun j hj => ?_⟩, ((Below.refl _ _).drew).alloc (Nat.le_refl _) _⟩
  · have hj' : j < s.data.size := by simpa using hj
    rw [cell_of_row _ _ _ _ _ _ hh, bytesRow_at s _ j hj']
    rfl
  · refine ⟨?_, ?_⟩
    · rw [cell_of_row _ _ _ _ _ _ hh, Array.getElem?_eq_getElem (by omega)]; rfl
    · unfold World.frozen?
      rw [hh]
      simp
      omega

theorem wpList_append_row {w : World} {ops : Array Oper} {rest : List Oper} {o : Oper} {a : Act} {Q : Exit → Act → World → Prop} (hg : o.guard = none) (s x : Operand)
    (hop : o.op = Op.call { callee := Callee.builtin Builtin.append, args := #[s, x], argTypes := #[53, 53] })
    (B : Nat) (v : Value) (L : List UInt8) (b : UInt8) (hv : a.eval s = v) (hr : Row8 B w v L) (ad : Addr) (c : Nat) (hx : a.eval x = .slice (some ad) 1 c)
    (hc : ∀ j u, [Value.int .u8 (b.toNat : Int)][j]? = some u → w.cell? (ad.add j) = some u) (hL : L.length ≤ 1000000) (hB : B ≤ w.heap.size)
    (h : ∀ v' w', Row8 B w' v' (L ++ [b]) → Below B w w' → wpList Tryd.prog ops Q rest (a.put o.dst v') w') : wpList Tryd.prog ops Q (o :: rest) a w := by
  obtain ⟨i0, hi, hz0, hz1, hz2⟩ := info_parts info5
  obtain ⟨g, cap, rfl, hBg, hl, hcell, hs⟩ := hr
  refine wpList_append_arg w hg s x 53 hop 5 i0 (.int .u8 0) 1 1 Tryd.underlying53 hi hz0 hz1 hz2 rfl (by decide) g 0 L.length cap (L.map fun b => Value.int .u8 (b.toNat : Int)) hv (by simp) ?_ ad 1 c [.int .u8 (b.toNat : Int)] hx rfl hc (fun u hu => by simp at hu; subst hu; rfl) ?_ (by unfold maxLen; omega) (by omega) ?_ ?_
  · intro j u hj
    rw [List.getElem?_map] at hj
    obtain ⟨y, hy, rfl⟩ := Option.map_eq_some_iff.1 hj
    obtain ⟨hlt, rfl⟩ := List.getElem?_eq_some_iff.1 hy
    rw [Nat.zero_add]
    exact hcell j hlt
  · intro hroom j hj
    have : j = 0 := by simpa using hj
    subst this
    simpa using hs L.length (by omega)
  · intro hroom
    have e : w.setCells g (0 + L.length * 1) [.int .u8 (b.toNat : Int)] = w.setCell ⟨g, L.length, none⟩ (.int .u8 (b.toNat : Int)) := by simp [World.setCells]
    rw [e]
    obtain ⟨u0, hu0⟩ := Option.isSome_iff_exists.1 (hs L.length (by omega)).1
    refine h _ _ ⟨g, cap, by simp, hBg, by simp; omega, fun j hj => ?_, fun j hj => ?_⟩ ((Below.refl _ _).setCell hBg _)
    · by_cases hjl : j < L.length
      · rw [World.cell?_setCell_other _ _ _ _ (by first | (simp; done) | (simp; omega)), hcell j hjl]
        simp [List.getElem_append_left hjl]
      · have hje : j = L.length := by simp at hj; omega
        subst hje
        rw [World.cell?_setCell_same _ _ _ hu0]
        simp
    · refine ⟨?_, by rw [World.frozen?_setCell]; exact (hs j hj).2⟩
      by_cases hjl : j = L.length
      · subst hjl
        rw [World.cell?_setCell_same _ _ _ hu0]; rfl
      · rw [World.cell?_setCell_other _ _ _ _ (by first | (simp; done) | (simp; omega))]; exact (hs j hj).1
  · intro _ v' w' hown hgrow
    refine h v' w' (row_of_own (by simp) ?_) ((Below.refl B w).grown hgrow hB (fun k hk => by cases hk))
    obtain ⟨h1, h2⟩ := hown
    refine ⟨by simp, ?_⟩
    rcases h2 with ⟨h3, h4⟩ | ⟨g', cap', cur, h3, h4, h5, h6, h7, h8, h9⟩
    · omega
    · exact Or.inr ⟨g', cap', cur, by simpa using h3, by omega, h5, by simpa using h6, h7, h8, by simpa using h9⟩

/-- a part of the row as a text -/
theorem row_part {B : Nat} {w : World} {g cap : Nat} {L : List UInt8} (hc : ∀ j (h : j < L.length), w.cell? ⟨g, j, none⟩ = some (.int .u8 (L[j].toNat : Int))) (i n c : Nat) (h : i + n ≤ L.length) :
    (convert 53 9 (.slice (some ⟨g, i, none⟩) n c)).run Tryd.prog w = .ok (.string ⟨((L.drop i).take n).toArray⟩) w := by
  have hl : ((L.drop i).take n).length = n := by simp; omega
  have := run_convert_bytes_back (P := Tryd.prog) w 53 9 5 ⟨g, i, none⟩ c ((L.drop i).take n) Tryd.underlying53 Tryd.underlying5 Tryd.underlying9 (fun j hj => by
    have e : (⟨g, i, none⟩ : Addr).add j = ⟨g, i + j, none⟩ := by unfold Addr.add; split <;> simp_all
    rw [e, hc (i + j) (by omega)]
    simp)
  rw [hl] at this
  exact this
theorem byteOf_toNat (x : Int) (k : Nat) : ((sh.byteOf x k).toNat : Int) = x / 2 ^ k % 256 := by
  unfold sh.byteOf
  rw [IntKind.wrap_u8]
  have h0 : 0 ≤ x / 2 ^ k % 256 := by omega
  have h1 : x / 2 ^ k % 256 < 256 := by omega
  generalize x / 2 ^ k % 256 = y at *
  simp
  omega
end Go.Proofs.YtjnlffdopbfelabDoor.sa
