/-
  The program's digest of one text and of two: what the plain function tells; no old block turns. Condition: the table of the rounds' numbers lies in its variable.
  Rows of bytes that a call makes of a text and goes on from by append: what they hold, whatever room they have; no old block turns.
-/
import Derived.Test.YtcfekhahibklfaaDoorMg9
import Derived.ArgAppend
namespace Go.Proofs.YtcfekhahibklfaaDoor.sh
open Go.ChangeShapes Go.WideShapes Go.ChangeAt Go.RowKit
set_option linter.unusedVariables false

def flat (ss : List ByteArray) : List UInt8 := ss.flatMap (fun s => s.data.toList)
theorem flat_app (a b : List ByteArray) : flat (a ++ b) = flat a ++ flat b := by unfold flat; rw [List.flatMap_append]
theorem flat_one (a : ByteArray) : flat [a] = a.data.toList := by simp [flat]
theorem flat_succ (ss : List ByteArray) (k : Nat) (h : k < ss.length) : flat (ss.take (k + 1)) = flat (ss.take k) ++ ss[k].data.toList := by
  rw [List.take_succ_eq_append_getElem h, flat_app, flat_one]
theorem flat_le (ss : List ByteArray) (k : Nat) : (flat (ss.take k)).length ≤ (flat ss).length := by
  have h : flat (ss.take k ++ ss.drop k) = flat ss := by rw [List.take_append_drop]
  rw [← h, flat_app, List.length_append]
  omega
theorem item_le (ss : List ByteArray) (k : Nat) (h : k < ss.length) : ss[k].size ≤ (flat ss).length := by
  have := flat_le ss (k + 1)
  rw [flat_succ ss k h, List.length_append] at this
  have e : ss[k].data.toList.length = ss[k].size := by simp
  omega
/-- the digest of bytes, as a text -/
def shaB (l : List UInt8) : ByteArray := ⟨(sha l).toArray⟩
theorem shaB_size (l : List UInt8) : (shaB l).size = 32 := by simp [shaB, ByteArray.size, sha_length]

set_option maxRecDepth 20000 in
set_option maxHeartbeats 4000000 in
theorem digestOf_any (ss : List ByteArray) (b cap : Nat) (w : World) (hb : b < w.heap.size) (hn : ss.length ≤ 1000) (htot : (flat ss).length ≤ 20000) (hT : Tab w)
    (hc : ∀ i (h : i < ss.length), w.cell? ⟨b, i, none⟩ = some (.string ss[i])) :
    Calls Tryd.prog 61 #[.slice (some ⟨b, 0, none⟩) ss.length cap] w fun e w' => e = .returned (.string (shaB (flat ss))) ∧ Below w.heap.size w w' := by
  have HC : Hid (∀ i (h : i < ss.length), w.cell? ⟨b, i, none⟩ = some (.string ss[i])) := hc
  have hgl := hT.lt
  clear hc
  go_enter Tryd.func61, Tryd.ntmps61
  go_wp2_with (go_at_call 76; refine (new_any w).mono ?_; rintro e w1 ⟨rfl, hH1, hB1⟩)
  have HT1 : Hid (Tab w1) := hT.up hB1
  go_loopw [5, 9] (fun _ i u => ∃ k : Nat, k ≤ ss.length ∧ i = .int .i64 k ∧ Hid (Has u w.heap.size (flat (ss.take k))) ∧ Hid (Tab u) ∧ Below w.heap.size w u) (fun _ i _ => ss.length - (intOf i).toNat)
  case atStart => exact ⟨0, by omega, rfl, hH1, HT1, hB1⟩
  case round =>
    clear hH1 HT1 hB1
    obtain ⟨k, hk, rfl, HH, HT, hB⟩ := hrel
    have hfl := flat_le ss k
    by_cases hlt : k < ss.length
    · have hcell : wr.cell? ⟨b, k, none⟩ = some (.string ss[k]) := by rw [hB.cell (p := ⟨b, k, none⟩) hb]; exact HC.out k hlt
      have hil := item_le ss k hlt
      have HF : Hid (flat (ss.take (k + 1)) = flat (ss.take k) ++ ss[k].data.toList) := flat_succ ss k hlt
      go_wp2_with (go_at_call 77; refine (write_has w.heap.size (flat (ss.take k)) ss[k] wr (by omega) (by omega) HH.out HT.out hgl).mono ?_; rintro e w2 ⟨rfl, hH2, hT2, hG2⟩; have HH2 : Hid (Has w2 w.heap.size (flat (ss.take k) ++ ss[k].data.toList)) := hH2; have HT2 : Hid (Tab w2) := hT2; have HB2 : Hid (Below w.heap.size w w2) := hB.grown hG2 hB.size (fun k hk => by cases hk; exact Nat.le_refl _); clear hH2 hT2 hG2)
      go_roundw
      case rel => exact ⟨k + 1, by omega, by go_num, by rw [HF.out]; exact HH2, HT2, HB2.out⟩
      case measure => simp [intOf]; omega
    · obtain rfl : k = ss.length := by omega
      have HH' : Hid (Has wr w.heap.size (flat ss)) := by have := HH.out; rw [List.take_length] at this; exact this
      go_wp2_with (go_at_call 78; refine (finish_any w.heap.size (flat ss) wr (by omega) HH'.out HT.out hgl).mono ?_; rintro e w2 ⟨rfl, hG2⟩)
      go_ret
      exact ⟨rfl, hB.grown hG2 hB.size (fun k hk => by cases hk; exact Nat.le_refl _)⟩
theorem digest1 (s : ByteArray) (u : World) (h : s.size ≤ 20000) (hT : Tab u) :
    Calls Tryd.prog 61 #[.slice (some ⟨u.heap.size, 0, none⟩) 1 1] (u.alloc (.cells #[.string s] 9)) fun e w' => e = .returned (.string (shaB s.data.toList)) ∧ Below u.heap.size u w' := by
  have hB : Below u.heap.size u (u.alloc (.cells #[.string s] 9)) := (Below.refl _ _).alloc (Nat.le_refl _) _
  refine (digestOf_any [s] u.heap.size 1 (u.alloc (.cells #[.string s] 9)) (by simp) (by simp) (by simp [flat]; omega) (hT.up hB) (fun i hi => ?_)).mono ?_
  · match i, hi with
    | 0, _ => simp
  · rintro e w' ⟨rfl, hb⟩
    exact ⟨ret_str (by simp [flat]), hB.trans (hb.mono hB.size)⟩
theorem digest2 (s t : ByteArray) (u : World) (h : s.size + t.size ≤ 20000) (hT : Tab u) :
    Calls Tryd.prog 61 #[.slice (some ⟨u.heap.size, 0, none⟩) 2 2] (u.alloc (.cells #[.string s, .string t] 9)) fun e w' => e = .returned (.string (shaB (s.data.toList ++ t.data.toList))) ∧ Below u.heap.size u w' := by
  have hB : Below u.heap.size u (u.alloc (.cells #[.string s, .string t] 9)) := (Below.refl _ _).alloc (Nat.le_refl _) _
  refine (digestOf_any [s, t] u.heap.size 2 (u.alloc (.cells #[.string s, .string t] 9)) (by simp) (by simp) (by simp [flat]; omega) (hT.up hB) (fun i hi => ?_)).mono ?_
  · match i, hi with
    | 0, _ => simp
    | 1, _ => simp
  · rintro e w' ⟨rfl, hb⟩
    exact ⟨ret_str (by simp [flat]), hB.trans (hb.mono hB.size)⟩

/-- what Digest answers -/
def digestA (s : ByteArray) : ByteArray := if 8000 < s.size then ⟨#[]⟩ else shaB s.data.toList
theorem digestA_no {s : ByteArray} (h : 8000 < s.size) : digestA s = ⟨#[]⟩ := if_pos h
theorem digestA_yes {s : ByteArray} (h : ¬ 8000 < s.size) : digestA s = shaB s.data.toList := if_neg h
end Go.Proofs.YtcfekhahibklfaaDoor.sh

namespace Go.Proofs.YtcfekhahibklfaaDoor.sa
open Go.ChangeShapes Go.WideShapes Go.ChangeAt Go.RowKit sh
set_option linter.unusedVariables false

/-- a row of the call's own that holds these bytes -/
def Row8 (B : Nat) (w : World) (v : Value) (L : List UInt8) : Prop :=
  ∃ g cap, v = .slice (some ⟨g, 0, none⟩) L.length cap ∧ B ≤ g ∧ L.length ≤ cap ∧ (∀ j (h : j < L.length), w.cell? ⟨g, j, none⟩ = some (.int .u8 (L[j].toNat : Int))) ∧ (∀ j, j < cap → (w.cell? ⟨g, j, none⟩).isSome = true ∧ w.frozen? ⟨g, j, none⟩ = false)
theorem Row8.alloc {B : Nat} {w : World} {v : Value} {L : List UInt8} (h : Row8 B w v L) (o : Obj) : Row8 B (w.alloc o) v L := by
  obtain ⟨g, cap, hv, hB, hl, hc, hs⟩ := h
  have key : ∀ j u, w.cell? ⟨g, j, none⟩ = some u → (w.alloc o).cell? ⟨g, j, none⟩ = some u := fun j u hu => by
    rw [World.cell?_alloc_lt _ _ _ (World.block_lt_of_cell? w _ hu)]; exact hu
  refine ⟨g, cap, hv, hB, hl, fun j hj => key _ _ (hc j hj), fun j hj => ?_⟩
  obtain ⟨h1, h2⟩ := hs j hj
  obtain ⟨u, hu⟩ := Option.isSome_iff_exists.1 h1
  exact ⟨by rw [key j u hu]; rfl, by rw [World.frozen?_alloc_past _ _ _ (World.block_lt_of_cell? w _ hu)]; exact h2⟩
theorem Row8.up {B : Nat} {w w' : World} {v : Value} {L : List UInt8} (h : Row8 B w v L) (hb : Below w.heap.size w w') : Row8 B w' v L := by
  obtain ⟨g, cap, hv, hB, hl, hc, hs⟩ := h
  refine ⟨g, cap, hv, hB, hl, fun j hj => ?_, fun j hj => ?_⟩
  · rw [hb.cell (p := ⟨g, j, none⟩) (World.block_lt_of_cell? w _ (hc j hj))]; exact hc j hj
  · obtain ⟨h1, h2⟩ := hs j hj
    obtain ⟨u, hu⟩ := Option.isSome_iff_exists.1 h1
    have hlt := World.block_lt_of_cell? w _ hu
    exact ⟨by rw [hb.cell (p := ⟨g, j, none⟩) hlt, hu]; rfl, by rw [hb.frozen (p := ⟨g, j, none⟩) hlt]; exact h2⟩

theorem row_of_own {B : Nat} {w : World} {v : Value} {L : List UInt8} (hl : 0 < L.length) (h : w.ownsRow B 5 1 v L.length (L.map fun b => Value.int .u8 (b.toNat : Int))) : Row8 B w v L := by
  obtain ⟨_, ⟨_, h0⟩ | ⟨g, cap, cur, hv, hg, hh, h1, h2, h3, h4⟩⟩ := h
  · omega
  · refine ⟨g, cap, hv, hg, h1, fun j hj => ?_, fun j hj => ?_⟩
    · rw [cell_of_row _ _ _ _ _ _ hh]
      have e : (cur.toList.take (L.length * 1))[j]? = some (.int .u8 (L[j].toNat : Int)) := by
        rw [h4, List.getElem?_map, List.getElem?_eq_getElem hj]; rfl
      rw [List.getElem?_take_of_lt (by omega)] at e
      simpa using e
    · refine ⟨?_, frozen_of_row _ _ _ _ _ hh⟩
      rw [cell_of_row _ _ _ _ _ _ hh, Array.getElem?_eq_getElem (by omega)]; rfl

/-- '[]byte(s)' -/
theorem row_of_text (s : ByteArray) (u : World) : ∃ (cap : Nat) (W : World), (convert 9 22 (.string s)).run Tryd.prog u = .ok (.slice (some ⟨u.heap.size, 0, none⟩) s.size cap) W ∧ Row8 u.heap.size W (.slice (some ⟨u.heap.size, 0, none⟩) s.size cap) s.data.toList ∧ Below u.heap.size u W := by
  have hge := grownCap_ge u s.size 0 5
  have hsz : (bytesRow s (grownCap u s.size 0 5)).size = grownCap u s.size 0 5 := by
    have hd : s.data.size = s.size := rfl
    simp [bytesRow]; omega
  have hh : (u.drew.alloc (.cells (bytesRow s (grownCap u s.size 0 5)) 5 ((bytesRow s (grownCap u s.size 0 5)).size, (bytesRow s (grownCap u s.size 0 5)).size + 1))).heap[u.heap.size]? = some (.cells (bytesRow s (grownCap u s.size 0 5)) 5 ((bytesRow s (grownCap u s.size 0 5)).size, (bytesRow s (grownCap u s.size 0 5)).size + 1)) := heap_alloc_new u.drew _
  refine ⟨_, _, run_bytes_of_string (P := Tryd.prog) u 9 22 5 s Tryd.underlying9 Tryd.underlying22 Tryd.underlying5, ⟨u.heap.size, grownCap u s.size 0 5, by simp, Nat.le_refl _, by simpa using hge, fun j hj => ?_, fun j hj => ?_⟩, ((Below.refl _ _).drew).alloc (Nat.le_refl _) _⟩
  · have hj' : j < s.data.size := by simpa using hj
    rw [cell_of_row _ _ _ _ _ _ hh, bytesRow_at s _ j hj']
    rfl
  · refine ⟨?_, ?_⟩
    · rw [cell_of_row _ _ _ _ _ _ hh, Array.getElem?_eq_getElem (by omega)]; rfl
    · unfold World.frozen?
      rw [hh]
      simp
      omega

theorem wpList_append_row {w : World} {ops : Array Oper} {rest : List Oper} {o : Oper} {a : Act} {Q : Exit → Act → World → Prop} (hg : o.guard = none) (s x : Operand)
    (hop : o.op = Op.call { callee := Callee.builtin Builtin.append, args := #[s, x], argTypes := #[22, 22] })
    (B : Nat) (v : Value) (L : List UInt8) (b : UInt8) (hv : a.eval s = v) (hr : Row8 B w v L) (ad : Addr) (c : Nat) (hx : a.eval x = .slice (some ad) 1 c)
    (hc : ∀ j u, [Value.int .u8 (b.toNat : Int)][j]? = some u → w.cell? (ad.add j) = some u) (hL : L.length ≤ 1000000) (hB : B ≤ w.heap.size)
    (h : ∀ v' w', Row8 B w' v' (L ++ [b]) → Below B w w' → wpList Tryd.prog ops Q rest (a.put o.dst v') w') : wpList Tryd.prog ops Q (o :: rest) a w := by
  obtain ⟨i0, hi, hz0, hz1, hz2⟩ := info_parts info5
  obtain ⟨g, cap, rfl, hBg, hl, hcell, hs⟩ := hr
  refine wpList_append_arg w hg s x 22 hop 5 i0 (.int .u8 0) 1 1 Tryd.underlying22 hi hz0 hz1 hz2 rfl (by decide) g 0 L.length cap (L.map fun b => Value.int .u8 (b.toNat : Int)) hv (by simp) ?_ ad 1 c [.int .u8 (b.toNat : Int)] hx rfl hc (fun u hu => by simp at hu; subst hu; rfl) ?_ (by unfold maxLen; omega) (by omega) ?_ ?_
  · intro j u hj
    rw [List.getElem?_map] at hj
    obtain ⟨y, hy, rfl⟩ := Option.map_eq_some_iff.1 hj
    obtain ⟨hlt, rfl⟩ := List.getElem?_eq_some_iff.1 hy
    rw [Nat.zero_add]
    exact hcell j hlt
  · intro hroom j hj
    have : j = 0 := by simpa using hj
    subst this
    simpa using hs L.length (by omega)
  · intro hroom
    have e : w.setCells g (0 + L.length * 1) [.int .u8 (b.toNat : Int)] = w.setCell ⟨g, L.length, none⟩ (.int .u8 (b.toNat : Int)) := by simp [World.setCells]
    rw [e]
    obtain ⟨u0, hu0⟩ := Option.isSome_iff_exists.1 (hs L.length (by omega)).1
    refine h _ _ ⟨g, cap, by simp, hBg, by simp; omega, fun j hj => ?_, fun j hj => ?_⟩ ((Below.refl _ _).setCell hBg _)
    · by_cases hjl : j < L.length
      · rw [World.cell?_setCell_other _ _ _ _ (by first | (simp; done) | (simp; omega)), hcell j hjl]
        simp [List.getElem_append_left hjl]
      · have hje : j = L.length := by simp at hj; omega
        subst hje
        rw [World.cell?_setCell_same _ _ _ hu0]
        simp
    · refine ⟨?_, by rw [World.frozen?_setCell]; exact (hs j hj).2⟩
      by_cases hjl : j = L.length
      · subst hjl
        rw [World.cell?_setCell_same _ _ _ hu0]; rfl
      · rw [World.cell?_setCell_other _ _ _ _ (by first | (simp; done) | (simp; omega))]; exact (hs j hj).1
  · intro _ v' w' hown hgrow
    refine h v' w' (row_of_own (by simp) ?_) ((Below.refl B w).grown hgrow hB (fun k hk => by cases hk))
    obtain ⟨h1, h2⟩ := hown
    refine ⟨by simp, ?_⟩
    rcases h2 with ⟨h3, h4⟩ | ⟨g', cap', cur, h3, h4, h5, h6, h7, h8, h9⟩
    · omega
    · exact Or.inr ⟨g', cap', cur, by simpa using h3, by omega, h5, by simpa using h6, h7, h8, by simpa using h9⟩

/-- a part of the row as a text -/
theorem row_part {B : Nat} {w : World} {g cap : Nat} {L : List UInt8} (hc : ∀ j (h : j < L.length), w.cell? ⟨g, j, none⟩ = some (.int .u8 (L[j].toNat : Int))) (i n c : Nat) (h : i + n ≤ L.length) :
    (convert 22 9 (.slice (some ⟨g, i, none⟩) n c)).run Tryd.prog w = .ok (.string ⟨((L.drop i).take n).toArray⟩) w := by
  have hl : ((L.drop i).take n).length = n := by simp; omega
  have := run_convert_bytes_back (P := Tryd.prog) w 22 9 5 ⟨g, i, none⟩ c ((L.drop i).take n) Tryd.underlying22 Tryd.underlying5 Tryd.underlying9 (fun j hj => by
    have e : (⟨g, i, none⟩ : Addr).add j = ⟨g, i + j, none⟩ := by unfold Addr.add; split <;> simp_all
    rw [e, hc (i + j) (by omega)]
    simp)
  rw [hl] at this
  exact this
theorem byteOf_toNat (x : Int) (k : Nat) : ((sh.byteOf x k).toNat : Int) = x / 2 ^ k % 256 := by
  unfold sh.byteOf
  rw [IntKind.wrap_u8]
  have h0 : 0 ≤ x / 2 ^ k % 256 := by omega
  have h1 : x / 2 ^ k % 256 < 256 := by omega
  generalize x / 2 ^ k % 256 = y at *
  simp
  omega
end Go.Proofs.YtcfekhahibklfaaDoor.sa
