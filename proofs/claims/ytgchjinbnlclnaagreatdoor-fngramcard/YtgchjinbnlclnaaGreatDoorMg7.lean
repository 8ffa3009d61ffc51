/-
  The program's one round of the digest: for eight numbers of 32 bits and one more it hands back the next eight; no old block turns.
  The program's 64 numbers of a block: of 64 bytes it hands back the numbers that the plain function tells; no old block turns.
-/
import Derived.Test.YtgchjinbnlclnaaGreatDoorShaPlain
import Derived.Deep.MidRow
import Derived.BigRegion
import Derived.BigQuiet
import Derived.Deep.QuietTactic
import Derived.WalkSpells
import Derived.WalkSmall
import Derived.Laws.Tables
import Derived.Laws.CopyOwn
namespace Go.Proofs.YtgchjinbnlclnaaGreatDoor.sh
open Go.ChangeShapes Go.WideShapes Go.ChangeAt Go.RowKit
set_option linter.unusedVariables false

set_option maxHeartbeats 1000000 in
theorem rot_any (x : Int) (k : Nat) (w : World) (hk : 0 < k ∧ k < 32) (hx : U x) :
    Calls Tryz.prog 83 #[.int .u32 x, .int .i64 (-(k : Int))] w fun e w' => e = .returned (.int .u32 (rotr k x)) ∧ w' = w := by
  have e1 : bits BinOp.and IntKind.u64 (IntKind.u64.wrap (-(k : Int))) 31 = 32 - (k : Int) := by
    obtain ⟨h0, h1⟩ := hk
    have : ∀ k : Fin 32, 0 < k.val → bits BinOp.and IntKind.u64 (IntKind.u64.wrap (-(k.val : Int))) 31 = 32 - (k.val : Int) := by decide
    exact this ⟨k, h1⟩ h0
  go_enter Tryz.func83, Tryz.ntmps83
  go_wp2
  go_ret
  refine ⟨congrArg (fun y => Ending.returned (.int .u32 y)) ?_, rfl⟩
  unfold rotr wr
  rw [IntKind.wrap_u32, show 32 - (32 - k) = k by omega]

set_option maxHeartbeats 1000000 in
theorem right_any (x : Int) (k : Nat) (w : World) (hk : 0 < k ∧ k < 32) (hx : U x) :
    Calls Tryz.prog 91 #[.int .u32 x, .int .i64 (k : Int)] w fun e w' => e = .returned (.int .u32 (rotr k x)) ∧ w' = w := by
  go_enter Tryz.func91, Tryz.ntmps91
  go_wp2_with (go_at_call 83; refine (rot_any _ _ _ hk hx).mono ?_; rintro e w' ⟨rfl, rfl⟩)
  go_ret
  exact ⟨rfl, rfl⟩

/-- the world behind a step, of which only this is kept -/
theorem wp_world {P : Program} {c : Code} {Q : Exit → Act → World → Prop} {a : Act} {w : World} (I : World → Prop) (hI : I w) (h : ∀ u, I u → c.wp P Q a u) : c.wp P Q a w := h w hI
theorem cells8 {w : World} {p : Nat} {c0 c1 c2 c3 c4 c5 c6 c7 : Value} {t : TypeId} (h : w.heap[p]? = some (.cells #[c0, c1, c2, c3, c4, c5, c6, c7] t (0, 0))) :
    w.cell? ⟨p, 0, none⟩ = some c0 ∧ w.cell? ⟨p, 1, none⟩ = some c1 ∧ w.cell? ⟨p, 2, none⟩ = some c2 ∧ w.cell? ⟨p, 3, none⟩ = some c3 ∧ w.cell? ⟨p, 4, none⟩ = some c4 ∧ w.cell? ⟨p, 5, none⟩ = some c5 ∧ w.cell? ⟨p, 6, none⟩ = some c6 ∧ w.cell? ⟨p, 7, none⟩ = some c7 := by
  refine ⟨?_, ?_, ?_, ?_, ?_, ?_, ?_, ?_⟩ <;> simp [World.cell?, h]

theorem ret_ae {a a' e e' : Int} {b c d f g h : Value} (h0 : a = a') (h1 : e = e') : Ending.returned (.agg #[.int .u32 a, b, c, d, .int .u32 e, f, g, h]) = .returned (.agg #[.int .u32 a', b, c, d, .int .u32 e', f, g, h]) := by rw [h0, h1]

set_option maxHeartbeats 4000000 in
theorem round_any (s : St) (x : Int) (w : World) (hs : s.ok) (hx : U x) :
    Calls Tryz.prog 90 #[.agg s.vals.toArray, .int .u32 x] w fun e w' => e = .returned (.agg (s.round x).vals.toArray) ∧ Below w.heap.size w w' := by
  obtain ⟨a, b, c, d, e, f, g, h⟩ := s
  obtain ⟨ha, hb, hc, hd, he, hf, hg, hh⟩ := hs
  simp only [St.vals] at *
  go_enter Tryz.func90, Tryz.ntmps90
  go_wp2_with (go_at_call 91; refine (right_any _ _ _ ⟨by decide, by decide⟩ ‹_›).mono ?_; rintro e w' ⟨rfl, rfl⟩)
  refine wp_world (fun u => Below w.heap.size w u ∧ u.heap[w.heap.size]? = some (.cells #[.int .u32 a, .int .u32 b, .int .u32 c, .int .u32 d, .int .u32 e, .int .u32 f, .int .u32 g, .int .u32 h] 139 (0, 0)) ∧ u.heap[w.heap.size + 1]? = some (.cells #[.int .u32 0, .int .u32 0, .int .u32 0, .int .u32 0, .int .u32 0, .int .u32 0, .int .u32 0, .int .u32 0] 139 (0, 0)))
    ⟨((Below.refl _ _).alloc (Nat.le_refl _) _).alloc (((Below.refl _ _).alloc (Nat.le_refl _) _).size) _, heap_alloc2_old _ _ _, heap_alloc2_new _ _ _⟩ ?_
  rintro u ⟨hB, h0, h1⟩
  have HB : Hid (Below w.heap.size w u) := hB
  have H1 : Hid (u.heap[w.heap.size + 1]? = some (.cells #[.int .u32 0, .int .u32 0, .int .u32 0, .int .u32 0, .int .u32 0, .int .u32 0, .int .u32 0, .int .u32 0] 139 (0, 0))) := h1
  obtain ⟨c0, c1, c2, c3, c4, c5, c6, c7⟩ := cells8 h0
  clear h0 h1 hB
  go_quiet (fail)
  go_wp2_with (first | (go_at_call 91; refine (right_any _ _ _ ⟨by decide, by decide⟩ ‹_›).mono ?_; rintro e w' ⟨rfl, rfl⟩) | (refine wpList_store_row rfl 139 _ _ rfl (w.heap.size + 1) _ rfl rfl _ _ H1.out (by kernel_rfl) (by rfl) (by simp [Value.oneCell']) ?_))
  refine bodyPost_ret (results_cell_row Tryz.results90 _ _ (w.heap.size + 1) _ _ _ _ rfl (setRow_heap _ _ _ _ _ _ H1.out) Tryz.underlying139 rfl (by kernel_rfl)) rfl ⟨?_, below_setRow (below_drewN HB.out _) (by omega) _⟩
  refine ret_ae ?_ ?_
  · simp only [St.round, t1, t2, wr, IntKind.wrap_u32, S0, S1, ch, maj, neg, xor, and]
    omega
  · simp only [St.round, t1, t2, wr, IntKind.wrap_u32, S0, S1, ch, maj, neg, xor, and]
    omega
theorem round_lit (s : St) (x : Int) (w : World) (hs : s.ok) (hx : U x) :
    Calls Tryz.prog 90 #[.agg #[.int .u32 s.a, .int .u32 s.b, .int .u32 s.c, .int .u32 s.d, .int .u32 s.e, .int .u32 s.f, .int .u32 s.g, .int .u32 s.h], .int .u32 x] w fun e w' => ∃ r : St, Hid (r = s.round x) ∧ e = .returned (.agg #[.int .u32 r.a, .int .u32 r.b, .int .u32 r.c, .int .u32 r.d, .int .u32 r.e, .int .u32 r.f, .int .u32 r.g, .int .u32 r.h]) ∧ Below w.heap.size w w' :=
  (round_any s x w hs hx).mono fun e w' ⟨h1, h2⟩ => ⟨_, rfl, h1, h2⟩
end Go.Proofs.YtgchjinbnlclnaaGreatDoor.sh

namespace Go.Proofs.YtgchjinbnlclnaaGreatDoor.sh
open Go.ChangeShapes Go.WideShapes Go.ChangeAt Go.RowKit
set_option linter.unusedVariables false

/-- numbers in a row of 64 cells, the rest 0 -/
def cells64 (l : List Int) : Array Value := ((l ++ List.replicate (64 - l.length) 0).map (Value.int .u32)).toArray
theorem cells64_size (l : List Int) (h : l.length ≤ 64) : (cells64 l).size = 64 := by simp [cells64]; omega
theorem cells64_at (l : List Int) (i : Nat) (h : i < 64) (hl : l.length ≤ 64) : (cells64 l)[i]? = some (.int .u32 (l.getD i 0)) := by
  simp only [cells64, List.getElem?_toArray, List.getElem?_map]
  rcases Nat.lt_or_ge i l.length with h' | h'
  · rw [List.getElem?_append_left h', List.getD_eq_getElem?_getD, List.getElem?_eq_getElem h']; rfl
  · rw [List.getElem?_append_right h', List.getElem?_replicate, if_pos (by omega), List.getD_eq_getElem?_getD, List.getElem?_eq_none h']; rfl
theorem cells64_set (l : List Int) (x : Int) (h : l.length < 64) : (cells64 l).setIfInBounds l.length (.int .u32 x) = cells64 (l ++ [x]) := by
  obtain ⟨m, hm⟩ : ∃ m, 64 - l.length = m + 1 := ⟨63 - l.length, by omega⟩
  have hm' : 64 - (l ++ [x]).length = m := by simp; omega
  unfold cells64
  rw [hm, hm']
  apply Array.ext'
  simp [List.replicate_succ]
theorem cells64_full (l : List Int) (h : l.length = 64) : cells64 l = (l.map (Value.int .u32)).toArray := by simp [cells64, h]

theorem cells64_one (l : List Int) : (cells64 l).all (·.oneCell') = true := by
  unfold cells64
  refine all_oneCell_toArray fun v hv => ?_
  obtain ⟨x, _, rfl⟩ := List.mem_map.1 hv
  rfl
theorem info64 : (Tryz.prog.info? 145).map (·.size) = some 64 := by kernel_rfl
theorem byteAt_of (s : ByteArray) (i : Nat) (h : i < s.size) : byteAt s.data.toList i = (s[i].toNat : Int) := by
  unfold byteAt
  rw [List.getD_eq_getElem?_getD, List.getElem?_eq_getElem (by simpa using h)]
  rfl

theorem wordAt_of (s : ByteArray) (k : Nat) (h : 4 * k + 3 < s.size) : wordAt s.data.toList k = bits .or .u32 (bits .or .u32 (bits .or .u32 ((s[4 * k].toNat : Int) % 4294967296 * 16777216 % 4294967296) ((s[4 * k + 1].toNat : Int) % 4294967296 * 65536 % 4294967296)) ((s[4 * k + 2].toNat : Int) % 4294967296 * 256 % 4294967296)) ((s[4 * k + 3].toNat : Int) % 4294967296) := by
  have b0 := s[4 * k].toNat_lt
  have b1 := s[4 * k + 1].toNat_lt
  have b2 := s[4 * k + 2].toNat_lt
  have b3 := s[4 * k + 3].toNat_lt
  have x0 : (s[4 * k].toNat : Int) % 4294967296 * 16777216 % 4294967296 = wr ((s[4 * k].toNat : Int) * 2 ^ 24) := by unfold wr; rw [IntKind.wrap_u32]; omega
  have x1 : (s[4 * k + 1].toNat : Int) % 4294967296 * 65536 % 4294967296 = wr ((s[4 * k + 1].toNat : Int) * 2 ^ 16) := by unfold wr; rw [IntKind.wrap_u32]; omega
  have x2 : (s[4 * k + 2].toNat : Int) % 4294967296 * 256 % 4294967296 = wr ((s[4 * k + 2].toNat : Int) * 2 ^ 8) := by unfold wr; rw [IntKind.wrap_u32]; omega
  have x3 : (s[4 * k + 3].toNat : Int) % 4294967296 = s[4 * k + 3].toNat := by omega
  unfold wordAt word
  rw [byteAt_of s _ (by omega), byteAt_of s _ (by omega), byteAt_of s _ (by omega), byteAt_of s _ (by omega), x0, x1, x2, x3]
theorem word_U (l : List Int) (hl : ∀ x ∈ l, U x) (i : Nat) : U (l.getD i 0) := by
  rw [List.getD_eq_getElem?_getD]
  cases e : l[i]? with
  | none => exact ⟨by decide, by decide⟩
  | some x => exact hl x (List.mem_of_getElem? e)

set_option maxRecDepth 20000 in
set_option maxHeartbeats 8000000 in
theorem words_any (s : ByteArray) (w : World) (hs : s.size = 64) :
    Calls Tryz.prog 89 #[.string s] w fun e w' => e = .returned (.agg ((words s.data.toList 64).map (Value.int .u32)).toArray) ∧ Below w.heap.size w w' := by
  go_enter Tryz.func89, Tryz.ntmps89
  go_wp2
  go_loopw [4, 10] (fun _ i u => ∃ k : Nat, k ≤ 16 ∧ i = .int .i64 k ∧ Below w.heap.size w u ∧ Hid (u.heap[w.heap.size]? = some (.cells (cells64 []) 145 (0, 0))) ∧ Hid (u.heap[w.heap.size + 1]? = some (.cells (cells64 (words s.data.toList k)) 145 (0, 0)))) (fun _ i _ => 16 - (intOf i).toNat)
  case atStart => exact ⟨0, by omega, rfl, ((Below.refl _ _).alloc (Nat.le_refl _) _).alloc (((Below.refl _ _).alloc (Nat.le_refl _) _).size) _, heap_alloc2_old _ _ _, heap_alloc2_new _ _ _⟩
  case round =>
    obtain ⟨k, hk, rfl, hB, H0, H1⟩ := hrel
    by_cases hlt : k < 16
    · have hc : wr.cell? ⟨w.heap.size + 1, k, none⟩ = some (.int .u32 0) := by
        rw [cell_of_row _ _ _ _ _ _ H1.out, cells64_at _ _ (by omega) (by rw [words_length]; omega), List.getD_eq_getElem?_getD, List.getElem?_eq_none (by rw [words_length]; omega)]; rfl
      have hf : wr.frozen? ⟨w.heap.size + 1, k, none⟩ = false := frozen_of_row _ _ _ _ _ H1.out
      have e0 : IntKind.i64.wrap (4 * (k : Int)) = 4 * (k : Int) := by rw [IntKind.wrap_i64]; omega
      have e1 : IntKind.i64.wrap (4 * (k : Int) + 1) = 4 * (k : Int) + 1 := by rw [IntKind.wrap_i64]; omega
      have e2 : IntKind.i64.wrap (4 * (k : Int) + 2) = 4 * (k : Int) + 2 := by rw [IntKind.wrap_i64]; omega
      have e3 : IntKind.i64.wrap (4 * (k : Int) + 3) = 4 * (k : Int) + 3 := by rw [IntKind.wrap_i64]; omega
      have i0 : 0 ≤ 4 * (k : Int) ∧ 4 * (k : Int) < 64 := by omega
      have i1 : 0 ≤ 4 * (k : Int) + 1 ∧ 4 * (k : Int) + 1 < 64 := by omega
      have i2 : 0 ≤ 4 * (k : Int) + 2 ∧ 4 * (k : Int) + 2 < 64 := by omega
      have i3 : 0 ≤ 4 * (k : Int) + 3 ∧ 4 * (k : Int) + 3 < 64 := by omega
      have HW : Hid (∀ x, x = wordAt s.data.toList k → Below w.heap.size w (wr.setCell ⟨w.heap.size + 1, k, none⟩ (.int .u32 x)).drew ∧ Hid ((wr.setCell ⟨w.heap.size + 1, k, none⟩ (.int .u32 x)).drew.heap[w.heap.size]? = some (.cells (cells64 []) 145 (0, 0))) ∧ Hid ((wr.setCell ⟨w.heap.size + 1, k, none⟩ (.int .u32 x)).drew.heap[w.heap.size + 1]? = some (.cells (cells64 (words s.data.toList (k + 1))) 145 (0, 0)))) := by
        intro x hx
        refine ⟨(hB.setCell (by show _ ≤ w.heap.size + 1; omega) _).drew, ?_, ?_⟩
        · exact (heap_setCell_other _ _ _ _ (by show w.heap.size ≠ w.heap.size + 1; omega)).trans H0.out
        · refine (heap_setCell_same _ _ _ _ _ _ H1.out).trans ?_
          rw [words_succ_lo _ _ hlt, ← cells64_set _ _ (by rw [words_length]; omega), words_length, hx]
      have HV : Hid (wordAt s.data.toList k = bits .or .u32 (bits .or .u32 (bits .or .u32 ((s[4 * k].toNat : Int) % 4294967296 * 16777216 % 4294967296) ((s[4 * k + 1].toNat : Int) % 4294967296 * 65536 % 4294967296)) ((s[4 * k + 2].toNat : Int) % 4294967296 * 256 % 4294967296)) ((s[4 * k + 3].toNat : Int) % 4294967296)) := by
        exact wordAt_of s k (by omega)
      clear H0 H1
      go_wp2
      go_region
      go_wp2
      go_roundw
      case rel => exact ⟨k + 1, by omega, by go_num, HW.out _ HV.out.symm⟩
      case measure => simp [intOf]; omega
    · obtain rfl : k = 16 := by omega
      go_wp2
      go_loopw [5, 6, 7, 8, 9] (fun i _ _ _ _ u => ∃ j : Nat, j ≤ 48 ∧ i = .int .i64 ((j : Int) + 16) ∧ Below w.heap.size w u ∧ Hid (u.heap[w.heap.size]? = some (.cells (cells64 []) 145 (0, 0))) ∧ Hid (u.heap[w.heap.size + 1]? = some (.cells (cells64 (words s.data.toList (j + 16))) 145 (0, 0)))) (fun i _ _ _ _ _ => 64 - (intOf i).toNat)
      case atStart => exact ⟨0, by omega, rfl, hB, H0, H1⟩
      case round =>
        clear hB H0 H1
        obtain ⟨j, hj, rfl, hB, H0, H1⟩ := hrel
        by_cases hlt : j < 48
        · have hat : ∀ i, i < 64 → wr.cell? ⟨w.heap.size + 1, i, none⟩ = some (.int .u32 ((words s.data.toList (j + 16)).getD i 0)) := fun i hi => by
            rw [cell_of_row _ _ _ _ _ _ H1.out, cells64_at _ _ hi (by rw [words_length]; omega)]
          have hu : ∀ i, U ((words s.data.toList (j + 16)).getD i 0) := word_U _ (words_U _ _)
          have e15 : IntKind.i64.wrap ((j : Int) + 16 - 15) = (j : Int) + 1 := by rw [IntKind.wrap_i64]; omega
          have e2 : IntKind.i64.wrap ((j : Int) + 16 - 2) = (j : Int) + 14 := by rw [IntKind.wrap_i64]; omega
          have e16 : IntKind.i64.wrap ((j : Int) + 16 - 16) = (j : Int) := by rw [IntKind.wrap_i64]; omega
          have e7 : IntKind.i64.wrap ((j : Int) + 16 - 7) = (j : Int) + 9 := by rw [IntKind.wrap_i64]; omega
          have c15 := hat (j + 1) (by omega)
          have c2 := hat (j + 14) (by omega)
          have c16 := hat j (by omega)
          have c7 := hat (j + 9) (by omega)
          have cc := hat (j + 16) (by omega)
          have hf : wr.frozen? ⟨w.heap.size + 1, j + 16, none⟩ = false := frozen_of_row _ _ _ _ _ H1.out
          have hy1 := hu (j + 1)
          have hy2 := hu (j + 14)
          clear hat hu
          have HW : Hid (∀ x n, x = next (words s.data.toList (j + 16)) → Below w.heap.size w ((wr.drewN n).setCell ⟨w.heap.size + 1, j + 16, none⟩ (.int .u32 x)) ∧ Hid (((wr.drewN n).setCell ⟨w.heap.size + 1, j + 16, none⟩ (.int .u32 x)).heap[w.heap.size]? = some (.cells (cells64 []) 145 (0, 0))) ∧ Hid (((wr.drewN n).setCell ⟨w.heap.size + 1, j + 16, none⟩ (.int .u32 x)).heap[w.heap.size + 1]? = some (.cells (cells64 (words s.data.toList (j + 1 + 16))) 145 (0, 0)))) := by
            intro x n hx
            refine ⟨(below_drewN hB n).setCell (by show _ ≤ w.heap.size + 1; omega) _, ?_, ?_⟩
            · exact (heap_setCell_other _ _ _ _ (by show w.heap.size ≠ w.heap.size + 1; omega)).trans H0.out
            · refine (heap_setCell_same (wr.drewN n) _ _ _ _ _ H1.out).trans ?_
              rw [show j + 1 + 16 = (j + 16) + 1 by omega, words_succ_hi _ (j + 16) (by omega), ← cells64_set _ _ (by rw [words_length]; omega), words_length, hx]
          have HN : Hid (next (words s.data.toList (j + 16)) = sh.wr (sh.wr (sh.wr ((words s.data.toList (j + 16)).getD j 0 + s0 ((words s.data.toList (j + 16)).getD (j + 1) 0)) + (words s.data.toList (j + 16)).getD (j + 9) 0) + s1 ((words s.data.toList (j + 16)).getD (j + 14) 0))) := by
            show _ = _
            unfold next
            rw [words_length, show j + 16 - 16 = j by omega, show j + 16 - 15 = j + 1 by omega, show j + 16 - 7 = j + 9 by omega, show j + 16 - 2 = j + 14 by omega]
          clear H0 H1
          generalize (words s.data.toList (j + 16)).getD (j + 1) 0 = y1 at *
          generalize (words s.data.toList (j + 16)).getD (j + 14) 0 = y2 at *
          generalize (words s.data.toList (j + 16)).getD (j + 9) 0 = y3 at *
          generalize (words s.data.toList (j + 16)).getD j 0 = y4 at *
          go_wp2
          go_quiet (fail)
          go_wp2_with (go_at_call 91; refine (right_any _ _ _ ⟨by decide, by decide⟩ ‹_›).mono ?_; rintro e w' ⟨rfl, rfl⟩)
          go_region
          go_wp2
          go_roundw
          case rel =>
            (repeat apply Exists.intro)
            refine ⟨⟨j + 1, by omega, by go_num, HW.out _ _ ?_⟩, rfl⟩
            rw [HN.out]
            simp only [s0, s1, sh.wr, IntKind.wrap_u32, sh.xor, show ((2 : Int) ^ 3) = 8 by decide, show ((2 : Int) ^ 10) = 1024 by decide]
            omega
          case measure => simp [intOf]; omega
        · obtain rfl : j = 48 := by omega
          go_wp2_with (first | (refine wpList_load_row rfl 145 _ rfl (w.heap.size + 1) rfl _ _ _ _ H1.out Tryz.underlying145 rfl (info64.trans (congrArg some (cells64_size _ (by rw [words_length]; omega)).symm)) ?_) | (refine wpList_store_row rfl 145 _ _ rfl w.heap.size _ rfl rfl _ _ H0.out (info64.trans (congrArg some (cells64_size _ (by rw [words_length]; omega)).symm)) ((cells64_size [] (by decide)).trans (cells64_size _ (by rw [words_length]; omega)).symm) (cells64_one _) ?_))
          refine bodyPost_ret (results_cell_row Tryz.results89 _ _ w.heap.size _ _ _ _ rfl (setRow_heap _ _ _ _ _ _ H0.out) Tryz.underlying145 rfl (info64.trans (congrArg some (cells64_size _ (by rw [words_length]; omega)).symm))) rfl ⟨?_, below_setRow hB (Nat.le_refl _) _⟩
          rw [cells64_full _ (words_length _ _)]
end Go.Proofs.YtgchjinbnlclnaaGreatDoor.sh
