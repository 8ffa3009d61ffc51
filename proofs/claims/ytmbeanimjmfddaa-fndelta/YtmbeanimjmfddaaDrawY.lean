/-
  Drawn bytes; bytes that are all 0. No condition.
-/
import Derived.Test.YtmbeanimjmfddaaDraw0
namespace Go.Proofs.Ytmbeanimjmfddaa.dr
open Go.ChangeShapes Go.WideShapes Go.ChangeAt Go.RowKit
set_option linter.unusedVariables false

theorem info5 : (Try.prog.info? 5).map (fun i => (i.zero, i.size, i.bytes)) = some (some (.int .u8 0), 1, 1) := by kernel_rfl
theorem conv_owned {w : World} {base : Nat} {v : Value} {n : Nat} {xs : List Int} (h : w.ownsRow base 5 1 v n (xs.map (Value.int .u8))) :
    (convert 22 9 v).run Try.prog w = .ok (.string (strOfNums xs)) w := by
  obtain ⟨hl, ⟨rfl, rfl⟩ | ⟨g, cap, cur, rfl, hg, hh, h1, h2, h3, h4⟩⟩ := h
  · have : xs = [] := by
      apply List.eq_nil_of_length_eq_zero
      simpa using hl
    subst this
    exact run_convert_bytes_nil (P := Try.prog) w 22 5 Try.underlying22 Try.underlying5 0 0 9 Try.underlying9
  · have hlen : xs.length = n := by simpa using hl
    refine run_convert_bytes_arg (P := Try.prog) w 22 5 Try.underlying22 Try.underlying5 g 0 n cap xs hlen (fun i hi => ?_) 9 Try.underlying9
    have hc : (cur.toList.take (n * 1))[i]? = some (Value.int .u8 (xs.getD i 0)) := by
      rw [h4, List.getElem?_map, List.getElem?_eq_getElem (by omega)]
      simp [List.getD, List.getElem?_eq_getElem (show i < xs.length by omega)]
    rw [List.getElem?_take_of_lt (by omega)] at hc
    simp [World.cell?, hh]
    simpa using hc

/-- what holds while a text is drawn -/
def Going (w : World) (B p : Nat) (a : Option Addr) (len cap : Nat) (k : Nat) (v : Value) (wr : World) : Prop :=
  ∃ xs : List Int, xs.length = k ∧ wr.ownsRow w.heap.size 5 1 v k (xs.map (Value.int .u8)) ∧ Src wr B p a len cap ∧ w.grownBy wr (some p)

theorem own_kept {w wr : World} {p : Nat} {v : Value} {k : Nat} {xs : List Value} (h : wr.ownsRow w.heap.size 5 1 v k xs) (hp : p < w.heap.size) :
    Hid (∀ w1, wr.grownBy w1 (some p) → w1.ownsRow w.heap.size 5 1 v k xs) := fun w1 hg => by
  refine h.kept hg ?_
  cases hv : v.ownBlock with
  | none => exact Or.inl rfl
  | some q =>
    right
    intro e
    have := (h.lt q hv).1
    cases e
    omega
theorem going_step {w wr w1 w2 : World} {B p : Nat} {a : Option Addr} {len cap k : Nat} {v v' : Value} {xs : List Int} {y : Int} (hgr : w.grownBy wr (some p)) (hp : p < w.heap.size) (hx : xs.length = k)
    (hS1 : Src w1 B p a len cap) (hg1 : wr.grownBy w1 (some p)) (hown1 : w1.ownsRow w.heap.size 5 1 v k (xs.map (Value.int .u8)))
    (hown2 : w2.ownsRow w.heap.size 5 1 v' (k + 1) (xs.map (Value.int .u8) ++ [.int .u8 y])) (hg2 : (w1.alloc (.cells #[.int .u8 y] 5)).grownBy w2 v.ownBlock) : Going w B p a len cap (k + 1) v' w2 := by
  have hrow : ∀ q, v.ownBlock = some q → w.heap.size ≤ q := fun q hq => (hown1.lt q hq).1
  have hga : w.grownBy (w1.alloc (.cells #[.int .u8 y] 5)) (some p) := gown (gtrans hgr hg1) (World.grownBy_alloc _ _ none) (fun q hq => by cases hq)
  refine ⟨xs ++ [y], by simp [hx], by simpa using hown2, ?_, gown hga hg2 hrow⟩
  have h1 : p < w1.heap.size := hS1.lt
  refine hS1.kept ?_
  rw [hg2.block p (by simp; omega) (fun e => by have := hrow p e.symm; omega)]
  exact Below.heap_alloc _ _ _ h1

set_option maxHeartbeats 1000000 in
theorem bytes_any (B p : Nat) (a : Option Addr) (len cap : Nat) (n : Int) (w : World) (hS : Src w B p a len cap) (hC : Codes w B a len) (n0 : 0 ≤ n) (n1 : n ≤ 1048576) :
    Calls Try.prog 47 #[.pointer (some ⟨p, 0, none⟩), .int .i64 n] w fun e w' => ∃ t : ByteArray, e = .returned (.string t) ∧ (t.size : Int) = n ∧ Src w' B p a len cap ∧ w.grownBy w' (some p) := by
  obtain ⟨i0, hi, hz0, hz1, hz2⟩ := info_parts info5
  have hp := hS.lt
  have HB : Hid (B ≤ p) := hS.1
  have HC : Hid (Codes w B a len) := hC
  clear hC
  have HS : Hid (Src w B p a len cap) := hS
  clear hS
  go_enter Try.func47, Try.ntmps47
  go_wp2
  go_loopw [5, 6] (fun v i wr => ∃ k : Nat, i = .int .i64 k ∧ (k : Int) ≤ n ∧ Going w B p a len cap k v wr) (fun _ i _ => (n - intOf i).toNat)
  case atStart =>
    refine ⟨0, rfl, n0, [], rfl, ⟨rfl, Or.inr ⟨w.heap.size, 0, #[], rfl, Nat.le_refl _, heap_alloc_new _ _, Nat.le_refl _, Nat.zero_le _, rfl, rfl⟩⟩, HS.out.kept (Below.heap_alloc _ _ _ hp), World.grownBy_alloc _ _ _⟩
  case round =>
    obtain ⟨k, rfl, hk, xs, hx, hown, hSr, hgr⟩ := hrel
    by_cases hlt : (k : Int) < n
    · have HCr : Hid (Codes wr B a len) := HC.out.below (gbelow hgr HB.out (by have := HB.out; omega))
      have HSr : Hid (Src wr B p a len cap) := hSr
      have HGr : Hid (w.grownBy wr (some p)) := hgr
      have HK := own_kept hown hp
      go_wp2_with (first | (go_at_call 52; refine (n_any B p a len cap _ _ HSr.out HCr.out (by omega) (by omega)).mono ?_; rintro e w1 ⟨y, rfl, y0, y1, y2, hS1, hg1⟩; have hy := y1 (by decide); have hown1 := HK.out w1 hg1; have hz1' := hg1.size) | (at_builtin; refine wpList_append_own _ rfl _ _ 22 rfl w.heap.size 5 i0 (.int .u8 0) 1 1 Try.underlying22 hi hz0 hz1 hz2 rfl (by decide) _ _ _ rfl (hown1.alloc _) ⟨w1.heap.size, 0, none⟩ 1 1 [.int .u8 y] rfl rfl (cell_one_new _ _ _) (fun x hx => by simp at hx; subst hx; rfl) (by unfold maxLen; omega) (by omega) (by have := HGr.out.size; simp; omega) ?_))
      intro v' w2 hown2 hg2 _
      have HR : Hid (Going w B p a len cap (k + 1) v' w2) := going_step HGr.out hp hx hS1 hg1 hown1 hown2 hg2
      clear hown2 hg2 hown1 hg1 hS1
      go_wp2
      go_roundw
      case rel => exact ⟨k + 1, by go_num, by omega, HR.out⟩
      case measure => simp [intOf]; omega
    · have hkn : (k : Int) = n := by omega
      have hconv := conv_owned hown
      have HT : Hid ((strOfNums xs).size = k) := by show _ = _; rw [strOfNums_size, hx]
      clear hown
      go_wp2
      go_ret
      exact ⟨_, rfl, by rw [HT.out]; exact hkn, hSr, hgr⟩

theorem bytes_at {w0 u : World} {a : Option Addr} {len cap : Nat} (h : At w0 a len cap u) (n : Int) (n0 : 0 ≤ n) (n1 : n ≤ 1048576) :
    Calls Try.prog 47 #[.pointer (some ⟨w0.heap.size, 0, none⟩), .int .i64 n] u fun e w' => ∃ t : ByteArray, e = .returned (.string t) ∧ (t.size : Int) = n ∧ At w0 a len cap w' :=
  (bytes_any _ _ a len cap n u h.1 h.2.2 n0 n1).mono fun e w' ⟨t, he, ht, hS, hg⟩ => ⟨t, he, ht, h.next hS hg⟩
theorem zeros_make (N : Nat) (hN : N ≤ 1048576) (u : World) : (Instr.makeSlice 22 (.int .i64 (N : Int)) (.int .i64 (N : Int))).run Try.prog u =
    .ok (.slice (some ⟨u.heap.size, 0, none⟩) N N) (u.alloc (.cells (madeCells #[.int .u8 0] N) 5)) := by
  obtain ⟨i0, hi, hz0, hz1, hz2⟩ := info_parts info5
  have h := run_make (P := Try.prog) u 22 5 i0 (.int .u8 0) Try.underlying22 hi hz0 .i64 .i64 (N : Int) (N : Int) (by omega) (Int.le_refl _) (by rw [hz2]; omega) (by omega)
  simpa [hz1, Value.cells] using h
theorem zeros_conv (N : Nat) (u : World) : (convert 22 9 (.slice (some ⟨u.heap.size, 0, none⟩) N N)).run Try.prog (u.alloc (.cells (madeCells #[.int .u8 0] N) 5)) =
    .ok (.string ⟨(List.replicate N (0 : UInt8)).toArray⟩) (u.alloc (.cells (madeCells #[.int .u8 0] N) 5)) := by
  have h := run_convert_bytes_back (P := Try.prog) (u.alloc (.cells (madeCells #[.int .u8 0] N) 5)) 22 9 5 ⟨u.heap.size, 0, none⟩ N (List.replicate N (0 : UInt8)) Try.underlying22 Try.underlying5 Try.underlying9 (fun j hj => by
    have e : (⟨u.heap.size, 0, none⟩ : Addr).add j = ⟨u.heap.size, j, none⟩ := by unfold Addr.add; split <;> simp_all
    rw [e]
    simp at hj
    simp [madeCells, hj, Nat.mod_one])
  simpa using h
end Go.Proofs.Ytmbeanimjmfddaa.dr
