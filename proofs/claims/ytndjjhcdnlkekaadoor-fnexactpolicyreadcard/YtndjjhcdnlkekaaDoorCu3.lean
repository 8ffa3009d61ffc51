/-
  The model's split at line ends. No condition.
-/
import Derived.Test.YtndjjhcdnlkekaaDoorCu2
import Derived.Test.YtndjjhcdnlkekaaDoorOwnT
import Derived.Maps.AppendAt
namespace Go.Proofs.YtndjjhcdnlkekaaDoor.cu
open Go.ChangeShapes Go.WideShapes Go.ChangeAt Go.RowKit
open Go.Proofs.YtndjjhcdnlkekaaDoor.gb (bat bat_eq GlobR)
open Go.Proofs.YtndjjhcdnlkekaaDoor.ot
open Classical
set_option linter.unusedVariables false

/-- the pieces of a text between its line ends -/
def pieces (s : ByteArray) : Nat → Nat → Nat → List ByteArray
  | 0, _, _ => []
  | n + 1, a, i => if i < s.size then (if bat s i = 10 then s.extract a i :: pieces s n (i + 1) (i + 1) else pieces s n a (i + 1)) else [s.extract a s.size]
/-- the pieces behind place a, when place i is looked at -/
def Pcs (s : ByteArray) (a i : Nat) : List ByteArray := pieces s (s.size + 1 - i) a i
theorem pcs_end {s : ByteArray} {a : Nat} {i : Nat} (h : i = s.size) : Pcs s a i = [s.extract a s.size] := by
  subst h; simp [Pcs, show s.size + 1 - s.size = 1 by omega, pieces]
theorem pcs_cut {s : ByteArray} {a i : Nat} (h : i < s.size) (hb : bat s i = 10) : Pcs s a i = s.extract a i :: Pcs s (i + 1) (i + 1) := by
  unfold Pcs
  rw [show s.size + 1 - i = (s.size + 1 - (i + 1)) + 1 by omega]
  simp [pieces, h, hb]
theorem pcs_on {s : ByteArray} {a i : Nat} (h : i < s.size) (hb : bat s i ≠ 10) : Pcs s a i = Pcs s a (i + 1) := by
  unfold Pcs
  rw [show s.size + 1 - i = (s.size + 1 - (i + 1)) + 1 by omega]
  simp [pieces, h, hb]
theorem infoStr : (Tryd.prog.info? 9).map (fun i => (i.zero, i.size, i.bytes)) = some (some (.string ⟨#[]⟩), 1, 16) := by kernel_rfl
/-- what the split has, at place i behind place a -/
def SpI (w : World) (s : ByteArray) (a i : Nat) (l : List ByteArray) (v : Value) (u : World) : Prop := Below w.heap.size w u ∧ OwT w.heap.size v l u ∧ l.length ≤ i ∧ a ≤ i ∧ i ≤ s.size ∧ l ++ Pcs s a i = Pcs s 0 0
theorem SpI.on {w u : World} {s : ByteArray} {a i : Nat} {l : List ByteArray} {v : Value} (h : SpI w s a i l v u) (hi : i < s.size) (hb : bat s i ≠ 10) : SpI w s a (i + 1) l v u :=
  ⟨h.1, h.2.1, by have := h.2.2.1; omega, by have := h.2.2.2.1; omega, by omega, by rw [← pcs_on hi hb]; exact h.2.2.2.2.2⟩
theorem SpI.cut {w u u' : World} {s : ByteArray} {a i : Nat} {l : List ByteArray} {v v' : Value} (h : SpI w s a i l v u) (hi : i < s.size) (hb : bat s i = 10) (o : Obj)
    (hg : (u.alloc o).grownBy u' v.ownBlock) (ho : u'.ownsRow w.heap.size 9 1 v' (l.length + 1) (l.map Value.string ++ [.string (s.extract a i)])) : SpI w s (i + 1) (i + 1) (l ++ [s.extract a i]) v' u' :=
  ⟨below_own (h.1.alloc h.1.size o) hg (h.2.1.alloc o) (Nat.le_refl _) (Nat.le_trans h.1.size (by simp)), OwT.of1 ho, by have := h.2.2.1; simp; omega, by omega, by omega, by
    have := h.2.2.2.2.2; rw [pcs_cut hi hb] at this; simpa using this⟩
theorem SpI.fin {w u u' : World} {s : ByteArray} {a i : Nat} {l : List ByteArray} {v v' : Value} (h : SpI w s a i l v u) (hi : i = s.size) (o : Obj)
    (hg : (u.alloc o).grownBy u' v.ownBlock) (ho : u'.ownsRow w.heap.size 9 1 v' (l.length + 1) (l.map Value.string ++ [.string (s.extract a s.size)])) : Below w.heap.size w u' ∧ OwT w.heap.size v' (Pcs s 0 0) u' :=
  ⟨below_own (h.1.alloc h.1.size o) hg (h.2.1.alloc o) (Nat.le_refl _) (Nat.le_trans h.1.size (by simp)), by
    have e := h.2.2.2.2.2; rw [pcs_end hi] at e; rw [← e]; exact OwT.of1 ho⟩
theorem SpI.drew {w u : World} {s : ByteArray} {a i : Nat} {l : List ByteArray} {v : Value} (h : SpI w s a i l v u) : SpI w s a i l v u.drew := ⟨h.1.drew, h.2.1.up ((Below.refl _ _).drew), h.2.2⟩
set_option maxHeartbeats 4000000 in
theorem split_any (s : ByteArray) (w : World) (hs : s.size ≤ 1048576) :
    Calls Tryd.prog 40 #[.string s, .int .u8 10] w fun r w' => ∃ v, r = .returned v ∧ Below w.heap.size w w' ∧ OwT w.heap.size v (Pcs s 0 0) w' := by
  obtain ⟨i0, hi, hz0, hz1, hz2⟩ := info_parts infoStr
  have HI : Hid (_ ∧ _ ∧ _ ∧ _) := ⟨hi, hz0, hz1, hz2⟩
  clear hi hz0 hz1 hz2
  have HI0 : Hid (SpI w s 0 0 [] (.slice (some ⟨w.heap.size, 0, none⟩) 0 0) (w.alloc (.cells #[] 9))) := ⟨(Below.refl _ _).alloc (Nat.le_refl _) _, OwT.lit w, Nat.le_refl _, Nat.le_refl _, Nat.zero_le _, rfl⟩
  go_enter Tryd.func40, Tryd.ntmps40
  go_wp2
  go_loopw [5, 6, 7] (fun v a i u => ∃ (k b : Nat) (l : List ByteArray), i = .int .i64 k ∧ a = .int .i64 b ∧ Hid (SpI w s b k l v u)) (fun _ _ i _ => s.size - (intOf i).toNat)
  case atStart => exact ⟨0, 0, [], rfl, rfl, HI0⟩
  case round =>
    clear HI0
    obtain ⟨k, b, l, rfl, rfl, HS⟩ := hrel
    have hk : k ≤ s.size := HS.out.2.2.2.2.1
    have hbk : b ≤ k := HS.out.2.2.2.1
    have hln : l.length ≤ k := HS.out.2.2.1
    obtain ⟨p, c, hv⟩ := HS.out.2.1.shape
    subst hv
    by_cases hlt : k < s.size
    · have hb := bat_eq hlt
      by_cases hc : bat s k = 10
      · have hv : (s[k].toNat : Int) = 10 := by rw [← hb, hc]; rfl
        have hv2 : s[k].toNat = 10 := by rw [← hb, hc]
        have HC : Hid (bat s k = 10) := hc
        clear hc hb
        have HO : Hid (∀ o, World.ownsRow (wr.alloc o) w.heap.size 9 1 (.slice p l.length c) l.length (l.map Value.string)) := fun o => HS.out.2.1.alloc o
        have HZ : Hid (∀ o, w.heap.size ≤ (wr.alloc o).heap.size) := fun o => Nat.le_trans HS.out.1.size (by rw [World.size_alloc]; exact Nat.le_succ _)
        go_wp2_with (at_builtin; refine wpList_append_own _ rfl _ _ 57 rfl w.heap.size 9 i0 (.string ⟨#[]⟩) 1 16 Tryd.underlying57 HI.out.1 HI.out.2.1 HI.out.2.2.1 HI.out.2.2.2 rfl (by decide) (.slice p l.length c) l.length (l.map Value.string) rfl (HO.out _) ⟨wr.heap.size, 0, none⟩ 1 1 [.string (s.extract b k)] rfl rfl (cell_one_new _ _ _) (by simp [Value.oneCell']) (by unfold maxLen; omega) (by omega) (HZ.out _) ?_; intro v4 w4 hown hgr hnil; clear hnil; have HX : Hid (SpI w s (k + 1) (k + 1) (l ++ [s.extract b k]) v4 w4) := HS.out.cut hlt HC.out _ hgr hown; clear hown hgr HS HO HZ HC)
        go_round
        case rel => exact ⟨k + 1, k + 1, _, by go_num, by go_num, HX⟩
        case measure => simp [intOf]; omega
      · have HS2 : Hid (SpI w s b (k + 1) l (.slice p l.length c) wr) := HS.out.on hlt hc
        have hv : ¬ (s[k].toNat : Int) = 10 := by rw [← hb]; omega
        have hv2 : ¬ s[k].toNat = 10 := by rw [← hb]; omega
        clear HS hc hb
        go_wp2
        go_round
        case rel => exact ⟨k + 1, b, l, by go_num, rfl, HS2⟩
        case measure => simp [intOf]; omega
    · have hke : k = s.size := by omega
      have hnl : ¬ (k : Int) < (s.size : Int) := by omega
      have HO : Hid (∀ o, World.ownsRow (wr.alloc o) w.heap.size 9 1 (.slice p l.length c) l.length (l.map Value.string)) := fun o => HS.out.2.1.alloc o
      have HZ : Hid (∀ o, w.heap.size ≤ (wr.alloc o).heap.size) := fun o => Nat.le_trans HS.out.1.size (by rw [World.size_alloc]; exact Nat.le_succ _)
      go_wp2_with (at_builtin; refine wpList_append_own _ rfl _ _ 57 rfl w.heap.size 9 i0 (.string ⟨#[]⟩) 1 16 Tryd.underlying57 HI.out.1 HI.out.2.1 HI.out.2.2.1 HI.out.2.2.2 rfl (by decide) (.slice p l.length c) l.length (l.map Value.string) rfl (HO.out _) ⟨wr.heap.size, 0, none⟩ 1 1 [.string (s.extract b s.size)] rfl rfl (cell_one_new _ _ _) (by simp [Value.oneCell']) (by unfold maxLen; omega) (by omega) (HZ.out _) ?_; intro v4 w4 hown hgr hnil; clear hnil; have HX : Hid (Below w.heap.size w w4 ∧ OwT w.heap.size v4 (Pcs s 0 0) w4) := HS.out.fin hke _ hgr hown; clear hown hgr HS HO HZ)
      go_ret
      exact ⟨_, rfl, HX.out⟩
end Go.Proofs.YtndjjhcdnlkekaaDoor.cu
