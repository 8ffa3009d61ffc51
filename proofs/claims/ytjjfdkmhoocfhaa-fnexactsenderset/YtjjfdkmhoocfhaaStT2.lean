/-
  A sender that is set: the model's l07Copy. No condition.
-/
import Derived.Test.YtjjfdkmhoocfhaaStT1
import Derived.Test.YtjjfdkmhoocfhaaStR2
import Derived.Test.YtjjfdkmhoocfhaaStN1
import Derived.OwnWalk
namespace Go.Proofs.Ytjjfdkmhoocfhaa.st
open Go.ChangeShapes Go.WideShapes Go.ChangeAt Go.RowKit
open Go.Proofs.Ytjjfdkmhoocfhaa.wi (heap_lt calls_w wp_w)
open Classical
set_option linter.unusedVariables false

theorem OwS.lit (u : World) : OwS u.heap.size (.slice (some ⟨u.heap.size, 0, none⟩) 0 0) [] (u.alloc (.cells #[] 28)) :=
  ⟨rfl, .inr ⟨u.heap.size, 0, #[], rfl, Nat.le_refl _, heap_alloc_new _ _, Nat.le_refl _, by simp, rfl, rfl⟩⟩
/-- the cells from a place on, as an append takes them -/
theorem Row.news {u : World} {b off : Nat} {l : List Ln} (h : Row u b off l) (k : Nat) : ∀ j x, (flat (l.drop k))[j]? = some x → u.cell? ((⟨b, off + k * 2, none⟩ : Addr).add j) = some x := by
  intro j x hx
  have hj : j < (l.length - k) * 2 := by
    have := (List.getElem?_eq_some_iff.1 hx).1
    rwa [flat_length, List.length_drop] at this
  have e : (⟨b, off + k * 2, none⟩ : Addr).add j = ⟨b, off + k * 2 + j, none⟩ := by unfold Addr.add; split <;> simp_all
  rw [e]
  rcases Nat.mod_two_eq_zero_or_one j with h2 | h2
  · obtain ⟨i, rfl⟩ : ∃ i, j = i * 2 := ⟨j / 2, by omega⟩
    have h3 := (h (k + i) (by omega)).1
    have h4 := (flat_at (l.drop k) i (by rw [List.length_drop]; omega)).1
    rw [show off + k * 2 + i * 2 = off + (k + i) * 2 by omega, h3]
    rw [hx] at h4
    rw [h4]; simp [List.getD]
  · obtain ⟨i, rfl⟩ : ∃ i, j = i * 2 + 1 := ⟨j / 2, by omega⟩
    have h3 := (h (k + i) (by omega)).2
    have h4 := (flat_at (l.drop k) i (by rw [List.length_drop]; omega)).2
    rw [show off + k * 2 + (i * 2 + 1) = off + (k + i) * 2 + 1 by omega, h3]
    rw [hx] at h4
    rw [h4]; simp [List.getD]
theorem flat_one (l : List Ln) : ∀ y ∈ flat l, y.oneCell' = true := by
  intro y hy
  obtain ⟨x, _, hx⟩ := List.mem_flatMap.1 hy
  simp at hx
  rcases hx with rfl | rfl <;> rfl
/-- l07Copy's blocks -/
structure InCp (w : World) (v : Value) (u : World) : Prop where
  bel : Below w.heap.size w u
  arg : rw.At u w.heap.size #[v] 49
  res : rw.At u (w.heap.size + 1) #[.slice none 0 0] 49
theorem InCp.new {w : World} {v : Value} : InCp w v ((w.alloc (.cells #[v] 49)).alloc (.cells #[.slice none 0 0] 49)) := by
  refine ⟨((Below.refl _ _).alloc (Nat.le_refl _) _).alloc (by simp) _, ?_, ?_⟩
  · exact (Below.heap_alloc _ _ _ (by simp)).trans (heap_alloc_new _ _)
  · have := rw.At.new (w.alloc (.cells #[v] 49)) #[.slice none 0 0] 49
    rwa [World.size_alloc] at this
theorem InCp.up {w u u' : World} {v : Value} (h : InCp w v u) (hb : Below u.heap.size u u') : InCp w v u' := ⟨h.bel.trans (hb.mono h.bel.size), h.arg.up hb, h.res.up hb⟩
theorem InCp.grown {w u u' : World} {v : Value} (h : InCp w v u) {base : Nat} {o : Value} {l : List Ln} (ho : OwS base o l u) (hb : w.heap.size + 1 < base) (hg : u.grownBy u' o.ownBlock) : InCp w v u' := by
  have hk : ∀ j, o.ownBlock = some j → w.heap.size + 1 < j := fun j hj => Nat.lt_of_lt_of_le hb (ho.block j hj).1
  refine ⟨h.bel.grown hg h.bel.size (fun j hj => by have := hk j hj; omega), ?_, ?_⟩
  · exact (hg.block _ h.arg.lt (fun e => by have := hk _ e.symm; omega)).trans h.arg
  · exact (hg.block _ h.res.lt (fun e => by have := hk _ e.symm; omega)).trans h.res
set_option maxHeartbeats 4000000 in
theorem copyM_S (b off cap : Nat) (l : List Ln) (w : World) (hl8 : l.length ≤ 8) (hlc : l.length ≤ cap) (hb : b < w.heap.size) (hR : Row w b off l) :
    Calls Try.prog 50 #[.agg #[.slice (some ⟨b, off, none⟩) l.length cap]] w (SndPost w l) := by
  have HI : Hid (InCp w (.slice (some ⟨b, off, none⟩) l.length cap) ((w.alloc (.cells #[.slice (some ⟨b, off, none⟩) l.length cap] 49)).alloc (.cells #[.slice none 0 0] 49))) := InCp.new
  have HR : Hid (∀ u, Below w.heap.size w u → Row u b off l) := fun u hu => hR.below hu hb
  obtain ⟨i0, hi, hz0, hz1, hz2⟩ := info_parts infoSt
  have hU1 := HI.out.up (rw.up_alloc _ (.cells #[] 28))
  have hnews := (HR.out _ hU1.bel).news 0
  rw [List.drop_zero, Nat.zero_mul, Nat.add_zero] at hnews
  have hone := flat_one l
  have hlen : (flat l).length = l.length * 2 := flat_length l
  have hlit := OwS.lit ((w.alloc (.cells #[.slice (some ⟨b, off, none⟩) l.length cap] 49)).alloc (.cells #[.slice none 0 0] 49))
  have hsz : ((w.alloc (.cells #[.slice (some ⟨b, off, none⟩) l.length cap] 49)).alloc (.cells #[.slice none 0 0] 49)).heap.size = w.heap.size + 1 + 1 := by simp
  rw [hsz] at hlit
  have HG : Hid (∀ w4, (((w.alloc (.cells #[.slice (some ⟨b, off, none⟩) l.length cap] 49)).alloc (.cells #[.slice none 0 0] 49)).alloc (.cells #[] 28)).grownBy w4 (some (w.heap.size + 1 + 1)) → InCp w (.slice (some ⟨b, off, none⟩) l.length cap) w4) := fun w4 hg => hU1.grown hlit (by omega) hg
  clear HI hR hU1 hsz
  obtain ⟨m, hm⟩ : ∃ m, m = l.length := ⟨_, rfl⟩
  have HM : Hid (m = l.length) := hm
  rw [← hm] at hlen HG hlc hl8 hlit hnews ⊢
  clear hm
  go_enter Try.func50, Try.ntmps50
  go_wp2_with (at_builtin; refine wpList_append_own _ rfl (.tmp 3) (.tmp 5) 47 rfl (w.heap.size + 1 + 1) 28 i0 (.agg #[.int .i64 0, .string ⟨#[]⟩]) 2 24 Try.underlying47 hi hz0 hz1 hz2 rfl (by decide) (.slice (some ⟨w.heap.size + 1 + 1, 0, none⟩) 0 0) 0 [] rfl hlit ⟨b, off, none⟩ m cap (flat l) rfl hlen hnews hone (by unfold maxLen; omega) (by omega) (by simp) ?_; intro v4 w4 hown hgr hnil; clear hnil; have hi4 := HG.out w4 hgr; have ho4 : OwS (w.heap.size + 1 + 1) v4 l w4 := (by have := hown; rw [Nat.zero_add, List.nil_append, HM.out] at this; exact this); obtain ⟨p4, c4, hp4⟩ := ho4.shape; subst hp4; have r0 := hi4.res.cell 0; have r2 := (fun k => hi4.res.frozen k); clear hown hgr hlit hnews hone hlen HG)
  have hne4 : (Value.slice p4 l.length c4).ownBlock ≠ some (w.heap.size + 1) := fun e => by
    have := (ho4.block _ e).1
    omega
  have d1 := hi4.res.set 0 (.slice p4 l.length c4)
  have d2 := hi4.bel.setCell (p := ⟨w.heap.size + 1, 0, none⟩) (by simp) (.slice p4 l.length c4)
  have ho5 : OwS (w.heap.size + 1 + 1) (.slice p4 l.length c4) l (w4.setCell ⟨w.heap.size + 1, 0, none⟩ (.slice p4 l.length c4)) :=
    World.ownsRow.kept ho4 (Go.Lib.grownBy_setCell w4 (w.heap.size + 1) 0 _) (.inr hne4)
  exact bodyPost_ret (results_cell_row Try.results50 _ _ (w.heap.size + 1) _ #[.slice p4 l.length c4] _ _ rfl d1 Try.underlying49 rfl infoSd) rfl ⟨_, rfl, d2, ho5.le (by omega)⟩
end Go.Proofs.Ytjjfdkmhoocfhaa.st
