/-
  The program's map of what a window tells of: just its top, if it has one, and its counts. No condition but the window's limits.
-/
import Derived.Test.YtodcjhckkbmikaaDoorMap5
namespace Go.Proofs.YtodcjhckkbmikaaDoor.wi
open Go.ChangeShapes Go.WideShapes Go.ChangeAt Go.RowKit
open Classical
set_option linter.unusedVariables false

/-- what a window tells of -/
def Told (e t : Int) (s : List Int) (e' c' : Int) : Prop := e' = e ∧ ((t ≠ -1 ∧ c' = t) ∨ c' ∈ s)
def ToldTo (e t : Int) (s : List Int) (k : Nat) (e' c' : Int) : Prop := e' = e ∧ ((t ≠ -1 ∧ c' = t) ∨ c' ∈ s.take k)
theorem toldTo_succ {e t : Int} {s : List Int} {k : Nat} (hk : k < s.length) (x : Int) (hx : x = s.getD k 0) (e' c' : Int) : (ToldTo e t s k e' c' ∨ (e' = e ∧ c' = x)) ↔ ToldTo e t s (k + 1) e' c' := by
  unfold ToldTo
  rw [List.take_succ_eq_append_getElem hk]
  have e1 : s.getD k 0 = s[k] := by simp [List.getD, List.getElem?_eq_getElem hk]
  rw [hx, e1]
  simp only [List.mem_append, List.mem_singleton]
  constructor
  · rintro (⟨rfl, h | h⟩ | ⟨rfl, rfl⟩)
    · exact ⟨rfl, .inl h⟩
    · exact ⟨rfl, .inr (.inl h)⟩
    · exact ⟨rfl, .inr (.inr rfl)⟩
  · rintro ⟨rfl, h | h | h⟩
    · exact .inl ⟨rfl, .inl h⟩
    · exact .inl ⟨rfl, .inr h⟩
    · exact .inr ⟨rfl, h⟩
theorem toldTo_end (e t : Int) (s : List Int) (e' c' : Int) : ToldTo e t s s.length e' c' ↔ Told e t s e' c' := by
  unfold ToldTo Told; rw [List.take_length]

theorem grown_of_below {u u' : World} (hb : Below u.heap.size u u') : u.grownBy u' none := ⟨hb.os, hb.tape, hb.output, hb.size, fun i hi _ => hb.block i hi⟩
/-- what is known while a window's map is filled: the window's block, the map's -/
def InTk (w : World) (e t : Int) (v : Value) (b n : Nat) (M : Int → Int → Prop) (u : World) : Prop := Below w.heap.size w u ∧ u.heap[w.heap.size]? = some (.cells #[.int .i64 e, .int .i64 t, v] 25 (0, 0)) ∧ GMap u b n M ∧ w.heap.size < b
theorem InTk.up {w u u' : World} {e t : Int} {v : Value} {b n : Nat} {M : Int → Int → Prop} (h : InTk w e t v b n M u) (hb : Below u.heap.size u u') : InTk w e t v b n M u' := ⟨h.1.trans (hb.mono h.1.size), (hb.block _ (heap_lt h.2.1)).trans h.2.1, h.2.2.1.kept (grown_of_below hb) (by simp), h.2.2.2⟩
theorem InTk.put {w u u' : World} {e t : Int} {v : Value} {b n n' : Nat} {M M' : Int → Int → Prop} (h : InTk w e t v b n M u) (hg : u.grownBy u' (some b)) (hm : GMap u' b n' M') : InTk w e t v b n' M' u' :=
  ⟨h.1.grown hg h.1.size (fun k hk => by cases hk; exact Nat.le_of_lt h.2.2.2), (hg.block _ (heap_lt h.2.1) (by have := h.2.2.2; intro he; cases he; omega)).trans h.2.1, hm, h.2.2.2⟩
theorem InTk.below {w u : World} {e t : Int} {v : Value} {b n : Nat} {M : Int → Int → Prop} (h : InTk w e t v b n M u) : Below w.heap.size w u := h.1
theorem InTk.gmap {w u : World} {e t : Int} {v : Value} {b n : Nat} {M : Int → Int → Prop} (h : InTk w e t v b n M u) : GMap u b n M := h.2.2.1
theorem InTk.congr {w u : World} {e t : Int} {v : Value} {b n n' : Nat} {M M' : Int → Int → Prop} (h : InTk w e t v b n M u) (hn : n ≤ n') (hM : ∀ e c, M e c ↔ M' e c) : InTk w e t v b n' M' u := ⟨h.1, h.2.1, (h.2.2.1.congr hM).mono hn, h.2.2.2⟩
theorem InTk.cells {w u : World} {e t : Int} {v : Value} {b n : Nat} {M : Int → Int → Prop} (h : InTk w e t v b n M u) : u.cell? ⟨w.heap.size, 0, none⟩ = some (.int .i64 e) ∧ u.cell? ⟨w.heap.size, 1, none⟩ = some (.int .i64 t) ∧ u.cell? ⟨w.heap.size, 2, none⟩ = some v := by
  refine ⟨?_, ?_, ?_⟩ <;> simp [World.cell?, h.2.1]

set_option maxHeartbeats 8000000 in
theorem takenBy_row (e t : Int) (b0 off cap : Nat) (s : List Int) (w : World) (hb : b0 < w.heap.size) (hs : s.length ≤ 16) (hR : Row w b0 off s) (he : W64 e) (ht : W64 t) (hsw0 : ∀ x ∈ s, W64 x) :
    Calls Tryd.prog 26 #[.agg #[.int .i64 e, .int .i64 t, (.slice (some ⟨b0, off, none⟩) s.length cap)]] w fun r w' => ∃ b, r = .returned (.map (some b)) ∧ Below w.heap.size w w' ∧ GMap w' b 17 (Told e t s) ∧ w.heap.size ≤ b := by
  have hmm := @run_makeMap Tryd.prog
  have HR : Hid (∀ u, Below w.heap.size w u → Row u b0 off s) := fun u hu => hR.below hu hb
  have hsw : Hid (∀ x ∈ s, W64 x) := hsw0
  clear hsw0 hR
  have HI0 : Hid (InTk w e t (.slice (some ⟨b0, off, none⟩) s.length cap) (w.heap.size + 1) 0 (fun _ _ => False) ((w.alloc (.cells #[.int .i64 e, .int .i64 t, (.slice (some ⟨b0, off, none⟩) s.length cap)] 25)).alloc (.map #[] 0))) := by
    refine ⟨((Below.refl _ _).alloc (Nat.le_refl _) _).alloc (by simp) _, (Below.heap_alloc _ _ _ (by simp)).trans (heap_alloc_new _ _), ?_, by omega⟩
    have h := gmap_made (w.alloc (.cells #[.int .i64 e, .int .i64 t, (.slice (some ⟨b0, off, none⟩) s.length cap)] 25))
    rwa [show (w.alloc (.cells #[.int .i64 e, .int .i64 t, (.slice (some ⟨b0, off, none⟩) s.length cap)] 25)).heap.size = w.heap.size + 1 by simp] at h
  by_cases h1 : t = -1
  · have d : (t != -1) = false := by simp [h1]
    have HI : Hid (InTk w e t (.slice (some ⟨b0, off, none⟩) s.length cap) (w.heap.size + 1) (0 + 1) (ToldTo e t s 0) ((w.alloc (.cells #[.int .i64 e, .int .i64 t, (.slice (some ⟨b0, off, none⟩) s.length cap)] 25)).alloc (.map #[] 0))) := HI0.out.congr (by omega) (fun e' c' => by simp [ToldTo, h1])
    clear HI0 h1
    obtain ⟨b, hbb⟩ : ∃ b, b = w.heap.size + 1 := ⟨_, rfl⟩
    go_enter Tryd.func26, Tryd.ntmps26
    go_wp2
    rw [← hbb] at HI ⊢
    clear hbb hmm
    go_loopw [5, 17] (fun _ i u => ∃ k : Nat, k ≤ s.length ∧ i = .int .i64 k ∧ Hid (InTk w e t (.slice (some ⟨b0, off, none⟩) s.length cap) b (k + 1) (ToldTo e t s k) u)) (fun _ i _ => s.length - (intOf i).toNat)
    case atStart => exact ⟨0, Nat.zero_le _, rfl, HI⟩
    case round =>
      clear HI
      obtain ⟨k, hk, rfl, HI⟩ := hrel
      obtain ⟨c0, c1, c2⟩ := HI.out.cells
      by_cases hlt : k < s.length
      · have hcell := HR.out wr HI.out.below k hlt
        have HT : Hid (∀ e' c', (ToldTo e t s k e' c' ∨ (e' = e ∧ c' = s.getD k 0)) ↔ ToldTo e t s (k + 1) e' c') := fun e' c' => toldTo_succ hlt _ rfl e' c'
        have hxw : W64 (s.getD k 0) := hsw.out _ (by rw [List.getD, List.getElem?_eq_getElem hlt]; exact List.getElem_mem hlt)
        obtain ⟨x, hx⟩ : ∃ x, x = s.getD k 0 := ⟨_, rfl⟩
        rw [← hx] at hcell HT hxw
        clear hx
        have hG := HI.out.gmap
        go_wp2_with (at_mapUpdate; refine wpList_put5 _ rfl _ _ _ rfl b (k + 1) _ rfl hG (by omega) e x he hxw rfl rfl ?_; intro w2 hG2 hgr2; go_frame)
        have HI2 : Hid (InTk w e t (.slice (some ⟨b0, off, none⟩) s.length cap) b (k + 1 + 1) (ToldTo e t s (k + 1)) w2) := (HI.out.put hgr2 hG2).congr (Nat.le_refl _) HT.out
        clear hG hG2 hgr2 HI HT
        go_wp2
        exact ⟨⟨k + 1, by omega, by go_num, HI2⟩, by simp [intOf]; omega⟩
      · obtain rfl : k = s.length := by omega
        have HI2 : Hid (InTk w e t (.slice (some ⟨b0, off, none⟩) s.length cap) b 17 (Told e t s) wr) := HI.out.congr (by omega) (toldTo_end e t s)
        clear HI
        go_wp2
        go_ret
        exact ⟨b, rfl, HI2.out.below, HI2.out.gmap, by have := HI2.out.2.2.2; omega⟩
  · have d : (t != -1) = true := by simp [h1]
    have HT0 : Hid (∀ e' c', (False ∨ (e' = e ∧ c' = t)) ↔ ToldTo e t s 0 e' c') := fun e' c' => by simp [ToldTo, h1]
    go_enter Tryd.func26, Tryd.ntmps26
    go_wp2_with (go_at_call 25; fail)
    obtain ⟨b, hbb⟩ : ∃ b, b = w.heap.size + 1 := ⟨_, rfl⟩
    have hI := HI0.out
    clear HI0 hmm
    rw [← hbb] at hI ⊢
    refine calls_w (InTk w e t (.slice (some ⟨b0, off, none⟩) s.length cap) b 0 (fun _ _ => False)) hI ?_
    clear hI hbb
    intro u hI
    refine (topOf_any e t _ u).mono ?_
    rintro r w1 ⟨rfl, hb1⟩
    replace hI := hI.up hb1
    clear hb1
    have hG := hI.gmap
    obtain ⟨c0, c1, c2⟩ := hI.cells
    have HI1 : Hid (InTk w e t (.slice (some ⟨b0, off, none⟩) s.length cap) b 0 (fun _ _ => False) w1) := hI
    clear hI
    go_wp2_with (at_mapUpdate; refine wpList_put5 _ rfl _ _ _ rfl b 0 _ rfl hG (by omega) e t he ht rfl rfl ?_; intro w2 hG2 hgr2; have HI : Hid (InTk w e t (.slice (some ⟨b0, off, none⟩) s.length cap) b (0 + 1) (ToldTo e t s 0) w2) := (HI1.out.put hgr2 hG2).congr (Nat.le_refl _) HT0.out; obtain ⟨k0, k1, k2⟩ := HI.out.cells)
    clear hG c0 c1 c2 HI1 hG2 hgr2 HT0 k0 k1 k2
    go_loopw [5, 17] (fun _ i u => ∃ k : Nat, k ≤ s.length ∧ i = .int .i64 k ∧ Hid (InTk w e t (.slice (some ⟨b0, off, none⟩) s.length cap) b (k + 1) (ToldTo e t s k) u)) (fun _ i _ => s.length - (intOf i).toNat)
    case atStart => exact ⟨0, Nat.zero_le _, rfl, HI⟩
    case round =>
      clear HI
      obtain ⟨k, hk, rfl, HI⟩ := hrel
      obtain ⟨c0, c1, c2⟩ := HI.out.cells
      by_cases hlt : k < s.length
      · have hcell := HR.out wr HI.out.below k hlt
        have HT : Hid (∀ e' c', (ToldTo e t s k e' c' ∨ (e' = e ∧ c' = s.getD k 0)) ↔ ToldTo e t s (k + 1) e' c') := fun e' c' => toldTo_succ hlt _ rfl e' c'
        have hxw : W64 (s.getD k 0) := hsw.out _ (by rw [List.getD, List.getElem?_eq_getElem hlt]; exact List.getElem_mem hlt)
        obtain ⟨x, hx⟩ : ∃ x, x = s.getD k 0 := ⟨_, rfl⟩
        rw [← hx] at hcell HT hxw
        clear hx
        have hG := HI.out.gmap
        go_wp2_with (at_mapUpdate; refine wpList_put5 _ rfl _ _ _ rfl b (k + 1) _ rfl hG (by omega) e x he hxw rfl rfl ?_; intro w2 hG2 hgr2; go_frame)
        have HI2 : Hid (InTk w e t (.slice (some ⟨b0, off, none⟩) s.length cap) b (k + 1 + 1) (ToldTo e t s (k + 1)) w2) := (HI.out.put hgr2 hG2).congr (Nat.le_refl _) HT.out
        clear hG hG2 hgr2 HI HT
        go_wp2
        exact ⟨⟨k + 1, by omega, by go_num, HI2⟩, by simp [intOf]; omega⟩
      · obtain rfl : k = s.length := by omega
        have HI2 : Hid (InTk w e t (.slice (some ⟨b0, off, none⟩) s.length cap) b 17 (Told e t s) wr) := HI.out.congr (by omega) (toldTo_end e t s)
        clear HI
        go_wp2
        go_ret
        exact ⟨b, rfl, HI2.out.below, HI2.out.gmap, by have := HI2.out.2.2.2; omega⟩

set_option maxHeartbeats 8000000 in
theorem takenBy_none (e t : Int) (p : Option Addr) (cap : Nat) (w : World) (he : W64 e) (ht : W64 t) :
    Calls Tryd.prog 26 #[.agg #[.int .i64 e, .int .i64 t, .slice p 0 cap]] w fun r w' => ∃ b, r = .returned (.map (some b)) ∧ Below w.heap.size w w' ∧ GMap w' b 17 (Told e t []) ∧ w.heap.size ≤ b := by
  have hmm := @run_makeMap Tryd.prog
  have HI0 : Hid (InTk w e t (.slice p 0 cap) (w.heap.size + 1) 0 (fun _ _ => False) ((w.alloc (.cells #[.int .i64 e, .int .i64 t, .slice p 0 cap] 25)).alloc (.map #[] 0))) := by
    refine ⟨((Below.refl _ _).alloc (Nat.le_refl _) _).alloc (by simp) _, (Below.heap_alloc _ _ _ (by simp)).trans (heap_alloc_new _ _), ?_, by omega⟩
    have h := gmap_made (w.alloc (.cells #[.int .i64 e, .int .i64 t, .slice p 0 cap] 25))
    rwa [show (w.alloc (.cells #[.int .i64 e, .int .i64 t, .slice p 0 cap] 25)).heap.size = w.heap.size + 1 by simp] at h
  by_cases h1 : t = -1
  · have d : (t != -1) = false := by simp [h1]
    have HI : Hid (InTk w e t (.slice p 0 cap) (w.heap.size + 1) 17 (Told e t []) ((w.alloc (.cells #[.int .i64 e, .int .i64 t, .slice p 0 cap] 25)).alloc (.map #[] 0))) := HI0.out.congr (by omega) (fun e' c' => by simp [Told, h1])
    clear HI0 h1
    go_enter Tryd.func26, Tryd.ntmps26
    go_wp2
    refine wp_loop_rounds 1 ?_
    rw [rounds_succ]
    go_wp2
    go_ret
    exact ⟨_, rfl, HI.out.below, HI.out.gmap, by omega⟩
  · have d : (t != -1) = true := by simp [h1]
    have HT0 : Hid (∀ e' c', (False ∨ (e' = e ∧ c' = t)) ↔ Told e t [] e' c') := fun e' c' => by simp [Told, h1]
    go_enter Tryd.func26, Tryd.ntmps26
    go_wp2_with (go_at_call 25; fail)
    obtain ⟨b, hbb⟩ : ∃ b, b = w.heap.size + 1 := ⟨_, rfl⟩
    have hI := HI0.out
    clear HI0 hmm
    rw [← hbb] at hI ⊢
    refine calls_w (InTk w e t (.slice p 0 cap) b 0 (fun _ _ => False)) hI ?_
    clear hI hbb
    intro u hI
    refine (topOf_any e t _ u).mono ?_
    rintro r w1 ⟨rfl, hb1⟩
    replace hI := hI.up hb1
    clear hb1
    have hG := hI.gmap
    obtain ⟨c0, c1, c2⟩ := hI.cells
    have HI1 : Hid (InTk w e t (.slice p 0 cap) b 0 (fun _ _ => False) w1) := hI
    clear hI
    go_wp2_with (at_mapUpdate; refine wpList_put5 _ rfl _ _ _ rfl b 0 _ rfl hG (by omega) e t he ht rfl rfl ?_; intro w2 hG2 hgr2; have HI : Hid (InTk w e t (.slice p 0 cap) b 17 (Told e t []) w2) := (HI1.out.put hgr2 hG2).congr (by omega) HT0.out; obtain ⟨k0, k1, k2⟩ := HI.out.cells)
    clear hG c0 c1 c2 HI1 hG2 hgr2 HT0 k0 k1 k2
    refine wp_loop_rounds 1 ?_
    rw [rounds_succ]
    go_wp2
    go_ret
    exact ⟨_, rfl, HI.out.below, HI.out.gmap, by have := HI.out.2.2.2; omega⟩
theorem takenBy_any (e t : Int) (v : Value) (s : List Int) (w : World) (hs : s.length ≤ 16) (hv : SliceIs w v s) (he : W64 e) (ht : W64 t) (hsw : ∀ x ∈ s, W64 x) :
    Calls Tryd.prog 26 #[.agg #[.int .i64 e, .int .i64 t, v]] w fun r w' => ∃ b, r = .returned (.map (some b)) ∧ Below w.heap.size w w' ∧ GMap w' b 17 (Told e t s) ∧ w.heap.size ≤ b := by
  rcases hv with ⟨p, cap, rfl, rfl⟩ | ⟨b, off, cap, hb, rfl, hR⟩
  · exact takenBy_none e t p cap w he ht
  · exact takenBy_row e t b off cap s w hb hs hR he ht hsw
end Go.Proofs.YtodcjhckkbmikaaDoor.wi
