/-
  Drawn numbers, and what stays beside a source at work. No condition.
  The model's l04Key, l05Record, l05Records: what a plain condition tells; no old block turns. No condition.
-/
import Derived.Test.YtcfekhahibklfaaDoorDraw0
import Derived.Laws.CopyOwn
import Derived.Test.YtcfekhahibklfaaDoorMg4
import Derived.Test.YtcfekhahibklfaaDoorLogS0
namespace Go.Proofs.YtcfekhahibklfaaDoor.dn
open Go.ChangeShapes Go.WideShapes Go.ChangeAt Go.RowKit
open Go.Proofs.YtcfekhahibklfaaDoor.dr
set_option linter.unusedVariables false

theorem At.alloc {w0 u : World} {a : Option Addr} {len cap : Nat} (h : At w0 a len cap u) (o : Obj) : At w0 a len cap (u.alloc o) := by
  have hb : Below w0.heap.size u (u.alloc o) := (Below.refl _ _).alloc h.2.1.size _
  exact ⟨h.1.kept (Below.heap_alloc _ _ _ h.1.lt), h.2.1.trans hb, h.2.2.below hb⟩
theorem At.drew {w0 u : World} {a : Option Addr} {len cap : Nat} (h : At w0 a len cap u) : At w0 a len cap u.drew := ⟨h.1, h.2.1.drew, h.2.2.below (show Below w0.heap.size u u.drew from (Below.refl _ _).drew)⟩
theorem At.up {w0 u u' : World} {a : Option Addr} {len cap : Nat} (h : At w0 a len cap u) (hb : Below u.heap.size u u') : At w0 a len cap u' :=
  ⟨h.1.kept (hb.block _ h.1.lt), h.2.1.trans (hb.mono h.2.1.size), h.2.2.below (hb.mono h.2.1.size)⟩
/-- a number below the most; no block but the source's turns -/
theorem n_g {w0 u : World} {a : Option Addr} {len cap : Nat} (h : At w0 a len cap u) (most : Nat) (m0 : 1 ≤ most) (m1 : most ≤ 1048576) :
    Calls Tryd.prog 40 #[.pointer (some ⟨w0.heap.size, 0, none⟩), .int .i64 (most : Int)] u fun e w' => ∃ k : Nat, e = .returned (.int .i64 (k : Int)) ∧ k < most ∧ At w0 a len cap w' ∧ u.grownBy w' (some w0.heap.size) := by
  refine (n_any _ _ a len cap most _ h.1 h.2.2 (by omega) (by omega)).mono ?_
  rintro e w' ⟨v, rfl, v0, v1, v2, hS, hg⟩
  obtain ⟨k, rfl⟩ : ∃ k : Nat, v = (k : Int) := ⟨v.toNat, by omega⟩
  refine ⟨k, rfl, ?_, h.next hS hg, hg⟩
  rcases Nat.lt_or_ge 1 most with h1 | h1
  · have := v1 (by omega); omega
  · have := v2 (by omega); omega
theorem one_g {w0 u : World} {a : Option Addr} {len cap : Nat} (h : At w0 a len cap u) (of_ : Int) (m0 : -9223372036854775808 ≤ of_) (m1 : of_ ≤ 9223372036854775807) :
    Calls Tryd.prog 42 #[.pointer (some ⟨w0.heap.size, 0, none⟩), .int .i64 of_] u fun e w' => ∃ v : Bool, e = .returned (.bool v) ∧ At w0 a len cap w' ∧ u.grownBy w' (some w0.heap.size) :=
  (one_any _ _ a len cap of_ u h.1 h.2.2 m0 m1).mono fun e w' ⟨v, he, hS, hg⟩ => ⟨v, he, h.next hS hg, hg⟩
theorem row_lt {u : World} {g : Nat} {o : Obj} (h : u.heap[g]? = some o) : g < u.heap.size := (Array.getElem?_eq_some_iff.1 h).1
theorem At.set {w0 u : World} {a : Option Addr} {len cap G i : Nat} {v : Value} (h : At w0 a len cap u) (hG : w0.heap.size < G) : At w0 a len cap (u.setCell ⟨G, i, none⟩ v) := by
  have hb : Below w0.heap.size u (u.setCell ⟨G, i, none⟩ v) := (Below.refl _ _).setCell (Nat.le_of_lt hG) _
  exact ⟨h.1.kept (heap_setCell_other _ _ _ _ (by show w0.heap.size ≠ G; omega)), h.2.1.trans hb, h.2.2.below hb⟩
/-- the answer is put into its row -/
theorem at_setRow {w0 u : World} {a : Option Addr} {len cap R : Nat} {cs : Array Value} (h : At w0 a len cap u) (hR : w0.heap.size < R) : At w0 a len cap (u.setRow R cs) := by
  have hb : Below w0.heap.size u (u.setRow R cs) := below_setRow (Below.refl _ _) (Nat.le_of_lt hR) _
  exact ⟨h.1.kept (setRow_other _ _ _ _ (by omega)), h.2.1.trans hb, h.2.2.below hb⟩
/-- one of three numbers -/
theorem three_cell (u : World) (x y z : Int) (v : Nat) (hv : v < 3) :
    ∃ n : Int, (u.alloc (.cells #[.int .i64 x, .int .i64 y, .int .i64 z] 2)).cell? ⟨u.heap.size, v, none⟩ = some (.int .i64 n) := by
  match v, hv with
  | 0, _ => exact ⟨x, by simp⟩
  | 1, _ => exact ⟨y, by simp⟩
  | 2, _ => exact ⟨z, by simp⟩
/-- the bytes that are drawn from, later -/
theorem codes_later {w u : World} {a : Option Addr} {len : Nat} (h : Codes w w.heap.size a len) (hb : Below w.heap.size w u) : Codes u u.heap.size a len := by
  obtain ⟨hl, h0 | ⟨b, off, e, hB, hc⟩⟩ := h.below hb
  · exact ⟨hl, .inl h0⟩
  · exact ⟨hl, .inr ⟨b, off, e, Nat.lt_of_lt_of_le hB hb.size, hc⟩⟩
/-- what is known where the source is made: a row ahead of it -/
structure Ahead (w : World) (o : Obj) (a : Option Addr) (len : Nat) (W : World) : Prop where
  below : Below w.heap.size w W
  row : W.heap[w.heap.size]? = some o
  codes : Codes W W.heap.size a len
theorem ahead_start {w : World} {a : Option Addr} {len : Nat} (o : Obj) (h : Codes w w.heap.size a len) : Ahead w o a len (w.alloc o) := by
  have hb : Below w.heap.size w (w.alloc o) := (Below.refl _ _).alloc (Nat.le_refl _) o
  refine ⟨hb, heap_alloc_new _ _, ?_⟩
  obtain ⟨hl, h0 | ⟨b, off, e, hB, hc⟩⟩ := h.below hb
  · exact ⟨hl, .inl h0⟩
  · exact ⟨hl, .inr ⟨b, off, e, by rw [World.size_alloc]; omega, hc⟩⟩
theorem Ahead.at_ {w W u : World} {o : Obj} {a : Option Addr} {len cap : Nat} (h : Ahead w o a len W) (hA : At W a len cap u) : Below w.heap.size w u ∧ u.heap[w.heap.size]? = some o :=
  ⟨h.below.trans (hA.2.1.mono h.below.size), (hA.2.1.block _ (row_lt h.row)).trans h.row⟩
end Go.Proofs.YtcfekhahibklfaaDoor.dn

namespace Go.Proofs.YtcfekhahibklfaaDoor.lm
open Go.ChangeShapes Go.WideShapes Go.ChangeAt Go.RowKit
open Go.Proofs.YtcfekhahibklfaaDoor.wi (heap_lt calls_w wp_w)
open Go.Proofs.YtcfekhahibklfaaDoor.lg Go.Proofs.YtcfekhahibklfaaDoor.ss
set_option linter.unusedVariables false

theorem keyM_yes (key : ByteArray) (w : World) (h : KeyL key) : Calls Tryd.prog 47 #[.string key] w fun e w' => e = .returned (.bool true) ∧ w' = w := by
  obtain ⟨h0, h1⟩ := h
  have d : decide ((key.size : Int) ≤ 64) = true := decide_eq_true (by omega)
  go_enter Tryd.func47, Tryd.ntmps47
  go_wp2
  go_ret
  exact ⟨rfl, rfl⟩
theorem keyM_no (key : ByteArray) (w : World) (hk : key.size ≤ maxLen) (h : ¬ KeyL key) : Calls Tryd.prog 47 #[.string key] w fun e w' => e = .returned (.bool false) ∧ w' = w := by
  unfold maxLen at hk
  unfold KeyL at h
  by_cases h0 : 1 ≤ key.size
  · have d : decide ((key.size : Int) ≤ 64) = false := decide_eq_false (by omega)
    go_enter Tryd.func47, Tryd.ntmps47
    go_wp2
    go_ret
    exact ⟨rfl, rfl⟩
  · go_enter Tryd.func47, Tryd.ntmps47
    go_wp2
    go_ret
    exact ⟨rfl, rfl⟩
theorem recM_any (r : ByteArray) (w : World) (hr : r.size ≤ maxLen) : Calls Tryd.prog 49 #[.string r] w fun e w' => e = .returned (.bool (decide (r.size ≤ 200))) ∧ w' = w := by
  unfold maxLen at hr
  have d : decide ((r.size : Int) ≤ 200) = decide (r.size ≤ 200) := decide_eq_decide.2 (by omega)
  go_enter Tryd.func49, Tryd.ntmps49
  go_wp2
  go_ret
  exact ⟨by rw [← d]; rfl, rfl⟩

theorem at_getD {l : List ByteArray} {k : Nat} (h : k < l.length) : l.getD k ⟨#[]⟩ ∈ l := by
  rw [getD_at h]; exact List.getElem_mem h
set_option maxHeartbeats 8000000 in
theorem recsM_yes (key : ByteArray) (v : Value) (l : List ByteArray) (w : World) (h : RecsL key l) (hv : SliceIs w v l) :
    Calls Tryd.prog 44 #[.string key, v] w fun r w' => r = .returned (.bool true) ∧ Below w.heap.size w w' := by
  have HB : Hid (Below w.heap.size w w) := Below.refl _ _
  obtain ⟨h1, h2, h3⟩ := h
  have d60 : decide ((l.length : Int) ≤ 60) = true := decide_eq_true (by omega)
  have HK : Hid (∀ u, Calls Tryd.prog 47 #[.string key] u fun e w' => e = .returned (.bool true) ∧ w' = u) := fun u => keyM_yes key u h2
  clear h2
  rcases hv with ⟨p, cap, rfl, rfl⟩ | ⟨b, off, cap, hb, rfl, hR⟩
  · go_enter Tryd.func44, Tryd.ntmps44
    go_wp2
    refine wp_loop_rounds 1 ?_
    rw [rounds_succ]
    go_wp2_with (go_at_call 47; (with_reducible refine (HK.out _).mono ?_); rintro r w' ⟨rfl, hw'⟩; obtain rfl := hw'.symm)
    go_ret
    exact ⟨rfl, HB.out⟩
  · have HR : Hid (Row w b off l) := hR
    have HZ : Hid (∀ k, k < l.length → (l.getD k ⟨#[]⟩).size ≤ 200) := fun k hk => h1 _ (at_getD hk)
    clear hR h1
    obtain ⟨n, hn⟩ : ∃ n, n = l.length := ⟨_, rfl⟩
    have HRn : Hid (∀ k, k < n → w.cell? ⟨b, off + k, none⟩ = some (.string (l.getD k ⟨#[]⟩))) := fun k hk => HR.out k (by omega)
    rw [← hn] at h3 d60 HZ ⊢
    clear hn HR
    go_enter Tryd.func44, Tryd.ntmps44
    go_wp2
    go_loopw [5] (fun i u => ∃ k : Nat, k ≤ n ∧ i = .int .i64 k ∧ ∃ m, u = w.drewN m) (fun i _ => n - (intOf i).toNat)
    case atStart => exact ⟨0, Nat.zero_le _, rfl, 0, rfl⟩
    case round =>
      obtain ⟨k, hk, rfl, m, rfl⟩ := hrel
      have HU : Hid (Below w.heap.size w (w.drewN m)) := below_drewN HB.out m
      by_cases hlt : k < n
      · have c1 : (w.drewN m).cell? ⟨b, off + k, none⟩ = some (.string (l.getD k ⟨#[]⟩)) := HRn.out k hlt
        have hx200 := HZ.out k hlt
        obtain ⟨x, hx⟩ : ∃ x, x = l.getD k ⟨#[]⟩ := ⟨_, rfl⟩
        rw [← hx] at c1 hx200
        have HC : Hid (∀ u, Calls Tryd.prog 49 #[.string x] u fun e w' => e = .returned (.bool true) ∧ w' = u) := fun u => by
          have := recM_any x u (by unfold maxLen; omega)
          rwa [decide_eq_true hx200] at this
        clear hx HZ hx200
        go_wp2_with (go_at_call 49; (with_reducible refine (HC.out _).mono ?_); rintro r w' ⟨rfl, hw'⟩; obtain rfl := hw'.symm)
        exact ⟨⟨k + 1, by omega, by go_num, _, rfl⟩, by simp [intOf]; omega⟩
      · obtain rfl : k = n := by omega
        go_wp2_with (go_at_call 47; (with_reducible refine (HK.out _).mono ?_); rintro r w' ⟨rfl, hw'⟩; obtain rfl := hw'.symm)
        go_ret
        exact ⟨rfl, HU.out⟩
set_option maxHeartbeats 8000000 in
theorem recsM_no (key : ByteArray) (v : Value) (l : List ByteArray) (w : World) (hk : key.size ≤ maxLen) (hl : l.length ≤ maxLen) (hz : ∀ r ∈ l, r.size ≤ maxLen) (h : ¬ RecsL key l) (hv : SliceIs w v l) :
    Calls Tryd.prog 44 #[.string key, v] w fun r w' => r = .returned (.bool false) ∧ Below w.heap.size w w' := by
  have HB : Hid (Below w.heap.size w w) := Below.refl _ _
  have HK : Hid (∀ u, ∃ d : Bool, (d = true → KeyL key) ∧ Calls Tryd.prog 47 #[.string key] u fun e w' => e = .returned (.bool d) ∧ w' = u) := fun u => by
    by_cases h2 : KeyL key
    · exact ⟨true, fun _ => h2, keyM_yes key u h2⟩
    · exact ⟨false, fun x => by simp at x, keyM_no key u hk h2⟩
  unfold maxLen at hl
  rcases hv with ⟨p, cap, rfl, rfl⟩ | ⟨b, off, cap, hb, rfl, hR⟩
  · have h2 : ¬ KeyL key := fun h2 => h ⟨fun r hr => by simp at hr, h2, by simp⟩
    have HK2 : Hid (∀ u, Calls Tryd.prog 47 #[.string key] u fun e w' => e = .returned (.bool false) ∧ w' = u) := fun u => keyM_no key u hk h2
    clear HK h h2 hz
    go_enter Tryd.func44, Tryd.ntmps44
    go_wp2
    refine wp_loop_rounds 1 ?_
    rw [rounds_succ]
    go_wp2_with (go_at_call 47; (with_reducible refine (HK2.out _).mono ?_); rintro r w' ⟨rfl, hw'⟩; obtain rfl := hw'.symm)
    go_ret
    exact ⟨rfl, HB.out⟩
  · have HR : Hid (Row w b off l) := hR
    have HZ : Hid (∀ k, k < l.length → (l.getD k ⟨#[]⟩).size ≤ maxLen) := fun k hk => hz _ (at_getD hk)
    have HE : Hid (∀ k, (∀ j, j < k → (l.getD j ⟨#[]⟩).size ≤ 200) → k = l.length → KeyL key → l.length ≤ 60 → False) := fun k h1 hk h2 h3 => h ⟨fun r hr => by
      obtain ⟨j, hj, rfl⟩ := List.mem_iff_getElem.1 hr
      have := h1 j (by omega)
      rwa [getD_at hj] at this, h2, h3⟩
    clear hR hz h
    obtain ⟨n, hn⟩ : ∃ n, n = l.length := ⟨_, rfl⟩
    have HRn : Hid (∀ k, k < n → w.cell? ⟨b, off + k, none⟩ = some (.string (l.getD k ⟨#[]⟩))) := fun k hk => HR.out k (by omega)
    rw [← hn] at hl HZ HE ⊢
    clear hn HR
    go_enter Tryd.func44, Tryd.ntmps44
    go_wp2
    go_loopw [5] (fun i u => ∃ k : Nat, k ≤ n ∧ i = .int .i64 k ∧ Hid (∀ j, j < k → (l.getD j ⟨#[]⟩).size ≤ 200) ∧ ∃ m, u = w.drewN m) (fun i _ => n - (intOf i).toNat)
    case atStart => exact ⟨0, Nat.zero_le _, rfl, fun j hj => by omega, 0, rfl⟩
    case round =>
      obtain ⟨k, hk2, rfl, HA, m, rfl⟩ := hrel
      have HU : Hid (Below w.heap.size w (w.drewN m)) := below_drewN HB.out m
      by_cases hlt : k < n
      · have c1 : (w.drewN m).cell? ⟨b, off + k, none⟩ = some (.string (l.getD k ⟨#[]⟩)) := HRn.out k hlt
        have hxm := HZ.out k hlt
        obtain ⟨x, hx⟩ : ∃ x, x = l.getD k ⟨#[]⟩ := ⟨_, rfl⟩
        rw [← hx] at c1 hxm
        by_cases hx200 : x.size ≤ 200
        · have HC : Hid (∀ u, Calls Tryd.prog 49 #[.string x] u fun e w' => e = .returned (.bool true) ∧ w' = u) := fun u => by
            have := recM_any x u hxm
            rwa [decide_eq_true hx200] at this
          have HA' : Hid (∀ j, j < k + 1 → (l.getD j ⟨#[]⟩).size ≤ 200) := fun j hj => by
            by_cases e : j = k
            · rw [e, ← hx]; exact hx200
            · exact HA.out j (by omega)
          clear hx HZ hx200 hxm HA HK HE
          go_wp2_with (go_at_call 49; (with_reducible refine (HC.out _).mono ?_); rintro r w' ⟨rfl, hw'⟩; obtain rfl := hw'.symm)
          exact ⟨⟨k + 1, by omega, by go_num, HA', _, rfl⟩, by simp [intOf]; omega⟩
        · have HC : Hid (∀ u, Calls Tryd.prog 49 #[.string x] u fun e w' => e = .returned (.bool false) ∧ w' = u) := fun u => by
            have := recM_any x u hxm
            rwa [decide_eq_false hx200] at this
          clear hx HZ hx200 hxm HA HK HE
          go_wp2_with (go_at_call 49; (with_reducible refine (HC.out _).mono ?_); rintro r w' ⟨rfl, hw'⟩; obtain rfl := hw'.symm)
          go_ret
          exact ⟨rfl, HU.out⟩
      · obtain rfl : k = n := by omega
        by_cases h60 : k ≤ 60
        · have h2 : ¬ KeyL key := fun h2 => HE.out k HA.out rfl h2 h60
          have HK2 : Hid (∀ u, Calls Tryd.prog 47 #[.string key] u fun e w' => e = .returned (.bool false) ∧ w' = u) := fun u => keyM_no key u hk h2
          clear HK HE HA HZ h2
          go_wp2_with (go_at_call 47; (with_reducible refine (HK2.out _).mono ?_); rintro r w' ⟨rfl, hw'⟩; obtain rfl := hw'.symm)
          go_ret
          exact ⟨rfl, HU.out⟩
        · have d60 : decide ((k : Int) ≤ 60) = false := decide_eq_false (by omega)
          clear HE HA HZ
          go_wp2_with (go_at_call 47; (obtain ⟨d, _, hd⟩ := HK.out (w.drewN m)); refine hd.mono ?_; rintro r w' ⟨rfl, hw'⟩; obtain rfl := hw'.symm; clear hd; cases d)
          all_goals
            go_ret
            exact ⟨rfl, HU.out⟩
end Go.Proofs.YtcfekhahibklfaaDoor.lm
