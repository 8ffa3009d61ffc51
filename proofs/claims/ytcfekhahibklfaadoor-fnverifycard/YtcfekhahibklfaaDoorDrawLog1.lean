/-
  The law's own draw of a log's records: few of them, each short; they lie in a row of their own. No condition.
-/
import Derived.Test.YtcfekhahibklfaaDoorMg6
import Derived.Test.YtcfekhahibklfaaDoorMg5
import Derived.Test.YtcfekhahibklfaaDoorLogS0
import Derived.OwnWalk
import Derived.Maps.AppendAt
namespace Go.Proofs.YtcfekhahibklfaaDoor.dl
open Go.ChangeShapes Go.WideShapes Go.ChangeAt Go.RowKit
open Go.Proofs.YtcfekhahibklfaaDoor.dr
open Go.Proofs.YtcfekhahibklfaaDoor.ss
set_option linter.unusedVariables false
set_option linter.unusedSimpArgs false

theorem bytes_g {w0 u : World} {a : Option Addr} {len cap : Nat} (h : At w0 a len cap u) (n : Nat) (n1 : n ≤ 1048576) :
    Calls Tryd.prog 43 #[.pointer (some ⟨w0.heap.size, 0, none⟩), .int .i64 (n : Int)] u fun e w' => ∃ t : ByteArray, e = .returned (.string t) ∧ t.size = n ∧ At w0 a len cap w' ∧ u.grownBy w' (some w0.heap.size) :=
  (bytes_any _ _ a len cap (n : Int) u h.1 h.2.2 (by omega) (by omega)).mono fun e w' ⟨t, he, ht, hS, hg⟩ => ⟨t, he, by omega, h.next hS hg, hg⟩
/-- the records so far -/
structure Gn (w0 : World) (a : Option Addr) (len cap : Nat) (u : World) (v : Value) (l : List ByteArray) (W : World) : Prop where
  at_ : At w0 a len cap W
  grown : u.grownBy W (some w0.heap.size)
  row : W.ownsRow u.heap.size 9 1 v l.length (l.map Value.string)
  small : ∀ r ∈ l, r.size ≤ 201
def LogPost (w0 : World) (a : Option Addr) (len cap : Nat) (u : World) (e : Ending) (w' : World) : Prop := ∃ v l, e = .returned v ∧ Gn w0 a len cap u v l w' ∧ l.length ≤ 7
theorem Gn.up {w0 u W W' : World} {a : Option Addr} {len cap : Nat} {v : Value} {l : List ByteArray} (h : Gn w0 a len cap u v l W) (hA : At w0 a len cap W') (hp : w0.heap.size < u.heap.size) (hg : W.grownBy W' (some w0.heap.size)) : Gn w0 a len cap u v l W' := by
  refine ⟨hA, gtrans h.grown hg, h.row.kept hg ?_, h.small⟩
  cases hv : v.ownBlock with
  | none => exact .inl rfl
  | some k => exact .inr (by have := (h.row.lt k hv).1; simp; omega)
theorem Gn.app {w0 u W U W' : World} {a : Option Addr} {len cap : Nat} {v v' : Value} {l : List ByteArray} {x : ByteArray} (h : Gn w0 a len cap u v l W) (hp : w0.heap.size < u.heap.size) (hx : x.size ≤ 201) (hU : W.grownBy U none) (hA : At w0 a len cap U) (hr : U.ownsRow u.heap.size 9 1 v l.length (l.map Value.string))
    (hown : W'.ownsRow u.heap.size 9 1 v' (l.length + 1) (l.map Value.string ++ [.string x])) (hg : U.grownBy W' v.ownBlock) : Gn w0 a len cap u v' (l ++ [x]) W' := by
  have hrow : ∀ q, v.ownBlock = some q → u.heap.size ≤ q := fun q hq => (hr.lt q hq).1
  have hb : Below w0.heap.size U W' := (Below.refl _ _).grown hg hA.2.1.size (fun q hq => by have := hrow q hq; omega)
  refine ⟨⟨hA.1.kept (hg.block _ hA.1.lt (fun e => by have := hrow _ e.symm; omega)), hA.2.1.trans hb, hA.2.2.below hb⟩, gown (gown h.grown hU (fun q hq => by cases hq)) hg hrow, ?_, ?_⟩
  · rw [List.length_append, List.map_append]; exact hown
  · intro r hr2
    rcases List.mem_append.1 hr2 with h2 | h2
    · exact h.small r h2
    · rw [List.mem_singleton.1 h2]; exact hx
set_option maxRecDepth 20000 in
set_option maxHeartbeats 8000000 in
theorem log_at {w0 u : World} {a : Option Addr} {len cap : Nat} (h : At w0 a len cap u) :
    Calls Tryd.prog 33 #[.pointer (some ⟨w0.heap.size, 0, none⟩)] u (LogPost w0 a len cap u) := by
  obtain ⟨i0, hi, hz0, hz1, hz2⟩ := info_parts infoS
  have hp : w0.heap.size < u.heap.size := h.1.lt
  have h1 := db.At.alloc h (.cells #[] 9)
  have hs1 : u.heap.size < (u.alloc (.cells #[] 9)).heap.size := by simp
  have HG0 : Hid (∀ W', At w0 a len cap W' → (u.alloc (.cells #[] 9)).grownBy W' (some w0.heap.size) → Gn w0 a len cap u (.slice (some ⟨u.heap.size, 0, none⟩) 0 0) [] W') := fun W' hA hg => by
    have hg1 : u.grownBy (u.alloc (.cells #[] 9)) (some w0.heap.size) := World.grownBy_alloc _ _ _
    refine ⟨hA, gtrans hg1 hg, ⟨rfl, .inr ⟨u.heap.size, 0, #[], rfl, Nat.le_refl _, (hg.block _ hs1 (by simp; omega)).trans (heap_alloc_new _ _), Nat.le_refl _, by simp, rfl, rfl⟩⟩, by simp⟩
  go_enter Tryd.func33, Tryd.ntmps33
  go_wp2_with fail
  refine (dn.n_g h1 7 (by omega) (by omega)).mono ?_
  rintro e w1 ⟨k0, rfl, hk0, hA1, hg1⟩
  have HG1 : Hid (Gn w0 a len cap u (.slice (some ⟨u.heap.size, 0, none⟩) 0 0) [] w1) := HG0.out w1 hA1 hg1
  clear hA1 hg1 HG0 h1 hs1
  go_wp2_with fail
  go_loopw [3, 4] (fun v kv W => ∃ (k : Nat) (l : List ByteArray), kv = .int .i64 (k : Int) ∧ k + l.length ≤ 6 ∧ Hid (Gn w0 a len cap u v l W)) (fun _ kv _ => (intOf kv).toNat)
  case atStart => exact ⟨k0, [], rfl, by simp; omega, HG1⟩
  case round =>
    clear HG1
    obtain ⟨k, l, rfl, hkl, HG⟩ := hrel
    by_cases hlt : 0 < k
    · obtain ⟨pv, cv, hv⟩ : ∃ p cap2, u3 = .slice p l.length cap2 := by
        rcases HG.out.row.2 with ⟨hv, hn⟩ | ⟨g, cap2, cur, hv, _⟩
        · exact ⟨none, 0, by rw [hv, hn]⟩
        · exact ⟨_, _, hv⟩
      subst hv
      have hA := HG.out.at_
      go_wp2_with (go_at_call 40; fail)
      refine (dn.n_g hA 9 (by omega) (by omega)).mono ?_
      rintro e w2 ⟨k9, rfl, hk9, hA2, hg2⟩
      have HG2 : Hid (Gn w0 a len cap u (.slice pv l.length cv) l w2) := HG.out.up hA2 hp hg2
      clear HG hA hg2
      go_wp2_with (go_at_call 43; fail)
      refine (bytes_g hA2 k9 (by omega)).mono ?_
      rintro e w3 ⟨t, rfl, ht, hA3, hg3⟩
      have HG3 : Hid (Gn w0 a len cap u (.slice pv l.length cv) l w3) := HG2.out.up hA3 hp hg3
      clear HG2 hA2 hg3
      have hga : w3.grownBy (w3.alloc (.cells #[.string t] 9)) none := World.grownBy_alloc _ _ _
      have hr3 : (w3.alloc (.cells #[.string t] 9)).ownsRow u.heap.size 9 1 (.slice pv l.length cv) l.length (l.map Value.string) := HG3.out.row.kept hga (by cases (Value.slice pv l.length cv).ownBlock <;> simp)
      have hb3 : u.heap.size ≤ (w3.alloc (.cells #[.string t] 9)).heap.size := Nat.le_trans HG3.out.grown.size hga.size
      have hA4 := db.At.alloc hA3 (.cells #[.string t] 9)
      have HX : Hid (∀ v' W', W'.ownsRow u.heap.size 9 1 v' (l.length + 1) (l.map Value.string ++ [.string t]) → (w3.alloc (.cells #[.string t] 9)).grownBy W' (Value.slice pv l.length cv).ownBlock → Gn w0 a len cap u v' (l ++ [t]) W') := fun v' W' ho hg => HG3.out.app hp (by omega) hga hA4 hr3 ho hg
      clear hga hA3 hA4 HG3
      go_wp2_with (refine wpList_append_own _ rfl (.tmp 12) (.tmp 17) 23 rfl u.heap.size 9 i0 (.string ⟨#[]⟩) 1 16 Tryd.underlying23 hi hz0 hz1 hz2 rfl (by decide) (.slice pv l.length cv) l.length (l.map Value.string) rfl hr3 ⟨w3.heap.size, 0, none⟩ 1 1 [.string t] rfl rfl (cell_one_new _ _ _) (by simp [Value.oneCell']) (by unfold maxLen; omega) (by omega) hb3 ?_; intro v4 w4 hown hgr hnil; clear hnil)
      have HF : Hid (Gn w0 a len cap u v4 (l ++ [t]) w4) := HX.out v4 w4 hown hgr
      clear hown hgr HX hr3 hb3
      go_wp2
      exact ⟨⟨k - 1, l ++ [t], by rw [show ((k - 1 : Nat) : Int) = (k : Int) - 1 by omega], by rw [List.length_append, List.length_singleton]; omega, HF⟩, by simp [intOf]; omega⟩
    · obtain rfl : k = 0 := by omega
      obtain ⟨pv, cv, hv⟩ : ∃ p cap2, u3 = .slice p l.length cap2 := by
        rcases HG.out.row.2 with ⟨hv, hn⟩ | ⟨g, cap2, cur, hv, _⟩
        · exact ⟨none, 0, by rw [hv, hn]⟩
        · exact ⟨_, _, hv⟩
      subst hv
      have hA := HG.out.at_
      go_wp2_with (go_at_call 42; fail)
      refine (dn.one_g hA 25 (by omega) (by omega)).mono ?_
      rintro e w2 ⟨b25, rfl, hA2, hg2⟩
      have HG2 : Hid (Gn w0 a len cap u (.slice pv l.length cv) l w2) := HG.out.up hA2 hp hg2
      clear HG hA hg2
      cases b25
      · have hl6 : l.length ≤ 7 := by omega
        clear hkl
        go_wp2
        go_ret
        exact ⟨_, l, rfl, HG2.out, hl6⟩
      · go_wp2_with (go_at_call 40; fail)
        refine (dn.n_g hA2 2 (by omega) (by omega)).mono ?_
        rintro e w3 ⟨k2, rfl, hk2, hA3, hg3⟩
        have HG3 : Hid (Gn w0 a len cap u (.slice pv l.length cv) l w3) := HG2.out.up hA3 hp hg3
        clear HG2 hA2 hg3
        have hmk := zeros_make (200 + k2) (by omega) w3
        have hcv := zeros_conv (200 + k2) w3
        have hsz : (⟨(List.replicate (200 + k2) (0 : UInt8)).toArray⟩ : ByteArray).size = 200 + k2 := by simp [ByteArray.size]
        rw [show ((200 + k2 : Nat) : Int) = 200 + (k2 : Int) by omega] at hmk
        generalize (⟨(List.replicate (200 + k2) (0 : UInt8)).toArray⟩ : ByteArray) = t at *
        generalize hm : (.cells (madeCells #[.int .u8 0] (200 + k2)) 5 : Obj) = om at *
        clear hm
        have hga : w3.grownBy ((w3.alloc om).alloc (.cells #[.string t] 9)) none := (World.grownBy_alloc _ _ none).trans (World.grownBy_alloc _ _ _)
        have hr3 : ((w3.alloc om).alloc (.cells #[.string t] 9)).ownsRow u.heap.size 9 1 (.slice pv l.length cv) l.length (l.map Value.string) := HG3.out.row.kept hga (by cases (Value.slice pv l.length cv).ownBlock <;> simp)
        have hb3 : u.heap.size ≤ ((w3.alloc om).alloc (.cells #[.string t] 9)).heap.size := Nat.le_trans HG3.out.grown.size hga.size
        have hA4 := db.At.alloc (db.At.alloc hA3 om) (.cells #[.string t] 9)
        have HX : Hid (∀ v' W', W'.ownsRow u.heap.size 9 1 v' (l.length + 1) (l.map Value.string ++ [.string t]) → ((w3.alloc om).alloc (.cells #[.string t] 9)).grownBy W' (Value.slice pv l.length cv).ownBlock → Gn w0 a len cap u v' (l ++ [t]) W') := fun v' W' ho hg => HG3.out.app hp (by omega) hga hA4 hr3 ho hg
        clear hga hA3 hA4 HG3
        have hc1 : ∀ (j : Nat) (z : Value), [Value.string t][j]? = some z → ((w3.alloc om).alloc (.cells #[.string t] 9)).cell? ((⟨w3.heap.size + 1, 0, none⟩ : Addr).add j) = some z := by
          have := cell_one_new (w3.alloc om) (.string t) 9
          rwa [World.size_alloc] at this
        have HC1 : Hid _ := hc1
        clear hc1
        go_wp2_with (refine wpList_append_own _ rfl (.tmp 21) (.tmp 27) 23 rfl u.heap.size 9 i0 (.string ⟨#[]⟩) 1 16 Tryd.underlying23 hi hz0 hz1 hz2 rfl (by decide) (.slice pv l.length cv) l.length (l.map Value.string) rfl hr3 ⟨w3.heap.size + 1, 0, none⟩ 1 1 [.string t] rfl rfl HC1.out (by simp [Value.oneCell']) (by unfold maxLen; omega) (by omega) hb3 ?_; intro v4 w4 hown hgr hnil; clear hnil)
        have HF : Hid (Gn w0 a len cap u v4 (l ++ [t]) w4) := HX.out v4 w4 hown hgr
        have hl7 : (l ++ [t]).length ≤ 7 := by rw [List.length_append, List.length_singleton]; omega
        clear hown hgr HX hr3 hb3 hmk hcv hsz HC1
        go_wp2
        go_ret
        exact ⟨_, l ++ [t], rfl, HF.out, hl7⟩
end Go.Proofs.YtcfekhahibklfaaDoor.dl
