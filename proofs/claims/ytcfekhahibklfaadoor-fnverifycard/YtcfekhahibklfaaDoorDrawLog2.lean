/-
  The law's own draws of a key and a log's records, of a key alone, of a chain and a record, of records and a number. No condition.
-/
import Derived.Test.YtcfekhahibklfaaDoorDrawLog1
import Derived.Test.YtcfekhahibklfaaDoorLogM2
namespace Go.Proofs.YtcfekhahibklfaaDoor.dl
open Go.ChangeShapes Go.WideShapes Go.ChangeAt Go.RowKit
open Go.Proofs.YtcfekhahibklfaaDoor.dr Go.Proofs.YtcfekhahibklfaaDoor.db
open Go.Proofs.YtcfekhahibklfaaDoor.ss
open Go.Proofs.YtcfekhahibklfaaDoor.lg
open Go.Proofs.YtcfekhahibklfaaDoor.sh (macB)
set_option linter.unusedVariables false
set_option linter.unusedSimpArgs false

/-- records that were drawn -/
structure Recs (w : World) (v : Value) (l : List ByteArray) (w' : World) : Prop where
  below : Below w.heap.size w w'
  row : w'.ownsRow w.heap.size 9 1 v l.length (l.map Value.string)
  small : ∀ r ∈ l, r.size ≤ 201
  few : l.length ≤ 7
theorem Recs.of {w u w' : World} {a : Option Addr} {len cap : Nat} {v : Value} {l : List ByteArray} (hu : At w a len cap u) (h : Gn w a len cap u v l w') (hl : l.length ≤ 7) : Recs w v l w' := by
  refine ⟨h.at_.2.1, ⟨h.row.1, ?_⟩, h.small, hl⟩
  rcases h.row.2 with h' | ⟨g, c, cur, h1, h2, h3⟩
  · exact .inl h'
  · exact .inr ⟨g, c, cur, h1, Nat.le_trans hu.2.1.size h2, h3⟩
theorem Recs.slice {w w' : World} {v : Value} {l : List ByteArray} (h : Recs w v l w') : SliceIs w' v l := by
  rcases h.row.2 with ⟨rfl, hl⟩ | ⟨g, cap, cur, rfl, hb, hg, h1, h2, h3, h4⟩
  · exact .inl ⟨_, _, List.length_eq_zero_iff.1 hl, rfl⟩
  · refine .inr ⟨g, 0, cap, (Array.getElem?_eq_some_iff.1 hg).1, rfl, fun j hj => ?_⟩
    rw [Nat.zero_add, h.row.cellAt j (by omega), List.getElem?_map, List.getElem?_eq_getElem hj, getD_at hj]; rfl
theorem Recs.capd {w w' : World} {v : Value} {l : List ByteArray} (h : Recs w v l w') : ∀ p m cap, v = .slice p m cap → m ≤ cap ∧ cap ≤ maxLen := fun p m cap e => by
  rcases h.row.2 with ⟨rfl, hl⟩ | ⟨g, cap2, cur, rfl, hb, hg, h1, h2, h3, h4⟩
  · simp only [Value.slice.injEq] at e
    obtain ⟨_, rfl, rfl⟩ := e
    exact ⟨Nat.le_refl _, by unfold maxLen; omega⟩
  · simp only [Value.slice.injEq] at e
    obtain ⟨_, rfl, rfl⟩ := e
    exact ⟨h1, h2⟩
theorem Recs.up {w w' w2 : World} {v : Value} {l : List ByteArray} (h : Recs w v l w') (hb : Below w'.heap.size w' w2) : Recs w v l w2 := by
  refine ⟨h.below.trans (hb.mono h.below.size), h.row.kept (row := none) ⟨hb.os, hb.tape, hb.output, hb.size, fun k hk _ => hb.block k hk⟩ (by cases v.ownBlock <;> simp), h.small, h.few⟩
theorem Recs.shape {w w' : World} {v : Value} {l : List ByteArray} (h : Recs w v l w') : ∃ p cap, v = .slice p l.length cap := by
  rcases h.row.2 with ⟨hv, hl⟩ | ⟨g, cap, cur, hv, _⟩
  · exact ⟨none, 0, by rw [hv, hl]⟩
  · exact ⟨_, _, hv⟩
theorem Recs.sizes {w w' : World} {v : Value} {l : List ByteArray} (h : Recs w v l w') : l.length ≤ maxLen ∧ ∀ r ∈ l, r.size ≤ maxLen := ⟨Nat.le_trans h.few (by decide), fun r hr => Nat.le_trans (h.small r hr) (by decide)⟩
set_option maxHeartbeats 4000000 in
theorem drawText_any (a : Option Addr) (len cap : Nat) (w : World) (hC : Codes w w.heap.size a len) :
    Calls Tryd.prog 6 #[.slice a len cap] w fun e w' => ∃ (key : ByteArray) (v : Value) (l : List ByteArray), e = .returned (.tuple #[.string key, v]) ∧ key.size ≤ 65 ∧ Recs w v l w' := by
  have HC : Hid (Codes w w.heap.size a len) := hC
  clear hC
  go_enter Tryd.func6, Tryd.ntmps6
  go_wp2_with fail
  refine (source_at a len cap _ HC.out).mono ?_
  rintro e w1 ⟨rfl, hA1⟩
  go_wp2_with fail
  refine (pass_at hA1).mono ?_
  rintro e w2 ⟨key, rfl, hk, hA2⟩
  clear hA1 HC
  go_wp2_with fail
  refine (log_at hA2).mono ?_
  rintro e w3 ⟨v, l, rfl, hG, hl⟩
  have hR := Recs.of hA2 hG hl
  obtain ⟨p, c, rfl⟩ := hR.shape
  clear hA2 hG
  go_wp2
  go_ret2
  exact ⟨key, _, l, rfl, hk, hR⟩
set_option maxHeartbeats 4000000 in
theorem drawStart_any (a : Option Addr) (len cap : Nat) (w : World) (hC : Codes w w.heap.size a len) :
    Calls Tryd.prog 10 #[.slice a len cap] w fun e w' => ∃ key : ByteArray, e = .returned (.string key) ∧ key.size ≤ 65 ∧ Below w.heap.size w w' := by
  have HC : Hid (Codes w w.heap.size a len) := hC
  clear hC
  go_enter Tryd.func10, Tryd.ntmps10
  go_wp2_with fail
  refine (source_at a len cap _ HC.out).mono ?_
  rintro e w1 ⟨rfl, hA1⟩
  go_wp2_with fail
  refine (pass_at hA1).mono ?_
  rintro e w2 ⟨key, rfl, hk, hA2⟩
  clear hA1 HC
  go_wp2
  go_ret
  exact ⟨key, rfl, hk, hA2.2.1⟩
set_option maxHeartbeats 4000000 in
theorem drawNext_any (a : Option Addr) (len cap : Nat) (w : World) (hC : Codes w w.heap.size a len) :
    Calls Tryd.prog 9 #[.slice a len cap] w fun e w' => ∃ key c r : ByteArray, e = .returned (.tuple #[.string key, .string c, .string r]) ∧ key.size ≤ 65 ∧ c.size ≤ 100 ∧ r.size ≤ 100 ∧ Below w.heap.size w w' := by
  have HC : Hid (Codes w w.heap.size a len) := hC
  clear hC
  go_enter Tryd.func9, Tryd.ntmps9
  go_wp2_with fail
  refine (source_at a len cap _ HC.out).mono ?_
  rintro e w1 ⟨rfl, hA1⟩
  go_wp2_with fail
  refine (pass_at hA1).mono ?_
  rintro e w2 ⟨key, rfl, hk, hA2⟩
  clear hA1 HC
  have hcs := lm.chainS_le key
  have hst := fun u => lm.startM_any key u (Nat.le_trans hk (by decide))
  generalize chainS macB key = c0 at *
  have HSt : Hid (∀ u, Calls Tryd.prog 19 #[.string key] u fun r w' => r = .returned (.string c0) ∧ Below u.heap.size u w') := hst
  clear hst
  go_wp2_with fail
  refine (HSt.out w2).mono ?_
  rintro e w3 ⟨rfl, hb3⟩
  have hA3 := db.At.up hA2 hb3
  clear hA2 hb3 HSt
  go_wp2_with fail
  refine (one_at hA3 _ (by omega) (by omega)).mono ?_
  rintro e w4 ⟨vb, rfl, hA4⟩
  clear hA3
  cases vb
  · go_wp2_with fail
    refine (n_keep hA4 20 (by omega) (by omega)).mono ?_
    rintro e w5 ⟨k, rfl, hk5, hA5, _⟩
    clear hA4
    go_wp2_with fail
    refine (bytes_g hA5 k (by omega)).mono ?_
    rintro e w6 ⟨t, rfl, ht, hA6, _⟩
    clear hA5
    go_wp2
    go_ret3
    exact ⟨key, c0, t, rfl, hk, by omega, by omega, hA6.2.1⟩
  · go_wp2_with fail
    refine (n_keep hA4 3 (by omega) (by omega)).mono ?_
    rintro e w5 ⟨k, rfl, hk5, hA5, _⟩
    clear hA4
    go_wp2_with fail
    have hbb := bytes_g hA5 (31 + k) (by omega)
    rw [show ((31 + k : Nat) : Int) = 31 + (k : Int) by omega] at hbb
    refine hbb.mono ?_
    rintro e w6 ⟨c1, rfl, hc1, hA6, _⟩
    clear hA5 hbb
    go_wp2_with fail
    refine (n_keep hA6 20 (by omega) (by omega)).mono ?_
    rintro e w7 ⟨k2, rfl, hk7, hA7, _⟩
    clear hA6
    go_wp2_with fail
    refine (bytes_g hA7 k2 (by omega)).mono ?_
    rintro e w8 ⟨t, rfl, ht, hA8, _⟩
    clear hA7
    go_wp2
    go_ret3
    exact ⟨key, c1, t, rfl, hk, by omega, by omega, hA8.2.1⟩
set_option maxHeartbeats 4000000 in
theorem drawAnchor_any (a : Option Addr) (len cap : Nat) (w : World) (hC : Codes w w.heap.size a len) :
    Calls Tryd.prog 11 #[.slice a len cap] w fun e w' => ∃ (key : ByteArray) (v : Value) (l : List ByteArray) (n : Nat), e = .returned (.tuple #[.string key, v, .int .i64 (n : Int)]) ∧ key.size ≤ 65 ∧ n ≤ 100 ∧ Recs w v l w' := by
  have HC : Hid (Codes w w.heap.size a len) := hC
  clear hC
  go_enter Tryd.func11, Tryd.ntmps11
  go_wp2_with fail
  refine (source_at a len cap _ HC.out).mono ?_
  rintro e w1 ⟨rfl, hA1⟩
  go_wp2_with fail
  refine (pass_at hA1).mono ?_
  rintro e w2 ⟨key, rfl, hk, hA2⟩
  clear hA1 HC
  go_wp2_with fail
  refine (log_at hA2).mono ?_
  rintro e w3 ⟨v, l, rfl, hG, hl⟩
  have hp := hA2.1.lt
  have hA3 := hG.at_
  obtain ⟨p, c, hv⟩ := (Recs.of hA2 hG hl).shape
  subst hv
  have HUp : Hid (∀ w4, At w a len cap w4 → w3.grownBy w4 (some w.heap.size) → Recs w (.slice p l.length c) l w4) := fun w4 hA4 hg4 => Recs.of hA2 (hG.up hA4 hp hg4) hl
  clear hA2 hG
  have hn := dn.n_g hA3 (l.length + 2) (by omega) (by omega)
  rw [show ((l.length + 2 : Nat) : Int) = (l.length : Int) + 2 by omega] at hn
  go_wp2_with fail
  refine hn.mono ?_
  rintro e w4 ⟨k, rfl, hk4, hA4, hg4⟩
  have hR := HUp.out w4 hA4 hg4
  clear hn hA3 hA4 hg4 HUp
  go_wp2
  go_ret3
  exact ⟨key, _, l, k, rfl, hk, by omega, hR⟩
theorem logT_le {key : ByteArray} {l : List ByteArray} (hl : l.length ≤ 8) : (logT macB key l).size ≤ 1744 := by
  by_cases h : RecsL key l
  · by_cases h8 : 8000 < (logB macB key l).size
    · rw [logT_long h8]; exact Nat.zero_le _
    · rw [logT_yes h (by omega)]
      have := lm.logF_le key l (chainS macB key) h.1
      unfold logB
      omega
  · rw [logT_no h]; exact Nat.zero_le _
end Go.Proofs.YtcfekhahibklfaaDoor.dl
