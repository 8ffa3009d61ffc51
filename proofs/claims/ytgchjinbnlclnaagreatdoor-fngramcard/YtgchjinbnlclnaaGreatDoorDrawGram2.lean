/-
  The draws of chapter 5's grams: a key and a gram, a key and a text, a gram. No condition.
-/
import Derived.Test.YtgchjinbnlclnaaGreatDoorDrawGram
import Derived.Test.YtgchjinbnlclnaaGreatDoorGramS
namespace Go.Proofs.YtgchjinbnlclnaaGreatDoor.db
open Go.ChangeShapes Go.WideShapes Go.ChangeAt Go.RowKit
open Go.Proofs.YtgchjinbnlclnaaGreatDoor.dr
open Classical
set_option linter.unusedVariables false

/-- the bytes that are drawn from, later -/
theorem codes_later {w u : World} {a : Option Addr} {len : Nat} (h : Codes w w.heap.size a len) (hb : Below w.heap.size w u) : Codes u u.heap.size a len := by
  obtain ⟨hl, h0 | ⟨b, off, e, hB, hc⟩⟩ := h.below hb
  · exact ⟨hl, .inl h0⟩
  · exact ⟨hl, .inr ⟨b, off, e, Nat.lt_of_lt_of_le hB hb.size, hc⟩⟩
/-- what is known where the source is made: a row ahead of it -/
structure Ahead (w : World) (o : Obj) (a : Option Addr) (len : Nat) (W : World) : Prop where
  below : Below w.heap.size w W
  row : W.heap[w.heap.size]? = some o
  codes : Codes W W.heap.size a len
theorem ahead_start {w : World} {a : Option Addr} {len : Nat} (o : Obj) (h : Codes w w.heap.size a len) : Ahead w o a len (w.alloc o) := by
  have hb : Below w.heap.size w (w.alloc o) := (Below.refl _ _).alloc (Nat.le_refl _) o
  refine ⟨hb, heap_alloc_new _ _, ?_⟩
  obtain ⟨hl, h0 | ⟨b, off, e, hB, hc⟩⟩ := h.below hb
  · exact ⟨hl, .inl h0⟩
  · exact ⟨hl, .inr ⟨b, off, e, by rw [World.size_alloc]; omega, hc⟩⟩
theorem Ahead.at_ {w W u : World} {o : Obj} {a : Option Addr} {len cap : Nat} (h : Ahead w o a len W) (hA : At W a len cap u) : Below w.heap.size w u ∧ u.heap[w.heap.size]? = some o :=
  ⟨h.below.trans (hA.2.1.mono h.below.size), (hA.2.1.block _ (row_lt h.row)).trans h.row⟩
theorem results_tmp_cell {fn : Func} {p u : Tmp} {ty : TypeId} (h : fn.results = #[.tmp u, .cell p ty]) (tmps : Array Value) (P : Program) (w : World) :
    (results fn tmps).run P w = ((asAddr (tmps.getD p undef)).run P w).andThen fun a w₁ => ((loadVar ty a).run P w₁).andThen fun v w₂ => .ok (.tuple #[tmps.getD u undef, v]) w₂ := by
  simp only [results, h]
  simp [Sem.run_bind, Result.andThen]
theorem res_tc {fn : Func} {p k : Tmp} (h : fn.results = #[.tmp k, .cell p 24]) (tmps : Array Value) (u : World) (q : Nat) (cs : Array Value) (x : Value) (hk : tmps.getD k undef = x) (hp : tmps.getD p undef = .pointer (some ⟨q, 0, none⟩)) (hg : u.heap[q]? = some (.cells cs 24 (0, 0))) (hcs : cs.size = 4) :
    (results fn tmps).run Tryz.prog u = .ok (.tuple #[x, .agg cs]) u := by
  rw [results_tmp_cell h, hp, hk]
  simp [asAddr, Result.andThen, run_loadVar_row u q _ 24 cs (0, 0) _ hg Tryz.underlying24 rfl (by rw [infoG4, hcs])]

set_option maxRecDepth 20000 in
set_option maxHeartbeats 8000000 in
theorem drawGramRight_any (a : Option Addr) (len cap : Nat) (w : World) (hC : Codes w w.heap.size a len) :
    Calls Tryz.prog 7 #[.slice a len cap] w fun r w' => ∃ (s e c : Int) (b : ByteArray), r = .returned (.agg #[.int .i64 s, .int .i64 e, .int .i64 c, .string b]) ∧ b.size ≤ 801 ∧ Below w.heap.size w w' := by
  have i0 := ahead_start (.cells #[.int .i64 0, .int .i64 0, .int .i64 0, .string ⟨#[]⟩] 24) hC
  clear hC
  go_enter Tryz.func7, Tryz.ntmps7
  go_wp2_with fail
  generalize w.alloc (.cells #[.int .i64 0, .int .i64 0, .int .i64 0, .string ⟨#[]⟩] 24) = W at i0 ⊢
  refine (source_at a len cap _ i0.codes).mono ?_
  rintro e w1 ⟨rfl, hA1⟩
  go_wp2_with (go_at_call 16; fail)
  refine (gram_at hA1).mono ?_
  rintro r w2 ⟨s, e, c, b, rfl, hb, hA2⟩
  clear hA1
  obtain ⟨hB2, hres⟩ := i0.at_ hA2
  have HB : Hid (Below w.heap.size w w2) := hB2
  clear hA2 hB2 i0
  go_wp2_with (refine wpList_store_row rfl 24 _ _ rfl w.heap.size _ rfl rfl _ _ hres infoG4 (by rfl) (by simp [Value.oneCell']) ?_)
  exact bodyPost_ret (results_cell_row Tryz.results7 _ _ w.heap.size _ _ _ _ rfl (setRow_heap _ _ _ _ _ _ hres) Tryz.underlying24 rfl infoG4) rfl ⟨_, _, _, _, rfl, hb, below_setRow HB.out (Nat.le_refl _) _⟩

set_option maxRecDepth 20000 in
set_option maxHeartbeats 8000000 in
theorem drawGramSeal_any (a : Option Addr) (len cap : Nat) (w : World) (hC : Codes w w.heap.size a len) :
    Calls Tryz.prog 4 #[.slice a len cap] w fun r w' => ∃ (key : ByteArray) (s e c : Int) (b : ByteArray), r = .returned (.tuple #[.string key, .agg #[.int .i64 s, .int .i64 e, .int .i64 c, .string b]]) ∧ key.size ≤ 65 ∧ b.size ≤ 801 ∧ Below w.heap.size w w' := by
  have i0 := ahead_start (.cells #[.int .i64 0, .int .i64 0, .int .i64 0, .string ⟨#[]⟩] 24) hC
  clear hC
  go_enter Tryz.func4, Tryz.ntmps4
  go_wp2_with fail
  generalize w.alloc (.cells #[.int .i64 0, .int .i64 0, .int .i64 0, .string ⟨#[]⟩] 24) = W at i0 ⊢
  refine (source_at a len cap _ i0.codes).mono ?_
  rintro e w1 ⟨rfl, hA1⟩
  go_wp2_with (go_at_call 15; fail)
  refine (pass_at hA1).mono ?_
  rintro r w2 ⟨key, rfl, hk, hA2⟩
  clear hA1
  go_wp2_with (go_at_call 16; fail)
  refine (gram_at hA2).mono ?_
  rintro r w3 ⟨s, e, c, b, rfl, hb, hA3⟩
  clear hA2
  obtain ⟨hB3, hres⟩ := i0.at_ hA3
  have HB : Hid (Below w.heap.size w w3) := hB3
  clear hA3 hB3 i0
  go_wp2_with (refine wpList_store_row rfl 24 _ _ rfl w.heap.size _ rfl rfl _ _ hres infoG4 (by rfl) (by simp [Value.oneCell']) ?_)
  exact bodyPost_ret (res_tc Tryz.results4 _ _ w.heap.size _ _ rfl rfl (setRow_heap _ _ _ _ _ _ hres) rfl) rfl ⟨_, _, _, _, _, rfl, hk, hb, below_setRow HB.out (Nat.le_refl _) _⟩

theorem sealA_le (key : ByteArray) (n : Int) (t : ByteArray) : (cc.sealA key n t).size ≤ 1016 := by
  by_cases hh : (1 ≤ key.size ∧ key.size ≤ 64 ∧ 0 ≤ n ∧ n ≤ 1000000) ∧ t.size ≤ 1000
  · rw [cc.sealA_yes hh, cc.boxB_size]; omega
  · rw [cc.sealA_no hh]; exact Nat.zero_le _
theorem sealG_le (key : ByteArray) (s e c : Int) (b : ByteArray) : (gm.sealG key s e c b).size ≤ 1026 := by
  by_cases h : gm.KeyR key ∧ wi.RightG s e c b.size
  · rw [gm.sealG_yes h, ByteArray.size_append]
    have := gm.numB_size_le (gm.i64_num h.2)
    have := sealA_le key (gm.numG s e c) b
    omega
  · rw [gm.sealG_no h]; exact Nat.zero_le _

set_option maxRecDepth 20000 in
set_option maxHeartbeats 8000000 in
theorem drawGramOpen_any (a : Option Addr) (len cap : Nat) (w : World) (hC : Codes w w.heap.size a len) :
    Calls Tryz.prog 6 #[.slice a len cap] w fun r w' => ∃ (key text : ByteArray), r = .returned (.tuple #[.string key, .string text]) ∧ key.size ≤ 65 ∧ text.size ≤ 4001 ∧ Below w.heap.size w w' := by
  have HC : Hid (Codes w w.heap.size a len) := hC
  clear hC
  go_enter Tryz.func6, Tryz.ntmps6
  go_wp2_with fail
  refine (source_at a len cap _ HC.out).mono ?_
  rintro e w1 ⟨rfl, hA1⟩
  clear HC
  go_wp2_with (go_at_call 15; fail)
  refine (pass_at hA1).mono ?_
  rintro r w2 ⟨key, rfl, hk, hA2⟩
  clear hA1
  go_wp2_with (go_at_call 16; fail)
  refine (gram_at hA2).mono ?_
  rintro r w3 ⟨s, e, c, b, rfl, hb, hA3⟩
  clear hA2
  have hkm : key.size ≤ maxLen := Nat.le_trans hk (by decide)
  have hbm : b.size ≤ maxLen := Nat.le_trans hb (by decide)
  go_wp2_with (go_at_call 8; fail)
  refine (gm.sealM_any key s e c b w3 hkm hbm).mono ?_
  rintro r w4 ⟨rfl, hb4⟩
  have hA4 := At.up hA3 hb4
  have ht := sealG_le key s e c b
  clear hA3 hb4 hb hbm
  obtain ⟨t, htt⟩ : ∃ t, t = gm.sealG key s e c b := ⟨_, rfl⟩
  rw [← htt] at ht ⊢
  clear htt
  go_wp2_with (go_at_call 22; fail)
  refine (n_g hA4 4 (by omega) (by omega)).mono ?_
  rintro r w5 ⟨j, rfl, hj, hA5, _⟩
  clear hA4
  have hj4 : j = 0 ∨ j = 1 ∨ 2 ≤ j := by omega
  rcases hj4 with rfl | rfl | hj2
  · go_wp2_with (go_at_call 23; fail)
    refine (spoil_at hA5 t (by omega)).mono ?_
    rintro r w6 ⟨t', rfl, ht', hA6⟩
    clear hA5
    go_wp2
    go_ret2
    exact ⟨_, _, rfl, hk, by omega, hA6.2.1⟩
  · go_wp2_with (go_at_call 22; fail)
    refine (n_g hA5 9 (by omega) (by omega)).mono ?_
    rintro r w6 ⟨m, rfl, hm, hA6, _⟩
    clear hA5
    have hi : pn.i64P ((m : Int) * 200000) := by unfold pn.i64P; omega
    go_wp2_with (go_at_call 24; fail)
    refine (pn.spec_any _ w6 hi).mono ?_
    rintro r w7 ⟨rfl, hb7⟩
    have hA7 := At.up hA6 hb7
    have hz7 := gm.numB_size_le hi
    clear hA6 hb7
    obtain ⟨p, hp⟩ : ∃ p, p = pn.numB ((m : Int) * 200000) := ⟨_, rfl⟩
    rw [← hp] at hz7 ⊢
    clear hp
    go_wp2_with (go_at_call 22; fail)
    refine (n_g hA7 200 (by omega) (by omega)).mono ?_
    rintro r w8 ⟨l, rfl, hl, hA8, _⟩
    clear hA7
    have hmk := zeros_make (700 + l) (by omega) w8
    have hcv := zeros_conv (700 + l) w8
    rw [show ((700 + l : Nat) : Int) = 700 + (l : Int) by omega] at hmk
    go_wp2_with (go_at_call 25; fail)
    refine (cc.specSeal_any key _ _ _ hkm (by simp [ByteArray.size, maxLen]; omega)).mono ?_
    rintro r w9 ⟨rfl, hb9⟩
    have hA9 := At.up (At.alloc hA8 _) hb9
    clear hA8 hb9 hmk hcv
    have hz9 := sealA_le key ((m : Int) * 200000) ⟨Array.replicate (700 + l) 0⟩
    obtain ⟨z, hz⟩ : ∃ z, z = cc.sealA key ((m : Int) * 200000) ⟨Array.replicate (700 + l) 0⟩ := ⟨_, rfl⟩
    rw [← hz] at hz9 ⊢
    clear hz
    go_wp2
    go_ret2
    exact ⟨_, _, rfl, hk, by rw [ByteArray.size_append]; omega, hA9.2.1⟩
  · have q0 : ((j : Int) == 0) = false := by simp; omega
    have q1 : ((j : Int) == 1) = false := by simp; omega
    go_wp2
    go_ret2
    exact ⟨_, _, rfl, hk, by omega, hA5.2.1⟩
end Go.Proofs.YtgchjinbnlclnaaGreatDoor.db
