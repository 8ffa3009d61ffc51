/-
  The model's block of the stream: 64 bytes, as the plain function tells them; no old block turns.
-/
import Derived.Test.YtneahcoakbbdaaaDoorChaQuarter
import Derived.Deep.RegionHeld2
import Derived.Deep.RegionLaw
import Derived.Laws.BytesArg
namespace Go.Proofs.YtneahcoakbbdaaaDoor.cc
open Go.ChangeShapes Go.WideShapes Go.ChangeAt Go.RowKit
open Go.Proofs.YtneahcoakbbdaaaDoor.sh (U wr xor bits_U wr_U byteAt)
set_option linter.unusedVariables false

theorem own_base {w : World} {base : Nat} {e : TypeId} {size : Nat} {v : Value} {n : Nat} {xs : List Value} (h : w.ownsRow base e size v n xs) : Hid (∀ k, v.ownBlock = some k → base ≤ k) := by
  show ∀ k, v.ownBlock = some k → base ≤ k
  obtain ⟨_, ⟨rfl, _⟩ | ⟨g, cap, cur, rfl, hg, _⟩⟩ := h
  · intro k hk; simp [Value.ownBlock] at hk
  · intro k hk; simp [Value.ownBlock] at hk; omega
/-- The four cells of a block that has just been laid. -/
theorem cell_four_new (w : World) (a b c d : Value) (t : TypeId) : ∀ j u, [a, b, c, d][j]? = some u → (w.alloc (.cells #[a, b, c, d] t)).cell? ((⟨w.heap.size, 0, none⟩ : Addr).add j) = some u := by
  intro j u hj
  match j, hj with
  | 0, hj => simp at hj; subst hj; simp [Addr.add]
  | 1, hj => simp at hj; subst hj; simp [Addr.add]
  | 2, hj => simp at hj; subst hj; simp [Addr.add]
  | 3, hj => simp at hj; subst hj; simp [Addr.add]
  | j + 4, hj => simp at hj

/-- append onto a row of the call's own, as one step of a region that draws -/
theorem step_append_own {P : Program} {w : World} {ops : Array Oper} {o : Oper} {a : Act} {K : Act → World → Prop} {Q : Exit → Act → World → Prop} {E : Prop} (hgd : o.guard = none) (s x : Operand) (t : TypeId)
    (ho : o.op = .call { callee := .builtin .append, args := #[s, x], argTypes := #[t, t] })
    (base : Nat) (e : TypeId) (i : TypeInfo) (z : Value) (size bytes : Nat) (ht : P.underlying t = some (.slice e)) (hi : P.info? e = some i) (hz : i.zero = some z)
    (hsize : i.size = size) (hby : i.bytes = bytes) (hzs : z.cells.size = size) (hsz : 0 < size)
    (v : Value) (n : Nat) (xs : List Value) (hs : a.eval s = v) (hown : w.ownsRow base e size v n xs)
    (ad : Addr) (m c : Nat) (news : List Value) (hx : a.eval x = .slice (some ad) m c) (hl : news.length = m * size) (hnews : ∀ j u, news[j]? = some u → w.cell? (ad.add j) = some u) (h1 : ∀ u ∈ news, u.oneCell' = true)
    (h63 : n + m ≤ maxLen) (hbytes : (n + m) * bytes ≤ 140737488355328) (hbase : base ≤ w.heap.size)
    (h : ∀ v' w', w'.ownsRow base e size v' (n + m) (xs ++ news) → w.grownBy w' v.ownBlock → (v' = .slice none 0 0 ↔ v = .slice none 0 0 ∧ m = 0) → K (a.put o.dst v') w') :
    if Region.wanted o (yielded ops a.tmps) = true then Oper.wp P o a w K Q else E := by
  rw [if_pos (by simp [Region.wanted, hgd])]
  exact wp_append_own w s x t ho base e i z size bytes ht hi hz hsize hby hzs hsz v n xs hs hown ad m c news hx hl hnews h1 h63 hbytes hbase h

theorem info85 : (Tryd.prog.info? 85).map (fun i => (i.zero, i.size, i.bytes)) = some (some (.int .u32 0), 1, 4) := by kernel_rfl
theorem info5 : (Tryd.prog.info? 5).map (fun i => (i.zero, i.size, i.bytes)) = some (some (.int .u8 0), 1, 1) := by kernel_rfl
theorem lows_succ (b : List UInt8) (k : Nat) : lows b (k + 1) = lows b k ++ [lowAt b k] := by simp [lows, List.range_succ]
theorem lows_length (b : List UInt8) (k : Nat) : (lows b k).length = k := by simp [lows]
theorem byteAt_of (s : ByteArray) (i : Nat) (h : i < s.size) : byteAt s.data.toList i = (s[i].toNat : Int) := by
  unfold byteAt
  rw [List.getD_eq_getElem?_getD, List.getElem?_eq_getElem (by simpa using h)]
  rfl
theorem lowAt_of (s : ByteArray) (k : Nat) (h : 4 * k + 3 < s.size) : lowAt s.data.toList k = bits .or .u32 (bits .or .u32 (bits .or .u32 (IntKind.u32.wrap (s[4 * k].toNat : Int)) (IntKind.u32.wrap (IntKind.u32.wrap (s[4 * k + 1].toNat : Int) * 256))) (IntKind.u32.wrap (IntKind.u32.wrap (s[4 * k + 2].toNat : Int) * 65536))) (IntKind.u32.wrap (IntKind.u32.wrap (s[4 * k + 3].toNat : Int) * 16777216)) := by
  have b0 := s[4 * k].toNat_lt
  have b1 := s[4 * k + 1].toNat_lt
  have b2 := s[4 * k + 2].toNat_lt
  have b3 := s[4 * k + 3].toNat_lt
  have x0 : IntKind.u32.wrap (s[4 * k].toNat : Int) = (s[4 * k].toNat : Int) := by rw [IntKind.wrap_u32]; omega
  have x1 : IntKind.u32.wrap (s[4 * k + 1].toNat : Int) = (s[4 * k + 1].toNat : Int) := by rw [IntKind.wrap_u32]; omega
  have x2 : IntKind.u32.wrap (s[4 * k + 2].toNat : Int) = (s[4 * k + 2].toNat : Int) := by rw [IntKind.wrap_u32]; omega
  have x3 : IntKind.u32.wrap (s[4 * k + 3].toNat : Int) = (s[4 * k + 3].toNat : Int) := by rw [IntKind.wrap_u32]; omega
  unfold lowAt lowWord
  rw [byteAt_of s _ (by omega), byteAt_of s _ (by omega), byteAt_of s _ (by omega), byteAt_of s _ (by omega), x0, x1, x2, x3]
  simp only [wr, show ((2 : Int) ^ 8) = 256 by decide, show ((2 : Int) ^ 16) = 65536 by decide, show ((2 : Int) ^ 24) = 16777216 by decide]

theorem block_lt_of_heap {w : World} {p : Nat} {o : Obj} (h : w.heap[p]? = some o) : p < w.heap.size := by
  rcases Nat.lt_or_ge p w.heap.size with h' | h'
  · exact h'
  · simp [Array.getElem?_eq_none h'] at h
theorem RowU.below {w u : World} {g B : Nat} {l : List Int} (h : RowU w g l) (hb : Below B w u) (hB : g < B) : RowU u g l := by
  obtain ⟨cur, hh, hc⟩ := h
  exact ⟨cur, (hb.block g hB).trans hh, hc⟩
theorem RowU.grown {w u : World} {g p : Nat} {l : List Int} (h : RowU w g l) (hg : w.grownBy u (some p)) (hne : g ≠ p) : RowU u g l := by
  obtain ⟨cur, hh, hc⟩ := h
  exact ⟨cur, (hg.block g (block_lt_of_heap hh) (fun e => by cases e; exact hne rfl)).trans hh, hc⟩
theorem rowU_of_own {u : World} {base n : Nat} {v : Value} {l : List Int} (hl : l.length = n) (hn : 0 < n) (h : u.ownsRow base 85 1 v n (l.map (Value.int .u32))) : ∃ g cap, v = .slice (some ⟨g, 0, none⟩) n cap ∧ base ≤ g ∧ RowU u g l := by
  obtain ⟨_, ⟨_, h0⟩ | ⟨g, cap, cur, hv, hg, hh, h1, h2, h3, h4⟩⟩ := h
  · omega
  · refine ⟨g, cap, hv, hg, cur, hh, fun i hi => ?_⟩
    have e : (cur.toList.take (n * 1))[i]? = some (.int .u32 (l.getD i 0)) := by
      rw [h4, List.getElem?_map, List.getD_eq_getElem?_getD, List.getElem?_eq_getElem hi]; rfl
    rw [List.getElem?_take_of_lt (by omega)] at e
    simpa using e
theorem quarterM_int (g cap n : Nat) (l : List Int) (a b c d : Nat) (ai bi ci di : Int) (ea : ai = (a : Int)) (eb : bi = (b : Int)) (ec : ci = (c : Int)) (ed : di = (d : Int)) (w : World) (hU : AllU l) (hn : l.length = n) (hn16 : n ≤ 1000) (ha : a < n) (hb : b < n) (hc : c < n) (hd : d < n) (hr : RowU w g l) :
    Calls Tryd.prog 93 #[.slice (some ⟨g, 0, none⟩) n cap, .int .i64 ai, .int .i64 bi, .int .i64 ci, .int .i64 di] w fun e w' => e = .returned (.tuple #[]) ∧ RowU w' g (quarter l a b c d) ∧ w.grownBy w' (some g) := by
  subst ea eb ec ed
  exact quarterM_any g cap n l a b c d w hU hn hn16 ha hb hc hd hr
theorem blockN_succ (key : List UInt8) (ctr : Int) (nonce : List UInt8) (k : Nat) : blockN key ctr nonce (k + 1) = blockN key ctr nonce k ++ lowBytes (wr ((turns 10 (first key ctr nonce)).getD k 0 + (first key ctr nonce).getD k 0)) := by
  simp [blockN, List.range_succ]
theorem blockN_length (key : List UInt8) (ctr : Int) (nonce : List UInt8) (k : Nat) : (blockN key ctr nonce k).length = 4 * k := by
  induction k with
  | zero => rfl
  | succ k ih => rw [blockN_succ, List.length_append, ih]; simp [lowBytes]; omega
theorem wp_world {P : Program} {c : Code} {Q : Exit → Act → World → Prop} {a : Act} {w : World} (I : World → Prop) (hI : I w) (h : ∀ u, I u → c.wp P Q a u) : c.wp P Q a w := h w hI
theorem own_mono {u : World} {B B' : Nat} {e : TypeId} {size : Nat} {v : Value} {n : Nat} {xs : List Value} (h : u.ownsRow B e size v n xs) (hb : B' ≤ B) : u.ownsRow B' e size v n xs := by
  obtain ⟨h1, h2 | ⟨g, cap, cur, a, b, c⟩⟩ := h
  · exact ⟨h1, Or.inl h2⟩
  · exact ⟨h1, Or.inr ⟨g, cap, cur, a, by omega, c⟩⟩
theorem first_U (key : List UInt8) (ctr : Int) (nonce : List UInt8) (hc : U ctr) : AllU (first key ctr nonce) := by
  intro x hx
  simp only [first, lows, List.mem_append, List.mem_map, List.mem_singleton] at hx
  rcases hx with (⟨i, _, rfl⟩ | rfl) | ⟨i, _, rfl⟩
  · exact lowAt_U _ _
  · exact hc
  · exact lowAt_U _ _

set_option maxRecDepth 20000 in
set_option maxHeartbeats 16000000 in
theorem blockM_any (key nonce : ByteArray) (ctr : Int) (w : World) (hk : key.size = 32) (hn : nonce.size = 12) (hc : U ctr) :
    Calls Tryd.prog 80 #[.string key, .int .u32 ctr, .string nonce] w fun e w' => ∃ v, e = .returned v ∧ w'.ownsRow w.heap.size 5 1 v 64 ((blockN key.data.toList ctr nonce.data.toList 16).map (Value.int .u8)) ∧ Below w.heap.size w w' := by
  obtain ⟨i0, hi, hz0, hz1, hz2⟩ := info_parts info85
  go_enter Tryd.func80, Tryd.ntmps80
  go_wp2
  obtain ⟨T, hT⟩ : ∃ T : ByteArray, T = (⟨#[101, 120, 112, 97, 110, 100, 32, 51, 50, 45, 98, 121, 116, 101, 32, 107]⟩ : ByteArray) ++ key := ⟨_, rfl⟩
  rw [← hT]
  have hTs : T.size = 48 := by rw [hT, ByteArray.size_append, hk]; rfl
  have HTL : Hid (T.data.toList = expand ++ key.data.toList) := by show _ = _; rw [hT]; simp [expand]
  clear hT
  have HS0 : Hid ((w.alloc (.cells #[] 85)).ownsRow w.heap.size 85 1 (.slice (some ⟨w.heap.size, 0, none⟩) 0 0) (0 + 0) (([] ++ lows T.data.toList 0).map (Value.int .u32))) := ⟨rfl, Or.inr ⟨w.heap.size, 0, #[], rfl, Nat.le_refl _, heap_alloc_new _ _, Nat.le_refl _, Nat.zero_le _, rfl, rfl⟩⟩
  have HB0 : Hid (Below w.heap.size w (w.alloc (.cells #[] 85))) := (Below.refl _ _).alloc (Nat.le_refl _) _
  go_loopw [8, 9] (fun v i u => ∃ k : Nat, k ≤ 12 ∧ i = .int .i64 (4 * (k : Int)) ∧ u.ownsRow w.heap.size 85 1 v (0 + k) (([] ++ lows T.data.toList k).map (Value.int .u32)) ∧ Below w.heap.size w u) (fun _ i _ => 48 - (intOf i).toNat)
  case atStart => exact ⟨0, by omega, rfl, HS0.out, HB0.out⟩
  case round =>
    clear HS0 HB0
    obtain ⟨k, hk, rfl, hown, hB⟩ := hrel
    have hbs : w.heap.size ≤ wr.heap.size := hB.size
    by_cases hlt : k < 12
    · have HO := own_base hown
      have e0 : IntKind.i64.wrap (4 * (k : Int)) = 4 * (k : Int) := by rw [IntKind.wrap_i64]; omega
      have e1 : IntKind.i64.wrap (4 * (k : Int) + 1) = 4 * (k : Int) + 1 := by rw [IntKind.wrap_i64]; omega
      have e2 : IntKind.i64.wrap (4 * (k : Int) + 2) = 4 * (k : Int) + 2 := by rw [IntKind.wrap_i64]; omega
      have e3 : IntKind.i64.wrap (4 * (k : Int) + 3) = 4 * (k : Int) + 3 := by rw [IntKind.wrap_i64]; omega
      have j0 : 0 ≤ 4 * (k : Int) ∧ 4 * (k : Int) < 48 := by omega
      have j1 : 0 ≤ 4 * (k : Int) + 1 ∧ 4 * (k : Int) + 1 < 48 := by omega
      have j2 : 0 ≤ 4 * (k : Int) + 2 ∧ 4 * (k : Int) + 2 < 48 := by omega
      have j3 : 0 ≤ 4 * (k : Int) + 3 ∧ 4 * (k : Int) + 3 < 48 := by omega
      have p0 : (0 : Int) ≤ 4 * (k : Int) := by omega
      have q0 : 4 * (k : Int) < 48 := by omega
      have p1 : (0 : Int) ≤ 4 * (k : Int) + 1 := by omega
      have q1 : 4 * (k : Int) + 1 < 48 := by omega
      have p2 : (0 : Int) ≤ 4 * (k : Int) + 2 := by omega
      have q2 : 4 * (k : Int) + 2 < 48 := by omega
      have p3 : (0 : Int) ≤ 4 * (k : Int) + 3 := by omega
      have q3 : 4 * (k : Int) + 3 < 48 := by omega
      have HV : Hid (lowAt T.data.toList k = _) := lowAt_of T k (by omega)
      go_wp2_with fail
      refine wp_region_any (by kernel_rfl) ?_
      change wpAny _ _ _ _ _ _ _ (World.drew _)
      refine wpAny_take (i := 0) (v := ?_) rfl (by kernel_rfl) (by kernel_rfl) (by kernel_rfl) (fun _ _ _ h => h) (Or.inl ⟨by rfl, ?_⟩) ?_
      rotate_left
      · intro w; go_simp; try with_reducible rfl
      refine wpAny_take (i := 1) (v := ?_) rfl (by kernel_rfl) (by kernel_rfl) (by kernel_rfl) (fun _ _ _ h => h) (Or.inl ⟨by rfl, ?_⟩) ?_
      rotate_left
      · intro w; go_simp; try with_reducible rfl
      refine wpAny_take (i := 2) (v := ?_) rfl (by kernel_rfl) (by kernel_rfl) (by kernel_rfl) (fun _ _ _ h => h) (Or.inl ⟨by rfl, ?_⟩) ?_
      rotate_left
      · intro w; go_simp; try with_reducible rfl
      refine wpAny_take (i := 3) (v := ?_) rfl (by kernel_rfl) (by kernel_rfl) (by kernel_rfl) (fun _ _ _ h => h) (Or.inl ⟨by rfl, ?_⟩) ?_
      rotate_left
      · intro w; go_simp; try with_reducible rfl
      refine wpAny_take (i := 4) (v := ?_) rfl (by kernel_rfl) (by kernel_rfl) (by kernel_rfl) (fun _ _ _ h => h) (Or.inl ⟨by rfl, ?_⟩) ?_
      rotate_left
      · intro w; go_simp; try with_reducible rfl
      refine wpAny_take (i := 5) (v := ?_) rfl (by kernel_rfl) (by kernel_rfl) (by kernel_rfl) (fun _ _ _ h => h) (Or.inl ⟨by rfl, ?_⟩) ?_
      rotate_left
      · intro w; go_simp; try with_reducible rfl
      refine wpAny_take (i := 6) (v := ?_) rfl (by kernel_rfl) (by kernel_rfl) (by kernel_rfl) (fun _ _ _ h => h) (Or.inl ⟨by rfl, ?_⟩) ?_
      rotate_left
      · intro w; go_simp; try with_reducible rfl
      refine wpAny_take (i := 7) (v := ?_) rfl (by kernel_rfl) (by kernel_rfl) (by kernel_rfl) (fun _ _ _ h => h) (Or.inl ⟨by rfl, ?_⟩) ?_
      rotate_left
      · intro w; go_simp; try with_reducible rfl
      refine wpAny_take (i := 8) (v := ?_) rfl (by kernel_rfl) (by kernel_rfl) (by kernel_rfl) (fun _ _ _ h => h) (Or.inl ⟨by rfl, ?_⟩) ?_
      rotate_left
      · intro w; go_simp; try with_reducible rfl
      refine wpAny_take (i := 9) (v := ?_) rfl (by kernel_rfl) (by kernel_rfl) (by kernel_rfl) (fun _ _ _ h => h) (Or.inl ⟨by rfl, ?_⟩) ?_
      rotate_left
      · intro w; go_simp; try with_reducible rfl
      refine wpAny_take (i := 10) (v := ?_) rfl (by kernel_rfl) (by kernel_rfl) (by kernel_rfl) (fun _ _ _ h => h) (Or.inl ⟨by rfl, ?_⟩) ?_
      rotate_left
      · intro w; go_simp; try with_reducible rfl
      refine wpAny_take (i := 11) (v := ?_) rfl (by kernel_rfl) (by kernel_rfl) (by kernel_rfl) (fun _ _ _ h => h) (Or.inl ⟨by rfl, ?_⟩) ?_
      rotate_left
      · intro w; go_simp; try with_reducible rfl
      refine wpAny_take (i := 12) (v := ?_) rfl (by kernel_rfl) (by kernel_rfl) (by kernel_rfl) (fun _ _ _ h => h) (Or.inl ⟨by rfl, ?_⟩) ?_
      rotate_left
      · intro w; go_simp; try with_reducible rfl
      refine wpAny_take (i := 13) (v := ?_) rfl (by kernel_rfl) (by kernel_rfl) (by kernel_rfl) (fun _ _ _ h => h) (Or.inl ⟨by rfl, ?_⟩) ?_
      rotate_left
      · intro w; go_simp; try with_reducible rfl
      refine wpAny_take (i := 14) (v := ?_) rfl (by kernel_rfl) (by kernel_rfl) (by kernel_rfl) (fun _ _ _ h => h) (Or.inl ⟨by rfl, ?_⟩) ?_
      rotate_left
      · intro w; go_simp; try with_reducible rfl
      refine wpAny_take (i := 15) (v := ?_) rfl (by kernel_rfl) (by kernel_rfl) (by kernel_rfl) (fun _ _ _ h => h) (Or.inl ⟨by rfl, ?_⟩) ?_
      rotate_left
      · intro w; go_simp; try with_reducible rfl
      refine wpAny_take (i := 16) (v := ?_) rfl (by kernel_rfl) (by kernel_rfl) (by kernel_rfl) (fun _ _ _ h => h) (Or.inl ⟨by rfl, ?_⟩) ?_
      rotate_left
      · intro w; go_simp; try with_reducible rfl
      refine wpAny_take (i := 17) (v := ?_) rfl (by kernel_rfl) (by kernel_rfl) (by kernel_rfl) (fun _ _ _ h => h) (Or.inl ⟨by rfl, ?_⟩) ?_
      rotate_left
      · intro w; go_simp; try with_reducible rfl
      refine wpAny_take (i := 18) (v := ?_) rfl (by kernel_rfl) (by kernel_rfl) (by kernel_rfl) (fun _ _ _ h => h) (Or.inl ⟨by rfl, ?_⟩) ?_
      rotate_left
      · intro w; go_simp; try with_reducible rfl
      refine wpAny_take (i := 19) (v := ?_) rfl (by kernel_rfl) (by kernel_rfl) (by kernel_rfl) (fun _ _ _ h => h) (Or.inl ⟨by rfl, ?_⟩) ?_
      rotate_left
      · intro w; go_simp; try with_reducible rfl
      refine wpAny_take (i := 20) (v := ?_) rfl (by kernel_rfl) (by kernel_rfl) (by kernel_rfl) (fun _ _ _ h => h) (Or.inl ⟨by rfl, ?_⟩) ?_
      rotate_left
      · intro w; go_simp; try with_reducible rfl
      refine wpAny_take (i := 21) (v := ?_) rfl (by kernel_rfl) (by kernel_rfl) (by kernel_rfl) (fun _ _ _ h => h) (Or.inl ⟨by rfl, ?_⟩) ?_
      rotate_left
      · intro w; go_simp; try with_reducible rfl
      refine wpAny_take (i := 22) (v := ?_) rfl (by kernel_rfl) (by kernel_rfl) (by kernel_rfl) (fun _ _ _ h => h) (Or.inl ⟨by rfl, ?_⟩) ?_
      rotate_left
      · intro w; go_simp; try with_reducible rfl
      refine wpAny_take (i := 23) (v := ?_) rfl (by kernel_rfl) (by kernel_rfl) (by kernel_rfl) (fun _ _ _ h => h) (Or.inl ⟨by rfl, ?_⟩) ?_
      rotate_left
      · intro w; go_simp; try with_reducible rfl
      refine wpAny_take (i := 24) (v := ?_) rfl (by kernel_rfl) (by kernel_rfl) (by kernel_rfl) (fun _ _ _ h => h) (Or.inl ⟨by rfl, ?_⟩) ?_
      rotate_left
      · intro w; go_simp; try with_reducible rfl
      refine wpAny_take (i := 25) (v := ?_) rfl (by kernel_rfl) (by kernel_rfl) (by kernel_rfl) (fun _ _ _ h => h) (Or.inl ⟨by rfl, ?_⟩) ?_
      rotate_left
      · intro w; go_simp; try with_reducible rfl
      refine wpAny_ready (rs := [26]) (by kernel_rfl) (by simp) ?_
      refine AllReady.cons rfl (fun K hK => ?_) AllReady.nil
      go_simp
      refine hK _ _ ?_
      clear hK K
      refine wpAny_ready (rs := [27]) (by kernel_rfl) (by simp) ?_
      refine AllReady.cons rfl (fun K hK => ?_) AllReady.nil
      refine step_append_own rfl (.tmp 23) (.tmp 49) 122 rfl w.heap.size 85 i0 (.int .u32 0) 1 4 Tryd.underlying122 hi hz0 hz1 hz2 rfl (by decide) _ _ _ rfl ((show World.ownsRow wr.drew _ _ _ _ _ _ from hown).alloc _) ⟨wr.heap.size, 0, none⟩ 1 1 [_] rfl rfl (cell_one_new _ _ _) (fun x hx => by simp at hx; subst hx; rfl) (by unfold maxLen; omega) (by omega) (by simp; omega) ?_
      intro v' w6 hown' hgrow _
      refine hK _ _ ?_
      clear hK K
      refine wpAny_take (i := 28) (v := ?_) rfl (by kernel_rfl) (by kernel_rfl) (by kernel_rfl) (fun _ _ _ h => h) (Or.inl ⟨by rfl, ?_⟩) ?_
      rotate_left
      · intro w; go_simp; try with_reducible rfl
      refine wpAny_done (by kernel_rfl) ?_ _
      have HO2 : Hid _ := hown'
      have HB2 : Hid (Below w.heap.size w w6) := (hB.drew.alloc hbs _).grown hgrow (by simp; omega) HO.out
      clear hown' hgrow
      go_wp2
      go_roundw
      case rel =>
        refine ⟨k + 1, by omega, by go_num, ?_, HB2.out⟩
        rw [lows_succ T.data.toList k, HV.out, ← List.append_assoc, List.map_append]
        exact HO2.out
      case measure => simp [intOf]; omega
    · obtain rfl : k = 12 := by omega
      have HO := own_base hown
      have hc2 := hc
      obtain ⟨c0, c1⟩ := hc2
      go_wp2_with (at_builtin; go_must (refine wpList_append_own _ rfl _ _ 122 rfl w.heap.size 85 i0 (.int .u32 0) 1 4 Tryd.underlying122 hi hz0 hz1 hz2 rfl (by decide) _ _ _ rfl (hown.alloc _) ⟨wr.heap.size, 0, none⟩ 1 1 [_] rfl rfl (cell_one_new _ _ _) (fun x hx => by simp at hx; subst hx; rfl) (by unfold maxLen; omega) (by omega) (by simp; omega) ?_))
      intro v2 w2 hown2 hgrow2 _
      have HS0 : Hid (w2.ownsRow w.heap.size 85 1 v2 (13 + 0) (((lows T.data.toList 12 ++ [ctr]) ++ lows nonce.data.toList 0).map (Value.int .u32))) := by
        show World.ownsRow _ _ _ _ _ _ _
        rw [show lows nonce.data.toList 0 = [] from rfl, List.append_nil, List.map_append]
        exact hown2
      have HB0 : Hid (Below w.heap.size w w2) := (hB.alloc hbs _).grown hgrow2 (by simp; omega) HO.out
      clear hown2 hgrow2 hown hB HO
      go_wp2_with fail
      go_loopw [8, 10] (fun v i u => ∃ k : Nat, k ≤ 3 ∧ i = .int .i64 (4 * (k : Int)) ∧ u.ownsRow w.heap.size 85 1 v (13 + k) (((lows T.data.toList 12 ++ [ctr]) ++ lows nonce.data.toList k).map (Value.int .u32)) ∧ Below w.heap.size w u) (fun _ i _ => 12 - (intOf i).toNat)
      case atStart => exact ⟨0, by omega, rfl, HS0.out, HB0.out⟩
      case round =>
        clear HS0 HB0
        obtain ⟨k, hk, rfl, hown, hB⟩ := hrel
        have hbs : w.heap.size ≤ wr.heap.size := hB.size
        by_cases hlt : k < 3
        · have HO := own_base hown
          have e0 : IntKind.i64.wrap (4 * (k : Int)) = 4 * (k : Int) := by rw [IntKind.wrap_i64]; omega
          have e1 : IntKind.i64.wrap (4 * (k : Int) + 1) = 4 * (k : Int) + 1 := by rw [IntKind.wrap_i64]; omega
          have e2 : IntKind.i64.wrap (4 * (k : Int) + 2) = 4 * (k : Int) + 2 := by rw [IntKind.wrap_i64]; omega
          have e3 : IntKind.i64.wrap (4 * (k : Int) + 3) = 4 * (k : Int) + 3 := by rw [IntKind.wrap_i64]; omega
          have j0 : 0 ≤ 4 * (k : Int) ∧ 4 * (k : Int) < 12 := by omega
          have j1 : 0 ≤ 4 * (k : Int) + 1 ∧ 4 * (k : Int) + 1 < 12 := by omega
          have j2 : 0 ≤ 4 * (k : Int) + 2 ∧ 4 * (k : Int) + 2 < 12 := by omega
          have j3 : 0 ≤ 4 * (k : Int) + 3 ∧ 4 * (k : Int) + 3 < 12 := by omega
          have p0 : (0 : Int) ≤ 4 * (k : Int) := by omega
          have q0 : 4 * (k : Int) < 12 := by omega
          have p1 : (0 : Int) ≤ 4 * (k : Int) + 1 := by omega
          have q1 : 4 * (k : Int) + 1 < 12 := by omega
          have p2 : (0 : Int) ≤ 4 * (k : Int) + 2 := by omega
          have q2 : 4 * (k : Int) + 2 < 12 := by omega
          have p3 : (0 : Int) ≤ 4 * (k : Int) + 3 := by omega
          have q3 : 4 * (k : Int) + 3 < 12 := by omega
          have HV : Hid (lowAt nonce.data.toList k = _) := lowAt_of nonce k (by omega)
          go_wp2_with fail
          refine wp_region_any (by kernel_rfl) ?_
          change wpAny _ _ _ _ _ _ _ (World.drew _)
          refine wpAny_take (i := 0) (v := ?_) rfl (by kernel_rfl) (by kernel_rfl) (by kernel_rfl) (fun _ _ _ h => h) (Or.inl ⟨by rfl, ?_⟩) ?_
          rotate_left
          · intro w; go_simp; try with_reducible rfl
          refine wpAny_take (i := 1) (v := ?_) rfl (by kernel_rfl) (by kernel_rfl) (by kernel_rfl) (fun _ _ _ h => h) (Or.inl ⟨by rfl, ?_⟩) ?_
          rotate_left
          · intro w; go_simp; try with_reducible rfl
          refine wpAny_take (i := 2) (v := ?_) rfl (by kernel_rfl) (by kernel_rfl) (by kernel_rfl) (fun _ _ _ h => h) (Or.inl ⟨by rfl, ?_⟩) ?_
          rotate_left
          · intro w; go_simp; try with_reducible rfl
          refine wpAny_take (i := 3) (v := ?_) rfl (by kernel_rfl) (by kernel_rfl) (by kernel_rfl) (fun _ _ _ h => h) (Or.inl ⟨by rfl, ?_⟩) ?_
          rotate_left
          · intro w; go_simp; try with_reducible rfl
          refine wpAny_take (i := 4) (v := ?_) rfl (by kernel_rfl) (by kernel_rfl) (by kernel_rfl) (fun _ _ _ h => h) (Or.inl ⟨by rfl, ?_⟩) ?_
          rotate_left
          · intro w; go_simp; try with_reducible rfl
          refine wpAny_take (i := 5) (v := ?_) rfl (by kernel_rfl) (by kernel_rfl) (by kernel_rfl) (fun _ _ _ h => h) (Or.inl ⟨by rfl, ?_⟩) ?_
          rotate_left
          · intro w; go_simp; try with_reducible rfl
          refine wpAny_take (i := 6) (v := ?_) rfl (by kernel_rfl) (by kernel_rfl) (by kernel_rfl) (fun _ _ _ h => h) (Or.inl ⟨by rfl, ?_⟩) ?_
          rotate_left
          · intro w; go_simp; try with_reducible rfl
          refine wpAny_take (i := 7) (v := ?_) rfl (by kernel_rfl) (by kernel_rfl) (by kernel_rfl) (fun _ _ _ h => h) (Or.inl ⟨by rfl, ?_⟩) ?_
          rotate_left
          · intro w; go_simp; try with_reducible rfl
          refine wpAny_take (i := 8) (v := ?_) rfl (by kernel_rfl) (by kernel_rfl) (by kernel_rfl) (fun _ _ _ h => h) (Or.inl ⟨by rfl, ?_⟩) ?_
          rotate_left
          · intro w; go_simp; try with_reducible rfl
          refine wpAny_take (i := 9) (v := ?_) rfl (by kernel_rfl) (by kernel_rfl) (by kernel_rfl) (fun _ _ _ h => h) (Or.inl ⟨by rfl, ?_⟩) ?_
          rotate_left
          · intro w; go_simp; try with_reducible rfl
          refine wpAny_take (i := 10) (v := ?_) rfl (by kernel_rfl) (by kernel_rfl) (by kernel_rfl) (fun _ _ _ h => h) (Or.inl ⟨by rfl, ?_⟩) ?_
          rotate_left
          · intro w; go_simp; try with_reducible rfl
          refine wpAny_take (i := 11) (v := ?_) rfl (by kernel_rfl) (by kernel_rfl) (by kernel_rfl) (fun _ _ _ h => h) (Or.inl ⟨by rfl, ?_⟩) ?_
          rotate_left
          · intro w; go_simp; try with_reducible rfl
          refine wpAny_take (i := 12) (v := ?_) rfl (by kernel_rfl) (by kernel_rfl) (by kernel_rfl) (fun _ _ _ h => h) (Or.inl ⟨by rfl, ?_⟩) ?_
          rotate_left
          · intro w; go_simp; try with_reducible rfl
          refine wpAny_take (i := 13) (v := ?_) rfl (by kernel_rfl) (by kernel_rfl) (by kernel_rfl) (fun _ _ _ h => h) (Or.inl ⟨by rfl, ?_⟩) ?_
          rotate_left
          · intro w; go_simp; try with_reducible rfl
          refine wpAny_take (i := 14) (v := ?_) rfl (by kernel_rfl) (by kernel_rfl) (by kernel_rfl) (fun _ _ _ h => h) (Or.inl ⟨by rfl, ?_⟩) ?_
          rotate_left
          · intro w; go_simp; try with_reducible rfl
          refine wpAny_take (i := 15) (v := ?_) rfl (by kernel_rfl) (by kernel_rfl) (by kernel_rfl) (fun _ _ _ h => h) (Or.inl ⟨by rfl, ?_⟩) ?_
          rotate_left
          · intro w; go_simp; try with_reducible rfl
          refine wpAny_take (i := 16) (v := ?_) rfl (by kernel_rfl) (by kernel_rfl) (by kernel_rfl) (fun _ _ _ h => h) (Or.inl ⟨by rfl, ?_⟩) ?_
          rotate_left
          · intro w; go_simp; try with_reducible rfl
          refine wpAny_take (i := 17) (v := ?_) rfl (by kernel_rfl) (by kernel_rfl) (by kernel_rfl) (fun _ _ _ h => h) (Or.inl ⟨by rfl, ?_⟩) ?_
          rotate_left
          · intro w; go_simp; try with_reducible rfl
          refine wpAny_take (i := 18) (v := ?_) rfl (by kernel_rfl) (by kernel_rfl) (by kernel_rfl) (fun _ _ _ h => h) (Or.inl ⟨by rfl, ?_⟩) ?_
          rotate_left
          · intro w; go_simp; try with_reducible rfl
          refine wpAny_take (i := 19) (v := ?_) rfl (by kernel_rfl) (by kernel_rfl) (by kernel_rfl) (fun _ _ _ h => h) (Or.inl ⟨by rfl, ?_⟩) ?_
          rotate_left
          · intro w; go_simp; try with_reducible rfl
          refine wpAny_take (i := 20) (v := ?_) rfl (by kernel_rfl) (by kernel_rfl) (by kernel_rfl) (fun _ _ _ h => h) (Or.inl ⟨by rfl, ?_⟩) ?_
          rotate_left
          · intro w; go_simp; try with_reducible rfl
          refine wpAny_take (i := 21) (v := ?_) rfl (by kernel_rfl) (by kernel_rfl) (by kernel_rfl) (fun _ _ _ h => h) (Or.inl ⟨by rfl, ?_⟩) ?_
          rotate_left
          · intro w; go_simp; try with_reducible rfl
          refine wpAny_take (i := 22) (v := ?_) rfl (by kernel_rfl) (by kernel_rfl) (by kernel_rfl) (fun _ _ _ h => h) (Or.inl ⟨by rfl, ?_⟩) ?_
          rotate_left
          · intro w; go_simp; try with_reducible rfl
          refine wpAny_take (i := 23) (v := ?_) rfl (by kernel_rfl) (by kernel_rfl) (by kernel_rfl) (fun _ _ _ h => h) (Or.inl ⟨by rfl, ?_⟩) ?_
          rotate_left
          · intro w; go_simp; try with_reducible rfl
          refine wpAny_take (i := 24) (v := ?_) rfl (by kernel_rfl) (by kernel_rfl) (by kernel_rfl) (fun _ _ _ h => h) (Or.inl ⟨by rfl, ?_⟩) ?_
          rotate_left
          · intro w; go_simp; try with_reducible rfl
          refine wpAny_take (i := 25) (v := ?_) rfl (by kernel_rfl) (by kernel_rfl) (by kernel_rfl) (fun _ _ _ h => h) (Or.inl ⟨by rfl, ?_⟩) ?_
          rotate_left
          · intro w; go_simp; try with_reducible rfl
          refine wpAny_ready (rs := [26]) (by kernel_rfl) (by simp) ?_
          refine AllReady.cons rfl (fun K hK => ?_) AllReady.nil
          go_simp
          refine hK _ _ ?_
          clear hK K
          refine wpAny_ready (rs := [27]) (by kernel_rfl) (by simp) ?_
          refine AllReady.cons rfl (fun K hK => ?_) AllReady.nil
          refine step_append_own rfl (.tmp 59) (.tmp 85) 122 rfl w.heap.size 85 i0 (.int .u32 0) 1 4 Tryd.underlying122 hi hz0 hz1 hz2 rfl (by decide) _ _ _ rfl ((show World.ownsRow wr.drew _ _ _ _ _ _ from hown).alloc _) ⟨wr.heap.size, 0, none⟩ 1 1 [_] rfl rfl (cell_one_new _ _ _) (fun x hx => by simp at hx; subst hx; rfl) (by unfold maxLen; omega) (by omega) (by simp; omega) ?_
          intro v' w6 hown' hgrow _
          refine hK _ _ ?_
          clear hK K
          refine wpAny_take (i := 28) (v := ?_) rfl (by kernel_rfl) (by kernel_rfl) (by kernel_rfl) (fun _ _ _ h => h) (Or.inl ⟨by rfl, ?_⟩) ?_
          rotate_left
          · intro w; go_simp; try with_reducible rfl
          refine wpAny_done (by kernel_rfl) ?_ _
          have HO2 : Hid _ := hown'
          have HB2 : Hid (Below w.heap.size w w6) := (hB.drew.alloc hbs _).grown hgrow (by simp; omega) HO.out
          clear hown' hgrow
          go_wp2
          go_roundw
          case rel =>
            refine ⟨k + 1, by omega, by go_num, ?_, HB2.out⟩
            rw [lows_succ nonce.data.toList k, HV.out, ← List.append_assoc, List.map_append]
            exact HO2.out
          case measure => simp [intOf]; omega
        · obtain rfl : k = 3 := by omega
          obtain ⟨F, hF⟩ : ∃ F : List Int, F = first key.data.toList ctr nonce.data.toList := ⟨_, rfl⟩
          have HF : Hid (F = first key.data.toList ctr nonce.data.toList) := hF
          have hFL : (lows T.data.toList 12 ++ [ctr]) ++ lows nonce.data.toList 3 = F := by rw [hF]; unfold first; rw [← HTL.out]
          have hFn : F.length = 16 := by rw [hF]; exact first_length _ _ _
          have HFU : Hid (AllU F) := by rw [hF]; exact first_U _ _ _ hc
          clear hF
          rw [hFL] at hown
          clear hFL
          obtain ⟨gs, cs, hvs, hgs, hRs⟩ := rowU_of_own hFn (by omega) hown
          subst hvs
          have HRs : Hid (RowU wr gs F) := hRs
          have hgsl : gs < wr.heap.size := by obtain ⟨cur, hh, _⟩ := hRs; exact block_lt_of_heap hh
          clear hown hRs
          have hnew : (wr.alloc (.cells #[] 85)).ownsRow wr.heap.size 85 1 (.slice (some ⟨wr.heap.size, 0, none⟩) 0 0) 0 [] := ⟨rfl, Or.inr ⟨wr.heap.size, 0, #[], rfl, Nat.le_refl _, heap_alloc_new _ _, Nat.le_refl _, Nat.zero_le _, rfl, rfl⟩⟩
          have hsrc : ∀ j u, (F.map (Value.int .u32))[j]? = some u → (wr.alloc (.cells #[] 85)).cell? ((⟨gs, 0, none⟩ : Addr).add j) = some u := fun j u hj => by
            have e : (⟨gs, 0, none⟩ : Addr).add j = ⟨gs, j, none⟩ := by unfold Addr.add; split <;> simp_all
            have hjl : j < F.length := by have := (List.getElem?_eq_some_iff.1 hj).1; simpa using this
            rw [e, World.cell?_alloc_lt _ _ _ (by simpa using hgsl), HRs.out.cell j hjl, ← hj, List.getElem?_map, List.getD_eq_getElem?_getD, List.getElem?_eq_getElem hjl]; rfl
          go_wp2_with (at_builtin; go_must (refine wpList_append_own _ rfl _ _ 122 rfl wr.heap.size 85 i0 (.int .u32 0) 1 4 Tryd.underlying122 hi hz0 hz1 hz2 rfl (by decide) _ _ _ rfl hnew ⟨gs, 0, none⟩ 16 cs (F.map (Value.int .u32)) rfl (by simp [hFn]) hsrc (fun x hx => by obtain ⟨y, _, rfl⟩ := List.mem_map.1 hx; rfl) (by unfold maxLen; omega) (by omega) (by simp) ?_))
          intro v3 w3 hown3 hgrow3 _
          have hBB : Below wr.heap.size wr w3 := ((Below.refl _ _).alloc (Nat.le_refl _) _).grown hgrow3 (by simp) (fun q hq => by simp [Value.ownBlock] at hq; omega)
          obtain ⟨gw, cw, hvw, hgw, hRw⟩ := rowU_of_own (l := F) hFn (by omega) (by simpa using hown3)
          subst hvw
          have HRw : Hid (RowU w3 gw F) := hRw
          have HRs3 : Hid (RowU w3 gs F) := HRs.out.below hBB hgsl
          have HB3 : Hid (Below w.heap.size w w3) := hB.trans (hBB.mono hbs)
          have hne : gs ≠ gw := by omega
          have hgwl : w.heap.size ≤ gw := by omega
          have hgsw : w.heap.size ≤ gs := hgs
          have HFn : Hid (F.length = 16) := hFn
          clear hown3 hgrow3 hBB hRw HRs hnew hsrc hB hFn
          go_wp2_with fail
          go_loopw [12] (fun i u => ∃ k : Nat, k ≤ 10 ∧ i = .int .i64 k ∧ Hid (RowU u gw (turns k F)) ∧ Hid (RowU u gs F) ∧ Hid (Below w.heap.size w u)) (fun i _ => 10 - (intOf i).toNat)
          case atStart => exact ⟨0, by omega, rfl, HRw, HRs3, HB3⟩
          case round =>
            clear HRw HRs3 HB3
            obtain ⟨k, hk, rfl, HR0, HQ0, HB0⟩ := hrel
            by_cases hlt : k < 10
            · have HU0 : Hid (AllU (turns k F)) := turns_U k HFU.out
              have Hl0 : Hid ((turns k F).length = 16) := by show _ = _; rw [turns_length]; exact HFn.out
              obtain ⟨m0, hm0⟩ : ∃ m, m = turns k F := ⟨_, rfl⟩
              have HM0 : Hid (m0 = turns k F) := hm0
              rw [← hm0] at HR0 HU0 Hl0
              clear hm0
              go_wp2_with (first | (go_at_call 93; refine (quarterM_int gw cw 16 m0 0 4 8 12 0 4 8 12 rfl rfl rfl rfl wr HU0.out Hl0.out (by omega) (by omega) (by omega) (by omega) (by omega) HR0.out).mono ?_; rintro e u1w ⟨rfl, hr, hg⟩; obtain ⟨m1, hm⟩ : ∃ m, m = quarter m0 0 4 8 12 := ⟨_, rfl⟩; rw [← hm] at hr; have Hm1 : Hid (m1 = quarter m0 0 4 8 12) := hm; have HR1 : Hid (RowU u1w gw m1) := hr; have HQ1 : Hid (RowU u1w gs F) := HQ0.out.grown hg hne; have HB1 : Hid (Below w.heap.size w u1w) := HB0.out.grown hg HB0.out.size (fun q hq => by cases hq; exact hgwl); have HU1 : Hid (AllU m1) := (by rw [hm]; exact quarter_U HU0.out _ _ _ _); have Hl1 : Hid (m1.length = 16) := (by show _ = _; rw [hm, quarter_length]; exact Hl0.out); clear hr hg hm HR0 HQ0 HB0 HU0 Hl0) | (go_at_call 93; refine (quarterM_int gw cw 16 m1 1 5 9 13 1 5 9 13 rfl rfl rfl rfl u1w HU1.out Hl1.out (by omega) (by omega) (by omega) (by omega) (by omega) HR1.out).mono ?_; rintro e u2w ⟨rfl, hr, hg⟩; obtain ⟨m2, hm⟩ : ∃ m, m = quarter m1 1 5 9 13 := ⟨_, rfl⟩; rw [← hm] at hr; have Hm2 : Hid (m2 = quarter m1 1 5 9 13) := hm; have HR2 : Hid (RowU u2w gw m2) := hr; have HQ2 : Hid (RowU u2w gs F) := HQ1.out.grown hg hne; have HB2 : Hid (Below w.heap.size w u2w) := HB1.out.grown hg HB1.out.size (fun q hq => by cases hq; exact hgwl); have HU2 : Hid (AllU m2) := (by rw [hm]; exact quarter_U HU1.out _ _ _ _); have Hl2 : Hid (m2.length = 16) := (by show _ = _; rw [hm, quarter_length]; exact Hl1.out); clear hr hg hm HR1 HQ1 HB1 HU1 Hl1) | (go_at_call 93; refine (quarterM_int gw cw 16 m2 2 6 10 14 2 6 10 14 rfl rfl rfl rfl u2w HU2.out Hl2.out (by omega) (by omega) (by omega) (by omega) (by omega) HR2.out).mono ?_; rintro e u3w ⟨rfl, hr, hg⟩; obtain ⟨m3, hm⟩ : ∃ m, m = quarter m2 2 6 10 14 := ⟨_, rfl⟩; rw [← hm] at hr; have Hm3 : Hid (m3 = quarter m2 2 6 10 14) := hm; have HR3 : Hid (RowU u3w gw m3) := hr; have HQ3 : Hid (RowU u3w gs F) := HQ2.out.grown hg hne; have HB3 : Hid (Below w.heap.size w u3w) := HB2.out.grown hg HB2.out.size (fun q hq => by cases hq; exact hgwl); have HU3 : Hid (AllU m3) := (by rw [hm]; exact quarter_U HU2.out _ _ _ _); have Hl3 : Hid (m3.length = 16) := (by show _ = _; rw [hm, quarter_length]; exact Hl2.out); clear hr hg hm HR2 HQ2 HB2 HU2 Hl2) | (go_at_call 93; refine (quarterM_int gw cw 16 m3 3 7 11 15 3 7 11 15 rfl rfl rfl rfl u3w HU3.out Hl3.out (by omega) (by omega) (by omega) (by omega) (by omega) HR3.out).mono ?_; rintro e u4w ⟨rfl, hr, hg⟩; obtain ⟨m4, hm⟩ : ∃ m, m = quarter m3 3 7 11 15 := ⟨_, rfl⟩; rw [← hm] at hr; have Hm4 : Hid (m4 = quarter m3 3 7 11 15) := hm; have HR4 : Hid (RowU u4w gw m4) := hr; have HQ4 : Hid (RowU u4w gs F) := HQ3.out.grown hg hne; have HB4 : Hid (Below w.heap.size w u4w) := HB3.out.grown hg HB3.out.size (fun q hq => by cases hq; exact hgwl); have HU4 : Hid (AllU m4) := (by rw [hm]; exact quarter_U HU3.out _ _ _ _); have Hl4 : Hid (m4.length = 16) := (by show _ = _; rw [hm, quarter_length]; exact Hl3.out); clear hr hg hm HR3 HQ3 HB3 HU3 Hl3) | (go_at_call 93; refine (quarterM_int gw cw 16 m4 0 5 10 15 0 5 10 15 rfl rfl rfl rfl u4w HU4.out Hl4.out (by omega) (by omega) (by omega) (by omega) (by omega) HR4.out).mono ?_; rintro e u5w ⟨rfl, hr, hg⟩; obtain ⟨m5, hm⟩ : ∃ m, m = quarter m4 0 5 10 15 := ⟨_, rfl⟩; rw [← hm] at hr; have Hm5 : Hid (m5 = quarter m4 0 5 10 15) := hm; have HR5 : Hid (RowU u5w gw m5) := hr; have HQ5 : Hid (RowU u5w gs F) := HQ4.out.grown hg hne; have HB5 : Hid (Below w.heap.size w u5w) := HB4.out.grown hg HB4.out.size (fun q hq => by cases hq; exact hgwl); have HU5 : Hid (AllU m5) := (by rw [hm]; exact quarter_U HU4.out _ _ _ _); have Hl5 : Hid (m5.length = 16) := (by show _ = _; rw [hm, quarter_length]; exact Hl4.out); clear hr hg hm HR4 HQ4 HB4 HU4 Hl4) | (go_at_call 93; refine (quarterM_int gw cw 16 m5 1 6 11 12 1 6 11 12 rfl rfl rfl rfl u5w HU5.out Hl5.out (by omega) (by omega) (by omega) (by omega) (by omega) HR5.out).mono ?_; rintro e u6w ⟨rfl, hr, hg⟩; obtain ⟨m6, hm⟩ : ∃ m, m = quarter m5 1 6 11 12 := ⟨_, rfl⟩; rw [← hm] at hr; have Hm6 : Hid (m6 = quarter m5 1 6 11 12) := hm; have HR6 : Hid (RowU u6w gw m6) := hr; have HQ6 : Hid (RowU u6w gs F) := HQ5.out.grown hg hne; have HB6 : Hid (Below w.heap.size w u6w) := HB5.out.grown hg HB5.out.size (fun q hq => by cases hq; exact hgwl); have HU6 : Hid (AllU m6) := (by rw [hm]; exact quarter_U HU5.out _ _ _ _); have Hl6 : Hid (m6.length = 16) := (by show _ = _; rw [hm, quarter_length]; exact Hl5.out); clear hr hg hm HR5 HQ5 HB5 HU5 Hl5) | (go_at_call 93; refine (quarterM_int gw cw 16 m6 2 7 8 13 2 7 8 13 rfl rfl rfl rfl u6w HU6.out Hl6.out (by omega) (by omega) (by omega) (by omega) (by omega) HR6.out).mono ?_; rintro e u7w ⟨rfl, hr, hg⟩; obtain ⟨m7, hm⟩ : ∃ m, m = quarter m6 2 7 8 13 := ⟨_, rfl⟩; rw [← hm] at hr; have Hm7 : Hid (m7 = quarter m6 2 7 8 13) := hm; have HR7 : Hid (RowU u7w gw m7) := hr; have HQ7 : Hid (RowU u7w gs F) := HQ6.out.grown hg hne; have HB7 : Hid (Below w.heap.size w u7w) := HB6.out.grown hg HB6.out.size (fun q hq => by cases hq; exact hgwl); have HU7 : Hid (AllU m7) := (by rw [hm]; exact quarter_U HU6.out _ _ _ _); have Hl7 : Hid (m7.length = 16) := (by show _ = _; rw [hm, quarter_length]; exact Hl6.out); clear hr hg hm HR6 HQ6 HB6 HU6 Hl6) | (go_at_call 93; refine (quarterM_int gw cw 16 m7 3 4 9 14 3 4 9 14 rfl rfl rfl rfl u7w HU7.out Hl7.out (by omega) (by omega) (by omega) (by omega) (by omega) HR7.out).mono ?_; rintro e u8w ⟨rfl, hr, hg⟩; obtain ⟨m8, hm⟩ : ∃ m, m = quarter m7 3 4 9 14 := ⟨_, rfl⟩; rw [← hm] at hr; have Hm8 : Hid (m8 = quarter m7 3 4 9 14) := hm; have HR8 : Hid (RowU u8w gw m8) := hr; have HQ8 : Hid (RowU u8w gs F) := HQ7.out.grown hg hne; have HB8 : Hid (Below w.heap.size w u8w) := HB7.out.grown hg HB7.out.size (fun q hq => by cases hq; exact hgwl); have HU8 : Hid (AllU m8) := (by rw [hm]; exact quarter_U HU7.out _ _ _ _); have Hl8 : Hid (m8.length = 16) := (by show _ = _; rw [hm, quarter_length]; exact Hl7.out); clear hr hg hm HR7 HQ7 HB7 HU7 Hl7))
              go_roundw
              case rel =>
                refine ⟨k + 1, by omega, by go_num, ?_, HQ8, HB8⟩
                show RowU _ gw (twice (turns k F))
                rw [← HM0.out]
                unfold twice
                rw [← Hm1.out, ← Hm2.out, ← Hm3.out, ← Hm4.out, ← Hm5.out, ← Hm6.out, ← Hm7.out, ← Hm8.out]
                exact HR8
              case measure => simp [intOf]; omega
            · obtain rfl : k = 10 := by omega
              obtain ⟨M, hM⟩ : ∃ M, M = turns 10 F := ⟨_, rfl⟩
              have HM : Hid (M = turns 10 F) := hM
              have HMU : Hid (AllU M) := by rw [hM]; exact turns_U 10 HFU.out
              have HMn : Hid (M.length = 16) := by show _ = _; rw [hM, turns_length]; exact HFn.out
              rw [← hM] at HR0
              clear hM
              obtain ⟨j0, ji, jz0, jz1, jz2⟩ := info_parts info5
              have HBN : Hid (∀ k, blockN key.data.toList ctr nonce.data.toList (k + 1) = blockN key.data.toList ctr nonce.data.toList k ++ lowBytes (sh.wr (M.getD k 0 + F.getD k 0))) := fun k => by rw [HM.out, HF.out]; exact blockN_succ _ _ _ k
              have HBL : Hid (∀ k, (blockN key.data.toList ctr nonce.data.toList k).length = 4 * k) := fun k => blockN_length _ _ _ k
              go_wp2_with fail
              have ho5 : (wr.alloc (.cells #[] 5)).ownsRow wr.heap.size 5 1 (.slice (some ⟨wr.heap.size, 0, none⟩) 0 0) (4 * 0) ((blockN key.data.toList ctr nonce.data.toList 0).map (Value.int .u8)) := ⟨rfl, Or.inr ⟨wr.heap.size, 0, #[], rfl, Nat.le_refl _, heap_alloc_new _ _, Nat.le_refl _, Nat.zero_le _, rfl, rfl⟩⟩
              have hb5 : Below wr.heap.size wr (wr.alloc (.cells #[] 5)) := (Below.refl _ _).alloc (Nat.le_refl _) _
              refine wp_world (fun u => u.ownsRow wr.heap.size 5 1 (.slice (some ⟨wr.heap.size, 0, none⟩) 0 0) (4 * 0) ((blockN key.data.toList ctr nonce.data.toList 0).map (Value.int .u8)) ∧ Below wr.heap.size wr u) ⟨ho5, hb5⟩ ?_
              clear ho5 hb5
              rintro w5 ⟨ho5, hb5⟩
              have hsl : gs < wr.heap.size := by obtain ⟨cur, hh, _⟩ := HQ0.out; exact block_lt_of_heap hh
              have hwl : gw < wr.heap.size := by obtain ⟨cur, hh, _⟩ := HR0.out; exact block_lt_of_heap hh
              obtain ⟨w9, hw9⟩ : ∃ w9 : World, w9 = wr := ⟨_, rfl⟩
              subst hw9
              go_loopw [13, 14, 15] (fun v i _ u => ∃ k : Nat, k ≤ 16 ∧ i = .int .i64 k ∧ u.ownsRow w9.heap.size 5 1 v (4 * k) ((blockN key.data.toList ctr nonce.data.toList k).map (Value.int .u8)) ∧ Below w9.heap.size w9 u) (fun _ i _ _ => 16 - (intOf i).toNat)
              case atStart => exact ⟨0, by omega, rfl, ho5, hb5⟩
              case round =>
                clear ho5 hb5
                obtain ⟨k, hk, rfl, hown, hB⟩ := hrel
                have hbs : w9.heap.size ≤ wr.heap.size := hB.size
                have HO := own_base hown
                by_cases hlt : k < 16
                · have hcw : wr.cell? ⟨gw, k, none⟩ = some (.int .u32 (M.getD k 0)) := by rw [hB.cell (p := ⟨gw, k, none⟩) hwl]; exact HR0.out.cell k (by rw [HMn.out]; exact hlt)
                  have hcs : wr.cell? ⟨gs, k, none⟩ = some (.int .u32 (F.getD k 0)) := by rw [hB.cell (p := ⟨gs, k, none⟩) hsl]; exact HQ0.out.cell k (by rw [HFn.out]; exact hlt)
                  obtain ⟨x0, x1⟩ := getD_U HMU.out k
                  obtain ⟨y0, y1⟩ := getD_U HFU.out k
                  have HT' : Hid (blockN key.data.toList ctr nonce.data.toList (k + 1) = blockN key.data.toList ctr nonce.data.toList k ++ lowBytes (sh.wr (M.getD k 0 + F.getD k 0))) := HBN.out k
                  have n1 : (k : Int) < 16 := by omega
                  have n0 : (0 : Int) ≤ (k : Int) := by omega
                  generalize M.getD k 0 = x at *
                  generalize F.getD k 0 = y at *
                  have HOW : Hid (∀ n, (wr.drewN n).ownsRow w9.heap.size 5 1 _ (4 * k) ((blockN key.data.toList ctr nonce.data.toList k).map (Value.int .u8))) := fun n => hown
                  have HBD : Hid (∀ n, Below w9.heap.size w9 (wr.drewN n)) := fun n => below_drewN hB n
                  clear hown hB
                  go_wp2_with fail
                  go_quiet (fail)
                  go_wp2_with (at_builtin; go_must (refine wpList_append_own _ rfl _ _ 91 rfl w9.heap.size 5 j0 (.int .u8 0) 1 1 Tryd.underlying91 ji jz0 jz1 jz2 rfl (by decide) _ _ _ rfl ((HOW.out _).alloc _) ⟨wr.heap.size, 0, none⟩ 4 4 [_, _, _, _] rfl rfl (cell_four_new _ _ _ _ _ _) (fun x hx => by simp at hx; rcases hx with rfl | rfl | rfl | rfl <;> rfl) (by unfold maxLen; omega) (by omega) (by simp; omega) ?_))
                  intro v' w6 hown' hgrow _
                  have HO2 : Hid _ := hown'
                  have HB2 : Hid (Below w9.heap.size w9 w6) := ((HBD.out _).alloc (by simp; omega) _).grown hgrow (by simp; omega) HO.out
                  clear hown' hgrow
                  go_wp2
                  go_roundw
                  case rel =>
                    (repeat apply Exists.intro)
                    refine ⟨⟨k + 1, by omega, by go_num, ?_, HB2.out⟩, rfl⟩
                    rw [HT'.out, List.map_append, show 4 * (k + 1) = 4 * k + 4 by omega]
                    have h := HO2.out
                    unfold sh.wr
                    rw [IntKind.wrap_u32]
                    show World.ownsRow _ _ _ _ _ _ ((blockN key.data.toList ctr nonce.data.toList k).map (Value.int .u8) ++ [.int .u8 ((x + y) % 4294967296 % 256), .int .u8 ((x + y) % 4294967296 / 256 % 256), .int .u8 ((x + y) % 4294967296 / 65536 % 256), .int .u8 ((x + y) % 4294967296 / 16777216 % 256)])
                    first | exact h | (rw [show (x + y) % 4294967296 / 16777216 % 256 = (x + y) % 4294967296 / 16777216 by omega]; exact h) | (rw [show (x + y) % 4294967296 / 16777216 % 256 = (x + y) % 4294967296 / 16777216 by omega, show (x + y) % 4294967296 % 256 = (x + y) % 256 by omega]; exact h)
                  case measure => simp [intOf]; omega
                · obtain rfl : k = 16 := by omega
                  have HOW : Hid _ := hown
                  have HBE : Hid (Below w.heap.size w wr) := HB0.out.trans (hB.mono HB0.out.size)
                  clear hB hown
                  go_wp2
                  go_ret
                  refine ⟨_, rfl, own_mono HOW.out HB0.out.size, HBE.out⟩
end Go.Proofs.YtneahcoakbbdaaaDoor.cc
