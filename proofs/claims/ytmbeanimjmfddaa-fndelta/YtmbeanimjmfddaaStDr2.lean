/-
  What is drawn for the laws on states: an update. No old block but the source's turns. No condition.
-/
import Derived.Test.YtmbeanimjmfddaaStDr1
import Derived.Test.YtmbeanimjmfddaaStE
import Derived.Deep.Cut
namespace Go.Proofs.Ytmbeanimjmfddaa.sd
open Go.ChangeShapes Go.WideShapes Go.ChangeAt Go.RowKit
open Go.Proofs.Ytmbeanimjmfddaa.dr
open Go.Proofs.Ytmbeanimjmfddaa.dn
open Go.Proofs.Ytmbeanimjmfddaa.wi (heap_lt calls_w wp_w)
set_option linter.unusedVariables false

theorem deltaOf_w (m : Int) (x : ByteArray) (n : Int) (b : ByteArray) (w : World) (ha : x.size ≤ 401) (hb : b.size ≤ 3) :
    Calls Try.prog 11 #[.agg #[.int .i64 m, .string x], .agg #[.int .i64 n, .string b]] w fun e w' => ∃ (f to k : Int) (tl : ByteArray), e = .returned (.agg #[.int .i64 f, .int .i64 to, .int .i64 k, .string tl]) ∧ tl.size ≤ 401 ∧ Below w.heap.size w w' := by
  refine (st.deltaOfM_any m x n b w (Nat.le_trans ha (by decide)) (Nat.le_trans hb (by decide))).mono ?_
  rintro e w' ⟨v, rfl, hv, hbw⟩
  by_cases h : st.StR m x ∧ st.StR n b
  · refine ⟨_, _, _, _, congrArg Ending.returned (hv.1 h.1 h.2), ?_, hbw⟩
    rw [ByteArray.size_extract]; omega
  · exact ⟨_, _, _, _, congrArg Ending.returned (hv.2 h), by simp [ByteArray.size], hbw⟩
/-- the arguments' and the answer's blocks -/
structure InU (w0 u0 : World) (a : Option Addr) (len cap : Nat) (n : Int) (t : ByteArray) (u : World) : Prop where
  src : At w0 a len cap u
  gr : u0.grownBy u (some w0.heap.size)
  loc : rw.At u u0.heap.size #[.int .i64 n, .string t] 24
  res : rw.At u (u0.heap.size + 1) #[.int .i64 0, .int .i64 0, .int .i64 0, .string ⟨#[]⟩] 28
  hp : w0.heap.size < u0.heap.size
variable {w0 u0 u u' : World} {a : Option Addr} {len cap : Nat} {n : Int} {t : ByteArray}
theorem InU.up (h : InU w0 u0 a len cap n t u) (hb : Below u.heap.size u u') : InU w0 u0 a len cap n t u' :=
  ⟨At.up h.src hb, gtrans h.gr (below_grown hb), h.loc.up hb, h.res.up hb, h.hp⟩
theorem InU.next (h : InU w0 u0 a len cap n t u) (hA : At w0 a len cap u') (hg : u.grownBy u' (some w0.heap.size)) : InU w0 u0 a len cap n t u' :=
  ⟨hA, gtrans h.gr hg, at_gr h.loc hg (by have := h.hp; omega), at_gr h.res hg (by have := h.hp; omega), h.hp⟩
theorem InU.set (h : InU w0 u0 a len cap n t u) {q : Nat} (hq : u0.heap.size + 1 < q) (k : Nat) (x : Value) : InU w0 u0 a len cap n t (u.setCell ⟨q, k, none⟩ x) :=
  ⟨At.set h.src (by have := h.hp; omega), gr_set h.gr (by omega) k x, h.loc.far (by omega) k x, h.res.far (by omega) k x, h.hp⟩
theorem InU.cells (h : InU w0 u0 a len cap n t u) : u.cell? ⟨u0.heap.size, 0, none⟩ = some (.int .i64 n) ∧ u.cell? ⟨u0.heap.size, 1, none⟩ = some (.string t) := ⟨h.loc.cell 0, h.loc.cell 1⟩
theorem InU.new (h : At w0 a len cap u0) : InU w0 u0 a len cap n t ((u0.alloc (.cells #[.int .i64 n, .string t] 24)).alloc (.cells #[.int .i64 0, .int .i64 0, .int .i64 0, .string ⟨#[]⟩] 28)) := by
  refine ⟨At.alloc (At.alloc h _) _, gtrans (World.grownBy_alloc _ _ _) (World.grownBy_alloc _ _ _), (rw.At.new _ _ _).up (rw.up_alloc _ _), ?_, h.1.lt⟩
  have := rw.At.new (u0.alloc (.cells #[.int .i64 n, .string t] 24)) #[.int .i64 0, .int .i64 0, .int .i64 0, .string ⟨#[]⟩] 28
  rwa [World.size_alloc] at this
theorem infoUp : (Try.prog.info? 28).map (·.size) = some 4 := by kernel_rfl
abbrev fillU (u : World) (q : Nat) (x0 x1 x2 x3 : Value) : World := (((u.setCell ⟨q, 0, none⟩ x0).setCell ⟨q, 1, none⟩ x1).setCell ⟨q, 2, none⟩ x2).setCell ⟨q, 3, none⟩ x3
theorem InU.fin (h : InU w0 u0 a len cap n t u) (x0 x1 x2 x3 : Value) : rw.At (fillU u (u0.heap.size + 1) x0 x1 x2 x3) (u0.heap.size + 1) #[x0, x1, x2, x3] 28 ∧ At w0 a len cap (fillU u (u0.heap.size + 1) x0 x1 x2 x3) ∧ u0.grownBy (fillU u (u0.heap.size + 1) x0 x1 x2 x3) (some w0.heap.size) := by
  have hp := h.hp
  exact ⟨(((h.res.set 0 x0).set 1 x1).set 2 x2).set 3 x3, At.set (At.set (At.set (At.set h.src (by omega)) (by omega)) (by omega)) (by omega), gr_set (gr_set (gr_set (gr_set h.gr (by omega) 0 _) (by omega) 1 _) (by omega) 2 _) (by omega) 3 _⟩
def tot (k : Nat) : Int := if k = 0 then -1 else if k = 1 then 0 else 1000001
theorem tot_at {u : World} {g k : Nat} {T : TypeId} (h : rw.At u g #[.int .i64 (-1), .int .i64 0, .int .i64 1000001] T) (hk : k < 3) : u.cell? ⟨g, k, none⟩ = some (.int .i64 (tot k)) := by
  rw [h.cell k]
  match k, hk with
  | 0, _ => simp [tot]
  | 1, _ => simp [tot]
  | 2, _ => simp [tot]
set_option maxRecDepth 20000 in
set_option maxHeartbeats 8000000 in
theorem update_at (h : At w0 a len cap u0) (n : Int) (t : ByteArray) (hn : -1 ≤ n ∧ n ≤ 1000001) (ht : t.size ≤ 401) :
    Calls Try.prog 40 #[.pointer (some ⟨w0.heap.size, 0, none⟩), .agg #[.int .i64 n, .string t]] u0 fun e w' => ∃ (f to k : Int) (tl : ByteArray), e = .returned (.agg #[.int .i64 f, .int .i64 to, .int .i64 k, .string tl]) ∧ tl.size ≤ 401 ∧ At w0 a len cap w' ∧ u0.grownBy w' (some w0.heap.size) := by
  have hp : w0.heap.size < u0.heap.size := h.1.lt
  have i0 : InU w0 u0 a len cap n t _ := InU.new h
  have hw1 : IntKind.i64.wrap (n + 1) = n + 1 := by rw [IntKind.wrap_i64]; omega
  clear h
  go_enter Try.func40, Try.ntmps40
  go_wp2_with fail
  have HS : Hid (∀ u, InU w0 u0 a len cap n t u → (u.cell? ⟨u0.heap.size, 0, none⟩ = some (.int .i64 n) ∧ u.cell? ⟨u0.heap.size, 1, none⟩ = some (.string t))) := fun u h => h.cells
  go_cut [5] from 6 (fun o u => ∃ (q : Nat) (f to kk : Int) (tl : ByteArray), o = .pointer (some ⟨q, 0, none⟩) ∧ u0.heap.size + 1 < q ∧ tl.size ≤ 401 ∧ InU w0 u0 a len cap n t u ∧ rw.At u q #[.int .i64 f, .int .i64 to, .int .i64 kk, .string tl] 28)
  case first =>
    refine wp_region_noPanic ?_
    refine wp_region_held_drew (S := fun u => u.cell? ⟨u0.heap.size, 0, none⟩ = some (.int .i64 n) ∧ u.cell? ⟨u0.heap.size, 1, none⟩ = some (.string t)) (by kernel_rfl) (HS.out _ (i0.up (rw.up_drew _))) (fun _ => ?_)
    refine rw.region_w (fun u => InU w0 u0 a len cap n t u) (i0.up (rw.up_drew _)) ?_
    clear i0
    intro u i
    have hHeld : (u.cell? ⟨u0.heap.size, 0, none⟩ = some (.int .i64 n) ∧ u.cell? ⟨u0.heap.size, 1, none⟩ = some (.string t)) := HS.out u i
    refine wpAnyH_take (i := 0) (oi := { dst := some 6, op := Op.load 24 (Operand.tmp 3), type := 24, pos := "l07_sync.go:152", after := #[], guard := none }) (v := ?_) rfl (by kernel_rfl) (by kernel_rfl) (by kernel_rfl) (fun _ _ _ h => h) (Or.inl ⟨by rfl, ?_⟩) hHeld ?_
    rotate_left
    · rintro w ⟨z0, z1⟩; go_simp; (try with_reducible rfl)
    try simp only [Act.put, List.setIfInBounds_toArray, List.set_cons_zero, List.set_cons_succ]
    refine wpAnyH_take (i := 1) (oi := { dst := some 7, op := Op.fieldAddr 24 (Operand.tmp 3) 0, type := 0, pos := "l07_sync.go:152", after := #[], guard := none }) (v := ?_) rfl (by kernel_rfl) (by kernel_rfl) (by kernel_rfl) (fun _ _ _ h => h) (Or.inl ⟨by rfl, ?_⟩) hHeld ?_
    rotate_left
    · rintro w ⟨z0, z1⟩; go_simp; (try with_reducible rfl)
    try simp only [Act.put, List.setIfInBounds_toArray, List.set_cons_zero, List.set_cons_succ]
    refine wpAnyH_take (i := 2) (oi := { dst := some 8, op := Op.load 2 (Operand.tmp 7), type := 2, pos := "l07_sync.go:152", after := #[{ on := 1, ground := Ground.data }], guard := none }) (v := ?_) rfl (by kernel_rfl) (by kernel_rfl) (by kernel_rfl) (fun _ _ _ h => h) (Or.inl ⟨by rfl, ?_⟩) hHeld ?_
    rotate_left
    · rintro w ⟨z0, z1⟩; go_simp; (try with_reducible rfl)
    try simp only [Act.put, List.setIfInBounds_toArray, List.set_cons_zero, List.set_cons_succ]
    refine wpAnyH_take (i := 3) (oi := { dst := some 9, op := Op.binOp BinOp.add 2 (Operand.tmp 8) (Operand.const (Value.int IntKind.i64 1)) 2, type := 2, pos := "l07_sync.go:152", after := #[{ on := 2, ground := Ground.data }], guard := none }) (v := ?_) rfl (by kernel_rfl) (by kernel_rfl) (by kernel_rfl) (fun _ _ _ h => h) (Or.inl ⟨by rfl, ?_⟩) hHeld ?_
    rotate_left
    · rintro w ⟨z0, z1⟩; go_simp; (try with_reducible rfl)
    try simp only [Act.put, List.setIfInBounds_toArray, List.set_cons_zero, List.set_cons_succ]
    refine wpAnyH_take (i := 4) (oi := { dst := some 10, op := Op.move (Operand.tmp 0), type := 66, pos := "l07_sync.go:152", after := #[], guard := none }) (v := ?_) rfl (by kernel_rfl) (by kernel_rfl) (by kernel_rfl) (fun _ _ _ h => h) (Or.inl ⟨by rfl, ?_⟩) hHeld ?_
    rotate_left
    · rintro w ⟨z0, z1⟩; go_simp; (try with_reducible rfl)
    try simp only [Act.put, List.setIfInBounds_toArray, List.set_cons_zero, List.set_cons_succ]
    refine wpAnyH_take (i := 7) (oi := { dst := some 13, op := Op.move (Operand.tmp 0), type := 66, pos := "l07_sync.go:152", after := #[], guard := none }) (v := ?_) rfl (by kernel_rfl) (by kernel_rfl) (by kernel_rfl) (fun _ _ _ h => h) (Or.inl ⟨by rfl, ?_⟩) hHeld ?_
    rotate_left
    · rintro w ⟨z0, z1⟩; go_simp; (try with_reducible rfl)
    try simp only [Act.put, List.setIfInBounds_toArray, List.set_cons_zero, List.set_cons_succ]
    refine wpAnyH_ready (rs := [5, 11]) (by kernel_rfl) (by simp) ?_
    refine AllReadyH.cons rfl (fun K hK => ?_) (AllReadyH.cons rfl (fun K hK => ?_) AllReadyH.nil)
    · skip
      go_simp
      go_at_call 52
      refine (dn.n_g i.src 3 (by omega) (by omega)).mono ?_
      rintro r7 w7 ⟨k3, rfl, hk3, hA7, hg7⟩
      go_wp2_with fail
      refine hK.out _ _ (HS.out _ (i.next hA7 hg7)) (fun _ => ?_)
      clear hK K hHeld
      try simp only [Act.put, List.setIfInBounds_toArray, List.set_cons_zero, List.set_cons_succ]
      refine rw.region_w (fun u => InU w0 u0 a len cap n t u) (i.next hA7 hg7) ?_
      clear i hA7 hg7
      intro u i
      have hHeld : (u.cell? ⟨u0.heap.size, 0, none⟩ = some (.int .i64 n) ∧ u.cell? ⟨u0.heap.size, 1, none⟩ = some (.string t)) := HS.out u i
      have hw2 : IntKind.i64.wrap (n + 1 + (k3 : Int)) = n + 1 + (k3 : Int) := by rw [IntKind.wrap_i64]; omega
      refine wpAnyH_take (i := 6) (oi := { dst := some 12, op := Op.binOp BinOp.add 2 (Operand.tmp 9) (Operand.tmp 11) 2, type := 2, pos := "l07_sync.go:152", after := #[{ on := 3, ground := Ground.data }, { on := 5, ground := Ground.data }], guard := none }) (v := ?_) rfl (by kernel_rfl) (by kernel_rfl) (by kernel_rfl) (fun _ _ _ h => h) (Or.inl ⟨by rfl, ?_⟩) hHeld ?_
      rotate_left
      · rintro w ⟨z0, z1⟩; go_simp; (try with_reducible rfl)
      try simp only [Act.put, List.setIfInBounds_toArray, List.set_cons_zero, List.set_cons_succ]
      refine wpAnyH_ready (rs := [8, 11]) (by kernel_rfl) (by simp) ?_
      refine AllReadyH.cons rfl (fun K hK => ?_) (AllReadyH.cons rfl (fun K hK => ?_) AllReadyH.nil)
      · skip
        go_simp
        go_at_call 56
        refine (text_at i.src).mono ?_
        rintro r7 w7 ⟨t2, rfl, ht2, hA7, hg7⟩
        go_wp2_with fail
        refine hK.out _ _ (HS.out _ (i.next hA7 hg7)) (fun _ => ?_)
        clear hK K hHeld
        try simp only [Act.put, List.setIfInBounds_toArray, List.set_cons_zero, List.set_cons_succ]
        refine rw.region_w (fun u => InU w0 u0 a len cap n t u) (i.next hA7 hg7) ?_
        clear i hA7 hg7
        intro u i
        have hHeld : (u.cell? ⟨u0.heap.size, 0, none⟩ = some (.int .i64 n) ∧ u.cell? ⟨u0.heap.size, 1, none⟩ = some (.string t)) := HS.out u i
        refine wpAnyH_take (i := 9) (oi := { dst := some 15, op := Op.build 24 #[(0, Operand.tmp 12), (1, Operand.tmp 14)], type := 24, pos := "l07_sync.go:152", after := #[{ on := 6, ground := Ground.data }, { on := 8, ground := Ground.data }], guard := none }) (v := ?_) rfl (by kernel_rfl) (by kernel_rfl) (by kernel_rfl) (fun _ _ _ h => h) (Or.inl ⟨by rfl, ?_⟩) hHeld ?_
        rotate_left
        · rintro w ⟨z0, z1⟩; go_simp; (try with_reducible rfl)
        try simp only [Act.put, List.setIfInBounds_toArray, List.set_cons_zero, List.set_cons_succ]
        refine wpAnyH_ready (rs := [10, 11]) (by kernel_rfl) (by simp) ?_
        refine AllReadyH.cons rfl (fun K hK => ?_) (AllReadyH.cons rfl (fun K hK => ?_) AllReadyH.nil)
        · skip
          go_simp
          go_at_call 11
          refine (deltaOf_w n t _ t2 u ht ht2).mono ?_
          rintro r7 w7 ⟨f, to, kk, tl, rfl, htl, hb⟩
          go_wp2_with fail
          refine hK.out _ _ (HS.out _ (i.up hb)) (fun _ => ?_)
          clear hK K hHeld
          try simp only [Act.put, List.setIfInBounds_toArray, List.set_cons_zero, List.set_cons_succ]
          refine rw.region_w (fun u => InU w0 u0 a len cap n t u) (i.up hb) ?_
          clear i hb
          intro u i
          have hHeld : (u.cell? ⟨u0.heap.size, 0, none⟩ = some (.int .i64 n) ∧ u.cell? ⟨u0.heap.size, 1, none⟩ = some (.string t)) := HS.out u i
          refine wpAnyH_ready (rs := [11]) (by kernel_rfl) (by simp) ?_
          refine AllReadyH.cons rfl (fun K hK => ?_) AllReadyH.nil
          go_simp
          refine hK.out _ _ (HS.out _ (i.up (rw.up_alloc _ _))) (fun _ => ?_)
          clear hK K hHeld
          try simp only [Act.put, List.setIfInBounds_toArray, List.set_cons_zero, List.set_cons_succ]
          obtain ⟨q, hq⟩ : ∃ q, q = u.heap.size := ⟨_, rfl⟩
          rw [← hq]
          have nq : u0.heap.size + 1 < q := by rw [hq]; exact i.res.lt
          refine rw.region_w (fun u => (InU w0 u0 a len cap n t u) ∧ (rw.At u q #[.int .i64 0, .int .i64 0, .int .i64 0, .string ⟨#[]⟩] 28)) ⟨i.up (rw.up_alloc _ _), by rw [hq]; exact rw.At.new _ _ _⟩ ?_
          clear i
          rintro u ⟨i, q0⟩
          have hHeld : (u.cell? ⟨u0.heap.size, 0, none⟩ = some (.int .i64 n) ∧ u.cell? ⟨u0.heap.size, 1, none⟩ = some (.string t)) := HS.out u i
          clear hq
          refine wpAnyH_ready (rs := [12]) (by kernel_rfl) (by simp) ?_
          refine AllReadyH.cons rfl (fun K hK => ?_) AllReadyH.nil
          have c0 : u.cell? ⟨q, 0, none⟩ = some (.int .i64 0) := q0.cell 0
          have c1 : u.cell? ⟨q, 1, none⟩ = some (.int .i64 0) := q0.cell 1
          have c2 : u.cell? ⟨q, 2, none⟩ = some (.int .i64 0) := q0.cell 2
          have c3 : u.cell? ⟨q, 3, none⟩ = some (.string ⟨#[]⟩) := q0.cell 3
          have f0 := fun k => q0.frozen k
          go_simp
          refine hK.out _ _ (HS.out _ (((((i.set nq 0 (.int .i64 f)).set nq 1 (.int .i64 to)).set nq 2 (.int .i64 kk)).set nq 3 (.string tl)))) (fun _ => ?_)
          clear hK K hHeld
          try simp only [Act.put, List.setIfInBounds_toArray, List.set_cons_zero, List.set_cons_succ]
          refine rw.region_w (fun u => (InU w0 u0 a len cap n t u) ∧ (rw.At u q #[.int .i64 f, .int .i64 to, .int .i64 kk, .string tl] 28)) ⟨((((i.set nq 0 (.int .i64 f)).set nq 1 (.int .i64 to)).set nq 2 (.int .i64 kk)).set nq 3 (.string tl)), (rw.At.set (rw.At.set (rw.At.set (rw.At.set q0 0 (.int .i64 f)) 1 (.int .i64 to)) 2 (.int .i64 kk)) 3 (.string tl))⟩ ?_
          clear i q0 c0 c1 c2 c3 f0
          rintro u ⟨i, q0⟩
          have hHeld : (u.cell? ⟨u0.heap.size, 0, none⟩ = some (.int .i64 n) ∧ u.cell? ⟨u0.heap.size, 1, none⟩ = some (.string t)) := HS.out u i
          refine wpAnyH_done (by kernel_rfl) ?_ _
          refine NoPanic.normal ?_
          go_wp2_with fail
          go_meet
          case rel => exact ⟨q, f, to, kk, tl, rfl, nq, htl, i, q0⟩
        · skip
          go_simp
          refine hK.out _ _ (HS.out _ (i.up (rw.up_alloc _ _))) (fun _ => ?_)
          clear hK K hHeld
          try simp only [Act.put, List.setIfInBounds_toArray, List.set_cons_zero, List.set_cons_succ]
          obtain ⟨q, hq⟩ : ∃ q, q = u.heap.size := ⟨_, rfl⟩
          rw [← hq]
          have nq : u0.heap.size + 1 < q := by rw [hq]; exact i.res.lt
          refine rw.region_w (fun u => (InU w0 u0 a len cap n t u) ∧ (rw.At u q #[.int .i64 0, .int .i64 0, .int .i64 0, .string ⟨#[]⟩] 28)) ⟨i.up (rw.up_alloc _ _), by rw [hq]; exact rw.At.new _ _ _⟩ ?_
          clear i
          rintro u ⟨i, q0⟩
          have hHeld : (u.cell? ⟨u0.heap.size, 0, none⟩ = some (.int .i64 n) ∧ u.cell? ⟨u0.heap.size, 1, none⟩ = some (.string t)) := HS.out u i
          clear hq
          refine wpAnyH_ready (rs := [10]) (by kernel_rfl) (by simp) ?_
          refine AllReadyH.cons rfl (fun K hK => ?_) AllReadyH.nil
          go_simp
          go_at_call 11
          refine (deltaOf_w n t _ t2 u ht ht2).mono ?_
          rintro r7 w7 ⟨f, to, kk, tl, rfl, htl, hb⟩
          go_wp2_with fail
          refine hK.out _ _ (HS.out _ (i.up hb)) (fun _ => ?_)
          clear hK K hHeld
          try simp only [Act.put, List.setIfInBounds_toArray, List.set_cons_zero, List.set_cons_succ]
          refine rw.region_w (fun u => (InU w0 u0 a len cap n t u) ∧ (rw.At u q #[.int .i64 0, .int .i64 0, .int .i64 0, .string ⟨#[]⟩] 28)) ⟨i.up hb, q0.up hb⟩ ?_
          clear i q0 hb
          rintro u ⟨i, q0⟩
          have hHeld : (u.cell? ⟨u0.heap.size, 0, none⟩ = some (.int .i64 n) ∧ u.cell? ⟨u0.heap.size, 1, none⟩ = some (.string t)) := HS.out u i
          refine wpAnyH_ready (rs := [12]) (by kernel_rfl) (by simp) ?_
          refine AllReadyH.cons rfl (fun K hK => ?_) AllReadyH.nil
          have c0 : u.cell? ⟨q, 0, none⟩ = some (.int .i64 0) := q0.cell 0
          have c1 : u.cell? ⟨q, 1, none⟩ = some (.int .i64 0) := q0.cell 1
          have c2 : u.cell? ⟨q, 2, none⟩ = some (.int .i64 0) := q0.cell 2
          have c3 : u.cell? ⟨q, 3, none⟩ = some (.string ⟨#[]⟩) := q0.cell 3
          have f0 := fun k => q0.frozen k
          go_simp
          refine hK.out _ _ (HS.out _ (((((i.set nq 0 (.int .i64 f)).set nq 1 (.int .i64 to)).set nq 2 (.int .i64 kk)).set nq 3 (.string tl)))) (fun _ => ?_)
          clear hK K hHeld
          try simp only [Act.put, List.setIfInBounds_toArray, List.set_cons_zero, List.set_cons_succ]
          refine rw.region_w (fun u => (InU w0 u0 a len cap n t u) ∧ (rw.At u q #[.int .i64 f, .int .i64 to, .int .i64 kk, .string tl] 28)) ⟨((((i.set nq 0 (.int .i64 f)).set nq 1 (.int .i64 to)).set nq 2 (.int .i64 kk)).set nq 3 (.string tl)), (rw.At.set (rw.At.set (rw.At.set (rw.At.set q0 0 (.int .i64 f)) 1 (.int .i64 to)) 2 (.int .i64 kk)) 3 (.string tl))⟩ ?_
          clear i q0 c0 c1 c2 c3 f0
          rintro u ⟨i, q0⟩
          have hHeld : (u.cell? ⟨u0.heap.size, 0, none⟩ = some (.int .i64 n) ∧ u.cell? ⟨u0.heap.size, 1, none⟩ = some (.string t)) := HS.out u i
          refine wpAnyH_done (by kernel_rfl) ?_ _
          refine NoPanic.normal ?_
          go_wp2_with fail
          go_meet
          case rel => exact ⟨q, f, to, kk, tl, rfl, nq, htl, i, q0⟩
      · skip
        go_simp
        refine hK.out _ _ (HS.out _ (i.up (rw.up_alloc _ _))) (fun _ => ?_)
        clear hK K hHeld
        try simp only [Act.put, List.setIfInBounds_toArray, List.set_cons_zero, List.set_cons_succ]
        obtain ⟨q, hq⟩ : ∃ q, q = u.heap.size := ⟨_, rfl⟩
        rw [← hq]
        have nq : u0.heap.size + 1 < q := by rw [hq]; exact i.res.lt
        refine rw.region_w (fun u => (InU w0 u0 a len cap n t u) ∧ (rw.At u q #[.int .i64 0, .int .i64 0, .int .i64 0, .string ⟨#[]⟩] 28)) ⟨i.up (rw.up_alloc _ _), by rw [hq]; exact rw.At.new _ _ _⟩ ?_
        clear i
        rintro u ⟨i, q0⟩
        have hHeld : (u.cell? ⟨u0.heap.size, 0, none⟩ = some (.int .i64 n) ∧ u.cell? ⟨u0.heap.size, 1, none⟩ = some (.string t)) := HS.out u i
        clear hq
        refine wpAnyH_ready (rs := [8]) (by kernel_rfl) (by simp) ?_
        refine AllReadyH.cons rfl (fun K hK => ?_) AllReadyH.nil
        go_simp
        go_at_call 56
        refine (text_at i.src).mono ?_
        rintro r7 w7 ⟨t2, rfl, ht2, hA7, hg7⟩
        go_wp2_with fail
        refine hK.out _ _ (HS.out _ (i.next hA7 hg7)) (fun _ => ?_)
        clear hK K hHeld
        try simp only [Act.put, List.setIfInBounds_toArray, List.set_cons_zero, List.set_cons_succ]
        refine rw.region_w (fun u => (InU w0 u0 a len cap n t u) ∧ (rw.At u q #[.int .i64 0, .int .i64 0, .int .i64 0, .string ⟨#[]⟩] 28)) ⟨i.next hA7 hg7, at_gr q0 hg7 (by omega)⟩ ?_
        clear i q0 hA7 hg7
        rintro u ⟨i, q0⟩
        have hHeld : (u.cell? ⟨u0.heap.size, 0, none⟩ = some (.int .i64 n) ∧ u.cell? ⟨u0.heap.size, 1, none⟩ = some (.string t)) := HS.out u i
        refine wpAnyH_take (i := 9) (oi := { dst := some 15, op := Op.build 24 #[(0, Operand.tmp 12), (1, Operand.tmp 14)], type := 24, pos := "l07_sync.go:152", after := #[{ on := 6, ground := Ground.data }, { on := 8, ground := Ground.data }], guard := none }) (v := ?_) rfl (by kernel_rfl) (by kernel_rfl) (by kernel_rfl) (fun _ _ _ h => h) (Or.inl ⟨by rfl, ?_⟩) hHeld ?_
        rotate_left
        · rintro w ⟨z0, z1⟩; go_simp; (try with_reducible rfl)
        try simp only [Act.put, List.setIfInBounds_toArray, List.set_cons_zero, List.set_cons_succ]
        refine wpAnyH_ready (rs := [10]) (by kernel_rfl) (by simp) ?_
        refine AllReadyH.cons rfl (fun K hK => ?_) AllReadyH.nil
        go_simp
        go_at_call 11
        refine (deltaOf_w n t _ t2 u ht ht2).mono ?_
        rintro r7 w7 ⟨f, to, kk, tl, rfl, htl, hb⟩
        go_wp2_with fail
        refine hK.out _ _ (HS.out _ (i.up hb)) (fun _ => ?_)
        clear hK K hHeld
        try simp only [Act.put, List.setIfInBounds_toArray, List.set_cons_zero, List.set_cons_succ]
        refine rw.region_w (fun u => (InU w0 u0 a len cap n t u) ∧ (rw.At u q #[.int .i64 0, .int .i64 0, .int .i64 0, .string ⟨#[]⟩] 28)) ⟨i.up hb, q0.up hb⟩ ?_
        clear i q0 hb
        rintro u ⟨i, q0⟩
        have hHeld : (u.cell? ⟨u0.heap.size, 0, none⟩ = some (.int .i64 n) ∧ u.cell? ⟨u0.heap.size, 1, none⟩ = some (.string t)) := HS.out u i
        refine wpAnyH_ready (rs := [12]) (by kernel_rfl) (by simp) ?_
        refine AllReadyH.cons rfl (fun K hK => ?_) AllReadyH.nil
        have c0 : u.cell? ⟨q, 0, none⟩ = some (.int .i64 0) := q0.cell 0
        have c1 : u.cell? ⟨q, 1, none⟩ = some (.int .i64 0) := q0.cell 1
        have c2 : u.cell? ⟨q, 2, none⟩ = some (.int .i64 0) := q0.cell 2
        have c3 : u.cell? ⟨q, 3, none⟩ = some (.string ⟨#[]⟩) := q0.cell 3
        have f0 := fun k => q0.frozen k
        go_simp
        refine hK.out _ _ (HS.out _ (((((i.set nq 0 (.int .i64 f)).set nq 1 (.int .i64 to)).set nq 2 (.int .i64 kk)).set nq 3 (.string tl)))) (fun _ => ?_)
        clear hK K hHeld
        try simp only [Act.put, List.setIfInBounds_toArray, List.set_cons_zero, List.set_cons_succ]
        refine rw.region_w (fun u => (InU w0 u0 a len cap n t u) ∧ (rw.At u q #[.int .i64 f, .int .i64 to, .int .i64 kk, .string tl] 28)) ⟨((((i.set nq 0 (.int .i64 f)).set nq 1 (.int .i64 to)).set nq 2 (.int .i64 kk)).set nq 3 (.string tl)), (rw.At.set (rw.At.set (rw.At.set (rw.At.set q0 0 (.int .i64 f)) 1 (.int .i64 to)) 2 (.int .i64 kk)) 3 (.string tl))⟩ ?_
        clear i q0 c0 c1 c2 c3 f0
        rintro u ⟨i, q0⟩
        have hHeld : (u.cell? ⟨u0.heap.size, 0, none⟩ = some (.int .i64 n) ∧ u.cell? ⟨u0.heap.size, 1, none⟩ = some (.string t)) := HS.out u i
        refine wpAnyH_done (by kernel_rfl) ?_ _
        refine NoPanic.normal ?_
        go_wp2_with fail
        go_meet
        case rel => exact ⟨q, f, to, kk, tl, rfl, nq, htl, i, q0⟩
    · skip
      go_simp
      refine hK.out _ _ (HS.out _ (i.up (rw.up_alloc _ _))) (fun _ => ?_)
      clear hK K hHeld
      try simp only [Act.put, List.setIfInBounds_toArray, List.set_cons_zero, List.set_cons_succ]
      obtain ⟨q, hq⟩ : ∃ q, q = u.heap.size := ⟨_, rfl⟩
      rw [← hq]
      have nq : u0.heap.size + 1 < q := by rw [hq]; exact i.res.lt
      refine rw.region_w (fun u => (InU w0 u0 a len cap n t u) ∧ (rw.At u q #[.int .i64 0, .int .i64 0, .int .i64 0, .string ⟨#[]⟩] 28)) ⟨i.up (rw.up_alloc _ _), by rw [hq]; exact rw.At.new _ _ _⟩ ?_
      clear i
      rintro u ⟨i, q0⟩
      have hHeld : (u.cell? ⟨u0.heap.size, 0, none⟩ = some (.int .i64 n) ∧ u.cell? ⟨u0.heap.size, 1, none⟩ = some (.string t)) := HS.out u i
      clear hq
      refine wpAnyH_ready (rs := [5]) (by kernel_rfl) (by simp) ?_
      refine AllReadyH.cons rfl (fun K hK => ?_) AllReadyH.nil
      go_simp
      go_at_call 52
      refine (dn.n_g i.src 3 (by omega) (by omega)).mono ?_
      rintro r7 w7 ⟨k3, rfl, hk3, hA7, hg7⟩
      go_wp2_with fail
      refine hK.out _ _ (HS.out _ (i.next hA7 hg7)) (fun _ => ?_)
      clear hK K hHeld
      try simp only [Act.put, List.setIfInBounds_toArray, List.set_cons_zero, List.set_cons_succ]
      refine rw.region_w (fun u => (InU w0 u0 a len cap n t u) ∧ (rw.At u q #[.int .i64 0, .int .i64 0, .int .i64 0, .string ⟨#[]⟩] 28)) ⟨i.next hA7 hg7, at_gr q0 hg7 (by omega)⟩ ?_
      clear i q0 hA7 hg7
      rintro u ⟨i, q0⟩
      have hHeld : (u.cell? ⟨u0.heap.size, 0, none⟩ = some (.int .i64 n) ∧ u.cell? ⟨u0.heap.size, 1, none⟩ = some (.string t)) := HS.out u i
      have hw2 : IntKind.i64.wrap (n + 1 + (k3 : Int)) = n + 1 + (k3 : Int) := by rw [IntKind.wrap_i64]; omega
      refine wpAnyH_take (i := 6) (oi := { dst := some 12, op := Op.binOp BinOp.add 2 (Operand.tmp 9) (Operand.tmp 11) 2, type := 2, pos := "l07_sync.go:152", after := #[{ on := 3, ground := Ground.data }, { on := 5, ground := Ground.data }], guard := none }) (v := ?_) rfl (by kernel_rfl) (by kernel_rfl) (by kernel_rfl) (fun _ _ _ h => h) (Or.inl ⟨by rfl, ?_⟩) hHeld ?_
      rotate_left
      · rintro w ⟨z0, z1⟩; go_simp; (try with_reducible rfl)
      try simp only [Act.put, List.setIfInBounds_toArray, List.set_cons_zero, List.set_cons_succ]
      refine wpAnyH_ready (rs := [8]) (by kernel_rfl) (by simp) ?_
      refine AllReadyH.cons rfl (fun K hK => ?_) AllReadyH.nil
      go_simp
      go_at_call 56
      refine (text_at i.src).mono ?_
      rintro r7 w7 ⟨t2, rfl, ht2, hA7, hg7⟩
      go_wp2_with fail
      refine hK.out _ _ (HS.out _ (i.next hA7 hg7)) (fun _ => ?_)
      clear hK K hHeld
      try simp only [Act.put, List.setIfInBounds_toArray, List.set_cons_zero, List.set_cons_succ]
      refine rw.region_w (fun u => (InU w0 u0 a len cap n t u) ∧ (rw.At u q #[.int .i64 0, .int .i64 0, .int .i64 0, .string ⟨#[]⟩] 28)) ⟨i.next hA7 hg7, at_gr q0 hg7 (by omega)⟩ ?_
      clear i q0 hA7 hg7
      rintro u ⟨i, q0⟩
      have hHeld : (u.cell? ⟨u0.heap.size, 0, none⟩ = some (.int .i64 n) ∧ u.cell? ⟨u0.heap.size, 1, none⟩ = some (.string t)) := HS.out u i
      refine wpAnyH_take (i := 9) (oi := { dst := some 15, op := Op.build 24 #[(0, Operand.tmp 12), (1, Operand.tmp 14)], type := 24, pos := "l07_sync.go:152", after := #[{ on := 6, ground := Ground.data }, { on := 8, ground := Ground.data }], guard := none }) (v := ?_) rfl (by kernel_rfl) (by kernel_rfl) (by kernel_rfl) (fun _ _ _ h => h) (Or.inl ⟨by rfl, ?_⟩) hHeld ?_
      rotate_left
      · rintro w ⟨z0, z1⟩; go_simp; (try with_reducible rfl)
      try simp only [Act.put, List.setIfInBounds_toArray, List.set_cons_zero, List.set_cons_succ]
      refine wpAnyH_ready (rs := [10]) (by kernel_rfl) (by simp) ?_
      refine AllReadyH.cons rfl (fun K hK => ?_) AllReadyH.nil
      go_simp
      go_at_call 11
      refine (deltaOf_w n t _ t2 u ht ht2).mono ?_
      rintro r7 w7 ⟨f, to, kk, tl, rfl, htl, hb⟩
      go_wp2_with fail
      refine hK.out _ _ (HS.out _ (i.up hb)) (fun _ => ?_)
      clear hK K hHeld
      try simp only [Act.put, List.setIfInBounds_toArray, List.set_cons_zero, List.set_cons_succ]
      refine rw.region_w (fun u => (InU w0 u0 a len cap n t u) ∧ (rw.At u q #[.int .i64 0, .int .i64 0, .int .i64 0, .string ⟨#[]⟩] 28)) ⟨i.up hb, q0.up hb⟩ ?_
      clear i q0 hb
      rintro u ⟨i, q0⟩
      have hHeld : (u.cell? ⟨u0.heap.size, 0, none⟩ = some (.int .i64 n) ∧ u.cell? ⟨u0.heap.size, 1, none⟩ = some (.string t)) := HS.out u i
      refine wpAnyH_ready (rs := [12]) (by kernel_rfl) (by simp) ?_
      refine AllReadyH.cons rfl (fun K hK => ?_) AllReadyH.nil
      have c0 : u.cell? ⟨q, 0, none⟩ = some (.int .i64 0) := q0.cell 0
      have c1 : u.cell? ⟨q, 1, none⟩ = some (.int .i64 0) := q0.cell 1
      have c2 : u.cell? ⟨q, 2, none⟩ = some (.int .i64 0) := q0.cell 2
      have c3 : u.cell? ⟨q, 3, none⟩ = some (.string ⟨#[]⟩) := q0.cell 3
      have f0 := fun k => q0.frozen k
      go_simp
      refine hK.out _ _ (HS.out _ (((((i.set nq 0 (.int .i64 f)).set nq 1 (.int .i64 to)).set nq 2 (.int .i64 kk)).set nq 3 (.string tl)))) (fun _ => ?_)
      clear hK K hHeld
      try simp only [Act.put, List.setIfInBounds_toArray, List.set_cons_zero, List.set_cons_succ]
      refine rw.region_w (fun u => (InU w0 u0 a len cap n t u) ∧ (rw.At u q #[.int .i64 f, .int .i64 to, .int .i64 kk, .string tl] 28)) ⟨((((i.set nq 0 (.int .i64 f)).set nq 1 (.int .i64 to)).set nq 2 (.int .i64 kk)).set nq 3 (.string tl)), (rw.At.set (rw.At.set (rw.At.set (rw.At.set q0 0 (.int .i64 f)) 1 (.int .i64 to)) 2 (.int .i64 kk)) 3 (.string tl))⟩ ?_
      clear i q0 c0 c1 c2 c3 f0
      rintro u ⟨i, q0⟩
      have hHeld : (u.cell? ⟨u0.heap.size, 0, none⟩ = some (.int .i64 n) ∧ u.cell? ⟨u0.heap.size, 1, none⟩ = some (.string t)) := HS.out u i
      refine wpAnyH_done (by kernel_rfl) ?_ _
      refine NoPanic.normal ?_
      go_wp2_with fail
      go_meet
      case rel => exact ⟨q, f, to, kk, tl, rfl, nq, htl, i, q0⟩
  case rest =>
    obtain ⟨q, f, to, kk, tl, rfl, nq, htl, i, q0⟩ := hcut
    clear i0 HS hw1
    go_wp2_with (go_at_call 51; fail)
    refine (dn.one_g i.src 4 (by omega) (by omega)).mono ?_
    rintro r7 w7 ⟨b, rfl, hA7, hg7⟩
    replace i := i.next hA7 hg7
    replace q0 := at_gr q0 hg7 (by omega)
    clear hA7 hg7
    cases b
    · have x0 := q0.cell 0
      have x1 := q0.cell 1
      have x2 := q0.cell 2
      have x3 := q0.cell 3
      have r0 := i.res.cell 0
      have r1 := i.res.cell 1
      have r2 := i.res.cell 2
      have r3 := i.res.cell 3
      have f0 := fun k => i.res.frozen k
      have HD : Hid _ := i.fin (.int .i64 f) (.int .i64 to) (.int .i64 kk) (.string tl)
      clear i q0
      go_wp2
      obtain ⟨d1, d2, d3⟩ := HD.out
      exact bodyPost_ret (results_cell_row Try.results40 _ _ (u0.heap.size + 1) _ #[.int .i64 f, .int .i64 to, .int .i64 kk, .string tl] _ _ rfl d1 Try.underlying28 rfl infoUp) rfl ⟨_, _, _, _, rfl, htl, d2, d3⟩
    · go_wp2_with (go_at_call 52; fail)
      refine (dn.n_g i.src 4 (by omega) (by omega)).mono ?_
      rintro r7 w7 ⟨k4, rfl, hk4, hA7, hg7⟩
      replace i := i.next hA7 hg7
      replace q0 := at_gr q0 hg7 (by omega)
      clear hA7 hg7
      have hq0 : w7.cell? ⟨q, 0, none⟩ = some (.int .i64 f) := q0.cell 0
      match k4, hk4 with
      | 0, _ =>
        go_wp2_with (go_at_call 52; fail)
        refine (dn.n_g i.src 6 (by omega) (by omega)).mono ?_
        rintro r8 w8 ⟨k5, rfl, hk5, hA8, hg8⟩
        replace i := i.next hA8 hg8
        replace q0 := at_gr q0 hg8 (by omega)
        
        have n1 : u0.heap.size + 1 ≠ q := by omega
        have n2 : q < w8.heap.size := q0.lt
        have n3 : u0.heap.size + 1 < w8.heap.size := by omega
        have x0 := q0.cell 0
        have x1 := q0.cell 1
        have x2 := q0.cell 2
        have x3 := q0.cell 3
        have f1 := fun k => q0.frozen k
        have r0 := i.res.cell 0
        have r1 := i.res.cell 1
        have r2 := i.res.cell 2
        have r3 := i.res.cell 3
        have f0 := fun k => i.res.frozen k
        have i9 : InU w0 u0 a len cap n t (w8.setCell ⟨q, 0, none⟩ (.int .i64 k5)) := i.set nq 0 _
        have HD : Hid _ := i9.fin (.int .i64 k5) (.int .i64 to) (.int .i64 kk) (.string tl)
        clear i q0 i9 hA8 hg8 hq0
        go_wp2
        obtain ⟨d1, d2, d3⟩ := HD.out
        exact bodyPost_ret (results_cell_row Try.results40 _ _ (u0.heap.size + 1) _ #[.int .i64 k5, .int .i64 to, .int .i64 kk, .string tl] _ _ rfl d1 Try.underlying28 rfl infoUp) rfl ⟨_, _, _, _, rfl, htl, d2, d3⟩
      | 1, _ =>
        go_wp2_with (go_at_call 52; fail)
        refine (dn.n_g i.src 6 (by omega) (by omega)).mono ?_
        rintro r8 w8 ⟨k5, rfl, hk5, hA8, hg8⟩
        replace i := i.next hA8 hg8
        replace q0 := at_gr q0 hg8 (by omega)
        have e5 : IntKind.i64.wrap ((k5 : Int) - 1) = (k5 : Int) - 1 := by rw [IntKind.wrap_i64]; omega
        have n1 : u0.heap.size + 1 ≠ q := by omega
        have n2 : q < w8.heap.size := q0.lt
        have n3 : u0.heap.size + 1 < w8.heap.size := by omega
        have x0 := q0.cell 0
        have x1 := q0.cell 1
        have x2 := q0.cell 2
        have x3 := q0.cell 3
        have f1 := fun k => q0.frozen k
        have r0 := i.res.cell 0
        have r1 := i.res.cell 1
        have r2 := i.res.cell 2
        have r3 := i.res.cell 3
        have f0 := fun k => i.res.frozen k
        have i9 : InU w0 u0 a len cap n t (w8.setCell ⟨q, 2, none⟩ (.int .i64 ((k5 : Int) - 1))) := i.set nq 2 _
        have HD : Hid _ := i9.fin (.int .i64 f) (.int .i64 to) (.int .i64 ((k5 : Int) - 1)) (.string tl)
        clear i q0 i9 hA8 hg8 hq0
        go_wp2
        obtain ⟨d1, d2, d3⟩ := HD.out
        exact bodyPost_ret (results_cell_row Try.results40 _ _ (u0.heap.size + 1) _ #[.int .i64 f, .int .i64 to, .int .i64 ((k5 : Int) - 1), .string tl] _ _ rfl d1 Try.underlying28 rfl infoUp) rfl ⟨_, _, _, _, rfl, htl, d2, d3⟩
      | 2, _ =>
        go_wp2_with (go_at_call 52; fail)
        refine (dn.n_g i.src 3 (by omega) (by omega)).mono ?_
        rintro r8 w8 ⟨k5, rfl, hk5, hA8, hg8⟩
        replace i := i.next hA8 hg8
        replace q0 := at_gr q0 hg8 (by omega)
        have e5 : IntKind.i64.wrap (399 + (k5 : Int)) = 399 + (k5 : Int) := by rw [IntKind.wrap_i64]; omega
        have hmk := fun u => zeros_make (399 + k5) (by omega) u
        rw [show ((399 + k5 : Nat) : Int) = 399 + (k5 : Int) by omega] at hmk
        have hcv := zeros_conv (399 + k5) w8
        have n1 : u0.heap.size + 1 ≠ q := by omega
        have n2 : q < w8.heap.size := q0.lt
        have n3 : u0.heap.size + 1 < w8.heap.size := by omega
        have x0 := q0.cell 0
        have x1 := q0.cell 1
        have x2 := q0.cell 2
        have x3 := q0.cell 3
        have f1 := fun k => q0.frozen k
        have r0 := i.res.cell 0
        have r1 := i.res.cell 1
        have r2 := i.res.cell 2
        have r3 := i.res.cell 3
        have f0 := fun k => i.res.frozen k
        have y0 := fun o => (q0.up (rw.up_alloc w8 o)).cell 0
        have y1 := fun o => (q0.up (rw.up_alloc w8 o)).cell 1
        have y2 := fun o => (q0.up (rw.up_alloc w8 o)).cell 2
        have y3 := fun o => (q0.up (rw.up_alloc w8 o)).cell 3
        have g0 := fun o k => (q0.up (rw.up_alloc w8 o)).frozen k
        have z0 := fun o => (i.up (rw.up_alloc w8 o)).res.cell 0
        have z1 := fun o => (i.up (rw.up_alloc w8 o)).res.cell 1
        have z2 := fun o => (i.up (rw.up_alloc w8 o)).res.cell 2
        have z3 := fun o => (i.up (rw.up_alloc w8 o)).res.cell 3
        have h0 := fun o k => (i.up (rw.up_alloc w8 o)).res.frozen k
        have i9 : InU w0 u0 a len cap n t (w8.setCell ⟨q, 3, none⟩ (.string ⟨Array.replicate (399 + k5) 0⟩)) := i.set nq 3 _
        have HD : Hid (_ ∧ _ ∧ _) := ⟨(i9.fin (.int .i64 f) (.int .i64 to) (.int .i64 kk) (.string ⟨Array.replicate (399 + k5) 0⟩)).1.up (rw.up_alloc _ (.cells (madeCells #[.int .u8 0] (399 + k5)) 5)), At.up (i9.fin (.int .i64 f) (.int .i64 to) (.int .i64 kk) (.string ⟨Array.replicate (399 + k5) 0⟩)).2.1 (rw.up_alloc _ (.cells (madeCells #[.int .u8 0] (399 + k5)) 5)), gtrans (i9.fin (.int .i64 f) (.int .i64 to) (.int .i64 kk) (.string ⟨Array.replicate (399 + k5) 0⟩)).2.2 (below_grown (rw.up_alloc _ (.cells (madeCells #[.int .u8 0] (399 + k5)) 5)))⟩
        clear i q0 i9 hA8 hg8 hq0
        go_wp2
        obtain ⟨d1, d2, d3⟩ := HD.out
        exact bodyPost_ret (results_cell_row Try.results40 _ _ (u0.heap.size + 1) _ #[.int .i64 f, .int .i64 to, .int .i64 kk, .string ⟨Array.replicate (399 + k5) 0⟩] _ _ rfl d1 Try.underlying28 rfl infoUp) rfl ⟨_, _, _, _, rfl, by simp [ByteArray.size]; omega, d2, d3⟩
      | 3, _ =>
        have i1 := i.up (rw.up_alloc w7 (.cells #[.int .i64 (-1), .int .i64 0, .int .i64 1000001] 2))
        have q1 := q0.up (rw.up_alloc w7 (.cells #[.int .i64 (-1), .int .i64 0, .int .i64 1000001] 2))
        have g1 := rw.At.new w7 #[.int .i64 (-1), .int .i64 0, .int .i64 1000001] 2
        have hw7 : w0.heap.size < w7.heap.size := by have := i.res.lt; omega
        clear i q0 hq0
        go_wp2_with (go_at_call 52; fail)
        refine (dn.n_g i1.src 3 (by omega) (by omega)).mono ?_
        rintro r8 w8 ⟨k5, rfl, hk5, hA8, hg8⟩
        have i := i1.next hA8 hg8
        have q0 := at_gr q1 hg8 (by omega)
        have g2 := at_gr g1 hg8 (by omega)
        have c9 := tot_at g2 hk5
        have hk5i : (k5 : Int) < 3 := by omega
        clear g2
        have n1 : u0.heap.size + 1 ≠ q := by omega
        have n2 : q < w8.heap.size := q0.lt
        have n3 : u0.heap.size + 1 < w8.heap.size := by omega
        have x0 := q0.cell 0
        have x1 := q0.cell 1
        have x2 := q0.cell 2
        have x3 := q0.cell 3
        have f1 := fun k => q0.frozen k
        have r0 := i.res.cell 0
        have r1 := i.res.cell 1
        have r2 := i.res.cell 2
        have r3 := i.res.cell 3
        have f0 := fun k => i.res.frozen k
        have i9 : InU w0 u0 a len cap n t (w8.setCell ⟨q, 1, none⟩ (.int .i64 (tot k5))) := i.set nq 1 _
        have HD : Hid _ := i9.fin (.int .i64 f) (.int .i64 (tot k5)) (.int .i64 kk) (.string tl)
        clear i q0 i9 hA8 hg8 i1 q1 g1
        go_wp2
        obtain ⟨d1, d2, d3⟩ := HD.out
        exact bodyPost_ret (results_cell_row Try.results40 _ _ (u0.heap.size + 1) _ #[.int .i64 f, .int .i64 (tot k5), .int .i64 kk, .string tl] _ _ rfl d1 Try.underlying28 rfl infoUp) rfl ⟨_, _, _, _, rfl, htl, d2, d3⟩
end Go.Proofs.Ytmbeanimjmfddaa.sd
