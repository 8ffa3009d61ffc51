/-
  The line of a rule: the program's words and lineOf. No condition.
-/
import Derived.Test.YtndjjhcdnlkekaaDoorRu1
import Derived.Test.YtndjjhcdnlkekaaDoorJoin
namespace Go.Proofs.YtndjjhcdnlkekaaDoor.rl
open Go.ChangeShapes Go.WideShapes Go.ChangeAt Go.RowKit
open Go.Proofs.YtndjjhcdnlkekaaDoor.sc (ret_b)
open Go.Proofs.YtndjjhcdnlkekaaDoor.wi (heap_lt calls_w wp_w)
open Go.Proofs.YtndjjhcdnlkekaaDoor.jo (joined_any joinB total joined2)
open Classical
set_option linter.unusedVariables false
set_option linter.unusedSimpArgs false

theorem fmt_ret {a b : ByteArray} (h : a = b) : Ending.returned (.string a) = .returned (.string b) := by rw [h]
set_option maxRecDepth 100000 in
theorem fmt_1 (w : World) : Calls Tryd.prog 106 #[.int .i64 1, .int .i64 10] w fun e w' => e = .returned (.string ⟨#[49]⟩) ∧ Below w.heap.size w w' := by
  have HB0 : Hid (Below w.heap.size w w) := Below.refl _ _
  go_enter Tryd.func106, Tryd.ntmps106
  go_wp2
  go_ret
  exact ⟨fmt_ret (by kernel_rfl), HB0.out⟩
set_option maxRecDepth 100000 in
theorem fmt_2 (w : World) : Calls Tryd.prog 106 #[.int .i64 2, .int .i64 10] w fun e w' => e = .returned (.string ⟨#[50]⟩) ∧ Below w.heap.size w w' := by
  have HB0 : Hid (Below w.heap.size w w) := Below.refl _ _
  go_enter Tryd.func106, Tryd.ntmps106
  go_wp2
  go_ret
  exact ⟨fmt_ret (by kernel_rfl), HB0.out⟩
set_option maxRecDepth 100000 in
theorem fmt_3 (w : World) : Calls Tryd.prog 106 #[.int .i64 3, .int .i64 10] w fun e w' => e = .returned (.string ⟨#[51]⟩) ∧ Below w.heap.size w w' := by
  have HB0 : Hid (Below w.heap.size w w) := Below.refl _ _
  go_enter Tryd.func106, Tryd.ntmps106
  go_wp2
  go_ret
  exact ⟨fmt_ret (by kernel_rfl), HB0.out⟩
def decB (n : Int) : ByteArray := if n = 1 then ⟨#[49]⟩ else if n = 2 then ⟨#[50]⟩ else ⟨#[51]⟩
theorem fmt_any (n : Int) (h : 1 ≤ n ∧ n ≤ 3) (w : World) : Calls Tryd.prog 106 #[.int .i64 n, .int .i64 10] w fun e w' => e = .returned (.string (decB n)) ∧ Below w.heap.size w w' := by
  rcases (show n = 1 ∨ n = 2 ∨ n = 3 by omega) with rfl | rfl | rfl
  · exact fmt_1 w
  · exact fmt_2 w
  · exact fmt_3 w
def denyB : ByteArray := ⟨#[100, 101, 110, 121]⟩
def allowB : ByteArray := ⟨#[97, 108, 108, 111, 119]⟩
def holdB (n : Int) : ByteArray := ⟨#[104, 111, 108, 100, 32]⟩ ++ decB n
theorem decB_size (n : Int) : (decB n).size = 1 := by unfold decB; split <;> (try split) <;> rfl
theorem words_deny (w : World) : Calls Tryd.prog 103 #[.agg #[]] w fun e w' => e = .returned (.string denyB) ∧ Below w.heap.size w w' := by
  have HB : Hid (∀ o, Below w.heap.size w (w.alloc o)) := fun o => (Below.refl _ _).alloc (Nat.le_refl _) o
  have HB0 : Hid (Below w.heap.size w w) := Below.refl _ _
  go_enter Tryd.func103, Tryd.ntmps103
  go_wp2
  go_ret
  first | exact ⟨rfl, HB0.out⟩ | exact ⟨rfl, HB.out _⟩
theorem words_allow (w : World) : Calls Tryd.prog 104 #[.agg #[]] w fun e w' => e = .returned (.string allowB) ∧ Below w.heap.size w w' := by
  have HB : Hid (∀ o, Below w.heap.size w (w.alloc o)) := fun o => (Below.refl _ _).alloc (Nat.le_refl _) o
  have HB0 : Hid (Below w.heap.size w w) := Below.refl _ _
  go_enter Tryd.func104, Tryd.ntmps104
  go_wp2
  go_ret
  first | exact ⟨rfl, HB0.out⟩ | exact ⟨rfl, HB.out _⟩
set_option maxHeartbeats 4000000 in
theorem words_hold (n : Int) (w : World) (h : 1 ≤ n ∧ n ≤ 3) : Calls Tryd.prog 105 #[.agg #[.int .i64 n]] w fun e w' => e = .returned (.string (holdB n)) ∧ Below w.heap.size w w' := by
  have HI : Hid (Below w.heap.size w (w.alloc (.cells #[.int .i64 n] 88))) := (Below.refl _ _).alloc (Nat.le_refl _) _
  have hf := fun u => fmt_any n h u
  have hd := decB_size n
  have HE : Hid ((⟨#[104, 111, 108, 100, 32]⟩ : ByteArray) ++ decB n = holdB n) := rfl
  obtain ⟨D, hD⟩ : ∃ D, D = decB n := ⟨_, rfl⟩
  rw [← hD] at hf hd HE
  clear hD
  go_enter Tryd.func105, Tryd.ntmps105
  go_wp2_with (go_at_call 106; fail)
  refine calls_w (fun u => rw.Bel w u) HI.out ?_
  clear HI
  intro u i
  refine (hf u).mono ?_
  rintro e w1 ⟨rfl, hb⟩
  have HB : Hid (Below w.heap.size w w1) := i.up hb
  clear i hb hf
  have hj := joined2 ⟨#[104, 111, 108, 100, 32]⟩ D w1 (by show 5 + D.size ≤ _; omega)
  go_wp2_with (go_at_call 38; fail)
  refine hj.mono ?_
  rintro e w2 ⟨rfl, hb⟩
  have HB2 : Hid (Below w.heap.size w w2) := HB.out.trans (hb.mono HB.out.size)
  clear hj hb HB
  go_wp2
  go_ret
  exact ⟨fmt_ret HE.out, HB2.out⟩
theorem joined_at (L : List ByteArray) {u : World} {q : Nat} (h : rw.At u q (ss.cells L) 9) (hn : L.length ≤ 100) (ht : total L ≤ 1099511627776) :
    Calls Tryd.prog 38 #[.slice (some ⟨q, 0, none⟩) L.length L.length] u fun e w' => e = .returned (.string (joinB L)) ∧ Below u.heap.size u w' :=
  joined_any L q L.length u h.lt (by omega) ht (fun i hi => by
    rw [h.cell i]; simp [ss.cells, List.getElem?_eq_getElem hi])
theorem met_deny (w : World) : (method 241 69 (.agg #[]) "loop.example/g00455/impl.words").run Tryd.prog w = .ok (103, .agg #[]) w := by kernel_rfl
theorem met_allow (w : World) : (method 241 86 (.agg #[]) "loop.example/g00455/impl.words").run Tryd.prog w = .ok (104, .agg #[]) w := by kernel_rfl
theorem met_hold (n : Int) (w : World) : (method 241 88 (.agg #[.int .i64 n]) "loop.example/g00455/impl.words").run Tryd.prog w = .ok (105, .agg #[.int .i64 n]) w := by kernel_rfl
/-- the words that a rule's line begins with -/
def wordB (k n : Int) : ByteArray := if k = 1 then allowB else if k = 2 then holdB n else denyB
def lineB (k n : Int) (u g : ByteArray) : ByteArray := joinB [wordB k n, ⟨#[32]⟩, u, ⟨#[32]⟩, g, ⟨#[10]⟩]
/-- lineOf at work: its rule -/
def InW (w : World) (k n : Int) (x g : ByteArray) (u : World) : Prop := rw.Bel w u ∧ rw.At u w.heap.size #[.int .i64 k, .int .i64 n, .string x, .string g] 26
theorem InW.up {w u u' : World} {k n : Int} {x g : ByteArray} (h : InW w k n x g u) (hb : Below u.heap.size u u') : InW w k n x g u' := ⟨h.1.up hb, h.2.up hb⟩
set_option maxHeartbeats 8000000 in
theorem line_deny (x g : ByteArray) (w : World) (hx : x.size ≤ 20) (hg : g.size ≤ 30) :
    Calls Tryd.prog 39 #[.agg #[.int .i64 0, .int .i64 0, .string x, .string g]] w fun e w' => e = .returned (.string (joinB [denyB, ⟨#[32]⟩, x, ⟨#[32]⟩, g, ⟨#[10]⟩])) ∧ Below w.heap.size w w' := by
  have HI : Hid (InW w 0 0 x g (w.alloc (.cells #[.int .i64 0, .int .i64 0, .string x, .string g] 26))) := ⟨(Below.refl _ _).alloc (Nat.le_refl _) _, rw.At.new _ _ _⟩
  have HS : Hid (∀ u, InW w 0 0 x g u → u.cell? ⟨w.heap.size, 2, none⟩ = some (.string x) ∧ u.cell? ⟨w.heap.size, 3, none⟩ = some (.string g)) := fun u h => ⟨h.2.cell 2, h.2.cell 3⟩
  have htot : total [denyB, ⟨#[32]⟩, x, ⟨#[32]⟩, g, ⟨#[10]⟩] ≤ 1099511627776 := by
    simp only [total, List.map_cons, List.map_nil, List.sum_cons, List.sum_nil]
    have e1 : (⟨#[32]⟩ : ByteArray).size = 1 := rfl
    have e2 : (⟨#[10]⟩ : ByteArray).size = 1 := rfl
    have e3 : denyB.size ≤ 6 := by decide
    omega
  have hr := fun u => rulingOf_any 0 0 x g u
  have hkn : Known 0 0 := .inl ⟨rfl, rfl⟩
  simp only [decide_eq_true hkn] at hr
  have HV : Hid (∀ v, (Known 0 0 → v = sayV 0 0) → v = .iface 69 (.agg #[])) := fun v h => h hkn
  have hmet := fun w => met_deny w
  clear hkn
  go_enter Tryd.func39, Tryd.ntmps39
  go_wp2_with (go_at_call 33; fail)
  refine calls_w (InW w 0 0 x g) HI.out ?_
  clear HI
  intro u0 i0
  refine (hr u0).mono ?_
  rintro e w1 ⟨⟨v, rfl, hv⟩, hb⟩
  obtain rfl := HV.out v hv
  have i := i0.up hb
  clear hb i0 hr hv HV
  go_wp2_with fail
  refine wp_region_noPanic ?_
  refine wp_region_held_drew (S := fun u => u.cell? ⟨w.heap.size, 2, none⟩ = some (.string x) ∧ u.cell? ⟨w.heap.size, 3, none⟩ = some (.string g)) (by kernel_rfl) (HS.out _ (i.up (rw.up_drew _))) (fun _ => ?_)
  refine rw.region_w (fun u => InW w 0 0 x g u) (i.up (rw.up_drew _)) ?_
  clear i
  intro u i
  have hHeld : (u.cell? ⟨w.heap.size, 2, none⟩ = some (.string x) ∧ u.cell? ⟨w.heap.size, 3, none⟩ = some (.string g)) := HS.out u i
  refine wpAnyH_take (i := 0) (oi := { dst := some 10, op := Op.move (Operand.tmp 3), type := 51, pos := "l08_policy.go:129", after := #[], guard := none }) (v := ?_) rfl (by kernel_rfl) (by kernel_rfl) (by kernel_rfl) (fun _ _ _ h => h) (Or.inl ⟨by rfl, ?_⟩) hHeld ?_
  rotate_left
  · rintro w ⟨z0, z1⟩; go_simp; (try with_reducible rfl)
  try simp only [Act.put, List.setIfInBounds_toArray, List.set_cons_zero, List.set_cons_succ]
  refine wpAnyH_take (i := 2) (oi := { dst := some 12, op := Op.fieldAddr 26 (Operand.tmp 1) 2, type := 0, pos := "l08_policy.go:129", after := #[], guard := none }) (v := ?_) rfl (by kernel_rfl) (by kernel_rfl) (by kernel_rfl) (fun _ _ _ h => h) (Or.inl ⟨by rfl, ?_⟩) hHeld ?_
  rotate_left
  · rintro w ⟨z0, z1⟩; go_simp; (try with_reducible rfl)
  try simp only [Act.put, List.setIfInBounds_toArray, List.set_cons_zero, List.set_cons_succ]
  refine wpAnyH_take (i := 3) (oi := { dst := some 13, op := Op.load 9 (Operand.tmp 12), type := 9, pos := "l08_policy.go:129", after := #[{ on := 2, ground := Ground.data }], guard := none }) (v := ?_) rfl (by kernel_rfl) (by kernel_rfl) (by kernel_rfl) (fun _ _ _ h => h) (Or.inl ⟨by rfl, ?_⟩) hHeld ?_
  rotate_left
  · rintro w ⟨z0, z1⟩; go_simp; (try with_reducible rfl)
  try simp only [Act.put, List.setIfInBounds_toArray, List.set_cons_zero, List.set_cons_succ]
  refine wpAnyH_take (i := 4) (oi := { dst := some 14, op := Op.fieldAddr 26 (Operand.tmp 1) 3, type := 0, pos := "l08_policy.go:129", after := #[], guard := none }) (v := ?_) rfl (by kernel_rfl) (by kernel_rfl) (by kernel_rfl) (fun _ _ _ h => h) (Or.inl ⟨by rfl, ?_⟩) hHeld ?_
  rotate_left
  · rintro w ⟨z0, z1⟩; go_simp; (try with_reducible rfl)
  try simp only [Act.put, List.setIfInBounds_toArray, List.set_cons_zero, List.set_cons_succ]
  refine wpAnyH_take (i := 5) (oi := { dst := some 15, op := Op.load 9 (Operand.tmp 14), type := 9, pos := "l08_policy.go:129", after := #[{ on := 4, ground := Ground.data }], guard := none }) (v := ?_) rfl (by kernel_rfl) (by kernel_rfl) (by kernel_rfl) (fun _ _ _ h => h) (Or.inl ⟨by rfl, ?_⟩) hHeld ?_
  rotate_left
  · rintro w ⟨z0, z1⟩; go_simp; (try with_reducible rfl)
  try simp only [Act.put, List.setIfInBounds_toArray, List.set_cons_zero, List.set_cons_succ]
  refine wpAnyH_ready (rs := [1]) (by kernel_rfl) (by simp) ?_
  refine AllReadyH.cons rfl (fun K hK => ?_) AllReadyH.nil
  go_simp
  go_at_call 103
  refine (words_deny u).mono ?_
  rintro r7 w7 ⟨rfl, hb⟩
  go_wp2_with fail
  refine hK.out _ _ (HS.out _ (i.up hb)) (fun _ => ?_)
  clear hK K hHeld
  try simp only [Act.put, List.setIfInBounds_toArray, List.set_cons_zero, List.set_cons_succ]
  refine rw.region_w (fun u => InW w 0 0 x g u) (i.up hb) ?_
  clear i hb
  intro u i
  have hHeld : (u.cell? ⟨w.heap.size, 2, none⟩ = some (.string x) ∧ u.cell? ⟨w.heap.size, 3, none⟩ = some (.string g)) := HS.out u i
  refine wpAnyH_ready (rs := [6]) (by kernel_rfl) (by simp) ?_
  refine AllReadyH.cons rfl (fun K hK => ?_) AllReadyH.nil
  go_simp
  refine hK.out _ _ (HS.out _ (i.up (rw.up_alloc _ _))) (fun _ => ?_)
  clear hK K hHeld
  try simp only [Act.put, List.setIfInBounds_toArray, List.set_cons_zero, List.set_cons_succ]
  obtain ⟨q, hq⟩ : ∃ q, q = u.heap.size := ⟨_, rfl⟩
  rw [← hq]
  refine rw.region_w (fun u => (InW w 0 0 x g u) ∧ (rw.At u q (ss.cells [denyB, ⟨#[32]⟩, x, ⟨#[32]⟩, g, ⟨#[10]⟩]) 9)) ⟨i.up (rw.up_alloc _ _), by rw [hq]; exact rw.At.new _ _ _⟩ ?_
  clear i
  rintro u ⟨i, a⟩
  have hHeld : (u.cell? ⟨w.heap.size, 2, none⟩ = some (.string x) ∧ u.cell? ⟨w.heap.size, 3, none⟩ = some (.string g)) := HS.out u i
  clear hq
  refine wpAnyH_ready (rs := [7]) (by kernel_rfl) (by simp) ?_
  refine AllReadyH.cons rfl (fun K hK => ?_) AllReadyH.nil
  go_simp
  go_at_call 38
  refine (joined_at [denyB, ⟨#[32]⟩, x, ⟨#[32]⟩, g, ⟨#[10]⟩] a (by simp) htot).mono ?_
  rintro r7 w7 ⟨rfl, hb⟩
  go_wp2_with fail
  refine hK.out _ _ (HS.out _ (i.up hb)) (fun _ => ?_)
  clear hK K hHeld
  try simp only [Act.put, List.setIfInBounds_toArray, List.set_cons_zero, List.set_cons_succ]
  refine rw.region_w (fun u => (InW w 0 0 x g u) ∧ (rw.At u q (ss.cells [denyB, ⟨#[32]⟩, x, ⟨#[32]⟩, g, ⟨#[10]⟩]) 9)) ⟨i.up hb, a.up hb⟩ ?_
  clear i a hb
  rintro u ⟨i, a⟩
  have hHeld : (u.cell? ⟨w.heap.size, 2, none⟩ = some (.string x) ∧ u.cell? ⟨w.heap.size, 3, none⟩ = some (.string g)) := HS.out u i
  refine wpAnyH_take (i := 8) (oi := { dst := some 2, op := Op.assign (Operand.tmp 17), type := 9, pos := "l08_policy.go:129", after := #[{ on := 7, ground := Ground.data }, { on := 7, ground := Ground.chain }, { on := 0, ground := Ground.phase }, { on := 1, ground := Ground.phase }, { on := 2, ground := Ground.phase }, { on := 3, ground := Ground.phase }, { on := 4, ground := Ground.phase }, { on := 5, ground := Ground.phase }, { on := 6, ground := Ground.phase }, { on := 7, ground := Ground.phase }], guard := none }) (v := ?_) rfl (by kernel_rfl) (by kernel_rfl) (by kernel_rfl) (fun _ _ _ h => h) (Or.inl ⟨by rfl, ?_⟩) hHeld ?_
  rotate_left
  · rintro w ⟨z0, z1⟩; go_simp; (try with_reducible rfl)
  try simp only [Act.put, List.setIfInBounds_toArray, List.set_cons_zero, List.set_cons_succ]
  refine wpAnyH_done (by kernel_rfl) ?_ _
  refine NoPanic.normal ?_
  have HJ : Hid (Below w.heap.size w u) := i.1
  clear i a hHeld
  go_wp2
  go_ret
  exact ⟨rfl, HJ.out⟩
set_option maxHeartbeats 8000000 in
theorem line_allow (x g : ByteArray) (w : World) (hx : x.size ≤ 20) (hg : g.size ≤ 30) :
    Calls Tryd.prog 39 #[.agg #[.int .i64 1, .int .i64 0, .string x, .string g]] w fun e w' => e = .returned (.string (joinB [allowB, ⟨#[32]⟩, x, ⟨#[32]⟩, g, ⟨#[10]⟩])) ∧ Below w.heap.size w w' := by
  have HI : Hid (InW w 1 0 x g (w.alloc (.cells #[.int .i64 1, .int .i64 0, .string x, .string g] 26))) := ⟨(Below.refl _ _).alloc (Nat.le_refl _) _, rw.At.new _ _ _⟩
  have HS : Hid (∀ u, InW w 1 0 x g u → u.cell? ⟨w.heap.size, 2, none⟩ = some (.string x) ∧ u.cell? ⟨w.heap.size, 3, none⟩ = some (.string g)) := fun u h => ⟨h.2.cell 2, h.2.cell 3⟩
  have htot : total [allowB, ⟨#[32]⟩, x, ⟨#[32]⟩, g, ⟨#[10]⟩] ≤ 1099511627776 := by
    simp only [total, List.map_cons, List.map_nil, List.sum_cons, List.sum_nil]
    have e1 : (⟨#[32]⟩ : ByteArray).size = 1 := rfl
    have e2 : (⟨#[10]⟩ : ByteArray).size = 1 := rfl
    have e3 : allowB.size ≤ 6 := by decide
    omega
  have hr := fun u => rulingOf_any 1 0 x g u
  have hkn : Known 1 0 := .inr (.inl ⟨rfl, rfl⟩)
  simp only [decide_eq_true hkn] at hr
  have HV : Hid (∀ v, (Known 1 0 → v = sayV 1 0) → v = .iface 86 (.agg #[])) := fun v h => h hkn
  have hmet := fun w => met_allow w
  clear hkn
  go_enter Tryd.func39, Tryd.ntmps39
  go_wp2_with (go_at_call 33; fail)
  refine calls_w (InW w 1 0 x g) HI.out ?_
  clear HI
  intro u0 i0
  refine (hr u0).mono ?_
  rintro e w1 ⟨⟨v, rfl, hv⟩, hb⟩
  obtain rfl := HV.out v hv
  have i := i0.up hb
  clear hb i0 hr hv HV
  go_wp2_with fail
  refine wp_region_noPanic ?_
  refine wp_region_held_drew (S := fun u => u.cell? ⟨w.heap.size, 2, none⟩ = some (.string x) ∧ u.cell? ⟨w.heap.size, 3, none⟩ = some (.string g)) (by kernel_rfl) (HS.out _ (i.up (rw.up_drew _))) (fun _ => ?_)
  refine rw.region_w (fun u => InW w 1 0 x g u) (i.up (rw.up_drew _)) ?_
  clear i
  intro u i
  have hHeld : (u.cell? ⟨w.heap.size, 2, none⟩ = some (.string x) ∧ u.cell? ⟨w.heap.size, 3, none⟩ = some (.string g)) := HS.out u i
  refine wpAnyH_take (i := 0) (oi := { dst := some 10, op := Op.move (Operand.tmp 3), type := 51, pos := "l08_policy.go:129", after := #[], guard := none }) (v := ?_) rfl (by kernel_rfl) (by kernel_rfl) (by kernel_rfl) (fun _ _ _ h => h) (Or.inl ⟨by rfl, ?_⟩) hHeld ?_
  rotate_left
  · rintro w ⟨z0, z1⟩; go_simp; (try with_reducible rfl)
  try simp only [Act.put, List.setIfInBounds_toArray, List.set_cons_zero, List.set_cons_succ]
  refine wpAnyH_take (i := 2) (oi := { dst := some 12, op := Op.fieldAddr 26 (Operand.tmp 1) 2, type := 0, pos := "l08_policy.go:129", after := #[], guard := none }) (v := ?_) rfl (by kernel_rfl) (by kernel_rfl) (by kernel_rfl) (fun _ _ _ h => h) (Or.inl ⟨by rfl, ?_⟩) hHeld ?_
  rotate_left
  · rintro w ⟨z0, z1⟩; go_simp; (try with_reducible rfl)
  try simp only [Act.put, List.setIfInBounds_toArray, List.set_cons_zero, List.set_cons_succ]
  refine wpAnyH_take (i := 3) (oi := { dst := some 13, op := Op.load 9 (Operand.tmp 12), type := 9, pos := "l08_policy.go:129", after := #[{ on := 2, ground := Ground.data }], guard := none }) (v := ?_) rfl (by kernel_rfl) (by kernel_rfl) (by kernel_rfl) (fun _ _ _ h => h) (Or.inl ⟨by rfl, ?_⟩) hHeld ?_
  rotate_left
  · rintro w ⟨z0, z1⟩; go_simp; (try with_reducible rfl)
  try simp only [Act.put, List.setIfInBounds_toArray, List.set_cons_zero, List.set_cons_succ]
  refine wpAnyH_take (i := 4) (oi := { dst := some 14, op := Op.fieldAddr 26 (Operand.tmp 1) 3, type := 0, pos := "l08_policy.go:129", after := #[], guard := none }) (v := ?_) rfl (by kernel_rfl) (by kernel_rfl) (by kernel_rfl) (fun _ _ _ h => h) (Or.inl ⟨by rfl, ?_⟩) hHeld ?_
  rotate_left
  · rintro w ⟨z0, z1⟩; go_simp; (try with_reducible rfl)
  try simp only [Act.put, List.setIfInBounds_toArray, List.set_cons_zero, List.set_cons_succ]
  refine wpAnyH_take (i := 5) (oi := { dst := some 15, op := Op.load 9 (Operand.tmp 14), type := 9, pos := "l08_policy.go:129", after := #[{ on := 4, ground := Ground.data }], guard := none }) (v := ?_) rfl (by kernel_rfl) (by kernel_rfl) (by kernel_rfl) (fun _ _ _ h => h) (Or.inl ⟨by rfl, ?_⟩) hHeld ?_
  rotate_left
  · rintro w ⟨z0, z1⟩; go_simp; (try with_reducible rfl)
  try simp only [Act.put, List.setIfInBounds_toArray, List.set_cons_zero, List.set_cons_succ]
  refine wpAnyH_ready (rs := [1]) (by kernel_rfl) (by simp) ?_
  refine AllReadyH.cons rfl (fun K hK => ?_) AllReadyH.nil
  go_simp
  go_at_call 104
  refine (words_allow u).mono ?_
  rintro r7 w7 ⟨rfl, hb⟩
  go_wp2_with fail
  refine hK.out _ _ (HS.out _ (i.up hb)) (fun _ => ?_)
  clear hK K hHeld
  try simp only [Act.put, List.setIfInBounds_toArray, List.set_cons_zero, List.set_cons_succ]
  refine rw.region_w (fun u => InW w 1 0 x g u) (i.up hb) ?_
  clear i hb
  intro u i
  have hHeld : (u.cell? ⟨w.heap.size, 2, none⟩ = some (.string x) ∧ u.cell? ⟨w.heap.size, 3, none⟩ = some (.string g)) := HS.out u i
  refine wpAnyH_ready (rs := [6]) (by kernel_rfl) (by simp) ?_
  refine AllReadyH.cons rfl (fun K hK => ?_) AllReadyH.nil
  go_simp
  refine hK.out _ _ (HS.out _ (i.up (rw.up_alloc _ _))) (fun _ => ?_)
  clear hK K hHeld
  try simp only [Act.put, List.setIfInBounds_toArray, List.set_cons_zero, List.set_cons_succ]
  obtain ⟨q, hq⟩ : ∃ q, q = u.heap.size := ⟨_, rfl⟩
  rw [← hq]
  refine rw.region_w (fun u => (InW w 1 0 x g u) ∧ (rw.At u q (ss.cells [allowB, ⟨#[32]⟩, x, ⟨#[32]⟩, g, ⟨#[10]⟩]) 9)) ⟨i.up (rw.up_alloc _ _), by rw [hq]; exact rw.At.new _ _ _⟩ ?_
  clear i
  rintro u ⟨i, a⟩
  have hHeld : (u.cell? ⟨w.heap.size, 2, none⟩ = some (.string x) ∧ u.cell? ⟨w.heap.size, 3, none⟩ = some (.string g)) := HS.out u i
  clear hq
  refine wpAnyH_ready (rs := [7]) (by kernel_rfl) (by simp) ?_
  refine AllReadyH.cons rfl (fun K hK => ?_) AllReadyH.nil
  go_simp
  go_at_call 38
  refine (joined_at [allowB, ⟨#[32]⟩, x, ⟨#[32]⟩, g, ⟨#[10]⟩] a (by simp) htot).mono ?_
  rintro r7 w7 ⟨rfl, hb⟩
  go_wp2_with fail
  refine hK.out _ _ (HS.out _ (i.up hb)) (fun _ => ?_)
  clear hK K hHeld
  try simp only [Act.put, List.setIfInBounds_toArray, List.set_cons_zero, List.set_cons_succ]
  refine rw.region_w (fun u => (InW w 1 0 x g u) ∧ (rw.At u q (ss.cells [allowB, ⟨#[32]⟩, x, ⟨#[32]⟩, g, ⟨#[10]⟩]) 9)) ⟨i.up hb, a.up hb⟩ ?_
  clear i a hb
  rintro u ⟨i, a⟩
  have hHeld : (u.cell? ⟨w.heap.size, 2, none⟩ = some (.string x) ∧ u.cell? ⟨w.heap.size, 3, none⟩ = some (.string g)) := HS.out u i
  refine wpAnyH_take (i := 8) (oi := { dst := some 2, op := Op.assign (Operand.tmp 17), type := 9, pos := "l08_policy.go:129", after := #[{ on := 7, ground := Ground.data }, { on := 7, ground := Ground.chain }, { on := 0, ground := Ground.phase }, { on := 1, ground := Ground.phase }, { on := 2, ground := Ground.phase }, { on := 3, ground := Ground.phase }, { on := 4, ground := Ground.phase }, { on := 5, ground := Ground.phase }, { on := 6, ground := Ground.phase }, { on := 7, ground := Ground.phase }], guard := none }) (v := ?_) rfl (by kernel_rfl) (by kernel_rfl) (by kernel_rfl) (fun _ _ _ h => h) (Or.inl ⟨by rfl, ?_⟩) hHeld ?_
  rotate_left
  · rintro w ⟨z0, z1⟩; go_simp; (try with_reducible rfl)
  try simp only [Act.put, List.setIfInBounds_toArray, List.set_cons_zero, List.set_cons_succ]
  refine wpAnyH_done (by kernel_rfl) ?_ _
  refine NoPanic.normal ?_
  have HJ : Hid (Below w.heap.size w u) := i.1
  clear i a hHeld
  go_wp2
  go_ret
  exact ⟨rfl, HJ.out⟩
set_option maxHeartbeats 8000000 in
theorem line_hold (n : Int) (hn : 1 ≤ n ∧ n ≤ 3) (x g : ByteArray) (w : World) (hx : x.size ≤ 20) (hg : g.size ≤ 30) :
    Calls Tryd.prog 39 #[.agg #[.int .i64 2, .int .i64 n, .string x, .string g]] w fun e w' => e = .returned (.string (joinB [(holdB n), ⟨#[32]⟩, x, ⟨#[32]⟩, g, ⟨#[10]⟩])) ∧ Below w.heap.size w w' := by
  have HI : Hid (InW w 2 n x g (w.alloc (.cells #[.int .i64 2, .int .i64 n, .string x, .string g] 26))) := ⟨(Below.refl _ _).alloc (Nat.le_refl _) _, rw.At.new _ _ _⟩
  have HS : Hid (∀ u, InW w 2 n x g u → u.cell? ⟨w.heap.size, 2, none⟩ = some (.string x) ∧ u.cell? ⟨w.heap.size, 3, none⟩ = some (.string g)) := fun u h => ⟨h.2.cell 2, h.2.cell 3⟩
  have htot : total [(holdB n), ⟨#[32]⟩, x, ⟨#[32]⟩, g, ⟨#[10]⟩] ≤ 1099511627776 := by
    simp only [total, List.map_cons, List.map_nil, List.sum_cons, List.sum_nil]
    have e1 : (⟨#[32]⟩ : ByteArray).size = 1 := rfl
    have e2 : (⟨#[10]⟩ : ByteArray).size = 1 := rfl
    have e3 : (holdB n).size ≤ 6 := by unfold holdB; rw [ByteArray.size_append, decB_size]; exact Nat.le_refl 6
    omega
  have hr := fun u => rulingOf_any 2 n x g u
  have hkn : Known 2 n := .inr (.inr ⟨rfl, hn⟩)
  simp only [decide_eq_true hkn] at hr
  have HV : Hid (∀ v, (Known 2 n → v = sayV 2 n) → v = .iface 88 (.agg #[.int .i64 n])) := fun v h => h hkn
  have hmet := fun w => met_hold n w
  clear hkn
  go_enter Tryd.func39, Tryd.ntmps39
  go_wp2_with (go_at_call 33; fail)
  refine calls_w (InW w 2 n x g) HI.out ?_
  clear HI
  intro u0 i0
  refine (hr u0).mono ?_
  rintro e w1 ⟨⟨v, rfl, hv⟩, hb⟩
  obtain rfl := HV.out v hv
  have i := i0.up hb
  clear hb i0 hr hv HV
  go_wp2_with fail
  refine wp_region_noPanic ?_
  refine wp_region_held_drew (S := fun u => u.cell? ⟨w.heap.size, 2, none⟩ = some (.string x) ∧ u.cell? ⟨w.heap.size, 3, none⟩ = some (.string g)) (by kernel_rfl) (HS.out _ (i.up (rw.up_drew _))) (fun _ => ?_)
  refine rw.region_w (fun u => InW w 2 n x g u) (i.up (rw.up_drew _)) ?_
  clear i
  intro u i
  have hHeld : (u.cell? ⟨w.heap.size, 2, none⟩ = some (.string x) ∧ u.cell? ⟨w.heap.size, 3, none⟩ = some (.string g)) := HS.out u i
  refine wpAnyH_take (i := 0) (oi := { dst := some 10, op := Op.move (Operand.tmp 3), type := 51, pos := "l08_policy.go:129", after := #[], guard := none }) (v := ?_) rfl (by kernel_rfl) (by kernel_rfl) (by kernel_rfl) (fun _ _ _ h => h) (Or.inl ⟨by rfl, ?_⟩) hHeld ?_
  rotate_left
  · rintro w ⟨z0, z1⟩; go_simp; (try with_reducible rfl)
  try simp only [Act.put, List.setIfInBounds_toArray, List.set_cons_zero, List.set_cons_succ]
  refine wpAnyH_take (i := 2) (oi := { dst := some 12, op := Op.fieldAddr 26 (Operand.tmp 1) 2, type := 0, pos := "l08_policy.go:129", after := #[], guard := none }) (v := ?_) rfl (by kernel_rfl) (by kernel_rfl) (by kernel_rfl) (fun _ _ _ h => h) (Or.inl ⟨by rfl, ?_⟩) hHeld ?_
  rotate_left
  · rintro w ⟨z0, z1⟩; go_simp; (try with_reducible rfl)
  try simp only [Act.put, List.setIfInBounds_toArray, List.set_cons_zero, List.set_cons_succ]
  refine wpAnyH_take (i := 3) (oi := { dst := some 13, op := Op.load 9 (Operand.tmp 12), type := 9, pos := "l08_policy.go:129", after := #[{ on := 2, ground := Ground.data }], guard := none }) (v := ?_) rfl (by kernel_rfl) (by kernel_rfl) (by kernel_rfl) (fun _ _ _ h => h) (Or.inl ⟨by rfl, ?_⟩) hHeld ?_
  rotate_left
  · rintro w ⟨z0, z1⟩; go_simp; (try with_reducible rfl)
  try simp only [Act.put, List.setIfInBounds_toArray, List.set_cons_zero, List.set_cons_succ]
  refine wpAnyH_take (i := 4) (oi := { dst := some 14, op := Op.fieldAddr 26 (Operand.tmp 1) 3, type := 0, pos := "l08_policy.go:129", after := #[], guard := none }) (v := ?_) rfl (by kernel_rfl) (by kernel_rfl) (by kernel_rfl) (fun _ _ _ h => h) (Or.inl ⟨by rfl, ?_⟩) hHeld ?_
  rotate_left
  · rintro w ⟨z0, z1⟩; go_simp; (try with_reducible rfl)
  try simp only [Act.put, List.setIfInBounds_toArray, List.set_cons_zero, List.set_cons_succ]
  refine wpAnyH_take (i := 5) (oi := { dst := some 15, op := Op.load 9 (Operand.tmp 14), type := 9, pos := "l08_policy.go:129", after := #[{ on := 4, ground := Ground.data }], guard := none }) (v := ?_) rfl (by kernel_rfl) (by kernel_rfl) (by kernel_rfl) (fun _ _ _ h => h) (Or.inl ⟨by rfl, ?_⟩) hHeld ?_
  rotate_left
  · rintro w ⟨z0, z1⟩; go_simp; (try with_reducible rfl)
  try simp only [Act.put, List.setIfInBounds_toArray, List.set_cons_zero, List.set_cons_succ]
  refine wpAnyH_ready (rs := [1]) (by kernel_rfl) (by simp) ?_
  refine AllReadyH.cons rfl (fun K hK => ?_) AllReadyH.nil
  go_simp
  go_at_call 105
  refine (words_hold n u hn).mono ?_
  rintro r7 w7 ⟨rfl, hb⟩
  go_wp2_with fail
  refine hK.out _ _ (HS.out _ (i.up hb)) (fun _ => ?_)
  clear hK K hHeld
  try simp only [Act.put, List.setIfInBounds_toArray, List.set_cons_zero, List.set_cons_succ]
  refine rw.region_w (fun u => InW w 2 n x g u) (i.up hb) ?_
  clear i hb
  intro u i
  have hHeld : (u.cell? ⟨w.heap.size, 2, none⟩ = some (.string x) ∧ u.cell? ⟨w.heap.size, 3, none⟩ = some (.string g)) := HS.out u i
  refine wpAnyH_ready (rs := [6]) (by kernel_rfl) (by simp) ?_
  refine AllReadyH.cons rfl (fun K hK => ?_) AllReadyH.nil
  go_simp
  refine hK.out _ _ (HS.out _ (i.up (rw.up_alloc _ _))) (fun _ => ?_)
  clear hK K hHeld
  try simp only [Act.put, List.setIfInBounds_toArray, List.set_cons_zero, List.set_cons_succ]
  obtain ⟨q, hq⟩ : ∃ q, q = u.heap.size := ⟨_, rfl⟩
  rw [← hq]
  refine rw.region_w (fun u => (InW w 2 n x g u) ∧ (rw.At u q (ss.cells [(holdB n), ⟨#[32]⟩, x, ⟨#[32]⟩, g, ⟨#[10]⟩]) 9)) ⟨i.up (rw.up_alloc _ _), by rw [hq]; exact rw.At.new _ _ _⟩ ?_
  clear i
  rintro u ⟨i, a⟩
  have hHeld : (u.cell? ⟨w.heap.size, 2, none⟩ = some (.string x) ∧ u.cell? ⟨w.heap.size, 3, none⟩ = some (.string g)) := HS.out u i
  clear hq
  refine wpAnyH_ready (rs := [7]) (by kernel_rfl) (by simp) ?_
  refine AllReadyH.cons rfl (fun K hK => ?_) AllReadyH.nil
  go_simp
  go_at_call 38
  refine (joined_at [(holdB n), ⟨#[32]⟩, x, ⟨#[32]⟩, g, ⟨#[10]⟩] a (by simp) htot).mono ?_
  rintro r7 w7 ⟨rfl, hb⟩
  go_wp2_with fail
  refine hK.out _ _ (HS.out _ (i.up hb)) (fun _ => ?_)
  clear hK K hHeld
  try simp only [Act.put, List.setIfInBounds_toArray, List.set_cons_zero, List.set_cons_succ]
  refine rw.region_w (fun u => (InW w 2 n x g u) ∧ (rw.At u q (ss.cells [(holdB n), ⟨#[32]⟩, x, ⟨#[32]⟩, g, ⟨#[10]⟩]) 9)) ⟨i.up hb, a.up hb⟩ ?_
  clear i a hb
  rintro u ⟨i, a⟩
  have hHeld : (u.cell? ⟨w.heap.size, 2, none⟩ = some (.string x) ∧ u.cell? ⟨w.heap.size, 3, none⟩ = some (.string g)) := HS.out u i
  refine wpAnyH_take (i := 8) (oi := { dst := some 2, op := Op.assign (Operand.tmp 17), type := 9, pos := "l08_policy.go:129", after := #[{ on := 7, ground := Ground.data }, { on := 7, ground := Ground.chain }, { on := 0, ground := Ground.phase }, { on := 1, ground := Ground.phase }, { on := 2, ground := Ground.phase }, { on := 3, ground := Ground.phase }, { on := 4, ground := Ground.phase }, { on := 5, ground := Ground.phase }, { on := 6, ground := Ground.phase }, { on := 7, ground := Ground.phase }], guard := none }) (v := ?_) rfl (by kernel_rfl) (by kernel_rfl) (by kernel_rfl) (fun _ _ _ h => h) (Or.inl ⟨by rfl, ?_⟩) hHeld ?_
  rotate_left
  · rintro w ⟨z0, z1⟩; go_simp; (try with_reducible rfl)
  try simp only [Act.put, List.setIfInBounds_toArray, List.set_cons_zero, List.set_cons_succ]
  refine wpAnyH_done (by kernel_rfl) ?_ _
  refine NoPanic.normal ?_
  have HJ : Hid (Below w.heap.size w u) := i.1
  clear i a hHeld
  go_wp2
  go_ret
  exact ⟨rfl, HJ.out⟩
theorem lineOf_any {k n : Int} (hk : Known k n) (x g : ByteArray) (w : World) (hx : x.size ≤ 20) (hg : g.size ≤ 30) :
    Calls Tryd.prog 39 #[.agg #[.int .i64 k, .int .i64 n, .string x, .string g]] w fun e w' => e = .returned (.string (lineB k n x g)) ∧ Below w.heap.size w w' := by
  rcases hk with ⟨rfl, rfl⟩ | ⟨rfl, rfl⟩ | ⟨rfl, h1, h2⟩
  · exact line_deny x g w hx hg
  · exact line_allow x g w hx hg
  · exact line_hold n ⟨h1, h2⟩ x g w hx hg
end Go.Proofs.YtndjjhcdnlkekaaDoor.rl
