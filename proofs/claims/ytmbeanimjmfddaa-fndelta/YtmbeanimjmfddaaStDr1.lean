/-
  What is drawn for the laws on states: a text, a state. No old block but the source's turns. No condition.
-/
import Derived.Test.YtmbeanimjmfddaaDrawY
import Derived.Deep.RegionWith
import Derived.Deep.RegionHeld3
import Derived.Deep.QuietTactic
import Derived.BigQuiet
import Derived.Test.YtmbeanimjmfddaaDrawN
import Derived.Test.YtmbeanimjmfddaaRegW
namespace Go.Proofs.Ytmbeanimjmfddaa.sd
open Go.ChangeShapes Go.WideShapes Go.ChangeAt Go.RowKit
open Go.Proofs.Ytmbeanimjmfddaa.dr
open Go.Proofs.Ytmbeanimjmfddaa.dn
open Go.Proofs.Ytmbeanimjmfddaa.wi (heap_lt calls_w wp_w)
set_option linter.unusedVariables false

/-- one of three numbers -/
def num3 (k : Nat) : Int := if k = 0 then -1 else if k = 1 then 1000000 else 1000001
theorem num3_in (k : Nat) : -1 ≤ num3 k ∧ num3 k ≤ 1000001 := by unfold num3; split <;> (try split) <;> omega
theorem num3_cell (u : World) (v : Nat) (hv : v < 3) :
    (u.alloc (.cells #[.int .i64 (-1), .int .i64 1000000, .int .i64 1000001] 2)).cell? ⟨u.heap.size, v, none⟩ = some (.int .i64 (num3 v)) := by
  match v, hv with
  | 0, _ => simp [num3]
  | 1, _ => simp [num3]
  | 2, _ => simp [num3]
theorem cell_past (u : World) (o : Obj) (b i : Nat) (v : Value) (h : u.cell? ⟨b, i, none⟩ = some v) : (u.alloc o).cell? ⟨b, i, none⟩ = some v := by
  rw [World.cell?_alloc_some _ _ _ (by rw [h]; rfl)]; exact h
theorem num3_new1 (u : World) (o : Obj) (v : Nat) (hv : v < 3) :
    ((u.alloc o).alloc (.cells #[.int .i64 (-1), .int .i64 1000000, .int .i64 1000001] 2)).cell? ⟨u.heap.size + 1, v, none⟩ = some (.int .i64 (num3 v)) := by
  have h := num3_cell (u.alloc o) v hv
  rw [World.size_alloc] at h
  exact h
/-- the bytes 0 are read later, too -/
theorem zeros_later (N : Nat) (u w' : World) (hb : Below (u.alloc (.cells (madeCells #[.int .u8 0] N) 5)).heap.size (u.alloc (.cells (madeCells #[.int .u8 0] N) 5)) w') :
    (convert 22 9 (.slice (some ⟨u.heap.size, 0, none⟩) N N)).run Try.prog w' = .ok (.string ⟨(List.replicate N (0 : UInt8)).toArray⟩) w' := by
  have h := run_convert_bytes_back (P := Try.prog) w' 22 9 5 ⟨u.heap.size, 0, none⟩ N (List.replicate N (0 : UInt8)) Try.underlying22 Try.underlying5 Try.underlying9 (fun j hj => by
    have e : (⟨u.heap.size, 0, none⟩ : Addr).add j = ⟨u.heap.size, j, none⟩ := by unfold Addr.add; split <;> simp_all
    rw [e, hb.cell (p := ⟨u.heap.size, j, none⟩) (by show u.heap.size < _; simp)]
    simp at hj
    simp [madeCells, hj, Nat.mod_one])
  simpa using h

theorem zeros_conv_past (N : Nat) (u : World) (o : Obj) : (convert 22 9 (.slice (some ⟨u.heap.size + 1, 0, none⟩) N N)).run Try.prog ((u.alloc o).alloc (.cells (madeCells #[.int .u8 0] N) 5)) =
    .ok (.string ⟨(List.replicate N (0 : UInt8)).toArray⟩) ((u.alloc o).alloc (.cells (madeCells #[.int .u8 0] N) 5)) := by
  have h := zeros_conv N (u.alloc o)
  rw [World.size_alloc] at h
  exact h
theorem num3_at {u : World} {g k : Nat} {T : TypeId} (h : rw.At u g #[.int .i64 (-1), .int .i64 1000000, .int .i64 1000001] T) (hk : k < 3) : u.cell? ⟨g, k, none⟩ = some (.int .i64 (num3 k)) := by
  rw [h.cell k]
  match k, hk with
  | 0, _ => simp [num3]
  | 1, _ => simp [num3]
  | 2, _ => simp [num3]
theorem zeros_at (N : Nat) {u : World} {g : Nat} (h : rw.At u g (madeCells #[.int .u8 0] N) 5) :
    (convert 22 9 (.slice (some ⟨g, 0, none⟩) N N)).run Try.prog u = .ok (.string ⟨(List.replicate N (0 : UInt8)).toArray⟩) u := by
  have h := run_convert_bytes_back (P := Try.prog) u 22 9 5 ⟨g, 0, none⟩ N (List.replicate N (0 : UInt8)) Try.underlying22 Try.underlying5 Try.underlying9 (fun j hj => by
    have e : (⟨g, 0, none⟩ : Addr).add j = ⟨g, j, none⟩ := by unfold Addr.add; split <;> simp_all
    rw [e, h.cell j]
    simp at hj
    simp [madeCells, hj, Nat.mod_one])
  simpa using h
theorem six_cell (u : World) (A B C D E F : ByteArray) (v : Nat) (hv : v < 6) (h : A.size ≤ 3 ∧ B.size ≤ 3 ∧ C.size ≤ 3 ∧ D.size ≤ 3 ∧ E.size ≤ 3 ∧ F.size ≤ 3) :
    ∃ t : ByteArray, (u.alloc (.cells #[.string A, .string B, .string C, .string D, .string E, .string F] 9)).cell? ⟨u.heap.size, v, none⟩ = some (.string t) ∧ t.size ≤ 3 := by
  match v, hv with
  | 0, _ => exact ⟨A, by simp, h.1⟩
  | 1, _ => exact ⟨B, by simp, h.2.1⟩
  | 2, _ => exact ⟨C, by simp, h.2.2.1⟩
  | 3, _ => exact ⟨D, by simp, h.2.2.2.1⟩
  | 4, _ => exact ⟨E, by simp, h.2.2.2.2.1⟩
  | 5, _ => exact ⟨F, by simp, h.2.2.2.2.2⟩
theorem pick_six {w0 u : World} {a : Option Addr} {len cap : Nat} (h : At w0 a len cap u) (A B C D E F : ByteArray) (hs : A.size ≤ 3 ∧ B.size ≤ 3 ∧ C.size ≤ 3 ∧ D.size ≤ 3 ∧ E.size ≤ 3 ∧ F.size ≤ 3) :
    Calls Try.prog 60 #[.pointer (some ⟨w0.heap.size, 0, none⟩), .slice (some ⟨u.heap.size, 0, none⟩) 6 6] (u.alloc (.cells #[.string A, .string B, .string C, .string D, .string E, .string F] 9)) fun e w' => ∃ t : ByteArray, e = .returned (.string t) ∧ t.size ≤ 3 ∧ At w0 a len cap w' ∧ u.grownBy w' (some w0.heap.size) := by
  have hp : w0.heap.size < u.heap.size := h.1.lt
  go_enter Try.func60, Try.ntmps60
  go_wp2_with fail
  refine (dn.n_g (At.alloc h _) 6 (by omega) (by omega)).mono ?_
  rintro e w2 ⟨k, rfl, hk, hA, hg⟩
  obtain ⟨t, ht, h3⟩ := six_cell u A B C D E F k hk hs
  have hc := hg.cell ht (by simp; omega)
  have hgu : u.grownBy w2 (some w0.heap.size) := gtrans (World.grownBy_alloc _ _ _) hg
  clear ht hg hs
  go_wp2_with fail
  go_ret
  exact ⟨_, rfl, h3, hA, hgu⟩
set_option maxHeartbeats 2000000 in
theorem text_at {w0 u : World} {a : Option Addr} {len cap : Nat} (h : At w0 a len cap u) :
    Calls Try.prog 56 #[.pointer (some ⟨w0.heap.size, 0, none⟩)] u fun e w' => ∃ t : ByteArray, e = .returned (.string t) ∧ t.size ≤ 3 ∧ At w0 a len cap w' ∧ u.grownBy w' (some w0.heap.size) := by
  go_enter Try.func56, Try.ntmps56
  go_wp2_with (go_at_call 60; fail)
  refine (pick_six h _ _ _ _ _ _ (by decide)).mono ?_
  rintro e w2 ⟨t, rfl, ht, hA, hg⟩
  go_wp2_with fail
  go_ret
  exact ⟨_, rfl, ht, hA, hg⟩
theorem below_grown {u u' : World} {r : Option Nat} (hb : Below u.heap.size u u') : u.grownBy u' r := ⟨hb.os, hb.tape, hb.output, hb.size, fun k hk _ => hb.block k hk⟩
theorem at_gr {u u' : World} {q p : Nat} {cs : Array Value} {T : TypeId} (h : rw.At u q cs T) (hg : u.grownBy u' (some p)) (hq : q ≠ p) : rw.At u' q cs T := (hg.block q h.lt (by simp; omega)).trans h
theorem gr_set {u u' : World} {r : Option Nat} (h : u.grownBy u' r) {R : Nat} (hR : u.heap.size ≤ R) (k : Nat) (x : Value) : u.grownBy (u'.setCell ⟨R, k, none⟩ x) r :=
  ⟨h.os, h.tape, h.output, by simp [World.setCell]; exact h.size, fun i hi hr => by rw [heap_setCell_other _ _ _ _ (by show i ≠ R; omega)]; exact h.block i hi hr⟩
/-- a source at work, what the call found, the answer's block and another one -/
structure InD (w0 u0 : World) (a : Option Addr) (len cap R X : Nat) (cr cx : Array Value) (TR TX : TypeId) (u : World) : Prop where
  src : At w0 a len cap u
  gr : u0.grownBy u (some w0.heap.size)
  res : rw.At u R cr TR
  loc : rw.At u X cx TX
variable {w0 u0 u u' : World} {a : Option Addr} {len cap R X : Nat} {cr cx : Array Value} {TR TX : TypeId}
theorem InD.up (h : InD w0 u0 a len cap R X cr cx TR TX u) (hb : Below u.heap.size u u') : InD w0 u0 a len cap R X cr cx TR TX u' :=
  ⟨At.up h.src hb, gtrans h.gr (below_grown hb), h.res.up hb, h.loc.up hb⟩
theorem InD.next (h : InD w0 u0 a len cap R X cr cx TR TX u) (hA : At w0 a len cap u') (hg : u.grownBy u' (some w0.heap.size)) (h1 : R ≠ w0.heap.size) (h2 : X ≠ w0.heap.size) : InD w0 u0 a len cap R X cr cx TR TX u' :=
  ⟨hA, gtrans h.gr hg, at_gr h.res hg h1, at_gr h.loc hg h2⟩
abbrev fillD (u : World) (R : Nat) (x0 x1 : Value) : World := (u.setCell ⟨R, 0, none⟩ x0).setCell ⟨R, 1, none⟩ x1
theorem At.fillD (h : At w0 a len cap u) (hR : w0.heap.size < R) (x0 x1 : Value) : At w0 a len cap (fillD u R x0 x1) := At.set (At.set h hR) hR
theorem infoSt : (Try.prog.info? 24).map (·.size) = some 2 := by kernel_rfl
set_option maxHeartbeats 4000000 in
theorem state_at {w0 u0 : World} {a : Option Addr} {len cap : Nat} (h : At w0 a len cap u0) :
    Calls Try.prog 36 #[.pointer (some ⟨w0.heap.size, 0, none⟩)] u0 fun e w' => ∃ (n : Int) (t : ByteArray), e = .returned (.agg #[.int .i64 n, .string t]) ∧ -1 ≤ n ∧ n ≤ 1000001 ∧ t.size ≤ 401 ∧ At w0 a len cap w' ∧ u0.grownBy w' (some w0.heap.size) := by
  have hp : w0.heap.size < u0.heap.size := h.1.lt
  have hR0 := rw.At.new u0 #[.int .i64 0, .string ⟨#[]⟩] 24
  have g0 : u0.grownBy (u0.alloc (.cells #[.int .i64 0, .string ⟨#[]⟩] 24)) (some w0.heap.size) := World.grownBy_alloc _ _ _
  go_enter Try.func36, Try.ntmps36
  go_wp2_with fail
  refine (dn.n_g (At.alloc h _) 6 (by omega) (by omega)).mono ?_
  rintro e w1 ⟨k6, rfl, hk6, hA1, hg1⟩
  have hR1 := at_gr hR0 hg1 (by omega)
  have g1 := gtrans g0 hg1
  clear hR0 g0 hg1 h
  go_wp2_with (go_at_call 56; fail)
  refine (text_at hA1).mono ?_
  rintro e w2 ⟨t, rfl, ht, hA2, hg2⟩
  have hR2 := at_gr hR1 hg2 (by omega)
  have g2 := gtrans g1 hg2
  clear hR1 g1 hg2 hA1
  have HI : Hid (InD w0 u0 a len cap u0.heap.size w2.heap.size #[.int .i64 0, .string ⟨#[]⟩] #[.int .i64 k6, .string t] 24 24 (w2.alloc (.cells #[.int .i64 k6, .string t] 24))) :=
    ⟨At.alloc hA2 _, gtrans g2 (World.grownBy_alloc _ _ _), hR2.up (rw.up_alloc _ _), rw.At.new _ _ _⟩
  have hRX : u0.heap.size < w2.heap.size := hR2.lt
  have hs2 : w0.heap.size < w2.heap.size := by omega
  clear hA2 hR2 g2
  go_wp2_with (go_at_call 51; fail)
  refine calls_w (fun W => InD w0 u0 a len cap u0.heap.size w2.heap.size #[.int .i64 0, .string ⟨#[]⟩] #[.int .i64 k6, .string t] 24 24 W) HI.out ?_
  clear HI
  intro u3 i3
  refine (dn.one_g i3.src 15 (by omega) (by omega)).mono ?_
  rintro e w4 ⟨b, rfl, hA4, hg4⟩
  have i4 := i3.next hA4 hg4 (by omega) (by omega)
  clear i3 hA4 hg4
  obtain ⟨X, hX⟩ : ∃ X, X = w2.heap.size := ⟨_, rfl⟩
  rw [← hX] at i4 hRX hs2 ⊢
  clear hX
  cases b
  · have x0 := i4.loc.cell 0
    have x1 := i4.loc.cell 1
    have r0 := i4.res.cell 0
    have r1 := i4.res.cell 1
    have f0 := fun k => i4.res.frozen k
    have HD : Hid (rw.At (fillD w4 u0.heap.size (.int .i64 k6) (.string t)) u0.heap.size #[.int .i64 k6, .string t] 24 ∧ At w0 a len cap (fillD w4 u0.heap.size (.int .i64 k6) (.string t)) ∧ u0.grownBy (fillD w4 u0.heap.size (.int .i64 k6) (.string t)) (some w0.heap.size)) :=
      ⟨(i4.res.set 0 _).set 1 _, At.fillD i4.src hp _ _, gr_set (gr_set i4.gr (Nat.le_refl _) 0 _) (Nat.le_refl _) 1 _⟩
    clear i4
    go_wp2
    obtain ⟨d1, d2, d3⟩ := HD.out
    exact bodyPost_ret (results_cell_row Try.results36 _ _ u0.heap.size _ #[.int .i64 k6, .string t] _ _ rfl d1 Try.underlying24 rfl infoSt) rfl ⟨_, _, rfl, by omega, by omega, by omega, d2, d3⟩
  · go_wp2_with fail
    have HS : Hid (∀ (u : World) {cx : Array Value}, InD w0 u0 a len cap u0.heap.size X #[.int .i64 0, .string ⟨#[]⟩] cx 24 24 u → At w0 a len cap u) := fun _ _ h => h.src
    refine wp_region_noPanic ?_
    refine wp_region_held_drew (S := fun u => At w0 a len cap u) (by kernel_rfl) (HS.out _ (i4.up (rw.up_drew _))) (fun _ => ?_)
    refine rw.region_w (fun u => InD w0 u0 a len cap u0.heap.size X #[.int .i64 0, .string ⟨#[]⟩] #[.int .i64 k6, .string t] 24 24 u) (i4.up (rw.up_drew _)) ?_
    clear i4
    intro u i
    have hHeld : (At w0 a len cap u) := HS.out u i
    refine wpAnyH_take (i := 1) (oi := { dst := some 12, op := Op.move (Operand.tmp 0), type := 66, pos := "l07_sync.go:115", after := #[], guard := none }) (v := ?_) rfl (by kernel_rfl) (by kernel_rfl) (by kernel_rfl) (fun _ _ _ h => h) (Or.inl ⟨by rfl, ?_⟩) hHeld ?_
    rotate_left
    · rintro w _; go_simp; (try with_reducible rfl)
    try simp only [Act.put, List.setIfInBounds_toArray, List.set_cons_zero, List.set_cons_succ]
    refine wpAnyH_take (i := 5) (oi := { dst := some 16, op := Op.move (Operand.tmp 0), type := 66, pos := "l07_sync.go:115", after := #[], guard := none }) (v := ?_) rfl (by kernel_rfl) (by kernel_rfl) (by kernel_rfl) (fun _ _ _ h => h) (Or.inl ⟨by rfl, ?_⟩) hHeld ?_
    rotate_left
    · rintro w _; go_simp; (try with_reducible rfl)
    try simp only [Act.put, List.setIfInBounds_toArray, List.set_cons_zero, List.set_cons_succ]
    refine wpAnyH_ready (rs := [0, 2]) (by kernel_rfl) (by simp) ?_
    refine AllReadyH.cons rfl (fun K hK => ?_) (AllReadyH.cons rfl (fun K hK => ?_) AllReadyH.nil)
    · skip
      go_simp
      refine hK.out _ _ (HS.out _ (i.up (rw.up_alloc _ _))) (fun _ => ?_)
      clear hK K hHeld
      try simp only [Act.put, List.setIfInBounds_toArray, List.set_cons_zero, List.set_cons_succ]
      obtain ⟨g, hg⟩ : ∃ g, g = u.heap.size := ⟨_, rfl⟩
      rw [← hg]
      have ng : w0.heap.size < g := by rw [hg]; exact i.src.1.lt
      refine rw.region_w (fun u => (InD w0 u0 a len cap u0.heap.size X #[.int .i64 0, .string ⟨#[]⟩] #[.int .i64 k6, .string t] 24 24 u) ∧ (rw.At u g #[.int .i64 (-1), .int .i64 1000000, .int .i64 1000001] 2)) ⟨i.up (rw.up_alloc _ _), by rw [hg]; exact rw.At.new _ _ _⟩ ?_
      clear i
      rintro u ⟨i, g0⟩
      have hHeld : (At w0 a len cap u) := HS.out u i
      clear hg
      refine wpAnyH_ready (rs := [2]) (by kernel_rfl) (by simp) ?_
      refine AllReadyH.cons rfl (fun K hK => ?_) AllReadyH.nil
      go_simp
      go_at_call 52
      refine (dn.n_g i.src 3 (by omega) (by omega)).mono ?_
      rintro r7 w7 ⟨k3, rfl, hk3, hA7, hg7⟩
      go_wp2_with fail
      refine hK.out _ _ (HS.out _ (i.next hA7 hg7 (by omega) (by omega))) (fun _ => ?_)
      clear hK K hHeld
      try simp only [Act.put, List.setIfInBounds_toArray, List.set_cons_zero, List.set_cons_succ]
      refine rw.region_w (fun u => (InD w0 u0 a len cap u0.heap.size X #[.int .i64 0, .string ⟨#[]⟩] #[.int .i64 k6, .string t] 24 24 u) ∧ (rw.At u g #[.int .i64 (-1), .int .i64 1000000, .int .i64 1000001] 2)) ⟨i.next hA7 hg7 (by omega) (by omega), at_gr g0 hg7 (by omega)⟩ ?_
      clear i g0 hA7 hg7
      rintro u ⟨i, g0⟩
      have hHeld : (At w0 a len cap u) := HS.out u i
      have hk3i : (k3 : Int) < 3 := by omega
      refine wpAnyH_take (i := 3) (oi := { dst := some 14, op := Op.indexAddr 64 (Operand.tmp 11) (Operand.tmp 13), type := 0, pos := "l07_sync.go:115", after := #[{ on := 0, ground := Ground.data }, { on := 2, ground := Ground.data }], guard := none }) (v := ?_) rfl (by kernel_rfl) (by kernel_rfl) (by kernel_rfl) (fun _ _ _ h => h) (Or.inl ⟨by rfl, ?_⟩) hHeld ?_
      rotate_left
      · rintro w _; go_simp; (try with_reducible rfl)
      try simp only [Act.put, List.setIfInBounds_toArray, List.set_cons_zero, List.set_cons_succ]
      refine wpAnyH_ready (rs := [4, 6]) (by kernel_rfl) (by simp) ?_
      refine AllReadyH.cons rfl (fun K hK => ?_) (AllReadyH.cons rfl (fun K hK => ?_) AllReadyH.nil)
      · skip
        have c9 := num3_at g0 hk3
        go_simp
        refine hK.out _ _ (HS.out _ i) (fun _ => ?_)
        clear hK K c9
        try simp only [Act.put, List.setIfInBounds_toArray, List.set_cons_zero, List.set_cons_succ]
        refine wpAnyH_ready (rs := [6]) (by kernel_rfl) (by simp) ?_
        refine AllReadyH.cons rfl (fun K hK => ?_) AllReadyH.nil
        go_simp
        go_at_call 52
        refine (dn.n_g i.src 2 (by omega) (by omega)).mono ?_
        rintro r7 w7 ⟨k2, rfl, hk2, hA7, hg7⟩
        go_wp2_with fail
        refine hK.out _ _ (HS.out _ (i.next hA7 hg7 (by omega) (by omega))) (fun _ => ?_)
        clear hK K hHeld
        try simp only [Act.put, List.setIfInBounds_toArray, List.set_cons_zero, List.set_cons_succ]
        refine rw.region_w (fun u => (InD w0 u0 a len cap u0.heap.size X #[.int .i64 0, .string ⟨#[]⟩] #[.int .i64 k6, .string t] 24 24 u) ∧ (rw.At u g #[.int .i64 (-1), .int .i64 1000000, .int .i64 1000001] 2)) ⟨i.next hA7 hg7 (by omega) (by omega), at_gr g0 hg7 (by omega)⟩ ?_
        clear i g0 hA7 hg7
        rintro u ⟨i, g0⟩
        have hHeld : (At w0 a len cap u) := HS.out u i
        have e2 : IntKind.i64.wrap (400 + (k2 : Int)) = 400 + (k2 : Int) := by rw [IntKind.wrap_i64]; omega
        refine wpAnyH_take (i := 7) (oi := { dst := some 18, op := Op.binOp BinOp.add 2 (Operand.const (Value.int IntKind.i64 400)) (Operand.tmp 17) 2, type := 2, pos := "l07_sync.go:115", after := #[{ on := 6, ground := Ground.data }], guard := none }) (v := ?_) rfl (by kernel_rfl) (by kernel_rfl) (by kernel_rfl) (fun _ _ _ h => h) (Or.inl ⟨by rfl, ?_⟩) hHeld ?_
        rotate_left
        · rintro w _; go_simp; (try with_reducible rfl)
        try simp only [Act.put, List.setIfInBounds_toArray, List.set_cons_zero, List.set_cons_succ]
        refine wpAnyH_ready (rs := [8]) (by kernel_rfl) (by simp) ?_
        refine AllReadyH.cons rfl (fun K hK => ?_) AllReadyH.nil
        have hmk := fun u => zeros_make (400 + k2) (by omega) u
        rw [show ((400 + k2 : Nat) : Int) = 400 + (k2 : Int) by omega] at hmk
        go_simp
        clear hmk
        refine hK.out _ _ (HS.out _ (i.up (rw.up_alloc _ _))) (fun _ => ?_)
        clear hK K hHeld
        try simp only [Act.put, List.setIfInBounds_toArray, List.set_cons_zero, List.set_cons_succ]
        obtain ⟨gm, hgm⟩ : ∃ gm, gm = u.heap.size := ⟨_, rfl⟩
        rw [← hgm]
        have ngm : w0.heap.size < gm := by rw [hgm]; exact i.src.1.lt
        have ngmg : g < gm := by rw [hgm]; exact g0.lt
        refine rw.region_w (fun u => (InD w0 u0 a len cap u0.heap.size X #[.int .i64 0, .string ⟨#[]⟩] #[.int .i64 k6, .string t] 24 24 u) ∧ (rw.At u g #[.int .i64 (-1), .int .i64 1000000, .int .i64 1000001] 2) ∧ (rw.At u gm (madeCells #[.int .u8 0] (400 + k2)) 5)) ⟨i.up (rw.up_alloc _ _), g0.up (rw.up_alloc _ _), by rw [hgm]; exact rw.At.new _ _ _⟩ ?_
        clear i g0
        rintro u ⟨i, g0, m0⟩
        have hHeld : (At w0 a len cap u) := HS.out u i
        clear hgm
        refine wpAnyH_ready (rs := [9]) (by kernel_rfl) (by simp) ?_
        refine AllReadyH.cons rfl (fun K hK => ?_) AllReadyH.nil
        have c9 := zeros_at _ m0
        go_simp
        refine hK.out _ _ (HS.out _ i) (fun _ => ?_)
        clear hK K c9
        try simp only [Act.put, List.setIfInBounds_toArray, List.set_cons_zero, List.set_cons_succ]
        refine wpAnyH_take (i := 10) (oi := { dst := some 21, op := Op.build 24 #[(0, Operand.tmp 15), (1, Operand.tmp 20)], type := 24, pos := "l07_sync.go:115", after := #[{ on := 4, ground := Ground.data }, { on := 9, ground := Ground.data }], guard := none }) (v := ?_) rfl (by kernel_rfl) (by kernel_rfl) (by kernel_rfl) (fun _ _ _ h => h) (Or.inl ⟨by rfl, ?_⟩) hHeld ?_
        rotate_left
        · rintro w _; go_simp; (try with_reducible rfl)
        try simp only [Act.put, List.setIfInBounds_toArray, List.set_cons_zero, List.set_cons_succ]
        refine wpAnyH_ready (rs := [11]) (by kernel_rfl) (by simp) ?_
        refine AllReadyH.cons rfl (fun K hK => ?_) AllReadyH.nil
        have c0 := i.loc.cell 0
        have c1 := i.loc.cell 1
        have f0 := fun k => i.loc.frozen k
        go_simp
        refine hK.out _ _ (HS.out _ (⟨At.fillD i.src hs2 _ _, gr_set (gr_set i.gr (by omega) 0 _) (by omega) 1 _, (i.res.far (by omega) 0 _).far (by omega) 1 _, (i.loc.set 0 _).set 1 _⟩)) (fun _ => ?_)
        clear hK K hHeld
        try simp only [Act.put, List.setIfInBounds_toArray, List.set_cons_zero, List.set_cons_succ]
        refine rw.region_w (fun u => InD w0 u0 a len cap u0.heap.size X #[.int .i64 0, .string ⟨#[]⟩] #[.int .i64 (num3 k3), .string ⟨Array.replicate (400 + k2) 0⟩] 24 24 u) (⟨At.fillD i.src hs2 _ _, gr_set (gr_set i.gr (by omega) 0 _) (by omega) 1 _, (i.res.far (by omega) 0 _).far (by omega) 1 _, (i.loc.set 0 _).set 1 _⟩) ?_
        clear i g0 m0 c0 c1 f0
        intro u i
        have hHeld : (At w0 a len cap u) := HS.out u i
        refine wpAnyH_done (by kernel_rfl) ?_ _
        refine NoPanic.normal ?_
        have x0 := i.loc.cell 0
        have x1 := i.loc.cell 1
        have r0 := i.res.cell 0
        have r1 := i.res.cell 1
        have f0 := fun k => i.res.frozen k
        have HD : Hid (rw.At (fillD u u0.heap.size (.int .i64 (num3 k3)) (.string ⟨Array.replicate (400 + k2) 0⟩)) u0.heap.size #[.int .i64 (num3 k3), .string ⟨Array.replicate (400 + k2) 0⟩] 24 ∧ At w0 a len cap (fillD u u0.heap.size (.int .i64 (num3 k3)) (.string ⟨Array.replicate (400 + k2) 0⟩)) ∧ u0.grownBy (fillD u u0.heap.size (.int .i64 (num3 k3)) (.string ⟨Array.replicate (400 + k2) 0⟩)) (some w0.heap.size)) :=
          ⟨(i.res.set 0 _).set 1 _, At.fillD i.src hp _ _, gr_set (gr_set i.gr (Nat.le_refl _) 0 _) (Nat.le_refl _) 1 _⟩
        clear i HS hHeld e2
        go_wp2
        obtain ⟨d1, d2, d3⟩ := HD.out
        exact bodyPost_ret (results_cell_row Try.results36 _ _ u0.heap.size _ #[.int .i64 (num3 k3), .string ⟨Array.replicate (400 + k2) 0⟩] _ _ rfl d1 Try.underlying24 rfl infoSt) rfl ⟨_, _, rfl, (num3_in k3).1, (num3_in k3).2, by simp [ByteArray.size]; omega, d2, d3⟩
      · skip
        go_simp
        go_at_call 52
        refine (dn.n_g i.src 2 (by omega) (by omega)).mono ?_
        rintro r7 w7 ⟨k2, rfl, hk2, hA7, hg7⟩
        go_wp2_with fail
        refine hK.out _ _ (HS.out _ (i.next hA7 hg7 (by omega) (by omega))) (fun _ => ?_)
        clear hK K hHeld
        try simp only [Act.put, List.setIfInBounds_toArray, List.set_cons_zero, List.set_cons_succ]
        refine rw.region_w (fun u => (InD w0 u0 a len cap u0.heap.size X #[.int .i64 0, .string ⟨#[]⟩] #[.int .i64 k6, .string t] 24 24 u) ∧ (rw.At u g #[.int .i64 (-1), .int .i64 1000000, .int .i64 1000001] 2)) ⟨i.next hA7 hg7 (by omega) (by omega), at_gr g0 hg7 (by omega)⟩ ?_
        clear i g0 hA7 hg7
        rintro u ⟨i, g0⟩
        have hHeld : (At w0 a len cap u) := HS.out u i
        have e2 : IntKind.i64.wrap (400 + (k2 : Int)) = 400 + (k2 : Int) := by rw [IntKind.wrap_i64]; omega
        refine wpAnyH_take (i := 7) (oi := { dst := some 18, op := Op.binOp BinOp.add 2 (Operand.const (Value.int IntKind.i64 400)) (Operand.tmp 17) 2, type := 2, pos := "l07_sync.go:115", after := #[{ on := 6, ground := Ground.data }], guard := none }) (v := ?_) rfl (by kernel_rfl) (by kernel_rfl) (by kernel_rfl) (fun _ _ _ h => h) (Or.inl ⟨by rfl, ?_⟩) hHeld ?_
        rotate_left
        · rintro w _; go_simp; (try with_reducible rfl)
        try simp only [Act.put, List.setIfInBounds_toArray, List.set_cons_zero, List.set_cons_succ]
        refine wpAnyH_ready (rs := [4, 8]) (by kernel_rfl) (by simp) ?_
        refine AllReadyH.cons rfl (fun K hK => ?_) (AllReadyH.cons rfl (fun K hK => ?_) AllReadyH.nil)
        · skip
          have c9 := num3_at g0 hk3
          go_simp
          refine hK.out _ _ (HS.out _ i) (fun _ => ?_)
          clear hK K c9
          try simp only [Act.put, List.setIfInBounds_toArray, List.set_cons_zero, List.set_cons_succ]
          refine wpAnyH_ready (rs := [8]) (by kernel_rfl) (by simp) ?_
          refine AllReadyH.cons rfl (fun K hK => ?_) AllReadyH.nil
          have hmk := fun u => zeros_make (400 + k2) (by omega) u
          rw [show ((400 + k2 : Nat) : Int) = 400 + (k2 : Int) by omega] at hmk
          go_simp
          clear hmk
          refine hK.out _ _ (HS.out _ (i.up (rw.up_alloc _ _))) (fun _ => ?_)
          clear hK K hHeld
          try simp only [Act.put, List.setIfInBounds_toArray, List.set_cons_zero, List.set_cons_succ]
          obtain ⟨gm, hgm⟩ : ∃ gm, gm = u.heap.size := ⟨_, rfl⟩
          rw [← hgm]
          have ngm : w0.heap.size < gm := by rw [hgm]; exact i.src.1.lt
          have ngmg : g < gm := by rw [hgm]; exact g0.lt
          refine rw.region_w (fun u => (InD w0 u0 a len cap u0.heap.size X #[.int .i64 0, .string ⟨#[]⟩] #[.int .i64 k6, .string t] 24 24 u) ∧ (rw.At u g #[.int .i64 (-1), .int .i64 1000000, .int .i64 1000001] 2) ∧ (rw.At u gm (madeCells #[.int .u8 0] (400 + k2)) 5)) ⟨i.up (rw.up_alloc _ _), g0.up (rw.up_alloc _ _), by rw [hgm]; exact rw.At.new _ _ _⟩ ?_
          clear i g0
          rintro u ⟨i, g0, m0⟩
          have hHeld : (At w0 a len cap u) := HS.out u i
          clear hgm
          refine wpAnyH_ready (rs := [9]) (by kernel_rfl) (by simp) ?_
          refine AllReadyH.cons rfl (fun K hK => ?_) AllReadyH.nil
          have c9 := zeros_at _ m0
          go_simp
          refine hK.out _ _ (HS.out _ i) (fun _ => ?_)
          clear hK K c9
          try simp only [Act.put, List.setIfInBounds_toArray, List.set_cons_zero, List.set_cons_succ]
          refine wpAnyH_take (i := 10) (oi := { dst := some 21, op := Op.build 24 #[(0, Operand.tmp 15), (1, Operand.tmp 20)], type := 24, pos := "l07_sync.go:115", after := #[{ on := 4, ground := Ground.data }, { on := 9, ground := Ground.data }], guard := none }) (v := ?_) rfl (by kernel_rfl) (by kernel_rfl) (by kernel_rfl) (fun _ _ _ h => h) (Or.inl ⟨by rfl, ?_⟩) hHeld ?_
          rotate_left
          · rintro w _; go_simp; (try with_reducible rfl)
          try simp only [Act.put, List.setIfInBounds_toArray, List.set_cons_zero, List.set_cons_succ]
          refine wpAnyH_ready (rs := [11]) (by kernel_rfl) (by simp) ?_
          refine AllReadyH.cons rfl (fun K hK => ?_) AllReadyH.nil
          have c0 := i.loc.cell 0
          have c1 := i.loc.cell 1
          have f0 := fun k => i.loc.frozen k
          go_simp
          refine hK.out _ _ (HS.out _ (⟨At.fillD i.src hs2 _ _, gr_set (gr_set i.gr (by omega) 0 _) (by omega) 1 _, (i.res.far (by omega) 0 _).far (by omega) 1 _, (i.loc.set 0 _).set 1 _⟩)) (fun _ => ?_)
          clear hK K hHeld
          try simp only [Act.put, List.setIfInBounds_toArray, List.set_cons_zero, List.set_cons_succ]
          refine rw.region_w (fun u => InD w0 u0 a len cap u0.heap.size X #[.int .i64 0, .string ⟨#[]⟩] #[.int .i64 (num3 k3), .string ⟨Array.replicate (400 + k2) 0⟩] 24 24 u) (⟨At.fillD i.src hs2 _ _, gr_set (gr_set i.gr (by omega) 0 _) (by omega) 1 _, (i.res.far (by omega) 0 _).far (by omega) 1 _, (i.loc.set 0 _).set 1 _⟩) ?_
          clear i g0 m0 c0 c1 f0
          intro u i
          have hHeld : (At w0 a len cap u) := HS.out u i
          refine wpAnyH_done (by kernel_rfl) ?_ _
          refine NoPanic.normal ?_
          have x0 := i.loc.cell 0
          have x1 := i.loc.cell 1
          have r0 := i.res.cell 0
          have r1 := i.res.cell 1
          have f0 := fun k => i.res.frozen k
          have HD : Hid (rw.At (fillD u u0.heap.size (.int .i64 (num3 k3)) (.string ⟨Array.replicate (400 + k2) 0⟩)) u0.heap.size #[.int .i64 (num3 k3), .string ⟨Array.replicate (400 + k2) 0⟩] 24 ∧ At w0 a len cap (fillD u u0.heap.size (.int .i64 (num3 k3)) (.string ⟨Array.replicate (400 + k2) 0⟩)) ∧ u0.grownBy (fillD u u0.heap.size (.int .i64 (num3 k3)) (.string ⟨Array.replicate (400 + k2) 0⟩)) (some w0.heap.size)) :=
            ⟨(i.res.set 0 _).set 1 _, At.fillD i.src hp _ _, gr_set (gr_set i.gr (Nat.le_refl _) 0 _) (Nat.le_refl _) 1 _⟩
          clear i HS hHeld e2
          go_wp2
          obtain ⟨d1, d2, d3⟩ := HD.out
          exact bodyPost_ret (results_cell_row Try.results36 _ _ u0.heap.size _ #[.int .i64 (num3 k3), .string ⟨Array.replicate (400 + k2) 0⟩] _ _ rfl d1 Try.underlying24 rfl infoSt) rfl ⟨_, _, rfl, (num3_in k3).1, (num3_in k3).2, by simp [ByteArray.size]; omega, d2, d3⟩
        · skip
          have hmk := fun u => zeros_make (400 + k2) (by omega) u
          rw [show ((400 + k2 : Nat) : Int) = 400 + (k2 : Int) by omega] at hmk
          go_simp
          clear hmk
          refine hK.out _ _ (HS.out _ (i.up (rw.up_alloc _ _))) (fun _ => ?_)
          clear hK K hHeld
          try simp only [Act.put, List.setIfInBounds_toArray, List.set_cons_zero, List.set_cons_succ]
          obtain ⟨gm, hgm⟩ : ∃ gm, gm = u.heap.size := ⟨_, rfl⟩
          rw [← hgm]
          have ngm : w0.heap.size < gm := by rw [hgm]; exact i.src.1.lt
          have ngmg : g < gm := by rw [hgm]; exact g0.lt
          refine rw.region_w (fun u => (InD w0 u0 a len cap u0.heap.size X #[.int .i64 0, .string ⟨#[]⟩] #[.int .i64 k6, .string t] 24 24 u) ∧ (rw.At u g #[.int .i64 (-1), .int .i64 1000000, .int .i64 1000001] 2) ∧ (rw.At u gm (madeCells #[.int .u8 0] (400 + k2)) 5)) ⟨i.up (rw.up_alloc _ _), g0.up (rw.up_alloc _ _), by rw [hgm]; exact rw.At.new _ _ _⟩ ?_
          clear i g0
          rintro u ⟨i, g0, m0⟩
          have hHeld : (At w0 a len cap u) := HS.out u i
          clear hgm
          refine wpAnyH_ready (rs := [4, 9]) (by kernel_rfl) (by simp) ?_
          refine AllReadyH.cons rfl (fun K hK => ?_) (AllReadyH.cons rfl (fun K hK => ?_) AllReadyH.nil)
          · skip
            have c9 := num3_at g0 hk3
            go_simp
            refine hK.out _ _ (HS.out _ i) (fun _ => ?_)
            clear hK K c9
            try simp only [Act.put, List.setIfInBounds_toArray, List.set_cons_zero, List.set_cons_succ]
            refine wpAnyH_ready (rs := [9]) (by kernel_rfl) (by simp) ?_
            refine AllReadyH.cons rfl (fun K hK => ?_) AllReadyH.nil
            have c9 := zeros_at _ m0
            go_simp
            refine hK.out _ _ (HS.out _ i) (fun _ => ?_)
            clear hK K c9
            try simp only [Act.put, List.setIfInBounds_toArray, List.set_cons_zero, List.set_cons_succ]
            refine wpAnyH_take (i := 10) (oi := { dst := some 21, op := Op.build 24 #[(0, Operand.tmp 15), (1, Operand.tmp 20)], type := 24, pos := "l07_sync.go:115", after := #[{ on := 4, ground := Ground.data }, { on := 9, ground := Ground.data }], guard := none }) (v := ?_) rfl (by kernel_rfl) (by kernel_rfl) (by kernel_rfl) (fun _ _ _ h => h) (Or.inl ⟨by rfl, ?_⟩) hHeld ?_
            rotate_left
            · rintro w _; go_simp; (try with_reducible rfl)
            try simp only [Act.put, List.setIfInBounds_toArray, List.set_cons_zero, List.set_cons_succ]
            refine wpAnyH_ready (rs := [11]) (by kernel_rfl) (by simp) ?_
            refine AllReadyH.cons rfl (fun K hK => ?_) AllReadyH.nil
            have c0 := i.loc.cell 0
            have c1 := i.loc.cell 1
            have f0 := fun k => i.loc.frozen k
            go_simp
            refine hK.out _ _ (HS.out _ (⟨At.fillD i.src hs2 _ _, gr_set (gr_set i.gr (by omega) 0 _) (by omega) 1 _, (i.res.far (by omega) 0 _).far (by omega) 1 _, (i.loc.set 0 _).set 1 _⟩)) (fun _ => ?_)
            clear hK K hHeld
            try simp only [Act.put, List.setIfInBounds_toArray, List.set_cons_zero, List.set_cons_succ]
            refine rw.region_w (fun u => InD w0 u0 a len cap u0.heap.size X #[.int .i64 0, .string ⟨#[]⟩] #[.int .i64 (num3 k3), .string ⟨Array.replicate (400 + k2) 0⟩] 24 24 u) (⟨At.fillD i.src hs2 _ _, gr_set (gr_set i.gr (by omega) 0 _) (by omega) 1 _, (i.res.far (by omega) 0 _).far (by omega) 1 _, (i.loc.set 0 _).set 1 _⟩) ?_
            clear i g0 m0 c0 c1 f0
            intro u i
            have hHeld : (At w0 a len cap u) := HS.out u i
            refine wpAnyH_done (by kernel_rfl) ?_ _
            refine NoPanic.normal ?_
            have x0 := i.loc.cell 0
            have x1 := i.loc.cell 1
            have r0 := i.res.cell 0
            have r1 := i.res.cell 1
            have f0 := fun k => i.res.frozen k
            have HD : Hid (rw.At (fillD u u0.heap.size (.int .i64 (num3 k3)) (.string ⟨Array.replicate (400 + k2) 0⟩)) u0.heap.size #[.int .i64 (num3 k3), .string ⟨Array.replicate (400 + k2) 0⟩] 24 ∧ At w0 a len cap (fillD u u0.heap.size (.int .i64 (num3 k3)) (.string ⟨Array.replicate (400 + k2) 0⟩)) ∧ u0.grownBy (fillD u u0.heap.size (.int .i64 (num3 k3)) (.string ⟨Array.replicate (400 + k2) 0⟩)) (some w0.heap.size)) :=
              ⟨(i.res.set 0 _).set 1 _, At.fillD i.src hp _ _, gr_set (gr_set i.gr (Nat.le_refl _) 0 _) (Nat.le_refl _) 1 _⟩
            clear i HS hHeld e2
            go_wp2
            obtain ⟨d1, d2, d3⟩ := HD.out
            exact bodyPost_ret (results_cell_row Try.results36 _ _ u0.heap.size _ #[.int .i64 (num3 k3), .string ⟨Array.replicate (400 + k2) 0⟩] _ _ rfl d1 Try.underlying24 rfl infoSt) rfl ⟨_, _, rfl, (num3_in k3).1, (num3_in k3).2, by simp [ByteArray.size]; omega, d2, d3⟩
          · skip
            have c9 := zeros_at _ m0
            go_simp
            refine hK.out _ _ (HS.out _ i) (fun _ => ?_)
            clear hK K c9
            try simp only [Act.put, List.setIfInBounds_toArray, List.set_cons_zero, List.set_cons_succ]
            refine wpAnyH_ready (rs := [4]) (by kernel_rfl) (by simp) ?_
            refine AllReadyH.cons rfl (fun K hK => ?_) AllReadyH.nil
            have c9 := num3_at g0 hk3
            go_simp
            refine hK.out _ _ (HS.out _ i) (fun _ => ?_)
            clear hK K c9
            try simp only [Act.put, List.setIfInBounds_toArray, List.set_cons_zero, List.set_cons_succ]
            refine wpAnyH_take (i := 10) (oi := { dst := some 21, op := Op.build 24 #[(0, Operand.tmp 15), (1, Operand.tmp 20)], type := 24, pos := "l07_sync.go:115", after := #[{ on := 4, ground := Ground.data }, { on := 9, ground := Ground.data }], guard := none }) (v := ?_) rfl (by kernel_rfl) (by kernel_rfl) (by kernel_rfl) (fun _ _ _ h => h) (Or.inl ⟨by rfl, ?_⟩) hHeld ?_
            rotate_left
            · rintro w _; go_simp; (try with_reducible rfl)
            try simp only [Act.put, List.setIfInBounds_toArray, List.set_cons_zero, List.set_cons_succ]
            refine wpAnyH_ready (rs := [11]) (by kernel_rfl) (by simp) ?_
            refine AllReadyH.cons rfl (fun K hK => ?_) AllReadyH.nil
            have c0 := i.loc.cell 0
            have c1 := i.loc.cell 1
            have f0 := fun k => i.loc.frozen k
            go_simp
            refine hK.out _ _ (HS.out _ (⟨At.fillD i.src hs2 _ _, gr_set (gr_set i.gr (by omega) 0 _) (by omega) 1 _, (i.res.far (by omega) 0 _).far (by omega) 1 _, (i.loc.set 0 _).set 1 _⟩)) (fun _ => ?_)
            clear hK K hHeld
            try simp only [Act.put, List.setIfInBounds_toArray, List.set_cons_zero, List.set_cons_succ]
            refine rw.region_w (fun u => InD w0 u0 a len cap u0.heap.size X #[.int .i64 0, .string ⟨#[]⟩] #[.int .i64 (num3 k3), .string ⟨Array.replicate (400 + k2) 0⟩] 24 24 u) (⟨At.fillD i.src hs2 _ _, gr_set (gr_set i.gr (by omega) 0 _) (by omega) 1 _, (i.res.far (by omega) 0 _).far (by omega) 1 _, (i.loc.set 0 _).set 1 _⟩) ?_
            clear i g0 m0 c0 c1 f0
            intro u i
            have hHeld : (At w0 a len cap u) := HS.out u i
            refine wpAnyH_done (by kernel_rfl) ?_ _
            refine NoPanic.normal ?_
            have x0 := i.loc.cell 0
            have x1 := i.loc.cell 1
            have r0 := i.res.cell 0
            have r1 := i.res.cell 1
            have f0 := fun k => i.res.frozen k
            have HD : Hid (rw.At (fillD u u0.heap.size (.int .i64 (num3 k3)) (.string ⟨Array.replicate (400 + k2) 0⟩)) u0.heap.size #[.int .i64 (num3 k3), .string ⟨Array.replicate (400 + k2) 0⟩] 24 ∧ At w0 a len cap (fillD u u0.heap.size (.int .i64 (num3 k3)) (.string ⟨Array.replicate (400 + k2) 0⟩)) ∧ u0.grownBy (fillD u u0.heap.size (.int .i64 (num3 k3)) (.string ⟨Array.replicate (400 + k2) 0⟩)) (some w0.heap.size)) :=
              ⟨(i.res.set 0 _).set 1 _, At.fillD i.src hp _ _, gr_set (gr_set i.gr (Nat.le_refl _) 0 _) (Nat.le_refl _) 1 _⟩
            clear i HS hHeld e2
            go_wp2
            obtain ⟨d1, d2, d3⟩ := HD.out
            exact bodyPost_ret (results_cell_row Try.results36 _ _ u0.heap.size _ #[.int .i64 (num3 k3), .string ⟨Array.replicate (400 + k2) 0⟩] _ _ rfl d1 Try.underlying24 rfl infoSt) rfl ⟨_, _, rfl, (num3_in k3).1, (num3_in k3).2, by simp [ByteArray.size]; omega, d2, d3⟩
    · skip
      go_simp
      go_at_call 52
      refine (dn.n_g i.src 3 (by omega) (by omega)).mono ?_
      rintro r7 w7 ⟨k3, rfl, hk3, hA7, hg7⟩
      go_wp2_with fail
      refine hK.out _ _ (HS.out _ (i.next hA7 hg7 (by omega) (by omega))) (fun _ => ?_)
      clear hK K hHeld
      try simp only [Act.put, List.setIfInBounds_toArray, List.set_cons_zero, List.set_cons_succ]
      refine rw.region_w (fun u => InD w0 u0 a len cap u0.heap.size X #[.int .i64 0, .string ⟨#[]⟩] #[.int .i64 k6, .string t] 24 24 u) (i.next hA7 hg7 (by omega) (by omega)) ?_
      clear i hA7 hg7
      intro u i
      have hHeld : (At w0 a len cap u) := HS.out u i
      have hk3i : (k3 : Int) < 3 := by omega
      refine wpAnyH_ready (rs := [0, 6]) (by kernel_rfl) (by simp) ?_
      refine AllReadyH.cons rfl (fun K hK => ?_) (AllReadyH.cons rfl (fun K hK => ?_) AllReadyH.nil)
      · skip
        go_simp
        refine hK.out _ _ (HS.out _ (i.up (rw.up_alloc _ _))) (fun _ => ?_)
        clear hK K hHeld
        try simp only [Act.put, List.setIfInBounds_toArray, List.set_cons_zero, List.set_cons_succ]
        obtain ⟨g, hg⟩ : ∃ g, g = u.heap.size := ⟨_, rfl⟩
        rw [← hg]
        have ng : w0.heap.size < g := by rw [hg]; exact i.src.1.lt
        refine rw.region_w (fun u => (InD w0 u0 a len cap u0.heap.size X #[.int .i64 0, .string ⟨#[]⟩] #[.int .i64 k6, .string t] 24 24 u) ∧ (rw.At u g #[.int .i64 (-1), .int .i64 1000000, .int .i64 1000001] 2)) ⟨i.up (rw.up_alloc _ _), by rw [hg]; exact rw.At.new _ _ _⟩ ?_
        clear i
        rintro u ⟨i, g0⟩
        have hHeld : (At w0 a len cap u) := HS.out u i
        clear hg
        refine wpAnyH_take (i := 3) (oi := { dst := some 14, op := Op.indexAddr 64 (Operand.tmp 11) (Operand.tmp 13), type := 0, pos := "l07_sync.go:115", after := #[{ on := 0, ground := Ground.data }, { on := 2, ground := Ground.data }], guard := none }) (v := ?_) rfl (by kernel_rfl) (by kernel_rfl) (by kernel_rfl) (fun _ _ _ h => h) (Or.inl ⟨by rfl, ?_⟩) hHeld ?_
        rotate_left
        · rintro w _; go_simp; (try with_reducible rfl)
        try simp only [Act.put, List.setIfInBounds_toArray, List.set_cons_zero, List.set_cons_succ]
        refine wpAnyH_ready (rs := [4, 6]) (by kernel_rfl) (by simp) ?_
        refine AllReadyH.cons rfl (fun K hK => ?_) (AllReadyH.cons rfl (fun K hK => ?_) AllReadyH.nil)
        · skip
          have c9 := num3_at g0 hk3
          go_simp
          refine hK.out _ _ (HS.out _ i) (fun _ => ?_)
          clear hK K c9
          try simp only [Act.put, List.setIfInBounds_toArray, List.set_cons_zero, List.set_cons_succ]
          refine wpAnyH_ready (rs := [6]) (by kernel_rfl) (by simp) ?_
          refine AllReadyH.cons rfl (fun K hK => ?_) AllReadyH.nil
          go_simp
          go_at_call 52
          refine (dn.n_g i.src 2 (by omega) (by omega)).mono ?_
          rintro r7 w7 ⟨k2, rfl, hk2, hA7, hg7⟩
          go_wp2_with fail
          refine hK.out _ _ (HS.out _ (i.next hA7 hg7 (by omega) (by omega))) (fun _ => ?_)
          clear hK K hHeld
          try simp only [Act.put, List.setIfInBounds_toArray, List.set_cons_zero, List.set_cons_succ]
          refine rw.region_w (fun u => (InD w0 u0 a len cap u0.heap.size X #[.int .i64 0, .string ⟨#[]⟩] #[.int .i64 k6, .string t] 24 24 u) ∧ (rw.At u g #[.int .i64 (-1), .int .i64 1000000, .int .i64 1000001] 2)) ⟨i.next hA7 hg7 (by omega) (by omega), at_gr g0 hg7 (by omega)⟩ ?_
          clear i g0 hA7 hg7
          rintro u ⟨i, g0⟩
          have hHeld : (At w0 a len cap u) := HS.out u i
          have e2 : IntKind.i64.wrap (400 + (k2 : Int)) = 400 + (k2 : Int) := by rw [IntKind.wrap_i64]; omega
          refine wpAnyH_take (i := 7) (oi := { dst := some 18, op := Op.binOp BinOp.add 2 (Operand.const (Value.int IntKind.i64 400)) (Operand.tmp 17) 2, type := 2, pos := "l07_sync.go:115", after := #[{ on := 6, ground := Ground.data }], guard := none }) (v := ?_) rfl (by kernel_rfl) (by kernel_rfl) (by kernel_rfl) (fun _ _ _ h => h) (Or.inl ⟨by rfl, ?_⟩) hHeld ?_
          rotate_left
          · rintro w _; go_simp; (try with_reducible rfl)
          try simp only [Act.put, List.setIfInBounds_toArray, List.set_cons_zero, List.set_cons_succ]
          refine wpAnyH_ready (rs := [8]) (by kernel_rfl) (by simp) ?_
          refine AllReadyH.cons rfl (fun K hK => ?_) AllReadyH.nil
          have hmk := fun u => zeros_make (400 + k2) (by omega) u
          rw [show ((400 + k2 : Nat) : Int) = 400 + (k2 : Int) by omega] at hmk
          go_simp
          clear hmk
          refine hK.out _ _ (HS.out _ (i.up (rw.up_alloc _ _))) (fun _ => ?_)
          clear hK K hHeld
          try simp only [Act.put, List.setIfInBounds_toArray, List.set_cons_zero, List.set_cons_succ]
          obtain ⟨gm, hgm⟩ : ∃ gm, gm = u.heap.size := ⟨_, rfl⟩
          rw [← hgm]
          have ngm : w0.heap.size < gm := by rw [hgm]; exact i.src.1.lt
          have ngmg : g < gm := by rw [hgm]; exact g0.lt
          refine rw.region_w (fun u => (InD w0 u0 a len cap u0.heap.size X #[.int .i64 0, .string ⟨#[]⟩] #[.int .i64 k6, .string t] 24 24 u) ∧ (rw.At u g #[.int .i64 (-1), .int .i64 1000000, .int .i64 1000001] 2) ∧ (rw.At u gm (madeCells #[.int .u8 0] (400 + k2)) 5)) ⟨i.up (rw.up_alloc _ _), g0.up (rw.up_alloc _ _), by rw [hgm]; exact rw.At.new _ _ _⟩ ?_
          clear i g0
          rintro u ⟨i, g0, m0⟩
          have hHeld : (At w0 a len cap u) := HS.out u i
          clear hgm
          refine wpAnyH_ready (rs := [9]) (by kernel_rfl) (by simp) ?_
          refine AllReadyH.cons rfl (fun K hK => ?_) AllReadyH.nil
          have c9 := zeros_at _ m0
          go_simp
          refine hK.out _ _ (HS.out _ i) (fun _ => ?_)
          clear hK K c9
          try simp only [Act.put, List.setIfInBounds_toArray, List.set_cons_zero, List.set_cons_succ]
          refine wpAnyH_take (i := 10) (oi := { dst := some 21, op := Op.build 24 #[(0, Operand.tmp 15), (1, Operand.tmp 20)], type := 24, pos := "l07_sync.go:115", after := #[{ on := 4, ground := Ground.data }, { on := 9, ground := Ground.data }], guard := none }) (v := ?_) rfl (by kernel_rfl) (by kernel_rfl) (by kernel_rfl) (fun _ _ _ h => h) (Or.inl ⟨by rfl, ?_⟩) hHeld ?_
          rotate_left
          · rintro w _; go_simp; (try with_reducible rfl)
          try simp only [Act.put, List.setIfInBounds_toArray, List.set_cons_zero, List.set_cons_succ]
          refine wpAnyH_ready (rs := [11]) (by kernel_rfl) (by simp) ?_
          refine AllReadyH.cons rfl (fun K hK => ?_) AllReadyH.nil
          have c0 := i.loc.cell 0
          have c1 := i.loc.cell 1
          have f0 := fun k => i.loc.frozen k
          go_simp
          refine hK.out _ _ (HS.out _ (⟨At.fillD i.src hs2 _ _, gr_set (gr_set i.gr (by omega) 0 _) (by omega) 1 _, (i.res.far (by omega) 0 _).far (by omega) 1 _, (i.loc.set 0 _).set 1 _⟩)) (fun _ => ?_)
          clear hK K hHeld
          try simp only [Act.put, List.setIfInBounds_toArray, List.set_cons_zero, List.set_cons_succ]
          refine rw.region_w (fun u => InD w0 u0 a len cap u0.heap.size X #[.int .i64 0, .string ⟨#[]⟩] #[.int .i64 (num3 k3), .string ⟨Array.replicate (400 + k2) 0⟩] 24 24 u) (⟨At.fillD i.src hs2 _ _, gr_set (gr_set i.gr (by omega) 0 _) (by omega) 1 _, (i.res.far (by omega) 0 _).far (by omega) 1 _, (i.loc.set 0 _).set 1 _⟩) ?_
          clear i g0 m0 c0 c1 f0
          intro u i
          have hHeld : (At w0 a len cap u) := HS.out u i
          refine wpAnyH_done (by kernel_rfl) ?_ _
          refine NoPanic.normal ?_
          have x0 := i.loc.cell 0
          have x1 := i.loc.cell 1
          have r0 := i.res.cell 0
          have r1 := i.res.cell 1
          have f0 := fun k => i.res.frozen k
          have HD : Hid (rw.At (fillD u u0.heap.size (.int .i64 (num3 k3)) (.string ⟨Array.replicate (400 + k2) 0⟩)) u0.heap.size #[.int .i64 (num3 k3), .string ⟨Array.replicate (400 + k2) 0⟩] 24 ∧ At w0 a len cap (fillD u u0.heap.size (.int .i64 (num3 k3)) (.string ⟨Array.replicate (400 + k2) 0⟩)) ∧ u0.grownBy (fillD u u0.heap.size (.int .i64 (num3 k3)) (.string ⟨Array.replicate (400 + k2) 0⟩)) (some w0.heap.size)) :=
            ⟨(i.res.set 0 _).set 1 _, At.fillD i.src hp _ _, gr_set (gr_set i.gr (Nat.le_refl _) 0 _) (Nat.le_refl _) 1 _⟩
          clear i HS hHeld e2
          go_wp2
          obtain ⟨d1, d2, d3⟩ := HD.out
          exact bodyPost_ret (results_cell_row Try.results36 _ _ u0.heap.size _ #[.int .i64 (num3 k3), .string ⟨Array.replicate (400 + k2) 0⟩] _ _ rfl d1 Try.underlying24 rfl infoSt) rfl ⟨_, _, rfl, (num3_in k3).1, (num3_in k3).2, by simp [ByteArray.size]; omega, d2, d3⟩
        · skip
          go_simp
          go_at_call 52
          refine (dn.n_g i.src 2 (by omega) (by omega)).mono ?_
          rintro r7 w7 ⟨k2, rfl, hk2, hA7, hg7⟩
          go_wp2_with fail
          refine hK.out _ _ (HS.out _ (i.next hA7 hg7 (by omega) (by omega))) (fun _ => ?_)
          clear hK K hHeld
          try simp only [Act.put, List.setIfInBounds_toArray, List.set_cons_zero, List.set_cons_succ]
          refine rw.region_w (fun u => (InD w0 u0 a len cap u0.heap.size X #[.int .i64 0, .string ⟨#[]⟩] #[.int .i64 k6, .string t] 24 24 u) ∧ (rw.At u g #[.int .i64 (-1), .int .i64 1000000, .int .i64 1000001] 2)) ⟨i.next hA7 hg7 (by omega) (by omega), at_gr g0 hg7 (by omega)⟩ ?_
          clear i g0 hA7 hg7
          rintro u ⟨i, g0⟩
          have hHeld : (At w0 a len cap u) := HS.out u i
          have e2 : IntKind.i64.wrap (400 + (k2 : Int)) = 400 + (k2 : Int) := by rw [IntKind.wrap_i64]; omega
          refine wpAnyH_take (i := 7) (oi := { dst := some 18, op := Op.binOp BinOp.add 2 (Operand.const (Value.int IntKind.i64 400)) (Operand.tmp 17) 2, type := 2, pos := "l07_sync.go:115", after := #[{ on := 6, ground := Ground.data }], guard := none }) (v := ?_) rfl (by kernel_rfl) (by kernel_rfl) (by kernel_rfl) (fun _ _ _ h => h) (Or.inl ⟨by rfl, ?_⟩) hHeld ?_
          rotate_left
          · rintro w _; go_simp; (try with_reducible rfl)
          try simp only [Act.put, List.setIfInBounds_toArray, List.set_cons_zero, List.set_cons_succ]
          refine wpAnyH_ready (rs := [4, 8]) (by kernel_rfl) (by simp) ?_
          refine AllReadyH.cons rfl (fun K hK => ?_) (AllReadyH.cons rfl (fun K hK => ?_) AllReadyH.nil)
          · skip
            have c9 := num3_at g0 hk3
            go_simp
            refine hK.out _ _ (HS.out _ i) (fun _ => ?_)
            clear hK K c9
            try simp only [Act.put, List.setIfInBounds_toArray, List.set_cons_zero, List.set_cons_succ]
            refine wpAnyH_ready (rs := [8]) (by kernel_rfl) (by simp) ?_
            refine AllReadyH.cons rfl (fun K hK => ?_) AllReadyH.nil
            have hmk := fun u => zeros_make (400 + k2) (by omega) u
            rw [show ((400 + k2 : Nat) : Int) = 400 + (k2 : Int) by omega] at hmk
            go_simp
            clear hmk
            refine hK.out _ _ (HS.out _ (i.up (rw.up_alloc _ _))) (fun _ => ?_)
            clear hK K hHeld
            try simp only [Act.put, List.setIfInBounds_toArray, List.set_cons_zero, List.set_cons_succ]
            obtain ⟨gm, hgm⟩ : ∃ gm, gm = u.heap.size := ⟨_, rfl⟩
            rw [← hgm]
            have ngm : w0.heap.size < gm := by rw [hgm]; exact i.src.1.lt
            have ngmg : g < gm := by rw [hgm]; exact g0.lt
            refine rw.region_w (fun u => (InD w0 u0 a len cap u0.heap.size X #[.int .i64 0, .string ⟨#[]⟩] #[.int .i64 k6, .string t] 24 24 u) ∧ (rw.At u g #[.int .i64 (-1), .int .i64 1000000, .int .i64 1000001] 2) ∧ (rw.At u gm (madeCells #[.int .u8 0] (400 + k2)) 5)) ⟨i.up (rw.up_alloc _ _), g0.up (rw.up_alloc _ _), by rw [hgm]; exact rw.At.new _ _ _⟩ ?_
            clear i g0
            rintro u ⟨i, g0, m0⟩
            have hHeld : (At w0 a len cap u) := HS.out u i
            clear hgm
            refine wpAnyH_ready (rs := [9]) (by kernel_rfl) (by simp) ?_
            refine AllReadyH.cons rfl (fun K hK => ?_) AllReadyH.nil
            have c9 := zeros_at _ m0
            go_simp
            refine hK.out _ _ (HS.out _ i) (fun _ => ?_)
            clear hK K c9
            try simp only [Act.put, List.setIfInBounds_toArray, List.set_cons_zero, List.set_cons_succ]
            refine wpAnyH_take (i := 10) (oi := { dst := some 21, op := Op.build 24 #[(0, Operand.tmp 15), (1, Operand.tmp 20)], type := 24, pos := "l07_sync.go:115", after := #[{ on := 4, ground := Ground.data }, { on := 9, ground := Ground.data }], guard := none }) (v := ?_) rfl (by kernel_rfl) (by kernel_rfl) (by kernel_rfl) (fun _ _ _ h => h) (Or.inl ⟨by rfl, ?_⟩) hHeld ?_
            rotate_left
            · rintro w _; go_simp; (try with_reducible rfl)
            try simp only [Act.put, List.setIfInBounds_toArray, List.set_cons_zero, List.set_cons_succ]
            refine wpAnyH_ready (rs := [11]) (by kernel_rfl) (by simp) ?_
            refine AllReadyH.cons rfl (fun K hK => ?_) AllReadyH.nil
            have c0 := i.loc.cell 0
            have c1 := i.loc.cell 1
            have f0 := fun k => i.loc.frozen k
            go_simp
            refine hK.out _ _ (HS.out _ (⟨At.fillD i.src hs2 _ _, gr_set (gr_set i.gr (by omega) 0 _) (by omega) 1 _, (i.res.far (by omega) 0 _).far (by omega) 1 _, (i.loc.set 0 _).set 1 _⟩)) (fun _ => ?_)
            clear hK K hHeld
            try simp only [Act.put, List.setIfInBounds_toArray, List.set_cons_zero, List.set_cons_succ]
            refine rw.region_w (fun u => InD w0 u0 a len cap u0.heap.size X #[.int .i64 0, .string ⟨#[]⟩] #[.int .i64 (num3 k3), .string ⟨Array.replicate (400 + k2) 0⟩] 24 24 u) (⟨At.fillD i.src hs2 _ _, gr_set (gr_set i.gr (by omega) 0 _) (by omega) 1 _, (i.res.far (by omega) 0 _).far (by omega) 1 _, (i.loc.set 0 _).set 1 _⟩) ?_
            clear i g0 m0 c0 c1 f0
            intro u i
            have hHeld : (At w0 a len cap u) := HS.out u i
            refine wpAnyH_done (by kernel_rfl) ?_ _
            refine NoPanic.normal ?_
            have x0 := i.loc.cell 0
            have x1 := i.loc.cell 1
            have r0 := i.res.cell 0
            have r1 := i.res.cell 1
            have f0 := fun k => i.res.frozen k
            have HD : Hid (rw.At (fillD u u0.heap.size (.int .i64 (num3 k3)) (.string ⟨Array.replicate (400 + k2) 0⟩)) u0.heap.size #[.int .i64 (num3 k3), .string ⟨Array.replicate (400 + k2) 0⟩] 24 ∧ At w0 a len cap (fillD u u0.heap.size (.int .i64 (num3 k3)) (.string ⟨Array.replicate (400 + k2) 0⟩)) ∧ u0.grownBy (fillD u u0.heap.size (.int .i64 (num3 k3)) (.string ⟨Array.replicate (400 + k2) 0⟩)) (some w0.heap.size)) :=
              ⟨(i.res.set 0 _).set 1 _, At.fillD i.src hp _ _, gr_set (gr_set i.gr (Nat.le_refl _) 0 _) (Nat.le_refl _) 1 _⟩
            clear i HS hHeld e2
            go_wp2
            obtain ⟨d1, d2, d3⟩ := HD.out
            exact bodyPost_ret (results_cell_row Try.results36 _ _ u0.heap.size _ #[.int .i64 (num3 k3), .string ⟨Array.replicate (400 + k2) 0⟩] _ _ rfl d1 Try.underlying24 rfl infoSt) rfl ⟨_, _, rfl, (num3_in k3).1, (num3_in k3).2, by simp [ByteArray.size]; omega, d2, d3⟩
          · skip
            have hmk := fun u => zeros_make (400 + k2) (by omega) u
            rw [show ((400 + k2 : Nat) : Int) = 400 + (k2 : Int) by omega] at hmk
            go_simp
            clear hmk
            refine hK.out _ _ (HS.out _ (i.up (rw.up_alloc _ _))) (fun _ => ?_)
            clear hK K hHeld
            try simp only [Act.put, List.setIfInBounds_toArray, List.set_cons_zero, List.set_cons_succ]
            obtain ⟨gm, hgm⟩ : ∃ gm, gm = u.heap.size := ⟨_, rfl⟩
            rw [← hgm]
            have ngm : w0.heap.size < gm := by rw [hgm]; exact i.src.1.lt
            have ngmg : g < gm := by rw [hgm]; exact g0.lt
            refine rw.region_w (fun u => (InD w0 u0 a len cap u0.heap.size X #[.int .i64 0, .string ⟨#[]⟩] #[.int .i64 k6, .string t] 24 24 u) ∧ (rw.At u g #[.int .i64 (-1), .int .i64 1000000, .int .i64 1000001] 2) ∧ (rw.At u gm (madeCells #[.int .u8 0] (400 + k2)) 5)) ⟨i.up (rw.up_alloc _ _), g0.up (rw.up_alloc _ _), by rw [hgm]; exact rw.At.new _ _ _⟩ ?_
            clear i g0
            rintro u ⟨i, g0, m0⟩
            have hHeld : (At w0 a len cap u) := HS.out u i
            clear hgm
            refine wpAnyH_ready (rs := [4, 9]) (by kernel_rfl) (by simp) ?_
            refine AllReadyH.cons rfl (fun K hK => ?_) (AllReadyH.cons rfl (fun K hK => ?_) AllReadyH.nil)
            · skip
              have c9 := num3_at g0 hk3
              go_simp
              refine hK.out _ _ (HS.out _ i) (fun _ => ?_)
              clear hK K c9
              try simp only [Act.put, List.setIfInBounds_toArray, List.set_cons_zero, List.set_cons_succ]
              refine wpAnyH_ready (rs := [9]) (by kernel_rfl) (by simp) ?_
              refine AllReadyH.cons rfl (fun K hK => ?_) AllReadyH.nil
              have c9 := zeros_at _ m0
              go_simp
              refine hK.out _ _ (HS.out _ i) (fun _ => ?_)
              clear hK K c9
              try simp only [Act.put, List.setIfInBounds_toArray, List.set_cons_zero, List.set_cons_succ]
              refine wpAnyH_take (i := 10) (oi := { dst := some 21, op := Op.build 24 #[(0, Operand.tmp 15), (1, Operand.tmp 20)], type := 24, pos := "l07_sync.go:115", after := #[{ on := 4, ground := Ground.data }, { on := 9, ground := Ground.data }], guard := none }) (v := ?_) rfl (by kernel_rfl) (by kernel_rfl) (by kernel_rfl) (fun _ _ _ h => h) (Or.inl ⟨by rfl, ?_⟩) hHeld ?_
              rotate_left
              · rintro w _; go_simp; (try with_reducible rfl)
              try simp only [Act.put, List.setIfInBounds_toArray, List.set_cons_zero, List.set_cons_succ]
              refine wpAnyH_ready (rs := [11]) (by kernel_rfl) (by simp) ?_
              refine AllReadyH.cons rfl (fun K hK => ?_) AllReadyH.nil
              have c0 := i.loc.cell 0
              have c1 := i.loc.cell 1
              have f0 := fun k => i.loc.frozen k
              go_simp
              refine hK.out _ _ (HS.out _ (⟨At.fillD i.src hs2 _ _, gr_set (gr_set i.gr (by omega) 0 _) (by omega) 1 _, (i.res.far (by omega) 0 _).far (by omega) 1 _, (i.loc.set 0 _).set 1 _⟩)) (fun _ => ?_)
              clear hK K hHeld
              try simp only [Act.put, List.setIfInBounds_toArray, List.set_cons_zero, List.set_cons_succ]
              refine rw.region_w (fun u => InD w0 u0 a len cap u0.heap.size X #[.int .i64 0, .string ⟨#[]⟩] #[.int .i64 (num3 k3), .string ⟨Array.replicate (400 + k2) 0⟩] 24 24 u) (⟨At.fillD i.src hs2 _ _, gr_set (gr_set i.gr (by omega) 0 _) (by omega) 1 _, (i.res.far (by omega) 0 _).far (by omega) 1 _, (i.loc.set 0 _).set 1 _⟩) ?_
              clear i g0 m0 c0 c1 f0
              intro u i
              have hHeld : (At w0 a len cap u) := HS.out u i
              refine wpAnyH_done (by kernel_rfl) ?_ _
              refine NoPanic.normal ?_
              have x0 := i.loc.cell 0
              have x1 := i.loc.cell 1
              have r0 := i.res.cell 0
              have r1 := i.res.cell 1
              have f0 := fun k => i.res.frozen k
              have HD : Hid (rw.At (fillD u u0.heap.size (.int .i64 (num3 k3)) (.string ⟨Array.replicate (400 + k2) 0⟩)) u0.heap.size #[.int .i64 (num3 k3), .string ⟨Array.replicate (400 + k2) 0⟩] 24 ∧ At w0 a len cap (fillD u u0.heap.size (.int .i64 (num3 k3)) (.string ⟨Array.replicate (400 + k2) 0⟩)) ∧ u0.grownBy (fillD u u0.heap.size (.int .i64 (num3 k3)) (.string ⟨Array.replicate (400 + k2) 0⟩)) (some w0.heap.size)) :=
                ⟨(i.res.set 0 _).set 1 _, At.fillD i.src hp _ _, gr_set (gr_set i.gr (Nat.le_refl _) 0 _) (Nat.le_refl _) 1 _⟩
              clear i HS hHeld e2
              go_wp2
              obtain ⟨d1, d2, d3⟩ := HD.out
              exact bodyPost_ret (results_cell_row Try.results36 _ _ u0.heap.size _ #[.int .i64 (num3 k3), .string ⟨Array.replicate (400 + k2) 0⟩] _ _ rfl d1 Try.underlying24 rfl infoSt) rfl ⟨_, _, rfl, (num3_in k3).1, (num3_in k3).2, by simp [ByteArray.size]; omega, d2, d3⟩
            · skip
              have c9 := zeros_at _ m0
              go_simp
              refine hK.out _ _ (HS.out _ i) (fun _ => ?_)
              clear hK K c9
              try simp only [Act.put, List.setIfInBounds_toArray, List.set_cons_zero, List.set_cons_succ]
              refine wpAnyH_ready (rs := [4]) (by kernel_rfl) (by simp) ?_
              refine AllReadyH.cons rfl (fun K hK => ?_) AllReadyH.nil
              have c9 := num3_at g0 hk3
              go_simp
              refine hK.out _ _ (HS.out _ i) (fun _ => ?_)
              clear hK K c9
              try simp only [Act.put, List.setIfInBounds_toArray, List.set_cons_zero, List.set_cons_succ]
              refine wpAnyH_take (i := 10) (oi := { dst := some 21, op := Op.build 24 #[(0, Operand.tmp 15), (1, Operand.tmp 20)], type := 24, pos := "l07_sync.go:115", after := #[{ on := 4, ground := Ground.data }, { on := 9, ground := Ground.data }], guard := none }) (v := ?_) rfl (by kernel_rfl) (by kernel_rfl) (by kernel_rfl) (fun _ _ _ h => h) (Or.inl ⟨by rfl, ?_⟩) hHeld ?_
              rotate_left
              · rintro w _; go_simp; (try with_reducible rfl)
              try simp only [Act.put, List.setIfInBounds_toArray, List.set_cons_zero, List.set_cons_succ]
              refine wpAnyH_ready (rs := [11]) (by kernel_rfl) (by simp) ?_
              refine AllReadyH.cons rfl (fun K hK => ?_) AllReadyH.nil
              have c0 := i.loc.cell 0
              have c1 := i.loc.cell 1
              have f0 := fun k => i.loc.frozen k
              go_simp
              refine hK.out _ _ (HS.out _ (⟨At.fillD i.src hs2 _ _, gr_set (gr_set i.gr (by omega) 0 _) (by omega) 1 _, (i.res.far (by omega) 0 _).far (by omega) 1 _, (i.loc.set 0 _).set 1 _⟩)) (fun _ => ?_)
              clear hK K hHeld
              try simp only [Act.put, List.setIfInBounds_toArray, List.set_cons_zero, List.set_cons_succ]
              refine rw.region_w (fun u => InD w0 u0 a len cap u0.heap.size X #[.int .i64 0, .string ⟨#[]⟩] #[.int .i64 (num3 k3), .string ⟨Array.replicate (400 + k2) 0⟩] 24 24 u) (⟨At.fillD i.src hs2 _ _, gr_set (gr_set i.gr (by omega) 0 _) (by omega) 1 _, (i.res.far (by omega) 0 _).far (by omega) 1 _, (i.loc.set 0 _).set 1 _⟩) ?_
              clear i g0 m0 c0 c1 f0
              intro u i
              have hHeld : (At w0 a len cap u) := HS.out u i
              refine wpAnyH_done (by kernel_rfl) ?_ _
              refine NoPanic.normal ?_
              have x0 := i.loc.cell 0
              have x1 := i.loc.cell 1
              have r0 := i.res.cell 0
              have r1 := i.res.cell 1
              have f0 := fun k => i.res.frozen k
              have HD : Hid (rw.At (fillD u u0.heap.size (.int .i64 (num3 k3)) (.string ⟨Array.replicate (400 + k2) 0⟩)) u0.heap.size #[.int .i64 (num3 k3), .string ⟨Array.replicate (400 + k2) 0⟩] 24 ∧ At w0 a len cap (fillD u u0.heap.size (.int .i64 (num3 k3)) (.string ⟨Array.replicate (400 + k2) 0⟩)) ∧ u0.grownBy (fillD u u0.heap.size (.int .i64 (num3 k3)) (.string ⟨Array.replicate (400 + k2) 0⟩)) (some w0.heap.size)) :=
                ⟨(i.res.set 0 _).set 1 _, At.fillD i.src hp _ _, gr_set (gr_set i.gr (Nat.le_refl _) 0 _) (Nat.le_refl _) 1 _⟩
              clear i HS hHeld e2
              go_wp2
              obtain ⟨d1, d2, d3⟩ := HD.out
              exact bodyPost_ret (results_cell_row Try.results36 _ _ u0.heap.size _ #[.int .i64 (num3 k3), .string ⟨Array.replicate (400 + k2) 0⟩] _ _ rfl d1 Try.underlying24 rfl infoSt) rfl ⟨_, _, rfl, (num3_in k3).1, (num3_in k3).2, by simp [ByteArray.size]; omega, d2, d3⟩
      · skip
        go_simp
        go_at_call 52
        refine (dn.n_g i.src 2 (by omega) (by omega)).mono ?_
        rintro r7 w7 ⟨k2, rfl, hk2, hA7, hg7⟩
        go_wp2_with fail
        refine hK.out _ _ (HS.out _ (i.next hA7 hg7 (by omega) (by omega))) (fun _ => ?_)
        clear hK K hHeld
        try simp only [Act.put, List.setIfInBounds_toArray, List.set_cons_zero, List.set_cons_succ]
        refine rw.region_w (fun u => InD w0 u0 a len cap u0.heap.size X #[.int .i64 0, .string ⟨#[]⟩] #[.int .i64 k6, .string t] 24 24 u) (i.next hA7 hg7 (by omega) (by omega)) ?_
        clear i hA7 hg7
        intro u i
        have hHeld : (At w0 a len cap u) := HS.out u i
        have e2 : IntKind.i64.wrap (400 + (k2 : Int)) = 400 + (k2 : Int) := by rw [IntKind.wrap_i64]; omega
        refine wpAnyH_take (i := 7) (oi := { dst := some 18, op := Op.binOp BinOp.add 2 (Operand.const (Value.int IntKind.i64 400)) (Operand.tmp 17) 2, type := 2, pos := "l07_sync.go:115", after := #[{ on := 6, ground := Ground.data }], guard := none }) (v := ?_) rfl (by kernel_rfl) (by kernel_rfl) (by kernel_rfl) (fun _ _ _ h => h) (Or.inl ⟨by rfl, ?_⟩) hHeld ?_
        rotate_left
        · rintro w _; go_simp; (try with_reducible rfl)
        try simp only [Act.put, List.setIfInBounds_toArray, List.set_cons_zero, List.set_cons_succ]
        refine wpAnyH_ready (rs := [0, 8]) (by kernel_rfl) (by simp) ?_
        refine AllReadyH.cons rfl (fun K hK => ?_) (AllReadyH.cons rfl (fun K hK => ?_) AllReadyH.nil)
        · skip
          go_simp
          refine hK.out _ _ (HS.out _ (i.up (rw.up_alloc _ _))) (fun _ => ?_)
          clear hK K hHeld
          try simp only [Act.put, List.setIfInBounds_toArray, List.set_cons_zero, List.set_cons_succ]
          obtain ⟨g, hg⟩ : ∃ g, g = u.heap.size := ⟨_, rfl⟩
          rw [← hg]
          have ng : w0.heap.size < g := by rw [hg]; exact i.src.1.lt
          refine rw.region_w (fun u => (InD w0 u0 a len cap u0.heap.size X #[.int .i64 0, .string ⟨#[]⟩] #[.int .i64 k6, .string t] 24 24 u) ∧ (rw.At u g #[.int .i64 (-1), .int .i64 1000000, .int .i64 1000001] 2)) ⟨i.up (rw.up_alloc _ _), by rw [hg]; exact rw.At.new _ _ _⟩ ?_
          clear i
          rintro u ⟨i, g0⟩
          have hHeld : (At w0 a len cap u) := HS.out u i
          clear hg
          refine wpAnyH_take (i := 3) (oi := { dst := some 14, op := Op.indexAddr 64 (Operand.tmp 11) (Operand.tmp 13), type := 0, pos := "l07_sync.go:115", after := #[{ on := 0, ground := Ground.data }, { on := 2, ground := Ground.data }], guard := none }) (v := ?_) rfl (by kernel_rfl) (by kernel_rfl) (by kernel_rfl) (fun _ _ _ h => h) (Or.inl ⟨by rfl, ?_⟩) hHeld ?_
          rotate_left
          · rintro w _; go_simp; (try with_reducible rfl)
          try simp only [Act.put, List.setIfInBounds_toArray, List.set_cons_zero, List.set_cons_succ]
          refine wpAnyH_ready (rs := [4, 8]) (by kernel_rfl) (by simp) ?_
          refine AllReadyH.cons rfl (fun K hK => ?_) (AllReadyH.cons rfl (fun K hK => ?_) AllReadyH.nil)
          · skip
            have c9 := num3_at g0 hk3
            go_simp
            refine hK.out _ _ (HS.out _ i) (fun _ => ?_)
            clear hK K c9
            try simp only [Act.put, List.setIfInBounds_toArray, List.set_cons_zero, List.set_cons_succ]
            refine wpAnyH_ready (rs := [8]) (by kernel_rfl) (by simp) ?_
            refine AllReadyH.cons rfl (fun K hK => ?_) AllReadyH.nil
            have hmk := fun u => zeros_make (400 + k2) (by omega) u
            rw [show ((400 + k2 : Nat) : Int) = 400 + (k2 : Int) by omega] at hmk
            go_simp
            clear hmk
            refine hK.out _ _ (HS.out _ (i.up (rw.up_alloc _ _))) (fun _ => ?_)
            clear hK K hHeld
            try simp only [Act.put, List.setIfInBounds_toArray, List.set_cons_zero, List.set_cons_succ]
            obtain ⟨gm, hgm⟩ : ∃ gm, gm = u.heap.size := ⟨_, rfl⟩
            rw [← hgm]
            have ngm : w0.heap.size < gm := by rw [hgm]; exact i.src.1.lt
            have ngmg : g < gm := by rw [hgm]; exact g0.lt
            refine rw.region_w (fun u => (InD w0 u0 a len cap u0.heap.size X #[.int .i64 0, .string ⟨#[]⟩] #[.int .i64 k6, .string t] 24 24 u) ∧ (rw.At u g #[.int .i64 (-1), .int .i64 1000000, .int .i64 1000001] 2) ∧ (rw.At u gm (madeCells #[.int .u8 0] (400 + k2)) 5)) ⟨i.up (rw.up_alloc _ _), g0.up (rw.up_alloc _ _), by rw [hgm]; exact rw.At.new _ _ _⟩ ?_
            clear i g0
            rintro u ⟨i, g0, m0⟩
            have hHeld : (At w0 a len cap u) := HS.out u i
            clear hgm
            refine wpAnyH_ready (rs := [9]) (by kernel_rfl) (by simp) ?_
            refine AllReadyH.cons rfl (fun K hK => ?_) AllReadyH.nil
            have c9 := zeros_at _ m0
            go_simp
            refine hK.out _ _ (HS.out _ i) (fun _ => ?_)
            clear hK K c9
            try simp only [Act.put, List.setIfInBounds_toArray, List.set_cons_zero, List.set_cons_succ]
            refine wpAnyH_take (i := 10) (oi := { dst := some 21, op := Op.build 24 #[(0, Operand.tmp 15), (1, Operand.tmp 20)], type := 24, pos := "l07_sync.go:115", after := #[{ on := 4, ground := Ground.data }, { on := 9, ground := Ground.data }], guard := none }) (v := ?_) rfl (by kernel_rfl) (by kernel_rfl) (by kernel_rfl) (fun _ _ _ h => h) (Or.inl ⟨by rfl, ?_⟩) hHeld ?_
            rotate_left
            · rintro w _; go_simp; (try with_reducible rfl)
            try simp only [Act.put, List.setIfInBounds_toArray, List.set_cons_zero, List.set_cons_succ]
            refine wpAnyH_ready (rs := [11]) (by kernel_rfl) (by simp) ?_
            refine AllReadyH.cons rfl (fun K hK => ?_) AllReadyH.nil
            have c0 := i.loc.cell 0
            have c1 := i.loc.cell 1
            have f0 := fun k => i.loc.frozen k
            go_simp
            refine hK.out _ _ (HS.out _ (⟨At.fillD i.src hs2 _ _, gr_set (gr_set i.gr (by omega) 0 _) (by omega) 1 _, (i.res.far (by omega) 0 _).far (by omega) 1 _, (i.loc.set 0 _).set 1 _⟩)) (fun _ => ?_)
            clear hK K hHeld
            try simp only [Act.put, List.setIfInBounds_toArray, List.set_cons_zero, List.set_cons_succ]
            refine rw.region_w (fun u => InD w0 u0 a len cap u0.heap.size X #[.int .i64 0, .string ⟨#[]⟩] #[.int .i64 (num3 k3), .string ⟨Array.replicate (400 + k2) 0⟩] 24 24 u) (⟨At.fillD i.src hs2 _ _, gr_set (gr_set i.gr (by omega) 0 _) (by omega) 1 _, (i.res.far (by omega) 0 _).far (by omega) 1 _, (i.loc.set 0 _).set 1 _⟩) ?_
            clear i g0 m0 c0 c1 f0
            intro u i
            have hHeld : (At w0 a len cap u) := HS.out u i
            refine wpAnyH_done (by kernel_rfl) ?_ _
            refine NoPanic.normal ?_
            have x0 := i.loc.cell 0
            have x1 := i.loc.cell 1
            have r0 := i.res.cell 0
            have r1 := i.res.cell 1
            have f0 := fun k => i.res.frozen k
            have HD : Hid (rw.At (fillD u u0.heap.size (.int .i64 (num3 k3)) (.string ⟨Array.replicate (400 + k2) 0⟩)) u0.heap.size #[.int .i64 (num3 k3), .string ⟨Array.replicate (400 + k2) 0⟩] 24 ∧ At w0 a len cap (fillD u u0.heap.size (.int .i64 (num3 k3)) (.string ⟨Array.replicate (400 + k2) 0⟩)) ∧ u0.grownBy (fillD u u0.heap.size (.int .i64 (num3 k3)) (.string ⟨Array.replicate (400 + k2) 0⟩)) (some w0.heap.size)) :=
              ⟨(i.res.set 0 _).set 1 _, At.fillD i.src hp _ _, gr_set (gr_set i.gr (Nat.le_refl _) 0 _) (Nat.le_refl _) 1 _⟩
            clear i HS hHeld e2
            go_wp2
            obtain ⟨d1, d2, d3⟩ := HD.out
            exact bodyPost_ret (results_cell_row Try.results36 _ _ u0.heap.size _ #[.int .i64 (num3 k3), .string ⟨Array.replicate (400 + k2) 0⟩] _ _ rfl d1 Try.underlying24 rfl infoSt) rfl ⟨_, _, rfl, (num3_in k3).1, (num3_in k3).2, by simp [ByteArray.size]; omega, d2, d3⟩
          · skip
            have hmk := fun u => zeros_make (400 + k2) (by omega) u
            rw [show ((400 + k2 : Nat) : Int) = 400 + (k2 : Int) by omega] at hmk
            go_simp
            clear hmk
            refine hK.out _ _ (HS.out _ (i.up (rw.up_alloc _ _))) (fun _ => ?_)
            clear hK K hHeld
            try simp only [Act.put, List.setIfInBounds_toArray, List.set_cons_zero, List.set_cons_succ]
            obtain ⟨gm, hgm⟩ : ∃ gm, gm = u.heap.size := ⟨_, rfl⟩
            rw [← hgm]
            have ngm : w0.heap.size < gm := by rw [hgm]; exact i.src.1.lt
            have ngmg : g < gm := by rw [hgm]; exact g0.lt
            refine rw.region_w (fun u => (InD w0 u0 a len cap u0.heap.size X #[.int .i64 0, .string ⟨#[]⟩] #[.int .i64 k6, .string t] 24 24 u) ∧ (rw.At u g #[.int .i64 (-1), .int .i64 1000000, .int .i64 1000001] 2) ∧ (rw.At u gm (madeCells #[.int .u8 0] (400 + k2)) 5)) ⟨i.up (rw.up_alloc _ _), g0.up (rw.up_alloc _ _), by rw [hgm]; exact rw.At.new _ _ _⟩ ?_
            clear i g0
            rintro u ⟨i, g0, m0⟩
            have hHeld : (At w0 a len cap u) := HS.out u i
            clear hgm
            refine wpAnyH_ready (rs := [4, 9]) (by kernel_rfl) (by simp) ?_
            refine AllReadyH.cons rfl (fun K hK => ?_) (AllReadyH.cons rfl (fun K hK => ?_) AllReadyH.nil)
            · skip
              have c9 := num3_at g0 hk3
              go_simp
              refine hK.out _ _ (HS.out _ i) (fun _ => ?_)
              clear hK K c9
              try simp only [Act.put, List.setIfInBounds_toArray, List.set_cons_zero, List.set_cons_succ]
              refine wpAnyH_ready (rs := [9]) (by kernel_rfl) (by simp) ?_
              refine AllReadyH.cons rfl (fun K hK => ?_) AllReadyH.nil
              have c9 := zeros_at _ m0
              go_simp
              refine hK.out _ _ (HS.out _ i) (fun _ => ?_)
              clear hK K c9
              try simp only [Act.put, List.setIfInBounds_toArray, List.set_cons_zero, List.set_cons_succ]
              refine wpAnyH_take (i := 10) (oi := { dst := some 21, op := Op.build 24 #[(0, Operand.tmp 15), (1, Operand.tmp 20)], type := 24, pos := "l07_sync.go:115", after := #[{ on := 4, ground := Ground.data }, { on := 9, ground := Ground.data }], guard := none }) (v := ?_) rfl (by kernel_rfl) (by kernel_rfl) (by kernel_rfl) (fun _ _ _ h => h) (Or.inl ⟨by rfl, ?_⟩) hHeld ?_
              rotate_left
              · rintro w _; go_simp; (try with_reducible rfl)
              try simp only [Act.put, List.setIfInBounds_toArray, List.set_cons_zero, List.set_cons_succ]
              refine wpAnyH_ready (rs := [11]) (by kernel_rfl) (by simp) ?_
              refine AllReadyH.cons rfl (fun K hK => ?_) AllReadyH.nil
              have c0 := i.loc.cell 0
              have c1 := i.loc.cell 1
              have f0 := fun k => i.loc.frozen k
              go_simp
              refine hK.out _ _ (HS.out _ (⟨At.fillD i.src hs2 _ _, gr_set (gr_set i.gr (by omega) 0 _) (by omega) 1 _, (i.res.far (by omega) 0 _).far (by omega) 1 _, (i.loc.set 0 _).set 1 _⟩)) (fun _ => ?_)
              clear hK K hHeld
              try simp only [Act.put, List.setIfInBounds_toArray, List.set_cons_zero, List.set_cons_succ]
              refine rw.region_w (fun u => InD w0 u0 a len cap u0.heap.size X #[.int .i64 0, .string ⟨#[]⟩] #[.int .i64 (num3 k3), .string ⟨Array.replicate (400 + k2) 0⟩] 24 24 u) (⟨At.fillD i.src hs2 _ _, gr_set (gr_set i.gr (by omega) 0 _) (by omega) 1 _, (i.res.far (by omega) 0 _).far (by omega) 1 _, (i.loc.set 0 _).set 1 _⟩) ?_
              clear i g0 m0 c0 c1 f0
              intro u i
              have hHeld : (At w0 a len cap u) := HS.out u i
              refine wpAnyH_done (by kernel_rfl) ?_ _
              refine NoPanic.normal ?_
              have x0 := i.loc.cell 0
              have x1 := i.loc.cell 1
              have r0 := i.res.cell 0
              have r1 := i.res.cell 1
              have f0 := fun k => i.res.frozen k
              have HD : Hid (rw.At (fillD u u0.heap.size (.int .i64 (num3 k3)) (.string ⟨Array.replicate (400 + k2) 0⟩)) u0.heap.size #[.int .i64 (num3 k3), .string ⟨Array.replicate (400 + k2) 0⟩] 24 ∧ At w0 a len cap (fillD u u0.heap.size (.int .i64 (num3 k3)) (.string ⟨Array.replicate (400 + k2) 0⟩)) ∧ u0.grownBy (fillD u u0.heap.size (.int .i64 (num3 k3)) (.string ⟨Array.replicate (400 + k2) 0⟩)) (some w0.heap.size)) :=
                ⟨(i.res.set 0 _).set 1 _, At.fillD i.src hp _ _, gr_set (gr_set i.gr (Nat.le_refl _) 0 _) (Nat.le_refl _) 1 _⟩
              clear i HS hHeld e2
              go_wp2
              obtain ⟨d1, d2, d3⟩ := HD.out
              exact bodyPost_ret (results_cell_row Try.results36 _ _ u0.heap.size _ #[.int .i64 (num3 k3), .string ⟨Array.replicate (400 + k2) 0⟩] _ _ rfl d1 Try.underlying24 rfl infoSt) rfl ⟨_, _, rfl, (num3_in k3).1, (num3_in k3).2, by simp [ByteArray.size]; omega, d2, d3⟩
            · skip
              have c9 := zeros_at _ m0
              go_simp
              refine hK.out _ _ (HS.out _ i) (fun _ => ?_)
              clear hK K c9
              try simp only [Act.put, List.setIfInBounds_toArray, List.set_cons_zero, List.set_cons_succ]
              refine wpAnyH_ready (rs := [4]) (by kernel_rfl) (by simp) ?_
              refine AllReadyH.cons rfl (fun K hK => ?_) AllReadyH.nil
              have c9 := num3_at g0 hk3
              go_simp
              refine hK.out _ _ (HS.out _ i) (fun _ => ?_)
              clear hK K c9
              try simp only [Act.put, List.setIfInBounds_toArray, List.set_cons_zero, List.set_cons_succ]
              refine wpAnyH_take (i := 10) (oi := { dst := some 21, op := Op.build 24 #[(0, Operand.tmp 15), (1, Operand.tmp 20)], type := 24, pos := "l07_sync.go:115", after := #[{ on := 4, ground := Ground.data }, { on := 9, ground := Ground.data }], guard := none }) (v := ?_) rfl (by kernel_rfl) (by kernel_rfl) (by kernel_rfl) (fun _ _ _ h => h) (Or.inl ⟨by rfl, ?_⟩) hHeld ?_
              rotate_left
              · rintro w _; go_simp; (try with_reducible rfl)
              try simp only [Act.put, List.setIfInBounds_toArray, List.set_cons_zero, List.set_cons_succ]
              refine wpAnyH_ready (rs := [11]) (by kernel_rfl) (by simp) ?_
              refine AllReadyH.cons rfl (fun K hK => ?_) AllReadyH.nil
              have c0 := i.loc.cell 0
              have c1 := i.loc.cell 1
              have f0 := fun k => i.loc.frozen k
              go_simp
              refine hK.out _ _ (HS.out _ (⟨At.fillD i.src hs2 _ _, gr_set (gr_set i.gr (by omega) 0 _) (by omega) 1 _, (i.res.far (by omega) 0 _).far (by omega) 1 _, (i.loc.set 0 _).set 1 _⟩)) (fun _ => ?_)
              clear hK K hHeld
              try simp only [Act.put, List.setIfInBounds_toArray, List.set_cons_zero, List.set_cons_succ]
              refine rw.region_w (fun u => InD w0 u0 a len cap u0.heap.size X #[.int .i64 0, .string ⟨#[]⟩] #[.int .i64 (num3 k3), .string ⟨Array.replicate (400 + k2) 0⟩] 24 24 u) (⟨At.fillD i.src hs2 _ _, gr_set (gr_set i.gr (by omega) 0 _) (by omega) 1 _, (i.res.far (by omega) 0 _).far (by omega) 1 _, (i.loc.set 0 _).set 1 _⟩) ?_
              clear i g0 m0 c0 c1 f0
              intro u i
              have hHeld : (At w0 a len cap u) := HS.out u i
              refine wpAnyH_done (by kernel_rfl) ?_ _
              refine NoPanic.normal ?_
              have x0 := i.loc.cell 0
              have x1 := i.loc.cell 1
              have r0 := i.res.cell 0
              have r1 := i.res.cell 1
              have f0 := fun k => i.res.frozen k
              have HD : Hid (rw.At (fillD u u0.heap.size (.int .i64 (num3 k3)) (.string ⟨Array.replicate (400 + k2) 0⟩)) u0.heap.size #[.int .i64 (num3 k3), .string ⟨Array.replicate (400 + k2) 0⟩] 24 ∧ At w0 a len cap (fillD u u0.heap.size (.int .i64 (num3 k3)) (.string ⟨Array.replicate (400 + k2) 0⟩)) ∧ u0.grownBy (fillD u u0.heap.size (.int .i64 (num3 k3)) (.string ⟨Array.replicate (400 + k2) 0⟩)) (some w0.heap.size)) :=
                ⟨(i.res.set 0 _).set 1 _, At.fillD i.src hp _ _, gr_set (gr_set i.gr (Nat.le_refl _) 0 _) (Nat.le_refl _) 1 _⟩
              clear i HS hHeld e2
              go_wp2
              obtain ⟨d1, d2, d3⟩ := HD.out
              exact bodyPost_ret (results_cell_row Try.results36 _ _ u0.heap.size _ #[.int .i64 (num3 k3), .string ⟨Array.replicate (400 + k2) 0⟩] _ _ rfl d1 Try.underlying24 rfl infoSt) rfl ⟨_, _, rfl, (num3_in k3).1, (num3_in k3).2, by simp [ByteArray.size]; omega, d2, d3⟩
        · skip
          have hmk := fun u => zeros_make (400 + k2) (by omega) u
          rw [show ((400 + k2 : Nat) : Int) = 400 + (k2 : Int) by omega] at hmk
          go_simp
          clear hmk
          refine hK.out _ _ (HS.out _ (i.up (rw.up_alloc _ _))) (fun _ => ?_)
          clear hK K hHeld
          try simp only [Act.put, List.setIfInBounds_toArray, List.set_cons_zero, List.set_cons_succ]
          obtain ⟨gm, hgm⟩ : ∃ gm, gm = u.heap.size := ⟨_, rfl⟩
          rw [← hgm]
          have ngm : w0.heap.size < gm := by rw [hgm]; exact i.src.1.lt
          refine rw.region_w (fun u => (InD w0 u0 a len cap u0.heap.size X #[.int .i64 0, .string ⟨#[]⟩] #[.int .i64 k6, .string t] 24 24 u) ∧ (rw.At u gm (madeCells #[.int .u8 0] (400 + k2)) 5)) ⟨i.up (rw.up_alloc _ _), by rw [hgm]; exact rw.At.new _ _ _⟩ ?_
          clear i
          rintro u ⟨i, m0⟩
          have hHeld : (At w0 a len cap u) := HS.out u i
          clear hgm
          refine wpAnyH_ready (rs := [0, 9]) (by kernel_rfl) (by simp) ?_
          refine AllReadyH.cons rfl (fun K hK => ?_) (AllReadyH.cons rfl (fun K hK => ?_) AllReadyH.nil)
          · skip
            go_simp
            refine hK.out _ _ (HS.out _ (i.up (rw.up_alloc _ _))) (fun _ => ?_)
            clear hK K hHeld
            try simp only [Act.put, List.setIfInBounds_toArray, List.set_cons_zero, List.set_cons_succ]
            obtain ⟨g, hg⟩ : ∃ g, g = u.heap.size := ⟨_, rfl⟩
            rw [← hg]
            have ng : w0.heap.size < g := by rw [hg]; exact i.src.1.lt
            have nggm : gm < g := by rw [hg]; exact m0.lt
            refine rw.region_w (fun u => (InD w0 u0 a len cap u0.heap.size X #[.int .i64 0, .string ⟨#[]⟩] #[.int .i64 k6, .string t] 24 24 u) ∧ (rw.At u gm (madeCells #[.int .u8 0] (400 + k2)) 5) ∧ (rw.At u g #[.int .i64 (-1), .int .i64 1000000, .int .i64 1000001] 2)) ⟨i.up (rw.up_alloc _ _), m0.up (rw.up_alloc _ _), by rw [hg]; exact rw.At.new _ _ _⟩ ?_
            clear i m0
            rintro u ⟨i, m0, g0⟩
            have hHeld : (At w0 a len cap u) := HS.out u i
            clear hg
            refine wpAnyH_take (i := 3) (oi := { dst := some 14, op := Op.indexAddr 64 (Operand.tmp 11) (Operand.tmp 13), type := 0, pos := "l07_sync.go:115", after := #[{ on := 0, ground := Ground.data }, { on := 2, ground := Ground.data }], guard := none }) (v := ?_) rfl (by kernel_rfl) (by kernel_rfl) (by kernel_rfl) (fun _ _ _ h => h) (Or.inl ⟨by rfl, ?_⟩) hHeld ?_
            rotate_left
            · rintro w _; go_simp; (try with_reducible rfl)
            try simp only [Act.put, List.setIfInBounds_toArray, List.set_cons_zero, List.set_cons_succ]
            refine wpAnyH_ready (rs := [4, 9]) (by kernel_rfl) (by simp) ?_
            refine AllReadyH.cons rfl (fun K hK => ?_) (AllReadyH.cons rfl (fun K hK => ?_) AllReadyH.nil)
            · skip
              have c9 := num3_at g0 hk3
              go_simp
              refine hK.out _ _ (HS.out _ i) (fun _ => ?_)
              clear hK K c9
              try simp only [Act.put, List.setIfInBounds_toArray, List.set_cons_zero, List.set_cons_succ]
              refine wpAnyH_ready (rs := [9]) (by kernel_rfl) (by simp) ?_
              refine AllReadyH.cons rfl (fun K hK => ?_) AllReadyH.nil
              have c9 := zeros_at _ m0
              go_simp
              refine hK.out _ _ (HS.out _ i) (fun _ => ?_)
              clear hK K c9
              try simp only [Act.put, List.setIfInBounds_toArray, List.set_cons_zero, List.set_cons_succ]
              refine wpAnyH_take (i := 10) (oi := { dst := some 21, op := Op.build 24 #[(0, Operand.tmp 15), (1, Operand.tmp 20)], type := 24, pos := "l07_sync.go:115", after := #[{ on := 4, ground := Ground.data }, { on := 9, ground := Ground.data }], guard := none }) (v := ?_) rfl (by kernel_rfl) (by kernel_rfl) (by kernel_rfl) (fun _ _ _ h => h) (Or.inl ⟨by rfl, ?_⟩) hHeld ?_
              rotate_left
              · rintro w _; go_simp; (try with_reducible rfl)
              try simp only [Act.put, List.setIfInBounds_toArray, List.set_cons_zero, List.set_cons_succ]
              refine wpAnyH_ready (rs := [11]) (by kernel_rfl) (by simp) ?_
              refine AllReadyH.cons rfl (fun K hK => ?_) AllReadyH.nil
              have c0 := i.loc.cell 0
              have c1 := i.loc.cell 1
              have f0 := fun k => i.loc.frozen k
              go_simp
              refine hK.out _ _ (HS.out _ (⟨At.fillD i.src hs2 _ _, gr_set (gr_set i.gr (by omega) 0 _) (by omega) 1 _, (i.res.far (by omega) 0 _).far (by omega) 1 _, (i.loc.set 0 _).set 1 _⟩)) (fun _ => ?_)
              clear hK K hHeld
              try simp only [Act.put, List.setIfInBounds_toArray, List.set_cons_zero, List.set_cons_succ]
              refine rw.region_w (fun u => InD w0 u0 a len cap u0.heap.size X #[.int .i64 0, .string ⟨#[]⟩] #[.int .i64 (num3 k3), .string ⟨Array.replicate (400 + k2) 0⟩] 24 24 u) (⟨At.fillD i.src hs2 _ _, gr_set (gr_set i.gr (by omega) 0 _) (by omega) 1 _, (i.res.far (by omega) 0 _).far (by omega) 1 _, (i.loc.set 0 _).set 1 _⟩) ?_
              clear i m0 g0 c0 c1 f0
              intro u i
              have hHeld : (At w0 a len cap u) := HS.out u i
              refine wpAnyH_done (by kernel_rfl) ?_ _
              refine NoPanic.normal ?_
              have x0 := i.loc.cell 0
              have x1 := i.loc.cell 1
              have r0 := i.res.cell 0
              have r1 := i.res.cell 1
              have f0 := fun k => i.res.frozen k
              have HD : Hid (rw.At (fillD u u0.heap.size (.int .i64 (num3 k3)) (.string ⟨Array.replicate (400 + k2) 0⟩)) u0.heap.size #[.int .i64 (num3 k3), .string ⟨Array.replicate (400 + k2) 0⟩] 24 ∧ At w0 a len cap (fillD u u0.heap.size (.int .i64 (num3 k3)) (.string ⟨Array.replicate (400 + k2) 0⟩)) ∧ u0.grownBy (fillD u u0.heap.size (.int .i64 (num3 k3)) (.string ⟨Array.replicate (400 + k2) 0⟩)) (some w0.heap.size)) :=
                ⟨(i.res.set 0 _).set 1 _, At.fillD i.src hp _ _, gr_set (gr_set i.gr (Nat.le_refl _) 0 _) (Nat.le_refl _) 1 _⟩
              clear i HS hHeld e2
              go_wp2
              obtain ⟨d1, d2, d3⟩ := HD.out
              exact bodyPost_ret (results_cell_row Try.results36 _ _ u0.heap.size _ #[.int .i64 (num3 k3), .string ⟨Array.replicate (400 + k2) 0⟩] _ _ rfl d1 Try.underlying24 rfl infoSt) rfl ⟨_, _, rfl, (num3_in k3).1, (num3_in k3).2, by simp [ByteArray.size]; omega, d2, d3⟩
            · skip
              have c9 := zeros_at _ m0
              go_simp
              refine hK.out _ _ (HS.out _ i) (fun _ => ?_)
              clear hK K c9
              try simp only [Act.put, List.setIfInBounds_toArray, List.set_cons_zero, List.set_cons_succ]
              refine wpAnyH_ready (rs := [4]) (by kernel_rfl) (by simp) ?_
              refine AllReadyH.cons rfl (fun K hK => ?_) AllReadyH.nil
              have c9 := num3_at g0 hk3
              go_simp
              refine hK.out _ _ (HS.out _ i) (fun _ => ?_)
              clear hK K c9
              try simp only [Act.put, List.setIfInBounds_toArray, List.set_cons_zero, List.set_cons_succ]
              refine wpAnyH_take (i := 10) (oi := { dst := some 21, op := Op.build 24 #[(0, Operand.tmp 15), (1, Operand.tmp 20)], type := 24, pos := "l07_sync.go:115", after := #[{ on := 4, ground := Ground.data }, { on := 9, ground := Ground.data }], guard := none }) (v := ?_) rfl (by kernel_rfl) (by kernel_rfl) (by kernel_rfl) (fun _ _ _ h => h) (Or.inl ⟨by rfl, ?_⟩) hHeld ?_
              rotate_left
              · rintro w _; go_simp; (try with_reducible rfl)
              try simp only [Act.put, List.setIfInBounds_toArray, List.set_cons_zero, List.set_cons_succ]
              refine wpAnyH_ready (rs := [11]) (by kernel_rfl) (by simp) ?_
              refine AllReadyH.cons rfl (fun K hK => ?_) AllReadyH.nil
              have c0 := i.loc.cell 0
              have c1 := i.loc.cell 1
              have f0 := fun k => i.loc.frozen k
              go_simp
              refine hK.out _ _ (HS.out _ (⟨At.fillD i.src hs2 _ _, gr_set (gr_set i.gr (by omega) 0 _) (by omega) 1 _, (i.res.far (by omega) 0 _).far (by omega) 1 _, (i.loc.set 0 _).set 1 _⟩)) (fun _ => ?_)
              clear hK K hHeld
              try simp only [Act.put, List.setIfInBounds_toArray, List.set_cons_zero, List.set_cons_succ]
              refine rw.region_w (fun u => InD w0 u0 a len cap u0.heap.size X #[.int .i64 0, .string ⟨#[]⟩] #[.int .i64 (num3 k3), .string ⟨Array.replicate (400 + k2) 0⟩] 24 24 u) (⟨At.fillD i.src hs2 _ _, gr_set (gr_set i.gr (by omega) 0 _) (by omega) 1 _, (i.res.far (by omega) 0 _).far (by omega) 1 _, (i.loc.set 0 _).set 1 _⟩) ?_
              clear i m0 g0 c0 c1 f0
              intro u i
              have hHeld : (At w0 a len cap u) := HS.out u i
              refine wpAnyH_done (by kernel_rfl) ?_ _
              refine NoPanic.normal ?_
              have x0 := i.loc.cell 0
              have x1 := i.loc.cell 1
              have r0 := i.res.cell 0
              have r1 := i.res.cell 1
              have f0 := fun k => i.res.frozen k
              have HD : Hid (rw.At (fillD u u0.heap.size (.int .i64 (num3 k3)) (.string ⟨Array.replicate (400 + k2) 0⟩)) u0.heap.size #[.int .i64 (num3 k3), .string ⟨Array.replicate (400 + k2) 0⟩] 24 ∧ At w0 a len cap (fillD u u0.heap.size (.int .i64 (num3 k3)) (.string ⟨Array.replicate (400 + k2) 0⟩)) ∧ u0.grownBy (fillD u u0.heap.size (.int .i64 (num3 k3)) (.string ⟨Array.replicate (400 + k2) 0⟩)) (some w0.heap.size)) :=
                ⟨(i.res.set 0 _).set 1 _, At.fillD i.src hp _ _, gr_set (gr_set i.gr (Nat.le_refl _) 0 _) (Nat.le_refl _) 1 _⟩
              clear i HS hHeld e2
              go_wp2
              obtain ⟨d1, d2, d3⟩ := HD.out
              exact bodyPost_ret (results_cell_row Try.results36 _ _ u0.heap.size _ #[.int .i64 (num3 k3), .string ⟨Array.replicate (400 + k2) 0⟩] _ _ rfl d1 Try.underlying24 rfl infoSt) rfl ⟨_, _, rfl, (num3_in k3).1, (num3_in k3).2, by simp [ByteArray.size]; omega, d2, d3⟩
          · skip
            have c9 := zeros_at _ m0
            go_simp
            refine hK.out _ _ (HS.out _ i) (fun _ => ?_)
            clear hK K c9
            try simp only [Act.put, List.setIfInBounds_toArray, List.set_cons_zero, List.set_cons_succ]
            refine wpAnyH_ready (rs := [0]) (by kernel_rfl) (by simp) ?_
            refine AllReadyH.cons rfl (fun K hK => ?_) AllReadyH.nil
            go_simp
            refine hK.out _ _ (HS.out _ (i.up (rw.up_alloc _ _))) (fun _ => ?_)
            clear hK K hHeld
            try simp only [Act.put, List.setIfInBounds_toArray, List.set_cons_zero, List.set_cons_succ]
            obtain ⟨g, hg⟩ : ∃ g, g = u.heap.size := ⟨_, rfl⟩
            rw [← hg]
            have ng : w0.heap.size < g := by rw [hg]; exact i.src.1.lt
            have nggm : gm < g := by rw [hg]; exact m0.lt
            refine rw.region_w (fun u => (InD w0 u0 a len cap u0.heap.size X #[.int .i64 0, .string ⟨#[]⟩] #[.int .i64 k6, .string t] 24 24 u) ∧ (rw.At u gm (madeCells #[.int .u8 0] (400 + k2)) 5) ∧ (rw.At u g #[.int .i64 (-1), .int .i64 1000000, .int .i64 1000001] 2)) ⟨i.up (rw.up_alloc _ _), m0.up (rw.up_alloc _ _), by rw [hg]; exact rw.At.new _ _ _⟩ ?_
            clear i m0
            rintro u ⟨i, m0, g0⟩
            have hHeld : (At w0 a len cap u) := HS.out u i
            clear hg
            refine wpAnyH_take (i := 3) (oi := { dst := some 14, op := Op.indexAddr 64 (Operand.tmp 11) (Operand.tmp 13), type := 0, pos := "l07_sync.go:115", after := #[{ on := 0, ground := Ground.data }, { on := 2, ground := Ground.data }], guard := none }) (v := ?_) rfl (by kernel_rfl) (by kernel_rfl) (by kernel_rfl) (fun _ _ _ h => h) (Or.inl ⟨by rfl, ?_⟩) hHeld ?_
            rotate_left
            · rintro w _; go_simp; (try with_reducible rfl)
            try simp only [Act.put, List.setIfInBounds_toArray, List.set_cons_zero, List.set_cons_succ]
            refine wpAnyH_ready (rs := [4]) (by kernel_rfl) (by simp) ?_
            refine AllReadyH.cons rfl (fun K hK => ?_) AllReadyH.nil
            have c9 := num3_at g0 hk3
            go_simp
            refine hK.out _ _ (HS.out _ i) (fun _ => ?_)
            clear hK K c9
            try simp only [Act.put, List.setIfInBounds_toArray, List.set_cons_zero, List.set_cons_succ]
            refine wpAnyH_take (i := 10) (oi := { dst := some 21, op := Op.build 24 #[(0, Operand.tmp 15), (1, Operand.tmp 20)], type := 24, pos := "l07_sync.go:115", after := #[{ on := 4, ground := Ground.data }, { on := 9, ground := Ground.data }], guard := none }) (v := ?_) rfl (by kernel_rfl) (by kernel_rfl) (by kernel_rfl) (fun _ _ _ h => h) (Or.inl ⟨by rfl, ?_⟩) hHeld ?_
            rotate_left
            · rintro w _; go_simp; (try with_reducible rfl)
            try simp only [Act.put, List.setIfInBounds_toArray, List.set_cons_zero, List.set_cons_succ]
            refine wpAnyH_ready (rs := [11]) (by kernel_rfl) (by simp) ?_
            refine AllReadyH.cons rfl (fun K hK => ?_) AllReadyH.nil
            have c0 := i.loc.cell 0
            have c1 := i.loc.cell 1
            have f0 := fun k => i.loc.frozen k
            go_simp
            refine hK.out _ _ (HS.out _ (⟨At.fillD i.src hs2 _ _, gr_set (gr_set i.gr (by omega) 0 _) (by omega) 1 _, (i.res.far (by omega) 0 _).far (by omega) 1 _, (i.loc.set 0 _).set 1 _⟩)) (fun _ => ?_)
            clear hK K hHeld
            try simp only [Act.put, List.setIfInBounds_toArray, List.set_cons_zero, List.set_cons_succ]
            refine rw.region_w (fun u => InD w0 u0 a len cap u0.heap.size X #[.int .i64 0, .string ⟨#[]⟩] #[.int .i64 (num3 k3), .string ⟨Array.replicate (400 + k2) 0⟩] 24 24 u) (⟨At.fillD i.src hs2 _ _, gr_set (gr_set i.gr (by omega) 0 _) (by omega) 1 _, (i.res.far (by omega) 0 _).far (by omega) 1 _, (i.loc.set 0 _).set 1 _⟩) ?_
            clear i m0 g0 c0 c1 f0
            intro u i
            have hHeld : (At w0 a len cap u) := HS.out u i
            refine wpAnyH_done (by kernel_rfl) ?_ _
            refine NoPanic.normal ?_
            have x0 := i.loc.cell 0
            have x1 := i.loc.cell 1
            have r0 := i.res.cell 0
            have r1 := i.res.cell 1
            have f0 := fun k => i.res.frozen k
            have HD : Hid (rw.At (fillD u u0.heap.size (.int .i64 (num3 k3)) (.string ⟨Array.replicate (400 + k2) 0⟩)) u0.heap.size #[.int .i64 (num3 k3), .string ⟨Array.replicate (400 + k2) 0⟩] 24 ∧ At w0 a len cap (fillD u u0.heap.size (.int .i64 (num3 k3)) (.string ⟨Array.replicate (400 + k2) 0⟩)) ∧ u0.grownBy (fillD u u0.heap.size (.int .i64 (num3 k3)) (.string ⟨Array.replicate (400 + k2) 0⟩)) (some w0.heap.size)) :=
              ⟨(i.res.set 0 _).set 1 _, At.fillD i.src hp _ _, gr_set (gr_set i.gr (Nat.le_refl _) 0 _) (Nat.le_refl _) 1 _⟩
            clear i HS hHeld e2
            go_wp2
            obtain ⟨d1, d2, d3⟩ := HD.out
            exact bodyPost_ret (results_cell_row Try.results36 _ _ u0.heap.size _ #[.int .i64 (num3 k3), .string ⟨Array.replicate (400 + k2) 0⟩] _ _ rfl d1 Try.underlying24 rfl infoSt) rfl ⟨_, _, rfl, (num3_in k3).1, (num3_in k3).2, by simp [ByteArray.size]; omega, d2, d3⟩
end Go.Proofs.Ytmbeanimjmfddaa.sd
