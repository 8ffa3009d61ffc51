/-
  One statement of the model's WindowTake: 'out.Seen = l04Put(out.Seen, w.Seen[i], out.Top)', in whatever order, over a frame of letters.
-/
import Derived.Test.YtodcjhckkbmikaaDoorTakeM
import Derived.Deep.RegionHeld3
namespace Go.Proofs.YtodcjhckkbmikaaDoor.wi
open Go.ChangeShapes Go.WideShapes Go.ChangeAt Go.RowKit
set_option linter.unusedVariables false
set_option linter.unusedSimpArgs false

set_option maxRecDepth 20000 in
set_option maxHeartbeats 1000000 in
theorem put_region {t0 t1 t2 t4 t5 t6 t7 t8 t10 t11 t13 t14 t15 t16 t17 t18 t19 t20 t21 t22 t23 t24 t25 t26 t27 t28 t29 t30 t31 t32 t33 t34 t35 t36 t37 t38 t39 t40 t41 t42 t43 t44 t45 t46 t47 t48 t49 t50 t51 t52 t53 t54 t55 t56 t57 t58 t59 t60 t61 t62 t63 t64 t65 t66 t67 t68 t69 t70 t71 t72 t73 t74 t75 t76 t77 t78 t79 t80 t81 t82 t83 t84 t85 t86 t87 t88 t89 t90 t91 t92 t93 t94 t95 t96 t97 t98 t99 t100 t101 t102 t103 t104 t105 t106 t107 t108 t109 t110 t111 t112 t113 t114 t115 t116 t117 t118 t119 t120 t121 t122 t123 t124 t125 t126 t127 t128 : Value} {ds : List Deferred} {N q b0 off len cap k : Nat} {x T : Int} {pv : Option Addr} {kv cv : Nat} {u : World} {Q : Exit → Act → World → Prop} (R : Option Addr → Nat → Nat → World → Prop)
    (hlt : k < len) (hlen : len ≤ 16) (n1 : ¬ N = q) (n2 : ¬ q = N) (n3 : ¬ b0 = q) (n4 : ¬ q = b0)
    (x2 : u.cell? ⟨N, 2, none⟩ = some (.slice (some ⟨b0, off, none⟩) len cap)) (hcell : u.cell? ⟨b0, off + k, none⟩ = some (.int .i64 x)) (y1 : u.cell? ⟨q, 1, none⟩ = some (.int .i64 T)) (y2 : u.cell? ⟨q, 2, none⟩ = some (.slice pv kv cv))
    (HC : Calls Tryd.prog 21 #[.slice pv kv cv, .int .i64 x, .int .i64 T] u.drew fun r w' => ∃ p6 k6 c6, r = .returned (.slice p6 k6 c6) ∧ (w'.cell? ⟨N, 2, none⟩ = some (.slice (some ⟨b0, off, none⟩) len cap) ∧ w'.cell? ⟨b0, off + k, none⟩ = some (.int .i64 x) ∧ w'.cell? ⟨q, 1, none⟩ = some (.int .i64 T) ∧ w'.cell? ⟨q, 2, none⟩ = some (.slice pv kv cv) ∧ w'.frozen? ⟨q, 2, none⟩ = false) ∧ R p6 k6 c6 w')
    (HQ : ∀ p6 k6 c6 w', R p6 k6 c6 w' → Q .normal ⟨#[t0, t1, t2, .pointer (some ⟨N, 0, none⟩), t4, t5, t6, t7, t8, .pointer (some ⟨q, 0, none⟩), t10, t11, .int .i64 (k : Int), t13, t14, t15, t16, t17, t18, t19, t20, t21, t22, t23, t24, t25, t26, t27, t28, t29, t30, t31, t32, t33, t34, t35, t36, t37, t38, t39, t40, t41, t42, t43, t44, t45, t46, t47, t48, t49, t50, t51, t52, t53, t54, t55, t56, t57, t58, t59, t60, t61, t62, t63, t64, t65, t66, t67, t68, t69, t70, t71, t72, t73, t74, t75, t76, t77, t78, t79, t80, t81, t82, t83, t84, t85, t86, t87, t88, t89, t90, t91, t92, t93, t94, t95, t96, t97, t98, t99, t100, t101, t102, t103, t104, t105, t106, .pointer (some ⟨q, 2, none⟩), .slice pv kv cv, .pointer (some ⟨N, 2, none⟩), .slice (some ⟨b0, off, none⟩) len cap, .int .i64 (k : Int), .pointer (some ⟨b0, off + k, none⟩), .int .i64 x, .pointer (some ⟨q, 1, none⟩), .int .i64 T, .slice p6 k6 c6, .pointer (some ⟨q, 2, none⟩), t118, t119, t120, t121, t122, t123, t124, t125, t126, t127, t128], ds⟩ (w'.setCell ⟨q, 2, none⟩ (.slice p6 k6 c6))) :
    (Code.region 23 #[{ dst := some 107, op := Op.fieldAddr 25 (Operand.tmp 9) 2, type := 0, pos := "l04_gram.go:83", after := #[], guard := none }, { dst := some 108, op := Op.load 23 (Operand.tmp 107), type := 23, pos := "l04_gram.go:83", after := #[{ on := 0, ground := Ground.data }], guard := none }, { dst := some 109, op := Op.fieldAddr 25 (Operand.tmp 3) 2, type := 0, pos := "l04_gram.go:83", after := #[], guard := none }, { dst := some 110, op := Op.load 23 (Operand.tmp 109), type := 23, pos := "l04_gram.go:83", after := #[{ on := 2, ground := Ground.data }], guard := none }, { dst := some 111, op := Op.move (Operand.tmp 12), type := 3, pos := "l04_gram.go:83", after := #[], guard := none }, { dst := some 112, op := Op.indexAddr 23 (Operand.tmp 110) (Operand.tmp 111), type := 0, pos := "l04_gram.go:83", after := #[{ on := 3, ground := Ground.data }, { on := 4, ground := Ground.data }], guard := none }, { dst := some 113, op := Op.load 2 (Operand.tmp 112), type := 2, pos := "l04_gram.go:83", after := #[{ on := 5, ground := Ground.data }], guard := none }, { dst := some 114, op := Op.fieldAddr 25 (Operand.tmp 9) 1, type := 0, pos := "l04_gram.go:83", after := #[], guard := none }, { dst := some 115, op := Op.load 2 (Operand.tmp 114), type := 2, pos := "l04_gram.go:83", after := #[{ on := 7, ground := Ground.data }], guard := none }, { dst := some 116, op := Op.call { callee := Callee.value (Operand.func 21), args := #[Operand.tmp 108, Operand.tmp 113, Operand.tmp 115], argTypes := #[23, 2, 2] }, type := 23, pos := "l04_gram.go:83", after := #[{ on := 1, ground := Ground.data }, { on := 6, ground := Ground.data }, { on := 8, ground := Ground.data }], guard := none }, { dst := some 117, op := Op.fieldAddr 25 (Operand.tmp 9) 2, type := 0, pos := "l04_gram.go:83", after := #[{ on := 0, ground := Ground.phase }, { on := 1, ground := Ground.phase }, { on := 2, ground := Ground.phase }, { on := 3, ground := Ground.phase }, { on := 4, ground := Ground.phase }, { on := 5, ground := Ground.phase }, { on := 6, ground := Ground.phase }, { on := 7, ground := Ground.phase }, { on := 8, ground := Ground.phase }, { on := 9, ground := Ground.phase }], guard := none }, { dst := none, op := Op.store 23 (Operand.tmp 117) (Operand.tmp 116), type := 0, pos := "l04_gram.go:83", after := #[{ on := 10, ground := Ground.data }, { on := 9, ground := Ground.data }, { on := 9, ground := Ground.chain }, { on := 0, ground := Ground.phase }, { on := 1, ground := Ground.phase }, { on := 2, ground := Ground.phase }, { on := 3, ground := Ground.phase }, { on := 4, ground := Ground.phase }, { on := 5, ground := Ground.phase }, { on := 6, ground := Ground.phase }, { on := 7, ground := Ground.phase }, { on := 8, ground := Ground.phase }, { on := 9, ground := Ground.phase }], guard := none }] true).wp Tryd.prog Q ⟨#[t0, t1, t2, .pointer (some ⟨N, 0, none⟩), t4, t5, t6, t7, t8, .pointer (some ⟨q, 0, none⟩), t10, t11, .int .i64 (k : Int), t13, t14, t15, t16, t17, t18, t19, t20, t21, t22, t23, t24, t25, t26, t27, t28, t29, t30, t31, t32, t33, t34, t35, t36, t37, t38, t39, t40, t41, t42, t43, t44, t45, t46, t47, t48, t49, t50, t51, t52, t53, t54, t55, t56, t57, t58, t59, t60, t61, t62, t63, t64, t65, t66, t67, t68, t69, t70, t71, t72, t73, t74, t75, t76, t77, t78, t79, t80, t81, t82, t83, t84, t85, t86, t87, t88, t89, t90, t91, t92, t93, t94, t95, t96, t97, t98, t99, t100, t101, t102, t103, t104, t105, t106, t107, t108, t109, t110, t111, t112, t113, t114, t115, t116, t117, t118, t119, t120, t121, t122, t123, t124, t125, t126, t127, t128], ds⟩ u := by
  have HC1 : Hid (Calls Tryd.prog 21 #[.slice pv kv cv, .int .i64 x, .int .i64 T] u.drew fun r w' => ∃ p6 k6 c6, r = .returned (.slice p6 k6 c6) ∧ (w'.cell? ⟨N, 2, none⟩ = some (.slice (some ⟨b0, off, none⟩) len cap) ∧ w'.cell? ⟨b0, off + k, none⟩ = some (.int .i64 x) ∧ w'.cell? ⟨q, 1, none⟩ = some (.int .i64 T) ∧ w'.cell? ⟨q, 2, none⟩ = some (.slice pv kv cv) ∧ w'.frozen? ⟨q, 2, none⟩ = false) ∧ R p6 k6 c6 w') := HC
  have HQ1 : Hid (∀ p6 k6 c6 w', R p6 k6 c6 w' → Q .normal _ (w'.setCell ⟨q, 2, none⟩ (.slice p6 k6 c6))) := HQ
  clear HC HQ
  have e0 : IntKind.i64.wrap (k : Int) = (k : Int) := by rw [IntKind.wrap_i64]; omega
  have j0 : (0 : Int) ≤ (k : Int) := by omega
  have j1 : (k : Int) < (len : Int) := by omega
  refine wp_region_noPanic ?_
  refine wp_region_held_drew (S := fun u => u.cell? ⟨N, 2, none⟩ = some (.slice (some ⟨b0, off, none⟩) len cap) ∧ u.cell? ⟨b0, off + k, none⟩ = some (.int .i64 x) ∧ u.cell? ⟨q, 1, none⟩ = some (.int .i64 T)) (by kernel_rfl) ⟨x2, hcell, y1⟩ (fun hHeld => ?_)
  refine wpAnyH_take (i := 0) (v := ?_) rfl (by kernel_rfl) (by kernel_rfl) (by kernel_rfl) (fun _ _ _ h => h) (Or.inl ⟨by rfl, ?_⟩) hHeld ?_
  rotate_left
  · rintro w ⟨z0, z1, z2⟩; go_simp; try with_reducible rfl
  try simp only [Act.put, List.setIfInBounds_toArray, List.set_cons_zero, List.set_cons_succ]
  refine wpAnyH_take (i := 2) (v := ?_) rfl (by kernel_rfl) (by kernel_rfl) (by kernel_rfl) (fun _ _ _ h => h) (Or.inl ⟨by rfl, ?_⟩) hHeld ?_
  rotate_left
  · rintro w ⟨z0, z1, z2⟩; go_simp; try with_reducible rfl
  try simp only [Act.put, List.setIfInBounds_toArray, List.set_cons_zero, List.set_cons_succ]
  refine wpAnyH_take (i := 3) (v := ?_) rfl (by kernel_rfl) (by kernel_rfl) (by kernel_rfl) (fun _ _ _ h => h) (Or.inl ⟨by rfl, ?_⟩) hHeld ?_
  rotate_left
  · rintro w ⟨z0, z1, z2⟩; go_simp; try with_reducible rfl
  try simp only [Act.put, List.setIfInBounds_toArray, List.set_cons_zero, List.set_cons_succ]
  refine wpAnyH_take (i := 4) (v := ?_) rfl (by kernel_rfl) (by kernel_rfl) (by kernel_rfl) (fun _ _ _ h => h) (Or.inl ⟨by rfl, ?_⟩) hHeld ?_
  rotate_left
  · rintro w ⟨z0, z1, z2⟩; go_simp; try with_reducible rfl
  try simp only [Act.put, List.setIfInBounds_toArray, List.set_cons_zero, List.set_cons_succ]
  refine wpAnyH_take (i := 5) (v := ?_) rfl (by kernel_rfl) (by kernel_rfl) (by kernel_rfl) (fun _ _ _ h => h) (Or.inl ⟨by rfl, ?_⟩) hHeld ?_
  rotate_left
  · rintro w ⟨z0, z1, z2⟩; go_simp; try with_reducible rfl
  try simp only [Act.put, List.setIfInBounds_toArray, List.set_cons_zero, List.set_cons_succ]
  refine wpAnyH_take (i := 6) (v := ?_) rfl (by kernel_rfl) (by kernel_rfl) (by kernel_rfl) (fun _ _ _ h => h) (Or.inl ⟨by rfl, ?_⟩) hHeld ?_
  rotate_left
  · rintro w ⟨z0, z1, z2⟩; go_simp; try with_reducible rfl
  try simp only [Act.put, List.setIfInBounds_toArray, List.set_cons_zero, List.set_cons_succ]
  refine wpAnyH_take (i := 7) (v := ?_) rfl (by kernel_rfl) (by kernel_rfl) (by kernel_rfl) (fun _ _ _ h => h) (Or.inl ⟨by rfl, ?_⟩) hHeld ?_
  rotate_left
  · rintro w ⟨z0, z1, z2⟩; go_simp; try with_reducible rfl
  try simp only [Act.put, List.setIfInBounds_toArray, List.set_cons_zero, List.set_cons_succ]
  refine wpAnyH_take (i := 8) (v := ?_) rfl (by kernel_rfl) (by kernel_rfl) (by kernel_rfl) (fun _ _ _ h => h) (Or.inl ⟨by rfl, ?_⟩) hHeld ?_
  rotate_left
  · rintro w ⟨z0, z1, z2⟩; go_simp; try with_reducible rfl
  try simp only [Act.put, List.setIfInBounds_toArray, List.set_cons_zero, List.set_cons_succ]
  refine wpAnyH_ready (rs := [1]) (by kernel_rfl) (by simp) ?_
  refine AllReadyH.cons rfl (fun K hK => ?_) AllReadyH.nil
  have y2d : u.drew.cell? ⟨q, 2, none⟩ = some (.slice pv kv cv) := y2
  go_simp
  refine hK.out _ _ hHeld (fun hHeld2 => ?_)
  clear hK K y2d hHeld
  try simp only [Act.put, List.setIfInBounds_toArray, List.set_cons_zero, List.set_cons_succ]
  refine wpAnyH_ready (rs := [9]) (by kernel_rfl) (by simp) ?_
  refine AllReadyH.cons rfl (fun K hK => ?_) AllReadyH.nil
  go_simp
  go_at_call 21
  refine HC1.out.mono ?_
  rintro r w6 ⟨p6, k6, c6, rfl, ⟨s0, s1, s2, s3, s4⟩, hR⟩
  go_wp2_with fail
  refine hK.out _ _ ⟨s0, s1, s2⟩ (fun hHeld => ?_)
  clear hK K hHeld2 HC1
  try simp only [Act.put, List.setIfInBounds_toArray, List.set_cons_zero, List.set_cons_succ]
  refine wpAnyH_take (i := 10) (v := ?_) rfl (by kernel_rfl) (by kernel_rfl) (by kernel_rfl) (fun _ _ _ h => h) (Or.inl ⟨by rfl, ?_⟩) hHeld ?_
  rotate_left
  · rintro w ⟨z0, z1, z2⟩; go_simp; try with_reducible rfl
  try simp only [Act.put, List.setIfInBounds_toArray, List.set_cons_zero, List.set_cons_succ]
  refine wpAnyH_ready (rs := [11]) (by kernel_rfl) (by simp) ?_
  refine AllReadyH.cons rfl (fun K hK => ?_) AllReadyH.nil
  go_simp
  refine hK.out _ _ ⟨(World.cell?_setCell_far _ _ _ _ n2).trans s0, (World.cell?_setCell_far _ _ _ _ n4).trans s1, (World.cell?_setCell_other _ _ _ _ (by simp)).trans s2⟩ (fun hHeld3 => ?_)
  clear hK K hHeld
  try simp only [Act.put, List.setIfInBounds_toArray, List.set_cons_zero, List.set_cons_succ]
  refine wpAnyH_done (by kernel_rfl) ?_ _
  exact NoPanic.normal (HQ1.out _ _ _ _ hR)
end Go.Proofs.YtodcjhckkbmikaaDoor.wi
