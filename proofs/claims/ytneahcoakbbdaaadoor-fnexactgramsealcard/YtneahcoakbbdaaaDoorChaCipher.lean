/-
  The model's cipher of a text: each byte turned by the byte of the blocks at its place; no old block turns.
-/
import Derived.Test.YtneahcoakbbdaaaDoorChaBlock
import Derived.Test.YtneahcoakbbdaaaDoorChaText
import Derived.Laws.IdiomStrings
namespace Go.Proofs.YtneahcoakbbdaaaDoor.cc
open Go.ChangeShapes Go.WideShapes Go.ChangeAt Go.RowKit
open Go.Proofs.YtneahcoakbbdaaaDoor.sh (U xor bits_U wr_U byteAt)
set_option linter.unusedVariables false

/-- a row of bytes that may be written -/
def RowIs (W : World) (g : Nat) (L : List UInt8) : Prop := ∀ j (hj : j < L.length), W.cell? ⟨g, j, none⟩ = some (.int .u8 (L[j].toNat : Int)) ∧ W.frozen? ⟨g, j, none⟩ = false
theorem RowIs.below {w u : World} {g B : Nat} {L : List UInt8} (h : RowIs w g L) (hb : Below B w u) (hB : g < B) : RowIs u g L := fun j hj => by
  rw [hb.cell (p := ⟨g, j, none⟩) hB, hb.frozen (p := ⟨g, j, none⟩) hB]; exact h j hj
theorem RowIs.set {W : World} {g : Nat} {L : List UInt8} (h : RowIs W g L) {k : Nat} (hk : k < L.length) (y : UInt8) : RowIs (W.setCell ⟨g, k, none⟩ (.int .u8 (y.toNat : Int))) g (L.set k y) := by
  intro j hj
  rw [List.length_set] at hj
  refine ⟨?_, by rw [World.frozen?_setCell]; exact (h j hj).2⟩
  by_cases e : k = j
  · subst e
    rw [World.cell?_setCell_same _ _ _ (h k hk).1]
    simp
  · rw [World.cell?_setCell_other _ _ _ _ (by first | (simp; done) | (simp; omega)), (h j hj).1]
    simp [List.getElem_set_ne e]
theorem bytesRow_of (s : ByteArray) (u : World) : ∃ (cap : Nat) (W : World), (convert 9 91 (.string s)).run Tryd.prog u = .ok (.slice (some ⟨u.heap.size, 0, none⟩) s.size cap) W ∧ s.size ≤ cap ∧ RowIs W u.heap.size s.data.toList ∧ Below u.heap.size u W ∧ u.heap.size < W.heap.size := by
  have hge := grownCap_ge u s.size 0 5
  have hsz : (bytesRow s (grownCap u s.size 0 5)).size = grownCap u s.size 0 5 := by
    have hd : s.data.size = s.size := rfl
    simp [bytesRow]; omega
  have hh : (u.drew.alloc (.cells (bytesRow s (grownCap u s.size 0 5)) 5 ((bytesRow s (grownCap u s.size 0 5)).size, (bytesRow s (grownCap u s.size 0 5)).size + 1))).heap[u.heap.size]? = some (.cells (bytesRow s (grownCap u s.size 0 5)) 5 ((bytesRow s (grownCap u s.size 0 5)).size, (bytesRow s (grownCap u s.size 0 5)).size + 1)) := heap_alloc_new u.drew _
  refine ⟨_, _, run_bytes_of_string (P := Tryd.prog) u 9 91 5 s Tryd.underlying9 Tryd.underlying91 Tryd.underlying5, hge, fun j hj => ⟨?_, ?_⟩, ((Below.refl _ _).drew).alloc (Nat.le_refl _) _, by simp⟩
  · have hj' : j < s.data.size := by simpa using hj
    rw [cell_of_row _ _ _ _ _ _ hh, bytesRow_at s _ j hj']
    rfl
  · have hj' : j < s.size := by simpa using hj
    unfold World.frozen?
    rw [hh]
    simp
    omega
theorem ret_lst {a b : List UInt8} (h : a = b) : Ending.returned (.string ⟨a.toArray⟩) = .returned (.string ⟨b.toArray⟩) := by rw [h]
/-- the cells of a block that was handed back -/
theorem own_cells {u : World} {base n : Nat} {v : Value} {l : List Int} (hl : l.length = n) (hn : 0 < n) (h : u.ownsRow base 5 1 v n (l.map (Value.int .u8))) : ∃ g cap, v = .slice (some ⟨g, 0, none⟩) n cap ∧ base ≤ g ∧ g < u.heap.size ∧ ∀ i, i < n → u.cell? ⟨g, i, none⟩ = some (.int .u8 (l.getD i 0)) := by
  obtain ⟨_, ⟨_, h0⟩ | ⟨g, cap, cur, hv, hg, hh, h1, h2, h3, h4⟩⟩ := h
  · omega
  · refine ⟨g, cap, hv, hg, block_lt_of_heap hh, fun i hi => ?_⟩
    rw [cell_of_row _ _ _ _ _ _ hh]
    have e : (cur.toList.take (n * 1))[i]? = some (.int .u8 (l.getD i 0)) := by
      rw [h4, List.getElem?_map, List.getD_eq_getElem?_getD, List.getElem?_eq_getElem (by omega)]; rfl
    rw [List.getElem?_take_of_lt (by omega)] at e
    simpa using e

set_option maxRecDepth 20000 in
set_option maxHeartbeats 8000000 in
theorem cipherM_any (key nonce t : ByteArray) (ctr : Int) (w : World) (hk : key.size = 32) (hn : nonce.size = 12) (hc : U ctr) (ht : t.size ≤ 100000) :
    Calls Tryd.prog 58 #[.string key, .int .u32 ctr, .string nonce, .string t] w fun e w' => e = .returned (.string ⟨(cipherL key.data.toList ctr nonce.data.toList t.data.toList).toArray⟩) ∧ Below w.heap.size w w' := by
  obtain ⟨cap, W, hcv, hcap, hrow, hBW, hWl⟩ := bytesRow_of t w
  have htl : t.data.toList.length = t.size := by simp
  obtain ⟨L, hL⟩ : ∃ L : List UInt8, L = t.data.toList := ⟨_, rfl⟩
  have HL : Hid (L = t.data.toList) := hL
  rw [← hL] at hrow htl ⊢
  clear hL
  have HR0 : Hid (RowIs W w.heap.size (cipherTo key.data.toList ctr nonce.data.toList L 0)) := by show RowIs _ _ _; rw [cipherTo_zero]; exact hrow
  have HB0 : Hid (Below w.heap.size w W) := hBW
  have Htl : Hid (L.length = t.size) := htl
  clear hrow hBW htl
  go_enter Tryd.func58, Tryd.ntmps58
  go_wp2
  clear hcv
  go_loopw [1, 10, 11, 12] (fun c a _ _ u => ∃ n : Nat, 64 * n ≤ t.size + 63 ∧ a = .int .i64 (64 * (n : Int)) ∧ c = .int .u32 (sh.wr (ctr + (n : Int))) ∧ Hid (RowIs u w.heap.size (cipherTo key.data.toList ctr nonce.data.toList L (64 * n))) ∧ Hid (Below w.heap.size w u) ∧ w.heap.size < u.heap.size) (fun _ a _ _ _ => t.size + 64 - (intOf a).toNat)
  case atStart => exact ⟨0, by omega, rfl, by rw [show ctr + ((0 : Nat) : Int) = ctr by omega, sh.wr_id hc], HR0, HB0, hWl⟩
  case round =>
    clear HR0 HB0 hWl
    obtain ⟨n, hn64, rfl, rfl, HR, HB, hlt0⟩ := hrel
    by_cases hlt : 64 * n < t.size
    · have hcu := wr_U (ctr + (n : Int))
      have HW1 : Hid (sh.wr (sh.wr (ctr + (n : Int)) + 1) = sh.wr (ctr + ((n + 1 : Nat) : Int))) := by
        show _ = _
        unfold sh.wr; simp only [IntKind.wrap_u32]; omega
      have HK : Hid (∀ m : Nat, m < 64 → keyByte key.data.toList ctr nonce.data.toList (64 * n + m) = UInt8.ofNat ((blockN key.data.toList (sh.wr (ctr + (n : Int))) nonce.data.toList 16).getD m 0).toNat) := fun m hm => by
        unfold keyByte
        rw [show (64 * n + m) / 64 = n by omega, show (64 * n + m) % 64 = m by omega]
      generalize sh.wr (ctr + (n : Int)) = cn at *
      go_wp2_with (go_at_call 80; refine (blockM_any key nonce cn wr hk hn hcu).mono ?_; rintro e w2 ⟨vx, rfl, hx, hBx⟩; obtain ⟨gx, cx, hvx, hgx, hgxl, hcx⟩ := own_cells (blockN_length _ _ _ 16) (by decide) hx; subst hvx; have HX : Hid (∀ i, i < 64 → w2.cell? ⟨gx, i, none⟩ = some (.int .u8 ((blockN key.data.toList cn nonce.data.toList 16).getD i 0))) := hcx; have HR2 : Hid (RowIs w2 w.heap.size (cipherTo key.data.toList ctr nonce.data.toList L (64 * n))) := HR.out.below hBx hlt0; have HB2 : Hid (Below w.heap.size w w2) := HB.out.trans (hBx.mono HB.out.size); have hlt2 : w.heap.size < w2.heap.size := Nat.lt_of_lt_of_le hlt0 hBx.size; have hgne : w.heap.size < gx := Nat.lt_of_lt_of_le hlt0 hgx; clear hx hBx hcx HR HB hgx)
      go_loopw [12] (fun i u => ∃ m : Nat, m ≤ 64 ∧ 64 * n + m ≤ t.size ∧ i = .int .i64 m ∧ Hid (RowIs u w.heap.size (cipherTo key.data.toList ctr nonce.data.toList L (64 * n + m))) ∧ Hid (∀ i, i < 64 → u.cell? ⟨gx, i, none⟩ = some (.int .u8 ((blockN key.data.toList cn nonce.data.toList 16).getD i 0))) ∧ Hid (Below w.heap.size w u) ∧ w.heap.size < u.heap.size) (fun i _ => 64 - (intOf i).toNat)
      case atStart => exact ⟨0, by omega, by omega, rfl, HR2, HX, HB2, hlt2⟩
      case round =>
        clear HR2 HX HB2 hlt2
        obtain ⟨m, hm, hmt, rfl, HR, HX, HB, hlt2⟩ := hrel
        have HNX : Hid ((m = 64 ∨ 64 * n + m = t.size) → cipherTo key.data.toList ctr nonce.data.toList L (64 * n + m) = cipherTo key.data.toList ctr nonce.data.toList L (64 * (n + 1))) := fun h => by
          rcases h with rfl | h
          · rw [show 64 * n + 64 = 64 * (n + 1) by omega]
          · exact cipherTo_more _ _ _ _ (by rw [Htl.out]; omega) (by rw [Htl.out]; omega)
        by_cases h64 : m = 64
        · subst h64
          go_wp2
          go_roundw
          case rel =>
            refine ⟨n + 1, by omega, by go_num, ?_, ?_, HB, hlt2⟩
            · refine congrArg (Value.int .u32) ?_
              rw [← HW1.out]; unfold sh.wr; rw [IntKind.wrap_u32]
            · rw [← HNX.out (by first | (left; rfl) | (right; assumption))]; exact HR
          case measure => simp [intOf]; omega
        · by_cases hend : 64 * n + m = t.size
          · go_wp2
            go_roundw
            case rel =>
              refine ⟨n + 1, by omega, by go_num, ?_, ?_, HB, hlt2⟩
              · refine congrArg (Value.int .u32) ?_
                rw [← HW1.out]; unfold sh.wr; rw [IntKind.wrap_u32]
              · rw [← HNX.out (by first | (left; rfl) | (right; assumption))]; exact HR
            case measure => simp [intOf]; omega
          · have hj : 64 * n + m < L.length := by rw [Htl.out]; omega
            obtain ⟨hcb, hfb⟩ := HR.out (64 * n + m) (by rw [cipherTo_length]; exact hj)
            rw [cipherTo_at _ _ _ _ _ hj] at hcb
            have hcx := HX.out m (by omega)
            obtain ⟨z0, z1⟩ := blockN_le key.data.toList cn nonce.data.toList 16 m
            have HKM := HK.out m (by omega)
            have hy := (L[64 * n + m]).toNat_lt
            have HV : Hid (bits BinOp.xor IntKind.u8 ((L[64 * n + m]).toNat : Int) ((blockN key.data.toList cn nonce.data.toList 16).getD m 0) = (((L[64 * n + m] ^^^ keyByte key.data.toList ctr nonce.data.toList (64 * n + m)).toNat : Nat) : Int)) := by
              show _ = _
              rw [← xor_u8, HKM, ofNat_toNat z0 z1]
            have HS : Hid (∀ v, v = (((L[64 * n + m] ^^^ keyByte key.data.toList ctr nonce.data.toList (64 * n + m)).toNat : Nat) : Int) → Hid (RowIs (wr.setCell ⟨w.heap.size, 64 * n + m, none⟩ (.int .u8 v)).drew w.heap.size (cipherTo key.data.toList ctr nonce.data.toList L (64 * n + (m + 1)))) ∧ Hid (∀ i, i < 64 → (wr.setCell ⟨w.heap.size, 64 * n + m, none⟩ (.int .u8 v)).drew.cell? ⟨gx, i, none⟩ = some (.int .u8 ((blockN key.data.toList cn nonce.data.toList 16).getD i 0))) ∧ Hid (Below w.heap.size w (wr.setCell ⟨w.heap.size, 64 * n + m, none⟩ (.int .u8 v)).drew) ∧ w.heap.size < (wr.setCell ⟨w.heap.size, 64 * n + m, none⟩ (.int .u8 v)).drew.heap.size) := fun v hv => by
              refine ⟨?_, fun i hi => ?_, (HB.out.setCell (Nat.le_refl _) _).drew, by simpa [World.setCell] using hlt2⟩
              · show RowIs _ _ _
                rw [show 64 * n + (m + 1) = (64 * n + m) + 1 by omega, cipherTo_set _ _ _ _ _ hj, hv]
                exact HR.out.set (by rw [cipherTo_length]; exact hj) _
              · show (wr.setCell ⟨w.heap.size, 64 * n + m, none⟩ (.int .u8 v)).cell? _ = _
                rw [World.cell?_setCell_other _ _ _ _ (by first | (simp; done) | (simp; omega))]
                exact HX.out i hi
            have e0 : IntKind.i64.wrap (64 * (n : Int) + (m : Int)) = 64 * (n : Int) + (m : Int) := by rw [IntKind.wrap_i64]; omega
            have b0 : (0 : Int) ≤ 64 * (n : Int) + (m : Int) := by omega
            have b1 : 64 * (n : Int) + (m : Int) < (t.size : Int) := by omega
            have b2 : (64 * (n : Int) + (m : Int)).toNat = 64 * n + m := by omega
            have b3 : (m : Int) < 64 := by omega
            have b4 : (0 : Int) ≤ (m : Int) := by omega
            generalize ((L[64 * n + m]).toNat : Int) = y at *
            generalize (blockN key.data.toList cn nonce.data.toList 16).getD m 0 = z at *
            clear HKM
            go_wp2
            go_region
            go_wp2
            go_roundw
            case rel => exact ⟨m + 1, by omega, by omega, by go_num, HS.out _ HV.out⟩
            case measure => simp [intOf]; omega
    · obtain ⟨R, hR⟩ : ∃ R : List UInt8, R = cipherL key.data.toList ctr nonce.data.toList L := ⟨_, rfl⟩
      have hRl : R.length = t.size := by rw [hR, ← Htl.out]; exact cipherTo_length _ _ _ _ _
      have hRow : RowIs wr w.heap.size R := by
        rw [hR]
        unfold cipherL
        rw [cipherTo_more _ _ _ _ (Nat.le_refl _) (show L.length ≤ 64 * n by rw [Htl.out]; omega)]
        exact HR.out
      have hconv := run_convert_bytes_back (P := Tryd.prog) wr 91 9 5 ⟨w.heap.size, 0, none⟩ cap R Tryd.underlying91 Tryd.underlying5 Tryd.underlying9 (fun j hj => by
        have e : (⟨w.heap.size, 0, none⟩ : Addr).add j = ⟨w.heap.size, j, none⟩ := by unfold Addr.add; split <;> simp_all
        rw [e]; exact (hRow j hj).1)
      rw [hRl] at hconv
      have HRR : Hid (R = cipherL key.data.toList ctr nonce.data.toList L) := hR
      clear hR hRow hRl
      go_wp2
      go_ret
      exact ⟨ret_lst HRR.out, HB.out⟩

end Go.Proofs.YtneahcoakbbdaaaDoor.cc
