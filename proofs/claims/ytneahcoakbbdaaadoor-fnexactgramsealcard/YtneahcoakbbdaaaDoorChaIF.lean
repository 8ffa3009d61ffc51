/-
  The program's Cipher at every argument, where the table of places lies in its variable: what the plain function tells; no old block turns.
-/
import Derived.Test.YtneahcoakbbdaaaDoorChaIE
import Derived.Test.YtneahcoakbbdaaaDoorChaLaws
namespace Go.Proofs.YtneahcoakbbdaaaDoor.cc
open Go.ChangeShapes Go.WideShapes Go.ChangeAt Go.RowKit
open Go.Proofs.YtneahcoakbbdaaaDoor.sh (U bits_U wr_U byteAt)
open Go.Lib (byteCells)
set_option linter.unusedVariables false

/-- the bytes on the way: the first m are hidden -/
def hidTo (C : List UInt8) (m : Nat) : List UInt8 := C.take m ++ List.replicate (C.length - m) 0
theorem hidTo_length (C : List UInt8) (m : Nat) (h : m ≤ C.length) : (hidTo C m).length = C.length := by simp [hidTo]; omega
theorem hidTo_zero (C : List UInt8) : hidTo C 0 = List.replicate C.length 0 := by simp [hidTo]
theorem hidTo_end (C : List UInt8) : hidTo C C.length = C := by simp [hidTo]
theorem hidTo_set (C : List UInt8) (m : Nat) (h : m < C.length) (y : UInt8) (hy : y = C[m]) : (hidTo C m).set m y = hidTo C (m + 1) := by
  unfold hidTo
  obtain ⟨k, hk⟩ : ∃ k, C.length - m = k + 1 := ⟨C.length - m - 1, by omega⟩
  have hk' : C.length - (m + 1) = k := by omega
  have hl : (C.take m).length = m := by simp; omega
  rw [hk, hk', List.replicate_succ, List.set_append_right _ _ (by omega), hl, Nat.sub_self, List.set_cons_zero, hy, List.take_add_one, List.getElem?_eq_getElem h, List.append_assoc]
  rfl
theorem cipherL_get (key : List UInt8) (ctr : Int) (nonce t : List UInt8) (m : Nat) (h : m < t.length) : (cipherL key ctr nonce t)[m]'(by rw [cipherL_length]; exact h) = t[m] ^^^ keyByte key ctr nonce m := by
  have e := cipherL_at key ctr nonce t m
  rw [List.getElem?_eq_getElem (by rw [cipherL_length]; exact h), List.getElem?_eq_getElem h] at e
  exact Option.some.inj e
/-- the text of a block -/
def blockS (key : List UInt8) (c : Int) (nonce : List UInt8) : ByteArray := strOfNums (blockN key c nonce 16)
theorem blockS_size (key : List UInt8) (c : Int) (nonce : List UInt8) : (blockS key c nonce).size = 64 := by
  show (List.toArray _).size = 64
  rw [List.size_toArray, List.length_map, blockBytes_length]
theorem strOf_at (l : List Int) (i : Nat) (h : i < (strOfNums l).size) : (strOfNums l)[i] = UInt8.ofNat (l.getD i 0).toNat := by
  have hl : i < l.length := by
    have e : (strOfNums l).size = l.length := by
      show (List.toArray _).size = _
      rw [List.size_toArray, List.length_map]
    omega
  have e2 : (strOfNums l).data[i]? = some (UInt8.ofNat (l.getD i 0).toNat) := by
    show ((l.map fun n => UInt8.ofNat n.toNat).toArray)[i]? = _
    rw [List.getElem?_toArray, List.getElem?_map, List.getElem?_eq_getElem hl, List.getD_eq_getElem?_getD, List.getElem?_eq_getElem hl]
    rfl
  have e3 : (strOfNums l).data[i]? = some ((strOfNums l).data[i]'h) := Array.getElem?_eq_getElem h
  exact Option.some.inj (e3.symm.trans e2)
theorem blockS_at (key : List UInt8) (ctr : Int) (nonce : List UInt8) (m : Nat) (h : m % 64 < (blockS key (sh.wr (ctr + ((m / 64 : Nat) : Int))) nonce).size) : (blockS key (sh.wr (ctr + ((m / 64 : Nat) : Int))) nonce)[m % 64] = keyByte key ctr nonce m := by
  unfold keyByte blockS
  exact strOf_at _ _ h
theorem xor8 (b m : UInt8) : bits BinOp.xor IntKind.u8 (b.toNat : Int) (m.toNat : Int) = (((b ^^^ m).toNat : Nat) : Int) := xor_u8 b m
/-- how the stream stands: its numbers, and the row of what is hidden -/
def InCip (w : World) (p g : Nat) (F : List Int) (L : List UInt8) (u : World) : Prop := Below w.heap.size w u ∧ w.heap.size ≤ p ∧ p < g ∧ u.heap[p]? = some (.cells (cellsU F) 110 (0, 0)) ∧ u.heap[g]? = some (.cells (byteCells L).toArray 5 (0, 0))
theorem InCip.below {w u v : World} {p g : Nat} {F : List Int} {L : List UInt8} (h : InCip w p g F L u) (hb : Below u.heap.size u v) : InCip w p g F L v :=
  ⟨h.1.trans (hb.mono h.1.size), h.2.1, h.2.2.1, (hb.block _ (heap_lt h.2.2.2.1)).trans h.2.2.2.1, (hb.block _ (heap_lt h.2.2.2.2)).trans h.2.2.2.2⟩
theorem InCip.setF {w u : World} {p g : Nat} {F : List Int} {L : List UInt8} (h : InCip w p g F L u) (i : Nat) (x : Int) : InCip w p g (F.set i x) L (u.setCell ⟨p, i, none⟩ (.int .u32 x)) := by
  obtain ⟨hB, h1, h2, h3, h4⟩ := h
  refine ⟨hB.setCell h1 _, h1, h2, ?_, (heap_setCell_other _ _ _ _ (by show g ≠ p; omega)).trans h4⟩
  have e := heap_setCell_same _ _ i _ _ (.int .u32 x) h3
  rw [cellsU_set] at e
  exact e
theorem InCip.setL {w u : World} {p g : Nat} {F : List Int} {L : List UInt8} (h : InCip w p g F L u) (i : Nat) (y : UInt8) : InCip w p g F (L.set i y) (u.setCell ⟨g, i, none⟩ (.int .u8 (y.toNat : Int))) := by
  obtain ⟨hB, h1, h2, h3, h4⟩ := h
  refine ⟨hB.setCell (by show w.heap.size ≤ g; omega) _, h1, h2, (heap_setCell_other _ _ _ _ (by show p ≠ g; omega)).trans h3, ?_⟩
  have e := heap_setCell_same _ _ i _ _ (.int .u8 (y.toNat : Int)) h4
  rw [cellsB_set] at e
  exact e
theorem InCip.drew {w u : World} {p g : Nat} {F : List Int} {L : List UInt8} (h : InCip w p g F L u) : InCip w p g F L u.drew := ⟨h.1.drew, h.2.1, h.2.2.1, h.2.2.2.1, h.2.2.2.2⟩
/-- the counter behind m bytes -/
def ctrAt (n : Int) (m : Nat) : Int := sh.wr (n + (((m + 63) / 64 : Nat) : Int))
def ctrOf (n : Int) (m : Nat) : Int := sh.wr (n + ((m / 64 : Nat) : Int))
theorem ctr_next (n : Int) (m : Nat) (h : m % 64 = 0) : ctrAt n m = ctrOf n m ∧ sh.wr (ctrOf n m + 1) = ctrAt n (m + 1) := by
  unfold ctrAt ctrOf
  refine ⟨by rw [show (m + 63) / 64 = m / 64 by omega], ?_⟩
  rw [show (m + 1 + 63) / 64 = m / 64 + 1 by omega]
  unfold sh.wr; simp only [IntKind.wrap_u32]; omega
theorem ctr_same (n : Int) (m : Nat) (h : m % 64 ≠ 0) : ctrAt n (m + 1) = ctrAt n m := by
  unfold ctrAt
  rw [show (m + 1 + 63) / 64 = (m + 63) / 64 by omega]
theorem ctrOf_same (n : Int) (m : Nat) (h : (m + 1) % 64 ≠ 0) : ctrOf n (m + 1) = ctrOf n m := by
  unfold ctrOf
  rw [show (m + 1) / 64 = m / 64 by omega]

set_option maxRecDepth 20000 in
set_option maxHeartbeats 8000000 in
theorem implCipher_core (key : ByteArray) (n : Int) (nonce t : ByteArray) (w : World) (h1 : key.size = 32) (h2 : nonce.size = 12) (h3 : U n) (ht : t.size ≤ 8000) (hM : Mixes w) :
    Calls Tryd.prog 63 #[.string key, .int .i64 n, .string nonce, .string t] w fun e w' => e = .returned (.string ⟨(cipherL key.data.toList n nonce.data.toList t.data.toList).toArray⟩) ∧ Below w.heap.size w w' := by
  obtain ⟨i0, hi, hz0, hz1, hz2⟩ := info_parts infoB
  have htl : t.data.toList.length = t.size := by simp
  have HR := right_any key n nonce w (by unfold maxLen; omega) (by unfold maxLen; omega)
  have h4 : decide (key.size = 32 ∧ nonce.size = 12 ∧ 0 ≤ n ∧ n ≤ 4294967295) = true := decide_eq_true ⟨h1, h2, h3⟩
  rw [h4] at HR
  have ht1 : decide (8000 < (t.size : Int)) = false := decide_eq_false (by omega)
  have HM : Hid (Mixes w) := hM
  have hgl := hM.lt
  clear hM
  obtain ⟨C, hC⟩ : ∃ C, C = cipherL key.data.toList n nonce.data.toList t.data.toList := ⟨_, rfl⟩
  have HC : Hid (C = cipherL key.data.toList n nonce.data.toList t.data.toList) := hC
  have hCl : C.length = t.size := by rw [hC, cipherL_length]; exact htl
  rw [← hC]
  clear hC
  have hmk : ∀ u : World, (Instr.makeSlice 91 (.int .i64 (t.size : Int)) (.int .i64 (t.size : Int))).run Tryd.prog u = .ok (.slice (some ⟨u.heap.size, 0, none⟩) t.size t.size) (u.alloc (.cells (byteCells (hidTo C 0)).toArray 5)) := fun u => by
    have h := run_make (P := Tryd.prog) u 91 5 i0 (.int .u8 0) Tryd.underlying91 hi hz0 .i64 .i64 (t.size : Int) (t.size : Int) (by omega) (Int.le_refl _) (by rw [hz2]; omega) (by omega)
    rw [show byteCells (hidTo C 0) = List.replicate t.size (Value.int .u8 0) by rw [hidTo_zero, hCl]; simp [byteCells], ← madeRowB]
    simpa [hz1, Value.cells] using h
  go_enter Tryd.func63, Tryd.ntmps63
  go_wp2_with (first | (go_at_call 83; refine HR.mono ?_; rintro e w1 ⟨rfl, hw1⟩; obtain rfl := hw1.symm) | (go_at_call 84; refine (new_any key nonce n w h1 h2 h3).mono ?_; rintro e w2 ⟨rfl, hB2⟩) | (refine wpList_store_row rfl 110 _ _ rfl w2.heap.size _ rfl rfl _ _ (heap_alloc_new _ _) (infoU _ (first_length _ _ _)) ((cells16_size [] (by decide)).trans ((cellsU_size _).trans (first_length _ _ _)).symm) (cellsU_one _) ?_))
  clear hmk HR
  have hw2 : w.heap.size ≤ w2.heap.size := hB2.size
  have HI0 : Hid (InCip w w2.heap.size (w2.heap.size + 1) (first key.data.toList (ctrAt n 0) nonce.data.toList) (hidTo C 0) (((w2.alloc (.cells (cells16 []) 110)).setRow w2.heap.size (cellsU (first key.data.toList n nonce.data.toList))).alloc (.cells (byteCells (hidTo C 0)).toArray 5))) := by
    have e0 : ctrAt n 0 = n := by
      unfold ctrAt
      rw [show (0 + 63) / 64 = 0 from rfl, show n + ((0 : Nat) : Int) = n by omega, sh.wr_id h3]
    have hs : ((w2.alloc (.cells (cells16 []) 110)).setRow w2.heap.size (cellsU (first key.data.toList n nonce.data.toList))).heap.size = w2.heap.size + 1 := by simp [World.setRow]
    rw [e0]
    refine ⟨(below_setRow (hB2.alloc hw2 _) hw2 _).alloc (by rw [hs]; omega) _, hw2, by omega, ?_, ?_⟩
    · rw [Below.heap_alloc _ _ _ (by rw [hs]; omega)]
      exact setRow_heap _ _ _ _ _ _ (heap_alloc_new _ _)
    · have := heap_alloc_new ((w2.alloc (.cells (cells16 []) 110)).setRow w2.heap.size (cellsU (first key.data.toList n nonce.data.toList))) (.cells (byteCells (hidTo C 0)).toArray 5)
      rw [hs] at this
      exact this
  have HB2 : Hid (Below w.heap.size w w2) := hB2
  clear hB2
  generalize w2.heap.size = p at *
  go_loopw [10, 12, 32] (fun b _ i u => ∃ m : Nat, m ≤ t.size ∧ i = .int .i64 m ∧ Hid (m % 64 ≠ 0 → b = .string (blockS key.data.toList (ctrOf n m) nonce.data.toList)) ∧ Hid (InCip w p (p + 1) (first key.data.toList (ctrAt n m) nonce.data.toList) (hidTo C m) u)) (fun _ _ i _ => t.size - (intOf i).toNat)
  case atStart => exact ⟨0, by omega, rfl, fun h => absurd rfl h, HI0⟩
  case round =>
    clear HI0 HB2
    obtain ⟨m, hm, rfl, HBk, HI⟩ := hrel
    by_cases hlt : m < t.size
    · have HMr : Hid (Mixes wr) := HM.out.below HI.out.1 hgl
      have hcu : U (ctrAt n m) := wr_U _
      by_cases hz : m % 64 = 0
      · obtain ⟨ec1, ec2⟩ := ctr_next n m hz
        have hmz : (m : Int).tmod 64 = 0 := by rw [Int.tmod_eq_emod_of_nonneg (by omega)]; omega
        have hmz2 : (m : Int) % 64 = 0 := by omega
        have hrow := HI.out.2.2.2.1
        go_wp2_with (first | (refine wpList_load_row rfl 110 _ rfl p rfl _ _ _ _ hrow Tryd.underlying110 rfl (infoU _ (first_length _ _ _)) ?_) | (go_at_call 85; refine (blockI_any (first key.data.toList (ctrOf n m) nonce.data.toList) wr (first_length _ _ _) (firstU _ _ _ (wr_U _)) HMr.out).mono ?_; rintro e w3 ⟨rfl, hB3⟩; rw [show strOfNums (blockF (first key.data.toList (ctrOf n m) nonce.data.toList) 16) = blockS key.data.toList (ctrOf n m) nonce.data.toList from rfl]; have HI3 : Hid (InCip w p (p + 1) (first key.data.toList (ctrOf n m) nonce.data.toList) (hidTo C m) w3) := (by show InCip _ _ _ _ _ _; rw [← ec1]; exact HI.out.below hB3); have hc12 : w3.cell? ⟨p, 12, none⟩ = some (.int .u32 (ctrOf n m)) := (by rw [cell_of_row _ _ _ _ _ _ HI3.out.2.2.2.1, cellsU_at _ _ (by rw [first_length]; decide), first_at]); have hf12 : w3.frozen? ⟨p, 12, none⟩ = false := frozen_of_row _ _ _ _ _ HI3.out.2.2.2.1; clear hrow hB3 HI HBk HMr))
        refine wp_w (fun u => InCip w p (p + 1) (first key.data.toList (ctrAt n (m + 1)) nonce.data.toList) (hidTo C m) u) (by
          have h := HI3.out.setF 12 (ctrAt n (m + 1))
          rw [first_set] at h
          exact h) ?_
        intro u2 hu2
        have HJ : Hid (InCip w p (p + 1) (first key.data.toList (ctrAt n (m + 1)) nonce.data.toList) (hidTo C m) u2) := hu2
        clear hu2 HI3 hc12 hf12 hz hmz hmz2 ec1 ec2 hcu
        have hBs := blockS_size key.data.toList (ctrOf n m) nonce.data.toList
        have HBA : Hid (∀ h : m % 64 < (blockS key.data.toList (ctrOf n m) nonce.data.toList).size, (blockS key.data.toList (ctrOf n m) nonce.data.toList)[m % 64] = keyByte key.data.toList n nonce.data.toList m) := fun h => blockS_at _ _ _ _ h
        have HNX : Hid ((m + 1) % 64 ≠ 0 → Value.string (blockS key.data.toList (ctrOf n m) nonce.data.toList) = Value.string (blockS key.data.toList (ctrOf n (m + 1)) nonce.data.toList)) := fun h => by rw [ctrOf_same n m h]
        generalize blockS key.data.toList (ctrOf n m) nonce.data.toList = B at *
        have hf : u2.frozen? ⟨p + 1, m, none⟩ = false := frozen_of_row _ _ _ _ _ HJ.out.2.2.2.2
        have hc := cellB_at HJ.out.2.2.2.2 m (by rw [hidTo_length _ _ (by omega)]; omega)
        generalize ((hidTo C m)[m]'(by rw [hidTo_length _ _ (by omega)]; omega)).toNat = z at *
        have HJJ : Hid (∀ x, x = ((C[m]'(by omega)).toNat : Int) → Hid (InCip w p (p + 1) (first key.data.toList (ctrAt n (m + 1)) nonce.data.toList) (hidTo C (m + 1)) (u2.setCell ⟨p + 1, m, none⟩ (.int .u8 x)).drew)) := fun x hx => by
          show InCip _ _ _ _ _ _
          rw [hx, ← hidTo_set C m (by omega) _ rfl]
          exact (HJ.out.setL m _).drew
        have HV : Hid ((((t[m]'hlt) ^^^ (B[m % 64]'(by omega))).toNat : Int) = ((C[m]'(by omega)).toNat : Int)) := by
          show _ = _
          have e : C[m]'(by omega) = t.data.toList[m]'(by omega) ^^^ keyByte key.data.toList n nonce.data.toList m := by
            have h := HC.out
            subst h
            exact cipherL_get _ _ _ _ _ (by omega)
          rw [e, HBA.out (by omega)]
          rfl
        have HX : Hid (bits BinOp.xor IntKind.u8 ((t[m]'hlt).toNat : Int) ((B[m % 64]'(by omega)).toNat : Int) = (((t[m]'hlt) ^^^ (B[m % 64]'(by omega))).toNat : Int)) := xor8 _ _
        have er : (m : Int).tmod 64 = (m : Int) % 64 := Int.tmod_eq_emod_of_nonneg (by omega)
        have er2 : ((m : Int) % 64).toNat = m % 64 := by omega
        have b0 : (0 : Int) ≤ (m : Int) % 64 := by omega
        have b1 : (m : Int) % 64 < 64 := by omega
        have b2 : m % 64 < 64 := by omega
        have b3 : (0 : Int) ≤ (m : Int) := by omega
        have b4 : (m : Int) < (t.size : Int) := by omega
        clear HJ HBA
        go_wp2
        go_region
        go_wp2
        go_roundw
        case rel => exact ⟨m + 1, by omega, by go_num, HNX, HJJ.out _ (by rw [← HV.out, ← HX.out])⟩
        case measure => simp [intOf]; omega
      · have hb := HBk.out hz
        subst hb
        have HJ : Hid (InCip w p (p + 1) (first key.data.toList (ctrAt n (m + 1)) nonce.data.toList) (hidTo C m) wr) := by
          show InCip _ _ _ _ _ _
          rw [ctr_same n m hz]; exact HI.out
        have hmz : ((m : Int) % 64 == 0) = false := beq_eq_false_iff_ne.2 (by omega)
        clear HBk HI
        have hBs := blockS_size key.data.toList (ctrOf n m) nonce.data.toList
        have HBA : Hid (∀ h : m % 64 < (blockS key.data.toList (ctrOf n m) nonce.data.toList).size, (blockS key.data.toList (ctrOf n m) nonce.data.toList)[m % 64] = keyByte key.data.toList n nonce.data.toList m) := fun h => blockS_at _ _ _ _ h
        have HNX : Hid ((m + 1) % 64 ≠ 0 → Value.string (blockS key.data.toList (ctrOf n m) nonce.data.toList) = Value.string (blockS key.data.toList (ctrOf n (m + 1)) nonce.data.toList)) := fun h => by rw [ctrOf_same n m h]
        generalize blockS key.data.toList (ctrOf n m) nonce.data.toList = B at *
        have hf : wr.frozen? ⟨p + 1, m, none⟩ = false := frozen_of_row _ _ _ _ _ HJ.out.2.2.2.2
        have hc := cellB_at HJ.out.2.2.2.2 m (by rw [hidTo_length _ _ (by omega)]; omega)
        generalize ((hidTo C m)[m]'(by rw [hidTo_length _ _ (by omega)]; omega)).toNat = z at *
        have HJJ : Hid (∀ x, x = ((C[m]'(by omega)).toNat : Int) → Hid (InCip w p (p + 1) (first key.data.toList (ctrAt n (m + 1)) nonce.data.toList) (hidTo C (m + 1)) (wr.setCell ⟨p + 1, m, none⟩ (.int .u8 x)).drew)) := fun x hx => by
          show InCip _ _ _ _ _ _
          rw [hx, ← hidTo_set C m (by omega) _ rfl]
          exact (HJ.out.setL m _).drew
        have HV : Hid ((((t[m]'hlt) ^^^ (B[m % 64]'(by omega))).toNat : Int) = ((C[m]'(by omega)).toNat : Int)) := by
          show _ = _
          have e : C[m]'(by omega) = t.data.toList[m]'(by omega) ^^^ keyByte key.data.toList n nonce.data.toList m := by
            have h := HC.out
            subst h
            exact cipherL_get _ _ _ _ _ (by omega)
          rw [e, HBA.out (by omega)]
          rfl
        have HX : Hid (bits BinOp.xor IntKind.u8 ((t[m]'hlt).toNat : Int) ((B[m % 64]'(by omega)).toNat : Int) = (((t[m]'hlt) ^^^ (B[m % 64]'(by omega))).toNat : Int)) := xor8 _ _
        have er : (m : Int).tmod 64 = (m : Int) % 64 := Int.tmod_eq_emod_of_nonneg (by omega)
        have er2 : ((m : Int) % 64).toNat = m % 64 := by omega
        have b0 : (0 : Int) ≤ (m : Int) % 64 := by omega
        have b1 : (m : Int) % 64 < 64 := by omega
        have b2 : m % 64 < 64 := by omega
        have b3 : (0 : Int) ≤ (m : Int) := by omega
        have b4 : (m : Int) < (t.size : Int) := by omega
        clear HJ HBA
        go_wp2
        go_region
        go_wp2
        go_roundw
        case rel => exact ⟨m + 1, by omega, by go_num, HNX, HJJ.out _ (by rw [← HV.out, ← HX.out])⟩
        case measure => simp [intOf]; omega
    · obtain rfl : m = t.size := by omega
      have hend : hidTo C t.size = C := by rw [← hCl]; exact hidTo_end C
      have hrow := HI.out.2.2.2.2
      rw [hend] at hrow
      have hconv := run_convert_bytes_back (P := Tryd.prog) wr 91 9 5 ⟨p + 1, 0, none⟩ t.size C Tryd.underlying91 Tryd.underlying5 Tryd.underlying9 (fun j hj => by
        have e : (⟨p + 1, 0, none⟩ : Addr).add j = ⟨p + 1, j, none⟩ := by unfold Addr.add; split <;> simp_all
        rw [e]; exact cellB_at hrow j hj)
      rw [hCl] at hconv
      have HBe : Hid (Below w.heap.size w wr) := HI.out.1
      clear hrow HI
      go_wp2
      go_ret
      exact ⟨rfl, HBe.out⟩

set_option maxHeartbeats 2000000 in
theorem implCipher_any (key : ByteArray) (n : Int) (nonce t : ByteArray) (w : World) (hk : key.size ≤ maxLen) (hn : nonce.size ≤ maxLen) (ht : t.size ≤ maxLen) (hM : Mixes w) :
    Calls Tryd.prog 63 #[.string key, .int .i64 n, .string nonce, .string t] w fun e w' => e = .returned (.string (cipherA key n nonce t)) ∧ Below w.heap.size w w' := by
  have HR := right_any key n nonce w hk hn
  unfold maxLen at ht
  by_cases h8 : 8000 < t.size
  · rw [cipherA_no (fun h => by have := h.2.2.2; omega)]
    go_enter Tryd.func63, Tryd.ntmps63
    go_wp2
    go_ret
    exact ⟨rfl, Below.refl _ _⟩
  · by_cases h : key.size = 32 ∧ nonce.size = 12 ∧ 0 ≤ n ∧ n ≤ 4294967295
    · rw [cipherA_yes ⟨h.1, h.2.1, h.2.2, by omega⟩]
      exact implCipher_core key n nonce t w h.1 h.2.1 h.2.2 (by omega) hM
    · rw [cipherA_no (fun g => h ⟨g.1, g.2.1, g.2.2.1⟩)]
      have h4 : decide (key.size = 32 ∧ nonce.size = 12 ∧ 0 ≤ n ∧ n ≤ 4294967295) = false := by simp only [h, decide_false]
      rw [h4] at HR
      go_enter Tryd.func63, Tryd.ntmps63
      go_wp2_with (go_at_call 83; refine HR.mono ?_; rintro e w1 ⟨rfl, hw1⟩; obtain rfl := hw1.symm)
      go_ret
      exact ⟨rfl, Below.refl _ _⟩
end Go.Proofs.YtneahcoakbbdaaaDoor.cc
