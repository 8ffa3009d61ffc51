/-
  Plain mathematics of the digest: the numbers of a block, its rounds, and what a text of any length makes of the state, block by block.
-/
import Derived.Test.YtcfekhahibklfaaDoorRows
import Derived.WalkKit
import Derived.ProofKit
import Derived.OpenShut
import Derived.ShutString
import Derived.WalkLawsBesides
import Derived.Laws.BitsAllLaws
namespace Go.Proofs.YtcfekhahibklfaaDoor.sh
open Go.ChangeShapes Go.WideShapes Go.ChangeAt Go.RowKit
set_option linter.unusedVariables false

def U (y : Int) : Prop := 0 ≤ y ∧ y ≤ 4294967295
abbrev wr (y : Int) : Int := IntKind.u32.wrap y
theorem wr_U (y : Int) : U (wr y) := by unfold U wr; rw [IntKind.wrap_u32]; omega
theorem wr_id {y : Int} (h : U y) : wr y = y := by unfold U at h; unfold wr; rw [IntKind.wrap_u32]; omega
theorem bits_U (op : BinOp) (x y : Int) : U (bits op .u32 x y) := by
  have := wf_bits op .u32 x y
  simpa [U, Lit.wf, IntKind.min, IntKind.max, IntKind.signed, IntKind.bits] using this
theorem div_U {y : Int} (h : U y) (k : Nat) : U (y / 2 ^ k) := by
  obtain ⟨h0, h1⟩ := h
  have hp : (0 : Int) < 2 ^ k := Int.pow_pos (by decide)
  exact ⟨Int.ediv_nonneg h0 (by omega), Int.le_trans (Int.ediv_le_self _ h0) h1⟩
theorem or_comm (x y : Int) : bits BinOp.or IntKind.u32 x y = bits BinOp.or IntKind.u32 y x := by
  simp only [bits, BitVec.or_comm]
theorem wr_add_assoc (x y z : Int) : wr (wr (x + y) + z) = wr (x + wr (y + z)) := by
  unfold wr; simp only [IntKind.wrap_u32]; omega

/-- turned right by k -/
def rotr (k : Nat) (x : Int) : Int := bits .or .u32 (wr (x * 2 ^ (32 - k))) (x / 2 ^ k)
theorem rotr_U (k : Nat) (x : Int) : U (rotr k x) := bits_U _ _ _
abbrev xor (x y : Int) : Int := bits .xor .u32 x y
abbrev and (x y : Int) : Int := bits .and .u32 x y
/-- each bit turned -/
def neg (x : Int) : Int := bits .xor .u32 IntKind.u32.max x

def s0 (x : Int) : Int := xor (xor (rotr 7 x) (rotr 18 x)) (x / 2 ^ 3)
def s1 (x : Int) : Int := xor (xor (rotr 17 x) (rotr 19 x)) (x / 2 ^ 10)
def S0 (x : Int) : Int := xor (xor (rotr 2 x) (rotr 13 x)) (rotr 22 x)
def S1 (x : Int) : Int := xor (xor (rotr 6 x) (rotr 11 x)) (rotr 25 x)
def ch (e f g : Int) : Int := xor (and e f) (and (neg e) g)
def maj (a b c : Int) : Int := xor (xor (and a b) (and a c)) (and b c)

/-- four bytes as one number, the highest first -/
def word (b0 b1 b2 b3 : Int) : Int := bits .or .u32 (bits .or .u32 (bits .or .u32 (wr (b0 * 2 ^ 24)) (wr (b1 * 2 ^ 16))) (wr (b2 * 2 ^ 8))) b3
def byteAt (b : List UInt8) (i : Nat) : Int := ((b.getD i 0).toNat : Int)
theorem byteAt_le (b : List UInt8) (i : Nat) : 0 ≤ byteAt b i ∧ byteAt b i ≤ 255 := by
  have := (b.getD i 0).toNat_lt
  unfold byteAt; omega
def wordAt (b : List UInt8) (i : Nat) : Int := word (byteAt b (4 * i)) (byteAt b (4 * i + 1)) (byteAt b (4 * i + 2)) (byteAt b (4 * i + 3))
/-- the number behind those that are there -/
def next (l : List Int) : Int := wr (wr (wr (l.getD (l.length - 16) 0 + s0 (l.getD (l.length - 15) 0)) + l.getD (l.length - 7) 0) + s1 (l.getD (l.length - 2) 0))
/-- the first n numbers of a block -/
def words (b : List UInt8) : Nat → List Int
  | 0 => []
  | n + 1 => let l := words b n; l ++ [if n < 16 then wordAt b n else next l]
theorem words_length (b : List UInt8) : ∀ n, (words b n).length = n
  | 0 => rfl
  | n + 1 => by simp [words, words_length b n]
theorem words_U (b : List UInt8) : ∀ n, ∀ x ∈ words b n, U x
  | 0, x, h => by simp [words] at h
  | n + 1, x, h => by
    simp only [words, List.mem_append, List.mem_singleton] at h
    rcases h with h | h
    · exact words_U b n x h
    · subst h; split
      · unfold wordAt word; exact bits_U _ _ _
      · exact wr_U _
theorem words_succ_lo (b : List UInt8) (n : Nat) (h : n < 16) : words b (n + 1) = words b n ++ [wordAt b n] := by simp [words, h]
theorem words_succ_hi (b : List UInt8) (n : Nat) (h : 16 ≤ n) : words b (n + 1) = words b n ++ [next (words b n)] := by
  have : ¬ n < 16 := by omega
  simp [words, this]

/-- the numbers of the rounds -/
def keys : List Int := [1116352408, 1899447441, 3049323471, 3921009573, 961987163, 1508970993, 2453635748, 2870763221, 3624381080, 310598401, 607225278, 1426881987, 1925078388, 2162078206, 2614888103, 3248222580, 3835390401, 4022224774, 264347078, 604807628, 770255983, 1249150122, 1555081692, 1996064986, 2554220882, 2821834349, 2952996808, 3210313671, 3336571891, 3584528711, 113926993, 338241895, 666307205, 773529912, 1294757372, 1396182291, 1695183700, 1986661051, 2177026350, 2456956037, 2730485921, 2820302411, 3259730800, 3345764771, 3516065817, 3600352804, 4094571909, 275423344, 430227734, 506948616, 659060556, 883997877, 958139571, 1322822218, 1537002063, 1747873779, 1955562222, 2024104815, 2227730452, 2361852424, 2428436474, 2756734187, 3204031479, 3329325298]
def key (i : Nat) : Int := keys.getD i 0
theorem keys_length : keys.length = 64 := by decide
theorem key_U (i : Nat) : U (key i) := by
  have h : ∀ x ∈ keys, U x := by unfold U; decide
  unfold key
  rw [List.getD_eq_getElem?_getD]
  cases e : keys[i]? with
  | none => exact ⟨by decide, by decide⟩
  | some x => exact h x (List.mem_of_getElem? e)

/-- the eight numbers of a state -/
structure St where
  (a b c d e f g h : Int)
def St.vals (s : St) : List Value := [.int .u32 s.a, .int .u32 s.b, .int .u32 s.c, .int .u32 s.d, .int .u32 s.e, .int .u32 s.f, .int .u32 s.g, .int .u32 s.h]
def St.nums (s : St) : List Int := [s.a, s.b, s.c, s.d, s.e, s.f, s.g, s.h]
def St.ok (s : St) : Prop := U s.a ∧ U s.b ∧ U s.c ∧ U s.d ∧ U s.e ∧ U s.f ∧ U s.g ∧ U s.h
def t1 (s : St) (x : Int) : Int := wr (wr (wr (s.h + S1 s.e) + ch s.e s.f s.g) + x)
def t2 (s : St) : Int := wr (S0 s.a + maj s.a s.b s.c)
/-- one round -/
def St.round (s : St) (x : Int) : St := ⟨wr (t1 s x + t2 s), s.a, s.b, s.c, wr (s.d + t1 s x), s.e, s.f, s.g⟩
theorem St.round_ok {s : St} (h : s.ok) (x : Int) : (s.round x).ok := by
  obtain ⟨a, b, c, d, e, f, g, hh⟩ := h
  exact ⟨wr_U _, a, b, c, wr_U _, e, f, g⟩
def rounds (ws : List Int) (s : St) : Nat → St
  | 0 => s
  | n + 1 => (rounds ws s n).round (wr (key n + ws.getD n 0))
theorem rounds_ok (ws : List Int) {s : St} (h : s.ok) : ∀ n, (rounds ws s n).ok
  | 0 => h
  | n + 1 => St.round_ok (rounds_ok ws h n) _
def St.add (s r : St) : St := ⟨wr (s.a + r.a), wr (s.b + r.b), wr (s.c + r.c), wr (s.d + r.d), wr (s.e + r.e), wr (s.f + r.f), wr (s.g + r.g), wr (s.h + r.h)⟩
theorem St.add_ok (s r : St) : (s.add r).ok := ⟨wr_U _, wr_U _, wr_U _, wr_U _, wr_U _, wr_U _, wr_U _, wr_U _⟩
/-- a block taken into a state -/
def block (s : St) (b : List UInt8) : St := s.add (rounds (words b 64) s 64)
theorem block_ok (s : St) (b : List UInt8) : (block s b).ok := St.add_ok _ _
def start : St := ⟨1779033703, 3144134277, 1013904242, 2773480762, 1359893119, 2600822924, 528734635, 1541459225⟩
theorem start_ok : start.ok := by unfold St.ok U start; decide

/-- blocks are taken while there are 64 bytes, at most so many -/
def takeF : Nat → St → List UInt8 → St × List UInt8
  | 0, s, l => (s, l)
  | n + 1, s, l => if 64 ≤ l.length then takeF n (block s (l.take 64)) (l.drop 64) else (s, l)
theorem takeF_any : ∀ (n m : Nat) (s : St) (l : List UInt8), l.length ≤ n → l.length ≤ m → takeF n s l = takeF m s l
  | 0, 0, _, _, _, _ => rfl
  | 0, m + 1, s, l, h, _ => by
    show (s, l) = if 64 ≤ l.length then _ else (s, l)
    rw [if_neg (by omega)]
  | n + 1, 0, s, l, _, h => by
    show (if 64 ≤ l.length then _ else (s, l)) = (s, l)
    rw [if_neg (by omega)]
  | n + 1, m + 1, s, l, h1, h2 => by
    show (if 64 ≤ l.length then takeF n (block s (l.take 64)) (l.drop 64) else (s, l)) = if 64 ≤ l.length then takeF m (block s (l.take 64)) (l.drop 64) else (s, l)
    by_cases h : 64 ≤ l.length
    · rw [if_pos h, if_pos h]
      exact takeF_any n m _ _ (by rw [List.length_drop]; omega) (by rw [List.length_drop]; omega)
    · rw [if_neg h, if_neg h]
/-- blocks are taken while there are 64 bytes -/
def take (s : St) (l : List UInt8) : St × List UInt8 := takeF l.length s l
theorem take_lt {s : St} {l : List UInt8} (h : l.length < 64) : take s l = (s, l) := by
  unfold take
  rw [takeF_any l.length (l.length + 1) s l (Nat.le_refl _) (Nat.le_succ _)]
  show (if 64 ≤ l.length then _ else (s, l)) = (s, l)
  rw [if_neg (by omega)]
theorem take_ge {s : St} {l : List UInt8} (h : 64 ≤ l.length) : take s l = take (block s (l.take 64)) (l.drop 64) := by
  unfold take
  rw [takeF_any l.length (l.length + 1) s l (Nat.le_refl _) (Nat.le_succ _)]
  show (if 64 ≤ l.length then takeF l.length (block s (l.take 64)) (l.drop 64) else (s, l)) = _
  rw [if_pos h]
  exact takeF_any _ _ _ _ (by rw [List.length_drop]; omega) (Nat.le_refl _)
theorem take_rest : ∀ (n : Nat) (s : St) (l : List UInt8), l.length ≤ n → (take s l).2.length = l.length % 64
  | n, s, l, hn => by
    by_cases h : 64 ≤ l.length
    · rw [take_ge h]
      obtain ⟨m, rfl⟩ : ∃ m, n = m + 1 := ⟨n - 1, by omega⟩
      rw [take_rest m _ _ (by simp; omega)]
      simp; omega
    · rw [take_lt (by omega)]; simp; omega
theorem take_app : ∀ (n : Nat) (s : St) (l m : List UInt8), l.length ≤ n → take s (l ++ m) = take (take s l).1 ((take s l).2 ++ m)
  | n, s, l, m, hn => by
    by_cases h : 64 ≤ l.length
    · obtain ⟨k, rfl⟩ : ∃ k, n = k + 1 := ⟨n - 1, by omega⟩
      rw [take_ge (l := l) h, take_ge (l := l ++ m) (by simp; omega), List.take_append_of_le_length h, List.drop_append_of_le_length h]
      exact take_app k _ _ _ (by simp; omega)
    · rw [take_lt (l := l) (by omega)]
theorem take_ok : ∀ (n : Nat) (s : St) (l : List UInt8), l.length ≤ n → s.ok → (take s l).1.ok
  | n, s, l, hn, hs => by
    by_cases h : 64 ≤ l.length
    · rw [take_ge h]
      obtain ⟨m, rfl⟩ : ∃ m, n = m + 1 := ⟨n - 1, by omega⟩
      exact take_ok m _ _ (by simp; omega) (block_ok _ _)
    · rw [take_lt (by omega)]; exact hs

/-- a number's byte at a place -/
def byteOf (x : Int) (k : Nat) : UInt8 := UInt8.ofNat (IntKind.u8.wrap (x / 2 ^ k)).toNat
def tell4 (x : Int) : List UInt8 := [byteOf x 24, byteOf x 16, byteOf x 8, byteOf x 0]
def told (s : St) : List UInt8 := s.nums.flatMap tell4
theorem told_length (s : St) : (told s).length = 32 := rfl
/-- the length in bits, in 8 bytes -/
def len8 (n : Nat) : List UInt8 := [56, 48, 40, 32, 24, 16, 8, 0].map (byteOf (8 * n))
/-- the bytes 0 up to 8 bytes less than a multiple of 64 -/
def gap (n : Nat) : Nat := (120 - (n + 1) % 64) % 64
def padded (l : List UInt8) : List UInt8 := ((l ++ [128]) ++ List.replicate (gap l.length) 0) ++ len8 l.length
theorem gap_mod (n : Nat) : (n + 1 + gap n) % 64 = 56 := by unfold gap; omega
theorem gap_lt (n : Nat) : gap n < 64 := by unfold gap; omega
theorem padded_length (l : List UInt8) : (padded l).length = l.length + 1 + gap l.length + 8 := by simp [padded, len8]; omega
theorem padded_mod (l : List UInt8) : (padded l).length % 64 = 0 := by
  rw [padded_length]
  have := gap_mod l.length
  omega
/-- the digest of a text -/
def sha (l : List UInt8) : List UInt8 := told (take start (padded l)).1
theorem sha_length (l : List UInt8) : (sha l).length = 32 := told_length _
end Go.Proofs.YtcfekhahibklfaaDoor.sh
