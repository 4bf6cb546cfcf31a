/-
  SHA-256 on integers: one function for the document's way and the program's way. Plain mathematics.
-/
import Derived.Laws.BitsAllLaws
namespace Go.Proofs.YtkfmhmimclmigaaDoor
open Go
set_option linter.unusedVariables false

/-- A function that comes to an end: so many steps as the measure says. -/
def fixN {α β : Type} (d : β) (F : (α → β) → α → β) : Nat → α → β
  | 0, _ => d
  | n + 1, x => F (fixN d F n) x
def wfix {α β : Type} (m : α → Nat) (d : β) (F : (α → β) → α → β) (x : α) : β := fixN d F (m x + 1) x
theorem fixN_eq {α β : Type} (m : α → Nat) (d : β) (F : (α → β) → α → β) (hF : ∀ x g g', (∀ y, m y < m x → g y = g' y) → F g x = F g' x) (n : Nat) : ∀ (k : Nat) (x : α), m x < n → m x < k → fixN d F n x = fixN d F k x := by
  induction n with
  | zero => intro k x h; omega
  | succ n ih =>
    intro k x h1 h2
    cases k with
    | zero => omega
    | succ k => exact hF x _ _ fun y hy => ih k y (by omega) (by omega)
theorem wfix_eq {α β : Type} (m : α → Nat) (d : β) (F : (α → β) → α → β) (hF : ∀ x g g', (∀ y, m y < m x → g y = g' y) → F g x = F g' x) (x : α) : wfix m d F x = F (wfix m d F) x :=
  hF x _ _ fun y hy => fixN_eq m d F hF (m x) (m y + 1) y hy (by omega)

/-- x turned right by k. -/
def rotr (k x : Int) : Int := bits .or .u32 (x / 2 ^ k.toNat) (x * 2 ^ (32 - k.toNat) % 4294967296)
theorem bits_bd (op : BinOp) (a b : Int) : 0 ≤ bits op .u32 a b ∧ bits op .u32 a b < 4294967296 := by
  unfold bits
  simp only [IntKind.wrap_u32']
  omega
theorem rotr_bd (k x : Int) : 0 ≤ rotr k x ∧ rotr k x < 4294967296 := bits_bd _ _ _
theorem or_comm32 (a b : Int) : bits .or .u32 a b = bits .or .u32 b a := by
  show IntKind.u32.wrap ((BitVec.ofInt 32 a ||| BitVec.ofInt 32 b).toNat : Int) = IntKind.u32.wrap ((BitVec.ofInt 32 b ||| BitVec.ofInt 32 a).toNat : Int)
  rw [BitVec.or_comm]

def sig0 (x : Int) : Int := bits .xor .u32 (bits .xor .u32 (rotr 7 x) (rotr 18 x)) (x / 8)
def sig1 (x : Int) : Int := bits .xor .u32 (bits .xor .u32 (rotr 17 x) (rotr 19 x)) (x / 1024)
def big0 (x : Int) : Int := bits .xor .u32 (bits .xor .u32 (rotr 2 x) (rotr 13 x)) (rotr 22 x)
def big1 (x : Int) : Int := bits .xor .u32 (bits .xor .u32 (rotr 6 x) (rotr 11 x)) (rotr 25 x)
def chF (e f g : Int) : Int := bits .xor .u32 (bits .and .u32 e f) (bits .and .u32 (bits .xor .u32 4294967295 e) g)
def majF (a b c : Int) : Int := bits .xor .u32 (bits .xor .u32 (bits .and .u32 a b) (bits .and .u32 a c)) (bits .and .u32 b c)

/-- The words of a block, spread. -/
def schedS (b : Nat → Int) (go : Nat → Int) (i : Nat) : Int := if h : i < 16 then b i else (go (i - 16) + sig0 (go (i - 15)) + go (i - 7) + sig1 (go (i - 2))) % 4294967296
def sched (b : Nat → Int) (i : Nat) : Int := wfix id 0 (schedS b) i
theorem sched_eq (b : Nat → Int) (i : Nat) : sched b i = if h : i < 16 then b i else (sched b (i - 16) + sig0 (sched b (i - 15)) + sched b (i - 7) + sig1 (sched b (i - 2))) % 4294967296 :=
  wfix_eq id 0 (schedS b) (fun x g g' h => by
    unfold schedS
    by_cases c : x < 16
    · rw [dif_pos c, dif_pos c]
    · have e : ∀ y, y < x → g y = g' y := h
      rw [dif_neg c, dif_neg c, e (x - 16) (by omega), e (x - 15) (by omega), e (x - 7) (by omega), e (x - 2) (by omega)]) i
theorem sched_lo (b : Nat → Int) {i : Nat} (h : i < 16) : sched b i = b i := by rw [sched_eq, dif_pos h]
theorem sched_hi (b : Nat → Int) {i : Nat} (h : ¬ i < 16) : sched b i = (sched b (i - 16) + sig0 (sched b (i - 15)) + sched b (i - 7) + sig1 (sched b (i - 2))) % 4294967296 := by
  rw [sched_eq, dif_neg h]
theorem sched_bd (b : Nat → Int) (hb : ∀ i, i < 16 → 0 ≤ b i ∧ b i < 4294967296) (i : Nat) : 0 ≤ sched b i ∧ sched b i < 4294967296 := by
  by_cases h : i < 16
  · rw [sched_lo b h]; exact hb i h
  · rw [sched_hi b h]; omega

/-- The eight numbers. -/
structure H8 where
  a : Int
  b : Int
  c : Int
  d : Int
  e : Int
  f : Int
  g : Int
  h : Int
def In32 (x : Int) : Prop := 0 ≤ x ∧ x < 4294967296
def H8.Ok (s : H8) : Prop := In32 s.a ∧ In32 s.b ∧ In32 s.c ∧ In32 s.d ∧ In32 s.e ∧ In32 s.f ∧ In32 s.g ∧ In32 s.h
def H8.at (s : H8) : Nat → Int
  | 0 => s.a
  | 1 => s.b
  | 2 => s.c
  | 3 => s.d
  | 4 => s.e
  | 5 => s.f
  | 6 => s.g
  | _ => s.h
theorem H8.at_bd {s : H8} (h : s.Ok) (i : Nat) : In32 (s.at i) := by
  obtain ⟨h0, h1, h2, h3, h4, h5, h6, h7⟩ := h
  match i with
  | 0 => exact h0
  | 1 => exact h1
  | 2 => exact h2
  | 3 => exact h3
  | 4 => exact h4
  | 5 => exact h5
  | 6 => exact h6
  | _ + 7 => exact h7

def t1F (s : H8) (add : Int) : Int := (s.h + big1 s.e + chF s.e s.f s.g + add) % 4294967296
def t2F (s : H8) : Int := (big0 s.a + majF s.a s.b s.c) % 4294967296
/-- One round; add: the round's number and the block's. -/
def H8.step (s : H8) (add : Int) : H8 := ⟨(t1F s add + t2F s) % 4294967296, s.a, s.b, s.c, (s.d + t1F s add) % 4294967296, s.e, s.f, s.g⟩
theorem H8.step_ok {s : H8} (hs : s.Ok) (add : Int) : (s.step add).Ok := by
  obtain ⟨h0, h1, h2, h3, h4, h5, h6, h7⟩ := hs
  refine ⟨?_, h0, h1, h2, ?_, h4, h5, h6⟩ <;> (unfold In32 H8.step; dsimp only; omega)
theorem t1_parts (s : H8) (k v : Int) : (s.h + big1 s.e + chF s.e s.f s.g + k + v) % 4294967296 = t1F s ((k + v) % 4294967296) := by
  unfold t1F
  omega
theorem step_a (s : H8) (add : Int) : (s.h + big1 s.e + chF s.e s.f s.g + add + (big0 s.a + majF s.a s.b s.c)) % 4294967296 = (s.step add).a := by
  unfold H8.step t1F t2F
  dsimp only
  omega
theorem step_e (s : H8) (add : Int) : (s.d + (s.h + big1 s.e + chF s.e s.f s.g + add)) % 4294967296 = (s.step add).e := by
  unfold H8.step t1F
  dsimp only
  omega

/-- The rounds' numbers. -/
def keyL : List Int := [1116352408, 1899447441, 3049323471, 3921009573, 961987163, 1508970993, 2453635748, 2870763221, 3624381080, 310598401, 607225278, 1426881987, 1925078388, 2162078206, 2614888103, 3248222580, 3835390401, 4022224774, 264347078, 604807628, 770255983, 1249150122, 1555081692, 1996064986, 2554220882, 2821834349, 2952996808, 3210313671, 3336571891, 3584528711, 113926993, 338241895, 666307205, 773529912, 1294757372, 1396182291, 1695183700, 1986661051, 2177026350, 2456956037, 2730485921, 2820302411, 3259730800, 3345764771, 3516065817, 3600352804, 4094571909, 275423344, 430227734, 506948616, 659060556, 883997877, 958139571, 1322822218, 1537002063, 1747873779, 1955562222, 2024104815, 2227730452, 2361852424, 2428436474, 2756734187, 3204031479, 3329325298]
def keyAt (i : Nat) : Int := keyL.getD i 0
theorem keyL_len : keyL.length = 64 := rfl
theorem keyAt_bd (i : Nat) : In32 (keyAt i) := by
  by_cases h : i < 64
  · have : ∀ i, i < 64 → 0 ≤ keyAt i ∧ keyAt i < 4294967296 := by decide
    exact this i h
  · unfold keyAt In32
    rw [List.getD_eq_getElem?_getD, List.getElem?_eq_none (by rw [keyL_len]; omega)]
    decide

/-- i rounds. -/
def rounds (b : Nat → Int) (s : H8) : Nat → H8
  | 0 => s
  | i + 1 => (rounds b s i).step ((keyAt i + sched b i) % 4294967296)
theorem rounds_ok (b : Nat → Int) {s : H8} (hs : s.Ok) (i : Nat) : (rounds b s i).Ok := by
  cases i with
  | zero => exact hs
  | succ i => exact H8.step_ok (rounds_ok b hs i) _
def add32 (x y : Int) : Int := (x + y) % 4294967296
def H8.plus (s v : H8) : H8 := ⟨add32 s.a v.a, add32 s.b v.b, add32 s.c v.c, add32 s.d v.d, add32 s.e v.e, add32 s.f v.f, add32 s.g v.g, add32 s.h v.h⟩
theorem add32_in (x y : Int) : In32 (add32 x y) := by unfold In32 add32; omega
theorem H8.plus_ok (s v : H8) : (s.plus v).Ok := ⟨add32_in _ _, add32_in _ _, add32_in _ _, add32_in _ _, add32_in _ _, add32_in _ _, add32_in _ _, add32_in _ _⟩
theorem H8.plus_at (s v : H8) (i : Nat) : (s.plus v).at i = add32 (s.at i) (v.at i) := by
  match i with
  | 0 => rfl
  | 1 => rfl
  | 2 => rfl
  | 3 => rfl
  | 4 => rfl
  | 5 => rfl
  | 6 => rfl
  | _ + 7 => rfl

/-- The number in four bytes from place k, the highest first. -/
def four (x y z u : Int) : Int := bits .or .u32 (bits .or .u32 (bits .or .u32 (x * 16777216) (y * 65536)) (z * 256)) u
def byteL (l : List UInt8) (k : Nat) : Int := ((l.getD k 0).toNat : Int)
def wordF (l : List UInt8) (i : Nat) : Int := four (byteL l (4 * i)) (byteL l (4 * i + 1)) (byteL l (4 * i + 2)) (byteL l (4 * i + 3))
theorem four_bd (x y z u : Int) : 0 ≤ four x y z u ∧ four x y z u < 4294967296 := bits_bd _ _ _
theorem wordF_bd (l : List UInt8) (i : Nat) : 0 ≤ wordF l i ∧ wordF l i < 4294967296 := four_bd _ _ _ _
/-- A block of 64 bytes is taken in. -/
def block (s : H8) (l : List UInt8) : H8 := s.plus (rounds (wordF l) s 64)
theorem block_ok (s : H8) (l : List UInt8) : (block s l).Ok := H8.plus_ok _ _

/-- All full blocks of a row of bytes. -/
def absorbS (go : H8 × List UInt8 → H8) (p : H8 × List UInt8) : H8 := if h : p.2.length < 64 then p.1 else go (block p.1 (p.2.take 64), p.2.drop 64)
def absorb (s : H8) (l : List UInt8) : H8 := wfix (fun p : H8 × List UInt8 => p.2.length) s absorbS (s, l)
theorem fixN_any {α β : Type} (m : α → Nat) (d d' : β) (F : (α → β) → α → β) (hF : ∀ x g g', (∀ y, m y < m x → g y = g' y) → F g x = F g' x) (n : Nat) : ∀ x : α, m x < n → fixN d F n x = fixN d' F n x := by
  induction n with
  | zero => intro x h; omega
  | succ n ih => intro x h; exact hF x _ _ fun y hy => ih y (by omega)
theorem absorbS_ok (x : H8 × List UInt8) (g g' : H8 × List UInt8 → H8) (h : ∀ y : H8 × List UInt8, y.2.length < x.2.length → g y = g' y) : absorbS g x = absorbS g' x := by
  unfold absorbS
  by_cases c : x.2.length < 64
  · rw [dif_pos c, dif_pos c]
  · rw [dif_neg c, dif_neg c]
    exact h _ (by simp; omega)
theorem absorb_eq (s : H8) (l : List UInt8) : absorb s l = if h : l.length < 64 then s else absorb (block s (l.take 64)) (l.drop 64) := by
  have h1 := wfix_eq (fun p : H8 × List UInt8 => p.2.length) s absorbS absorbS_ok (s, l)
  unfold absorb
  rw [h1]
  by_cases c : l.length < 64
  · rw [dif_pos c]; exact dif_pos c
  · rw [dif_neg c]
    exact (dif_neg c).trans (fixN_any (fun p : H8 × List UInt8 => p.2.length) s (block s (l.take 64)) absorbS absorbS_ok _ _ (Nat.lt_succ_self _))
theorem absorb_lt (s : H8) {l : List UInt8} (h : l.length < 64) : absorb s l = s := by rw [absorb_eq, dif_pos h]
theorem absorb_ge (s : H8) {l : List UInt8} (h : ¬ l.length < 64) : absorb s l = absorb (block s (l.take 64)) (l.drop 64) := by rw [absorb_eq, dif_neg h]
/-- What is behind them. -/
def rest (l : List UInt8) : List UInt8 := l.drop (64 * (l.length / 64))
theorem rest_lt {l : List UInt8} (h : l.length < 64) : rest l = l := by unfold rest; rw [Nat.div_eq_of_lt h]; rfl
theorem rest_ge {l : List UInt8} (h : ¬ l.length < 64) : rest l = rest (l.drop 64) := by
  unfold rest
  rw [List.drop_drop]
  congr 1
  simp
  omega
theorem rest_len (l : List UInt8) : (rest l).length = l.length % 64 := by unfold rest; simp; omega
theorem absorb_ok_to (b : Nat) : ∀ (s : H8) (l : List UInt8), s.Ok → l.length < b → (absorb s l).Ok := by
  induction b with
  | zero => intro s l hs hb; omega
  | succ b ih =>
    intro s l hs hb
    by_cases h : l.length < 64
    · rw [absorb_lt s h]; exact hs
    · rw [absorb_ge s h]; exact ih _ _ (block_ok _ _) (by simp; omega)
theorem absorb_ok {s : H8} (hs : s.Ok) (l : List UInt8) : (absorb s l).Ok := absorb_ok_to _ s l hs (Nat.lt_succ_self _)
theorem absorb_append_to (b : Nat) : ∀ (s : H8) (l m : List UInt8), l.length < b → absorb s (l ++ m) = absorb (absorb s l) (rest l ++ m) ∧ rest (l ++ m) = rest (rest l ++ m) := by
  induction b with
  | zero => intro s l m hb; omega
  | succ b hi =>
    intro s l m hb
    by_cases h : l.length < 64
    · rw [absorb_lt s h, rest_lt h]; exact ⟨rfl, rfl⟩
    · have h' : ¬ (l ++ m).length < 64 := by simp; omega
      have ih := hi (block s (l.take 64)) (l.drop 64) m (by simp; omega)
      have e1 : (l ++ m).take 64 = l.take 64 := List.take_append_of_le_length (by omega)
      have e2 : (l ++ m).drop 64 = l.drop 64 ++ m := List.drop_append_of_le_length (by omega)
      rw [absorb_ge s h', absorb_ge s h, rest_ge h', rest_ge h, e1, e2]
      exact ih
theorem absorb_append (s : H8) (l m : List UInt8) : absorb s (l ++ m) = absorb (absorb s l) (rest l ++ m) ∧ rest (l ++ m) = rest (rest l ++ m) := absorb_append_to _ s l m (Nat.lt_succ_self _)

/-- The state at first. -/
def first8 : H8 := ⟨1779033703, 3144134277, 1013904242, 2773480762, 1359893119, 2600822924, 528734635, 1541459225⟩
theorem first8_ok : first8.Ok := by unfold H8.Ok In32 first8; decide
/-- The eight bytes of a number, the highest first. -/
def eightB (n : Int) : List UInt8 := [UInt8.ofNat (n / 72057594037927936 % 256).toNat, UInt8.ofNat (n / 281474976710656 % 256).toNat, UInt8.ofNat (n / 1099511627776 % 256).toNat, UInt8.ofNat (n / 4294967296 % 256).toNat, UInt8.ofNat (n / 16777216 % 256).toNat, UInt8.ofNat (n / 65536 % 256).toNat, UInt8.ofNat (n / 256 % 256).toNat, UInt8.ofNat (n % 256).toNat]
/-- What is laid behind n bytes. -/
def padding (n : Nat) : List UInt8 := 128 :: (List.replicate ((119 - n % 64) % 64) 0 ++ eightB (8 * n))
theorem padding_len (n : Nat) : (padding n).length = 9 + (119 - n % 64) % 64 := by simp [padding, eightB]; omega
/-- A number's four bytes, the highest first. -/
def fourB (n : Int) : List UInt8 := [UInt8.ofNat (n / 16777216 % 256).toNat, UInt8.ofNat (n / 65536 % 256).toNat, UInt8.ofNat (n / 256 % 256).toNat, UInt8.ofNat (n % 256).toNat]
def out8 (s : H8) (i : Nat) : List UInt8 := ((List.range i).map fun j => fourB (s.at j)).flatten
theorem out8_succ (s : H8) (i : Nat) : out8 s (i + 1) = out8 s i ++ fourB (s.at i) := by
  unfold out8
  rw [List.range_succ, List.map_append, List.flatten_append]
  simp
theorem out8_len (s : H8) (i : Nat) : (out8 s i).length = 4 * i := by
  induction i with
  | zero => rfl
  | succ i ih => rw [out8_succ, List.length_append, ih]; simp [fourB]; omega
/-- The digest. -/
def shaL (l : List UInt8) : List UInt8 := out8 (absorb first8 (l ++ padding l.length)) 8
theorem shaL_len (l : List UInt8) : (shaL l).length = 32 := out8_len _ 8
end Go.Proofs.YtkfmhmimclmigaaDoor
