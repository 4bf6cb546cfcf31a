/-
  SHA-256 on integers: one function for the document's way and the program's way. Plain mathematics.
-/
import Derived.Laws.BitsAllLaws
namespace Go.Proofs.YtcenlgfopmahcaaGreatDoor
open Go
set_option linter.unusedVariables false

/-- A function that comes to an end: so many steps as the measure says. -/
def fixN {α β : Type} (d : β) (F : (α → β) → α → β) : Nat → α → β
  | 0, _ => d
  | n + 1, x => F (fixN d F n) x
def wfix {α β : Type} (m : α → Nat) (d : β) (F : (α → β) → α → β) (x : α) : β := fixN d F (m x + 1) x
theorem fixN_eq {α β : Type} (m : α → Nat) (d : β) (F : (α → β) → α → β) (hF : ∀ x g g', (∀ y, m y < m x → g y = g' y) → F g x = F g' x) (n : Nat) : ∀ (k : Nat) (x : α), m x < n → m x < k → fixN d F n x = fixN d F k x := by
  induction n with
  | zero => intro k x h; omega
  | succ n ih =>
    intro k x h1 h2
    cases k with
    | zero => omega
    | succ k => exact hF x _ _ fun y hy => ih k y (by omega) (by omega)
theorem wfix_eq {α β : Type} (m : α → Nat) (d : β) (F : (α → β) → α → β) (hF : ∀ x g g', (∀ y, m y < m x → g y = g' y) → F g x = F g' x) (x : α) : wfix m d F x = F (wfix m d F) x :=
  hF x _ _ fun y hy => fixN_eq m d F hF (m x) (m y + 1) y hy (by omega)

/-- x turned right by k. -/
def rotr (k x : Int) : Int := bits .or .u32 (x / 2 ^ k.toNat) (x * 2 ^ (32 - k.toNat) % 4294967296)
theorem bits_bd (op : BinOp) (a b : Int) : 0 ≤ bits op .u32 a b ∧ bits op .u32 a b < 4294967296 := by
  unfold bits
  simp only [IntKind.wrap_u32']
  omega
theorem rotr_bd (k x : Int) : 0 ≤ rotr k x ∧ rotr k x < 4294967296 := bits_bd _ _ _
theorem or_comm32 (a b : Int) : bits .or .u32 a b = bits .or .u32 b a := by
  show IntKind.u32.wrap ((BitVec.ofInt 32 a ||| BitVec.ofInt 32 b).toNat : Int) = IntKind.u32.wrap ((BitVec.ofInt 32 b ||| BitVec.ofInt 32 a).toNat : Int)
  rw [BitVec.or_comm]

def sig0 (x : Int) : Int := bits .xor .u32 (bits .xor .u32 (rotr 7 x) (rotr 18 x)) (x / 8)
def sig1 (x : Int) : Int := bits .xor .u32 (bits .xor .u32 (rotr 17 x) (rotr 19 x)) (x / 1024)
def big0 (x : Int) : Int := bits .xor .u32 (bits .xor .u32 (rotr 2 x) (rotr 13 x)) (rotr 22 x)
def big1 (x : Int) : Int := bits .xor .u32 (bits .xor .u32 (rotr 6 x) (rotr 11 x)) (rotr 25 x)
def chF (e f g : Int) : Int := bits .xor .u32 (bits .and .u32 e f) (bits .and .u32 (bits .xor .u32 4294967295 e) g)
def majF (a b c : Int) : Int := bits .xor .u32 (bits .xor .u32 (bits .and .u32 a b) (bits .and .u32 a c)) (bits .and .u32 b c)

/-- The words of a block, spread. -/
def schedS (b : Nat → Int) (go : Nat → Int) (i : Nat) : Int := if h : i < 16 then b i else (go (i - 16) + sig0 (go (i - 15)) + go (i - 7) + sig1 (go (i - 2))) % 4294967296
def sched (b : Nat → Int) (i : Nat) : Int := wfix id 0 (schedS b) i
theorem sched_eq (b : Nat → Int) (i : Nat) : sched b i = if h : i < 16 then b i else (sched b (i - 16) + sig0 (sched b (i - 15)) + sched b (i - 7) + sig1 (sched b (i - 2))) % 4294967296 :=
  wfix_eq id 0 (schedS b) (fun x g g' h => by
    unfold schedS
    by_cases c : x < 16
    · rw [dif_pos c, dif_pos c]
    · have e : ∀ y, y < x → g y = g' y := h
      rw [dif_neg c, dif_neg c, e (x - 16) (by omega), e (x - 15) (by omega), e (x - 7) (by omega), e (x - 2) (by omega)]) i
theorem sched_lo (b : Nat → Int) {i : Nat} (h : i < 16) : sched b i = b i := by rw [sched_eq, dif_pos h]
theorem sched_hi (b : Nat → Int) {i : Nat} (h : ¬ i < 16) : sched b i = (sched b (i - 16) + sig0 (sched b (i - 15)) + sched b (i - 7) + sig1 (sched b (i - 2))) % 4294967296 := by
  rw [sched_eq, dif_neg h]
theorem sched_bd (b : Nat → Int) (hb : ∀ i, i < 16 → 0 ≤ b i ∧ b i < 4294967296) (i : Nat) : 0 ≤ sched b i ∧ sched b i < 4294967296 := by
  by_cases h : i < 16
  · rw [sched_lo b h]; exact hb i h
  · rw [sched_hi b h]; omega

/-- The eight numbers. -/
structure H8 where
  a : Int
  b : Int
  c : Int
  d : Int
  e : Int
  f : Int
  g : Int
  h : Int
def In32 (x : Int) : Prop := 0 ≤ x ∧ x < 4294967296
def H8.Ok (s : H8) : Prop := In32 s.a ∧ In32 s.b ∧ In32 s.c ∧ In32 s.d ∧ In32 s.e ∧ In32 s.f ∧ In32 s.g ∧ In32 s.h
def H8.at (s : H8) : Nat → Int
  | 0 => s.a
  | 1 => s.b
  | 2 => s.c
  | 3 => s.d
  | 4 => s.e
  | 5 => s.f
  | 6 => s.g
  | _ => s.h
theorem H8.at_bd {s : H8} (h : s.Ok) (i : Nat) : In32 (s.at i) := by
  obtain ⟨h0, h1, h2, h3, h4, h5, h6, h7⟩ := h
  match i with
  | 0 => exact h0
  | 1 => exact h1
  | 2 => exact h2
  | 3 => exact h3
  | 4 => exact h4
  | 5 => exact h5
  | 6 => exact h6
  | _ + 7 => exact h7

def t1F (s : H8) (add : Int) : Int := (s.h + big1 s.e + chF s.e s.f s.g + add) % 4294967296
def t2F (s : H8) : Int := (big0 s.a + majF s.a s.b s.c) % 4294967296
/-- One round; add: the round's number and the block's. -/
def H8.step (s : H8) (add : Int) : H8 := ⟨(t1F s add + t2F s) % 4294967296, s.a, s.b, s.c, (s.d + t1F s add) % 4294967296, s.e, s.f, s.g⟩
theorem H8.step_ok {s : H8} (hs : s.Ok) (add : Int) : (s.step add).Ok := by
  obtain ⟨h0, h1, h2, h3, h4, h5, h6, h7⟩ := hs
  refine ⟨?_, h0, h1, h2, ?_, h4, h5, h6⟩ <;> (unfold In32 H8.step; dsimp only; omega)
theorem t1_parts (s : H8) (k v : Int) : (s.h + big1 s.e + chF s.e s.f s.g + k + v) % 4294967296 = t1F s ((k + v) % 4294967296) := by
  unfold t1F
  omega
theorem step_a (s : H8) (add : Int) : (s.h + big1 s.e + chF s.e s.f s.g + add + (big0 s.a + majF s.a s.b s.c)) % 4294967296 = (s.step add).a := by
  unfold H8.step t1F t2F
  dsimp only
  omega
theorem step_e (s : H8) (add : Int) : (s.d + (s.h + big1 s.e + chF s.e s.f s.g + add)) % 4294967296 = (s.step add).e := by
  unfold H8.step t1F
  dsimp only
  omega

/-- The rounds' numbers. -/
def keyL : List Int := [1116352408, 1899447441, 3049323471, 3921009573, 961987163, 1508970993, 2453635748, 2870763221, 3624381080, 310598401, 607225278, 1426881987, 1925078388, 2162078206, 2614888103, 3248222580, 3835390401, 4022224774, 264347078, 604807628, 770255983, 1249150122, 1555081692, 1996064986, 2554220882, 2821834349, 2952996808, 3210313671, 3336571891, 3584528711, 113926993, 338241895, 666307205, 773529912, 1294757372, 1396182291, 1695183700, 1986661051, 2177026350, 2456956037, 2730485921, 2820302411, 3259730800, 3345764771, 3516065817, 3600352804, 4094571909, 275423344, 430227734, 506948616, 659060556, 883997877, 958139571, 1322822218, 1537002063, 1747873779, 1955562222, 2024104815, 2227730452, 2361852424, 2428436474, 2756734187, 3204031479, 3329325298]
def keyAt (i : Nat) : Int := keyL.getD i 0
theorem keyL_len : keyL.length = 64 := rfl
theorem keyAt_bd (i : Nat) : In32 (keyAt i) := by
  by_cases h : i < 64
  · have : ∀ i, i < 64 → 0 ≤ keyAt i ∧ keyAt i < 4294967296 := by decide
    exact this i h
  · unfold keyAt In32
    rw [List.getD_eq_getElem?_getD, List.getElem?_eq_none (by rw [keyL_len]; omega)]
    decide

/-- i rounds. -/
def rounds (b : Nat → Int) (s : H8) : Nat → H8
  | 0 => s
  | i + 1 => (rounds b s i).step ((keyAt i + sched b i) % 4294967296)
theorem rounds_ok (b : Nat → Int) {s : H8} (hs : s.Ok) (i : Nat) : (rounds b s i).Ok := by
  cases i with
  | zero => exact hs
  | succ i => exact H8.step_ok (rounds_ok b hs i) _
def add32 (x y : Int) : Int := (x + y) % 4294967296
def H8.plus (s v : H8) : H8 := ⟨add32 s.a v.a, add32 s.b v.b, add32 s.c v.c, add32 s.d v.d, add32 s.e v.e, add32 s.f v.f, add32 s.g v.g, add32 s.h v.h⟩
theorem add32_in (x y : Int) : In32 (add32 x y) := by unfold In32 add32; omega
theorem H8.plus_ok (s v : H8) : (s.plus v).Ok := ⟨add32_in _ _, add32_in _ _, add32_in _ _, add32_in _ _, add32_in _ _, add32_in _ _, add32_in _ _, add32_in _ _⟩
theorem H8.plus_at (s v : H8) (i : Nat) : (s.plus v).at i = add32 (s.at i) (v.at i) := by
  match i with
  | 0 => rfl
  | 1 => rfl
  | 2 => rfl
  | 3 => rfl
  | 4 => rfl
  | 5 => rfl
  | 6 => rfl
  | _ + 7 => rfl

/-- The number in four bytes from place k, the highest first. -/
def four (x y z u : Int) : Int := bits .or .u32 (bits .or .u32 (bits .or .u32 (x * 16777216) (y * 65536)) (z * 256)) u
def byteL (l : List UInt8) (k : Nat) : Int := ((l.getD k 0).toNat : Int)
def wordF (l : List UInt8) (i : Nat) : Int := four (byteL l (4 * i)) (byteL l (4 * i + 1)) (byteL l (4 * i + 2)) (byteL l (4 * i + 3))
theorem four_bd (x y z u : Int) : 0 ≤ four x y z u ∧ four x y z u < 4294967296 := bits_bd _ _ _
theorem wordF_bd (l : List UInt8) (i : Nat) : 0 ≤ wordF l i ∧ wordF l i < 4294967296 := four_bd _ _ _ _
/-- A block of 64 bytes is taken in. -/
def block (s : H8) (l : List UInt8) : H8 := s.plus (rounds (wordF l) s 64)
theorem block_ok (s : H8) (l : List UInt8) : (block s l).Ok := H8.plus_ok _ _

/-- All full blocks of a row of bytes. -/
def absorbS (go : H8 × List UInt8 → H8) (p : H8 × List UInt8) : H8 := if h : p.2.length < 64 then p.1 else go (block p.1 (p.2.take 64), p.2.drop 64)
def absorb (s : H8) (l : List UInt8) : H8 := wfix (fun p : H8 × List UInt8 => p.2.length) s absorbS (s, l)
theorem fixN_any {α β : Type} (m : α → Nat) (d d' : β) (F : (α → β) → α → β) (hF : ∀ x g g', (∀ y, m y < m x → g y = g' y) → F g x = F g' x) (n : Nat) : ∀ x : α, m x < n → fixN d F n x = fixN d' F n x := by
  induction n with
  | zero => intro x h; omega
  | succ n ih => intro x h; exact hF x _ _ fun y hy => ih y (by omega)
theorem absorbS_ok (x : H8 × List UInt8) (g g' : H8 × List UInt8 → H8) (h : ∀ y : H8 × List UInt8, y.2.length < x.2.length → g y = g' y) : absorbS g x = absorbS g' x := by
  unfold absorbS
  by_cases c : x.2.length < 64
  · rw [dif_pos c, dif_pos c]
  · rw [dif_neg c, dif_neg c]
    exact h _ (by simp; omega)
theorem absorb_eq (s : H8) (l : List UInt8) : absorb s l = if h : l.length < 64 then s else absorb (block s (l.take 64)) (l.drop 64) := by
  have h1 := wfix_eq (fun p : H8 × List UInt8 => p.2.length) s absorbS absorbS_ok (s, l)
  unfold absorb
  rw [h1]
  by_cases c : l.length < 64
  · rw [dif_pos c]; exact dif_pos c
  · rw [dif_neg c]
    exact (dif_neg c).trans (fixN_any (fun p : H8 × List UInt8 => p.2.length) s (block s (l.take 64)) absorbS absorbS_ok _ _ (Nat.lt_succ_self _))
theorem absorb_lt (s : H8) {l : List UInt8} (h : l.length < 64) : absorb s l = s := by rw [absorb_eq, dif_pos h]
theorem absorb_ge (s : H8) {l : List UInt8} (h : ¬ l.length < 64) : absorb s l = absorb (block s (l.take 64)) (l.drop 64) := by rw [absorb_eq, dif_neg h]
/-- What is behind them. -/
def rest (l : List UInt8) : List UInt8 := l.drop (64 * (l.length / 64))
theorem rest_lt {l : List UInt8} (h : l.length < 64) : rest l = l := by unfold rest; rw [Nat.div_eq_of_lt h]; rfl
theorem rest_ge {l : List UInt8} (h : ¬ l.length < 64) : rest l = rest (l.drop 64) := by
  unfold rest
  rw [List.drop_drop]
  congr 1
  simp
  omega
theorem rest_len (l : List UInt8) : (rest l).length = l.length % 64 := by unfold rest; simp; omega
theorem absorb_ok_to (b : Nat) : ∀ (s : H8) (l : List UInt8), s.Ok → l.length < b → (absorb s l).Ok := by
  induction b with
  | zero => intro s l hs hb; omega
  | succ b ih =>
    intro s l hs hb
    by_cases h : l.length < 64
    · rw [absorb_lt s h]; exact hs
    · rw [absorb_ge s h]; exact ih _ _ (block_ok _ _) (by simp; omega)
theorem absorb_ok {s : H8} (hs : s.Ok) (l : List UInt8) : (absorb s l).Ok := absorb_ok_to _ s l hs (Nat.lt_succ_self _)
theorem absorb_append_to (b : Nat) : ∀ (s : H8) (l m : List UInt8), l.length < b → absorb s (l ++ m) = absorb (absorb s l) (rest l ++ m) ∧ rest (l ++ m) = rest (rest l ++ m) := by
  induction b with
  | zero => intro s l m hb; omega
  | succ b hi =>
    intro s l m hb
    by_cases h : l.length < 64
    · rw [absorb_lt s h, rest_lt h]; exact ⟨rfl, rfl⟩
    · have h' : ¬ (l ++ m).length < 64 := by simp; omega
      have ih := hi (block s (l.take 64)) (l.drop 64) m (by simp; omega)
      have e1 : (l ++ m).take 64 = l.take 64 := List.take_append_of_le_length (by omega)
      have e2 : (l ++ m).drop 64 = l.drop 64 ++ m := List.drop_append_of_le_length (by omega)
      rw [absorb_ge s h', absorb_ge s h, rest_ge h', rest_ge h, e1, e2]
      exact ih
theorem absorb_append (s : H8) (l m : List UInt8) : absorb s (l ++ m) = absorb (absorb s l) (rest l ++ m) ∧ rest (l ++ m) = rest (rest l ++ m) := absorb_append_to _ s l m (Nat.lt_succ_self _)

/-- The state at first. -/
def first8 : H8 := ⟨1779033703, 3144134277, 1013904242, 2773480762, 1359893119, 2600822924, 528734635, 1541459225⟩
theorem first8_ok : first8.Ok := by unfold H8.Ok In32 first8; decide
/-- The eight bytes of a number, the highest first. -/
def eightB (n : Int) : List UInt8 := [UInt8.ofNat (n / 72057594037927936 % 256).toNat, UInt8.ofNat (n / 281474976710656 % 256).toNat, UInt8.ofNat (n / 1099511627776 % 256).toNat, UInt8.ofNat (n / 4294967296 % 256).toNat, UInt8.ofNat (n / 16777216 % 256).toNat, UInt8.ofNat (n / 65536 % 256).toNat, UInt8.ofNat (n / 256 % 256).toNat, UInt8.ofNat (n % 256).toNat]
/-- What is laid behind n bytes. -/
def padding (n : Nat) : List UInt8 := 128 :: (List.replicate ((119 - n % 64) % 64) 0 ++ eightB (8 * n))
theorem padding_len (n : Nat) : (padding n).length = 9 + (119 - n % 64) % 64 := by simp [padding, eightB]; omega
/-- A number's four bytes, the highest first. -/
def fourB (n : Int) : List UInt8 := [UInt8.ofNat (n / 16777216 % 256).toNat, UInt8.ofNat (n / 65536 % 256).toNat, UInt8.ofNat (n / 256 % 256).toNat, UInt8.ofNat (n % 256).toNat]
def out8 (s : H8) (i : Nat) : List UInt8 := ((List.range i).map fun j => fourB (s.at j)).flatten
theorem out8_succ (s : H8) (i : Nat) : out8 s (i + 1) = out8 s i ++ fourB (s.at i) := by
  unfold out8
  rw [List.range_succ, List.map_append, List.flatten_append]
  simp
theorem out8_len (s : H8) (i : Nat) : (out8 s i).length = 4 * i := by
  induction i with
  | zero => rfl
  | succ i ih => rw [out8_succ, List.length_append, ih]; simp [fourB]; omega
/-- The digest. -/
def shaL (l : List UInt8) : List UInt8 := out8 (absorb first8 (l ++ padding l.length)) 8
theorem shaL_len (l : List UInt8) : (shaL l).length = 32 := out8_len _ 8
end Go.Proofs.YtcenlgfopmahcaaGreatDoor

/-
  Trees of digests, whatever their nodes: a path leads from its leaf to the tree. Plain mathematics.
-/
namespace Go.Proofs.YtcenlgfopmahcaaGreatDoor
set_option linter.unusedVariables false

/-- The greatest power of two below n, from k on. -/
def halfS (n : Nat) (go : Nat → Nat) (k : Nat) : Nat := if h : 0 < k ∧ 2 * k < n then go (2 * k) else k
def halfG (n k : Nat) : Nat := wfix (fun k => n - k) 0 (halfS n) k
theorem halfG_eq (n k : Nat) : halfG n k = if h : 0 < k ∧ 2 * k < n then halfG n (2 * k) else k :=
  wfix_eq (fun k => n - k) 0 (halfS n) (fun x g g' h => by
    unfold halfS
    by_cases c : 0 < x ∧ 2 * x < n
    · rw [dif_pos c, dif_pos c]
      exact h _ (by show n - 2 * x < n - x; omega)
    · rw [dif_neg c, dif_neg c]) k
def half (n : Nat) : Nat := halfG n 1
theorem halfG_spec_to (b : Nat) : ∀ (n k e : Nat), k = 2 ^ e → k < n → n - k < b → ∃ f, halfG n k = 2 ^ f ∧ halfG n k < n ∧ n ≤ 2 * halfG n k ∧ e ≤ f := by
  induction b with
  | zero => intro n k e hk hn hb; omega
  | succ b ih =>
    intro n k e hk hn hb
    rw [halfG_eq]
    by_cases h : 0 < k ∧ 2 * k < n
    · rw [dif_pos h]
      obtain ⟨f, h1, h2, h3, h4⟩ := ih n (2 * k) (e + 1) (by rw [hk, Nat.pow_succ, Nat.mul_comm]) h.2 (by omega)
      exact ⟨f, h1, h2, h3, by omega⟩
    · rw [dif_neg h]
      have : 0 < k := by rw [hk]; exact Nat.two_pow_pos e
      exact ⟨e, hk, hn, by omega, Nat.le_refl _⟩
theorem halfG_spec (n k e : Nat) (hk : k = 2 ^ e) (hn : k < n) : ∃ f, halfG n k = 2 ^ f ∧ halfG n k < n ∧ n ≤ 2 * halfG n k ∧ e ≤ f := halfG_spec_to _ n k e hk hn (Nat.lt_succ_self _)
theorem half_spec {n : Nat} (hn : 2 ≤ n) : ∃ e, half n = 2 ^ e ∧ half n < n ∧ n ≤ 2 * half n := by
  obtain ⟨f, h1, h2, h3, _⟩ := halfG_spec n 1 0 rfl (by omega)
  exact ⟨f, h1, h2, h3⟩
theorem pow_between {k n e f : Nat} (h1 : 2 ^ e < n) (h2 : n ≤ 2 * 2 ^ e) (h3 : 2 ^ f < n) (h4 : n ≤ 2 * 2 ^ f) : e = f := by
  rcases Nat.lt_trichotomy e f with h | h | h
  · have : 2 ^ (e + 1) ≤ 2 ^ f := Nat.pow_le_pow_right (by omega) h
    rw [Nat.pow_succ] at this
    omega
  · exact h
  · have : 2 ^ (f + 1) ≤ 2 ^ e := Nat.pow_le_pow_right (by omega) h
    rw [Nat.pow_succ] at this
    omega
theorem half_pow (e : Nat) : half (2 ^ (e + 1)) = 2 ^ e := by
  have h2 : 2 ≤ 2 ^ (e + 1) := by rw [Nat.pow_succ]; have := Nat.two_pow_pos e; omega
  obtain ⟨f, h3, h4, h5⟩ := half_spec h2
  rw [h3] at h4 h5 ⊢
  have : f = e := pow_between (k := 0) h4 h5 (by rw [Nat.pow_succ]; have := Nat.two_pow_pos e; omega) (by rw [Nat.pow_succ]; omega)
  rw [this]

section
variable {D : Type} (N : D → D → D) (E : D)

/-- The tree of leaves. -/
def treeS (go : List D → D) (l : List D) : D := if h : l.length < 2 then l.headD E else N (go (l.take (half l.length))) (go (l.drop (half l.length)))
def treeD (l : List D) : D := wfix List.length E (treeS N E) l
theorem half_less {l : List D} (h : ¬ l.length < 2) : (l.take (half l.length)).length < l.length ∧ (l.drop (half l.length)).length < l.length := by
  obtain ⟨e, h3, h4, h5⟩ := half_spec (show 2 ≤ l.length by omega)
  have : 0 < half l.length := by rw [h3]; exact Nat.two_pow_pos e
  simp only [List.length_take, List.length_drop]
  omega
theorem treeD_eq (l : List D) : treeD N E l = if h : l.length < 2 then l.headD E else N (treeD N E (l.take (half l.length))) (treeD N E (l.drop (half l.length))) :=
  wfix_eq List.length E (treeS N E) (fun x g g' h => by
    unfold treeS
    by_cases c : x.length < 2
    · rw [dif_pos c, dif_pos c]
    · rw [dif_neg c, dif_neg c, h _ (half_less c).1, h _ (half_less c).2]) l
theorem treeD_nil : treeD N E [] = E := by rw [treeD_eq, dif_pos (by simp)]; rfl
theorem treeD_one (x : D) : treeD N E [x] = x := by rw [treeD_eq, dif_pos (by simp)]; rfl
theorem treeD_more {l : List D} (h : 2 ≤ l.length) : treeD N E l = N (treeD N E (l.take (half l.length))) (treeD N E (l.drop (half l.length))) := by
  rw [treeD_eq, dif_neg (by omega)]

/-- What is put to leaf i, step by step. -/
def pathS (go : List D × Nat → List D) (p : List D × Nat) : List D :=
  if h : p.1.length < 2 then [] else
    if p.2 < half p.1.length then go (p.1.take (half p.1.length), p.2) ++ [treeD N E (p.1.drop (half p.1.length))]
    else go (p.1.drop (half p.1.length), p.2 - half p.1.length) ++ [treeD N E (p.1.take (half p.1.length))]
def pathD (l : List D) (i : Nat) : List D := wfix (fun p : List D × Nat => p.1.length) [] (pathS N E) (l, i)
theorem pathD_eq (l : List D) (i : Nat) : pathD N E l i = if h : l.length < 2 then [] else
    if i < half l.length then pathD N E (l.take (half l.length)) i ++ [treeD N E (l.drop (half l.length))]
    else pathD N E (l.drop (half l.length)) (i - half l.length) ++ [treeD N E (l.take (half l.length))] :=
  wfix_eq (fun p : List D × Nat => p.1.length) [] (pathS N E) (fun x g g' h => by
    unfold pathS
    by_cases c : x.1.length < 2
    · rw [dif_pos c, dif_pos c]
    · rw [dif_neg c, dif_neg c, h (x.1.take (half x.1.length), x.2) (half_less c).1, h (x.1.drop (half x.1.length), x.2 - half x.1.length) (half_less c).2]) (l, i)
theorem pathD_one {l : List D} (i : Nat) (h : l.length < 2) : pathD N E l i = [] := by rw [pathD_eq, dif_pos h]
theorem pathD_left {l : List D} {i : Nat} (h : 2 ≤ l.length) (hi : i < half l.length) : pathD N E l i = pathD N E (l.take (half l.length)) i ++ [treeD N E (l.drop (half l.length))] := by
  rw [pathD_eq, dif_neg (by omega), if_pos hi]
theorem pathD_right {l : List D} {i : Nat} (h : 2 ≤ l.length) (hi : ¬ i < half l.length) : pathD N E l i = pathD N E (l.drop (half l.length)) (i - half l.length) ++ [treeD N E (l.take (half l.length))] := by
  rw [pathD_eq, dif_neg (by omega), if_neg hi]

/-- As long as the first is even and above 0, both are halved. -/
def evensS (go : Nat × Nat → Nat × Nat) (p : Nat × Nat) : Nat × Nat := if h : p.1 % 2 = 0 ∧ 0 < p.1 then go (p.1 / 2, p.2 / 2) else (p.1, p.2)
def evens (a b : Nat) : Nat × Nat := wfix (fun p : Nat × Nat => p.1) (0, 0) evensS (a, b)
theorem evens_eq (a b : Nat) : evens a b = if h : a % 2 = 0 ∧ 0 < a then evens (a / 2) (b / 2) else (a, b) :=
  wfix_eq (fun p : Nat × Nat => p.1) (0, 0) evensS (fun x g g' h => by
    unfold evensS
    by_cases c : x.1 % 2 = 0 ∧ 0 < x.1
    · rw [dif_pos c, dif_pos c]
      exact h _ (by show x.1 / 2 < x.1; omega)
    · rw [dif_neg c, dif_neg c]) (a, b)
/-- One step: place, last place, digest. -/
def inclStep (s : Option (Nat × Nat × D)) (p : D) : Option (Nat × Nat × D) :=
  match s with
  | none => none
  | some (a, b, h) =>
    if b = 0 then none else
      if a % 2 = 1 ∨ a = b then some ((evens a b).1 / 2, (evens a b).2 / 2, N p h) else some (a / 2, b / 2, N h p)
def inclRun (s : Option (Nat × Nat × D)) (path : List D) : Option (Nat × Nat × D) := path.foldl (inclStep N) s
theorem inclRun_snoc (s : Option (Nat × Nat × D)) (l : List D) (p : D) : inclRun N s (l ++ [p]) = inclStep N (inclRun N s l) p := by simp [inclRun]

theorem evens_odd {a b : Nat} (h : a % 2 = 1) : evens a b = (a, b) := by rw [evens_eq, dif_neg (by omega)]
theorem evens_zero (b : Nat) : evens 0 b = (0, b) := by rw [evens_eq, dif_neg (by omega)]
/-- Of two that are alike, an odd number and a power of two. -/
theorem evens_pow (q t : Nat) (hq : q % 2 = 1) : evens (q * 2 ^ t) (q * 2 ^ t) = (q, q) := by
  induction t with
  | zero => rw [Nat.pow_zero, Nat.mul_one]; exact evens_odd hq
  | succ t ih =>
    have e : q * 2 ^ (t + 1) = 2 * (q * 2 ^ t) := by rw [Nat.pow_succ, ← Nat.mul_assoc]; omega
    have hp : 0 < q * 2 ^ t := Nat.mul_pos (by omega) (Nat.two_pow_pos t)
    rw [evens_eq, dif_pos (by omega), show q * 2 ^ (t + 1) / 2 = q * 2 ^ t by omega]
    exact ih

/-- In a whole tree of 2^e leaves that is not the last one. -/
theorem incl_whole (e : Nat) : ∀ (l : List D) (i q last : Nat) (d : D), l.length = 2 ^ e → (hi : i < l.length) → q < last / 2 ^ e →
    inclRun N (some (q * 2 ^ e + i, last, l[i])) (pathD N E l i) = some (q, last / 2 ^ e, treeD N E l) := by
  induction e with
  | zero =>
    intro l i q last d hl hi hq
    match l, hl with
    | [x], _ =>
      have hi0 : i = 0 := by simpa using hi
      subst hi0
      rw [pathD_one N E 0 (by simp), treeD_one]
      simp [inclRun]
  | succ e ih =>
    intro l i q last d hl hi hq
    have hp := Nat.two_pow_pos e
    have hl2 : 2 ≤ l.length := by rw [hl, Nat.pow_succ]; omega
    have hh : half l.length = 2 ^ e := by rw [hl]; exact half_pow e
    have hlt : (l.take (2 ^ e)).length = 2 ^ e := by rw [List.length_take, hl, Nat.pow_succ]; omega
    have hld : (l.drop (2 ^ e)).length = 2 ^ e := by rw [List.length_drop, hl, Nat.pow_succ]; omega
    have hdiv : last / 2 ^ (e + 1) = last / 2 ^ e / 2 := by rw [Nat.pow_succ, Nat.div_div_eq_div_mul]
    rw [hdiv] at hq ⊢
    have hpow : q * 2 ^ (e + 1) = 2 * q * 2 ^ e := by rw [Nat.pow_succ]; rw [Nat.mul_comm (2 ^ e) 2, ← Nat.mul_assoc, Nat.mul_comm q 2]
    rw [treeD_more N E hl2, hh]
    by_cases hik : i < 2 ^ e
    · rw [pathD_left N E hl2 (by rw [hh]; exact hik), hh, inclRun_snoc]
      have h1 := ih (l.take (2 ^ e)) i (2 * q) last d hlt (by omega) (by omega)
      rw [List.getElem_take] at h1
      rw [hpow, h1]
      simp only [inclStep]
      rw [if_neg (by omega), if_neg (by omega)]
      congr 2
      omega
    · rw [pathD_right N E hl2 (by rw [hh]; exact hik), hh, inclRun_snoc]
      have h1 := ih (l.drop (2 ^ e)) (i - 2 ^ e) (2 * q + 1) last d hld (by omega) (by omega)
      rw [List.getElem_drop] at h1
      have e1 : (2 * q + 1) * 2 ^ e + (i - 2 ^ e) = 2 * q * 2 ^ e + i := by rw [Nat.add_mul, Nat.one_mul]; omega
      have e2 : 2 ^ e + (i - 2 ^ e) = i := by omega
      simp only [e1, e2] at h1
      rw [hpow, h1]
      simp only [inclStep]
      rw [if_neg (by omega), if_pos (by omega), evens_odd (by omega)]
      congr 2
      omega

/-- In the last tree, of m leaves, behind c = q * 2^F ones. -/
theorem incl_last_to (b : Nat) : ∀ (F : Nat) (l : List D) (i q : Nat) (h1 : 1 ≤ l.length) (hF : l.length ≤ 2 ^ F) (hi : i < l.length), l.length < b →
    ∃ s, s ≤ F ∧ inclRun N (some (q * 2 ^ F + i, q * 2 ^ F + l.length - 1, l[i])) (pathD N E l i) = some (q * 2 ^ (F - s), q * 2 ^ (F - s), treeD N E l) := by
  induction b with
  | zero => intro F l i q h1 hF hi hb; omega
  | succ b ih =>
    intro F l i q h1 hF hi hb
    by_cases h2 : l.length < 2
    · match l, h1, h2 with
      | [x], _, _ =>
        have hi0 : i = 0 := by simpa using hi
        subst hi0
        refine ⟨0, Nat.zero_le _, ?_⟩
        rw [pathD_one N E 0 (by simp), treeD_one]
        simp [inclRun]
    · have hl2 : 2 ≤ l.length := by omega
      obtain ⟨e, he, hk1, hk2⟩ := half_spec hl2
      have hp := Nat.two_pow_pos e
      have heF : e < F := by
        rcases Nat.lt_or_ge e F with h | h
        · exact h
        · have := Nat.pow_le_pow_right (n := 2) (by omega) h
          omega
      obtain ⟨Q, hQ⟩ : ∃ Q, Q = q * 2 ^ (F - e) := ⟨_, rfl⟩
      have hQ2 : Q = 2 * (q * 2 ^ (F - (e + 1))) := by
        rw [hQ, show F - e = (F - (e + 1)) + 1 by omega, Nat.pow_succ, ← Nat.mul_assoc]
        omega
      have hqF : q * 2 ^ F = Q * 2 ^ e := by rw [hQ, Nat.mul_assoc, ← Nat.pow_add, show F - e + e = F by omega]
      rw [he] at hk1 hk2
      have hlt : (l.take (2 ^ e)).length = 2 ^ e := by rw [List.length_take]; omega
      have hld : (l.drop (2 ^ e)).length = l.length - 2 ^ e := by rw [List.length_drop]
      refine ⟨e + 1, heF, ?_⟩
      generalize q * 2 ^ (F - (e + 1)) = R at *
      rw [treeD_more N E hl2, he, hqF]
      by_cases hik : i < 2 ^ e
      · rw [pathD_left N E hl2 (by rw [he]; exact hik), he, inclRun_snoc]
        have hd : (Q * 2 ^ e + l.length - 1) / 2 ^ e = Q + 1 := by
          rw [show Q * 2 ^ e + l.length - 1 = 2 ^ e * Q + (l.length - 1) by rw [Nat.mul_comm]; omega, Nat.mul_add_div hp]
          congr 1
          exact Nat.div_eq_of_lt_le (by omega) (by omega)
        have h3 := incl_whole N E e (l.take (2 ^ e)) i Q (Q * 2 ^ e + l.length - 1) E hlt (by omega) (by omega)
        rw [List.getElem_take, hd] at h3
        rw [h3]
        simp only [inclStep]
        rw [if_neg (by omega), if_neg (by omega), show Q / 2 = R by omega, show (Q + 1) / 2 = R by omega]
      · rw [pathD_right N E hl2 (by rw [he]; exact hik), he, inclRun_snoc]
        obtain ⟨t, ht, h3⟩ := ih e (l.drop (2 ^ e)) (i - 2 ^ e) (Q + 1) (by rw [hld]; omega) (by rw [hld]; omega) (by rw [hld]; omega) (by rw [hld]; omega)
        rw [List.getElem_drop] at h3
        have e1 : (Q + 1) * 2 ^ e + (i - 2 ^ e) = Q * 2 ^ e + i := by rw [Nat.add_mul, Nat.one_mul]; omega
        have e2 : 2 ^ e + (i - 2 ^ e) = i := by omega
        have e3 : (Q + 1) * 2 ^ e + (l.drop (2 ^ e)).length - 1 = Q * 2 ^ e + l.length - 1 := by rw [Nat.add_mul, Nat.one_mul, hld]; omega
        simp only [e1, e2, e3] at h3
        rw [h3]
        have hne : ¬ (Q + 1) * 2 ^ (e - t) = 0 := by
          have := Nat.mul_pos (show 0 < Q + 1 by omega) (Nat.two_pow_pos (e - t))
          omega
        simp only [inclStep]
        rw [if_neg hne, if_pos (by simp), evens_pow (Q + 1) (e - t) (by omega), show (Q + 1) / 2 = R by omega]
theorem incl_last (F : Nat) (l : List D) (i q : Nat) (h1 : 1 ≤ l.length) (hF : l.length ≤ 2 ^ F) (hi : i < l.length) :
    ∃ s, s ≤ F ∧ inclRun N (some (q * 2 ^ F + i, q * 2 ^ F + l.length - 1, l[i])) (pathD N E l i) = some (q * 2 ^ (F - s), q * 2 ^ (F - s), treeD N E l) :=
  incl_last_to N E _ F l i q h1 hF hi (Nat.lt_succ_self _)

/-- EACH LEAF IS INCLUDED BY ITS PATH. -/
theorem incl_path (l : List D) (i : Nat) (hi : i < l.length) : inclRun N (some (i, l.length - 1, l[i])) (pathD N E l i) = some (0, 0, treeD N E l) := by
  obtain ⟨s, _, h⟩ := incl_last N E l.length l i 0 (by omega) (Nat.le_of_lt Nat.lt_two_pow_self) hi
  simpa using h
end
end Go.Proofs.YtcenlgfopmahcaaGreatDoor

/-
  Ranges of trees: a range to which leaves are added one by one comes to their tree. Plain mathematics.
-/
namespace Go.Proofs.YtcenlgfopmahcaaGreatDoor
set_option linter.unusedVariables false

/-- How many bits are 1. -/
def onesS (go : Nat → Nat) (n : Nat) : Nat := if h : n = 0 then 0 else n % 2 + go (n / 2)
def onesN (n : Nat) : Nat := wfix id 0 onesS n
theorem onesN_eq (n : Nat) : onesN n = if h : n = 0 then 0 else n % 2 + onesN (n / 2) :=
  wfix_eq id 0 onesS (fun x g g' h => by
    unfold onesS
    by_cases c : x = 0
    · rw [dif_pos c, dif_pos c]
    · rw [dif_neg c, dif_neg c, h (x / 2) (by show x / 2 < x; omega)]) n
theorem onesN_zero : onesN 0 = 0 := by rw [onesN_eq]; simp
theorem onesN_step (n : Nat) : onesN n = n % 2 + onesN (n / 2) := by
  by_cases h : n = 0
  · subst h; simp [onesN_zero]
  · rw [onesN_eq, dif_neg h]
theorem onesN_add (e m : Nat) (h : m < 2 ^ e) : onesN (2 ^ e + m) = 1 + onesN m := by
  induction e generalizing m with
  | zero =>
    have : m = 0 := by simpa using h
    subst this
    rw [onesN_step]
  | succ e ih =>
    have e2 : 2 ^ (e + 1) = 2 * 2 ^ e := by rw [Nat.pow_succ, Nat.mul_comm]
    rw [onesN_step (2 ^ (e + 1) + m), onesN_step m, e2, show (2 * 2 ^ e + m) % 2 = m % 2 by omega, show (2 * 2 ^ e + m) / 2 = 2 ^ e + m / 2 by omega, ih (m / 2) (by omega)]
    exact Nat.add_left_comm _ _ _

/-- n above 0 has a greatest power of two that is no greater. -/
theorem top_spec {n : Nat} (hn : 1 ≤ n) : ∃ e, half (n + 1) = 2 ^ e ∧ 2 ^ e ≤ n ∧ n < 2 * 2 ^ e := by
  obtain ⟨e, h1, h2, h3⟩ := half_spec (show 2 ≤ n + 1 by omega)
  rw [h1] at h2 h3
  exact ⟨e, h1, by omega, by omega⟩
theorem top_is {n e : Nat} (h1 : 2 ^ e ≤ n) (h2 : n < 2 * 2 ^ e) : half (n + 1) = 2 ^ e := by
  have hp := Nat.two_pow_pos e
  obtain ⟨f, h3, h4, h5⟩ := top_spec (show 1 ≤ n by omega)
  rw [h3, pow_between (k := 0) (show 2 ^ f < n + 1 by omega) (by omega) (show 2 ^ e < n + 1 by omega) (by omega)]
theorem half_is {n e : Nat} (h1 : 2 ^ e < n) (h2 : n ≤ 2 * 2 ^ e) : half n = 2 ^ e := by
  have hp := Nat.two_pow_pos e
  obtain ⟨f, h3, h4, h5⟩ := half_spec (show 2 ≤ n by omega)
  rw [h3] at h4 h5 ⊢
  rw [pow_between (k := 0) h4 h5 h1 h2]

section
variable {D : Type} (N : D → D → D) (E : D)

/-- The nodes of a range of leaves, the greatest first. -/
def rangeS (go : List D → List D) (l : List D) : List D := if h : l.length = 0 then [] else treeD N E (l.take (half (l.length + 1))) :: go (l.drop (half (l.length + 1)))
def rangeD (l : List D) : List D := wfix List.length [] (rangeS N E) l
theorem rangeD_eq (l : List D) : rangeD N E l = if h : l.length = 0 then [] else treeD N E (l.take (half (l.length + 1))) :: rangeD N E (l.drop (half (l.length + 1))) :=
  wfix_eq List.length [] (rangeS N E) (fun x g g' h => by
    unfold rangeS
    by_cases c : x.length = 0
    · rw [dif_pos c, dif_pos c]
    · rw [dif_neg c, dif_neg c, h (x.drop (half (x.length + 1))) (by
        obtain ⟨e, h1, h2, h3⟩ := top_spec (show 1 ≤ x.length by omega)
        have := Nat.two_pow_pos e
        simp only [List.length_drop]
        omega)]) l
theorem rangeD_nil : rangeD N E [] = [] := by rw [rangeD_eq]; simp
theorem rangeD_more {l : List D} {e : Nat} (h1 : 2 ^ e ≤ l.length) (h2 : l.length < 2 * 2 ^ e) : rangeD N E l = treeD N E (l.take (2 ^ e)) :: rangeD N E (l.drop (2 ^ e)) := by
  have hp := Nat.two_pow_pos e
  rw [rangeD_eq, dif_neg (by omega), top_is h1 h2]
theorem rangeD_len_to (b : Nat) : ∀ (l : List D), l.length < b →
    (rangeD N E l).length = onesN l.length := by
  induction b with
  | zero => intro l hb; omega
  | succ b hi =>
    intro l hb
    by_cases h : l.length = 0
    · rw [rangeD_eq, dif_pos h, h, onesN_zero]; rfl
    · obtain ⟨e, h1, h2, h3⟩ := top_spec (show 1 ≤ l.length by omega)
      have hp := Nat.two_pow_pos e
      have ih := hi (l.drop (2 ^ e)) (by simp only [List.length_drop]; omega)
      rw [rangeD_more N E h2 h3, List.length_cons, ih, List.length_drop]
      have := onesN_add e (l.length - 2 ^ e) (by omega)
      rw [show 2 ^ e + (l.length - 2 ^ e) = l.length by omega] at this
      omega
theorem rangeD_len (l : List D) : (rangeD N E l).length = onesN l.length :=
  rangeD_len_to N E _ l (Nat.lt_succ_self _)

theorem rangeD_ne {l : List D} (h : 1 ≤ l.length) : rangeD N E l ≠ [] := by
  obtain ⟨e, h1, h2, h3⟩ := top_spec h
  rw [rangeD_more N E h2 h3]
  exact List.cons_ne_nil _ _
/-- The tree of a range. -/
def rootD : List D → D
  | [] => E
  | [x] => x
  | x :: y :: r => N x (rootD (y :: r))
theorem rootD_cons (x : D) {r : List D} (h : r ≠ []) : rootD N E (x :: r) = N x (rootD N E r) := by
  cases r with
  | nil => exact absurd rfl h
  | cons y r => rfl
/-- A RANGE COMES TO THE TREE. -/
theorem root_range_to (b : Nat) : ∀ (l : List D) (hl : 1 ≤ l.length), l.length < b →
    rootD N E (rangeD N E l) = treeD N E l := by
  induction b with
  | zero => intro l hl hb; omega
  | succ b hi =>
    intro l hl hb
    obtain ⟨e, h1, h2, h3⟩ := top_spec hl
    have hp := Nat.two_pow_pos e
    rw [rangeD_more N E h2 h3]
    by_cases hn : l.length = 2 ^ e
    · have hd : l.drop (2 ^ e) = [] := List.drop_eq_nil_of_le (by omega)
      have ht : l.take (2 ^ e) = l := List.take_of_length_le (by omega)
      rw [hd, ht, rangeD_nil]
      rfl
    · have hh : half l.length = 2 ^ e := half_is (by omega) (by omega)
      have ih := hi (l.drop (2 ^ e)) (by simp; omega) (by simp only [List.length_drop]; omega)
      have hne : rangeD N E (l.drop (2 ^ e)) ≠ [] := rangeD_ne N E (by simp; omega)
      rw [rootD_cons N E _ hne, ih, treeD_more N E (l := l) (by omega), hh]
theorem root_range (l : List D) (hl : 1 ≤ l.length) : rootD N E (rangeD N E l) = treeD N E l :=
  root_range_to N E _ l hl (Nat.lt_succ_self _)

/-- A digest is added to nodes, the last one first. -/
def addR : Nat → List D → D → List D
  | n, [], h => [h]
  | n, x :: r, h => if n % 2 = 1 then addR (n / 2) r (N x h) else h :: x :: r
theorem addR_even {n : Nat} (rs : List D) (h : D) (hn : ¬ n % 2 = 1) : addR N n rs h = h :: rs := by
  cases rs with
  | nil => rfl
  | cons x r => rw [addR, if_neg hn]
theorem addR_odd {n : Nat} (x : D) (r : List D) (h : D) (hn : n % 2 = 1) : addR N n (x :: r) h = addR N (n / 2) r (N x h) := by rw [addR, if_pos hn]

theorem addR_low (e : Nat) : ∀ (m : Nat) (rs : List D) (y x : D), m + 1 < 2 ^ e → rs.length = onesN m → addR N (2 ^ e + m) (rs ++ [y]) x = addR N m rs x ++ [y] := by
  induction e with
  | zero => intro m rs y x h _; simp at h
  | succ e ih =>
    intro m rs y x h hl
    have e2 : 2 ^ (e + 1) = 2 * 2 ^ e := by rw [Nat.pow_succ, Nat.mul_comm]
    by_cases hm : m % 2 = 1
    · rw [onesN_step] at hl
      match rs, hl with
      | z :: r, hl =>
        have hl' : r.length = onesN (m / 2) := by simp at hl; omega
        rw [List.cons_append, addR_odd N z _ x (by omega), addR_odd N z r x hm, e2, show (2 * 2 ^ e + m) / 2 = 2 ^ e + m / 2 by omega]
        exact ih (m / 2) r y (N z x) (by omega) hl'
      | [], hl => simp at hl; omega
    · rw [addR_even N _ x (by omega), addR_even N rs x hm]
      rfl
theorem addR_full (e : Nat) : ∀ (m : Nat) (rs : List D) (y x : D), m + 1 = 2 ^ e → rs.length = onesN m → ∃ h, addR N m rs x = [h] ∧ addR N (2 ^ e + m) (rs ++ [y]) x = [N y h] := by
  induction e with
  | zero =>
    intro m rs y x h hl
    have hm : m = 0 := by simpa using h
    subst hm
    rw [onesN_zero] at hl
    obtain rfl := List.eq_nil_of_length_eq_zero hl
    refine ⟨x, addR_even N [] x (by omega), ?_⟩
    rw [List.nil_append, addR_odd N y [] x (by simp), addR_even N [] _ (by simp)]
  | succ e ih =>
    intro m rs y x h hl
    have e2 : 2 ^ (e + 1) = 2 * 2 ^ e := by rw [Nat.pow_succ, Nat.mul_comm]
    have hm : m % 2 = 1 := by omega
    rw [onesN_step] at hl
    match rs, hl with
    | z :: r, hl =>
      have hl' : r.length = onesN (m / 2) := by simp at hl; omega
      obtain ⟨g, h1, h2⟩ := ih (m / 2) r y (N z x) (by omega) hl'
      refine ⟨g, ?_, ?_⟩
      · rw [addR_odd N z r x hm]; exact h1
      · rw [List.cons_append, addR_odd N z _ x (by omega), e2, show (2 * 2 ^ e + m) / 2 = 2 ^ e + m / 2 by omega]
        exact h2
    | [], hl => simp at hl; omega

/-- ONE LEAF MORE. -/
theorem range_add_to (b : Nat) : ∀ (l : List D) (x : D), l.length < b →
    addR N l.length (rangeD N E l).reverse x = (rangeD N E (l ++ [x])).reverse := by
  induction b with
  | zero => intro l x hb; omega
  | succ b hi =>
    intro l x hb
    by_cases h0 : l.length = 0
    · obtain rfl := List.eq_nil_of_length_eq_zero h0
      rw [rangeD_nil, List.reverse_nil, List.nil_append, addR_even N [] x (by simp), rangeD_more N E (e := 0) (by simp) (by simp)]
      simp [treeD_one, rangeD_nil]
    · obtain ⟨e, h1, h2, h3⟩ := top_spec (show 1 ≤ l.length by omega)
      have hp := Nat.two_pow_pos e
      have ih := hi (l.drop (2 ^ e)) x (by simp only [List.length_drop]; omega)
      have hlr : (rangeD N E (l.drop (2 ^ e))).reverse.length = onesN (l.length - 2 ^ e) := by rw [List.length_reverse, rangeD_len, List.length_drop]
      have hn : l.length = 2 ^ e + (l.length - 2 ^ e) := by omega
      have ht : (l ++ [x]).take (2 ^ e) = l.take (2 ^ e) := List.take_append_of_le_length (by omega)
      have hd : (l ++ [x]).drop (2 ^ e) = l.drop (2 ^ e) ++ [x] := List.drop_append_of_le_length (by omega)
      rw [rangeD_more N E h2 h3, List.reverse_cons]
      rw [List.length_drop] at ih
      by_cases hf : l.length - 2 ^ e + 1 < 2 ^ e
      · rw [hn, addR_low N e _ _ _ _ hf hlr, ih, rangeD_more N E (l := l ++ [x]) (e := e) (by simp; omega) (by simp; omega), ht, hd, List.reverse_cons]
      · have hf' : l.length - 2 ^ e + 1 = 2 ^ e := by omega
        obtain ⟨g, h4, h5⟩ := addR_full N e (l.length - 2 ^ e) _ (treeD N E (l.take (2 ^ e))) x hf' hlr
        rw [ih] at h4
        have hr : (l.drop (2 ^ e) ++ [x]).length = 2 ^ e := by simp; omega
        have hdn : (l.drop (2 ^ e) ++ [x]).drop (2 ^ e) = [] := List.drop_eq_nil_of_le (by omega)
        have htk : (l.drop (2 ^ e) ++ [x]).take (2 ^ e) = l.drop (2 ^ e) ++ [x] := List.take_of_length_le (by omega)
        rw [rangeD_more N E (l := l.drop (2 ^ e) ++ [x]) (e := e) (by omega) (by omega), hdn, htk, rangeD_nil] at h4
        have hg : g = treeD N E (l.drop (2 ^ e) ++ [x]) := by simpa using h4.symm
        rw [hn, h5, hg]
        have hL : (l ++ [x]).length = 2 ^ (e + 1) := by simp [Nat.pow_succ]; omega
        have e2 : 2 ^ (e + 1) = 2 * 2 ^ e := by rw [Nat.pow_succ, Nat.mul_comm]
        have hdn2 : (l ++ [x]).drop (2 ^ (e + 1)) = [] := List.drop_eq_nil_of_le (by omega)
        have htk2 : (l ++ [x]).take (2 ^ (e + 1)) = l ++ [x] := List.take_of_length_le (by omega)
        rw [rangeD_more N E (l := l ++ [x]) (e := e + 1) (by omega) (by omega), hdn2, htk2, rangeD_nil, treeD_more N E (l := l ++ [x]) (by omega), hL, half_pow, ht, hd]
        rfl
theorem range_add (l : List D) (x : D) : addR N l.length (rangeD N E l).reverse x = (rangeD N E (l ++ [x])).reverse :=
  range_add_to N E _ l x (Nat.lt_succ_self _)
end
end Go.Proofs.YtcenlgfopmahcaaGreatDoor

/-
  Proofs of a beginning: the first leaves are told by their proof to be the beginning of all. Plain mathematics.
-/
namespace Go.Proofs.YtcenlgfopmahcaaGreatDoor
set_option linter.unusedVariables false

/-- As long as the first is odd, both are halved. -/
def oddsS (go : Nat × Nat → Nat × Nat) (p : Nat × Nat) : Nat × Nat := if h : p.1 % 2 = 1 then go (p.1 / 2, p.2 / 2) else (p.1, p.2)
def odds (a b : Nat) : Nat × Nat := wfix (fun p : Nat × Nat => p.1) (0, 0) oddsS (a, b)
theorem odds_eq (a b : Nat) : odds a b = if h : a % 2 = 1 then odds (a / 2) (b / 2) else (a, b) :=
  wfix_eq (fun p : Nat × Nat => p.1) (0, 0) oddsS (fun x g g' h => by
    unfold oddsS
    by_cases c : x.1 % 2 = 1
    · rw [dif_pos c, dif_pos c]
      exact h _ (by show x.1 / 2 < x.1; omega)
    · rw [dif_neg c, dif_neg c]) (a, b)
theorem odds_even {a b : Nat} (h : a % 2 = 0) : odds a b = (a, b) := by rw [odds_eq, dif_neg (by omega)]
theorem odds_odd {a b : Nat} (h : a % 2 = 1) : odds a b = odds (a / 2) (b / 2) := by rw [odds_eq, dif_pos h]
theorem odds_ones (e q last : Nat) : odds (q * 2 ^ e + 2 ^ e - 1) last = odds q (last / 2 ^ e) := by
  induction e generalizing q last with
  | zero => simp
  | succ e ih =>
    have hp := Nat.two_pow_pos e
    have e1 : q * 2 ^ (e + 1) = 2 * (q * 2 ^ e) := by rw [Nat.pow_succ, ← Nat.mul_assoc]; omega
    have e2 : 2 ^ (e + 1) = 2 * 2 ^ e := by rw [Nat.pow_succ, Nat.mul_comm]
    rw [odds_odd (by omega), e1, e2, show (2 * (q * 2 ^ e) + 2 * 2 ^ e - 1) / 2 = q * 2 ^ e + 2 ^ e - 1 by omega, ih, Nat.div_div_eq_div_mul]

section
variable {D : Type} (N : D → D → D) (E : D)

/-- The proof of the first m, whole or not. -/
def proofS (go : Nat × List D × Bool → List D) (p : Nat × List D × Bool) : List D :=
  if p.1 = p.2.1.length ∨ p.2.1.length < 2 then (if p.2.2 then [] else [treeD N E p.2.1]) else
    if p.1 ≤ half p.2.1.length then go (p.1, p.2.1.take (half p.2.1.length), p.2.2) ++ [treeD N E (p.2.1.drop (half p.2.1.length))]
    else go (p.1 - half p.2.1.length, p.2.1.drop (half p.2.1.length), false) ++ [treeD N E (p.2.1.take (half p.2.1.length))]
def proofD (m : Nat) (l : List D) (whole : Bool) : List D := wfix (fun p : Nat × List D × Bool => p.2.1.length) [] (proofS N E) (m, l, whole)
theorem proofD_eq (m : Nat) (l : List D) (whole : Bool) : proofD N E m l whole = if m = l.length ∨ l.length < 2 then (if whole then [] else [treeD N E l]) else
    if m ≤ half l.length then proofD N E m (l.take (half l.length)) whole ++ [treeD N E (l.drop (half l.length))]
    else proofD N E (m - half l.length) (l.drop (half l.length)) false ++ [treeD N E (l.take (half l.length))] :=
  wfix_eq (fun p : Nat × List D × Bool => p.2.1.length) [] (proofS N E) (fun x g g' h => by
    unfold proofS
    by_cases c : x.1 = x.2.1.length ∨ x.2.1.length < 2
    · rw [if_pos c, if_pos c]
    · rw [if_neg c, if_neg c, h (x.1, x.2.1.take (half x.2.1.length), x.2.2) (half_less (by omega)).1, h (x.1 - half x.2.1.length, x.2.1.drop (half x.2.1.length), false) (half_less (by omega)).2]) (m, l, whole)
theorem proofD_all (l : List D) (w : Bool) : proofD N E l.length l w = if w then [] else [treeD N E l] := by rw [proofD_eq, if_pos (.inl rfl)]
theorem proofD_left {m : Nat} {l : List D} (w : Bool) (h : 2 ≤ l.length) (hm : m < l.length) (hk : m ≤ half l.length) : proofD N E m l w = proofD N E m (l.take (half l.length)) w ++ [treeD N E (l.drop (half l.length))] := by
  rw [proofD_eq, if_neg (by omega), if_pos hk]
theorem proofD_right {m : Nat} {l : List D} (w : Bool) (h : 2 ≤ l.length) (hm : m < l.length) (hk : ¬ m ≤ half l.length) : proofD N E m l w = proofD N E (m - half l.length) (l.drop (half l.length)) false ++ [treeD N E (l.take (half l.length))] := by
  rw [proofD_eq, if_neg (by omega), if_neg hk]

/-- One step: place, last place, the tree of the first ones, that of all. -/
def consStep (s : Option (Nat × Nat × D × D)) (p : D) : Option (Nat × Nat × D × D) :=
  match s with
  | none => none
  | some (a, b, x, y) =>
    if b = 0 then none else
      if a % 2 = 1 ∨ a = b then some ((evens a b).1 / 2, (evens a b).2 / 2, N p x, N p y) else some (a / 2, b / 2, x, N y p)
def consRun (s : Option (Nat × Nat × D × D)) (l : List D) : Option (Nat × Nat × D × D) := l.foldl (consStep N) s
theorem consRun_snoc (s : Option (Nat × Nat × D × D)) (l : List D) (p : D) : consRun N s (l ++ [p]) = consStep N (consRun N s l) p := by simp [consRun]
/-- The run over a row whose first one is what both begin with. -/
def consAll (ab : Nat × Nat) (l : List D) : Option (Nat × Nat × D × D) :=
  match l with
  | [] => none
  | x :: r => consRun N (some (ab.1, ab.2, x, x)) r
theorem consAll_snoc (ab : Nat × Nat) {l : List D} (h : l ≠ []) (p : D) : consAll N ab (l ++ [p]) = consStep N (consAll N ab l) p := by
  cases l with
  | nil => exact absurd rfl h
  | cons x r => exact consRun_snoc N _ r p

theorem proofD_ne (m : Nat) (l : List D) : proofD N E m l false ≠ [] := by
  rw [proofD_eq]
  split
  · simp
  · split <;> simp

theorem tree_first {l : List D} {e m : Nat} (h1 : 2 ^ e < m) (h2 : m ≤ 2 * 2 ^ e) (hm : m ≤ l.length) : treeD N E (l.take m) = N (treeD N E (l.take (2 ^ e))) (treeD N E ((l.drop (2 ^ e)).take (m - 2 ^ e))) := by
  have hp := Nat.two_pow_pos e
  have hl : (l.take m).length = m := by rw [List.length_take]; omega
  rw [treeD_more N E (l := l.take m) (by omega), hl, half_is h1 h2, List.take_take, Nat.min_eq_left (by omega), List.drop_take]

/-- In a whole tree of 2^e leaves that is not the last one. -/
theorem cons_whole (e : Nat) : ∀ (l : List D) (m q last : Nat), l.length = 2 ^ e → 1 ≤ m → m ≤ 2 ^ e → q < last / 2 ^ e →
    consAll N (odds (q * 2 ^ e + m - 1) last) (proofD N E m l false) = if m = 2 ^ e then some ((odds q (last / 2 ^ e)).1, (odds q (last / 2 ^ e)).2, treeD N E l, treeD N E l) else some (q, last / 2 ^ e, treeD N E (l.take m), treeD N E l) := by
  induction e with
  | zero =>
    intro l m q last hl h1 h2 hq
    have hm : m = 1 := by simp at h2; omega
    subst hm
    rw [if_pos (by simp)]
    have hl1 : l.length = 1 := by simpa using hl
    have := proofD_all N E l false
    rw [hl1] at this
    rw [this]
    simp [consAll, consRun]
  | succ e ih =>
    intro l m q last hl h1 h2 hq
    have hp := Nat.two_pow_pos e
    have e2 : 2 ^ (e + 1) = 2 * 2 ^ e := by rw [Nat.pow_succ, Nat.mul_comm]
    by_cases hm : m = 2 ^ (e + 1)
    · rw [if_pos hm, hm, odds_ones]
      have := proofD_all N E l false
      rw [hl] at this
      rw [this]
      simp [consAll, consRun]
    · rw [if_neg hm]
      have hl2 : 2 ≤ l.length := by omega
      have hh : half l.length = 2 ^ e := by rw [hl]; exact half_pow e
      have hlt : (l.take (2 ^ e)).length = 2 ^ e := by rw [List.length_take]; omega
      have hld : (l.drop (2 ^ e)).length = 2 ^ e := by rw [List.length_drop]; omega
      have hdiv : last / 2 ^ (e + 1) = last / 2 ^ e / 2 := by rw [Nat.pow_succ, Nat.div_div_eq_div_mul]
      rw [hdiv] at hq ⊢
      have hpow : q * 2 ^ (e + 1) = 2 * q * 2 ^ e := by rw [e2, ← Nat.mul_assoc, Nat.mul_comm q 2]
      have htl : treeD N E l = N (treeD N E (l.take (2 ^ e))) (treeD N E (l.drop (2 ^ e))) := by rw [treeD_more N E hl2, hh]
      by_cases hk : m ≤ 2 ^ e
      · have h3 := ih (l.take (2 ^ e)) m (2 * q) last hlt h1 hk (by omega)
        rw [proofD_left N E false hl2 (by omega) (by rw [hh]; exact hk), hh, consAll_snoc N _ (proofD_ne N E _ _), hpow, h3]
        by_cases hme : m = 2 ^ e
        · rw [if_pos hme, odds_even (by omega)]
          simp only [consStep]
          rw [if_neg (by omega), if_neg (by omega), hme, htl, show 2 * q / 2 = q by omega]
        · rw [if_neg hme]
          simp only [consStep]
          rw [if_neg (by omega), if_neg (by omega), htl, List.take_take, Nat.min_eq_left hk, show 2 * q / 2 = q by omega]
      · have h3 := ih (l.drop (2 ^ e)) (m - 2 ^ e) (2 * q + 1) last hld (by omega) (by omega) (by omega)
        have e1 : (2 * q + 1) * 2 ^ e + (m - 2 ^ e) - 1 = 2 * q * 2 ^ e + m - 1 := by rw [Nat.add_mul, Nat.one_mul]; omega
        rw [e1, if_neg (by omega)] at h3
        rw [proofD_right N E false hl2 (by omega) (by rw [hh]; exact hk), hh, consAll_snoc N _ (proofD_ne N E _ _), hpow, h3]
        simp only [consStep]
        rw [if_neg (by omega), if_pos (by omega), evens_odd (by omega), htl, tree_first N E (l := l) (e := e) (m := m) (by omega) (by omega) (by omega), show (2 * q + 1) / 2 = q by omega]

/-- In the last tree. -/
theorem cons_last_to (b : Nat) : ∀ (F : Nat) (l : List D) (m q : Nat) (h1 : 1 ≤ m) (hm : m < l.length) (hF : l.length ≤ 2 ^ F), l.length < b →
    ∃ s, s ≤ F ∧ consAll N (odds (q * 2 ^ F + m - 1) (q * 2 ^ F + l.length - 1)) (proofD N E m l false) = some (q * 2 ^ (F - s), q * 2 ^ (F - s), treeD N E (l.take m), treeD N E l) := by
  induction b with
  | zero => intro F l m q h1 hm hF hb; omega
  | succ b hi =>
    intro F l m q h1 hm hF hb
    have hl2 : 2 ≤ l.length := by omega
    obtain ⟨e, he, hk1, hk2⟩ := half_spec hl2
    have hp := Nat.two_pow_pos e
    have heF : e < F := by
      rcases Nat.lt_or_ge e F with h | h
      · exact h
      · have := Nat.pow_le_pow_right (n := 2) (by omega) h
        omega
    obtain ⟨Q, hQ⟩ : ∃ Q, Q = q * 2 ^ (F - e) := ⟨_, rfl⟩
    have hQ2 : Q = 2 * (q * 2 ^ (F - (e + 1))) := by
      rw [hQ, show F - e = (F - (e + 1)) + 1 by omega, Nat.pow_succ, ← Nat.mul_assoc]
      omega
    have hqF : q * 2 ^ F = Q * 2 ^ e := by rw [hQ, Nat.mul_assoc, ← Nat.pow_add, show F - e + e = F by omega]
    rw [he] at hk1 hk2
    have hlt : (l.take (2 ^ e)).length = 2 ^ e := by rw [List.length_take]; omega
    have hld : (l.drop (2 ^ e)).length = l.length - 2 ^ e := by rw [List.length_drop]
    have htl : treeD N E l = N (treeD N E (l.take (2 ^ e))) (treeD N E (l.drop (2 ^ e))) := by rw [treeD_more N E hl2, he]
    refine ⟨e + 1, heF, ?_⟩
    generalize q * 2 ^ (F - (e + 1)) = R at *
    rw [hqF]
    have hd : (Q * 2 ^ e + l.length - 1) / 2 ^ e = Q + 1 := by
      rw [show Q * 2 ^ e + l.length - 1 = 2 ^ e * Q + (l.length - 1) by rw [Nat.mul_comm]; omega, Nat.mul_add_div hp]
      congr 1
      exact Nat.div_eq_of_lt_le (by omega) (by omega)
    by_cases hk : m ≤ 2 ^ e
    · have h3 := cons_whole N E e (l.take (2 ^ e)) m Q (Q * 2 ^ e + l.length - 1) hlt h1 hk (by omega)
      rw [hd] at h3
      rw [proofD_left N E false hl2 hm (by rw [he]; exact hk), he, consAll_snoc N _ (proofD_ne N E _ _), h3]
      by_cases hme : m = 2 ^ e
      · rw [if_pos hme, odds_even (by omega)]
        simp only [consStep]
        rw [if_neg (by omega), if_neg (by omega), hme, htl, show Q / 2 = R by omega, show (Q + 1) / 2 = R by omega]
      · rw [if_neg hme]
        simp only [consStep]
        rw [if_neg (by omega), if_neg (by omega), htl, List.take_take, Nat.min_eq_left hk, show Q / 2 = R by omega, show (Q + 1) / 2 = R by omega]
    · obtain ⟨t, ht, h3⟩ := hi e (l.drop (2 ^ e)) (m - 2 ^ e) (Q + 1) (by omega) (by rw [hld]; omega) (by rw [hld]; omega) (by rw [hld]; omega)
      have e1 : (Q + 1) * 2 ^ e + (m - 2 ^ e) - 1 = Q * 2 ^ e + m - 1 := by rw [Nat.add_mul, Nat.one_mul]; omega
      have e3 : (Q + 1) * 2 ^ e + (l.drop (2 ^ e)).length - 1 = Q * 2 ^ e + l.length - 1 := by rw [Nat.add_mul, Nat.one_mul, hld]; omega
      rw [e1, e3] at h3
      rw [proofD_right N E false hl2 hm (by rw [he]; exact hk), he, consAll_snoc N _ (proofD_ne N E _ _), h3]
      have hne : ¬ (Q + 1) * 2 ^ (e - t) = 0 := by
        have := Nat.mul_pos (show 0 < Q + 1 by omega) (Nat.two_pow_pos (e - t))
        omega
      simp only [consStep]
      rw [if_neg hne, if_pos (by simp), evens_pow (Q + 1) (e - t) (by omega), htl, tree_first N E (l := l) (e := e) (m := m) (by omega) (by omega) (by omega), show (Q + 1) / 2 = R by omega]
theorem cons_last (F : Nat) (l : List D) (m q : Nat) (h1 : 1 ≤ m) (hm : m < l.length) (hF : l.length ≤ 2 ^ F) :
    ∃ s, s ≤ F ∧ consAll N (odds (q * 2 ^ F + m - 1) (q * 2 ^ F + l.length - 1)) (proofD N E m l false) = some (q * 2 ^ (F - s), q * 2 ^ (F - s), treeD N E (l.take m), treeD N E l) :=
  cons_last_to N E _ F l m q h1 hm hF (Nat.lt_succ_self _)

/-- With the tree of the first ones ahead, where they are a power of two, a proof is one that is not whole. -/
theorem proof_whole_to (b : Nat) : ∀ (l : List D) (m : Nat) (h1 : 1 ≤ m) (hm : m < l.length ∨ (m = l.length ∧ ∃ e, m = 2 ^ e)), l.length < b →
    ((∃ e, m = 2 ^ e) → treeD N E (l.take m) :: proofD N E m l true = proofD N E m l false) ∧ ((¬ ∃ e, m = 2 ^ e) → proofD N E m l true = proofD N E m l false) := by
  induction b with
  | zero => intro l m h1 hm hb; omega
  | succ b hi =>
    intro l m h1 hm hb
    by_cases hml : m = l.length
    · subst hml
      refine ⟨fun _ => ?_, fun h => ?_⟩
      · rw [proofD_all, proofD_all, List.take_of_length_le (Nat.le_refl _)]
        rfl
      · rcases hm with hm | ⟨_, hm⟩
        · omega
        · exact absurd hm h
    · have hm' : m < l.length := by rcases hm with hm | ⟨hm, _⟩ <;> omega
      have hl2 : 2 ≤ l.length := by omega
      obtain ⟨e, he, hk1, hk2⟩ := half_spec hl2
      have hp := Nat.two_pow_pos e
      by_cases hk : m ≤ half l.length
      · have hlt : (l.take (half l.length)).length = half l.length := by rw [List.length_take]; omega
        have ih := hi (l.take (half l.length)) m h1 (by
          rw [hlt]
          by_cases h : m = half l.length
          · exact .inr ⟨h, e, by rw [h, he]⟩
          · exact .inl (by omega)) (by rw [hlt]; omega)
        rw [List.take_take, Nat.min_eq_left hk] at ih
        rw [proofD_left N E true hl2 hm' hk, proofD_left N E false hl2 hm' hk]
        exact ⟨fun h => by rw [← ih.1 h]; rfl, fun h => by rw [ih.2 h]⟩
      · rw [proofD_right N E true hl2 hm' hk, proofD_right N E false hl2 hm' hk]
        refine ⟨fun ⟨f, hf⟩ => ?_, fun _ => rfl⟩
        exfalso
        rw [he] at hk1 hk2 hk
        rw [hf] at hk hm'
        have h3 : e < f := by
          rcases Nat.lt_or_ge e f with h | h
          · exact h
          · have := Nat.pow_le_pow_right (n := 2) (by omega) h
            omega
        have h4 : 2 ^ (e + 1) ≤ 2 ^ f := Nat.pow_le_pow_right (by omega) h3
        rw [Nat.pow_succ] at h4
        omega
theorem proof_whole (l : List D) (m : Nat) (h1 : 1 ≤ m) (hm : m < l.length ∨ (m = l.length ∧ ∃ e, m = 2 ^ e)) :
    ((∃ e, m = 2 ^ e) → treeD N E (l.take m) :: proofD N E m l true = proofD N E m l false) ∧ ((¬ ∃ e, m = 2 ^ e) → proofD N E m l true = proofD N E m l false) :=
  proof_whole_to N E _ l m h1 hm (Nat.lt_succ_self _)

/-- THE FIRST ONES ARE TOLD BY THEIR PROOF TO BE THE BEGINNING OF ALL. -/
theorem cons_proof (l : List D) (m : Nat) (h1 : 1 ≤ m) (hm : m < l.length) : consAll N (odds (m - 1) (l.length - 1)) (proofD N E m l false) = some (0, 0, treeD N E (l.take m), treeD N E l) := by
  obtain ⟨s, _, h⟩ := cons_last N E l.length l m 0 h1 hm (Nat.le_of_lt Nat.lt_two_pow_self)
  simpa using h
end
end Go.Proofs.YtcenlgfopmahcaaGreatDoor

/-
  A tree that is built level by level is the tree; a path that is climbed from above, and a proof that is retraced from above, say what they say from below. Plain mathematics.
-/
namespace Go.Proofs.YtcenlgfopmahcaaGreatDoor
set_option linter.unusedVariables false

section
variable {D : Type} (N : D → D → D) (E : D)

/-- The next level: two and two; a last one without a neighbour as it is. -/
def levelD : List D → List D
  | [] => []
  | [x] => [x]
  | x :: y :: r => N x y :: levelD r
theorem levelD_len : ∀ l : List D, (levelD N l).length = (l.length + 1) / 2
  | [] => by simp [levelD]
  | [x] => by simp [levelD]
  | x :: y :: r => by
    rw [levelD, List.length_cons, levelD_len r, List.length_cons, List.length_cons]
    omega
theorem levelD_append : ∀ (a b : List D), a.length % 2 = 0 → levelD N (a ++ b) = levelD N a ++ levelD N b
  | [], b, _ => rfl
  | [x], b, h => by simp at h
  | x :: y :: r, b, h => by
    have h2 : r.length % 2 = 0 := by simp at h; omega
    show N x y :: levelD N (r ++ b) = N x y :: (levelD N r ++ levelD N b)
    rw [levelD_append r b h2]
theorem tree_level_to (b : Nat) : ∀ l : List D, l.length < b → treeD N E (levelD N l) = treeD N E l := by
  induction b with
  | zero => intro l hb; omega
  | succ b hi =>
    intro l hb
    match l, hb with
    | [], _ => rfl
    | [x], _ => rfl
    | [x, y], _ =>
      have h1 : half 2 = 1 := half_pow 0
      show treeD N E [N x y] = _
      rw [treeD_one, treeD_more N E (l := [x, y]) (by simp)]
      simp [h1, treeD_one]
    | x :: y :: z :: r, hb =>
      obtain ⟨L, hL⟩ : ∃ L, L = x :: y :: z :: r := ⟨_, rfl⟩
      have hn : 3 ≤ L.length := by rw [hL]; simp
      rw [← hL]
      obtain ⟨e, he, hk1, hk2⟩ := half_spec (show 2 ≤ L.length by omega)
      rw [he] at hk1 hk2
      have he0 : e ≠ 0 := by rintro rfl; simp at hk2; omega
      obtain ⟨f, rfl⟩ : ∃ f, e = f + 1 := ⟨e - 1, by omega⟩
      have e2 : 2 ^ (f + 1) = 2 * 2 ^ f := by rw [Nat.pow_succ, Nat.mul_comm]
      have hlt : (L.take (2 ^ (f + 1))).length = 2 ^ (f + 1) := by rw [List.length_take]; omega
      have hld : (L.drop (2 ^ (f + 1))).length = L.length - 2 ^ (f + 1) := by rw [List.length_drop]
      have hsp : levelD N L = levelD N (L.take (2 ^ (f + 1))) ++ levelD N (L.drop (2 ^ (f + 1))) := by
        rw [← levelD_append N _ _ (by rw [hlt]; omega), List.take_append_drop]
      have hll : (levelD N (L.take (2 ^ (f + 1)))).length = 2 ^ f := by rw [levelD_len, hlt]; omega
      have hlen := levelD_len N L
      have hh : half (levelD N L).length = 2 ^ f := by rw [hlen]; exact half_is (by omega) (by omega)
      have ih1 := hi (L.take (2 ^ (f + 1))) (by have hp := Nat.two_pow_pos (f + 1); rw [← hL] at hb; simp only [List.length_take]; omega)
      have ih2 := hi (L.drop (2 ^ (f + 1))) (by have hp := Nat.two_pow_pos (f + 1); rw [← hL] at hb; simp only [List.length_drop]; omega)
      rw [treeD_more N E (l := levelD N L) (by rw [hlen]; omega), hh, treeD_more N E (l := L) (by omega), he, hsp]
      rw [List.take_left' hll, List.drop_left' hll, ih1, ih2]
theorem tree_level (l : List D) : treeD N E (levelD N l) = treeD N E l := tree_level_to N E _ l (Nat.lt_succ_self _)

/-- c levels up. -/
def levelsD : Nat → List D → List D
  | 0, l => l
  | c + 1, l => levelsD c (levelD N l)
theorem levels_one (c : Nat) : ∀ l : List D, 1 ≤ l.length → l.length ≤ 2 ^ c → levelsD N c l = [treeD N E l] := by
  induction c with
  | zero =>
    intro l h1 h2
    match l, h1, h2 with
    | [x], _, _ => rw [treeD_one]; rfl
    | x :: y :: r, _, h2 => simp at h2
  | succ c ih =>
    intro l h1 h2
    have hlen := levelD_len N l
    have := ih (levelD N l) (by omega) (by rw [Nat.pow_succ] at h2; omega)
    rw [tree_level] at this
    exact this
theorem levels_snoc (c : Nat) : ∀ l : List D, levelsD N (c + 1) l = levelD N (levelsD N c l) := by
  induction c with
  | zero => intro l; rfl
  | succ c ih => intro l; exact ih (levelD N l)

/-- How many steps a path has. -/
def plenS (go : Nat × Nat → Nat) (p : Nat × Nat) : Nat :=
  if h : p.2 < 2 then 0 else if p.1 < half p.2 then go (p.1, half p.2) + 1 else go (p.1 - half p.2, p.2 - half p.2) + 1
def plen (i n : Nat) : Nat := wfix (fun p : Nat × Nat => p.2) 0 plenS (i, n)
theorem half_both {n : Nat} (h : ¬ n < 2) : half n < n ∧ n - half n < n := by
  obtain ⟨e, h3, h4, h5⟩ := half_spec (show 2 ≤ n by omega)
  have : 0 < half n := by rw [h3]; exact Nat.two_pow_pos e
  omega
theorem plen_eq (i n : Nat) : plen i n = if h : n < 2 then 0 else if i < half n then plen i (half n) + 1 else plen (i - half n) (n - half n) + 1 :=
  wfix_eq (fun p : Nat × Nat => p.2) 0 plenS (fun x g g' h => by
    unfold plenS
    by_cases c : x.2 < 2
    · rw [dif_pos c, dif_pos c]
    · rw [dif_neg c, dif_neg c, h (x.1, half x.2) (half_both c).1, h (x.1 - half x.2, x.2 - half x.2) (half_both c).2]) (i, n)
theorem plen_one {i n : Nat} (h : n < 2) : plen i n = 0 := by rw [plen_eq, dif_pos h]
theorem plen_left {i n : Nat} (h : 2 ≤ n) (hi : i < half n) : plen i n = plen i (half n) + 1 := by rw [plen_eq, dif_neg (by omega), if_pos hi]
theorem plen_right {i n : Nat} (h : 2 ≤ n) (hi : ¬ i < half n) : plen i n = plen (i - half n) (n - half n) + 1 := by rw [plen_eq, dif_neg (by omega), if_neg hi]
theorem plen_pow (e : Nat) : ∀ i, i < 2 ^ e → plen i (2 ^ e) = e := by
  induction e with
  | zero => intro i _; exact plen_one (by simp)
  | succ e ih =>
    intro i hi
    have hp := Nat.two_pow_pos e
    have e2 : 2 ^ (e + 1) = 2 * 2 ^ e := by rw [Nat.pow_succ, Nat.mul_comm]
    by_cases h : i < 2 ^ e
    · rw [plen_left (by omega) (by rw [half_pow]; exact h), half_pow, ih i h]
    · rw [plen_right (by omega) (by rw [half_pow]; exact h), half_pow, show 2 ^ (e + 1) - 2 ^ e = 2 ^ e by omega, ih (i - 2 ^ e) (by omega)]

/-- The path, its last one first, climbed from above. -/
def climbR (h : D) : List D → Nat → Nat → D × Bool
  | [], i, n => if n = 1 then (h, true) else (E, false)
  | p :: r, i, n => if n = 1 then (h, false) else
      if i < half n then (N (climbR h r i (half n)).1 p, (climbR h r i (half n)).2) else (N p (climbR h r (i - half n) (n - half n)).1, (climbR h r (i - half n) (n - half n)).2)
theorem climbR_left (h p : D) (r : List D) {i n : Nat} (hn : 2 ≤ n) (hi : i < half n) : climbR N E h (p :: r) i n = (N (climbR N E h r i (half n)).1 p, (climbR N E h r i (half n)).2) := by
  rw [climbR, if_neg (by omega), if_pos hi]
theorem climbR_right (h p : D) (r : List D) {i n : Nat} (hn : 2 ≤ n) (hi : ¬ i < half n) : climbR N E h (p :: r) i n = (N p (climbR N E h r (i - half n) (n - half n)).1, (climbR N E h r (i - half n) (n - half n)).2) := by
  rw [climbR, if_neg (by omega), if_neg hi]
theorem climb_fits (h : D) : ∀ (r : List D) (i n : Nat), 1 ≤ n → (climbR N E h r i n).2 = decide (r.length = plen i n) := by
  intro r
  induction r with
  | nil =>
    intro i n hn
    rw [climbR]
    by_cases h1 : n = 1
    · rw [if_pos h1, plen_one (by omega)]; rfl
    · rw [if_neg h1]
      by_cases hi : i < half n
      · rw [plen_left (by omega) hi]; simp
      · rw [plen_right (by omega) hi]; simp
  | cons p r ih =>
    intro i n hn
    by_cases h1 : n = 1
    · rw [climbR, if_pos h1, plen_one (by omega)]; simp
    · obtain ⟨e, h3, h4, h5⟩ := half_spec (show 2 ≤ n by omega)
      have hp := Nat.two_pow_pos e
      by_cases hi : i < half n
      · rw [climbR_left N E h p r (by omega) hi, plen_left (by omega) hi]
        show (climbR N E h r i (half n)).2 = _
        rw [ih i (half n) (by omega)]
        simp
      · rw [climbR_right N E h p r (by omega) hi, plen_right (by omega) hi]
        show (climbR N E h r (i - half n) (n - half n)).2 = _
        rw [ih _ _ (by omega)]
        simp

theorem climb_whole (e : Nat) : ∀ (path : List D) (i q last : Nat) (h : D), path.length = e → i < 2 ^ e → q < last / 2 ^ e →
    inclRun N (some (q * 2 ^ e + i, last, h)) path = some (q, last / 2 ^ e, (climbR N E h path.reverse i (2 ^ e)).1) := by
  induction e with
  | zero =>
    intro path i q last h hl hi hq
    obtain rfl := List.eq_nil_of_length_eq_zero hl
    have hi0 : i = 0 := by simpa using hi
    subst hi0
    simp [inclRun, climbR]
  | succ e ih =>
    intro path i q last h hl hi hq
    have hp := Nat.two_pow_pos e
    have e2 : 2 ^ (e + 1) = 2 * 2 ^ e := by rw [Nat.pow_succ, Nat.mul_comm]
    have hne : path ≠ [] := by rintro rfl; simp at hl
    obtain ⟨r, p, rfl⟩ : ∃ r p, path = r ++ [p] := ⟨path.dropLast, path.getLast hne, (List.dropLast_concat_getLast hne).symm⟩
    have hr : r.length = e := by simpa using hl
    have hdiv : last / 2 ^ (e + 1) = last / 2 ^ e / 2 := by rw [Nat.pow_succ, Nat.div_div_eq_div_mul]
    rw [hdiv] at hq ⊢
    have hpow : q * 2 ^ (e + 1) = 2 * q * 2 ^ e := by rw [Nat.pow_succ]; rw [Nat.mul_comm (2 ^ e) 2, ← Nat.mul_assoc, Nat.mul_comm q 2]
    rw [List.reverse_append, List.reverse_singleton, List.singleton_append, inclRun_snoc]
    by_cases hik : i < 2 ^ e
    · have h1 := ih r i (2 * q) last h hr hik (by omega)
      rw [hpow, h1, climbR_left N E h p _ (by omega) (by rw [half_pow]; exact hik), half_pow]
      simp only [inclStep]
      rw [if_neg (by omega), if_neg (by omega)]
      congr 2
      omega
    · have h1 := ih r (i - 2 ^ e) (2 * q + 1) last h hr (by omega) (by omega)
      have e1 : (2 * q + 1) * 2 ^ e + (i - 2 ^ e) = 2 * q * 2 ^ e + i := by rw [Nat.add_mul, Nat.one_mul]; omega
      rw [e1] at h1
      rw [hpow, h1, climbR_right N E h p _ (by omega) (by rw [half_pow]; exact hik), half_pow, show 2 ^ (e + 1) - 2 ^ e = 2 ^ e by omega]
      simp only [inclStep]
      rw [if_neg (by omega), if_pos (by omega), evens_odd (by omega)]
      congr 2
      omega

theorem climb_last (n : Nat) : ∀ (F : Nat) (path : List D) (i q : Nat) (h : D), 1 ≤ n → n ≤ 2 ^ F → i < n → path.length = plen i n →
    ∃ s, s ≤ F ∧ inclRun N (some (q * 2 ^ F + i, q * 2 ^ F + n - 1, h)) path = some (q * 2 ^ (F - s), q * 2 ^ (F - s), (climbR N E h path.reverse i n).1) := by
  induction n using Nat.strongRecOn with
  | ind n ih =>
    intro F path i q h h1 hF hi hl
    by_cases h2 : n < 2
    · rw [plen_one h2] at hl
      obtain rfl := List.eq_nil_of_length_eq_zero hl
      have hn1 : n = 1 := by omega
      have hi0 : i = 0 := by omega
      subst hn1 hi0
      exact ⟨0, Nat.zero_le _, by simp [inclRun, climbR]⟩
    · obtain ⟨e, he, hk1, hk2⟩ := half_spec (show 2 ≤ n by omega)
      have hp := Nat.two_pow_pos e
      have hhe := he
      rw [he] at hk1 hk2
      have heF : e < F := by
        rcases Nat.lt_or_ge e F with h | h
        · exact h
        · have := Nat.pow_le_pow_right (n := 2) (by omega) h
          omega
      obtain ⟨Q, hQ⟩ : ∃ Q, Q = q * 2 ^ (F - e) := ⟨_, rfl⟩
      have hQ2 : Q = 2 * (q * 2 ^ (F - (e + 1))) := by
        rw [hQ, show F - e = (F - (e + 1)) + 1 by omega, Nat.pow_succ, ← Nat.mul_assoc]
        omega
      have hqF : q * 2 ^ F = Q * 2 ^ e := by rw [hQ, Nat.mul_assoc, ← Nat.pow_add, show F - e + e = F by omega]
      refine ⟨e + 1, heF, ?_⟩
      generalize q * 2 ^ (F - (e + 1)) = R at *
      have hne : path ≠ [] := by
        rintro rfl
        by_cases hk : i < half n
        · rw [plen_left (by omega) hk] at hl; simp at hl
        · rw [plen_right (by omega) hk] at hl; simp at hl
      obtain ⟨r, p, rfl⟩ : ∃ r p, path = r ++ [p] := ⟨path.dropLast, path.getLast hne, (List.dropLast_concat_getLast hne).symm⟩
      rw [List.reverse_append, List.reverse_singleton, List.singleton_append, inclRun_snoc, hqF]
      by_cases hik : i < half n
      · rw [plen_left (by omega) hik, hhe, plen_pow e i (by omega)] at hl
        have hr : r.length = e := by simpa using hl
        have hd : (Q * 2 ^ e + n - 1) / 2 ^ e = Q + 1 := by
          rw [show Q * 2 ^ e + n - 1 = 2 ^ e * Q + (n - 1) by rw [Nat.mul_comm]; omega, Nat.mul_add_div hp]
          congr 1
          exact Nat.div_eq_of_lt_le (by omega) (by omega)
        have h3 := climb_whole N E e r i Q (Q * 2 ^ e + n - 1) h hr (by omega) (by omega)
        rw [hd] at h3
        rw [h3, climbR_left N E h p _ (by omega) hik, hhe]
        simp only [inclStep]
        rw [if_neg (by omega), if_neg (by omega), show Q / 2 = R by omega, show (Q + 1) / 2 = R by omega]
      · rw [plen_right (by omega) hik] at hl
        have hr : r.length = plen (i - half n) (n - half n) := by simpa using hl
        obtain ⟨t, ht, h3⟩ := ih (n - half n) (by omega) e r (i - half n) (Q + 1) h (by omega) (by omega) (by omega) hr
        have e1 : (Q + 1) * 2 ^ e + (i - half n) = Q * 2 ^ e + i := by rw [Nat.add_mul, Nat.one_mul]; omega
        have e3 : (Q + 1) * 2 ^ e + (n - half n) - 1 = Q * 2 ^ e + n - 1 := by rw [Nat.add_mul, Nat.one_mul]; omega
        rw [e1, e3] at h3
        rw [h3, climbR_right N E h p _ (by omega) hik]
        have hne : ¬ (Q + 1) * 2 ^ (e - t) = 0 := by
          have := Nat.mul_pos (show 0 < Q + 1 by omega) (Nat.two_pow_pos (e - t))
          omega
        simp only [inclStep]
        rw [if_neg hne, if_pos (by simp), evens_pow (Q + 1) (e - t) (by omega), show (Q + 1) / 2 = R by omega]

theorem incl_none (l : List D) : inclRun N none l = none := by
  induction l with
  | nil => rfl
  | cons p r ih => simpa [inclRun, inclStep] using ih
theorem incl_done (a : Nat) (h : D) {l : List D} (hl : l ≠ []) : inclRun N (some (a, 0, h)) l = none := by
  cases l with
  | nil => exact absurd rfl hl
  | cons p r =>
    show inclRun N (inclStep N (some (a, 0, h)) p) r = none
    simp only [inclStep]
    exact incl_none N r
theorem incl_app (s : Option (Nat × Nat × D)) (a b : List D) : inclRun N s (a ++ b) = inclRun N (inclRun N s a) b := by simp [inclRun]

/-- Is it whole, and what has it come to? -/
def inclOut (s : Option (Nat × Nat × D)) : Option D :=
  match s with
  | none => none
  | some (_, b, d) => if b = 0 then some d else none
/-- CLIMBED FROM ABOVE, OR RUN FROM BELOW: the same. -/
theorem climb_run (h : D) (i n : Nat) (path : List D) (h1 : 1 ≤ n) (hi : i < n) :
    inclOut (inclRun N (some (i, n - 1, h)) path) = if (climbR N E h path.reverse i n).2 then some (climbR N E h path.reverse i n).1 else none := by
  have key : ∀ p : List D, p.length = plen i n → inclRun N (some (i, n - 1, h)) p = some (0, 0, (climbR N E h p.reverse i n).1) := by
    intro p hp
    obtain ⟨s, _, hs⟩ := climb_last N E n n p i 0 h h1 (Nat.le_of_lt Nat.lt_two_pow_self) hi hp
    simpa using hs
  rw [climb_fits N E h path.reverse i n h1, List.length_reverse]
  rcases Nat.lt_trichotomy path.length (plen i n) with hl | hl | hl
  · rw [decide_eq_false (by omega), if_neg (by simp)]
    have hk := key (path ++ List.replicate (plen i n - path.length) h) (by simp; omega)
    rw [incl_app] at hk
    have hrne : List.replicate (plen i n - path.length) h ≠ [] := by
      intro h0
      have := congrArg List.length h0
      simp at this
      omega
    cases hS : inclRun N (some (i, n - 1, h)) path with
    | none => rfl
    | some v =>
      obtain ⟨a, b, d⟩ := v
      rw [hS] at hk
      by_cases hb : b = 0
      · subst hb
        rw [incl_done N a d hrne] at hk
        cases hk
      · simp [inclOut, hb]
  · rw [key path hl, decide_eq_true hl]
    simp [inclOut]
  · rw [decide_eq_false (by omega), if_neg (by simp)]
    have hs : path = path.take (plen i n) ++ path.drop (plen i n) := (List.take_append_drop _ _).symm
    rw [hs, incl_app, key (path.take (plen i n)) (by rw [List.length_take]; omega), incl_done N 0 _ (by
      intro h0
      have := congrArg List.length h0
      simp at this
      omega)]
    rfl
end
end Go.Proofs.YtcenlgfopmahcaaGreatDoor
