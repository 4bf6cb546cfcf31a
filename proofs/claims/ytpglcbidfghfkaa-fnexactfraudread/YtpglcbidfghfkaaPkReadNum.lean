/-
  The walk of the program's readNum (a loop of gotos): it comes to the plain function. First a law on a scope with several labels.
-/
import Derived.Test.YtpglcbidfghfkaaPkGetPure
import Derived.Test.YtpglcbidfghfkaaPkCodeOf
import Derived.WalkMore
import Derived.ScopeJumps
namespace Go.Proofs.Ytpglcbidfghfkaa
open Go.RowKit
set_option linter.unusedVariables false

/-- As Q; by a goto to label l: J l. -/
def jumpsTo (J : Nat → Act → World → Prop) (Q : Exit → Act → World → Prop) : Exit → Act → World → Prop
  | .goto l, a, w => J l a w
  | e, a, w => Q e a w

/-- A scope in which the run jumps to several labels: what holds at each jump, and a measure that every pass lowers. -/
theorem scope_labels {P : Program} {a : Act} {w : World} {Q : Exit → Act → World → Prop} {c : Code} (J : Nat → Act → World → Prop) (m : Nat → Act → World → Nat)
    (first : c.wp P (jumpsTo J Q) a w)
    (pass : ∀ l a w, J l a w → ∃ rest, findLabel c l = some rest ∧ rest.wp P (jumpsTo (fun l' a' w' => J l' a' w' ∧ m l' a' w' < m l a w) Q) a w) : (Code.scope c).wp P Q a w := by
  intro b k cs
  have key : ∀ n l a w, m l a w = n → J l a w → ∃ rest, findLabel c l = some rest ∧ ∃ e a' w', Q e a' w' ∧ Arrives P (lone (b.at a (.code rest :: .inScope c :: k)) cs w) b k cs e a' w' := by
    intro n
    induction n using Nat.strongRecOn with
    | _ n ih =>
      intro l a w hn hJ
      obtain ⟨rest, hf, hwp⟩ := pass l a w hJ
      refine ⟨rest, hf, ?_⟩
      obtain ⟨e, a₁, w₁, hq, harr⟩ := hwp b (.inScope c :: k) cs
      cases e with
      | normal => exact ⟨.normal, a₁, w₁, hq, Steps.trans harr (.one step_inScope)⟩
      | exit id => exact ⟨.exit id, a₁, w₁, hq, fun k' hk => harr k' (by simp [exitTo, hk])⟩
      | goto l' =>
        obtain ⟨hJ', hlt⟩ := hq
        obtain ⟨rest', hf', e₂, a₂, w₂, hq₂, harr₂⟩ := ih _ (by omega) l' a₁ w₁ rfl hJ'
        have hg : gotoIn l' (.inScope c :: k) = some (.code rest' :: .inScope c :: k) := by simp [gotoIn, hf']
        exact ⟨e₂, a₂, w₂, hq₂, .of_steps (harr _ hg) harr₂⟩
      | ret => exact ⟨_, a₁, w₁, hq, harr⟩
      | panic ch => exact ⟨_, a₁, w₁, hq, harr⟩
      | outgrown => exact ⟨_, a₁, w₁, hq, harr⟩
  obtain ⟨e, a₁, w₁, hq, harr⟩ := first b (.inScope c :: k) cs
  cases e with
  | normal => exact ⟨.normal, a₁, w₁, hq, .head step_scope (Steps.trans harr (.one step_inScope))⟩
  | exit id => exact ⟨.exit id, a₁, w₁, hq, fun k' hk => .head step_scope (harr k' (by simp [exitTo, hk]))⟩
  | goto l' =>
    obtain ⟨rest', hf', e₂, a₂, w₂, hq₂, harr₂⟩ := key _ l' a₁ w₁ rfl hq
    have hg : gotoIn l' (.inScope c :: k) = some (.code rest' :: .inScope c :: k) := by simp [gotoIn, hf']
    exact ⟨e₂, a₂, w₂, hq₂, .of_steps (.head step_scope (harr _ hg)) harr₂⟩
  | ret => exact ⟨_, a₁, w₁, hq, .of_steps (.one step_scope) harr⟩
  | panic ch => exact ⟨_, a₁, w₁, hq, .of_steps (.one step_scope) harr⟩
  | outgrown => exact ⟨_, a₁, w₁, hq, .of_steps (.one step_scope) harr⟩

theorem not_u64r (y : Int) (h0 : 0 ≤ y) (h1 : y < 18446744073709551616) : bits .xor .u64 IntKind.u64.max y = 18446744073709551615 - y := by
  obtain ⟨k, rfl⟩ := Int.eq_ofNat_of_zero_le h0
  show IntKind.u64.wrap ((BitVec.ofInt 64 IntKind.u64.max ^^^ BitVec.ofInt 64 (k : Int)).toNat : Int) = _
  have e : BitVec.ofInt 64 IntKind.u64.max = BitVec.allOnes 64 := by decide
  rw [e, BitVec.allOnes_xor, BitVec.toNat_not, ofInt_u64 k (by omega), IntKind.wrap_u64]
  omega
theorem and1_u64 (u : Int) (h0 : 0 ≤ u) (h1 : u < 18446744073709551616) : bits .and .u64 u 1 = u % 2 := by
  rw [u64_and u 1 h0 h1 (by omega) (by omega), show (1 : Int).toNat = 1 from rfl, nat_mask1]
  omega

set_option maxHeartbeats 400000 in
theorem signed_any (u : Int) (w : World) (h0 : 0 ≤ u) (h1 : u < 18446744073709551616) :
    Calls Try.prog 80 #[.int .u64 u] w fun e w' => e = .returned (.int .i64 (unfoldU u)) ∧ w' = w := by
  have ha := and1_u64 u h0 h1
  have hn := not_u64r (u / 2) (by omega) (by omega)
  by_cases hp : u % 2 = 1
  · have hp' : (u % 2 == 1) = true := by simp [hp]
    have HP : Hid (unfoldU u = -(u / 2) - 1) := unfoldU_odd hp
    clear hp
    go_enter Try.func80, Try.ntmps80
    go_wp2
    go_ret
    refine ⟨congrArg (fun z => Ending.returned (.int .i64 z)) ?_, rfl⟩
    rw [HP.out]
    try simp only [wrap64]
    omega
  · have hp' : (u % 2 == 1) = false := by simp [hp]
    have HP : Hid (unfoldU u = u / 2) := unfoldU_even hp
    clear hp
    go_enter Try.func80, Try.ntmps80
    go_wp2
    go_ret
    exact ⟨congrArg (fun z => Ending.returned (.int .i64 z)) HP.out.symm, rfl⟩

/-- What readNum answers. -/
def readV (r : Int × Int × Int) : Value := if r.2.2 = 0 then .tuple #[.int .i64 r.1, .int .i64 r.2.1, .nilIface] else .tuple #[.int .i64 0, .int .i64 0, .iface 115 (.agg #[.int .i64 r.2.2])]

/-- What holds at each label: 1: another byte is read; 2: the last one was read; 0: a fault. -/
def atLabel (s : ByteArray) (R : Int × Int × Int) (w0 : World) (l : Nat) (a : Act) (w : World) : Prop :=
  w = w0 ∧
  ((l = 1 ∧ ∃ (k j f : Nat) (u sh : Int) (v9 v11 v12 v13 v14 v15 v16 v17 v18 v19 v20 v21 v22 v23 v24 v25 v26 v27 v28 v29 v30 v31 v32 v33 v34 v35 v36 v37 v38 v39 v40 v41 v42 v43 v44 v45 v46 v47 v48 v49 v50 : Value), a = { tmps := #[.string s, .int .i64 (k : Int), undef, undef, .int .i64 0, .int .i64 0, .nilIface, .int .u64 u, .int .u64 sh, v9, .int .i64 0, v11, v12, v13, v14, v15, v16, v17, v18, v19, v20, v21, v22, v23, v24, v25, v26, v27, v28, v29, v30, v31, v32, v33, v34, v35, v36, v37, v38, v39, v40, v41, v42, v43, v44, v45, v46, v47, v48, v49, v50], defers := [] } ∧ j + f + 1 = 10 ∧ sh = 7 * j ∧ 0 ≤ u ∧ u < p7 j ∧ (k : Int) ≤ 9223372036854775807 ∧ getF s (f + 1) k u = R) ∨
   (l = 2 ∧ ∃ (k u sh c : Int) (v11 v12 v13 v14 v15 v16 v17 v18 v19 v20 v21 v22 v23 v24 v25 v26 v27 v28 v29 v30 v31 v32 v33 v34 v35 v36 v37 v38 v39 v40 v41 v42 v43 v44 v45 v46 v47 v48 v49 v50 : Value), a = { tmps := #[.string s, .int .i64 k, undef, undef, .int .i64 0, .int .i64 0, .nilIface, .int .u64 u, .int .u64 sh, .int .u8 c, .int .i64 0, v11, v12, v13, v14, v15, v16, v17, v18, v19, v20, v21, v22, v23, v24, v25, v26, v27, v28, v29, v30, v31, v32, v33, v34, v35, v36, v37, v38, v39, v40, v41, v42, v43, v44, v45, v46, v47, v48, v49, v50], defers := [] } ∧ 0 ≤ u ∧ u < 18446744073709551616 ∧ 0 ≤ sh ∧ (if c = 0 ∧ 0 < sh then (0, 0, 3) else (unfoldU u, k, 0)) = R) ∨
   (l = 0 ∧ ∃ (c : Int) (v1 v7 v8 v9 v11 v12 v13 v14 v15 v16 v17 v18 v19 v20 v21 v22 v23 v24 v25 v26 v27 v28 v29 v30 v31 v32 v33 v34 v35 v36 v37 v38 v39 v40 v41 v42 v43 v44 v45 v46 v47 v48 v49 v50 : Value), a = { tmps := #[.string s, v1, undef, undef, .int .i64 0, .int .i64 0, .nilIface, v7, v8, v9, .int .i64 c, v11, v12, v13, v14, v15, v16, v17, v18, v19, v20, v21, v22, v23, v24, v25, v26, v27, v28, v29, v30, v31, v32, v33, v34, v35, v36, v37, v38, v39, v40, v41, v42, v43, v44, v45, v46, v47, v48, v49, v50], defers := [] } ∧ c ≠ 0 ∧ (0, 0, c) = R))

/-- The measure: how many bytes may still be read. -/
def labelM (l : Nat) (a : Act) (_ : World) : Nat := if l = 0 then 0 else if l = 2 then 1 else 100 - (intOf (a.tmps.getD 8 undef)).toNat

theorem andNot128 {c : Int} (h0 : 0 ≤ c) (h1 : c < 256) : bits .andNot .u8 c 128 = c % 128 := by
  rw [u8_andNot c 128 h0 h1 (by omega) (by omega), show (255 - (128 : Int).toNat) = 127 from rfl, nat_mask7]
  omega
theorem or_join {u c : Int} {j : Nat} (hj : j ≤ 9) (h0 : 0 ≤ u) (h1 : u < p7 j) (hc0 : 0 ≤ c) (hc1 : c * p7 j < 18446744073709551616) : bits .or .u64 u (c * p7 j) = u + c * p7 j := by
  have hp := p7_pos j
  have hl := p7_le9 hj
  have a : 0 ≤ c * p7 j := Int.mul_nonneg hc0 (by omega)
  rw [u64_or u (c * p7 j) h0 (by omega) a hc1, Nat.or_comm, nat_join (7 * j) _ _ ?_ ?_]
  · omega
  · obtain ⟨d, rfl⟩ := Int.eq_ofNat_of_zero_le hc0
    rw [p7_pow]
    have e : ((d : Int) * 2 ^ (7 * j)) = ((d * 2 ^ (7 * j) : Nat) : Int) := by rw [Int.natCast_mul, Int.natCast_pow]; rfl
    rw [e, Int.toNat_natCast]
    exact Nat.mul_mod_left _ _
  · have e : p7 j = ((2 ^ (7 * j) : Nat) : Int) := by rw [p7_pow, Int.natCast_pow]; rfl
    rw [e] at h1
    omega
theorem or_raw {u c sh : Int} {j : Nat} (hj : j ≤ 8) (hsh : sh = 7 * j) (h0 : 0 ≤ u) (h1 : u < p7 j) (hc0 : 0 ≤ c) (hc1 : c < 256) :
    bits .or .u64 u (IntKind.u64.wrap (IntKind.u64.wrap (bits .andNot .u8 c 128) * 2 ^ sh.toNat)) = u + c % 128 * p7 j := by
  have hb := step_bd (c := c % 128) h0 h1 (by omega) (by omega)
  have hl := p7_le9 (j := j + 1) (by omega)
  have a : 0 ≤ c % 128 * p7 j := Int.mul_nonneg (by omega) (by have := p7_pos j; omega)
  have es : sh.toNat = 7 * j := by omega
  rw [andNot128 hc0 hc1, IntKind.wrap_u64, IntKind.wrap_u64, Int.emod_eq_of_lt (a := c % 128) (by omega) (by omega), es, ← p7_pow, Int.emod_eq_of_lt a (by omega), or_join (by omega) h0 h1 (by omega) (by omega)]
theorem or_nine {u c : Int} (h0 : 0 ≤ u) (h1 : u < p7 9) (hc0 : 0 ≤ c) (hc1 : c ≤ 1) :
    bits .or .u64 u (IntKind.u64.wrap (IntKind.u64.wrap (bits .andNot .u8 c 128) * 9223372036854775808)) = u + c * 9223372036854775808 := by
  have e : p7 9 = 9223372036854775808 := by decide
  rw [andNot128 hc0 (by omega), IntKind.wrap_u64, IntKind.wrap_u64, show c % 128 % 18446744073709551616 = c by omega, show c * 9223372036854775808 % 18446744073709551616 = c * p7 9 by rw [e]; omega, or_join (by omega) h0 h1 hc0 (by rw [e]; omega), e]

/-- What is told of a byte below 128 that was read as number j. -/
theorem last_told {s : ByteArray} {k j f : Nat} {u sh : Int} {R : Int × Int × Int} (hjf : j + f + 1 = 10) (hsh : sh = 7 * j) (hk : ¬ s.size ≤ k) (hb : byteAt s k < 128) (h9 : f = 0 → byteAt s k ≤ 1) (hR : getF s (f + 1) k u = R) :
    (if byteAt s k = 0 ∧ 0 < sh then (0, 0, 3) else (unfoldU (u + byteAt s k * p7 j), (k : Int) + 1, 0)) = R := by
  by_cases hz : byteAt s k = 0 ∧ 0 < sh
  · rw [if_pos hz, ← hR, getF_zero u hk hz.1 (by omega)]
  · rw [if_neg hz, ← hR, getF_last u hk hb (by omega) (by omega), show 9 - f = j by omega]

theorem or_first {c : Int} (hc0 : 0 ≤ c) (hc1 : c < 256) : bits .or .u64 0 (IntKind.u64.wrap (IntKind.u64.wrap (bits .andNot .u8 c 128))) = c % 128 := by
  have h := or_raw (u := 0) (c := c) (sh := 0) (j := 0) (by omega) rfl (by omega) (by decide) hc0 hc1
  have e : (2 : Int) ^ (0 : Int).toNat = 1 := rfl
  have e7 : p7 0 = 1 := rfl
  rw [e, e7] at h
  simpa using h

set_option maxHeartbeats 4000000 in
theorem readNum_pos (s : ByteArray) (k0 : Nat) (w : World) (hs : s.size ≤ 20000) (hk0 : (k0 : Int) ≤ 9223372036854775807) (R : Int × Int × Int) (HR : Hid (getF s 10 k0 0 = R)) :
    Calls Try.prog 68 #[.string s, .int .i64 k0] w fun e w' => e = .returned (readV R) ∧ w' = w := by
  go_enter Try.func68, Try.ntmps68
  go_wp2
  refine scope_labels (atLabel s R w) labelM ?_ ?_
  · go_wp2
    go_step3
    by_cases hk : k0 < s.size
    · obtain ⟨hc0, hc1⟩ := byteAt_bd s k0
      have hidx := index_byte s k0 k0 rfl hk
      have hraw := or_first hc0 hc1
      have e7 : p7 0 = 1 := rfl
      have HL : Hid (byteAt s k0 < 128 → (if byteAt s k0 = 0 ∧ (0 : Int) < 0 then (0, 0, 3) else (unfoldU (byteAt s k0 % 128), (k0 : Int) + 1, 0)) = R) := fun h => by
        have := last_told (s := s) (k := k0) (u := 0) (j := 0) (f := 9) (sh := 0) rfl rfl (by omega) h (by omega) HR.out
        rw [e7, show (0 : Int) + byteAt s k0 * 1 = byteAt s k0 % 128 by omega] at this
        exact this
      have HM : Hid (128 ≤ byteAt s k0 → getF s (8 + 1) (k0 + 1) (byteAt s k0 % 128) = R) := fun h => by
        have := (getF_more (s := s) (k := k0) (f := 9) 0 (by omega) h (by omega)).symm.trans HR.out
        rw [show 9 - 9 = 0 from rfl, e7, show (0 : Int) + (byteAt s k0 - 128) * 1 = byteAt s k0 % 128 by omega] at this
        exact this
      clear HR e7
      obtain ⟨c, hcc⟩ : ∃ c, c = byteAt s k0 := ⟨_, rfl⟩
      rw [← hcc] at hc0 hc1 hidx HL HM hraw
      clear hcc
      by_cases hb : c < 128
      · have HLL := HL.out hb
        have HLH : Hid ((if c = 0 ∧ (0 : Int) < 0 then (0, 0, 3) else (unfoldU (c % 128), (k0 : Int) + 1, 0)) = R) := HLL
        clear HLL HL HM
        go_wp2
        go_step3
        exact ⟨rfl, .inr (.inl ⟨rfl, _, c % 128, 0, c, _, _, _, _, _, _, _, _, _, _, _, _, _, _, _, _, _, _, _, _, _, _, _, _, _, _, _, _, _, _, _, _, _, _, _, _, _, _, _, _, rfl, by omega, by omega, by omega, HLH.out⟩)⟩
      · have HMM := HM.out (by omega)
        have HMH : Hid (getF s (8 + 1) (k0 + 1) (c % 128) = R) := HMM
        clear HMM HL HM
        go_wp2
        go_step3
        exact ⟨rfl, .inl ⟨rfl, k0 + 1, 1, 8, c % 128, 7, _, _, _, _, _, _, _, _, _, _, _, _, _, _, _, _, _, _, _, _, _, _, _, _, _, _, _, _, _, _, _, _, _, _, _, _, _, _, _, _, _, rfl, rfl, rfl, by omega, by simp [p7]; omega, by omega, HMH.out⟩⟩
    · have HE : Hid ((0, 0, 4) = R) := (getF_short 0 (by omega)).symm.trans HR.out
      go_wp2
      go_step3
      exact ⟨rfl, .inr (.inr ⟨rfl, 4, _, _, _, _, _, _, _, _, _, _, _, _, _, _, _, _, _, _, _, _, _, _, _, _, _, _, _, _, _, _, _, _, _, _, _, _, _, _, _, _, _, _, _, _, rfl, by decide, HE.out⟩)⟩
  · rintro l a w' ⟨rfl, ⟨rfl, k, j, f, u, sh, v9, v11, v12, v13, v14, v15, v16, v17, v18, v19, v20, v21, v22, v23, v24, v25, v26, v27, v28, v29, v30, v31, v32, v33, v34, v35, v36, v37, v38, v39, v40, v41, v42, v43, v44, v45, v46, v47, v48, v49, v50, rfl, hjf, hsh, hu0, hu1, hkk, hR⟩ | ⟨rfl, k, u, sh, c, v11, v12, v13, v14, v15, v16, v17, v18, v19, v20, v21, v22, v23, v24, v25, v26, v27, v28, v29, v30, v31, v32, v33, v34, v35, v36, v37, v38, v39, v40, v41, v42, v43, v44, v45, v46, v47, v48, v49, v50, rfl, hu0, hu1, hsh, hR⟩ | ⟨rfl, c, v1, v7, v8, v9, v11, v12, v13, v14, v15, v16, v17, v18, v19, v20, v21, v22, v23, v24, v25, v26, v27, v28, v29, v30, v31, v32, v33, v34, v35, v36, v37, v38, v39, v40, v41, v42, v43, v44, v45, v46, v47, v48, v49, v50, rfl, hc, hR⟩⟩
    · refine ⟨_, rfl, ?_⟩
      have h0 : 0 ≤ sh := by omega
      have h1 : sh < 64 := by omega
      have HS : Hid (sh = 7 * j) := hsh
      have HU : Hid (u < p7 j) := hu1
      have hu2 : u < 18446744073709551616 := by have := p7_le9 (j := j) (by omega); omega
      have HRR : Hid (getF s (f + 1) k u = R) := hR
      clear hsh hu1 hR HR
      by_cases hk : k < s.size
      · obtain ⟨hc0, hc1⟩ := byteAt_bd s k
        have hidx := index_byte s k k rfl hk
        have hks : ¬ s.size ≤ k := by omega
        by_cases h9 : j = 9
        · obtain rfl : f = 0 := by omega
          obtain rfl : sh = 63 := by have := HS.out; omega
          subst h9
          by_cases hb : 1 < byteAt s k
          · have HE : Hid ((0, 0, 3) = R) := (getF_tenth u hks hb).symm.trans HRR.out
            obtain ⟨c, hcc⟩ : ∃ c, c = byteAt s k := ⟨_, rfl⟩
            rw [← hcc] at hc0 hc1 hidx hb
            clear hcc HRR HU HS
            go_wp2
            go_step3
            exact ⟨⟨rfl, .inr (.inr ⟨rfl, 3, _, _, _, _, _, _, _, _, _, _, _, _, _, _, _, _, _, _, _, _, _, _, _, _, _, _, _, _, _, _, _, _, _, _, _, _, _, _, _, _, _, _, _, _, rfl, by decide, HE.out⟩)⟩, by simp [labelM, intOf]⟩
          · have hraw := or_nine hu0 HU.out hc0 (by omega)
            have HL := last_told (s := s) (k := k) (u := u) (sh := 63) (j := 9) (f := 0) rfl rfl hks (by omega) (by omega) HRR.out
            have e9 : p7 9 = 9223372036854775808 := by decide
            have hu3 := HU.out
            rw [e9] at HL hu3
            have HLH : Hid ((if byteAt s k = 0 ∧ (0 : Int) < 63 then (0, 0, 3) else (unfoldU (u + byteAt s k * 9223372036854775808), (k : Int) + 1, 0)) = R) := HL
            clear HL
            obtain ⟨c, hcc⟩ : ∃ c, c = byteAt s k := ⟨_, rfl⟩
            rw [← hcc] at hc0 hc1 hidx hb hraw HLH
            clear hcc HRR HU HS e9
            have hb1 : c ≤ 1 := by omega
            clear hb
            go_wp2
            go_step3
            exact ⟨⟨rfl, .inr (.inl ⟨rfl, _, u + c * 9223372036854775808, 63, c, _, _, _, _, _, _, _, _, _, _, _, _, _, _, _, _, _, _, _, _, _, _, _, _, _, _, _, _, _, _, _, _, _, _, _, _, _, _, _, _, rfl, by omega, by omega, by omega, HLH.out⟩)⟩, by simp [labelM, intOf]⟩
        · obtain ⟨g, rfl⟩ : ∃ g, f = g + 1 := ⟨f - 1, by omega⟩
          have hj8 : j ≤ 8 := by omega
          have hsb : (sh == 63) = false := by have := HS.out; simp; omega
          have hraw := or_raw hj8 HS.out hu0 HU.out hc0 hc1
          have hbd := step_bd (c := byteAt s k % 128) hu0 HU.out (by omega) (by omega)
          have hle := p7_le9 (j := j + 1) (by omega)
          have e9 : 9 - (g + 1) = j := by omega
          obtain ⟨u', hu'⟩ : ∃ u', u' = u + byteAt s k % 128 * p7 j := ⟨_, rfl⟩
          rw [← hu'] at hraw hbd
          have hv0 : 0 ≤ u' := hbd.1
          have hv1 : u' < 9223372036854775808 := by omega
          have HB : Hid (u' < p7 (j + 1)) := hbd.2
          by_cases hb : byteAt s k < 128
          · have HL := last_told (s := s) (k := k) (u := u) (sh := sh) (j := j) (f := g + 1) (by omega) HS.out hks hb (by omega) HRR.out
            rw [show byteAt s k * p7 j = byteAt s k % 128 * p7 j by rw [Int.emod_eq_of_lt hc0 hb], ← hu'] at HL
            have HLH : Hid ((if byteAt s k = 0 ∧ 0 < sh then (0, 0, 3) else (unfoldU u', (k : Int) + 1, 0)) = R) := HL
            clear HL hu' hbd hle HB
            obtain ⟨c, hcc⟩ : ∃ c, c = byteAt s k := ⟨_, rfl⟩
            rw [← hcc] at hc0 hc1 hidx hb hraw HLH
            clear hcc HRR HU
            have hsl := HS.out
            have HSL : Hid (sh ≤ 56) := by show sh ≤ 56; omega
            clear hsl HS
            go_wp2
            go_step3
            exact ⟨⟨rfl, .inr (.inl ⟨rfl, _, u', sh, c, _, _, _, _, _, _, _, _, _, _, _, _, _, _, _, _, _, _, _, _, _, _, _, _, _, _, _, _, _, _, _, _, _, _, _, _, _, _, _, _, rfl, hv0, by omega, h0, HLH.out⟩)⟩, by have := HSL.out; simp [labelM, intOf]; omega⟩
          · have HM := (getF_more (s := s) (k := k) (f := g + 1) u hks (by omega) (by omega)).symm.trans HRR.out
            rw [e9, show byteAt s k - 128 = byteAt s k % 128 by omega, ← hu'] at HM
            have HMH : Hid (getF s (g + 1) (k + 1) u' = R) := HM
            clear HM hu' hbd hle
            obtain ⟨c, hcc⟩ : ∃ c, c = byteAt s k := ⟨_, rfl⟩
            rw [← hcc] at hc0 hc1 hidx hb hraw
            clear hcc HRR HU
            have HSL : Hid (sh + 7 = 7 * ((j + 1 : Nat) : Int) ∧ sh ≤ 56) := by have := HS.out; show _ ∧ _; omega
            clear HS
            go_wp2
            go_step3
            exact ⟨⟨rfl, .inl ⟨rfl, k + 1, j + 1, g, u', sh + 7, _, _, _, _, _, _, _, _, _, _, _, _, _, _, _, _, _, _, _, _, _, _, _, _, _, _, _, _, _, _, _, _, _, _, _, _, _, _, _, _, _, rfl, by omega, HSL.out.1, hv0, HB.out, by omega, HMH.out⟩⟩, by have := HSL.out.2; simp [labelM, intOf]; omega⟩
      · have HE : Hid ((0, 0, 4) = R) := (getF_short u (by omega)).symm.trans HRR.out
        have HSL : Hid (sh ≤ 63) := by have := HS.out; show sh ≤ 63; omega
        clear HRR HU HS
        go_wp2
        go_step3
        exact ⟨⟨rfl, .inr (.inr ⟨rfl, 4, _, _, _, _, _, _, _, _, _, _, _, _, _, _, _, _, _, _, _, _, _, _, _, _, _, _, _, _, _, _, _, _, _, _, _, _, _, _, _, _, _, _, _, _, rfl, by decide, HE.out⟩)⟩, by have := HSL.out; simp [labelM, intOf]; omega⟩
    · refine ⟨_, rfl, ?_⟩
      by_cases hz : c = 0 ∧ 0 < sh
      · have HE : Hid ((0, 0, 3) = R) := by rw [if_pos hz] at hR; exact hR
        obtain ⟨rfl, hsp⟩ := hz
        clear hR
        go_wp2
        go_step3
        exact ⟨⟨rfl, .inr (.inr ⟨rfl, 3, _, _, _, _, _, _, _, _, _, _, _, _, _, _, _, _, _, _, _, _, _, _, _, _, _, _, _, _, _, _, _, _, _, _, _, _, _, _, _, _, _, _, _, _, rfl, by decide, HE.out⟩)⟩, by simp [labelM]⟩
      · have HE : Hid (readV (unfoldU u, k, 0) = readV R) := by rw [if_neg hz] at hR; exact congrArg readV hR
        clear hR
        by_cases hcz : c = 0
        · subst hcz
          obtain rfl : sh = 0 := by omega
          clear hz
          go_wp2_with (go_at_call 80; refine (signed_any _ _ hu0 hu1).mono ?_; rintro e w'' ⟨rfl, rfl⟩)
          simp only [jumpsTo]
          go_ret3
          exact ⟨by rw [← HE.out]; simp [readV], rfl⟩
        · have hcb : (c == 0) = false := by simp [hcz]
          clear hz hcz
          go_wp2_with (go_at_call 80; refine (signed_any _ _ hu0 hu1).mono ?_; rintro e w'' ⟨rfl, rfl⟩)
          simp only [jumpsTo]
          go_ret3
          exact ⟨by rw [← HE.out]; simp [readV], rfl⟩
    · refine ⟨_, rfl, ?_⟩
      have HE : Hid (readV (0, 0, c) = readV R) := congrArg readV hR
      have HC : Hid (c ≠ 0) := hc
      clear hR hc
      go_wp2
      simp only [jumpsTo]
      go_ret3
      exact ⟨by rw [← HE.out]; simp [readV, HC.out], rfl⟩

set_option maxHeartbeats 4000000 in
theorem readNum_neg (s : ByteArray) (k : Int) (w : World) (hk : k < 0) :
    Calls Try.prog 68 #[.string s, .int .i64 k] w fun e w' => e = .returned (readV (0, 0, 1)) ∧ w' = w := by
  go_enter Try.func68, Try.ntmps68
  go_wp2
  refine scope_labels (fun l a w' => l = 0 ∧ atLabel s (0, 0, 1) w l a w') labelM ?_ ?_
  · go_wp2
    go_step3
    exact ⟨rfl, rfl, .inr (.inr ⟨rfl, 1, _, _, _, _, _, _, _, _, _, _, _, _, _, _, _, _, _, _, _, _, _, _, _, _, _, _, _, _, _, _, _, _, _, _, _, _, _, _, _, _, _, _, _, _, rfl, by decide, rfl⟩)⟩
  · rintro l a w' ⟨rfl, rfl, ⟨h, _⟩ | ⟨h, _⟩ | ⟨_, c, v1, v7, v8, v9, v11, v12, v13, v14, v15, v16, v17, v18, v19, v20, v21, v22, v23, v24, v25, v26, v27, v28, v29, v30, v31, v32, v33, v34, v35, v36, v37, v38, v39, v40, v41, v42, v43, v44, v45, v46, v47, v48, v49, v50, rfl, hc, hR⟩⟩
    · exact absurd h (by decide)
    · exact absurd h (by decide)
    · refine ⟨_, rfl, ?_⟩
      obtain rfl : c = 1 := by injection hR with _ h; injection h
      go_wp2
      simp only [jumpsTo]
      go_ret3
      exact ⟨by simp [readV], rfl⟩

/-- What the program's GetNum answers with of what readNum read. -/
theorem readNum_any (s : ByteArray) (k : Int) (w : World) (hs : ¬ 20000 < (s.size : Int)) (hk : k ≤ 9223372036854775807) :
    Calls Try.prog 68 #[.string s, .int .i64 k] w fun e w' => e = .returned (readV (numR s k)) ∧ w' = w := by
  unfold numR
  rw [if_neg hs]
  by_cases hn : k < 0
  · rw [if_pos hn]; exact readNum_neg s k w hn
  rw [if_neg hn]
  obtain ⟨m, rfl⟩ := Int.eq_ofNat_of_zero_le (show 0 ≤ k by omega)
  exact readNum_pos s m w (by omega) hk _ rfl

/-- Beside a fault the other two are 0. -/
theorem getF_zeros (s : ByteArray) : ∀ (f k : Nat) (u : Int), (getF s f k u).2.2 ≠ 0 → (getF s f k u).1 = 0 ∧ (getF s f k u).2.1 = 0 := by
  intro f
  induction f with
  | zero => intro k u _; exact ⟨rfl, rfl⟩
  | succ f ih =>
    intro k u
    simp only [getF]
    split
    · intro _; exact ⟨rfl, rfl⟩
    split
    · intro _; exact ⟨rfl, rfl⟩
    split
    · split
      · intro _; exact ⟨rfl, rfl⟩
      · intro h; exact absurd rfl h
    · exact ih _ _
theorem numR_zeros (s : ByteArray) (k : Int) (h : (numR s k).2.2 ≠ 0) : (numR s k).1 = 0 ∧ (numR s k).2.1 = 0 := by
  revert h
  unfold numR
  split
  · intro _; exact ⟨rfl, rfl⟩
  split
  · intro _; exact ⟨rfl, rfl⟩
  · exact getF_zeros s _ _ _

end Go.Proofs.Ytpglcbidfghfkaa
