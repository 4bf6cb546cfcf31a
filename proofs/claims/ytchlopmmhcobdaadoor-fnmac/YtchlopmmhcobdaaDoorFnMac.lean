/-
  The walk of the law FnMac: the mac is that which digests make; a pass stretched once more has the mac of what it was. Condition: the program's variable holds the rounds' numbers.
-/
import Derived.Test.YtchlopmmhcobdaaDoorSpecDigest
import Derived.Test.YtchlopmmhcobdaaDoorSpecStretch
import Derived.Test.YtchlopmmhcobdaaDoorImplStretch
import Derived.Test.YtchlopmmhcobdaaDoorDraw2
namespace Go.Proofs.YtchlopmmhcobdaaDoor
open Go.RowKit Go.Lib
set_option linter.unusedVariables false

set_option maxHeartbeats 1000000 in
set_option maxRecDepth 10000 in
theorem lwPad_any (k : ByteArray) (m : Int) (w : World) (hk : k.size ≤ 64) (hm0 : 0 ≤ m) (hm1 : m < 256) :
    Calls Tryd.prog 18 #[.string k, .int .u8 m] w fun e w' => e = .returned (.string (maskB k m)) ∧ Below w.heap.size w w' := by
  obtain ⟨w1, hmk, hg1, hb1⟩ := make_64 w
  obtain ⟨w2, hcp, hg2, hb2⟩ := copy_key w1 w.heap.size k hg1 hk w.heap.size (Nat.le_refl _)
  have HMK : Hid (_ = _) := hmk
  have e0 : masked k.data.toList 0 0 = masked k.data.toList m 0 := by unfold masked; simp
  rw [e0] at hg2
  have H2 : Hid (w2.heap[w.heap.size]? = _ ∧ Below w.heap.size w w2) := ⟨hg2, hb1.trans hb2⟩
  clear hmk hg1 hb1 hg2 hb2 e0
  go_enter Tryd.func18, Tryd.ntmps18
  go_wp2_with (at_make; go_must (refine wp_make_run rfl _ _ 22 rfl _ _ _ w1 rfl rfl HMK.out ?_))
  go_loopw [6] (fun i wr => ∃ j : Nat, j ≤ 64 ∧ i = .int .i64 j ∧ wr.heap[w.heap.size]? = some (.cells (cells8 64 (masked k.data.toList m j)) 5 (0, 0)) ∧ Below w.heap.size w wr) (fun i _ => 64 - (intOf i).toNat)
  case atStart => exact ⟨0, by omega, rfl, H2.out.1, H2.out.2⟩
  case round =>
    obtain ⟨j, hj, rfl, hg, hb⟩ := hrel
    by_cases hlt : j < 64
    · obtain ⟨hc, hf⟩ := key_cell hg hlt
      have e : masked k.data.toList m j j = byteL k.data.toList j := by unfold masked; rw [if_neg (by omega)]
      rw [e] at hc
      have hs := heap_setCell_same wr w.heap.size j _ _ (.int .u8 (bits .xor .u8 (byteL k.data.toList j) m)) hg
      rw [masked_set] at hs
      have H3 : Hid (_ ∧ Below w.heap.size w wr) := ⟨hs, hb⟩
      obtain ⟨p0, p1⟩ := byteL_bd k.data.toList j
      generalize byteL k.data.toList j = x at *
      clear hs hg hb e hcp
      go_wp2
      go_roundw
      case rel => exact ⟨j + 1, by omega, by go_num, H3.out.1, H3.out.2.setCell (Nat.le_refl _) _⟩
      case measure => simp [intOf]; omega
    · have e64 : j = 64 := by omega
      rw [e64] at hg
      have hcv := conv_text wr w.heap.size 64 64 (maskL k.data.toList m) _ _ _ hg (masked_all _ _) (maskL_len _ _)
      have HB : Hid (Below w.heap.size w wr) := hb
      clear hg hb e64 hcp
      go_wp2
      go_ret
      exact ⟨rfl, HB.out⟩

theorem digV_small (s : ByteArray) (h : s.size ≤ 20000) : digV s = shaB s := by unfold digV; rw [if_neg (by omega)]
theorem macV_small (k t : ByteArray) (hk : k.size ≤ 64) (ht : t.size ≤ 20000) : macV k t = shaB (maskB k 92 ++ shaB (maskB k 54 ++ t)) := by
  unfold macV macB keyB
  rw [if_neg (by omega), if_neg (by omega)]
  rfl
theorem strV_next (p : ByteArray) (n : Int) (hp : p.size ≤ 20000) (h1 : 1 ≤ n) (h2 : n ≤ 99) : strV p (n + 1) = macV p (strV p n) := by
  have hs := strB_size p n.toNat
  have e : (n + 1).toNat = n.toNat + 1 := by omega
  have e1 : strV p n = strB p n.toNat := by unfold strV; rw [if_neg (by omega)]
  have e2 : strV p (n + 1) = strB p (n.toNat + 1) := by unfold strV; rw [if_neg (by omega), e]
  rw [e1, e2]
  unfold macV
  rw [if_neg (by omega)]
  rfl
theorem strV_size (p : ByteArray) (n : Int) : (strV p n).size ≤ 1048576 := by
  unfold strV
  split
  · simp
  · have := strB_size p n.toNat; omega

/-- What stands of the world in the law's way: the variable's cells, and the two rows of bytes. -/
structure Way (w : World) (a1 : Option Addr) (len1 : Nat) (w' : World) : Prop where
  below : Below w.heap.size w w'
  keys : Keys w'
  code : Code w' w.heap.size a1 len1
theorem Code.low {w w' : World} {q : Nat} {a : Option Addr} {len : Nat} (h : Code w q a len) (hb : Below q w w') : Code w' q a len := by
  rcases h with h | ⟨b, off, ha, hbq, hc⟩
  · exact .inl h
  · refine .inr ⟨b, off, ha, hbq, fun i hi => ?_⟩
    obtain ⟨c, x0, x1, x2⟩ := hc i hi
    exact ⟨c, x0, x1, (hb.cell (p := ⟨b, off + i, none⟩) hbq).trans x2⟩
theorem Code.up {w : World} {q q' : Nat} {a : Option Addr} {len : Nat} (h : Code w q a len) (hq : q ≤ q') : Code w q' a len := by
  rcases h with h | ⟨b, off, ha, hbq, hc⟩
  · exact .inl h
  · exact .inr ⟨b, off, ha, Nat.lt_of_lt_of_le hbq hq, hc⟩
theorem Way.go {w w1 w2 : World} {a1 : Option Addr} {len1 : Nat} (h : Way w a1 len1 w1) (hb : Below w1.heap.size w1 w2) : Way w a1 len1 w2 :=
  ⟨h.below.trans (hb.mono h.below.size), h.keys.below hb h.keys.lt, h.code.low (hb.mono h.below.size)⟩

set_option maxHeartbeats 4000000 in
set_option maxRecDepth 10000 in
theorem fnMac_any (a0 : Option Addr) (len0 cap0 : Nat) (a1 : Option Addr) (len1 cap1 : Nat) (w : World) (w0 : Code w w.heap.size a0 len0 ∧ len0 ≤ maxLen) (w1 : Code w w.heap.size a1 len1 ∧ len1 ≤ maxLen) (hK : Keys w) :
    Calls Tryd.prog 4 #[.slice a0 len0 cap0, .slice a1 len1 cap1] w fun e w' => e = .returned (.bool true) ∧ Below w.heap.size w w' := by
  obtain ⟨hc0, hl0⟩ := w0
  obtain ⟨hc1, hl1⟩ := w1
  unfold maxLen at hl0 hl1
  by_cases h0 : (1048576 : Int) < len0
  · clear hK hc0 hc1
    go_enter Tryd.func4, Tryd.ntmps4
    go_wp2
    go_ret
    exact ⟨rfl, Below.refl _ _⟩
  by_cases h1 : (1048576 : Int) < len1
  · clear hK hc0 hc1
    go_enter Tryd.func4, Tryd.ntmps4
    go_wp2
    go_ret
    exact ⟨rfl, Below.refl _ _⟩
  have D0 : Hid (Calls Tryd.prog 16 #[.slice a0 len0 cap0] w fun e w' => TwoAns 66 100 w e w') := drawMac_any a0 len0 cap0 w hc0 (by omega)
  have D1 : Hid (∀ w', Code w' w'.heap.size a1 len1 → Calls Tryd.prog 20 #[.slice a1 len1 cap1] w' fun e w'' => TextAns 200 w' e w'') := fun w' h => drawDigest_any a1 len1 cap1 w' h (by omega)
  have D2 : Hid (∀ w', Code w' w'.heap.size a1 len1 → Calls Tryd.prog 21 #[.slice a1 len1 cap1] w' fun e w'' => PassAns 9 w' e w'') := fun w' h => drawStretch_any a1 len1 cap1 w' h (by omega)
  have HW : Hid (Way w a1 len1 w) := ⟨Below.refl _ _, hK, hc1⟩
  clear hK hc0 hc1
  go_enter Tryd.func4, Tryd.ntmps4
  go_wp2_with fail
  refine D0.out.mono ?_
  rintro e v1 ⟨key, text, rfl, hks, hts, hb1⟩
  have HW1 : Hid (Way w a1 len1 v1) := HW.out.go hb1
  have HKT : Hid ((key.size : Int) ≤ 66 ∧ (text.size : Int) ≤ 100) := ⟨hks, hts⟩
  clear hb1 HW D0
  by_cases hk64 : (key.size : Int) ≤ 64
  · have s54 := maskB_size key 54
    have s92 := maskB_size key 92
    have s32 := shaB_size (maskB key 54 ++ text)
    have hts' := HKT.out.2
    have G1 : Hid (∀ w', Calls Tryd.prog 18 #[.string key, .int .u8 54] w' fun e w'' => e = .returned (.string (maskB key 54)) ∧ Below w'.heap.size w' w'') := fun w' => lwPad_any key 54 w' (by omega) (by omega) (by omega)
    have G2 : Hid (∀ w', Calls Tryd.prog 18 #[.string key, .int .u8 92] w' fun e w'' => e = .returned (.string (maskB key 92)) ∧ Below w'.heap.size w' w'') := fun w' => lwPad_any key 92 w' (by omega) (by omega) (by omega)
    have G3 : Hid (∀ w', Keys w' → Calls Tryd.prog 17 #[.string (maskB key 54 ++ text)] w' fun e w'' => e = .returned (.string (shaB (maskB key 54 ++ text))) ∧ Below w'.heap.size w' w'') := by
      intro w' h
      have hz : (maskB key 54 ++ text).size ≤ 20000 := by rw [ByteArray.size_append]; omega
      rw [← digV_small _ hz]
      exact implDigest_any _ w' (by omega) h
    have G4 : Hid (∀ w', Keys w' → Calls Tryd.prog 19 #[.string key, .string text] w' fun e w'' => e = .returned (.string (shaB (maskB key 92 ++ shaB (maskB key 54 ++ text)))) ∧ Below w'.heap.size w' w'') := by
      intro w' h
      rw [← macV_small key text (by omega) (by omega)]
      exact implMac_any key text w' (by omega) (by omega) h
    have G5 : Hid (∀ w', Keys w' → Calls Tryd.prog 17 #[.string (maskB key 92 ++ shaB (maskB key 54 ++ text))] w' fun e w'' => e = .returned (.string (shaB (maskB key 92 ++ shaB (maskB key 54 ++ text)))) ∧ Below w'.heap.size w' w'') := by
      intro w' h
      have hz : (maskB key 92 ++ shaB (maskB key 54 ++ text)).size ≤ 20000 := by rw [ByteArray.size_append]; omega
      rw [← digV_small _ hz]
      exact implDigest_any _ w' (by omega) h
    generalize shaB (maskB key 92 ++ shaB (maskB key 54 ++ text)) = V at *
    generalize shaB (maskB key 54 ++ text) = I at *
    generalize maskB key 92 = A at *
    generalize maskB key 54 = B at *
    have z1 : A.size ≤ 64 := by omega
    have z2 : B.size ≤ 64 := by omega
    have z3 : (I.size : Int) = 32 := by omega
    clear s54 s92 s32 hts'
    go_wp2_with fail
    refine (G1.out _).mono ?_
    rintro e v2 ⟨rfl, hb2⟩
    have HW2 : Hid (Way w a1 len1 v2) := HW1.out.go hb2
    clear hb2
    go_wp2_with fail
    refine (G3.out _ HW2.out.keys).mono ?_
    rintro e v3 ⟨rfl, hb3⟩
    have HW3 : Hid (Way w a1 len1 v3) := HW2.out.go hb3
    clear hb3
    go_wp2_with fail
    refine (G4.out _ HW3.out.keys).mono ?_
    rintro e v4 ⟨rfl, hb4⟩
    have HW4 : Hid (Way w a1 len1 v4) := HW3.out.go hb4
    clear hb4
    go_wp2_with fail
    refine (G2.out _).mono ?_
    rintro e v5 ⟨rfl, hb5⟩
    have HW5 : Hid (Way w a1 len1 v5) := HW4.out.go hb5
    clear hb5
    go_wp2_with fail
    refine (G5.out _ HW5.out.keys).mono ?_
    rintro e v6 ⟨rfl, hb6⟩
    have HW6 : Hid (Way w a1 len1 v6) := HW5.out.go hb6
    clear hb6
    go_wp2_with fail
    refine (D1.out _ (HW6.out.code.up HW6.out.below.size)).mono ?_
    rintro e v20 ⟨t, rfl, ht, hb20⟩
    have HW20 : Hid (Way w a1 len1 v20) := HW6.out.go hb20
    clear hb20 HW6
    go_wp2_with fail
    refine (D2.out _ (HW20.out.code.up HW20.out.below.size)).mono ?_
    rintro e v21 ⟨pass, n, rfl, hp, hn0, hn1, hb21⟩
    have HW21 : Hid (Way w a1 len1 v21) := HW20.out.go hb21
    clear hb21 HW20
    have F1 : Hid (∀ w', Keys w' → Calls Tryd.prog 17 #[.string t] w' fun e w'' => e = .returned (.string (digV t)) ∧ Below w'.heap.size w' w'') := fun w' h => implDigest_any t w' (by omega) h
    have F2 : Hid (∀ w', Calls Tryd.prog 22 #[.string t] w' fun e w'' => e = .returned (.string (digV t)) ∧ Below w'.heap.size w' w'') := fun w' => specDigest_any t w' (by omega)
    generalize digV t = dg at *
    have F3 : Hid (∀ w', Keys w' → Calls Tryd.prog 23 #[.string pass, .int .i64 n] w' fun e w'' => e = .returned (.string (strV pass n)) ∧ Below w'.heap.size w' w'') := fun w' h => implStretch_any pass n w' (by omega) hn0 hn1 h
    have F4 : Hid (∀ w', Calls Tryd.prog 24 #[.string pass, .int .i64 n] w' fun e w'' => e = .returned (.string (strV pass n)) ∧ Below w'.heap.size w' w'') := fun w' => specStretch_any pass n w' (by omega) hn0 hn1
    by_cases hn : n < 1 ∨ 99 < n
    · generalize strV pass n = st at *
      have hnb : n < 1 ∨ (1 ≤ n ∧ 99 < n) := by omega
      clear hn
      rcases hnb with hn | ⟨hna, hn⟩
      all_goals
        go_wp2_with fail
        refine (F1.out _ HW21.out.keys).mono ?_
        rintro e v22 ⟨rfl, hb22⟩
        have HW22 : Hid (Way w a1 len1 v22) := HW21.out.go hb22
        clear hb22
        go_wp2_with fail
        refine (F2.out _).mono ?_
        rintro e v23 ⟨rfl, hb23⟩
        have HW23 : Hid (Way w a1 len1 v23) := HW22.out.go hb23
        clear hb23
        go_wp2_with fail
        refine (F3.out _ HW23.out.keys).mono ?_
        rintro e v24 ⟨rfl, hb24⟩
        have HW24 : Hid (Way w a1 len1 v24) := HW23.out.go hb24
        clear hb24
        go_wp2_with fail
        refine (F4.out _).mono ?_
        rintro e v25 ⟨rfl, hb25⟩
        have HW25 : Hid (Way w a1 len1 v25) := HW24.out.go hb25
        clear hb25
        go_wp2
        go_ret
        exact ⟨rfl, HW25.out.below⟩
    · have hna : 1 ≤ n := by omega
      have hnb : n ≤ 99 := by omega
      clear hn
      have F5 : Hid (∀ w', Keys w' → Calls Tryd.prog 23 #[.string pass, .int .i64 (n + 1)] w' fun e w'' => e = .returned (.string (strV pass (n + 1))) ∧ Below w'.heap.size w' w'') := fun w' h => implStretch_any pass (n + 1) w' (by omega) (by omega) (by omega) h
      have F6 : Hid (∀ w', Keys w' → Calls Tryd.prog 19 #[.string pass, .string (strV pass n)] w' fun e w'' => e = .returned (.string (strV pass (n + 1))) ∧ Below w'.heap.size w' w'') := by
        intro w' h
        rw [strV_next pass n (by omega) hna hnb]
        exact implMac_any pass (strV pass n) w' (by omega) (strV_size pass n) h
      generalize strV pass (n + 1) = st1 at *
      generalize strV pass n = st at *
      go_wp2_with fail
      refine (F1.out _ HW21.out.keys).mono ?_
      rintro e v22 ⟨rfl, hb22⟩
      have HW22 : Hid (Way w a1 len1 v22) := HW21.out.go hb22
      clear hb22
      go_wp2_with fail
      refine (F2.out _).mono ?_
      rintro e v23 ⟨rfl, hb23⟩
      have HW23 : Hid (Way w a1 len1 v23) := HW22.out.go hb23
      clear hb23
      go_wp2_with fail
      refine (F3.out _ HW23.out.keys).mono ?_
      rintro e v24 ⟨rfl, hb24⟩
      have HW24 : Hid (Way w a1 len1 v24) := HW23.out.go hb24
      clear hb24
      go_wp2_with fail
      refine (F4.out _).mono ?_
      rintro e v25 ⟨rfl, hb25⟩
      have HW25 : Hid (Way w a1 len1 v25) := HW24.out.go hb25
      clear hb25
      go_wp2_with fail
      refine (F5.out _ HW25.out.keys).mono ?_
      rintro e v26 ⟨rfl, hb26⟩
      have HW26 : Hid (Way w a1 len1 v26) := HW25.out.go hb26
      clear hb26
      go_wp2_with fail
      refine (F3.out _ HW26.out.keys).mono ?_
      rintro e v27 ⟨rfl, hb27⟩
      have HW27 : Hid (Way w a1 len1 v27) := HW26.out.go hb27
      clear hb27
      go_wp2_with fail
      refine (F6.out _ HW27.out.keys).mono ?_
      rintro e v28 ⟨rfl, hb28⟩
      have HW28 : Hid (Way w a1 len1 v28) := HW27.out.go hb28
      clear hb28
      go_wp2
      go_ret
      exact ⟨rfl, HW28.out.below⟩
  · go_wp2_with fail
    refine (D1.out _ (HW1.out.code.up HW1.out.below.size)).mono ?_
    rintro e v20 ⟨t, rfl, ht, hb20⟩
    have HW20 : Hid (Way w a1 len1 v20) := HW1.out.go hb20
    clear hb20 HW1
    go_wp2_with fail
    refine (D2.out _ (HW20.out.code.up HW20.out.below.size)).mono ?_
    rintro e v21 ⟨pass, n, rfl, hp, hn0, hn1, hb21⟩
    have HW21 : Hid (Way w a1 len1 v21) := HW20.out.go hb21
    clear hb21 HW20
    have F1 : Hid (∀ w', Keys w' → Calls Tryd.prog 17 #[.string t] w' fun e w'' => e = .returned (.string (digV t)) ∧ Below w'.heap.size w' w'') := fun w' h => implDigest_any t w' (by omega) h
    have F2 : Hid (∀ w', Calls Tryd.prog 22 #[.string t] w' fun e w'' => e = .returned (.string (digV t)) ∧ Below w'.heap.size w' w'') := fun w' => specDigest_any t w' (by omega)
    generalize digV t = dg at *
    have F3 : Hid (∀ w', Keys w' → Calls Tryd.prog 23 #[.string pass, .int .i64 n] w' fun e w'' => e = .returned (.string (strV pass n)) ∧ Below w'.heap.size w' w'') := fun w' h => implStretch_any pass n w' (by omega) hn0 hn1 h
    have F4 : Hid (∀ w', Calls Tryd.prog 24 #[.string pass, .int .i64 n] w' fun e w'' => e = .returned (.string (strV pass n)) ∧ Below w'.heap.size w' w'') := fun w' => specStretch_any pass n w' (by omega) hn0 hn1
    by_cases hn : n < 1 ∨ 99 < n
    · generalize strV pass n = st at *
      have hnb : n < 1 ∨ (1 ≤ n ∧ 99 < n) := by omega
      clear hn
      rcases hnb with hn | ⟨hna, hn⟩
      all_goals
        go_wp2_with fail
        refine (F1.out _ HW21.out.keys).mono ?_
        rintro e v22 ⟨rfl, hb22⟩
        have HW22 : Hid (Way w a1 len1 v22) := HW21.out.go hb22
        clear hb22
        go_wp2_with fail
        refine (F2.out _).mono ?_
        rintro e v23 ⟨rfl, hb23⟩
        have HW23 : Hid (Way w a1 len1 v23) := HW22.out.go hb23
        clear hb23
        go_wp2_with fail
        refine (F3.out _ HW23.out.keys).mono ?_
        rintro e v24 ⟨rfl, hb24⟩
        have HW24 : Hid (Way w a1 len1 v24) := HW23.out.go hb24
        clear hb24
        go_wp2_with fail
        refine (F4.out _).mono ?_
        rintro e v25 ⟨rfl, hb25⟩
        have HW25 : Hid (Way w a1 len1 v25) := HW24.out.go hb25
        clear hb25
        go_wp2
        go_ret
        exact ⟨rfl, HW25.out.below⟩
    · have hna : 1 ≤ n := by omega
      have hnb : n ≤ 99 := by omega
      clear hn
      have F5 : Hid (∀ w', Keys w' → Calls Tryd.prog 23 #[.string pass, .int .i64 (n + 1)] w' fun e w'' => e = .returned (.string (strV pass (n + 1))) ∧ Below w'.heap.size w' w'') := fun w' h => implStretch_any pass (n + 1) w' (by omega) (by omega) (by omega) h
      have F6 : Hid (∀ w', Keys w' → Calls Tryd.prog 19 #[.string pass, .string (strV pass n)] w' fun e w'' => e = .returned (.string (strV pass (n + 1))) ∧ Below w'.heap.size w' w'') := by
        intro w' h
        rw [strV_next pass n (by omega) hna hnb]
        exact implMac_any pass (strV pass n) w' (by omega) (strV_size pass n) h
      generalize strV pass (n + 1) = st1 at *
      generalize strV pass n = st at *
      go_wp2_with fail
      refine (F1.out _ HW21.out.keys).mono ?_
      rintro e v22 ⟨rfl, hb22⟩
      have HW22 : Hid (Way w a1 len1 v22) := HW21.out.go hb22
      clear hb22
      go_wp2_with fail
      refine (F2.out _).mono ?_
      rintro e v23 ⟨rfl, hb23⟩
      have HW23 : Hid (Way w a1 len1 v23) := HW22.out.go hb23
      clear hb23
      go_wp2_with fail
      refine (F3.out _ HW23.out.keys).mono ?_
      rintro e v24 ⟨rfl, hb24⟩
      have HW24 : Hid (Way w a1 len1 v24) := HW23.out.go hb24
      clear hb24
      go_wp2_with fail
      refine (F4.out _).mono ?_
      rintro e v25 ⟨rfl, hb25⟩
      have HW25 : Hid (Way w a1 len1 v25) := HW24.out.go hb25
      clear hb25
      go_wp2_with fail
      refine (F5.out _ HW25.out.keys).mono ?_
      rintro e v26 ⟨rfl, hb26⟩
      have HW26 : Hid (Way w a1 len1 v26) := HW25.out.go hb26
      clear hb26
      go_wp2_with fail
      refine (F3.out _ HW26.out.keys).mono ?_
      rintro e v27 ⟨rfl, hb27⟩
      have HW27 : Hid (Way w a1 len1 v27) := HW26.out.go hb27
      clear hb27
      go_wp2_with fail
      refine (F6.out _ HW27.out.keys).mono ?_
      rintro e v28 ⟨rfl, hb28⟩
      have HW28 : Hid (Way w a1 len1 v28) := HW27.out.go hb28
      clear hb28
      go_wp2
      go_ret
      exact ⟨rfl, HW28.out.below⟩
end Go.Proofs.YtchlopmmhcobdaaDoor
