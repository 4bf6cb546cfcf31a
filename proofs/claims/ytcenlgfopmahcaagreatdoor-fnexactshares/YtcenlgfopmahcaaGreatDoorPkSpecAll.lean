/-
  The document's digest of a text.
-/
import Derived.Test.YtcenlgfopmahcaaGreatDoorPkSpecKeys
import Derived.Test.YtcenlgfopmahcaaGreatDoorPkRowC
namespace Go.Proofs.YtcenlgfopmahcaaGreatDoor
open Go.RowKit Go.Lib
set_option linter.unusedVariables false

def sliceLen : Value → Nat
  | .slice _ n _ => n
  | _ => 0
theorem bytes_row (w : World) (s : ByteArray) : ∃ wb cap, (convert 9 87 (.string s)).run Tryz.prog w = .ok (.slice (some ⟨w.heap.size, 0, none⟩) s.size cap) wb ∧ OwnC wb w.heap.size (.slice (some ⟨w.heap.size, 0, none⟩) s.size cap) s.data.toList ∧ Below w.heap.size w wb := by
  refine ⟨_, _, Go.Lib.run_convert_string_bytes w 9 87 5 s Tryz.underlying9 Tryz.underlying87 Tryz.underlying5, ?_, ?_⟩
  · have hh := bytesWorld_at_new w 5 s
    have hz : (bytesCells w 5 s).size = grownCap w s.size 0 5 := by
      have := grownCap_ge w s.size 0 5
      simp [bytesCells]
      omega
    refine ⟨w.heap.size, _, rfl, Nat.le_refl _, by rw [bytesWorld_size]; omega, grownCap_ge _ _ _ _, fun j u hu => ?_, fun j hj => ?_⟩
    · have hj : j < s.size := by
        rcases Nat.lt_or_ge j s.size with h | h
        · exact h
        · rw [List.getElem?_eq_none (by rw [byteCells_length, ba_len]; exact h)] at hu
          cases hu
      rw [Nat.zero_add, bytesWorld_cell w 5 s j hj]
      have hjs : j < s.data.size := hj
      rw [← hu]
      simp [byteCells, List.getD, Array.getElem?_eq_getElem hjs]
    · rw [Nat.zero_add, cell_of_row _ _ j _ _ _ hh]
      refine ⟨by simp [hz, hj], ?_⟩
      simp [World.frozen?, hh, hz]
      omega
  · exact ⟨rfl, rfl, rfl, by rw [bytesWorld_size]; omega, fun k hk => bytesWorld_at_old w _ s k hk⟩

theorem ownC_form {w : World} {B : Nat} {v : Value} {l : List UInt8} (h : OwnC w B v l) : ∃ g cap, v = .slice (some ⟨g, 0, none⟩) l.length cap := by
  obtain ⟨g, cap, e, _⟩ := h
  exact ⟨g, cap, e⟩

set_option maxHeartbeats 4000000 in
set_option maxRecDepth 10000 in
theorem all_any (s : ByteArray) (w : World) (hs : s.size ≤ 50000) :
    Calls Tryz.prog 53 #[.string s] w fun e w' => e = .returned (.string (shaB s)) ∧ Below w.heap.size w w' := by
  obtain ⟨wb, cap, hcv, hown, hb0⟩ := bytes_row w s
  obtain ⟨n, hn⟩ : ∃ n, n = s.size := ⟨_, rfl⟩
  obtain ⟨Z, hZ⟩ : ∃ Z, Z = (119 - n % 64) % 64 := ⟨_, rfl⟩
  have hll : s.data.toList.length ≤ 1073741824 := by rw [ba_len]; omega
  have hsz := hb0.size
  have HN : Hid (n = s.size ∧ Z = (119 - n % 64) % 64 ∧ Below w.heap.size w wb) := ⟨hn, hZ, hb0⟩
  have hn5 : n ≤ 50000 := by omega
  have hZ63 : Z < 64 := by omega
  clear hn hZ hb0
  go_enter Tryz.func53, Tryz.ntmps53
  go_wp2_with (at_builtin; go_must (refine wp_app_byteC rfl (.tmp 12) (.tmp 13) rfl w.heap.size _ _ rfl hown (128 : UInt8) 128 rfl rfl hll hsz ?_); intro v1 w1 hown1 hb1)
  have hbw : Below w.heap.size w w1 := HN.out.2.2.trans hb1
  clear hcv hown hll hsz hb1
  go_loopw [3] (fun v wr => ∃ z : Nat, z ≤ Z ∧ OwnC wr w.heap.size v (s.data.toList ++ 128 :: List.replicate z 0) ∧ Below w.heap.size w wr) (fun v _ => n + 1 + Z - sliceLen v)
  case atStart => exact ⟨0, Nat.zero_le _, hown1, hbw⟩
  case round =>
    clear hown1 hbw
    obtain ⟨z, hz, hown, hb⟩ := hrel
    obtain ⟨g, cap, rfl⟩ := ownC_form hown
    have hlen : (s.data.toList ++ 128 :: List.replicate z 0).length = n + 1 + z := by
      rw [List.length_append, ba_len, ← HN.out.1]
      simp
      omega
    have HZ : Hid (Z = (119 - n % 64) % 64) := HN.out.2.1
    by_cases hlt : z < Z
    · have hm : ¬ ((n + 1 + z : Nat) : Int) % 64 = 56 := by have := HZ.out; omega
      have hll : (s.data.toList ++ 128 :: List.replicate z 0).length ≤ 1073741824 := by rw [hlen]; omega
      have hsz := hb.size
      have HO : Hid ((s.data.toList ++ 128 :: List.replicate z 0) ++ [0] = s.data.toList ++ 128 :: List.replicate (z + 1) 0) := by
        show _ = _
        rw [List.append_assoc, List.replicate_succ']
        rfl
      generalize (s.data.toList ++ 128 :: List.replicate z 0) = L at *
      rw [hlen] at hown
      have HL : Hid (L.length = n + 1 + z) := hlen
      rw [hlen]
      clear hlen
      obtain ⟨m, hmm⟩ : ∃ m, m = n + 1 + z := ⟨_, rfl⟩
      rw [← hmm] at hown hm ⊢
      have HM : Hid (m = n + 1 + z) := hmm
      clear hmm
      go_wp2_with (at_builtin; go_must (refine wp_app_byteC rfl (.tmp 19) (.tmp 20) rfl w.heap.size _ L rfl hown (0 : UInt8) 0 rfl rfl hll hsz ?_); intro v1 w1 hown1 hb1)
      go_roundw
      case rel => exact ⟨z + 1, by omega, by rw [← HO.out]; exact hown1, hb.trans hb1⟩
      case measure =>
        obtain ⟨g1, cap1, e1⟩ := ownC_form hown1
        have := HM.out
        have := HL.out
        simp [e1, sliceLen]
        omega
    · have ez : z = Z := by omega
      have hm : ((n + 1 + Z : Nat) : Int) % 64 = 56 := by have := HZ.out; omega
      rw [ez] at hown hlen ⊢
      have HP : Hid ((s.data.toList ++ 128 :: List.replicate Z 0) ++ eightB (8 * (s.size : Int)) = s.data.toList ++ padding s.size) := by
        show _ = _
        rw [HZ.out, HN.out.1]
        simp [padding]
      have hm8 : (0 : Int) ≤ 8 * (s.size : Int) := by omega
      have hm9 : 8 * (s.size : Int) < 18446744073709551616 := by omega
      generalize (s.data.toList ++ 128 :: List.replicate Z 0) = L at *
      have HL : Hid (L.length = n + 1 + Z) := hlen
      rw [hlen] at hown ⊢
      clear hlen ez
      obtain ⟨m, hmm⟩ : ∃ m, m = n + 1 + Z := ⟨_, rfl⟩
      rw [← hmm] at hown hm ⊢
      have HM : Hid (m = n + 1 + Z) := hmm
      clear hmm
      go_wp2
      have HS8 : Hid (8 * (s.size : Int) = 8 * (s.size : Int)) := rfl
      generalize h88 : 8 * (s.size : Int) = M at *
      clear HS8 h88
      go_loopw [3, 5] (fun v i wr => ∃ k : Nat, k ≤ 8 ∧ i = .int .i64 (56 - 8 * (k : Int)) ∧ OwnC wr w.heap.size v (L ++ (eightB M).take k) ∧ Below w.heap.size w wr) (fun _ i _ => (RowKit.intOf i + 8).toNat)
      case atStart => exact ⟨0, by omega, rfl, by simpa using hown, hb⟩
      case round =>
        clear hown hb hz hlt hm
        rename_i z0
        obtain ⟨k, hk, rfl, hown, hb⟩ := hrel
        have hsz := hb.size
        by_cases hlt : k < 8
        · have hll : (L ++ (eightB M).take k).length ≤ 1073741824 := by have := HL.out; simp; omega
          have hk8 : k = 0 ∨ k = 1 ∨ k = 2 ∨ k = 3 ∨ k = 4 ∨ k = 5 ∨ k = 6 ∨ k = 7 := by omega
          obtain ⟨gb, capb, rfl⟩ := ownC_form hown
          rcases hk8 with rfl | rfl | rfl | rfl | rfl | rfl | rfl | rfl
          · have Y : Hid (M / 72057594037927936 = (UInt8.ofNat (M / 72057594037927936 % 256).toNat).toNat) := by
              show _ = _
              rw [byte_mod]
              omega
            go_wp2_with (at_builtin; go_must (refine wp_app_byteC rfl (.tmp 30) (.tmp 36) rfl w.heap.size _ _ rfl hown _ _ Y.out rfl hll hsz ?_); intro v1 w1 hown1 hb1)
            go_roundw
            case rel => exact ⟨1, by omega, by go_num, by rw [List.append_assoc] at hown1; exact hown1, hb.trans hb1⟩
            case measure => simp [RowKit.intOf]
          · have Y : Hid (M / 281474976710656 % 256 = (UInt8.ofNat (M / 281474976710656 % 256).toNat).toNat) := (byte_mod _).symm
            go_wp2_with (at_builtin; go_must (refine wp_app_byteC rfl (.tmp 30) (.tmp 36) rfl w.heap.size _ _ rfl hown _ _ Y.out rfl hll hsz ?_); intro v1 w1 hown1 hb1)
            go_roundw
            case rel => exact ⟨2, by omega, by go_num, by rw [List.append_assoc] at hown1; exact hown1, hb.trans hb1⟩
            case measure => simp [RowKit.intOf]
          · have Y : Hid (M / 1099511627776 % 256 = (UInt8.ofNat (M / 1099511627776 % 256).toNat).toNat) := (byte_mod _).symm
            go_wp2_with (at_builtin; go_must (refine wp_app_byteC rfl (.tmp 30) (.tmp 36) rfl w.heap.size _ _ rfl hown _ _ Y.out rfl hll hsz ?_); intro v1 w1 hown1 hb1)
            go_roundw
            case rel => exact ⟨3, by omega, by go_num, by rw [List.append_assoc] at hown1; exact hown1, hb.trans hb1⟩
            case measure => simp [RowKit.intOf]
          · have Y : Hid (M / 4294967296 % 256 = (UInt8.ofNat (M / 4294967296 % 256).toNat).toNat) := (byte_mod _).symm
            go_wp2_with (at_builtin; go_must (refine wp_app_byteC rfl (.tmp 30) (.tmp 36) rfl w.heap.size _ _ rfl hown _ _ Y.out rfl hll hsz ?_); intro v1 w1 hown1 hb1)
            go_roundw
            case rel => exact ⟨4, by omega, by go_num, by rw [List.append_assoc] at hown1; exact hown1, hb.trans hb1⟩
            case measure => simp [RowKit.intOf]
          · have Y : Hid (M / 16777216 % 256 = (UInt8.ofNat (M / 16777216 % 256).toNat).toNat) := (byte_mod _).symm
            go_wp2_with (at_builtin; go_must (refine wp_app_byteC rfl (.tmp 30) (.tmp 36) rfl w.heap.size _ _ rfl hown _ _ Y.out rfl hll hsz ?_); intro v1 w1 hown1 hb1)
            go_roundw
            case rel => exact ⟨5, by omega, by go_num, by rw [List.append_assoc] at hown1; exact hown1, hb.trans hb1⟩
            case measure => simp [RowKit.intOf]
          · have Y : Hid (M / 65536 % 256 = (UInt8.ofNat (M / 65536 % 256).toNat).toNat) := (byte_mod _).symm
            go_wp2_with (at_builtin; go_must (refine wp_app_byteC rfl (.tmp 30) (.tmp 36) rfl w.heap.size _ _ rfl hown _ _ Y.out rfl hll hsz ?_); intro v1 w1 hown1 hb1)
            go_roundw
            case rel => exact ⟨6, by omega, by go_num, by rw [List.append_assoc] at hown1; exact hown1, hb.trans hb1⟩
            case measure => simp [RowKit.intOf]
          · have Y : Hid (M / 256 % 256 = (UInt8.ofNat (M / 256 % 256).toNat).toNat) := (byte_mod _).symm
            go_wp2_with (at_builtin; go_must (refine wp_app_byteC rfl (.tmp 30) (.tmp 36) rfl w.heap.size _ _ rfl hown _ _ Y.out rfl hll hsz ?_); intro v1 w1 hown1 hb1)
            go_roundw
            case rel => exact ⟨7, by omega, by go_num, by rw [List.append_assoc] at hown1; exact hown1, hb.trans hb1⟩
            case measure => simp [RowKit.intOf]
          · have Y : Hid (M % 256 = (UInt8.ofNat (M % 256).toNat).toNat) := (byte_mod _).symm
            go_wp2_with (at_builtin; go_must (refine wp_app_byteC rfl (.tmp 30) (.tmp 36) rfl w.heap.size _ _ rfl hown _ _ Y.out rfl hll hsz ?_); intro v1 w1 hown1 hb1)
            go_roundw
            case rel => exact ⟨8, by omega, by go_num, by rw [List.append_assoc] at hown1; exact hown1, hb.trans hb1⟩
            case measure => simp [RowKit.intOf]
        · have e8 : k = 8 := by omega
          rw [e8] at hown
          have e8' : L ++ List.take 8 (eightB M) = s.data.toList ++ padding s.size := HP.out
          rw [e8'] at hown
          have hlen : (s.data.toList ++ padding s.size).length = s.size + 9 + (119 - s.size % 64) % 64 := by
            rw [List.length_append, padding_len, ba_len]
            omega
          have H1 : Hid (s.size ≤ 50000 ∧ (s.data.toList ++ padding s.size).length = s.size + 9 + (119 - s.size % 64) % 64) := ⟨hs, hlen⟩
          clear e8 e8' HP HL HM HZ hlen
          have HV : Hid (shaB s = baOf (out8 (absorb first8 (s.data.toList ++ padding s.size)) 8)) := rfl
          have hl1 := H1.out.2
          have hN0 : (s.data.toList ++ padding s.size).length % 64 = 0 := by rw [hl1]; omega
          have hN1 : (s.data.toList ++ padding s.size).length ≤ 60000 := by rw [hl1]; omega
          generalize s.data.toList ++ padding s.size = PL at *
          obtain ⟨A, hA⟩ : ∃ A, A = absorb first8 PL := ⟨_, rfl⟩
          rw [← hA] at HV
          have HA : Hid (absorb first8 PL = A) := hA.symm
          clear hl1 hA H1
          obtain ⟨gb, capb, hu3⟩ := ownC_form hown
          have HO : Hid (OwnC wr w.heap.size u3 PL ∧ Below w.heap.size w wr) := ⟨hown, hb⟩
          rw [hu3] at HO ⊢
          clear hown hb hsz hu3
          go_wp2_with fail
          refine (start_any _).mono ?_
          rintro e ws ⟨rfl, hrow, hbs⟩
          have H2 : Hid (OwnC ws w.heap.size (.slice (some ⟨gb, 0, none⟩) PL.length capb) PL ∧ Below w.heap.size w ws) := ⟨HO.out.1.below hbs, HO.out.2.trans (hbs.mono HO.out.2.size)⟩
          clear HO hbs
          obtain ⟨N, hN⟩ : ∃ N, N = PL.length := ⟨_, rfl⟩
          have HNN : Hid (N = PL.length) := hN
          rw [← hN] at H2 hN0 hN1 ⊢
          clear hN
          go_wp2
          go_loopw [6, 7] (fun v i wr => ∃ (k gs cs : Nat) (st : H8), 64 * k ≤ N ∧ i = .int .i64 (64 * (k : Int)) ∧ v = .slice (some ⟨gs, 0, none⟩) 8 cs ∧ Row8 wr gs st ∧ st.Ok ∧ absorb st (PL.drop (64 * k)) = A ∧ OwnC wr w.heap.size (.slice (some ⟨gb, 0, none⟩) N capb) PL ∧ Below w.heap.size w wr) (fun _ i _ => N - (RowKit.intOf i).toNat)
          case atStart => exact ⟨0, _, _, first8, Nat.zero_le _, rfl, rfl, hrow, first8_ok, HA.out, H2.out.1, H2.out.2⟩
          case round =>
            clear hrow hk hlt H2
            rename_i kk
            obtain ⟨k, gs, cs, st, hk, rfl, rfl, hrow, hok, hab, hown, hb⟩ := hrel
            by_cases hlt : 64 * k < N
            · have hk64 : 64 * k + 64 ≤ N := by omega
              obtain ⟨v1, hsl, hcv⟩ := conv_part hown k (by rw [← HNN.out]; exact hk64) (by rw [← HNN.out]; omega)
              have E : Hid (Calls Tryz.prog 73 #[.slice (some ⟨gs, 0, none⟩) 8 cs, .string ⟨((PL.drop (64 * k)).take 64).toArray⟩] wr fun e w'' => ∃ g' c', e = .returned (.slice (some ⟨g', 0, none⟩) 8 c') ∧ Row8 w'' g' (block st ((PL.drop (64 * k)).take 64)) ∧ wr.heap.size ≤ g' ∧ Below wr.heap.size wr w'') :=
                block_any st ⟨((PL.drop (64 * k)).take 64).toArray⟩ gs cs wr hok (by have := HNN.out; simp [ByteArray.size]; omega) hrow
              have H3 : Hid ((block st ((PL.drop (64 * k)).take 64)).Ok ∧ absorb (block st ((PL.drop (64 * k)).take 64)) (PL.drop (64 * (k + 1))) = A) := by
                refine ⟨block_ok _ _, ?_⟩
                have hl : ¬ (PL.drop (64 * k)).length < 64 := by have := HNN.out; simp; omega
                rw [← hab, absorb_ge st hl, List.drop_drop]
                congr 2
              have H4 : Hid (OwnC wr w.heap.size (.slice (some ⟨gb, 0, none⟩) N capb) PL ∧ Below w.heap.size w wr) := ⟨hown, hb⟩
              clear hown hb hab hok hrow
              generalize block st ((PL.drop (64 * k)).take 64) = st1 at *
              have c0 : (0 : Int) ≤ 64 * (k : Int) := by omega
              have c1 : 64 * (k : Int) + 64 ≤ (N : Int) := by omega
              go_wp2_with fail
              refine E.out.mono ?_
              rintro e w2 ⟨g2, c2, rfl, hrow2, _, hb2⟩
              have H5 : Hid (Row8 w2 g2 st1 ∧ OwnC w2 w.heap.size (.slice (some ⟨gb, 0, none⟩) N capb) PL ∧ Below w.heap.size w w2) := ⟨hrow2, H4.out.1.below hb2, H4.out.2.trans (hb2.mono H4.out.2.size)⟩
              clear hrow2 hb2 hsl hcv E
              go_wp2
              go_roundw
              case rel => exact ⟨k + 1, g2, c2, st1, by omega, by go_num, rfl, H5.out.1, H3.out.1, H3.out.2, H5.out.2.1, H5.out.2.2⟩
              case measure => simp [RowKit.intOf]; omega
            · have hkN : 64 * k = N := by omega
              have hd : PL.drop (64 * k) = [] := by
                apply List.drop_eq_nil_of_le
                rw [hkN, HNN.out]
                exact Nat.le_refl _
              rw [hd, absorb_lt st (by simp)] at hab
              subst hab
              have hgs : gs < wr.heap.size := block_lt_of_cell (hrow 0 (by omega))
              have H6 : Hid (Row8 wr gs st ∧ Below w.heap.size w wr ∧ gs < wr.heap.size ∧ st.Ok) := ⟨hrow, hb, hgs, hok⟩
              have hmd := OwnB.made wr wr.heap.size (Nat.le_refl _)
              have hbd : Below wr.heap.size wr (wr.alloc (.cells #[] 5)) := (Below.refl _ _).alloc (Nat.le_refl _) _
              clear hrow hb hok hgs hd hkN hown HA
              go_wp2
              obtain ⟨wx, hwx⟩ : ∃ x, x = wr := ⟨_, rfl⟩
              subst hwx
              go_loopw [8, 9] (fun v i wr => ∃ k : Nat, k ≤ 8 ∧ i = .int .i64 k ∧ OwnB wr wx.heap.size v (out8 st k) ∧ Below wx.heap.size wx wr) (fun _ i _ => 8 - (RowKit.intOf i).toNat)
              case atStart => exact ⟨0, by omega, rfl, hmd, hbd⟩
              case round =>
                clear hmd hbd hk hlt
                rename_i k3
                obtain ⟨k, hk, rfl, hown, hb⟩ := hrel
                by_cases hlt : k < 8
                · have hc := (hb.cell (p := ⟨gs, k, none⟩) H6.out.2.2.1).trans (H6.out.1 k hlt)
                  have HS : Hid (out8 st (k + 1) = out8 st k ++ fourB (st.at k)) := out8_succ st k
                  have hl := out8_len st k
                  obtain ⟨p0, p1⟩ := H8.at_bd H6.out.2.2.2 k
                  generalize st.at k = x at *
                  have hll : (out8 st k).length ≤ 1073741824 := by omega
                  have hsz := hb.size
                  have Y0 : Hid (x / 16777216 = (UInt8.ofNat (x / 16777216 % 256).toNat).toNat) := by
                    show _ = _
                    rw [byte_mod]
                    omega
                  have Y1 : Hid (x / 65536 % 256 = (UInt8.ofNat (x / 65536 % 256).toNat).toNat) := (byte_mod _).symm
                  have Y2 : Hid (x / 256 % 256 = (UInt8.ofNat (x / 256 % 256).toNat).toNat) := (byte_mod _).symm
                  have Y3 : Hid (x % 256 = (UInt8.ofNat (x % 256).toNat).toNat) := (byte_mod _).symm
                  go_wp2_with (at_builtin; go_must (refine wp_app_four rfl (.tmp 62) (.tmp 74) rfl wx.heap.size _ (out8 st k) rfl hown (UInt8.ofNat (x / 16777216 % 256).toNat) (UInt8.ofNat (x / 65536 % 256).toNat) (UInt8.ofNat (x / 256 % 256).toNat) (UInt8.ofNat (x % 256).toNat) _ _ _ _ Y0.out Y1.out Y2.out Y3.out rfl hll hsz ?_); intro v1 w1 hown1 hb1)
                  go_roundw
                  case rel => exact ⟨k + 1, by omega, by go_num, by rw [HS.out]; exact hown1, hb.trans hb1⟩
                  case measure => simp [RowKit.intOf]; omega
                · have e8 : k = 8 := by omega
                  rw [e8] at hown
                  have hcv := own_conv hown
                  have HB : Hid (Below w.heap.size w wr) := H6.out.2.1.trans (hb.mono H6.out.2.1.size)
                  clear hown hb e8
                  go_wp2
                  go_ret
                  exact ⟨congrArg (fun z => Ending.returned (.string z)) HV.out.symm, HB.out⟩
end Go.Proofs.YtcenlgfopmahcaaGreatDoor
