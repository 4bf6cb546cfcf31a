/-
  The program's digest at its end: the last block is filled up, the eight numbers are laid out.
-/
import Derived.Test.YtchlopmmhcobdaaDoorTake
namespace Go.Proofs.YtchlopmmhcobdaaDoor
open Go.RowKit Go.Lib
set_option linter.unusedVariables false

set_option maxHeartbeats 1000000 in
set_option maxRecDepth 10000 in
theorem text_any (s : H8) (w : World) (hs : s.Ok) :
    Calls Tryd.prog 144 #[.agg s.cells] w fun e w' => e = .returned (.string ⟨(out8 s 8).toArray⟩) ∧ Below w.heap.size w w' := by
  have hw0 : (w.alloc (.cells s.cells 152)).heap[w.heap.size]? = some (.cells s.cells 152 (0, 0)) := heap_alloc_new w _
  obtain ⟨⟨c0, _⟩, ⟨c1, _⟩, ⟨c2, _⟩, ⟨c3, _⟩, ⟨c4, _⟩, ⟨c5, _⟩, ⟨c6, _⟩, ⟨c7, _⟩⟩ := eight_all' hw0
  have HI : Hid (∀ k, k < 8 → ∀ w, (Instr.index 152 (.agg s.cells) (.int .i64 (k : Nat))).run Tryd.prog w = .ok (.int .u32 (s.at k)) w) := fun k hk w => index8 s.at k hk w
  unfold H8.cells at *
  go_enter Tryd.func144, Tryd.ntmps144
  go_wp2
  go_loopw [3, 7] (fun v i wr => ∃ k : Nat, k ≤ 8 ∧ i = .int .i64 k ∧ OwnB wr w.heap.size v (out8 s k) ∧ Below w.heap.size w wr) (fun _ i _ => 8 - (intOf i).toNat)
  case atStart => exact ⟨0, by omega, rfl, OwnB.nil _ _, (Below.refl _ _).alloc (Nat.le_refl _) _⟩
  case round =>
    clear hw0 c0 c1 c2 c3 c4 c5 c6 c7
    obtain ⟨k, hk, rfl, hown, hb⟩ := hrel
    by_cases hlt : k < 8
    · have hi := HI.out k hlt
      have HS : Hid (out8 s (k + 1) = out8 s k ++ fourB (s.at k)) := out8_succ s k
      have hl := out8_len s k
      obtain ⟨p0, p1⟩ := H8.at_bd hs k
      generalize s.at k = x at *
      have hll : (out8 s k).length ≤ 1073741824 := by omega
      have hsz := hb.size
      have Y0 : Hid (x / 16777216 = (UInt8.ofNat (x / 16777216 % 256).toNat).toNat) := by
        show _ = _
        rw [byte_mod]
        omega
      have Y1 : Hid (x / 65536 % 256 = (UInt8.ofNat (x / 65536 % 256).toNat).toNat) := (byte_mod _).symm
      have Y2 : Hid (x / 256 % 256 = (UInt8.ofNat (x / 256 % 256).toNat).toNat) := (byte_mod _).symm
      have Y3 : Hid (x % 256 = (UInt8.ofNat (x % 256).toNat).toNat) := (byte_mod _).symm
      go_wp2_with (at_builtin; go_must (refine wp_app_four rfl (.tmp 10) (.tmp 22) rfl w.heap.size _ (out8 s k) rfl hown (UInt8.ofNat (x / 16777216 % 256).toNat) (UInt8.ofNat (x / 65536 % 256).toNat) (UInt8.ofNat (x / 256 % 256).toNat) (UInt8.ofNat (x % 256).toNat) _ _ _ _ Y0.out Y1.out Y2.out Y3.out rfl hll hsz ?_); intro v1 w1 hown1 hb1)
      go_roundw
      case rel => exact ⟨k + 1, by omega, by go_num, by rw [HS.out]; exact hown1, hb.trans hb1⟩
      case measure => simp [intOf]; omega
    · have e8 : k = 8 := by omega
      rw [e8] at hown
      have hcv := own_conv hown
      have HB : Hid (Below w.heap.size w wr) := hb
      clear hown hb e8 HI
      go_wp2
      go_ret
      exact ⟨rfl, HB.out⟩

theorem made_pad (w : World) (z : Nat) (hz : z ≤ 64) : ∃ w1, (Instr.makeSlice 22 (.int .i64 ((1 + z : Nat) : Int)) (.int .i64 ((1 + z : Nat) : Int))).run Tryd.prog w = .ok (.slice (some ⟨w.heap.size, 0, none⟩) (1 + z) (1 + z)) w1 ∧
    w1.cell? ⟨w.heap.size, 0, none⟩ = some (.int .u8 0) ∧ w1.frozen? ⟨w.heap.size, 0, none⟩ = false ∧ OwnB (w1.setCell ⟨w.heap.size, 0, none⟩ (.int .u8 128)) w.heap.size (.slice (some ⟨w.heap.size, 0, none⟩) (1 + z) (1 + z)) (128 :: List.replicate z 0) ∧ Below w.heap.size w w1 := by
  obtain ⟨i0, hi, hz0, hz1, hz2⟩ := info_parts infoByte
  obtain ⟨w1, hmk, hown, hgr⟩ := run_make_full (P := Tryd.prog) w w.heap.size 22 5 i0 (.int .u8 0) 1 Tryd.underlying22 hi hz0 hz1 .i64 .i64 (1 + z) (by rw [hz2]; omega) (by unfold maxLen; omega) (Nat.le_refl _)
  have e : (madeCells (Value.int .u8 0).cells ((1 + z) * 1)).toList = List.replicate (1 + z) (.int .u8 0) := by
    rw [Nat.mul_one]
    exact toList_madeCells_one _ _
  rw [e] at hown
  refine ⟨w1, hmk, ?_, hown.frozenAt 0, ?_, (Below.refl _ _).grown hgr (Nat.le_refl _) (fun k h => by cases h)⟩
  · rw [hown.cellAt 0 (by omega), Nat.add_comm, List.replicate_succ]
    rfl
  · have h := (hown.stored 0 (.int .u8 128)).1
    unfold OwnB
    have el : (128 :: List.replicate z 0 : List UInt8).length = 1 + z := by simp; omega
    have ec : byteCells (128 :: List.replicate z 0) = (List.replicate (1 + z) (Value.int .u8 0)).set 0 (.int .u8 128) := by
      rw [Nat.add_comm, List.replicate_succ, List.set_cons_zero]
      simp [byteCells]
    rw [el, ec]
    exact h

theorem eightB_len (n : Int) : (eightB n).length = 8 := rfl

set_option maxHeartbeats 4000000 in
set_option maxRecDepth 10000 in
theorem end_any (s : H8) (r : ByteArray) (n : Nat) (g : Nat) (w : World) (hs : s.Ok) (hr : r.size = n % 64) (hn : n ≤ 100000) (hK : Keys w) (hg : w.heap[g]? = some (.cells (hashObj s r n) 155 (0, 0))) (hgK : 2 < g) :
    Calls Tryd.prog 122 #[.pointer (some ⟨g, 0, none⟩)] w fun e w' => e = .returned (.string ⟨(out8 (absorb s (r.data.toList ++ padding n)) 8).toArray⟩) ∧ Below g w w' := by
  obtain ⟨hc8, hf8⟩ := hash_rest hg
  obtain ⟨hc9, hf9⟩ := hash_len hg
  have hgl : g < w.heap.size := (Array.getElem?_eq_some_iff.1 hg).1
  obtain ⟨z, hz⟩ : ∃ z, z = (119 - n % 64) % 64 := ⟨_, rfl⟩
  obtain ⟨w1, hmk, hm0, hm1, hown, hb1⟩ := made_pad w z (by omega)
  have hnum : ((1 + z : Nat) : Int) = (1 : Int) + (119 - (r.size : Int)) % 64 := by omega
  rw [hnum] at hmk
  have hr63 : r.size < 64 := by omega
  have hgc : w1.cell? ⟨g, 9, none⟩ = some (.int .u64 n) := (hb1.cell (p := ⟨g, 9, none⟩) hgl).trans hc9
  have hb2 : Below w.heap.size w (w1.setCell ⟨w.heap.size, 0, none⟩ (.int .u8 128)) := hb1.setCell (p := ⟨w.heap.size, 0, none⟩) (Nat.le_refl _) _
  have HP : Hid (128 :: List.replicate z 0 ++ eightB (n * 8) = padding n) := by
    show _ = _
    rw [hz]
    simp [padding, Int.mul_comm]
  obtain ⟨V, hV⟩ : ∃ V, V = out8 (absorb s (r.data.toList ++ padding n)) 8 := ⟨_, rfl⟩
  rw [← hV]
  have HG : Hid (V = out8 (absorb s (r.data.toList ++ padding n)) 8 ∧ s.Ok ∧ Keys w ∧ w.heap[g]? = some (.cells (hashObj s r n) 155 (0, 0)) ∧ 2 < g ∧ r.size = n % 64 ∧ z = (119 - n % 64) % 64 ∧ OwnB (w1.setCell ⟨w.heap.size, 0, none⟩ (.int .u8 128)) w.heap.size (.slice (some ⟨w.heap.size, 0, none⟩) (1 + z) (1 + z)) (128 :: List.replicate z 0) ∧ Below w.heap.size w (w1.setCell ⟨w.heap.size, 0, none⟩ (.int .u8 128))) := ⟨hV, hs, hK, hg, hgK, hr, hz, hown, hb2⟩
  have hz64 : z ≤ 64 := by omega
  clear hV hs hK hg hgK hr hz hown hb2 hb1 hnum hf8 hf9
  go_enter Tryd.func122, Tryd.ntmps122
  go_wp2
  have hm8 : (0 : Int) ≤ (n : Int) * 8 := by omega
  have hm9 : (n : Int) * 8 < 18446744073709551616 := by omega
  generalize (n : Int) * 8 = m at *
  go_loopw [4, 6] (fun v i wr => ∃ k : Nat, k ≤ 8 ∧ i = .int .i64 (56 - 8 * (k : Int)) ∧ OwnB wr w.heap.size v (128 :: List.replicate z 0 ++ (eightB m).take k) ∧ Below w.heap.size w wr) (fun _ i _ => (intOf i + 8).toNat)
  case atStart => exact ⟨0, by omega, rfl, by simpa using HG.out.2.2.2.2.2.2.2.1, HG.out.2.2.2.2.2.2.2.2⟩
  case round =>
    clear hm0 hm1 hgc hmk
    obtain ⟨k, hk, rfl, hown, hb⟩ := hrel
    have hsz := hb.size
    by_cases hlt : k < 8
    · have hll : (128 :: List.replicate z 0 ++ (eightB m).take k).length ≤ 1073741824 := by simp; omega
      have hk8 : k = 0 ∨ k = 1 ∨ k = 2 ∨ k = 3 ∨ k = 4 ∨ k = 5 ∨ k = 6 ∨ k = 7 := by omega
      clear hc8 hc9 hgl HG HP
      rcases hk8 with rfl | rfl | rfl | rfl | rfl | rfl | rfl | rfl
      · have Y : Hid (m / 72057594037927936 = (UInt8.ofNat (m / 72057594037927936 % 256).toNat).toNat) := by
          show _ = _
          rw [byte_mod]
          omega
        go_wp2_with (at_builtin; go_must (refine wp_app_byte rfl (.tmp 28) (.tmp 33) rfl w.heap.size _ _ rfl hown _ _ Y.out rfl hll hsz ?_); intro v1 w1 hown1 hb1)
        go_roundw
        case rel => exact ⟨1, by omega, by go_num, by rw [List.append_assoc] at hown1; exact hown1, hb.trans hb1⟩
        case measure => simp [intOf]
      · have Y : Hid (m / 281474976710656 % 256 = (UInt8.ofNat (m / 281474976710656 % 256).toNat).toNat) := (byte_mod _).symm
        go_wp2_with (at_builtin; go_must (refine wp_app_byte rfl (.tmp 28) (.tmp 33) rfl w.heap.size _ _ rfl hown _ _ Y.out rfl hll hsz ?_); intro v1 w1 hown1 hb1)
        go_roundw
        case rel => exact ⟨2, by omega, by go_num, by rw [List.append_assoc] at hown1; exact hown1, hb.trans hb1⟩
        case measure => simp [intOf]
      · have Y : Hid (m / 1099511627776 % 256 = (UInt8.ofNat (m / 1099511627776 % 256).toNat).toNat) := (byte_mod _).symm
        go_wp2_with (at_builtin; go_must (refine wp_app_byte rfl (.tmp 28) (.tmp 33) rfl w.heap.size _ _ rfl hown _ _ Y.out rfl hll hsz ?_); intro v1 w1 hown1 hb1)
        go_roundw
        case rel => exact ⟨3, by omega, by go_num, by rw [List.append_assoc] at hown1; exact hown1, hb.trans hb1⟩
        case measure => simp [intOf]
      · have Y : Hid (m / 4294967296 % 256 = (UInt8.ofNat (m / 4294967296 % 256).toNat).toNat) := (byte_mod _).symm
        go_wp2_with (at_builtin; go_must (refine wp_app_byte rfl (.tmp 28) (.tmp 33) rfl w.heap.size _ _ rfl hown _ _ Y.out rfl hll hsz ?_); intro v1 w1 hown1 hb1)
        go_roundw
        case rel => exact ⟨4, by omega, by go_num, by rw [List.append_assoc] at hown1; exact hown1, hb.trans hb1⟩
        case measure => simp [intOf]
      · have Y : Hid (m / 16777216 % 256 = (UInt8.ofNat (m / 16777216 % 256).toNat).toNat) := (byte_mod _).symm
        go_wp2_with (at_builtin; go_must (refine wp_app_byte rfl (.tmp 28) (.tmp 33) rfl w.heap.size _ _ rfl hown _ _ Y.out rfl hll hsz ?_); intro v1 w1 hown1 hb1)
        go_roundw
        case rel => exact ⟨5, by omega, by go_num, by rw [List.append_assoc] at hown1; exact hown1, hb.trans hb1⟩
        case measure => simp [intOf]
      · have Y : Hid (m / 65536 % 256 = (UInt8.ofNat (m / 65536 % 256).toNat).toNat) := (byte_mod _).symm
        go_wp2_with (at_builtin; go_must (refine wp_app_byte rfl (.tmp 28) (.tmp 33) rfl w.heap.size _ _ rfl hown _ _ Y.out rfl hll hsz ?_); intro v1 w1 hown1 hb1)
        go_roundw
        case rel => exact ⟨6, by omega, by go_num, by rw [List.append_assoc] at hown1; exact hown1, hb.trans hb1⟩
        case measure => simp [intOf]
      · have Y : Hid (m / 256 % 256 = (UInt8.ofNat (m / 256 % 256).toNat).toNat) := (byte_mod _).symm
        go_wp2_with (at_builtin; go_must (refine wp_app_byte rfl (.tmp 28) (.tmp 33) rfl w.heap.size _ _ rfl hown _ _ Y.out rfl hll hsz ?_); intro v1 w1 hown1 hb1)
        go_roundw
        case rel => exact ⟨7, by omega, by go_num, by rw [List.append_assoc] at hown1; exact hown1, hb.trans hb1⟩
        case measure => simp [intOf]
      · have Y : Hid (m % 256 = (UInt8.ofNat (m % 256).toNat).toNat) := (byte_mod _).symm
        go_wp2_with (at_builtin; go_must (refine wp_app_byte rfl (.tmp 28) (.tmp 33) rfl w.heap.size _ _ rfl hown _ _ Y.out rfl hll hsz ?_); intro v1 w1 hown1 hb1)
        go_roundw
        case rel => exact ⟨8, by omega, by go_num, by rw [List.append_assoc] at hown1; exact hown1, hb.trans hb1⟩
        case measure => simp [intOf]
    · have e8 : k = 8 := by omega
      have hcv := own_conv hown
      have HO : Hid ((128 :: List.replicate z 0 ++ (eightB m).take k) = padding n) := by
        show _ = _
        rw [e8, ← HP.out]
        rfl
      rw [HO.out] at hcv
      have hbg : Below g w wr := hb.mono (Nat.le_of_lt hgl)
      have hgr : wr.heap[g]? = some (.cells (hashObj s r n) 155 (0, 0)) := (hb.block g hgl).trans HG.out.2.2.2.1
      have hKr : Keys wr := HG.out.2.2.1.below hbg HG.out.2.2.2.2.1
      have hpl : (⟨(padding n).toArray⟩ : ByteArray).size = (padding n).length := by simp [ByteArray.size]
      have hlen := padding_len n
      have hre : rest (r ++ ⟨(padding n).toArray⟩).data.toList = [] := by
        apply List.eq_nil_of_length_eq_zero
        rw [rest_len, ba_len, ByteArray.size_append, hpl, hlen, HG.out.2.2.2.2.2.1]
        omega
      have hap : (r ++ (⟨(padding n).toArray⟩ : ByteArray)).data.toList = r.data.toList ++ padding n := by simp [ByteArray.data_append]
      have E := take_any s r ⟨(padding n).toArray⟩ n g wr HG.out.2.1 (by omega) (by omega) hKr hgr HG.out.2.2.2.2.1 ByteArray.empty (by rw [hre]; rfl)
      rw [hap] at E
      have hok := absorb_ok HG.out.2.1 (r.data.toList ++ padding n)
      have HV := HG.out.1
      generalize absorb s (r.data.toList ++ padding n) = A at *
      have HE : Hid (Calls Tryd.prog 143 #[.pointer (some ⟨g, 0, none⟩), .string ⟨(padding n).toArray⟩] wr fun e w' => e = .returned (.tuple #[]) ∧ w'.heap[g]? = some (.cells (hashObj A ByteArray.empty n) 155 (0, 0)) ∧ Below g wr w') := E
      have H1 : Hid (Below g w wr ∧ A.Ok ∧ V = out8 A 8) := ⟨hbg, hok, HV⟩
      clear E hok HV hap hre hpl hlen hKr hgr hbg HO HG HP hown hb e8 hc8 hc9
      go_wp2_with fail
      refine HE.out.mono ?_
      rintro e w2 ⟨rfl, hg2, hb2⟩
      have HT : Hid (∀ w, Calls Tryd.prog 144 #[.agg A.cells] w fun e w' => e = .returned (.string ⟨V.toArray⟩) ∧ Below w.heap.size w w') := by
        intro w
        rw [H1.out.2.2]
        exact text_any A w H1.out.2.1
      unfold H8.cells at HT
      obtain ⟨⟨c0, _⟩, ⟨c1, _⟩, ⟨c2, _⟩, ⟨c3, _⟩, ⟨c4, _⟩, ⟨c5, _⟩, ⟨c6, _⟩, ⟨c7, _⟩⟩ := eight_all hg2
      have H2 : Hid (Below g w w2 ∧ g ≤ w2.heap.size) := ⟨H1.out.1.trans hb2, Nat.le_of_lt (Array.getElem?_eq_some_iff.1 hg2).1⟩
      clear hb2 hg2 HE
      go_wp2_with fail
      refine (HT.out _).mono ?_
      rintro e w3 ⟨rfl, hb3⟩
      have H3 : Hid (Below g w w3) := H2.out.1.trans (hb3.mono H2.out.2)
      clear hb3 c0 c1 c2 c3 c4 c5 c6 c7
      go_wp2
      go_ret
      exact ⟨rfl, H3.out⟩
end Go.Proofs.YtchlopmmhcobdaaDoor
