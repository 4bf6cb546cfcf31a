/-
  Entries that are right, as a rule: the document's draw of rows of texts.
-/
import Derived.Test.YtpglcbidfghfkaaGreatDoorPkDrawTree
import Derived.Test.YtpglcbidfghfkaaGreatDoorPkTextRows
import Derived.Laws.Concat
namespace Go.Proofs.YtpglcbidfghfkaaGreatDoor
open Go.RowKit Go.Lib
set_option linter.unusedVariables false

/-- In between: a row of the draw's own, and the source. -/
def St (w : World) (q : Nat) (wr : World) (v : Value) (l : List ByteArray) : Prop := OwnT wr w.heap.size v l ∧ Src wr q ∧ w.grownBy wr (some q) ∧ ∀ t ∈ l, t.size ≤ 101
theorem St.grow {w wr w2 : World} {q : Nat} {v : Value} {l : List ByteArray} (h : St w q wr v l) (hq : q < w.heap.size) (hg : wr.grownBy w2 (some q)) (hs : Src w2 q) : St w q w2 v l := ⟨h.1.grown hg hq, hs, grown_trans h.2.2.1 hg, h.2.2.2⟩
theorem St.below {w wr w2 : World} {q : Nat} {v : Value} {l : List ByteArray} (h : St w q wr v l) (hb : Below wr.heap.size wr w2) : St w q w2 v l :=
  ⟨h.1.below hb (Nat.le_refl _), h.2.1.below hb h.2.1.lt, grown_below h.2.2.1 (hb.mono h.2.2.1.size), h.2.2.2⟩
theorem St.snoc {w wr w2 : World} {q : Nat} {v v2 : Value} {l : List ByteArray} {t : ByteArray} (h : St w q wr v l) (hq : q < w.heap.size) (ht : t.size ≤ 101) (ho : OwnT w2 w.heap.size v2 (l ++ [t])) (hb : Below w.heap.size wr w2) : St w q w2 v2 (l ++ [t]) :=
  ⟨ho, h.2.1.below hb hq, grown_below h.2.2.1 hb, fun u hu => by
    rcases List.mem_append.1 hu with hu | hu
    · exact h.2.2.2 u hu
    · rw [List.mem_singleton.1 hu]; exact ht⟩
theorem Src.size {w : World} {q : Nat} (h : Src w q) : ∃ sz : Int, 0 ≤ sz ∧ sz ≤ 12 ∧ w.cell? ⟨q, 3, none⟩ = some (.int .i64 sz) := by
  obtain ⟨a, len, cap, k, mix, sz, hh, _, _, _, _, h0, h1, _⟩ := h
  exact ⟨sz, h0, h1, by simp [World.cell?, hh]⟩
def pick4 : List ByteArray := [⟨#[97]⟩, ⟨#[98]⟩, ⟨#[]⟩, ⟨#[101, 110, 116, 114, 121]⟩]
theorem four_small {t : ByteArray} (h : t ∈ pick4) : t.size ≤ 5 := by
  simp [pick4] at h
  rcases h with rfl | rfl | rfl | rfl <;> decide

set_option maxHeartbeats 2000000 in
set_option maxRecDepth 10000 in
theorem some_any (q : Nat) (w : World) (h : Src w q) :
    Calls Tryz.prog 58 #[.pointer (some ⟨q, 0, none⟩)] w fun e w' => SomeAns 101 q w e w' := by
  have hq : q < w.heap.size := h.lt
  have EN : Hid (∀ m w', Src w' q → m ≤ 1000 → Calls Tryz.prog 56 #[.pointer (some ⟨q, 0, none⟩), .int .i64 m] w' fun e w'' => NumAns m q w' e w'') := fun m w' h hm => n_any q m w' h (by omega)
  have EO : Hid (∀ w', Src w' q → Calls Tryz.prog 59 #[.pointer (some ⟨q, 0, none⟩), .int .i64 25] w' fun e w'' => BoolAns q w' e w'') := fun w' h => one_any q 25 w' h (by omega)
  have EB : Hid (∀ m w', Src w' q → 0 ≤ m → m ≤ 1000 → Calls Tryz.prog 136 #[.pointer (some ⟨q, 0, none⟩), .int .i64 m] w' fun e w'' => StrAns m q w' e w'') := fun m w' h h0 h1 => bytes_any q m w' h h0 (by omega)
  have EP : Hid (∀ w', Src w' q → Calls Tryz.prog 57 #[.pointer (some ⟨q, 0, none⟩), .slice (some ⟨w'.heap.size, 0, none⟩) 4 4] (w'.alloc (.cells #[.string ⟨#[97]⟩, .string ⟨#[98]⟩, .string ⟨#[]⟩, .string ⟨#[101, 110, 116, 114, 121]⟩] 9)) fun e w'' => PickAns pick4 q (w'.alloc (.cells #[.string ⟨#[97]⟩, .string ⟨#[98]⟩, .string ⟨#[]⟩, .string ⟨#[101, 110, 116, 114, 121]⟩] 9)) e w'') := fun w' h => pick_any q w'.heap.size pick4 _ (h.below ((Below.refl _ _).alloc (Nat.le_refl _) _) h.lt) (by simp [pick4]) (by simp [pick4]) h.lt (four_texts w' _ _ _ _)
  have hal : Below w.heap.size w (w.alloc (.cells #[] 9)) := (Below.refl _ _).alloc (Nat.le_refl _) _
  have hs0 : Src (w.alloc (.cells #[] 9)) q := h.below hal h.lt
  obtain ⟨sz, z0, z1, hsz⟩ := hs0.size
  have HS0 : Hid (St w q (w.alloc (.cells #[] 9)) (.slice (some ⟨w.heap.size, 0, none⟩) 0 0) []) := ⟨OwnT.made w w.heap.size (Nat.le_refl _), hs0, ⟨hal.os, hal.tape, hal.output, hal.size, fun k hk _ => hal.block k hk⟩, fun t ht => by simp at ht⟩
  clear hal hs0 h
  go_enter Tryz.func58, Tryz.ntmps58
  go_wp2_with fail
  refine (EN.out _ _ HS0.out.2.1 (by omega)).mono ?_
  rintro e w1 ⟨v, rfl, hv0, hv1, hs1, hg1⟩
  have HS1 : Hid (St w q w1 (.slice (some ⟨w.heap.size, 0, none⟩) 0 0) []) := HS0.out.grow hq hg1 hs1
  have hv30 : v ≤ 30 := by omega
  clear hs1 hg1 HS0 hsz hv1
  go_wp2
  go_loopw [3, 4] (fun x i wr => ∃ (l : List ByteArray) (k : Int), i = .int .i64 k ∧ 0 ≤ k ∧ (l.length : Int) + k ≤ 30 ∧ St w q wr x l) (fun _ i _ => (RowKit.intOf i).toNat)
  case atStart => exact ⟨[], v, rfl, hv0, by simp; omega, HS1.out⟩
  case round =>
    obtain ⟨l, k, rfl, hk0, hlk, hst⟩ := hrel
    have HS : Hid (St w q wr u3 l) := hst
    clear hst HS1
    by_cases hk : 0 < k
    · go_wp2_with fail
      refine (EP.out _ HS.out.2.1).mono ?_
      rintro e w2 ⟨t1, rfl, ht1, hs2, hg2⟩
      have HS2 : Hid (St w q w2 u3 l ∧ t1.size ≤ 5) := ⟨(HS.out.below ((Below.refl _ _).alloc (Nat.le_refl _) _)).grow hq hg2 hs2, four_small ht1⟩
      clear hs2 hg2 ht1
      go_wp2_with fail
      refine (EN.out _ _ HS2.out.1.2.1 (by omega)).mono ?_
      rintro e w3 ⟨y, rfl, hy0, hy1, hs3, hg3⟩
      have HS3 : Hid (St w q w3 u3 l) := HS2.out.1.grow hq hg3 hs3
      clear hs3 hg3
      go_wp2_with fail
      refine (EB.out _ _ HS3.out.2.1 hy0 (by omega)).mono ?_
      rintro e w4 ⟨t2, rfl, ht2, hs4, hg4⟩
      have HS4 : Hid (St w q w4 u3 l) := HS3.out.grow hq hg4 hs4
      have z5 : t1.size ≤ 5 := HS2.out.2
      have z6 : t2.size ≤ 1 := by omega
      have HT : Hid ((t1 ++ t2).size ≤ 101) := by
        show _ ≤ _
        rw [ByteArray.size_append]; omega
      have hown := HS4.out.1
      have hszw := HS4.out.2.2.1.size
      have hll : l.length ≤ 1048576 := by omega
      clear hs4 hg4 ht2
      go_wp2_with (at_builtin; go_must (refine wp_app_text rfl (.tmp 18) (.tmp 27) rfl w.heap.size _ _ rfl hown (t1 ++ t2) rfl hll hszw ?_); intro v5 w5 hown5 hb5)
      go_roundw
      case rel => exact ⟨l ++ [t1 ++ t2], k - 1, by go_num, by omega, by simp; omega, HS4.out.snoc hq HT.out hown5 hb5⟩
      case measure => simp [RowKit.intOf]; omega
    · go_wp2_with fail
      refine (EO.out _ HS.out.2.1).mono ?_
      rintro e w2 ⟨b, rfl, hs2, hg2⟩
      have HS2 : Hid (St w q w2 u3 l) := HS.out.grow hq hg2 hs2
      clear hs2 hg2
      cases b with
      | false =>
        go_wp2
        go_ret
        exact ⟨_, l, rfl, HS2.out.1, by omega, HS2.out.2.2.2, HS2.out.2.1, HS2.out.2.2.1⟩
      | true =>
        go_wp2_with fail
        refine (EN.out _ _ HS2.out.2.1 (by omega)).mono ?_
        rintro e w3 ⟨y, rfl, hy0, hy1, hs3, hg3⟩
        have HS3 : Hid (St w q w3 u3 l) := HS2.out.grow hq hg3 hs3
        obtain ⟨m, rfl⟩ := Int.eq_ofNat_of_zero_le hy0
        obtain ⟨w6, hmk, hcv, hb6⟩ := make_zeros w3 (100 + m) (by omega)
        rw [show ((100 + m : Nat) : Int) = 100 + (m : Int) from by omega] at hmk
        have HS6 : Hid (St w q w6 u3 l) := HS3.out.below hb6
        have HT : Hid ((⟨(List.replicate (100 + m) 0).toArray⟩ : ByteArray).size ≤ 101) := by
          show _ ≤ _
          simp [ByteArray.size]; omega
        generalize (⟨(List.replicate (100 + m) 0).toArray⟩ : ByteArray) = t at *
        have hown := HS6.out.1
        have hszw := HS6.out.2.2.1.size
        have hll : l.length ≤ 1048576 := by omega
        clear hs3 hg3 hb6
        go_wp2_with (at_builtin; go_must (refine wp_app_text rfl (.tmp 31) (.tmp 37) rfl w.heap.size _ _ rfl hown t rfl hll hszw ?_); intro v5 w5 hown5 hb5)
        have HS7 := HS6.out.snoc hq HT.out hown5 hb5
        go_ret
        exact ⟨_, l ++ [t], rfl, HS7.1, by simp; omega, HS7.2.2.2, HS7.2.1, HS7.2.2.1⟩
end Go.Proofs.YtpglcbidfghfkaaGreatDoor

/-
  The draws of chapter 6: entries of a log.
-/
namespace Go.Proofs.YtpglcbidfghfkaaGreatDoor
open Go.RowKit Go.Lib
set_option linter.unusedVariables false
set_option linter.unusedSimpArgs false

theorem conv_letter (w : World) (y : Int) (c : UInt8) (hy : y = c.toNat) : (convert 22 9 (.slice (some ⟨w.heap.size, 0, none⟩) 1 1)).run Tryz.prog (w.alloc (.cells #[.int .u8 y] 5)) = .ok (.string ⟨#[c]⟩) (w.alloc (.cells #[.int .u8 y] 5)) := by
  have := conv_text (w.alloc (.cells #[.int .u8 y] 5)) w.heap.size 1 1 [c] #[.int .u8 y] 5 (0, 0) (heap_alloc_new w _) (by subst hy; simp [byteCells]) rfl
  exact this
/-- A text of one letter; nothing that was there has turned. -/
def DecAns (w : World) (e : Ending) (w' : World) : Prop := ∃ t : ByteArray, e = .returned (.string t) ∧ t.size ≤ 1 ∧ Below w.heap.size w w'
set_option maxHeartbeats 1000000 in
set_option maxRecDepth 10000 in
theorem dec_one (n : Int) (c : UInt8) (w : World) (h0 : 0 < n) (h1 : n < 10) (hc : 48 + n = c.toNat) :
    Calls Tryz.prog 169 #[.int .i64 n] w fun e w' => DecAns w e w' := by
  have a1 : n % 10 = n := by omega
  have a2 : n / 10 = 0 := by omega
  have a3 : n.tmod 10 = n := by rw [Int.tmod_eq_emod_of_nonneg (by omega)]; omega
  have a4 : n.tdiv 10 = 0 := by rw [Int.tdiv_eq_ediv_of_nonneg (by omega)]; omega
  have a5 : (48 + n) % 256 = 48 + n := by omega
  have k1 := conv_letter w (c.toNat : Int) c rfl
  have k2 := conv_letter w.drew (c.toNat : Int) c rfl
  have b1 : ¬ n = 0 := by omega
  have b2 : ¬ n < 0 := by omega
  have b3 : (n == 0) = false := by simpa using b1
  have b4 : (n != 0) = true := by simpa using b1
  go_enter Tryz.func169, Tryz.ntmps169
  go_wp2
  refine wp_loop_rounds 2 ?_
  rw [rounds_succ]
  go_wp2
  rw [rounds_succ]
  go_wp2
  go_ret
  exact ⟨_, rfl, Nat.le_refl _, (Below.refl _ _).alloc (Nat.le_refl _) _⟩
theorem dec_zero (w : World) : Calls Tryz.prog 169 #[.int .i64 0] w fun e w' => DecAns w e w' := by
  go_enter Tryz.func169, Tryz.ntmps169
  go_wp2
  go_ret
  exact ⟨_, rfl, by decide, Below.refl _ _⟩
theorem dec_any (k : Nat) (w : World) (h : k ≤ 8) : Calls Tryz.prog 169 #[.int .i64 (k : Int)] w fun e w' => DecAns w e w' := by
  have hk : k = 0 ∨ k = 1 ∨ k = 2 ∨ k = 3 ∨ k = 4 ∨ k = 5 ∨ k = 6 ∨ k = 7 ∨ k = 8 := by omega
  rcases hk with rfl | rfl | rfl | rfl | rfl | rfl | rfl | rfl | rfl
  · exact dec_zero w
  · exact dec_one 1 49 w (by decide) (by decide) (by decide)
  · exact dec_one 2 50 w (by decide) (by decide) (by decide)
  · exact dec_one 3 51 w (by decide) (by decide) (by decide)
  · exact dec_one 4 52 w (by decide) (by decide) (by decide)
  · exact dec_one 5 53 w (by decide) (by decide) (by decide)
  · exact dec_one 6 54 w (by decide) (by decide) (by decide)
  · exact dec_one 7 55 w (by decide) (by decide) (by decide)
  · exact dec_one 8 56 w (by decide) (by decide) (by decide)
/-- Nine entries, in a row of the draw's own; the source stays one, and nothing else has turned. -/
def LogAns (q : Nat) (w : World) (e : Ending) (w' : World) : Prop := ∃ v l, e = .returned v ∧ OwnT w' w.heap.size v l ∧ l.length = 9 ∧ (∀ t ∈ l, t.size ≤ 101) ∧ Src w' q ∧ w.grownBy w' (some q)
theorem letter_small {t : ByteArray} {c : UInt8} (h : t.size ≤ 1) : ((⟨#[c]⟩ : ByteArray) ++ t).size ≤ 101 := by
  rw [ByteArray.size_append]
  have e : (⟨#[c]⟩ : ByteArray).size = 1 := rfl
  omega

set_option maxHeartbeats 4000000 in
set_option maxRecDepth 10000 in
theorem log_any (q : Nat) (w : World) (h : Src w q) :
    Calls Tryz.prog 105 #[.pointer (some ⟨q, 0, none⟩)] w fun e w' => LogAns q w e w' := by
  have hq : q < w.heap.size := h.lt
  have EO : Hid (∀ w', Src w' q → Calls Tryz.prog 59 #[.pointer (some ⟨q, 0, none⟩), .int .i64 4] w' fun e w'' => BoolAns q w' e w'') := fun w' h => one_any q 4 w' h (by omega)
  have ED : Hid (∀ (k : Nat) w', k ≤ 8 → Calls Tryz.prog 169 #[.int .i64 (k : Int)] w' fun e w'' => DecAns w' e w'') := fun k w' hk => dec_any k w' hk
  have hal : Below w.heap.size w (w.alloc (.cells #[] 9)) := (Below.refl _ _).alloc (Nat.le_refl _) _
  have HS0 : Hid (St w q (w.alloc (.cells #[] 9)) (.slice (some ⟨w.heap.size, 0, none⟩) 0 0) []) := ⟨OwnT.made w w.heap.size (Nat.le_refl _), h.below hal h.lt, ⟨hal.os, hal.tape, hal.output, hal.size, fun k hk _ => hal.block k hk⟩, fun t ht => by simp at ht⟩
  clear hal h
  go_enter Tryz.func105, Tryz.ntmps105
  go_wp2_with fail
  refine (EO.out _ HS0.out.2.1).mono ?_
  rintro e w1 ⟨b, rfl, hs1, hg1⟩
  have HS1 : Hid (St w q w1 (.slice (some ⟨w.heap.size, 0, none⟩) 0 0) []) := HS0.out.grow hq hg1 hs1
  clear hs1 hg1 HS0 EO
  go_wp2
  go_loopw [3, 5] (fun x i wr => ∃ (l : List ByteArray) (k : Nat), i = .int .i64 (k : Int) ∧ k ≤ 9 ∧ l.length = k ∧ St w q wr x l) (fun _ i _ => 9 - (RowKit.intOf i).toNat)
  case atStart => exact ⟨[], 0, rfl, by omega, rfl, HS1.out⟩
  case round =>
    obtain ⟨l, k, rfl, hk9, hlk, hst⟩ := hrel
    have HS : Hid (St w q wr u3 l ∧ l.length = k) := ⟨hst, hlk⟩
    clear hst HS1 hlk
    by_cases hk : k < 9
    · have hkI : (k : Int) < 9 := by omega
      go_wp2_with fail
      refine (ED.out k _ (by omega)).mono ?_
      rintro e w2 ⟨t1, rfl, ht1, hb2⟩
      have HS2 : Hid (St w q w2 u3 l) := HS.out.1.below hb2
      have HT1 : Hid (((⟨#[101]⟩ : ByteArray) ++ t1).size ≤ 101) := letter_small ht1
      have hv1 : ¬ 9223372036854775807 < (⟨#[101]⟩ : ByteArray).size + t1.size := by have e : (⟨#[101]⟩ : ByteArray).size = 1 := rfl; omega
      have hv1' : ¬ 9223372036854775807 < 1 + t1.size := by omega
      clear hb2 ht1
      by_cases hk4 : 4 < k ∧ b = true
      · obtain ⟨hk4, rfl⟩ := hk4
        have hk4I : (4 : Int) < (k : Int) := by omega
        go_wp2_with fail
        refine (ED.out k _ (by omega)).mono ?_
        rintro e w3 ⟨t2, rfl, ht2, hb3⟩
        have HS3 : Hid (St w q w3 u3 l) := HS2.out.below hb3
        have HT2 : Hid (((⟨#[102]⟩ : ByteArray) ++ t2).size ≤ 101) := letter_small ht2
        have hv2 : ¬ 9223372036854775807 < (⟨#[102]⟩ : ByteArray).size + t2.size := by have e : (⟨#[102]⟩ : ByteArray).size = 1 := rfl; omega
        have hv2' : ¬ 9223372036854775807 < 1 + t2.size := by omega
        have hown := HS3.out.1
        have hszw := HS3.out.2.2.1.size
        have hll : l.length ≤ 1048576 := by have := HS.out.2; omega
        clear hb3 ht2
        go_wp2_with (at_builtin; go_must (refine wp_app_text rfl (.tmp 25) (.tmp 27) rfl w.heap.size _ _ rfl hown _ rfl hll hszw ?_); intro v5 w5 hown5 hb5)
        go_roundw
        case rel => exact ⟨l ++ [_], k + 1, by go_num, by omega, by rw [List.length_append]; have := HS.out.2; simp; omega, HS3.out.snoc hq HT2.out hown5 hb5⟩
        case measure => simp [RowKit.intOf]; omega
      · have hown := HS2.out.1
        have hszw := HS2.out.2.2.1.size
        have hll : l.length ≤ 1048576 := by have := HS.out.2; omega
        cases b with
        | false =>
          clear hk4
          go_wp2_with (at_builtin; go_must (refine wp_app_text rfl (.tmp 25) (.tmp 27) rfl w.heap.size _ _ rfl hown _ rfl hll hszw ?_); intro v5 w5 hown5 hb5)
          go_roundw
          case rel => exact ⟨l ++ [_], k + 1, by go_num, by omega, by rw [List.length_append]; have := HS.out.2; simp; omega, HS2.out.snoc hq HT1.out hown5 hb5⟩
          case measure => simp [RowKit.intOf]; omega
        | true =>
          have hk4I : ¬ (4 : Int) < (k : Int) := by simp at hk4; omega
          clear hk4
          go_wp2_with (at_builtin; go_must (refine wp_app_text rfl (.tmp 25) (.tmp 27) rfl w.heap.size _ _ rfl hown _ rfl hll hszw ?_); intro v5 w5 hown5 hb5)
          go_roundw
          case rel => exact ⟨l ++ [_], k + 1, by go_num, by omega, by rw [List.length_append]; have := HS.out.2; simp; omega, HS2.out.snoc hq HT1.out hown5 hb5⟩
          case measure => simp [RowKit.intOf]; omega
    · have hkI : ¬ (k : Int) < 9 := by omega
      go_wp2
      go_ret
      exact ⟨_, l, rfl, HS.out.1.1, by have := HS.out.2; omega, HS.out.1.2.2.2, HS.out.1.2.1, HS.out.1.2.2.1⟩
end Go.Proofs.YtpglcbidfghfkaaGreatDoor

/-
  The document's draw that spoils a list of digests.
-/
namespace Go.Proofs.YtpglcbidfghfkaaGreatDoor
open Go.RowKit Go.Lib
set_option linter.unusedVariables false

/-- A row of texts of at most 32 bytes, of the draw's own, or a part of one. -/
def SpoilAns (q n : Nat) (w : World) (e : Ending) (w' : World) : Prop := ∃ v l, e = .returned v ∧ Texts w' w'.heap.size v l ∧ l.length ≤ n + 1 ∧ (∀ t ∈ l, t.size ≤ 32) ∧ Src w' q ∧ w.grownBy w' (some q)
def DigAns (w : World) (e : Ending) (w' : World) : Prop := ∃ d : ByteArray, e = .returned (.string d) ∧ d.size ≤ 32 ∧ Below w.heap.size w w'

set_option maxHeartbeats 2000000 in
set_option maxRecDepth 10000 in
theorem spoil_any (q : Nat) (v : Value) (l : List ByteArray) (w : World) (h : Src w q) (ht : Texts w w.heap.size v l) (hl : l.length ≤ 100) (hz : ∀ t ∈ l, t.size = 32)
    (ED : Hid (∀ s w', Calls Tryz.prog 165 #[.string ⟨#[s]⟩] w' fun e w'' => DigAns w' e w'')) :
    Calls Tryz.prog 210 #[.pointer (some ⟨q, 0, none⟩), v] w fun e w' => SpoilAns q l.length w e w' := by
  have hq : q < w.heap.size := h.lt
  have EN : Hid (∀ m w', Src w' q → m ≤ 1000 → Calls Tryz.prog 56 #[.pointer (some ⟨q, 0, none⟩), .int .i64 m] w' fun e w'' => NumAns m q w' e w'') := fun m w' h hm => n_any q m w' h (by omega)
  have hal : Below w.heap.size w (w.alloc (.cells #[] 9)) := (Below.refl _ _).alloc (Nat.le_refl _) _
  have hown0 := OwnT.made w w.heap.size (Nat.le_refl _)
  have hT0 : Texts (w.alloc (.cells #[] 9)) (w.alloc (.cells #[] 9)).heap.size v l := (ht.below hal).up hal.size
  have hsz0 : w.heap.size ≤ (w.alloc (.cells #[] 9)).heap.size := hal.size
  have hml : l.length ≤ 1048577 := by omega
  have HAL : Hid (Below w.heap.size w (w.alloc (.cells #[] 9))) := hal
  have HS : Hid (Src w q) := h
  have HZ : Hid (∀ t ∈ l, t.size = 32) := hz
  obtain ⟨a, cap, rfl, hx, hy⟩ := id ht
  clear hx hy hal h hz ht
  go_enter Tryz.func210, Tryz.ntmps210
  go_wp2_with (at_builtin; go_must (refine wp_app_texts rfl (.tmp 6) (.tmp 7) rfl w.heap.size _ _ [] l rfl hown0 rfl hT0 (by simp) hml hsz0 ?_); intro v1 w1 hown1 hb1)
  rw [List.nil_append] at hown1
  have H1 : Hid (OwnT w1 w.heap.size v1 l ∧ Src w1 q ∧ w.grownBy w1 (some q)) := by
    have hb := HAL.out.trans hb1
    exact ⟨hown1, HS.out.below hb hq, ⟨hb.os, hb.tape, hb.output, hb.size, fun k hk _ => hb.block k hk⟩⟩
  clear hown1 hb1 hown0 hT0 hsz0 HAL HS
  refine (EN.out _ _ H1.out.2.1 (by omega)).mono ?_
  rintro e w2 ⟨x, rfl, hx0, hx1, hs2, hg2⟩
  have H2 : Hid (OwnT w2 w.heap.size v1 l ∧ Src w2 q ∧ w.grownBy w2 (some q)) := ⟨H1.out.1.grown hg2 hq, hs2, grown_trans H1.out.2.2 hg2⟩
  have HZ2 : Hid (∀ t ∈ l, t.size ≤ 32) := fun t ht => Nat.le_of_eq (HZ.out t ht)
  clear H1 hs2 hg2
  obtain ⟨ar, cr, hvr⟩ := H2.out.1.len
  obtain ⟨L, hL⟩ : ∃ L, L = l.length := ⟨_, rfl⟩
  have HL : Hid (L = l.length) := hL
  rw [← hL] at hvr hl ⊢
  subst hvr
  clear hL hml
  have hx4 : x = 0 ∨ x = 1 ∨ x = 2 ∨ x = 3 := by omega
  clear hx0 hx1
  have done : Hid (SpoilAns q l.length w (.returned (.slice ar L cr)) w2) := ⟨_, l, rfl, H2.out.1.texts, by omega, HZ2.out, H2.out.2.1, H2.out.2.2⟩
  by_cases hL0 : L = 0
  · subst hL0
    rcases hx4 with rfl | rfl | rfl | rfl
    · go_wp2_with fail
      refine (ED.out 120 _).mono ?_
      rintro e w3 ⟨d, rfl, hd, hb3⟩
      have hown3 := H2.out.1.below hb3 (Nat.le_refl _)
      have H3 : Hid (Src w3 q ∧ w.grownBy w3 (some q) ∧ d.size ≤ 32) := ⟨H2.out.2.1.below hb3 H2.out.2.1.lt, grown_below H2.out.2.2 (hb3.mono H2.out.2.2.size), hd⟩
      have hsz3 := H3.out.2.1.size
      have hll : l.length ≤ 1048576 := by rw [← HL.out]; omega
      clear hb3
      go_wp2_with (at_builtin; go_must (refine wp_app_text rfl (.tmp 22) (.tmp 24) rfl w.heap.size _ _ rfl hown3 d rfl hll hsz3 ?_); intro v5 w5 hown5 hb5)
      go_ret
      exact ⟨_, l ++ [d], rfl, hown5.texts, by rw [List.length_append, ← HL.out]; simp, fun u hu => by
        rcases List.mem_append.1 hu with hu | hu
        · exact HZ2.out u hu
        · rw [List.mem_singleton.1 hu]; exact H3.out.2.2, H3.out.1.below hb5 hq, grown_below H3.out.2.1 hb5⟩
    · go_wp2
      go_ret
      exact done.out
    · go_wp2
      go_ret
      exact done.out
    · go_wp2
      go_ret
      exact done.out
  have hLI : (0 : Int) < (L : Int) := by omega
  rcases hx4 with rfl | rfl | rfl | rfl
  · go_wp2_with fail
    refine (ED.out 120 _).mono ?_
    rintro e w3 ⟨d, rfl, hd, hb3⟩
    have hown3 := H2.out.1.below hb3 (Nat.le_refl _)
    have H3 : Hid (Src w3 q ∧ w.grownBy w3 (some q) ∧ d.size ≤ 32) := ⟨H2.out.2.1.below hb3 H2.out.2.1.lt, grown_below H2.out.2.2 (hb3.mono H2.out.2.2.size), hd⟩
    have hsz3 := H3.out.2.1.size
    have hll : l.length ≤ 1048576 := by rw [← HL.out]; omega
    clear hb3
    go_wp2_with (at_builtin; go_must (refine wp_app_text rfl (.tmp 22) (.tmp 24) rfl w.heap.size _ _ rfl hown3 d rfl hll hsz3 ?_); intro v5 w5 hown5 hb5)
    go_ret
    exact ⟨_, l ++ [d], rfl, hown5.texts, by rw [List.length_append, ← HL.out]; simp, fun u hu => by
      rcases List.mem_append.1 hu with hu | hu
      · exact HZ2.out u hu
      · rw [List.mem_singleton.1 hu]; exact H3.out.2.2, H3.out.1.below hb5 hq, grown_below H3.out.2.1 hb5⟩
  · obtain ⟨v3, hs3, ht3⟩ := slice_l H2.out.1.texts 1 (by rw [← HL.out]; omega) 1 rfl
    have HT3 : Hid (Texts w2 w2.heap.size v3 (l.drop 1)) := ht3
    clear ht3
    go_wp2
    go_ret
    exact ⟨_, l.drop 1, rfl, HT3.out, by rw [List.length_drop, ← HL.out]; omega, fun u hu => HZ2.out u (List.mem_of_mem_drop hu), H2.out.2.1, H2.out.2.2⟩
  · obtain ⟨g, rfl⟩ : ∃ g, ar = some ⟨g, 0, none⟩ := by
      rcases id H2.out.1 with ⟨_, ⟨e, _⟩ | ⟨g, cap', cur, e, _⟩⟩
      · simp at e; omega
      · simp at e; exact ⟨g, e.1⟩
    go_wp2_with fail
    refine (EN.out _ _ H2.out.2.1 (by omega)).mono ?_
    rintro e w3 ⟨y, rfl, hy0, hy1, hs3, hg3⟩
    have H3 : Hid (OwnT w3 w.heap.size (.slice (some ⟨g, 0, none⟩) L cr) l ∧ Src w3 q ∧ w.grownBy w3 (some q)) := ⟨H2.out.1.grown hg3 hq, hs3, grown_trans H2.out.2.2 hg3⟩
    clear hs3 hg3
    obtain ⟨j, rfl⟩ := Int.eq_ofNat_of_zero_le hy0
    have hjL : j < L := by omega
    have hjI : (j : Int) < (L : Int) := by omega
    go_wp2_with fail
    refine (ED.out 121 _).mono ?_
    rintro e w4 ⟨d, rfl, hd, hb4⟩
    have hown4 := H3.out.1.below hb4 (Nat.le_refl _)
    obtain ⟨hc, hf⟩ := hown4.cell HL.out.symm j (by rw [← HL.out]; exact hjL)
    have H4 : Hid (OwnT (w4.setCell ⟨g, j, none⟩ (.string d)) w.heap.size (.slice (some ⟨g, 0, none⟩) L cr) (l.set j d) ∧ Src (w4.setCell ⟨g, j, none⟩ (.string d)) q ∧ w.grownBy (w4.setCell ⟨g, j, none⟩ (.string d)) (some q) ∧ ∀ t ∈ l.set j d, t.size ≤ 32) := by
      obtain ⟨h1, h2⟩ := hown4.store HL.out.symm j d
      have hgB : w.heap.size ≤ g := (World.ownsRow.lt hown4 g rfl).1
      have hbb : Below w.heap.size w3 (w4.setCell ⟨g, j, none⟩ (.string d)) := (hb4.mono H3.out.2.2.size).setCell (p := ⟨g, j, none⟩) hgB _
      refine ⟨h1, H3.out.2.1.below hbb hq, grown_below H3.out.2.2 hbb, fun u hu => ?_⟩
      rcases List.mem_or_eq_of_mem_set hu with hu | rfl
      · exact HZ2.out u hu
      · exact hd
    generalize l[j]'(by rw [← HL.out]; exact hjL) = t0 at *
    clear hown4 hb4 H3
    go_wp2
    go_ret
    exact ⟨_, l.set j d, rfl, H4.out.1.texts, by rw [List.length_set]; omega, H4.out.2.2.2, H4.out.2.1, H4.out.2.2.1⟩
  · obtain ⟨g, rfl⟩ : ∃ g, ar = some ⟨g, 0, none⟩ := by
      rcases id H2.out.1 with ⟨_, ⟨e, _⟩ | ⟨g, cap', cur, e, _⟩⟩
      · simp at e; omega
      · simp at e; exact ⟨g, e.1⟩
    have h0l : 0 < l.length := by rw [← HL.out]; omega
    have hown := H2.out.1
    obtain ⟨hc, hf⟩ := hown.cell HL.out.symm 0 h0l
    have hz0 := HZ.out _ (List.getElem_mem h0l)
    have HT : Hid (∀ d : ByteArray, d.size ≤ 32 → OwnT (w2.setCell ⟨g, 0, none⟩ (.string d)) w.heap.size (.slice (some ⟨g, 0, none⟩) L cr) (l.set 0 d) ∧ Src (w2.setCell ⟨g, 0, none⟩ (.string d)) q ∧ w.grownBy (w2.setCell ⟨g, 0, none⟩ (.string d)) (some q) ∧ ∀ t ∈ l.set 0 d, t.size ≤ 32) := by
      intro d hd
      obtain ⟨h1, h2⟩ := H2.out.1.store HL.out.symm 0 d
      have hgB : w.heap.size ≤ g := (World.ownsRow.lt H2.out.1 g rfl).1
      have hbb : Below w.heap.size w2 (w2.setCell ⟨g, 0, none⟩ (.string d)) := (Below.refl _ _).setCell (p := ⟨g, 0, none⟩) hgB _
      refine ⟨h1, H2.out.2.1.below hbb hq, grown_below H2.out.2.2 hbb, fun u hu => ?_⟩
      rcases List.mem_or_eq_of_mem_set hu with hu | rfl
      · exact HZ2.out u hu
      · exact hd
    generalize l[0] = t0 at *
    have hz0I : (t0.size : Int) = 32 := by omega
    clear hown
    go_wp2
    have H5 := HT.out (t0.extract 1 32) (by rw [ByteArray.size_extract]; omega)
    go_ret
    exact ⟨_, l.set 0 (t0.extract 1 32), rfl, H5.1.texts, by rw [List.length_set]; omega, H5.2.2.2, H5.2.1, H5.2.2.1⟩
end Go.Proofs.YtpglcbidfghfkaaGreatDoor
