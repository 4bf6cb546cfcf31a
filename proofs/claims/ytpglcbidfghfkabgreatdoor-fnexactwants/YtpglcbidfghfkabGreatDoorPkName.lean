/-
  The walks of NameRight, the document's and the program's: each answers whether the text is a name. No conditions but that the text's length is a Go length.
-/
import Derived.Test.YtpglcbidfghfkabGreatDoorRows
import Derived.WalkKit
import Derived.WalkSpells
namespace Go.Proofs.YtpglcbidfghfkabGreatDoor
open Go.RowKit

/-- The ending answers whether p holds. -/
def AnsB (p : Prop) (e : Ending) : Prop := ∃ b, e = .returned (.bool b) ∧ (b = true ↔ p)
theorem AnsB.yes {p : Prop} {v : Value} (h : p) (hv : v = .bool true) : AnsB p (.returned v) := ⟨true, by rw [hv], by simp [h]⟩
theorem AnsB.no {p : Prop} {v : Value} (h : ¬ p) (hv : v = .bool false) : AnsB p (.returned v) := ⟨false, by rw [hv], by simp [h]⟩
theorem AnsB.dec {p : Prop} {v : Value} {b : Bool} (h : b = true ↔ p) (hv : v = .bool b) : AnsB p (.returned v) := ⟨b, by rw [hv], h⟩

/-- A byte that is a lower-case letter. -/
def letP (c : Int) : Prop := 97 ≤ c ∧ c ≤ 122
def digP (c : Int) : Prop := 48 ≤ c ∧ c ≤ 57
/-- A byte that may stand behind the first one. -/
def tailP (c : Int) : Prop := letP c ∨ digP c ∨ c = 95
/-- The text is a name. -/
def nameP (s : ByteArray) : Prop := 1 ≤ s.size ∧ s.size ≤ 20 ∧ ∀ k (h : k < s.size), letP (s[k].toNat : Int) ∨ (k ≠ 0 ∧ tailP (s[k].toNat : Int))

theorem name_bad {s : ByteArray} {k : Nat} (h : k < s.size) (hl : ¬ letP (s[k].toNat : Int)) (ht : k = 0 ∨ ¬ tailP (s[k].toNat : Int)) : ¬ nameP s := by
  rintro ⟨_, _, h3⟩
  rcases h3 k h with h | ⟨h, h'⟩
  · exact hl h
  · rcases ht with ht | ht
    · exact h ht
    · exact ht h'

theorem isLetter_any (c : Int) (w : World) : Calls Tryz.prog 121 #[.int .u8 c] w fun e w' => AnsB (letP c) e ∧ w' = w := by
  go_enter Tryz.func121, Tryz.ntmps121
  go_wp2
  all_goals (go_ret; exact ⟨AnsB.dec (by unfold letP; simp <;> omega) rfl, rfl⟩)

theorem isDigit_any (c : Int) (w : World) : Calls Tryz.prog 122 #[.int .u8 c] w fun e w' => AnsB (digP c) e ∧ w' = w := by
  go_enter Tryz.func122, Tryz.ntmps122
  go_wp2
  all_goals (go_ret; exact ⟨AnsB.dec (by unfold digP; simp <;> omega) rfl, rfl⟩)

theorem name_step {s : ByteArray} {k : Nat} (h : ∀ j (h : j < s.size), j < k → letP (s[j].toNat : Int) ∨ (j ≠ 0 ∧ tailP (s[j].toNat : Int))) (hk : ∀ hlt : k < s.size, letP (s[k].toNat : Int) ∨ (k ≠ 0 ∧ tailP (s[k].toNat : Int))) :
    ∀ j (h : j < s.size), j < k + 1 → letP (s[j].toNat : Int) ∨ (j ≠ 0 ∧ tailP (s[j].toNat : Int)) := by
  intro j hj hlt
  by_cases e : j = k
  · subst e; exact hk hj
  · exact h j hj (by omega)

set_option maxHeartbeats 1000000 in
theorem specName_any (s : ByteArray) (w : World) (hs : s.size ≤ maxLen) :
    Calls Tryz.prog 67 #[.string s] w fun e w' => AnsB (nameP s) e ∧ w' = w := by
  unfold maxLen at hs
  by_cases h1 : s.size < 1
  · go_enter Tryz.func67, Tryz.ntmps67
    go_wp2
    go_ret
    exact ⟨AnsB.no (by rintro ⟨_, _, _⟩; omega) rfl, rfl⟩
  by_cases h2 : 20 < s.size
  · go_enter Tryz.func67, Tryz.ntmps67
    go_wp2
    go_ret
    exact ⟨AnsB.no (by rintro ⟨_, _, _⟩; omega) rfl, rfl⟩
  go_enter Tryz.func67, Tryz.ntmps67
  go_wp2
  go_loop [3] (fun i => ∃ k : Nat, k ≤ s.size ∧ i = .int .i64 k ∧ ∀ j (h : j < s.size), j < k → letP (s[j].toNat : Int) ∨ (j ≠ 0 ∧ tailP (s[j].toNat : Int))) (fun i => s.size - (intOf i).toNat)
  case atStart => exact ⟨0, Nat.zero_le _, rfl, fun j _ h => absurd h (by omega)⟩
  case round =>
    obtain ⟨k, hk, rfl, hall⟩ := hrel
    have HALL : Hid (∀ j (h : j < s.size), j < k → letP (s[j].toNat : Int) ∨ (j ≠ 0 ∧ tailP (s[j].toNat : Int))) := hall
    clear hall
    by_cases hlt : k < s.size
    · by_cases hl : 97 ≤ (s[k].toNat : Int) ∧ (s[k].toNat : Int) ≤ 122
      · have HL : Hid (letP (s[k].toNat : Int)) := hl
        obtain ⟨hl1, hl2⟩ := hl
        go_wp2
        go_round
        case rel => exact ⟨k + 1, by omega, by go_num, name_step HALL.out fun _ => .inl HL.out⟩
        case measure => simp [intOf]; omega
      have HL : Hid (¬ letP (s[k].toNat : Int)) := hl
      have hl' : (s[k].toNat : Int) < 97 ∨ 122 < (s[k].toNat : Int) := by omega
      clear hl
      by_cases hz : k = 0
      · subst hz
        rcases hl' with hl' | hl'
        all_goals
          go_wp2
          all_goals try (exfalso; rename_i h; simp at h; omega)
          go_ret
          exact ⟨AnsB.no (name_bad hlt HL.out (.inl rfl)) rfl, rfl⟩
      have hz' : ((k : Int) == 0) = false := by simp; omega
      by_cases hd : 48 ≤ (s[k].toNat : Int) ∧ (s[k].toNat : Int) ≤ 57
      · have HD : Hid (digP (s[k].toNat : Int)) := hd
        obtain ⟨hd1, hd2⟩ := hd
        have hl3 : (s[k].toNat : Int) < 97 := by omega
        clear hl'
        go_wp2
        go_round
        case rel => exact ⟨k + 1, by omega, by go_num, name_step HALL.out fun _ => .inr ⟨hz, .inr (.inl HD.out)⟩⟩
        case measure => simp [intOf]; omega
      have HD : Hid (¬ digP (s[k].toNat : Int)) := hd
      have hd' : (s[k].toNat : Int) < 48 ∨ 57 < (s[k].toNat : Int) := by omega
      clear hd
      by_cases hu : (s[k].toNat : Int) = 95
      · have HU : Hid ((s[k].toNat : Int) = 95) := hu
        have hu' : ((s[k].toNat : Int) != 95) = false := by rw [hu]; rfl
        have hl3 : (s[k].toNat : Int) < 97 := by omega
        have hd3 : 57 < (s[k].toNat : Int) := by omega
        clear hl' hd' hu
        go_wp2
        go_round
        case rel => exact ⟨k + 1, by omega, by go_num, name_step HALL.out fun _ => .inr ⟨hz, .inr (.inr HU.out)⟩⟩
        case measure => simp [intOf]; omega
      have HU : Hid (¬ tailP (s[k].toNat : Int)) := by rintro (h | h | h); exact HL.out h; exact HD.out h; exact hu h
      have hu' : ((s[k].toNat : Int) != 95) = true := by simp [bne_iff_ne]; omega
      clear hu
      rcases hl' with hl' | hl' <;> rcases hd' with hd' | hd'
      all_goals try (exfalso; omega)
      all_goals
        go_wp2
        all_goals try (exfalso; rename_i h; simp at h; omega)
        go_ret
        exact ⟨AnsB.no (name_bad hlt HL.out (.inr HU.out)) rfl, rfl⟩
    · go_wp2
      go_ret
      exact ⟨AnsB.yes ⟨by omega, by omega, fun j h => HALL.out j h (by omega)⟩ rfl, rfl⟩
theorem isLetter_yes (c : Int) (w : World) (h : letP c) : Calls Tryz.prog 121 #[.int .u8 c] w fun e w' => e = .returned (.bool true) ∧ w' = w :=
  (isLetter_any c w).mono fun e w' ⟨⟨b, he, hb⟩, hw⟩ => ⟨by rw [he, hb.2 h], hw⟩
theorem isLetter_no (c : Int) (w : World) (h : ¬ letP c) : Calls Tryz.prog 121 #[.int .u8 c] w fun e w' => e = .returned (.bool false) ∧ w' = w :=
  (isLetter_any c w).mono fun e w' ⟨⟨b, he, hb⟩, hw⟩ => ⟨by cases b with | true => exact absurd (hb.1 rfl) h | false => exact he, hw⟩
theorem isDigit_yes (c : Int) (w : World) (h : digP c) : Calls Tryz.prog 122 #[.int .u8 c] w fun e w' => e = .returned (.bool true) ∧ w' = w :=
  (isDigit_any c w).mono fun e w' ⟨⟨b, he, hb⟩, hw⟩ => ⟨by rw [he, hb.2 h], hw⟩
theorem isDigit_no (c : Int) (w : World) (h : ¬ digP c) : Calls Tryz.prog 122 #[.int .u8 c] w fun e w' => e = .returned (.bool false) ∧ w' = w :=
  (isDigit_any c w).mono fun e w' ⟨⟨b, he, hb⟩, hw⟩ => ⟨by cases b with | true => exact absurd (hb.1 rfl) h | false => exact he, hw⟩

set_option maxHeartbeats 1000000 in
theorem implName_any (s : ByteArray) (w : World) (hs : s.size ≤ maxLen) :
    Calls Tryz.prog 97 #[.string s] w fun e w' => AnsB (nameP s) e ∧ w' = w := by
  unfold maxLen at hs
  by_cases h1 : s.size < 1
  · go_enter Tryz.func97, Tryz.ntmps97
    go_wp2
    go_ret
    exact ⟨AnsB.no (by rintro ⟨_, _, _⟩; omega) rfl, rfl⟩
  by_cases h2 : 20 < s.size
  · go_enter Tryz.func97, Tryz.ntmps97
    go_wp2
    go_ret
    exact ⟨AnsB.no (by rintro ⟨_, _, _⟩; omega) rfl, rfl⟩
  have h0 : 0 < s.size := by omega
  by_cases hl0 : letP (s[0].toNat : Int)
  rotate_left
  · have HL0 : Hid (¬ letP (s[0].toNat : Int)) := hl0
    clear hl0
    go_enter Tryz.func97, Tryz.ntmps97
    go_wp2_with (go_at_call 121; refine (isLetter_no _ _ HL0.out).mono ?_; rintro e w' ⟨rfl, rfl⟩)
    go_ret
    exact ⟨AnsB.no (name_bad h0 HL0.out (.inl rfl)) rfl, rfl⟩
  have HL0 : Hid (letP (s[0].toNat : Int)) := hl0
  clear hl0
  go_enter Tryz.func97, Tryz.ntmps97
  go_wp2_with (go_at_call 121; refine (isLetter_yes _ _ HL0.out).mono ?_; rintro e w' ⟨rfl, rfl⟩)
  go_loop [3] (fun i => ∃ k : Nat, 1 ≤ k ∧ k ≤ s.size ∧ i = .int .i64 k ∧ ∀ j (h : j < s.size), j < k → letP (s[j].toNat : Int) ∨ (j ≠ 0 ∧ tailP (s[j].toNat : Int))) (fun i => s.size - (intOf i).toNat)
  case atStart => exact ⟨1, Nat.le_refl _, by omega, rfl, name_step (k := 0) (fun j _ h => absurd h (by omega)) fun _ => .inl HL0.out⟩
  case round =>
    obtain ⟨k, hk1, hk, rfl, hall⟩ := hrel
    have HALL : Hid (∀ j (h : j < s.size), j < k → letP (s[j].toNat : Int) ∨ (j ≠ 0 ∧ tailP (s[j].toNat : Int))) := hall
    clear hall
    by_cases hlt : k < s.size
    · have hz : k ≠ 0 := by omega
      by_cases hl : letP (s[k].toNat : Int)
      · have HL : Hid (letP (s[k].toNat : Int)) := hl
        clear hl
        go_wp2_with (go_at_call 121; refine (isLetter_yes _ _ HL.out).mono ?_; rintro e w' ⟨rfl, rfl⟩)
        go_round
        case rel => exact ⟨k + 1, by omega, by omega, by go_num, name_step HALL.out fun _ => .inl HL.out⟩
        case measure => simp [intOf]; omega
      have HL : Hid (¬ letP (s[k].toNat : Int)) := hl
      clear hl
      by_cases hd : digP (s[k].toNat : Int)
      · have HD : Hid (digP (s[k].toNat : Int)) := hd
        clear hd
        go_wp2_with (first | (go_at_call 121; refine (isLetter_no _ _ HL.out).mono ?_; rintro e w' ⟨rfl, rfl⟩) | (go_at_call 122; refine (isDigit_yes _ _ HD.out).mono ?_; rintro e w' ⟨rfl, rfl⟩))
        go_round
        case rel => exact ⟨k + 1, by omega, by omega, by go_num, name_step HALL.out fun _ => .inr ⟨hz, .inr (.inl HD.out)⟩⟩
        case measure => simp [intOf]; omega
      have HD : Hid (¬ digP (s[k].toNat : Int)) := hd
      clear hd
      by_cases hu : (s[k].toNat : Int) = 95
      · have HU : Hid ((s[k].toNat : Int) = 95) := hu
        have hu' : ((s[k].toNat : Int) != 95) = false := by rw [hu]; rfl
        clear hu
        go_wp2_with (first | (go_at_call 121; refine (isLetter_no _ _ HL.out).mono ?_; rintro e w' ⟨rfl, rfl⟩) | (go_at_call 122; refine (isDigit_no _ _ HD.out).mono ?_; rintro e w' ⟨rfl, rfl⟩))
        go_round
        case rel => exact ⟨k + 1, by omega, by omega, by go_num, name_step HALL.out fun _ => .inr ⟨hz, .inr (.inr HU.out)⟩⟩
        case measure => simp [intOf]; omega
      have HU : Hid (¬ tailP (s[k].toNat : Int)) := by rintro (h | h | h); exact HL.out h; exact HD.out h; exact hu h
      have hu' : ((s[k].toNat : Int) != 95) = true := by simp [bne_iff_ne]; omega
      clear hu
      go_wp2_with (first | (go_at_call 121; refine (isLetter_no _ _ HL.out).mono ?_; rintro e w' ⟨rfl, rfl⟩) | (go_at_call 122; refine (isDigit_no _ _ HD.out).mono ?_; rintro e w' ⟨rfl, rfl⟩))
      go_ret
      exact ⟨AnsB.no (name_bad hlt HL.out (.inr HU.out)) rfl, rfl⟩
    · go_wp2
      go_ret
      exact ⟨AnsB.yes ⟨by omega, by omega, fun j h => HALL.out j h (by omega)⟩ rfl, rfl⟩
end Go.Proofs.YtpglcbidfghfkabGreatDoor
