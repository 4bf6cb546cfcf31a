/-
  The program climbs a path from above.
-/
import Derived.Test.YtchlopmmhcobdafDoorTogether
import Derived.Test.YtchlopmmhcobdafDoorSplit
namespace Go.Proofs.YtchlopmmhcobdafDoor
open Go.RowKit Go.Lib
set_option linter.unusedVariables false

abbrev climbB (leaf : ByteArray) (r : List ByteArray) (i n : Nat) : ByteArray × Bool := climbR nodeB ByteArray.empty leaf r i n
theorem climbB_size (leaf : ByteArray) (h : leaf.size ≤ 1000) (r : List ByteArray) (i n : Nat) : (climbB leaf r i n).1.size ≤ 1000 := by
  unfold climbB
  cases r with
  | nil =>
    rw [climbR]
    split
    · exact h
    · show 0 ≤ 1000; omega
  | cons p r =>
    rw [climbR]
    split
    · exact h
    · split
      · show (nodeB _ _).size ≤ 1000; rw [nodeB_size]; omega
      · show (nodeB _ _).size ≤ 1000; rw [nodeB_size]; omega
theorem climbB_one (leaf : ByteArray) (r : List ByteArray) (i : Nat) : climbB leaf r i 1 = (leaf, decide (r.length = 0)) := by
  unfold climbB
  cases r with
  | nil => rw [climbR, if_pos rfl]; rfl
  | cons p r => rw [climbR, if_pos rfl]; rfl
theorem climbB_nil (leaf : ByteArray) {i n : Nat} (h : n ≠ 1) : climbB leaf [] i n = (ByteArray.empty, false) := by
  unfold climbB
  rw [climbR, if_neg h]
def ClimbAns (t : ByteArray × Bool) (e : Ending) : Prop := e = .returned (.tuple #[.string t.1, .bool t.2])
theorem climb_ret {a : ByteArray} {b : Bool} {t : ByteArray × Bool} (h : t = (a, b)) : ClimbAns t (.returned (.tuple #[.string a, .bool b])) := by subst h; rfl

set_option maxHeartbeats 4000000 in
theorem climb_any (m : Nat) : ∀ (path : List ByteArray), path.length = m → m ≤ 1000 → (∀ j (hj : j < path.length), path[j].size ≤ 1000) → ∀ (leaf : ByteArray) (i n : Nat) (x y : Int) (v : Value) (w : World), leaf.size ≤ 1000 → x = (i : Int) → y = (n : Int) → 1 ≤ n → n ≤ 9223372036854775807 → i < n → Texts w w.heap.size v path → Keys w →
    Calls Tryd.prog 31 #[.string leaf, .int .i64 x, .int .i64 y, v] w fun e w' => ClimbAns (climbB leaf path.reverse i n) e ∧ Below w.heap.size w w' := by
  induction m with
  | zero =>
    intro path hm hm1 hz leaf i n x y v w hleaf hx hy h1 hn hi h hK
    subst hx hy
    obtain rfl := List.eq_nil_of_length_eq_zero hm
    rw [List.reverse_nil]
    obtain ⟨a, cap, rfl, hx, hy⟩ := h
    clear hx hy hK hz
    rw [List.length_nil]
    by_cases hn1 : n = 1
    · subst hn1
      go_enter Tryd.func31, Tryd.ntmps31
      go_wp2
      go_ret2
      exact ⟨climb_ret (climbB_one leaf [] i), Below.refl _ _⟩
    · have hnB : ((n : Int) == 1) = false := beq_eq_false_iff_ne.2 (by omega)
      have hnI : ¬ (n : Int) = 1 := by omega
      go_enter Tryd.func31, Tryd.ntmps31
      go_wp2
      go_ret2
      exact ⟨climb_ret (climbB_nil leaf hn1), Below.refl _ _⟩
  | succ m ih =>
    intro path hm hm1 hz leaf i n x y v w hleaf hx hy h1 hn hi h hK
    subst hx hy
    by_cases hn1 : n = 1
    · subst hn1
      obtain ⟨a, cap, rfl, hx, hy⟩ := h
      clear hx hy hK hz ih
      rw [hm]
      have hm0 : ((m : Int) + 1 == 0) = false := beq_eq_false_iff_ne.2 (by omega)
      have hmI : ((m + 1 : Nat) : Int) = (m : Int) + 1 := by omega
      go_enter Tryd.func31, Tryd.ntmps31
      go_wp2
      go_ret2
      exact ⟨climb_ret (by rw [climbB_one, List.length_reverse, hm]; simp), Below.refl _ _⟩
    have hne : path ≠ [] := by rintro rfl; simp at hm
    obtain ⟨r, p, rfl⟩ : ∃ r p, path = r ++ [p] := ⟨path.dropLast, path.getLast hne, (List.dropLast_concat_getLast hne).symm⟩
    have hr : r.length = m := by simpa using hm
    rw [List.reverse_append, List.reverse_singleton, List.singleton_append]
    obtain ⟨ex, he, hk1, hk2⟩ := half_spec (show 2 ≤ n by omega)
    have hp := Nat.two_pow_pos ex
    have EH : Hid (Calls Tryd.prog 48 #[.int .i64 n] w fun e w' => e = .returned (.int .i64 (half n)) ∧ w' = w) := splitOf_any n w (by omega) hn
    have hcl := climbR_left nodeB ByteArray.empty leaf p r.reverse (i := i) (show 2 ≤ n by omega)
    have hcr := climbR_right nodeB ByteArray.empty leaf p r.reverse (i := i) (show 2 ≤ n by omega)
    obtain ⟨k, hk⟩ : ∃ k, k = half n := ⟨_, rfl⟩
    rw [← hk] at hk1 hk2 he EH hcl hcr
    obtain ⟨v1, hs1, ht1⟩ := slice_h h m (by rw [hm]; omega) (m : Int) rfl
    rw [List.take_left' hr] at ht1
    have hzr : ∀ j (hj : j < r.length), r[j].size ≤ 1000 := fun j hj => by
      have := hz j (by simp; omega)
      rwa [List.getElem_append_left hj] at this
    have hzp : p.size ≤ 1000 := by
      have := hz r.length (by simp)
      rwa [List.getElem_append_right (Nat.le_refl _), List.getElem_singleton] at this
    have hclast : ∃ b off, (∃ cap, v = .slice (some ⟨b, off, none⟩) (m + 1) cap) ∧ b < w.heap.size ∧ w.cell? ⟨b, off + m, none⟩ = some (.string p) := by
      obtain ⟨a, cap, hv, hcap, hc⟩ := h.at
      obtain ⟨b, off, rfl, hB, hcell⟩ := hc m (by rw [hm]; omega)
      rw [hm] at hv
      refine ⟨b, off, ⟨cap, hv⟩, hB, ?_⟩
      rw [hcell]
      congr 2
      subst hr
      simp
    obtain ⟨b, off, ⟨cap, rfl⟩, hB, hcp⟩ := hclast
    have HK : Hid (Keys w) := hK
    have HZ : Hid (p.size ≤ 1000) := hzp
    have E2 : Hid (∀ l r w', l.size ≤ 1000 → r.size ≤ 1000 → Keys w' → Calls Tryd.prog 45 #[.slice (some ⟨w'.heap.size, 0, none⟩) 2 2] (w'.alloc (.cells #[.string l, .string r] 9)) fun e w'' => e = .returned (.string (nodeB l r)) ∧ Below w'.heap.size w' w'') := fun l r w' hl hr hK' => together_two l r w' hl hr hK'
    have hnB : ((n : Int) == 1) = false := beq_eq_false_iff_ne.2 (by omega)
    have hnI : ¬ (n : Int) = 1 := by omega
    have hm0 : ((m : Int) + 1 == 0) = false := beq_eq_false_iff_ne.2 (by omega)
    have hmI : ((m + 1 : Nat) : Int) = (m : Int) + 1 := by omega
    by_cases hik : i < k
    · have EC : Hid (Calls Tryd.prog 31 #[.string leaf, .int .i64 i, .int .i64 k, v1] w fun e w' => ClimbAns (climbB leaf r.reverse i k) e ∧ Below w.heap.size w w') := ih r hr (by omega) hzr leaf i k i k v1 w hleaf rfl rfl (by omega) (by omega) hik ht1 hK
      have HR : Hid (climbB leaf (p :: r.reverse) i n = (nodeB (climbB leaf r.reverse i k).1 p, (climbB leaf r.reverse i k).2)) := hcl hik
      have HS : Hid ((climbB leaf r.reverse i k).1.size ≤ 1000) := climbB_size leaf hleaf _ _ _
      have hikI : (i : Int) < (k : Int) := by omega
      generalize climbB leaf (p :: r.reverse) i n = R at *
      generalize climbB leaf r.reverse i k = C at *
      clear hcl hcr ih hz hzr hzp hK h ht1 hm hr hne hk he hp
      go_enter Tryd.func31, Tryd.ntmps31
      go_wp2_with fail
      refine EH.out.mono ?_
      rintro e w1 ⟨rfl, rfl⟩
      clear EH
      go_wp2_with fail
      refine EC.out.mono ?_
      rintro e w2 ⟨hc2, hb2⟩
      unfold ClimbAns at hc2
      subst hc2
      have hcp2 : w2.cell? ⟨b, off + m, none⟩ = some (.string p) := (hb2.cell (p := ⟨b, off + m, none⟩) hB).trans hcp
      have H2 : Hid (Below w1.heap.size w1 w2) := hb2
      clear hb2 EC
      go_wp2_with fail
      refine (E2.out _ _ _ HS.out HZ.out (HK.out.below H2.out HK.out.lt)).mono ?_
      rintro e w3 ⟨rfl, hb3⟩
      have H3 : Hid (Below w1.heap.size w1 w3) := H2.out.trans (hb3.mono H2.out.size)
      clear hb3
      go_wp2
      go_ret2
      exact ⟨climb_ret HR.out, H3.out⟩
    · have EC : Hid (Calls Tryd.prog 31 #[.string leaf, .int .i64 ((i : Int) - (k : Int)), .int .i64 ((n : Int) - (k : Int)), v1] w fun e w' => ClimbAns (climbB leaf r.reverse (i - k) (n - k)) e ∧ Below w.heap.size w w') := ih r hr (by omega) hzr leaf (i - k) (n - k) _ _ v1 w hleaf (by omega) (by omega) (by omega) (by omega) (by omega) ht1 hK
      have HR : Hid (climbB leaf (p :: r.reverse) i n = (nodeB p (climbB leaf r.reverse (i - k) (n - k)).1, (climbB leaf r.reverse (i - k) (n - k)).2)) := hcr hik
      have HS : Hid ((climbB leaf r.reverse (i - k) (n - k)).1.size ≤ 1000) := climbB_size leaf hleaf _ _ _
      have hikI : ¬ (i : Int) < (k : Int) := by omega
      generalize climbB leaf (p :: r.reverse) i n = R at *
      generalize climbB leaf r.reverse (i - k) (n - k) = C at *
      clear hcl hcr ih hz hzr hzp hK h ht1 hm hr hne hk he hp
      go_enter Tryd.func31, Tryd.ntmps31
      go_wp2_with fail
      refine EH.out.mono ?_
      rintro e w1 ⟨rfl, rfl⟩
      clear EH
      go_wp2_with fail
      refine EC.out.mono ?_
      rintro e w2 ⟨hc2, hb2⟩
      unfold ClimbAns at hc2
      subst hc2
      have hcp2 : w2.cell? ⟨b, off + m, none⟩ = some (.string p) := (hb2.cell (p := ⟨b, off + m, none⟩) hB).trans hcp
      have H2 : Hid (Below w1.heap.size w1 w2) := hb2
      clear hb2 EC
      go_wp2_with fail
      refine (E2.out _ _ _ HZ.out HS.out (HK.out.below H2.out HK.out.lt)).mono ?_
      rintro e w3 ⟨rfl, hb3⟩
      have H3 : Hid (Below w1.heap.size w1 w3) := H2.out.trans (hb3.mono H2.out.size)
      clear hb3
      go_wp2
      go_ret2
      exact ⟨climb_ret HR.out, H3.out⟩
end Go.Proofs.YtchlopmmhcobdafDoor
