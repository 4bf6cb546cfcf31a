/-
  The program's cut of entries in two.
-/
import Derived.Test.YtchlopmmhcobdagDoorTreeOf
import Derived.Test.YtchlopmmhcobdagDoorStepLaws
namespace Go.Proofs.YtchlopmmhcobdagDoor
open Go.RowKit Go.Lib
set_option linter.unusedVariables false

/-- Two rows of texts: the first ones, the others. -/
def CutAns (w : World) (B : Nat) (l : List ByteArray) (k : Nat) (e : Ending) : Prop := ∃ a1 c1 a2 c2, e = .returned (.tuple #[.slice a1 k c1, .slice a2 (l.length - k) c2]) ∧ Texts w B (.slice a1 k c1) (l.take k) ∧ Texts w B (.slice a2 (l.length - k) c2) (l.drop k)

set_option maxHeartbeats 1000000 in
theorem cut_any (v : Value) (l : List ByteArray) (w : World) (B : Nat) (h : Texts w B v l) (h2 : 2 ≤ l.length) (hl : l.length ≤ 1048576) :
    Calls Tryd.prog 75 #[v] w fun e w' => CutAns w B l (half l.length) e ∧ ∃ m, w' = w.drewN m := by
  obtain ⟨ex, he, hk1, hk2⟩ := half_spec h2
  have hp := Nat.two_pow_pos ex
  have E : Hid (Calls Tryd.prog 78 #[.int .i64 l.length] w fun e w' => e = .returned (.int .i64 (half l.length)) ∧ w' = w) := splitOf_any l.length w h2 (by omega)
  obtain ⟨k, hk⟩ : ∃ k, k = half l.length := ⟨_, rfl⟩
  rw [← hk] at hk1 hk2 he E ⊢
  obtain ⟨v1, hs1, ht1⟩ := slice_lhm h 0 k (by omega) (by omega) 0 (k : Int) rfl rfl
  obtain ⟨v2, hs2, ht2⟩ := slice_lhm h k l.length (by omega) (by omega) (k : Int) (l.length : Int) rfl rfl
  rw [List.drop_zero] at ht1
  rw [List.take_of_length_le (Nat.le_refl _)] at ht2
  have HC : Hid (CutAns w B l k (.returned (.tuple #[v1, v2]))) := by
    obtain ⟨a1, c1, e1, _, _⟩ := id ht1
    obtain ⟨a2, c2, e2, _, _⟩ := id ht2
    have l1 : (l.take k).length = k := by rw [List.length_take]; omega
    have l2 : (l.drop k).length = l.length - k := by rw [List.length_drop]
    rw [l1] at e1
    rw [l2] at e2
    subst e1 e2
    exact ⟨a1, c1, a2, c2, rfl, ht1, ht2⟩
  obtain ⟨a, cap, rfl, hx, hy⟩ := h
  clear hx hy hk he hp ht1 ht2
  generalize hln : l.length = n at *
  clear hln
  go_enter Tryd.func75, Tryd.ntmps75
  go_wp2_with fail
  refine E.out.mono ?_
  rintro e w1 ⟨rfl, rfl⟩
  clear E
  go_wp2
  go_quiet (fail)
  go_wp2
  go_ret2
  exact ⟨HC.out, _, rfl⟩

/-- What a part of entries has of them. -/
theorem take_small {l : List ByteArray} {n : Nat} (hz : ∀ j (hj : j < l.length), l[j].size ≤ n) (k : Nat) : ∀ j (hj : j < (l.take k).length), (l.take k)[j].size ≤ n := fun j hj => by rw [List.getElem_take]; exact hz _ _
theorem drop_small {l : List ByteArray} {n : Nat} (hz : ∀ j (hj : j < l.length), l[j].size ≤ n) (k : Nat) : ∀ j (hj : j < (l.drop k).length), (l.drop k)[j].size ≤ n := fun j hj => by rw [List.getElem_drop]; exact hz _ _
theorem OwnT.one (w : World) (B : Nat) (t : ByteArray) (hB : B ≤ w.heap.size) : OwnT (w.alloc (.cells #[.string t] 9)) B (.slice (some ⟨w.heap.size, 0, none⟩) 1 1) [t] :=
  ⟨rfl, .inr ⟨w.heap.size, 1, _, rfl, hB, heap_alloc_new w _, Nat.le_refl _, by unfold maxLen; omega, rfl, rfl⟩⟩
end Go.Proofs.YtchlopmmhcobdagDoor
