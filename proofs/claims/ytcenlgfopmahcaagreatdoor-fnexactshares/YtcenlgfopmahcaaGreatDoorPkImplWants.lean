/-
  What a watch wants: the program's.
-/
import Derived.Test.YtcenlgfopmahcaaGreatDoorPkImplWhy
import Derived.Test.YtcenlgfopmahcaaGreatDoorPkHeadsOwn
namespace Go.Proofs.YtcenlgfopmahcaaGreatDoor
open Go.RowKit Go.Lib
set_option linter.unusedVariables false
set_option linter.unusedSimpArgs false

theorem Wt.rightB_pool {t : Wt} {l : List Hv} (h : t.rightB l = true) : l.length ≤ 5 ∧ Rising t.en.length l := by
  unfold Wt.rightB at h
  simp only [Bool.and_eq_true, decide_eq_true_eq] at h
  exact ⟨h.2.2.1.1, poolB_rising h.2.2.1.2⟩

end Go.Proofs.YtcenlgfopmahcaaGreatDoor

/-
  The texts of the heads that a right watch holds are short.
-/
namespace Go.Proofs.YtcenlgfopmahcaaGreatDoor
open Go.RowKit Go.Lib
set_option linter.unusedVariables false
set_option linter.unusedSimpArgs false

/-- The texts of the heads that a right watch holds are short. -/
def Short (x : Hd) : Prop := (∀ j (hj : j < x.el.length), x.el[j].size ≤ 1048576) ∧ ∀ j (hj : j < x.pl.length), x.pl[j].size ≤ 1048576
theorem sgB_short {lg ky : ByteArray} {x : Hd} (h : sgB lg ky x = true) : Short x := by
  unfold sgB headGB headRB at h
  simp only [Bool.and_eq_true] at h
  obtain ⟨_, _, _, h1, h2⟩ := sigRB_yes h.2.1.2
  exact ⟨fun j hj => by have := wideB_at h1 hj; omega, fun j hj => by have := wideB_at h2 hj; omega⟩
theorem zeroX_short {x : Hd} (h : zeroX x x.el.length x.pl.length = true) : Short x := by
  unfold zeroX zeroHB at h
  obtain ⟨_, _, _, _, _, h1, h2⟩ := of_decide_eq_true h
  exact ⟨fun j hj => by omega, fun j hj => by omega⟩
theorem poolB_short {lg ky : ByteArray} : ∀ {l : List Hv} {last : Int}, poolB lg ky last l = true → ∀ j (hj : j < l.length), Short l[j].x
  | q :: r, last, h, 0, hj => by
    unfold poolB at h
    simp only [Bool.and_eq_true] at h
    exact sgB_short h.2.1
  | q :: r, last, h, j + 1, hj => by
    unfold poolB at h
    simp only [Bool.and_eq_true] at h
    exact poolB_short h.2.2 j (by simpa using hj)
theorem Wt.rightB_short {t : Wt} {l : List Hv} (h : t.rightB l = true) : Short t.h ∧ ∀ j (hj : j < l.length), Short l[j].x := by
  unfold Wt.rightB Wt.readB at h
  simp only [Bool.and_eq_true, Bool.or_eq_true, decide_eq_true_eq] at h
  refine ⟨?_, poolB_short h.2.2.1.2⟩
  rcases h.2.1.2 with h0 | h0
  · exact zeroX_short h0
  · exact sgB_short h0
end Go.Proofs.YtcenlgfopmahcaaGreatDoor
