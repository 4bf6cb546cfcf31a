/-
  Rows of texts that can be read; are all of 32 bytes?
-/
import Derived.Test.YtkfmhmimclmigaaDoorPkMem
import Derived.Deep.QuietTactic
import Derived.BigQuiet
namespace Go.Proofs.YtkfmhmimclmigaaDoor
open Go.RowKit Go.Lib
set_option linter.unusedVariables false

/-- The slice v holds the texts l, in a row that lies ahead of B. -/
def Texts (w : World) (B : Nat) (v : Value) (l : List ByteArray) : Prop :=
  ∃ a cap, v = .slice a l.length cap ∧ (l.length = 0 ∨ ∃ b off, a = some ⟨b, off, none⟩ ∧ b < B ∧ ∀ j (h : j < l.length), w.cell? ⟨b, off + j, none⟩ = some (.string l[j])) ∧ l.length ≤ cap
theorem Texts.below {w w' : World} {B : Nat} {v : Value} {l : List ByteArray} (h : Texts w B v l) (hb : Below B w w') : Texts w' B v l := by
  obtain ⟨a, cap, hv, h | ⟨b, off, ha, hB, hc⟩, hcap⟩ := h
  · exact ⟨a, cap, hv, .inl h, hcap⟩
  · exact ⟨a, cap, hv, .inr ⟨b, off, ha, hB, fun j hj => (hb.cell (p := ⟨b, off + j, none⟩) hB).trans (hc j hj)⟩, hcap⟩
theorem Texts.up {w : World} {B B' : Nat} {v : Value} {l : List ByteArray} (h : Texts w B v l) (hB : B ≤ B') : Texts w B' v l := by
  obtain ⟨a, cap, hv, h | ⟨b, off, ha, hb, hc⟩, hcap⟩ := h
  · exact ⟨a, cap, hv, .inl h, hcap⟩
  · exact ⟨a, cap, hv, .inr ⟨b, off, ha, Nat.lt_of_lt_of_le hb hB, hc⟩, hcap⟩

theorem infoText : (Tryd.prog.info? 9).map (fun i => (i.zero, i.size, i.bytes)) = some (some (.string ByteArray.empty), 1, 16) := by kernel_rfl
/-- Are all of 32 bytes? -/
def wideB (l : List ByteArray) : Bool := l.all fun t => decide ((t.size : Int) = 32)
theorem ret_bool {a b : Bool} (h : a = b) : Ending.returned (.bool a) = .returned (.bool b) := by rw [h]
theorem wideB_no {l : List ByteArray} {k : Nat} (hk : k < l.length) (h : ¬ (l[k].size : Int) = 32) : wideB l = false := by
  unfold wideB
  rw [List.all_eq_false]
  exact ⟨l[k], List.getElem_mem hk, by simpa using h⟩
theorem wideB_yes {l : List ByteArray} (h : ∀ j (hj : j < l.length), (l[j].size : Int) = 32) : wideB l = true := by
  unfold wideB
  rw [List.all_eq_true]
  intro t ht
  obtain ⟨j, hj, rfl⟩ := List.getElem_of_mem ht
  simpa using h j hj
theorem wideB_at {l : List ByteArray} (h : wideB l = true) {j : Nat} (hj : j < l.length) : l[j].size = 32 := by
  unfold wideB at h
  have := List.all_eq_true.1 h l[j] (List.getElem_mem hj)
  have h2 : (l[j].size : Int) = 32 := by simpa using this
  omega
end Go.Proofs.YtkfmhmimclmigaaDoor

/-
  The promises' own way to hold two rows of texts against each other.
-/
namespace Go.Proofs.YtkfmhmimclmigaaDoor
open Go.RowKit Go.Lib
set_option linter.unusedVariables false

set_option maxHeartbeats 400000 in
theorem lwTexts_any (v1 v2 : Value) (l : List ByteArray) (w : World) (B : Nat) (h1 : Texts w B v1 l) (h2 : Texts w B v2 l) (hl : l.length ≤ 1048577) :
    Calls Tryd.prog 7 #[v1, v2] w fun e w' => e = .returned (.bool true) ∧ Below w.heap.size w w' := by
  obtain ⟨a1, cap1, rfl, hc1, _⟩ := h1
  obtain ⟨a2, cap2, rfl, hc2, _⟩ := h2
  have H1 : Hid (l.length = 0 ∨ ∃ b off, a1 = some ⟨b, off, none⟩ ∧ b < B ∧ ∀ j (h : j < l.length), w.cell? ⟨b, off + j, none⟩ = some (.string l[j])) := hc1
  have H2 : Hid (l.length = 0 ∨ ∃ b off, a2 = some ⟨b, off, none⟩ ∧ b < B ∧ ∀ j (h : j < l.length), w.cell? ⟨b, off + j, none⟩ = some (.string l[j])) := hc2
  clear hc1 hc2
  obtain ⟨n, hn⟩ : ∃ n, n = l.length := ⟨_, rfl⟩
  have HN : Hid (n = l.length) := hn
  rw [← hn] at hl ⊢
  clear hn
  go_enter Tryd.func7, Tryd.ntmps7
  go_wp2
  go_loopw [5] (fun i wr => ∃ k m : Nat, k ≤ n ∧ i = .int .i64 k ∧ wr = w.drewN m) (fun i _ => n - (RowKit.intOf i).toNat)
  case atStart => exact ⟨0, 0, Nat.zero_le _, rfl, rfl⟩
  case round =>
    obtain ⟨k, m, hk, rfl, rfl⟩ := hrel
    by_cases hkn : k < n
    · have hkl : k < l.length := by rw [← HN.out]; exact hkn
      rcases H1.out with h0 | ⟨b1, off1, rfl, hB1, hcell1⟩
      · omega
      rcases H2.out with h0 | ⟨b2, off2, rfl, hB2, hcell2⟩
      · omega
      have hc1 := hcell1 k hkl
      have hc2 := hcell2 k hkl
      have hknI : (k : Int) < (n : Int) := by omega
      generalize l[k] = t at *
      clear hcell1 hcell2 H1 H2 HN
      go_wp2
      go_quiet (fail)
      go_wp2
      go_roundw
      case rel => exact ⟨k + 1, _, by omega, by go_num, rfl⟩
      case measure => simp [RowKit.intOf]; omega
    · clear H1 H2 HN
      go_wp2
      go_ret
      exact ⟨rfl, ⟨rfl, rfl, rfl, Nat.le_refl _, fun _ _ => rfl⟩⟩
end Go.Proofs.YtkfmhmimclmigaaDoor
