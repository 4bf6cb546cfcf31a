/-
  The program's laidAll and headBytes.
-/
import Derived.Test.YtbngflmebdchlaaFraudV
import Derived.Test.YtbngflmebdchlaaImplHeadTop
import Derived.Test.YtbngflmebdchlaaTextRows
namespace Go.Proofs.Ytbngflmebdchlaa
open Go.RowKit Go.Lib
set_option linter.unusedVariables false
set_option linter.unusedSimpArgs false

set_option maxHeartbeats 1000000 in
set_option maxRecDepth 10000 in
theorem laidAll_any (row : ByteArray) (v : Value) (l : List ByteArray) (w : World) (h : Texts w w.heap.size v l) (hs : ∀ t ∈ l, t.size ≤ 100) (hl : l.length ≤ 64) (hr : row.size ≤ 100000) :
    Calls Try.prog 30 #[.string row, v] w fun e w' => e = .returned (.string (putAllOn row l)) ∧ Below w.heap.size w w' := by
  obtain ⟨a, cap, rfl, hcap, hc⟩ := h.at
  have HC : Hid (∀ j (hj : j < l.length), ∃ b off, a = some ⟨b, off, none⟩ ∧ b < w.heap.size ∧ w.cell? ⟨b, off + j, none⟩ = some (.string l[j])) := hc
  have EL : Hid (∀ k (hk : k < l.length) (w : World), Calls Try.prog 49 #[.string (putAllOn row (l.take k)), .string l[k], .func (.func 51) #[] #[]] w fun e w' => e = .returned (.string (putAllOn row (l.take (k + 1)))) ∧ Below w.heap.size w w') := fun k hk w => by
    rw [putAllOn_succ row hk]
    have z := putAllOn_size (l.take k) row (small_take hs k)
    have z1 : (l.take k).length ≤ 64 := by rw [List.length_take]; omega
    have z2 := putText_size l[k]
    refine laidT_any _ _ _ w (fun w => implPutText_any l[k] w ?_) (by omega) (by omega)
    have := hs l[k] (List.getElem_mem hk)
    omega
  have HF : Hid (putAllOn row (l.take l.length) = putAllOn row l) := by
    show _ = _
    rw [List.take_length]
  have HS : Hid (row = putAllOn row (l.take 0)) := rfl
  obtain ⟨n, hn⟩ : ∃ n, n = l.length := ⟨_, rfl⟩
  have HN : Hid (n = l.length) := hn
  rw [← hn] at hl HF ⊢
  clear hc h hcap hs hr hn
  generalize putAllOn row l = V at *
  go_enter Try.func30, Try.ntmps30
  go_wp2
  go_loopw [0, 9] (fun r i wr => ∃ k : Nat, k ≤ n ∧ i = .int .i64 k ∧ r = .string (putAllOn row (l.take k)) ∧ Below w.heap.size w wr) (fun _ i _ => n - (RowKit.intOf i).toNat)
  case atStart => exact ⟨0, Nat.zero_le _, rfl, congrArg Value.string HS.out, Below.refl _ _⟩
  case round =>
    obtain ⟨k, hk, rfl, rfl, hb⟩ := hrel
    have HB : Hid (Below w.heap.size w wr) := hb
    by_cases hkn : k < n
    · have hkl : k < l.length := by rw [← HN.out]; exact hkn
      obtain ⟨b, off, rfl, hB, hc⟩ := HC.out k hkl
      have hc2 := (hb.cell (p := ⟨b, off + k, none⟩) hB).trans hc
      have E : Hid (∀ w : World, Calls Try.prog 49 #[.string (putAllOn row (l.take k)), .string l[k], .func (.func 51) #[] #[]] w fun e w' => e = .returned (.string (putAllOn row (l.take (k + 1)))) ∧ Below w.heap.size w w') := EL.out k hkl
      have hknI : (k : Int) < (n : Int) := by omega
      clear HC EL HN HF HS hb hc
      generalize l[k] = t at *
      generalize putAllOn row (l.take k) = r0 at *
      obtain ⟨r1, hr1⟩ : ∃ r1, r1 = putAllOn row (l.take (k + 1)) := ⟨_, rfl⟩
      rw [← hr1] at E
      have HR1 : Hid (r1 = putAllOn row (l.take (k + 1))) := hr1
      clear hr1
      go_wp2_with fail
      refine (E.out _).mono ?_
      rintro e w1 ⟨rfl, hb1⟩
      have HB1 : Hid (Below w.heap.size w w1) := HB.out.trans (hb1.mono HB.out.size)
      clear hb1 E
      go_wp2
      go_roundw
      case rel => exact ⟨k + 1, by omega, by go_num, congrArg Value.string HR1.out, HB1.out⟩
      case measure => simp [RowKit.intOf]; omega
    · have e0 : k = n := by omega
      have HV : Hid (putAllOn row (l.take k) = V) := by
        show _ = _
        rw [e0]
        exact HF.out
      clear HC EL HN HF HS hb e0
      generalize putAllOn row (l.take k) = r0 at *
      go_wp2
      go_ret
      exact ⟨ret_str HV.out, HB.out⟩
end Go.Proofs.Ytbngflmebdchlaa
