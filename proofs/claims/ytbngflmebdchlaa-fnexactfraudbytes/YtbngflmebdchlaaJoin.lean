/-
  The program's helper that lays one text behind the other in memory of its own: it answers the two texts joined, and turns nothing that was there.
-/
import Derived.Test.YtbngflmebdchlaaMem
namespace Go.Proofs.Ytbngflmebdchlaa
open Go.RowKit Go.Lib

theorem ba_append (a b : ByteArray) : (⟨(a.data.toList ++ b.data.toList).toArray⟩ : ByteArray) = a ++ b := by
  apply ByteArray.ext
  simp [ByteArray.data_append]

set_option maxHeartbeats 400000 in
theorem joined_any (a b : ByteArray) (w : World) (ha : a.size ≤ 1048576) (hb : b.size ≤ 1048576) :
    Calls Try.prog 26 #[.string a, .string b] w fun e w' => e = .returned (.string (a ++ b)) ∧ Below w.heap.size w w' := by
  obtain ⟨w1, cur, hmk, hg, hcs, hb1⟩ := make_bytes w (a.size + b.size) (by omega)
  obtain ⟨w2, cur2, hc1, hg2, hcs2, htk2, hb2⟩ := copy_text w1 w.heap.size 0 (a.size + b.size) (a.size + b.size) a cur 5 hg (by omega) (by omega) w.heap.size (Nat.le_refl _)
  rw [Int.natCast_add] at hmk
  by_cases h0 : b.size = 0
  · obtain rfl : b = ByteArray.empty := by simpa using h0
    have hc2 := fun d n => run_copy_empty_string (P := Try.prog) w2 76 9 3 5 d n n ByteArray.empty Try.underlying76 sizeByte' rfl
    have hcv := conv_text w2 w.heap.size (a.size + ByteArray.empty.size) (a.size + ByteArray.empty.size) a.data.toList cur2 5 (0, 0) hg2 (by simpa using htk2) (by simp)
    have HB : Hid (Below w.heap.size w w2) := hb1.trans hb2
    clear hg hcs hb1 hg2 hcs2 htk2 hb2 h0 hb
    simp only [ByteArray.size_empty, Nat.add_zero, Int.natCast_zero, Int.add_zero] at hmk hc1 hc2 hcv
    go_enter Try.func26, Try.ntmps26
    go_wp2
    go_ret
    exact ⟨ret_str (by simp), HB.out⟩
  · obtain ⟨w3, cur3, hc2, hg3, hcs3, htk3, hb3⟩ := copy_text w2 w.heap.size a.size b.size b.size b cur2 5 hg2 (by omega) (by omega) w.heap.size (Nat.le_refl _)
    have hcv := conv_text w3 w.heap.size (a.size + b.size) (a.size + b.size) (a.data.toList ++ b.data.toList) cur3 5 (0, 0) hg3 (by
      rw [htk3, show a.size = 0 + a.size by omega, htk2]; simp [byteCells]) (by simp)
    have HB : Hid (Below w.heap.size w w3) := (hb1.trans hb2).trans hb3
    clear hg hcs hb1 hg2 hcs2 htk2 hb2 hg3 hcs3 htk3 hb3
    have hne : ¬ (a.size + b.size = a.size) := by omega
    go_enter Try.func26, Try.ntmps26
    go_wp2
    go_ret
    exact ⟨ret_str (ba_append a b), HB.out⟩
end Go.Proofs.Ytbngflmebdchlaa
