/-
  The heads of an empty pool: none.
-/
import Derived.Test.YtpglcbidfghfkaaPkSorts
import Derived.Test.YtpglcbidfghfkaaPkHeadV
namespace Go.Proofs.Ytpglcbidfghfkaa
open Go.RowKit Go.Lib
set_option linter.unusedVariables false
set_option linter.unusedSimpArgs false

set_option maxHeartbeats 2000000 in
set_option maxRecDepth 10000 in
theorem waiting_nil (g : Nat) (w : World) (hc : w.cell? ⟨g, 10, none⟩ = some (.map none)) :
    Calls Try.prog 57 #[.pointer (some ⟨g, 0, none⟩)] w fun e w' => e = .returned (.slice none 0 0) ∧ Below w.heap.size w w' := by
  have E0 : Hid (Calls Try.prog 77 #[.pointer (some ⟨g, 0, none⟩)] w fun e w' => e = .returned (.slice none 0 0) ∧ Below w.heap.size w w') := sizes_nil g w hc
  clear hc
  go_enter Try.func57, Try.ntmps57
  go_wp2_with fail
  refine E0.out.mono ?_
  rintro e w1 ⟨rfl, hb⟩
  have HB : Hid (Below w.heap.size w w1) := hb
  clear hb E0
  go_wp2
  go_loop [3, 9] (fun o i => o = .slice none 0 0 ∧ i = .int .i64 0) (fun _ i => 0)
  case atStart => exact ⟨rfl, rfl⟩
  case round =>
    obtain ⟨rfl, rfl⟩ := hrel
    go_wp2
    go_ret
    exact ⟨rfl, HB.out⟩
end Go.Proofs.Ytpglcbidfghfkaa
