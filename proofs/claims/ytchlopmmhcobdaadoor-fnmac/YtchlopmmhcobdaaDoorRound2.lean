/-
  The program's round: it answers the eight numbers behind the round.
-/
import Derived.Test.YtchlopmmhcobdaaDoorRound
namespace Go.Proofs.YtchlopmmhcobdaaDoor
open Go.RowKit Go.Lib
set_option linter.unusedVariables false

set_option maxHeartbeats 1000000 in
theorem afterRound_any (s : H8) (add : Int) (w : World) (hs : s.Ok) (ha : In32 add) :
    Calls Tryd.prog 155 #[.agg s.cells, .int .u32 add] w fun e w' => e = .returned (.agg (s.step add).cells) ∧ Below w.heap.size w w' := by
  obtain ⟨⟨a0, a1⟩, ⟨b0, b1⟩, ⟨c0, c1⟩, ⟨d0, d1⟩, ⟨e0, e1⟩, ⟨f0, f1⟩, ⟨g0, g1⟩, ⟨h0, h1⟩⟩ := hs
  obtain ⟨ha0, ha1⟩ := ha
  have R : Hid (∀ (k x : Int) (w : World), k ∈ [2, 6, 7, 11, 13, 17, 18, 19, 22, 25] → 0 ≤ x → x < 4294967296 → Calls Tryd.prog 157 #[.int .u32 x, .int .i64 k] w fun e w' => e = .returned (.int .u32 (rotr k x)) ∧ w' = w) := right_any
  obtain ⟨V, hV⟩ : ∃ V, V = (s.step add).cells := ⟨_, rfl⟩
  rw [← hV]
  have hv : #[Value.int .u32 ((s.h + big1 s.e + chF s.e s.f s.g + add + (big0 s.a + majF s.a s.b s.c)) % 4294967296), .int .u32 s.a, .int .u32 s.b, .int .u32 s.c, .int .u32 ((s.d + (s.h + big1 s.e + chF s.e s.f s.g + add)) % 4294967296), .int .u32 s.e, .int .u32 s.f, .int .u32 s.g] = V := by
    rw [hV, step_a, step_e]
    rfl
  clear hV
  unfold big1 big0 chF majF at hv
  have HV : Hid _ := hv
  clear hv
  unfold H8.cells
  obtain ⟨a, b, c, d, e, f, g, h⟩ := s
  dsimp only at *
  have hm : IntKind.u32.max = 4294967295 := rfl
  go_enter Tryd.func155, Tryd.ntmps155
  go_wp2
  go_quiet (fail)
  go_wp2_with (go_at_call 157; refine (R.out _ _ _ (by decide) (by omega) (by omega)).mono ?_; rintro e w' ⟨rfl, rfl⟩)
  refine bodyPost_ret (v := .agg V) (by simp [results, Tryd.results155, go_sem]; exact HV.out) rfl ⟨rfl, ?_⟩
  refine (((((((Below.setCell ?_ (by simp) _).setCell (by simp) _).setCell (by simp) _).setCell (by simp) _).setCell (by simp) _).setCell (by simp) _).setCell (by simp) _).setCell (by simp) _
  exact below_drewN _ (((Below.refl _ _).alloc (Nat.le_refl _) _).alloc (by simp) _)
end Go.Proofs.YtchlopmmhcobdaaDoor
