/-
  At every input the law FnExactSigRight answers true and leaves its arguments as they were. No conditions.
-/
import Derived.Test.YtchlopmmhcobdafRows
import Derived.Test.YtchlopmmhcobdafSigRightLaw
import Derived.WalkKit
import Derived.ProofKit
import Derived.OpenShut
import Derived.ShutString
import Derived.SliceStrings
import Derived.Deep.Strs
import Derived.ChangeOld
import Derived.Below
namespace Go.Proofs.Ytchlopmmhcobdaf.fnExactSigRight
open Go.ChangeShapes Go.WideShapes Go.ChangeAt Go.RowKit
open Go.ChangeMaps (open_string shut_string)
set_option linter.unusedVariables false

theorem own : ownKnob Try.prog.godebug = none := by kernel_rfl
theorem laidOut : laidOutB Try.prog = true := by kernel_rfl

set_option maxRecDepth 100000 in
theorem lifted (os : Os) (started : os.Started) (H : Type) (enc : TypeId × Value → H) :
    ReturnsInHanded {} Try.checked os 3 .any (Rows.fnExactSigRightSpec.pre6 enc Try.prog Try.f3 Rows.fnExactSigRightRow.domain false) (Rows.fnExactSigRightSpec.post enc Try.prog Try.f3 false true false false) := by
  refine returnsInHanded_of_change (C := Try.checked) own started (by kernel_rfl) Try.func3
    (ChangeSpec.witness6 (enc := enc) (C := Try.checked) false ⟨#[], #[.agg #[.int .i64 0, .slice none 0 0, .slice none 0 0]], []⟩ 8 (by kernel_rfl) (by kernel_rfl) (by kernel_rfl) (by kernel_rfl)) ?_
  intro W base args ds gs before hval0 hW hcnd _
  have hval : ∀ (j : Nat) t v, Try.f3.params[j]? = some t → args[j]? = some v → Value.okWide Try.prog W .any base t v := hval0
  have hW' := hW
  obtain ⟨p, q, hA0, hV, rfl, hfz, hnd⟩ := hW
  have hA : DataW.TrodAll enc Try.prog W 0 (fun _ => true) true Try.f3.params.toList args.toList ds p := hA0
  rw [Try.params3] at hA hval
  obtain ⟨v0, vs0, d0, ds0, p0, q0, hargs, rfl, rfl, h0, r0⟩ := trodAll_cons hA
  obtain ⟨rfl, rfl, rfl⟩ := trodAll_nil r0
  obtain rfl : args = #[v0] := by cases args; simp_all
  obtain ⟨rfl, rfl⟩ := trodVars_none hV
  obtain ⟨cs0, rfl, hs0⟩ := okWide_struct Try.underlying24 (hval 0 24 v0 rfl rfl)
  have k0 := h0
  have lt0 : ∀ x ∈ p0, x.block < W.heap.size := by obtain ⟨m, hm⟩ := k0; exact DataW.trod_lt m _ _ _ hm
  obtain ⟨z0, x0, y0, l0, m0, e0, w0⟩ : ∃ (z : Int) (x y : Value) (l m : List ByteArray), cs0 = #[.int .i64 z, x, y] ∧ TextsArg W x l ∧ TextsArg W y m := by
    obtain ⟨fuel, hf⟩ := h0
    obtain ⟨y0, y1, y2, n, _, hcl, t0, t1, t2⟩ := Go.Deep.trod_struct3 Try.underlying24 hf
    have q0 : Try.prog.cellsOf 2 = 1 := by kernel_rfl
    have q1 : Try.prog.cellsOf 22 = 1 := by kernel_rfl
    have q2 : Try.prog.cellsOf 24 = 3 := by kernel_rfl
    obtain ⟨z, hz, _, _⟩ := DataW.trod_int Try.underlying2 t0
    rw [q2] at hs0
    have texts : ∀ {n2 : Nat} {cs2 : List Value} {x2 : DataW H × List MemPlace}, DataW.trod enc Try.prog W 0 (fun _ => true) true n2 22 cs2 = some x2 → ∃ (v : Value) (l : List ByteArray), cs2 = [v] ∧ TextsArg W v l := by
      intro n2 cs2 x2 h
      rcases open_strings Try.underlying22 Try.underlying9 (by kernel_rfl) h with ⟨hcs, _⟩ | ⟨x, l, c, zs, hcs, _, hl, hm, hzs, _, hcell, hwz⟩
      · exact ⟨_, [], hcs, textsArg_nil W⟩
      · exact ⟨_, _, hcs, textsArg_of hl hm (by simpa using hzs) hcell hwz⟩
    obtain ⟨va, la, ea, ta⟩ := texts t1
    obtain ⟨vb, lb, eb, tb⟩ := texts t2
    rw [q0] at hz
    rw [q1] at ea eb
    exact ⟨z, va, vb, la, lb, arr3 hs0 hz ea eb, ta, tb⟩
  subst e0
  clear hA0 hval0
  refine Calls.mono (Go.Proofs.Ytchlopmmhcobdaf.lawSigRight_any z0 x0 y0 l0 m0 W w0.1 w0.2) fun e W' ⟨he, bel⟩ => ?_
  subst he
  exact ⟨_, rfl, _, _, _, [], _, [], hW', trodAll_mk1 (shut_bool Try.underlying4 _), (trodAll_cons_mk (Below.trod laidOut (by kernel_rfl) (of_decide_eq_true (by kernel_rfl)) k0 bel lt0) trodAll_mk0), rfl, bel.frame _, fun h => by cases h⟩

theorem over : Rows.fnExactSigRightRow.holds Try.pinned (OpenSpec.ofChange Rows.fnExactSigRightSpec) :=
  OpenClaim.holds_of_wide 3 Try.f3 rfl rfl rfl rfl rfl rfl rfl ⟨rfl, rfl, rfl, rfl, rfl⟩ rfl rfl rfl rfl rfl (by kernel_rfl) Try.func3 (by kernel_rfl)
    (of_decide_eq_true (by kernel_rfl)) (by unfold Func.isWrapper; first | (rw [if_pos (by decide +kernel)]; kernel_rfl) | (rw [if_neg (by decide +kernel)]; exact ⟨rfl, rfl⟩))
    (fun os started H enc _ => lifted os started H enc)
end Go.Proofs.Ytchlopmmhcobdaf.fnExactSigRight
namespace Go.Proofs.Ytchlopmmhcobdaf
theorem fnExactSigRight_proved : Rows.FnExactSigRightSaid := fnExactSigRight.over
#print axioms fnExactSigRight_proved
end Go.Proofs.Ytchlopmmhcobdaf
