/-
  At every input the law FnExactHeadGood answers true and leaves its arguments as they were. Condition: the one listed variable, impl.roundWords, holds what its own initialiser lays; the card ties it to the program's text.
-/
import Derived.Test.YtbfejeeebfknjaaDoorCards
import Derived.Test.YtbfejeeebfknjaaDoorTie
import Derived.Test.YtbfejeeebfknjaaDoorPkHeadGLaw
import Derived.WalkKit
import Derived.ProofKit
import Derived.OpenShut
import Derived.ShutString
import Derived.ChangeOld
import Derived.Below
import Derived.OpenVars
import Derived.LaidMore
import Derived.MakeChecks
import Derived.ChangeVars
import Derived.JoinedOf
import Derived.LaidLaws
import Derived.LaidHandle
import Derived.Stop.Joined
import Derived.SevenTiedAt
namespace Go.Proofs.YtbfejeeebfknjaaDoor.fnExactHeadGood
open Go.ChangeShapes Go.WideShapes Go.ChangeAt Go.RowKit
open Go.ChangeMaps (open_string shut_string)
set_option linter.unusedVariables false

theorem own : ownKnob Tryd.prog.godebug = none := by kernel_rfl
theorem laidOut : laidOutB Tryd.prog = true := by kernel_rfl
theorem theVar : Tryd.prog.globalNamed "loop.example/g00390/impl.roundWords" = some 1 := by kernel_rfl
theorem theType : (Tryd.prog.globals[1]?).map (·.type) = some 130 := by kernel_rfl
theorem oneCell : Tryd.prog.cellsOf 115 = 1 := by kernel_rfl
theorem stand9 : Tryd.prog.wantsStandIn 9 = false := by kernel_rfl
theorem stand45 : Tryd.prog.wantsStandIn 45 = false := by kernel_rfl

/-- The numbers that the row lists. -/
theorem listed : (Rows.laid_loop_example_g00390_impl_roundWords : DataW Unit) = .agg (keyL.map fun n => .lit (.int .u32 n)) := rfl

/-- What the row's list gives: the variable's cells. -/
theorem keys_of_laid {W : World} (h : laidMetH Tryd.prog Rows.fnExactHeadGoodRow.laid W) : Keys W := by
  rw [MakeChecks.laidMetH_plain _ _ _ (by kernel_rfl)] at h
  obtain ⟨ps, ⟨g0, t0, cs0, f0, p0, q0, hg0, ht0, hv0, hd0, _, _⟩, _, _⟩ := h
  obtain rfl := Option.some.inj (theVar.symm.trans hg0)
  obtain rfl := Option.some.inj (theType.symm.trans ht0)
  obtain ⟨xs, m1, rfl, hx1, hlen, hn, hel⟩ := DataW.trod_array Tryd.underlying130 hd0
  simp only [Prod.mk.injEq] at hx1
  intro j hj
  have hjx : j < xs.length := by omega
  have h0 := hel j hj
  rw [oneCell, Nat.mul_one, List.getElem?_eq_getElem hjx] at h0
  obtain ⟨n, e1, e2, _⟩ := DataW.trod_int Tryd.underlying115 h0
  have he : (Rows.laid_loop_example_g00390_impl_roundWords : DataW Unit) = .agg (xs.map (·.1)) := hx1.1
  rw [listed] at he
  simp only [DataW.agg.injEq] at he
  have hl := congrArg (fun l => l[j]?) he
  have hjk : j < keyL.length := by rw [keyL_len]; exact hj
  have hkj : keyAt j = keyL[j] := by simp [keyAt, List.getD, hjk]
  simp only [List.getElem?_map, List.getElem?_eq_getElem hjx, List.getElem?_eq_getElem hjk, Option.map_some, e2, Option.some.injEq, DataW.lit.injEq, Lit.int.injEq, true_and] at hl
  rw [World.var?_cell theVar hv0 j, hkj, hl]
  have h2 : ((cs0.toList.drop j).take 1)[0]? = some (.int .u32 n) := by rw [e1]; rfl
  simpa using h2

theorem laid_met (os : Os) (args : Array Value) : laidMetH Tryd.prog Rows.fnExactHeadGoodRow.laid (World.forCall (World.doorLaid Tryd.prog 400 os : World) (fun _ _ => 0) ⟨#[], args, []⟩).memory :=
  laidMetH_of_parts3 (fuel := 8) (laidMet_of_run' 8 (by kernel_rfl) (by kernel_rfl)) (by kernel_rfl) (by kernel_rfl)

set_option maxHeartbeats 1000000 in
set_option maxRecDepth 100000 in
theorem lifted (os : Os) (started : os.Started) (H : Type) (enc : TypeId × Value → H) :
    ReturnsInHanded {} Tryd.checked os 5 .any (fun w args => (Rows.fnExactHeadGoodSpec.pre enc Tryd.prog Tryd.f5 [] false w args ∧ laidMetH Tryd.prog Rows.fnExactHeadGoodRow.laid w) ∧ sizedMet enc Tryd.prog Tryd.f5 (OpenSpec.ofChange Rows.fnExactHeadGoodSpec) false w args)
      (Rows.fnExactHeadGoodSpec.post enc Tryd.prog Tryd.f5 false true false false) := by
  refine returnsInHanded_of_change_and (C := Tryd.checked) (X := fun w _ => laidMetH Tryd.prog Rows.fnExactHeadGoodRow.laid w) (fun _ _ _ hh h => h.of_heap hh) own started (by kernel_rfl) Tryd.func5
    (ChangeSpec.witness_shaped (enc := enc) (C := Tryd.checked) (os := os) (X := fun w _ => laidMetH Tryd.prog Rows.fnExactHeadGoodRow.laid w) false (World.doorLaid Tryd.prog 400 os) #[.string ByteArray.empty, .agg #[.string ByteArray.empty, .int .i64 0, .string ByteArray.empty, .int .i64 0, .int .i64 0, .slice none 0 0, .slice none 0 0]] 8 rfl (World.shaped_of_RefB (by kernel_rfl) (by kernel_rfl)) (by kernel_rfl) (by kernel_rfl) (by kernel_rfl) (laid_met os _)) ?_
  intro W base args ds gs before hval0 hW _ _ hL _
  have hval : ∀ (j : Nat) t v, Tryd.f5.params[j]? = some t → args[j]? = some v → Value.okWide Tryd.prog W .any base t v := hval0
  have hW' := hW
  obtain ⟨p, q, hA0, hV0, rfl, hfz, hnd⟩ := hW
  have hA : DataW.TrodAll enc Tryd.prog W 0 (fun _ => true) true Tryd.f5.params.toList args.toList ds p := hA0
  have hV : DataW.TrodVars enc Tryd.prog W (fun _ => true) ["loop.example/g00390/impl.roundWords"] gs q := hV0
  rw [Tryd.params5] at hA hval
  obtain ⟨v0, vs0, d0, ds0, p0, q0, hargs, rfl, rfl, h0, r0⟩ := trodAll_cons hA
  obtain ⟨v1, vs1, d1, ds1, p1, q1, rfl, rfl, rfl, h1, r1⟩ := trodAll_cons r0
  obtain ⟨rfl, rfl, rfl⟩ := trodAll_nil r1
  obtain rfl : args = #[v0, v1] := by cases args; simp_all
  obtain ⟨a0, rfl, rfl, rfl, w0⟩ := open_string Tryd.underlying9 (hval 0 9 v0 rfl rfl) h0
  obtain ⟨cs1, rfl, hs1⟩ := okWide_struct Tryd.underlying45 (hval 1 45 v1 rfl rfl)
  have k1 := h1
  have lt1 : ∀ x ∈ p1, x.block < W.heap.size := by obtain ⟨m, hm⟩ := k1; exact DataW.trod_lt m _ _ _ hm
  obtain ⟨fuel1, hf1⟩ := h1
  obtain ⟨lo1, ro1, si1, ti1, ke1, ve1, vp1, el1, pl1, rfl, w1⟩ := Go.Proofs.YtbfejeeebfknjaaDoor.head_arg hf1
  have hg := keys_of_laid hL
  obtain ⟨_, _, _, _, gd, _, rfl, _⟩ := trodVars_one hV
  clear hA0 hval0 hV0
  refine Calls.mono (Go.Proofs.YtbfejeeebfknjaaDoor.lawHeadGood_any a0 lo1 ro1 si1 ti1 ke1 ve1 vp1 el1 pl1 W w1.2.2.2.2.2.1 w1.2.2.2.2.2.2 w1.1 w1.2.1 w1.2.2.1 w1.2.2.2.1 w0 hg) fun e W' ⟨he, bel⟩ => ?_
  subst he
  exact ⟨_, rfl, _, _, _, [], _, _, hW', trodAll_mk1 (shut_bool Tryd.underlying4 _), (trodAll_cons_mk (shut_string Tryd.underlying9 w0) (trodAll_cons_mk (Below.trod laidOut (by kernel_rfl) (of_decide_eq_true (by kernel_rfl)) k1 bel lt1) trodAll_mk0)), Below.trodVars laidOut bel (by kernel_rfl) hV, bel.frame _, fun h => by cases h⟩

theorem said : Rows.FnExactHeadGoodSaid :=
  OpenClaim.holds_of_wide 5 Tryd.f5 rfl rfl rfl rfl rfl rfl rfl ⟨rfl, rfl, rfl, rfl, rfl⟩ rfl rfl rfl rfl rfl (by kernel_rfl) Tryd.func5 (by kernel_rfl)
    (of_decide_eq_true (by kernel_rfl)) (by unfold Func.isWrapper; rw [if_neg (of_decide_eq_false (by kernel_rfl))]; exact ⟨rfl, rfl⟩)
    (fun os started H enc _ => lifted os started H enc)

theorem card : Rows.FnExactHeadGoodCardSaid :=
  Claim7.holds_tied_plain_at .later [] _ _ _ _ said (fun _ h => by cases h) (by kernel_rfl) (fun _ h => by cases h) fnExactHeadGood_row_tie rfl ⟨rfl, rfl⟩ (by kernel_rfl) rfl
    (fun f fn hf hfn => by
      obtain rfl : f = 5 := Option.some.inj ((show Tryd.prog.funcNamed "loop.example/g00390/laws.FnExactHeadGood" = some 5 by kernel_rfl).symm.trans hf) |>.symm
      obtain rfl : fn = Tryd.f5 := (Option.some.inj (Tryd.func5.symm.trans hfn)).symm
      refine ⟨by kernel_rfl, fun j t ht => ?_⟩
      rw [Tryd.params5] at ht
      have hm := Array.mem_of_getElem? ht
      simp at hm
      rcases hm with rfl | rfl
      · exact stand9
      · exact stand45)
    (by kernel_rfl)
end Go.Proofs.YtbfejeeebfknjaaDoor.fnExactHeadGood
namespace Go.Proofs.YtbfejeeebfknjaaDoor
theorem fnExactHeadGood_card : Rows.FnExactHeadGoodCardSaid := fnExactHeadGood.card
#print axioms fnExactHeadGood_card
end Go.Proofs.YtbfejeeebfknjaaDoor
