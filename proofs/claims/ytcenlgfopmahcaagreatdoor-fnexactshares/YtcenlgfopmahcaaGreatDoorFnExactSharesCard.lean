/-
  At every input the law FnExactShares answers true and leaves its arguments as they were. Condition: the two listed variables, impl.roundWords and impl.errNoFraud, hold what their own initialisers lay; the card ties them to the program's text.
-/
import Derived.Test.YtcenlgfopmahcaaGreatDoorCards
import Derived.Test.YtcenlgfopmahcaaGreatDoorTie
import Derived.Test.YtcenlgfopmahcaaGreatDoorPkSpecShares
import Derived.WalkKit
import Derived.ProofKit
import Derived.OpenShut
import Derived.ShutString
import Derived.ChangeOld
import Derived.Below
import Derived.OpenVars
import Derived.LaidMore
import Derived.MakeChecks
import Derived.ChangeVars
import Derived.JoinedOf
import Derived.LaidLaws
import Derived.LaidHandle
import Derived.Stop.Joined
import Derived.SevenTiedAt
namespace Go.Proofs.YtcenlgfopmahcaaGreatDoor.fnExactShares
open Go.ChangeShapes Go.WideShapes Go.ChangeAt Go.RowKit
open Go.ChangeMaps (open_string shut_string)
set_option linter.unusedVariables false

theorem own : ownKnob Tryz.prog.godebug = none := by kernel_rfl
theorem laidOut : laidOutB Tryz.prog = true := by kernel_rfl
theorem theVar : Tryz.prog.globalNamed "loop.example/g00390/impl.roundWords" = some 1 := by kernel_rfl
theorem theType : (Tryz.prog.globals[1]?).map (·.type) = some 205 := by kernel_rfl
theorem oneCell : Tryz.prog.cellsOf 126 = 1 := by kernel_rfl
/-- The numbers that the row lists. -/
theorem listed : (Rows.laid_loop_example_g00390_impl_roundWords : DataW Unit) = .agg (keyL.map fun n => .lit (.int .u32 n)) := rfl
theorem theVar2 : Tryz.prog.globalNamed "loop.example/g00390/impl.errNoFraud" = some 0 := by kernel_rfl
theorem theType2 : (Tryz.prog.globals[0]?).map (·.type) = some 107 := by kernel_rfl
theorem oneCellE : Tryz.prog.cellsOf 234 = 1 := by kernel_rfl
theorem oneCellS : Tryz.prog.cellsOf 9 = 1 := by kernel_rfl
theorem star : "*" ++ "errors.errorString" = "*errors.errorString" := by decide
theorem rowE (u : TypeId) (h : Tryz.prog.typeName? 3 u = some "*errors.errorString") : u = 210 :=
  typeName_ptr_named (nm := "errors.errorString") (by rw [star]; kernel_rfl) (by kernel_rfl) (by decide) u (by rw [star]; exact h)
theorem stand31 : Tryz.prog.wantsStandIn 31 = false := by kernel_rfl

/-- What the row's list gives of a variable: its cells. -/
theorem keys_of_one {W : World} {g0 : Nat} {t0 : TypeId} {cs0 : Array Value} {f0 : Nat} {p0 : List MemPlace} (hg0 : Tryz.prog.globalNamed "loop.example/g00390/impl.roundWords" = some g0) (ht0 : (Tryz.prog.globals[g0]?).map (·.type) = some t0) (hv0 : W.var? Tryz.prog "loop.example/g00390/impl.roundWords" = some cs0)
    (hd0 : DataW.trod (fun _ => ()) Tryz.prog W 0 (fun _ => true) false f0 t0 cs0.toList = some (Rows.laid_loop_example_g00390_impl_roundWords, p0)) : Keys W := by
  obtain rfl := Option.some.inj (theVar.symm.trans hg0)
  obtain rfl := Option.some.inj (theType.symm.trans ht0)
  obtain ⟨xs, m1, rfl, hx1, hlen, hn, hel⟩ := DataW.trod_array Tryz.underlying205 hd0
  simp only [Prod.mk.injEq] at hx1
  intro j hj
  have hjx : j < xs.length := by omega
  have h0 := hel j hj
  rw [oneCell, Nat.mul_one, List.getElem?_eq_getElem hjx] at h0
  obtain ⟨n, e1, e2, _⟩ := DataW.trod_int Tryz.underlying126 h0
  have he : (Rows.laid_loop_example_g00390_impl_roundWords : DataW Unit) = .agg (xs.map (·.1)) := hx1.1
  rw [listed] at he
  simp only [DataW.agg.injEq] at he
  have hl := congrArg (fun l => l[j]?) he
  have hjk : j < keyL.length := by rw [keyL_len]; exact hj
  have hkj : keyAt j = keyL[j] := by simp [keyAt, List.getD, hjk]
  simp only [List.getElem?_map, List.getElem?_eq_getElem hjx, List.getElem?_eq_getElem hjk, Option.map_some, e2, Option.some.injEq, DataW.lit.injEq, Lit.int.injEq, true_and] at hl
  rw [World.var?_cell theVar hv0 j, hkj, hl]
  have h2 : ((cs0.toList.drop j).take 1)[0]? = some (.int .u32 n) := by rw [e1]; rfl
  simpa using h2

set_option maxRecDepth 100000 in
/-- What the row's list gives: the numbers' cells, and the sentinel's. -/
theorem keys_of_laid {W : World} (h : laidMetH Tryz.prog Rows.fnExactSharesRow.laid W) : Keys W ∧ Sentinel W := by
  rw [MakeChecks.laidMetH_plain _ _ _ (by kernel_rfl)] at h
  obtain ⟨ps, ⟨g0, t0, cs0, f0, p0, q0, hg0, ht0, hv0, hd0, ⟨g1, t1, cs1, f1, p1, q1, hg1, ht1, hv1, hd1, _, e1⟩, e0⟩, _, hrows⟩ := h
  refine ⟨keys_of_one hg0 ht0 hv0 hd0, ?_⟩
  subst e1
  subst e0
  obtain rfl := Option.some.inj (theVar2.symm.trans hg1)
  obtain rfl := Option.some.inj (theType2.symm.trans ht1)
  obtain ⟨l1⟩ := cs1
  have ok1 : ∀ u v, l1 = [.iface u v] → Value.okWide Tryz.prog W .any 0 u v := fun u v e => by
    subst e
    exact (hrows 0 0 (by simp [MemPlace.row])).2 u v (by simpa using World.var?_cell theVar2 hv1 0)
  obtain ⟨a, s, rfl, _⟩ := errorString_of_trod Tryz.underlying107 rowE Tryz.underlying210 Tryz.underlying234 rfl rfl Tryz.underlying9 oneCellE oneCellS hd1 ok1
  exact ⟨a, by simpa using World.var?_cell theVar2 hv1 0⟩

theorem laid_met (os : Os) (args : Array Value) : laidMetH Tryz.prog Rows.fnExactSharesRow.laid (World.forCall (World.doorLaid Tryz.prog 400 os : World) (fun _ _ => 0) ⟨#[], args, []⟩).memory :=
  laidMetH_of_parts3 (fuel := 8) (laidMet_of_run' 8 (by kernel_rfl) (by kernel_rfl)) (by kernel_rfl) (by kernel_rfl)

set_option maxHeartbeats 1000000 in
set_option maxRecDepth 100000 in
theorem lifted (os : Os) (started : os.Started) (H : Type) (enc : TypeId × Value → H) :
    ReturnsInHanded {} Tryz.checked os 3 .any (fun w args => (Rows.fnExactSharesSpec.pre enc Tryz.prog Tryz.f3 [] false w args ∧ laidMetH Tryz.prog Rows.fnExactSharesRow.laid w) ∧ sizedMet enc Tryz.prog Tryz.f3 (OpenSpec.ofChange Rows.fnExactSharesSpec) false w args)
      (Rows.fnExactSharesSpec.post enc Tryz.prog Tryz.f3 false true false false) := by
  refine returnsInHanded_of_change_and (C := Tryz.checked) (X := fun w _ => laidMetH Tryz.prog Rows.fnExactSharesRow.laid w) (fun _ _ _ hh h => h.of_heap hh) own started (by kernel_rfl) Tryz.func3
    (ChangeSpec.witness_shaped (enc := enc) (C := Tryz.checked) (os := os) (X := fun w _ => laidMetH Tryz.prog Rows.fnExactSharesRow.laid w) false (World.doorLaid Tryz.prog 400 os) #[.agg #[.string ByteArray.empty, .string ByteArray.empty, .slice none 0 0, .string ByteArray.empty, .int .i64 0, .string ByteArray.empty, .int .i64 0, .int .i64 0, .slice none 0 0, .slice none 0 0, .slice none 0 0, .bool false, .string ByteArray.empty, .int .i64 0, .string ByteArray.empty, .int .i64 0, .int .i64 0, .slice none 0 0, .slice none 0 0, .string ByteArray.empty, .int .i64 0, .string ByteArray.empty, .int .i64 0, .int .i64 0, .slice none 0 0, .slice none 0 0, .slice none 0 0]] 8 rfl (World.shaped_of_RefB (by kernel_rfl) (by kernel_rfl)) (by kernel_rfl) (by kernel_rfl) (by kernel_rfl) (laid_met os _)) ?_
  intro W base args ds gs before hval0 hW _ _ hL _
  have hval : ∀ (j : Nat) t v, Tryz.f3.params[j]? = some t → args[j]? = some v → Value.okWide Tryz.prog W .any base t v := hval0
  have hW' := hW
  obtain ⟨p, q, hA0, hV0, rfl, hfz, hnd⟩ := hW
  have hA : DataW.TrodAll enc Tryz.prog W 0 (fun _ => true) true Tryz.f3.params.toList args.toList ds p := hA0
  have hV : DataW.TrodVars enc Tryz.prog W (fun _ => true) ["loop.example/g00390/impl.roundWords", "loop.example/g00390/impl.errNoFraud"] gs q := hV0
  rw [Tryz.params3] at hA hval
  obtain ⟨v0, vs0, d0, ds0, p0, q0, hargs, rfl, rfl, h0, r0⟩ := trodAll_cons hA
  obtain ⟨rfl, rfl, rfl⟩ := trodAll_nil r0
  obtain rfl : args = #[v0] := by cases args; simp_all
  obtain ⟨cs0, rfl, hs0⟩ := okWide_struct Tryz.underlying31 (hval 0 31 v0 rfl rfl)
  have k0 := h0
  have lt0 : ∀ x ∈ p0, x.block < W.heap.size := by obtain ⟨m, hm⟩ := k0; exact DataW.trod_lt m _ _ _ hm
  obtain ⟨fuel0, hf0⟩ := h0
  obtain ⟨t0, l0, va0, vb0, vc0, vp0, vd0, ve0, vf0, vg0, vh0, rfl, w0⟩ := Go.Proofs.YtcenlgfopmahcaaGreatDoor.watch_arg hf0
  have hg := keys_of_laid hL
  obtain ⟨_, _, _, _, gd, _, _, _, _, _, ge, _, rfl, _⟩ := trodVars_two hV
  clear hA0 hval0 hV0
  refine Calls.mono (Go.Proofs.YtcenlgfopmahcaaGreatDoor.lawShares_any t0 l0 va0 vb0 vc0 vp0 vd0 ve0 vf0 vg0 vh0 W w0 hg.1 hg.2) fun e W' ⟨he, bel⟩ => ?_
  subst he
  exact ⟨_, rfl, _, _, _, [], _, _, hW', trodAll_mk1 (shut_bool Tryz.underlying4 _), (trodAll_cons_mk (Below.trod laidOut (by kernel_rfl) (of_decide_eq_true (by kernel_rfl)) k0 bel lt0) trodAll_mk0), Below.trodVars laidOut bel (by kernel_rfl) hV, bel.frame _, fun h => by cases h⟩

theorem said : Rows.FnExactSharesSaid :=
  OpenClaim.holds_of_wide 3 Tryz.f3 rfl rfl rfl rfl rfl rfl rfl ⟨rfl, rfl, rfl, rfl, rfl⟩ rfl rfl rfl rfl rfl (by kernel_rfl) Tryz.func3 (by kernel_rfl)
    (of_decide_eq_true (by kernel_rfl)) (by unfold Func.isWrapper; rw [if_neg (of_decide_eq_false (by kernel_rfl))]; exact ⟨rfl, rfl⟩)
    (fun os started H enc _ => lifted os started H enc)

theorem card : Rows.FnExactSharesCardSaid :=
  Claim7.holds_tied_plain_at .later [] _ _ _ _ said (fun _ h => by cases h) (by kernel_rfl) (fun _ h => by cases h) fnExactShares_row_tie rfl ⟨rfl, rfl⟩ (by kernel_rfl) rfl
    (fun f fn hf hfn => by
      obtain rfl : f = 3 := Option.some.inj ((show Tryz.prog.funcNamed "loop.example/g00390/laws.FnExactShares" = some 3 by kernel_rfl).symm.trans hf) |>.symm
      obtain rfl : fn = Tryz.f3 := (Option.some.inj (Tryz.func3.symm.trans hfn)).symm
      refine ⟨by kernel_rfl, fun j t ht => ?_⟩
      rw [Tryz.params3] at ht
      have hm := Array.mem_of_getElem? ht
      simp at hm
      rcases hm with rfl
      exact stand31)
    (by kernel_rfl)
end Go.Proofs.YtcenlgfopmahcaaGreatDoor.fnExactShares
namespace Go.Proofs.YtcenlgfopmahcaaGreatDoor
theorem fnExactShares_card : Rows.FnExactSharesCardSaid := fnExactShares.card
#print axioms fnExactShares_card
end Go.Proofs.YtcenlgfopmahcaaGreatDoor
