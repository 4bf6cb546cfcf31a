/-
  errors.Is at the program's one sentinel, by two contracts: nil is not it; a reason of the program's own comes down to it. Go's own text of errors.Is is walked; what package reflectlite answers is the model's.
-/
import Derived.Test.YtpglcbidfghfkaaGreatDoorRows
import Derived.WalkKit
import Derived.LaidEql
import Derived.Stop.Asserts
import Derived.RowKitTokens
import Derived.Below
namespace Go.Proofs.YtpglcbidfghfkaaGreatDoor
open Go.RowKit Go.Extern.Stop Go.Stop Go.Extern
set_option linter.unusedVariables false

theorem is_typeOf (v : Value) (w : World) : (ReflectliteType.typeOf #[.iface 285 v]).run Tryz.prog w = .ok (.iface 213 (.agg #[.pointer (some ⟨2, 285, none⟩)])) w := by kernel_rfl
theorem is_comparable : ∃ F : Array Value → Sem Value, find Tryz.f287 = some F ∧ ∀ w, (F #[.agg #[.pointer (some ⟨2, 285, none⟩)]]).run Tryz.prog w = .ok (.bool true) w :=
  ⟨ReflectliteType.method fun t => do Rtype.noPackHeld "Comparable" t; pure (.bool (← typeInfo t).comparable), by kernel_rfl, fun w => by kernel_rfl⟩
theorem is_methodComparable (v : Value) (w : World) : (Go.method 421 213 v "Comparable").run Tryz.prog w = .ok (287, v) w := by kernel_rfl
theorem is_comp : (Tryz.prog.info? 285).map (·.comparable) = some true := by kernel_rfl
theorem is_size : (Tryz.prog.info? 309).map (·.size) = some 1 := by kernel_rfl
theorem is_noIs (v : Value) (xT : TypeId) (w : World) : (Instr.typeAssert (.iface 181 v) xT 215 true).run Tryz.prog w = .ok (.tuple #[.nilIface, .bool false]) w := run_typeAssert_lacksB Tryz.underlying215 (by kernel_rfl) (by kernel_rfl) v xT w
theorem is_unwrap (v : Value) (xT : TypeId) (w : World) : (Instr.typeAssert (.iface 181 v) xT 218 true).run Tryz.prog w = .ok (.tuple #[.iface 181 v, .bool true]) w := run_typeAssert_hasB Tryz.underlying218 (by kernel_rfl) v xT w
theorem is_methodUnwrap (v : Value) (w : World) : (Go.method 421 181 v "Unwrap").run Tryz.prog w = .ok (281, v) w := by kernel_rfl

/-- The program's sentinel: its variable holds a pointer to an error of the library's own make. -/
def Sentinel (w : World) : Prop := ∃ a, w.cell? ⟨0, 0, none⟩ = some (.iface 285 (.pointer (some a)))
theorem Sentinel.lt {w : World} (h : Sentinel w) : 0 < w.heap.size := by
  obtain ⟨a, h⟩ := h
  exact World.block_lt_of_cell? w _ h
theorem Sentinel.on {w w' : World} (h : Sentinel w) (hb : Below w.heap.size w w') : Sentinel w' := by
  have hlt := h.lt
  obtain ⟨a, h⟩ := h
  exact ⟨a, (hb.cell (p := ⟨0, 0, none⟩) hlt).trans h⟩

/-- errors.Is(nil, the sentinel). -/
theorem is_nil (a : Addr) (w : World) :
    Calls Tryz.prog 85 #[.nilIface, .iface 285 (.pointer (some a))] w fun e w' => e = .returned (.bool false) ∧ w' = w := by
  have hn := run_eql_iface_nil_left (P := Tryz.prog) w 285 (.pointer (some a)) Tryz.underlying109
  go_enter Tryz.func85, Tryz.ntmps85
  go_wp2
  go_ret
  exact ⟨rfl, rfl⟩

/-- errors.Is(a reason, the sentinel). -/
theorem is_reason (s : ByteArray) (a : Addr) (w : World) (hc : w.cell? ⟨0, 0, none⟩ = some (.iface 285 (.pointer (some a)))) :
    Calls Tryz.prog 85 #[.iface 181 (.string s), .iface 285 (.pointer (some a))] w fun e w' => e = .returned (.bool true) ∧ w' = w := by
  obtain ⟨i, hi, hcmp⟩ := Option.map_eq_some_iff.1 is_comp
  obtain ⟨j, hj, hjs⟩ := Option.map_eq_some_iff.1 is_size
  have h8 := @run_callFunc_extern Tryz.prog 170 _ ReflectliteType.typeOf Tryz.func170 (by kernel_rfl) (by kernel_rfl) (by kernel_rfl) (by kernel_rfl)
  obtain ⟨F, hF, cT⟩ := is_comparable
  have h32 := @run_callFunc_extern Tryz.prog 287 _ F Tryz.func287 (by kernel_rfl) (by kernel_rfl) (by kernel_rfl) hF
  have tT := is_typeOf
  have mR := is_methodComparable
  have nW := is_noIs
  have uW := is_unwrap
  have mU := is_methodUnwrap
  have heq := run_eql_iface_ptr_same (P := Tryz.prog) w a Tryz.underlying109 Tryz.underlying285 hi hcmp hj
  have hty := run_eql_iface_types (P := Tryz.prog) 181 285 (.string s) (.pointer (some a)) Tryz.underlying109 (by decide) w
  go_enter Tryz.func85, Tryz.ntmps85
  go_wp2
  refine wp_loop_rounds 2 ?_
  rw [rounds_succ]
  go_wp2
  rw [rounds_succ]
  go_wp2
  go_ret
  exact ⟨rfl, rfl⟩
end Go.Proofs.YtpglcbidfghfkaaGreatDoor
