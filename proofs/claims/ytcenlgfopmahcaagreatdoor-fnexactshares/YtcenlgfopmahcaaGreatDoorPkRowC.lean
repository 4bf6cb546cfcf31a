/-
  Laws on a row of bytes that a conversion from a text has made, and that is appended to.
-/
import Derived.Test.YtcenlgfopmahcaaGreatDoorPkMem
import Derived.Deep.MidRow
import Derived.ArgAppend
import Derived.Lib.ConvBytes
namespace Go.Proofs.YtcenlgfopmahcaaGreatDoor
open Go.RowKit Go.Lib
set_option linter.unusedVariables false

/-- The slice v holds the bytes l, in a row that lies behind B and may be written. -/
def OwnC (w : World) (B : Nat) (v : Value) (l : List UInt8) : Prop :=
  ∃ g cap, v = .slice (some ⟨g, 0, none⟩) l.length cap ∧ B ≤ g ∧ g < w.heap.size ∧ l.length ≤ cap ∧ w.rangeAt g 0 (byteCells l) ∧ w.there g 0 cap

theorem OwnC.below {w w' : World} {B : Nat} {v : Value} {l : List UInt8} (h : OwnC w B v l) (hb : Below w.heap.size w w') : OwnC w' B v l := by
  obtain ⟨g, cap, hv, hB, hg, hc, hr, ht⟩ := h
  refine ⟨g, cap, hv, hB, Nat.lt_of_lt_of_le hg hb.size, hc, fun j u hu => (hb.cell (p := ⟨g, 0 + j, none⟩) hg).trans (hr j u hu), fun j hj => ?_⟩
  rw [hb.cell (p := ⟨g, 0 + j, none⟩) hg, hb.frozen (p := ⟨g, 0 + j, none⟩) hg]
  exact ht j hj

theorem ownC_of_row {w : World} {B n : Nat} {v : Value} {l : List UInt8} (h : w.ownsRow B 5 1 v n (byteCells l)) (hn : n = l.length) (h0 : 0 < n) : OwnC w B v l := by
  subst hn
  rcases h.2 with ⟨_, h0'⟩ | ⟨g, cap, cur, rfl, hB, hg, hnc, _, hcs, htake⟩
  · omega
  · refine ⟨g, cap, rfl, hB, (Array.getElem?_eq_some_iff.1 hg).1, hnc, fun j u hu => ?_, fun j hj => ?_⟩
    · rw [Nat.zero_add, cell_of_row w g j _ _ _ hg]
      rw [← htake, List.getElem?_take] at hu
      split at hu
      · simpa using hu
      · cases hu
    · rw [Nat.zero_add, cell_of_row w g j _ _ _ hg, frozen_of_row w g j _ _ hg]
      exact ⟨by simp [hcs]; omega, rfl⟩

theorem byteCells_app (l : List UInt8) (c : UInt8) : byteCells (l ++ [c]) = byteCells l ++ [.int .u8 c.toNat] := by simp [byteCells]

/-- 'append(row, c)' on such a row. -/
theorem wp_app_byteC {w : World} {ops : Array Oper} {rest : List Oper} {o : Oper} {a : Act} {Q : Exit → Act → World → Prop} (hgd : o.guard = none) (s x : Operand)
    (ho : o.op = .call { callee := .builtin .append, args := #[s, x], argTypes := #[87, 87] }) (B : Nat) (v : Value) (l : List UInt8) (hs : a.eval s = v) (hown : OwnC w B v l) (c : UInt8) (y : Int) (hy : y = c.toNat)
    (hx : a.eval x = .slice (some ⟨w.heap.size, 0, none⟩) 1 1) (hl : l.length ≤ 1073741824) (hB : B ≤ w.heap.size)
    (h : ∀ v' w', OwnC w' B v' (l ++ [c]) → Below B w w' → wpList Tryz.prog ops Q rest (a.put o.dst v') w') : wpList Tryz.prog ops Q (o :: rest) a (w.alloc (.cells #[.int .u8 y] 5)) := by
  obtain ⟨i0, hi, hz0, hz1, hz2⟩ := info_parts infoByte
  have hal : Below w.heap.size w (w.alloc (.cells #[.int .u8 y] 5)) := (Below.refl _ _).alloc (Nat.le_refl _) _
  obtain ⟨g, cap, rfl, hgB, hg, hc, hr, ht⟩ := hown.below hal
  have hg' : g < w.heap.size := by
    obtain ⟨g2, cap2, e2, _, h2, _⟩ := hown
    simp at e2
    omega
  have hbl : (byteCells l).length = l.length := byteCells_length l
  refine wpList_plain hgd fun K hK => ?_
  by_cases hroom : l.length + 1 ≤ cap
  · have hrun := run_append_room_cells (P := Tryz.prog) (w.alloc (.cells #[.int .u8 y] 5)) 87 o.type 5 i0 Tryz.underlying87 hi g 0 l.length cap ⟨w.heap.size, 0, none⟩ 1 1 [.int .u8 y] (by rw [hz1]; rfl)
      (cell_one_new _ _ _) (by intro u hu; simp at hu; subst hu; rfl) hroom (fun j hj => by
        have hj0 : j = 0 := by simp at hj; omega
        subst hj0
        have := (ht l.length (by omega)).1
        rw [hz1]
        simpa using this) (fun j hj => by
        have hj0 : j = 0 := by simp at hj; omega
        subst hj0
        have := (ht l.length (by omega)).2
        rw [hz1]
        simpa using this)
    unfold Oper.wp
    simp [execOp, ho, resolve, invoke, builtin, hs, hx, hrun, Result.andThen]
    refine hK _ _ (h _ _ ?_ ?_)
    · rw [hz1, Nat.mul_one]
      refine ⟨g, cap, by simp, hgB, ?_, by simp; omega, ?_, World.there_setCells ht _ _ _⟩
      · have hsz := (World.keptBut_setCells g (may := fun _ => True) [Value.int .u8 y] l.length (w.alloc (.cells #[.int .u8 y] 5)) (fun _ _ => trivial)).size
        omega
      · rw [byteCells_app]
        have h1 := World.rangeAt_setCells_apart hr g l.length [Value.int .u8 y] (by right; left; rw [hbl]; omega)
        have h2 := World.rangeAt_setCells_same (w.alloc (.cells #[.int .u8 y] 5)) g l.length [Value.int .u8 y] (fun j hj => by
          have hj0 : j = 0 := by simp at hj; omega
          subst hj0
          have := ht l.length (by omega)
          simpa using this)
        intro j u hu
        by_cases hj : j < l.length
        · rw [List.getElem?_append_left (by omega)] at hu
          exact h1 j u hu
        · rw [List.getElem?_append_right (by omega), hbl] at hu
          have := h2 (j - l.length) u (by rw [hy]; exact hu)
          rw [show 0 + j = l.length + (j - l.length) by omega]
          exact this
    · rw [hz1, Nat.mul_one]
      exact ((Below.refl B w).alloc hB (.cells #[.int .u8 y] 5)).setCell (p := ⟨g, l.length, none⟩) hgB _
  · obtain ⟨v', w', hrun, r1, r2⟩ := run_append_arg_grows (P := Tryz.prog) (w.alloc (.cells #[.int .u8 y] 5)) 87 o.type 5 i0 (.int .u8 0) 1 1 Tryz.underlying87 hi hz0 hz1 hz2 rfl (by decide) ⟨g, 0, none⟩ l.length cap (byteCells l) (by rw [hbl]; omega)
      (fun j u hu => by rw [Addr.add_mid]; exact hr j u hu) ⟨w.heap.size, 0, none⟩ 1 1 [.int .u8 y] rfl (cell_one_new _ _ _) (by omega) (by unfold maxLen; omega) (by omega)
    unfold Oper.wp
    simp [execOp, ho, resolve, invoke, builtin, hs, hx, hrun, Result.andThen]
    refine hK _ _ (h _ _ ?_ ?_)
    · have h3 : w'.ownsRow (w.alloc (.cells #[.int .u8 y] 5)).heap.size 5 1 v' (l.length + 1) (byteCells (l ++ [c])) := by
        rw [byteCells_app, ← hy]
        exact r1
      obtain ⟨g2, cap2, e1, e2, e3⟩ := ownC_of_row h3 (by simp) (by omega)
      exact ⟨g2, cap2, e1, Nat.le_trans (Nat.le_trans hB (by simp)) e2, e3⟩
    · exact ((Below.refl B w).alloc hB _).grown r2 (by simp; omega) (fun k hk => by cases hk)

/-- A part of such a row, as a text. -/
theorem conv_part {w : World} {B : Nat} {v : Value} {l : List UInt8} (h : OwnC w B v l) (k : Nat) (hk : 64 * k + 64 ≤ l.length) (hl : l.length ≤ 1048576) :
    ∃ v1, (Instr.slice 87 v (some (.int .i64 (64 * (k : Int)))) (some (.int .i64 (64 * (k : Int) + 64))) none).run Tryz.prog w = .ok v1 w ∧ (convert 87 9 v1).run Tryz.prog w = .ok (.string ⟨((l.drop (64 * k)).take 64).toArray⟩) w := by
  obtain ⟨g, cap, rfl, hgB, hg, hc, hr, ht⟩ := h
  have hel : Tryz.prog.elem 87 = 5 := by kernel_rfl
  have hun : Tryz.prog.underlying 87 = some (.slice (Tryz.prog.elem 87)) := by rw [hel]; exact Tryz.underlying87
  have hsl := run_slice_lh (P := Tryz.prog) w 87 (some ⟨g, 0, none⟩) l.length cap hun .i64 .i64 (64 * (k : Int)) (64 * (k : Int) + 64) (by omega) (by omega) (by omega)
  have hso : (sizeOf (Tryz.prog.elem 87)).run Tryz.prog w = .ok 1 w := by
    obtain ⟨i0, hi, hz0, hz1, hz2⟩ := info_parts infoByte
    simp [sizeOf, typeInfo, hel, hi, hz1]
  have e1 : (64 * (k : Int)).toNat = 64 * k := by omega
  have e2 : (64 * (k : Int) + 64).toNat = 64 * k + 64 := by omega
  have e3 : 64 * k + 64 - 64 * k = 64 := by omega
  rw [hso, e1, e2] at hsl
  have hne : ¬ cap = 64 * k := by omega
  have hadd : (⟨g, 0, none⟩ : Addr).add (64 * k * 1) = ⟨g, 64 * k, none⟩ := by rw [Addr.add_mid]; simp
  simp only [Result.andThen, sliced, if_neg hne, Option.map_some, hadd, e3] at hsl
  refine ⟨_, hsl, ?_⟩
  have hlen : ((l.drop (64 * k)).take 64).length = 64 := by simp; omega
  have h := run_convert_bytes_arg (P := Tryz.prog) w 87 5 Tryz.underlying87 Tryz.underlying5 g (64 * k) 64 (cap - 64 * k) (((l.drop (64 * k)).take 64).map fun c => (c.toNat : Int)) (by simpa using hlen) (fun i hi => by
    have hil : 64 * k + i < l.length := by omega
    have h1 := hr (64 * k + i) (.int .u8 (l[64 * k + i].toNat)) (by simp [byteCells, hil])
    rw [Nat.zero_add] at h1
    rw [h1]
    simp [List.getD, hi, hil]) 9 Tryz.underlying9
  rw [h]
  exact congrArg (fun z => Result.ok (Value.string z) w) (by simp [strOfNums, Function.comp_def])
end Go.Proofs.YtcenlgfopmahcaaGreatDoor
