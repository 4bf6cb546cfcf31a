/-
  Contracts of the document's draws, more: the making of a source, a number at some limit, and the draws of chapter 2.
-/
import Derived.Test.YtchlopmmhcobdaaDoorDraw
namespace Go.Proofs.YtchlopmmhcobdaaDoor
open Go.RowKit Go.Lib
set_option linter.unusedVariables false

theorem SrcM.frozen3 {w0 w : World} {q : Nat} {a : Option Addr} {len cap : Nat} {k sz : Int} (h : SrcM w0 q a len cap k sz w) : w.frozen? ⟨q, 3, none⟩ = false := by
  obtain ⟨mix, hq, h0, h1, _⟩ := h
  simp [World.frozen?, hq]
theorem SrcM.sized {w0 w : World} {q : Nat} {a : Option Addr} {len cap : Nat} {k sz : Int} (h : SrcM w0 q a len cap k sz w) (x : Int) : SrcM w0 q a len cap k x (w.setCell ⟨q, 3, none⟩ (.int .i64 x)) := by
  obtain ⟨mix, hq, h0, h1, hg⟩ := h
  exact ⟨mix, heap_set hq _, h0, h1, grown_set hg _ _⟩

/-- A pointer to a new source; of what was there nothing has turned. -/
def PtrAns (w : World) (e : Ending) (w' : World) : Prop := e = .returned (.pointer (some ⟨w.heap.size, 0, none⟩)) ∧ Src w' w.heap.size ∧ Below w.heap.size w w'

theorem below_grown {w w' : World} {o : Obj} (h : (w.alloc o).grownBy w' (some w.heap.size)) : Below w.heap.size w w' :=
  ⟨h.os, h.tape, h.output, by have := h.size; simp at this; omega, fun k hk => (h.block k (by simp; omega) (by simp; omega)).trans (heap_alloc_old w o hk)⟩

theorem src_done {w w' : World} {o : Obj} {a : Option Addr} {len cap : Nat} {sz : Int} (hc : Code w w.heap.size a len) (hl : len ≤ 1048576) (h0 : 0 ≤ sz) (h1 : sz ≤ 12) (h : SrcM (w.alloc o) w.heap.size a len cap ((0 : Nat) : Int) sz w') :
    Src w' w.heap.size ∧ Below w.heap.size w w' := by
  obtain ⟨mix, hq, hm0, hm1, hg⟩ := h
  have hb := below_grown hg
  refine ⟨⟨a, len, cap, 0, mix, sz, hq, Nat.zero_le _, hl, hm0, hm1, h0, h1, ?_⟩, hb⟩
  rcases hc with hc | ⟨b, off, ha, hbq, hc⟩
  · exact .inl hc
  · refine .inr ⟨b, off, ha, hbq, fun i hi => ?_⟩
    obtain ⟨c, x0, x1, x2⟩ := hc i hi
    exact ⟨c, x0, x1, (hb.cell (p := ⟨b, off + i, none⟩) hbq).trans x2⟩

theorem first_of {w0 w : World} {q : Nat} {a : Option Addr} {len cap : Nat} {k sz : Int} (h : SrcM w0 q a len cap k sz w) (x : Int) : SrcM w0 q a len cap k sz (w.setCell ⟨q, 2, none⟩ (.int .u64 (IntKind.u64.wrap x))).drew :=
  (SrcM.mixed h _ (by rw [IntKind.wrap_u64]; omega) (by rw [IntKind.wrap_u64]; omega)).drew

set_option maxHeartbeats 1000000 in
theorem source_any (a : Option Addr) (len cap : Nat) (w : World) (hc : Code w w.heap.size a len) (hl : len ≤ 1048576) :
    Calls Tryd.prog 59 #[.slice a len cap] w fun e w' => PtrAns w e w' := by
  have HD : Hid (∀ (o : Obj) (sz : Int) (w' : World), 0 ≤ sz → sz ≤ 12 → SrcM (w.alloc o) w.heap.size a len cap ((0 : Nat) : Int) sz w' → Src w' w.heap.size ∧ Below w.heap.size w w') := fun o sz w' h0 h1 h => src_done hc hl h0 h1 h
  have HC : Hid (Code w w.heap.size a len) := hc
  clear hc
  go_enter Tryd.func59, Tryd.ntmps59
  go_wp2
  obtain ⟨o, ho⟩ : ∃ o, o = Obj.cells #[.slice a len cap, .int .i64 0, .int .u64 88172645463325252, .int .i64 0] 120 := ⟨_, rfl⟩
  have h0 : SrcM (w.alloc o) w.heap.size a len cap ((0 : Nat) : Int) 0 (w.alloc o) := ⟨88172645463325252, by rw [ho]; exact (MapKept.heap_alloc w _).1, by omega, by omega, grown_refl _ _⟩
  rw [← ho]
  have HO : Hid (SrcM (w.alloc o) w.heap.size a len cap ((0 : Nat) : Int) 0 (w.alloc o)) := h0
  clear h0 ho
  go_loopw [4] (fun i wr => ∃ j : Nat, j ≤ len ∧ i = .int .i64 j ∧ SrcM (w.alloc o) w.heap.size a len cap ((0 : Nat) : Int) 0 wr)
    (fun i _ => len - (intOf i).toNat)
  case atStart => exact ⟨0, Nat.zero_le _, rfl, HO.out⟩
  case round =>
    obtain ⟨j, hj, rfl, hM⟩ := hrel
    obtain ⟨mix, hx0, hx1, ⟨c0, c1, c2, c3⟩, f1, f2⟩ := hM.cells
    have f3 := hM.frozen3
    have HM : Hid (SrcM (w.alloc o) w.heap.size a len cap ((0 : Nat) : Int) 0 wr) := hM
    clear hM HO
    by_cases h1 : j < len
    · by_cases h2 : j < 64
      · rcases HC.out with h | ⟨b, off, rfl, hbq, hcells⟩
        · omega
        obtain ⟨v, hv0, hv1, hcell0⟩ := hcells j h1
        have hcell : wr.cell? ⟨b, off + j, none⟩ = some (.int .u8 v) := by
          obtain ⟨_, _, _, _, hg⟩ := HM.out
          exact ((below_grown hg).cell (p := ⟨b, off + j, none⟩) hbq).trans hcell0
        have h1I : (j : Int) < (len : Int) := by omega
        have h2I : (j : Int) < 64 := by omega
        clear hcells hcell0 HC
        go_wp2
        go_region
        go_wp2
        go_roundw
        case rel => exact ⟨j + 1, by omega, by go_num, first_of HM.out _⟩
        case measure => simp [intOf]; omega
      · clear HC
        by_cases hz : (12 : Int) < (len : Int) / 20
        · go_wp2
          go_ret
          exact ⟨rfl, HD.out o _ _ (by omega) (by omega) ((HM.out.sized _).sized _)⟩
        · go_wp2
          go_ret
          exact ⟨rfl, HD.out o _ _ (by omega) (by omega) (HM.out.sized _)⟩
    · clear HC
      by_cases hz : (12 : Int) < (len : Int) / 20
      · go_wp2
        go_ret
        exact ⟨rfl, HD.out o _ _ (by omega) (by omega) ((HM.out.sized _).sized _)⟩
      · go_wp2
        go_ret
        exact ⟨rfl, HD.out o _ _ (by omega) (by omega) (HM.out.sized _)⟩

/-- A row of bytes that came in can be read. -/
theorem code_of_row {w : World} {a : Option Addr} {len cap : Nat} {zs : List Int} (h : (a = none ∧ len = 0 ∧ cap = 0 ∧ zs = []) ∨
    ∃ x, a = some x ∧ len ≤ cap ∧ cap ≤ maxLen ∧ zs.length = cap ∧ (∀ i, i < zs.length → w.cell? (x.add i) = some (.int .u8 (zs.getD i 0))) ∧ ∀ n ∈ zs, (Lit.int .u8 n).wf = true) : Code w w.heap.size a len ∧ len ≤ maxLen := by
  rcases h with ⟨_, h, _, _⟩ | ⟨x, rfl, hl, hm, hz, hcell, hwz⟩
  · exact ⟨.inl h, by omega⟩
  refine ⟨?_, Nat.le_trans hl hm⟩
  by_cases h0 : len = 0
  · exact .inl h0
  obtain ⟨b, off, spot⟩ := x
  have hc := hcell 0 (by omega)
  have hspot : spot = none := by simpa [Addr.add] using World.cell?_spot hc
  subst hspot
  have hadd : ∀ i, (⟨b, off, none⟩ : Addr).add i = ⟨b, off + i, none⟩ := fun i => by unfold Addr.add; split <;> simp_all
  rw [hadd] at hc
  refine .inr ⟨b, off, rfl, World.block_lt_of_cell? w _ hc, fun i hi => ?_⟩
  have hi' : i < zs.length := by omega
  have h1 := hcell i hi'
  rw [hadd] at h1
  have hmem : zs.getD i 0 ∈ zs := by rw [List.getD, List.getElem?_eq_getElem hi']; exact List.getElem_mem hi'
  have hw := hwz _ hmem
  have hbd : 0 ≤ zs.getD i 0 ∧ zs.getD i 0 ≤ 255 := by simpa [Lit.wf, IntKind.min, IntKind.max, IntKind.bits, IntKind.signed] using hw
  exact ⟨_, hbd.1, by omega, h1⟩
end Go.Proofs.YtchlopmmhcobdaaDoor
