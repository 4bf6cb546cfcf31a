/-
  Contracts of the document's draws: a source of bytes, a number below a bound, some bytes. What they answer is told by bounds alone; of memory only the source's own block turns.
-/
import Derived.Test.YtkfmhmimclmigaaDoorPkMem
import Derived.BigRegion
import Derived.RegionTactic
import Derived.Deep.QuietTactic
import Derived.BigQuiet
import Derived.Deep.DeepCutAuto
import Derived.Laws.BitsAllLaws
namespace Go.Proofs.YtkfmhmimclmigaaDoor
open Go.RowKit Go.Lib
set_option linter.unusedVariables false

/-- Bytes that can be read at a. -/
def Code (w : World) (q : Nat) (a : Option Addr) (len : Nat) : Prop :=
  len = 0 ∨ ∃ b off, a = some ⟨b, off, none⟩ ∧ b < q ∧ ∀ i, i < len → ∃ c : Int, 0 ≤ c ∧ c < 256 ∧ w.cell? ⟨b, off + i, none⟩ = some (.int .u8 c)
/-- Block q holds a source. -/
def Src (w : World) (q : Nat) : Prop :=
  ∃ (a : Option Addr) (len cap k : Nat) (mix sz : Int), w.heap[q]? = some (.cells #[.slice a len cap, .int .i64 k, .int .u64 mix, .int .i64 sz] 39 (0, 0)) ∧ k ≤ len ∧ len ≤ 1048576 ∧ 0 ≤ mix ∧ mix < 18446744073709551616 ∧ 0 ≤ sz ∧ sz ≤ 12 ∧ Code w q a len
/-- The ending hands back a number from 0 to below most (0 where most is at most 1); the source stays one, and nothing else has turned. -/
def NumAns (most : Int) (q : Nat) (w : World) (e : Ending) (w' : World) : Prop :=
  ∃ v : Int, e = .returned (.int .i64 v) ∧ 0 ≤ v ∧ (v < most ∨ v = 0) ∧ Src w' q ∧ w.grownBy w' (some q)

theorem Code.grown {w w' : World} {q : Nat} {a : Option Addr} {len : Nat} (h : Code w q a len) (hg : w.grownBy w' (some q)) : Code w' q a len := by
  rcases h with h | ⟨b, off, ha, hb, hc⟩
  · exact .inl h
  · refine .inr ⟨b, off, ha, hb, fun i hi => ?_⟩
    obtain ⟨c, h0, h1, h2⟩ := hc i hi
    exact ⟨c, h0, h1, hg.cell h2 (by simp; omega)⟩
theorem grown_set {w w' : World} {q : Nat} (h : w.grownBy w' (some q)) (i : Nat) (v : Value) : w.grownBy (w'.setCell ⟨q, i, none⟩ v) (some q) :=
  ⟨h.os, h.tape, h.output, by simpa [World.setCell] using h.size, fun k hk hne => by
    rw [Below.heap_setCell _ _ _ _ (by intro e; exact hne (by simp [e]))]; exact h.block k hk hne⟩
theorem grown_drew {w w' : World} {r : Option Nat} (h : w.grownBy w' r) : w.grownBy w'.drew r := ⟨h.os, h.tape, h.output, h.size, h.block⟩
theorem grown_refl (w : World) (r : Option Nat) : w.grownBy w r := ⟨rfl, rfl, rfl, Nat.le_refl _, fun _ _ _ => rfl⟩
theorem grown_below {w1 w2 w3 : World} {r : Option Nat} (h : w1.grownBy w2 r) (k : Below w1.heap.size w2 w3) : w1.grownBy w3 r :=
  ⟨k.os.trans h.os, k.tape.trans h.tape, k.output.trans h.output, Nat.le_trans h.size k.size, fun i hi hne => (k.block i hi).trans (h.block i hi hne)⟩
theorem grown_trans {w1 w2 w3 : World} {r : Option Nat} (h : w1.grownBy w2 r) (k : w2.grownBy w3 r) : w1.grownBy w3 r :=
  ⟨k.os.trans h.os, k.tape.trans h.tape, k.output.trans h.output, Nat.le_trans h.size k.size, fun i hi hne => (k.block i (Nat.lt_of_lt_of_le hi h.size) hne).trans (h.block i hi hne)⟩

set_option maxHeartbeats 1000000 in
theorem n_small (q : Nat) (most : Int) (w : World) (h : Src w q) (hm : most ≤ 1) :
    Calls Tryd.prog 13 #[.pointer (some ⟨q, 0, none⟩), .int .i64 most] w fun e w' => NumAns most q w e w' := by
  go_enter Tryd.func13, Tryd.ntmps13
  go_wp2
  go_ret
  exact ⟨0, rfl, by omega, by omega, h, grown_refl _ _⟩

/-- Block q holds a source at place k, whatever its mix; since w0 nothing else has turned. -/
def SrcM (w0 : World) (q : Nat) (a : Option Addr) (len cap : Nat) (k sz : Int) (w : World) : Prop :=
  ∃ mix : Int, w.heap[q]? = some (.cells #[.slice a len cap, .int .i64 k, .int .u64 mix, .int .i64 sz] 39 (0, 0)) ∧ 0 ≤ mix ∧ mix < 18446744073709551616 ∧ w0.grownBy w (some q)

theorem heap_set {w : World} {q i : Nat} {cs : Array Value} {t : TypeId} {fr : Nat × Nat} (h : w.heap[q]? = some (.cells cs t fr)) (v : Value) : (w.setCell ⟨q, i, none⟩ v).heap[q]? = some (.cells (cs.setIfInBounds i v) t fr) := by
  have hlt : q < w.heap.size := (Array.getElem?_eq_some_iff.1 h).1
  have hv : w.heap[q] = .cells cs t fr := (Array.getElem?_eq_some_iff.1 h).2
  simp only [World.setCell]
  rw [Array.getElem?_eq_getElem (by simpa using hlt), Array.getElem_modify]
  simp [hv]
theorem bits_u64_bd (op : BinOp) (a b : Int) : 0 ≤ bits op .u64 a b ∧ bits op .u64 a b < 18446744073709551616 := by
  unfold bits
  simp only [IntKind.wrap_u64]
  omega
theorem SrcM.cells {w0 w : World} {q : Nat} {a : Option Addr} {len cap : Nat} {k sz : Int} (h : SrcM w0 q a len cap k sz w) : ∃ mix : Int, 0 ≤ mix ∧ mix < 18446744073709551616 ∧ (w.cell? ⟨q, 0, none⟩ = some (.slice a len cap) ∧ w.cell? ⟨q, 1, none⟩ = some (.int .i64 k) ∧ w.cell? ⟨q, 2, none⟩ = some (.int .u64 mix) ∧ w.cell? ⟨q, 3, none⟩ = some (.int .i64 sz)) ∧ w.frozen? ⟨q, 1, none⟩ = false ∧ w.frozen? ⟨q, 2, none⟩ = false := by
  obtain ⟨mix, hq, h0, h1, _⟩ := h
  exact ⟨mix, h0, h1, by simp [World.cell?, hq], by simp [World.frozen?, hq]⟩
theorem SrcM.drew {w0 w : World} {q : Nat} {a : Option Addr} {len cap : Nat} {k sz : Int} (h : SrcM w0 q a len cap k sz w) : SrcM w0 q a len cap k sz w.drew := by
  obtain ⟨mix, hq, h0, h1, hg⟩ := h
  exact ⟨mix, hq, h0, h1, grown_drew hg⟩
theorem SrcM.drewN {w0 w : World} {q : Nat} {a : Option Addr} {len cap : Nat} {k sz : Int} (h : SrcM w0 q a len cap k sz w) (n : Nat) : SrcM w0 q a len cap k sz (w.drewN n) := by
  obtain ⟨mix, hq, h0, h1, hg⟩ := h
  exact ⟨mix, hq, h0, h1, hg.os, hg.tape, hg.output, hg.size, hg.block⟩
theorem SrcM.mixed {w0 w : World} {q : Nat} {a : Option Addr} {len cap : Nat} {k sz : Int} (h : SrcM w0 q a len cap k sz w) (x : Int) (h0 : 0 ≤ x) (h1 : x < 18446744073709551616) : SrcM w0 q a len cap k sz (w.setCell ⟨q, 2, none⟩ (.int .u64 x)) := by
  obtain ⟨mix, hq, _, _, hg⟩ := h
  exact ⟨x, heap_set hq _, h0, h1, grown_set hg _ _⟩
theorem SrcM.moved {w0 w : World} {q : Nat} {a : Option Addr} {len cap : Nat} {k sz : Int} (h : SrcM w0 q a len cap k sz w) (k' : Int) : SrcM w0 q a len cap k' sz (w.setCell ⟨q, 1, none⟩ (.int .i64 k')) := by
  obtain ⟨mix, hq, h0, h1, hg⟩ := h
  exact ⟨mix, heap_set hq _, h0, h1, grown_set hg _ _⟩

set_option maxHeartbeats 4000000 in
theorem n_big (q : Nat) (most : Int) (w : World) (h : Src w q) (hm : 1 < most) (hm2 : most ≤ 9223372036854775807) :
    Calls Tryd.prog 13 #[.pointer (some ⟨q, 0, none⟩), .int .i64 most] w fun e w' => NumAns most q w e w' := by
  obtain ⟨a, len, cap, k, mix, sz, hq, hk, hlen, hx0, hx1, hs0, hs1, hcode⟩ := h
  have hM : SrcM w q a len cap k sz w := ⟨mix, hq, hx0, hx1, grown_refl _ _⟩
  have HCODE : Hid (Code w q a len) := hcode
  have fin : ∀ (w' : World) (k' : Nat) (v : Int), k' ≤ len → SrcM w q a len cap k' sz w' → NumAns most q w (.returned (.int .i64 (wrap64 (v % most)))) w' := by
    rintro w' k' v hk' ⟨mix', hq', h0', h1', hg'⟩
    have := Int.emod_nonneg v (show most ≠ 0 by omega)
    have := Int.emod_lt_of_pos v (show 0 < most by omega)
    have e : wrap64 (v % most) = v % most := by unfold wrap64; omega
    rw [e]
    exact ⟨v % most, rfl, by omega, .inl (by omega), ⟨a, len, cap, k', mix', sz, hq', hk', hlen, h0', h1', hs0, hs1, hcode.grown hg'⟩, hg'⟩
  have FIN : Hid (∀ (w' : World) (k' : Nat) (v : Int), k' ≤ len → SrcM w q a len cap k' sz w' → NumAns most q w (.returned (.int .i64 (wrap64 (v % most)))) w') := fin
  clear hcode hq hx0 hx1 fin
  clear mix
  by_cases hlt : k < len
  · rcases HCODE.out with h | ⟨b, off, rfl, hbq, hcells⟩
    · omega
    obtain ⟨v, hv0, hv1, hcell⟩ := hcells k hlt
    obtain ⟨mix, hx0, hx1, ⟨c0, c1, c2, c3⟩, f1, f2⟩ := hM.cells
    have HM : Hid (SrcM w q (some ⟨b, off, none⟩) len cap k sz w) := hM
    have hltI : (k : Int) < (len : Int) := by omega
    clear hM hcells HCODE
    go_enter Tryd.func13, Tryd.ntmps13
    go_wp2
    go_quiet (fail)
    go_wp2
    go_quiet (fail)
    go_wp2
    go_cut [] (fun wx => SrcM w q (some ⟨b, off, none⟩) len cap ((k : Int) + 1) sz wx)
    case first J K hJ hK =>
      go_region
      refine hK _ _ (Met.intro (hJ _ _ ?_))
      (repeat apply Exists.intro)
      refine ⟨?rel, rfl⟩
      case rel => first | exact SrcM.mixed ((HM.out.drewN _).moved _) _ (bits_u64_bd _ _ _).1 (bits_u64_bd _ _ _).2 | exact (SrcM.mixed ((HM.out.drewN _).moved _) _ (bits_u64_bd _ _ _).1 (bits_u64_bd _ _ _).2).drew
    case rest =>
      have HM1 : Hid (SrcM w q (some ⟨b, off, none⟩) len cap ((k : Int) + 1) sz wc) := hcut
      clear hcut HM hcell c0 c1 c2 c3 f1 f2
      obtain ⟨mix1, hy01, hy11, ⟨c0, c1, c2, c3⟩, f1, f2⟩ := HM1.out.cells
      go_wp2
      go_cut [] (fun wx => SrcM w q (some ⟨b, off, none⟩) len cap ((k : Int) + 1) sz wx)
      case first J K hJ hK =>
        go_region
        refine hK _ _ (Met.intro (hJ _ _ ?_))
        (repeat apply Exists.intro)
        refine ⟨?rel, rfl⟩
        case rel => exact (SrcM.mixed (HM1.out) _ (bits_u64_bd _ _ _).1 (bits_u64_bd _ _ _).2).drew
      case rest =>
        have HM2 : Hid (SrcM w q (some ⟨b, off, none⟩) len cap ((k : Int) + 1) sz wc) := hcut
        clear hcut HM1 c0 c1 c2 c3 f1 f2
        obtain ⟨mix2, hy02, hy12, ⟨c0, c1, c2, c3⟩, f1, f2⟩ := HM2.out.cells
        go_wp2
        go_cut [] (fun wx => SrcM w q (some ⟨b, off, none⟩) len cap ((k : Int) + 1) sz wx)
        case first J K hJ hK =>
          go_region
          refine hK _ _ (Met.intro (hJ _ _ ?_))
          (repeat apply Exists.intro)
          refine ⟨?rel, rfl⟩
          case rel => exact (SrcM.mixed (HM2.out) _ (bits_u64_bd _ _ _).1 (bits_u64_bd _ _ _).2).drew
        case rest =>
          have HM3 : Hid (SrcM w q (some ⟨b, off, none⟩) len cap ((k : Int) + 1) sz wc) := hcut
          clear hcut HM2 c0 c1 c2 c3 f1 f2
          obtain ⟨mix3, hy03, hy13, ⟨c0, c1, c2, c3⟩, f1, f2⟩ := HM3.out.cells
          go_wp2
          go_ret
          exact FIN.out _ (k + 1) _ (by omega) HM3.out
  · obtain ⟨mix, hx0, hx1, ⟨c0, c1, c2, c3⟩, f1, f2⟩ := hM.cells
    have HM : Hid (SrcM w q a len cap k sz w) := hM
    clear hM
    go_enter Tryd.func13, Tryd.ntmps13
    go_wp2
    go_quiet (fail)
    go_wp2
    go_cut [] (fun wx => SrcM w q a len cap k sz wx)
    case first J K hJ hK =>
      go_region
      refine hK _ _ (Met.intro (hJ _ _ ?_))
      (repeat apply Exists.intro)
      refine ⟨?rel, rfl⟩
      case rel => exact SrcM.mixed (HM.out.drewN _) _ (bits_u64_bd _ _ _).1 (bits_u64_bd _ _ _).2
    case rest =>
      have HM1 : Hid (SrcM w q a len cap k sz wc) := hcut
      clear hcut HM c0 c1 c2 c3 f1 f2
      obtain ⟨mix1, hy01, hy11, ⟨c0, c1, c2, c3⟩, f1, f2⟩ := HM1.out.cells
      go_wp2
      go_cut [] (fun wx => SrcM w q a len cap k sz wx)
      case first J K hJ hK =>
        go_region
        refine hK _ _ (Met.intro (hJ _ _ ?_))
        (repeat apply Exists.intro)
        refine ⟨?rel, rfl⟩
        case rel => exact (SrcM.mixed (HM1.out) _ (bits_u64_bd _ _ _).1 (bits_u64_bd _ _ _).2).drew
      case rest =>
        have HM2 : Hid (SrcM w q a len cap k sz wc) := hcut
        clear hcut HM1 c0 c1 c2 c3 f1 f2
        obtain ⟨mix2, hy02, hy12, ⟨c0, c1, c2, c3⟩, f1, f2⟩ := HM2.out.cells
        go_wp2
        go_cut [] (fun wx => SrcM w q a len cap k sz wx)
        case first J K hJ hK =>
          go_region
          refine hK _ _ (Met.intro (hJ _ _ ?_))
          (repeat apply Exists.intro)
          refine ⟨?rel, rfl⟩
          case rel => exact (SrcM.mixed (HM2.out) _ (bits_u64_bd _ _ _).1 (bits_u64_bd _ _ _).2).drew
        case rest =>
          have HM3 : Hid (SrcM w q a len cap k sz wc) := hcut
          clear hcut HM2 c0 c1 c2 c3 f1 f2
          obtain ⟨mix3, hy03, hy13, ⟨c0, c1, c2, c3⟩, f1, f2⟩ := HM3.out.cells
          go_wp2
          go_ret
          exact FIN.out _ (k) _ hk HM3.out

theorem Src.lt {w : World} {q : Nat} (h : Src w q) : q < w.heap.size := by
  obtain ⟨a, len, cap, k, mix, sz, hq, _⟩ := h
  exact (Array.getElem?_eq_some_iff.1 hq).1
theorem Src.below {w w' : World} {q B : Nat} (h : Src w q) (hb : Below B w w') (hq : q < B) : Src w' q := by
  obtain ⟨a, len, cap, k, mix, sz, h1, h2, h3, h4, h5, h6, h7, hc⟩ := h
  refine ⟨a, len, cap, k, mix, sz, (hb.block q hq).trans h1, h2, h3, h4, h5, h6, h7, ?_⟩
  rcases hc with hc | ⟨b, off, ha, hbq, hc⟩
  · exact .inl hc
  · refine .inr ⟨b, off, ha, hbq, fun i hi => ?_⟩
    obtain ⟨c, x0, x1, x2⟩ := hc i hi
    exact ⟨c, x0, x1, (hb.cell (p := ⟨b, off + i, none⟩) (Nat.lt_trans hbq hq)).trans x2⟩

theorem n_any (q : Nat) (most : Int) (w : World) (h : Src w q) (hm2 : most ≤ 9223372036854775807) :
    Calls Tryd.prog 13 #[.pointer (some ⟨q, 0, none⟩), .int .i64 most] w fun e w' => NumAns most q w e w' := by
  by_cases hm : most ≤ 1
  · exact n_small q most w h hm
  · exact n_big q most w h (by omega) hm2

/-- A yes or no; the source stays one, and nothing else has turned. -/
def BoolAns (q : Nat) (w : World) (e : Ending) (w' : World) : Prop := ∃ b : Bool, e = .returned (.bool b) ∧ Src w' q ∧ w.grownBy w' (some q)
theorem one_any (q : Nat) (most : Int) (w : World) (h : Src w q) (hm2 : most ≤ 9223372036854775807) :
    Calls Tryd.prog 14 #[.pointer (some ⟨q, 0, none⟩), .int .i64 most] w fun e w' => BoolAns q w e w' := by
  have HN : Hid (∀ w, Src w q → Calls Tryd.prog 13 #[.pointer (some ⟨q, 0, none⟩), .int .i64 most] w fun e w' => NumAns most q w e w') := fun w h => n_any q most w h hm2
  have HS : Hid (Src w q) := h
  clear h
  go_enter Tryd.func14, Tryd.ntmps14
  go_wp2_with fail
  refine (HN.out _ HS.out).mono ?_
  rintro e w1 ⟨v, rfl, _, _, hs1, hg1⟩
  have HS1 : Hid (Src w1 q ∧ w.grownBy w1 (some q)) := ⟨hs1, hg1⟩
  clear hs1 hg1
  go_wp2
  go_ret
  exact ⟨_, rfl, HS1.out.1, HS1.out.2⟩

end Go.Proofs.YtkfmhmimclmigaaDoor

/-
  Contracts of the document's draws, more: the making of a source, a number at some limit, and the draws of chapter 2.
-/
namespace Go.Proofs.YtkfmhmimclmigaaDoor
open Go.RowKit Go.Lib
set_option linter.unusedVariables false

theorem SrcM.frozen3 {w0 w : World} {q : Nat} {a : Option Addr} {len cap : Nat} {k sz : Int} (h : SrcM w0 q a len cap k sz w) : w.frozen? ⟨q, 3, none⟩ = false := by
  obtain ⟨mix, hq, h0, h1, _⟩ := h
  simp [World.frozen?, hq]
theorem SrcM.sized {w0 w : World} {q : Nat} {a : Option Addr} {len cap : Nat} {k sz : Int} (h : SrcM w0 q a len cap k sz w) (x : Int) : SrcM w0 q a len cap k x (w.setCell ⟨q, 3, none⟩ (.int .i64 x)) := by
  obtain ⟨mix, hq, h0, h1, hg⟩ := h
  exact ⟨mix, heap_set hq _, h0, h1, grown_set hg _ _⟩

/-- A pointer to a new source; of what was there nothing has turned. -/
def PtrAns (w : World) (e : Ending) (w' : World) : Prop := e = .returned (.pointer (some ⟨w.heap.size, 0, none⟩)) ∧ Src w' w.heap.size ∧ Below w.heap.size w w'

theorem below_grown {w w' : World} {o : Obj} (h : (w.alloc o).grownBy w' (some w.heap.size)) : Below w.heap.size w w' :=
  ⟨h.os, h.tape, h.output, by have := h.size; simp at this; omega, fun k hk => (h.block k (by simp; omega) (by simp; omega)).trans (heap_alloc_old w o hk)⟩

theorem src_done {w w' : World} {o : Obj} {a : Option Addr} {len cap : Nat} {sz : Int} (hc : Code w w.heap.size a len) (hl : len ≤ 1048576) (h0 : 0 ≤ sz) (h1 : sz ≤ 12) (h : SrcM (w.alloc o) w.heap.size a len cap ((0 : Nat) : Int) sz w') :
    Src w' w.heap.size ∧ Below w.heap.size w w' := by
  obtain ⟨mix, hq, hm0, hm1, hg⟩ := h
  have hb := below_grown hg
  refine ⟨⟨a, len, cap, 0, mix, sz, hq, Nat.zero_le _, hl, hm0, hm1, h0, h1, ?_⟩, hb⟩
  rcases hc with hc | ⟨b, off, ha, hbq, hc⟩
  · exact .inl hc
  · refine .inr ⟨b, off, ha, hbq, fun i hi => ?_⟩
    obtain ⟨c, x0, x1, x2⟩ := hc i hi
    exact ⟨c, x0, x1, (hb.cell (p := ⟨b, off + i, none⟩) hbq).trans x2⟩

theorem first_of {w0 w : World} {q : Nat} {a : Option Addr} {len cap : Nat} {k sz : Int} (h : SrcM w0 q a len cap k sz w) (x : Int) : SrcM w0 q a len cap k sz (w.setCell ⟨q, 2, none⟩ (.int .u64 (IntKind.u64.wrap x))).drew :=
  (SrcM.mixed h _ (by rw [IntKind.wrap_u64]; omega) (by rw [IntKind.wrap_u64]; omega)).drew

set_option maxHeartbeats 1000000 in
theorem source_any (a : Option Addr) (len cap : Nat) (w : World) (hc : Code w w.heap.size a len) (hl : len ≤ 1048576) :
    Calls Tryd.prog 12 #[.slice a len cap] w fun e w' => PtrAns w e w' := by
  have HD : Hid (∀ (o : Obj) (sz : Int) (w' : World), 0 ≤ sz → sz ≤ 12 → SrcM (w.alloc o) w.heap.size a len cap ((0 : Nat) : Int) sz w' → Src w' w.heap.size ∧ Below w.heap.size w w') := fun o sz w' h0 h1 h => src_done hc hl h0 h1 h
  have HC : Hid (Code w w.heap.size a len) := hc
  clear hc
  go_enter Tryd.func12, Tryd.ntmps12
  go_wp2
  obtain ⟨o, ho⟩ : ∃ o, o = Obj.cells #[.slice a len cap, .int .i64 0, .int .u64 88172645463325252, .int .i64 0] 39 := ⟨_, rfl⟩
  have h0 : SrcM (w.alloc o) w.heap.size a len cap ((0 : Nat) : Int) 0 (w.alloc o) := ⟨88172645463325252, by rw [ho]; exact (MapKept.heap_alloc w _).1, by omega, by omega, grown_refl _ _⟩
  rw [← ho]
  have HO : Hid (SrcM (w.alloc o) w.heap.size a len cap ((0 : Nat) : Int) 0 (w.alloc o)) := h0
  clear h0 ho
  go_loopw [4] (fun i wr => ∃ j : Nat, j ≤ len ∧ i = .int .i64 j ∧ SrcM (w.alloc o) w.heap.size a len cap ((0 : Nat) : Int) 0 wr)
    (fun i _ => len - (intOf i).toNat)
  case atStart => exact ⟨0, Nat.zero_le _, rfl, HO.out⟩
  case round =>
    obtain ⟨j, hj, rfl, hM⟩ := hrel
    obtain ⟨mix, hx0, hx1, ⟨c0, c1, c2, c3⟩, f1, f2⟩ := hM.cells
    have f3 := hM.frozen3
    have HM : Hid (SrcM (w.alloc o) w.heap.size a len cap ((0 : Nat) : Int) 0 wr) := hM
    clear hM HO
    by_cases h1 : j < len
    · by_cases h2 : j < 64
      · rcases HC.out with h | ⟨b, off, rfl, hbq, hcells⟩
        · omega
        obtain ⟨v, hv0, hv1, hcell0⟩ := hcells j h1
        have hcell : wr.cell? ⟨b, off + j, none⟩ = some (.int .u8 v) := by
          obtain ⟨_, _, _, _, hg⟩ := HM.out
          exact ((below_grown hg).cell (p := ⟨b, off + j, none⟩) hbq).trans hcell0
        have h1I : (j : Int) < (len : Int) := by omega
        have h2I : (j : Int) < 64 := by omega
        clear hcells hcell0 HC
        go_wp2
        go_region
        go_wp2
        go_roundw
        case rel => exact ⟨j + 1, by omega, by go_num, first_of HM.out _⟩
        case measure => simp [intOf]; omega
      · clear HC
        by_cases hz : (12 : Int) < (len : Int) / 20
        · go_wp2
          go_ret
          exact ⟨rfl, HD.out o _ _ (by omega) (by omega) ((HM.out.sized _).sized _)⟩
        · go_wp2
          go_ret
          exact ⟨rfl, HD.out o _ _ (by omega) (by omega) (HM.out.sized _)⟩
    · clear HC
      by_cases hz : (12 : Int) < (len : Int) / 20
      · go_wp2
        go_ret
        exact ⟨rfl, HD.out o _ _ (by omega) (by omega) ((HM.out.sized _).sized _)⟩
      · go_wp2
        go_ret
        exact ⟨rfl, HD.out o _ _ (by omega) (by omega) (HM.out.sized _)⟩

/-- A row of bytes that came in can be read. -/
theorem code_of_row {w : World} {a : Option Addr} {len cap : Nat} {zs : List Int} (h : (a = none ∧ len = 0 ∧ cap = 0 ∧ zs = []) ∨
    ∃ x, a = some x ∧ len ≤ cap ∧ cap ≤ maxLen ∧ zs.length = cap ∧ (∀ i, i < zs.length → w.cell? (x.add i) = some (.int .u8 (zs.getD i 0))) ∧ ∀ n ∈ zs, (Lit.int .u8 n).wf = true) : Code w w.heap.size a len ∧ len ≤ maxLen := by
  rcases h with ⟨_, h, _, _⟩ | ⟨x, rfl, hl, hm, hz, hcell, hwz⟩
  · exact ⟨.inl h, by omega⟩
  refine ⟨?_, Nat.le_trans hl hm⟩
  by_cases h0 : len = 0
  · exact .inl h0
  obtain ⟨b, off, spot⟩ := x
  have hc := hcell 0 (by omega)
  have hspot : spot = none := by simpa [Addr.add] using World.cell?_spot hc
  subst hspot
  have hadd : ∀ i, (⟨b, off, none⟩ : Addr).add i = ⟨b, off + i, none⟩ := fun i => by unfold Addr.add; split <;> simp_all
  rw [hadd] at hc
  refine .inr ⟨b, off, rfl, World.block_lt_of_cell? w _ hc, fun i hi => ?_⟩
  have hi' : i < zs.length := by omega
  have h1 := hcell i hi'
  rw [hadd] at h1
  have hmem : zs.getD i 0 ∈ zs := by rw [List.getD, List.getElem?_eq_getElem hi']; exact List.getElem_mem hi'
  have hw := hwz _ hmem
  have hbd : 0 ≤ zs.getD i 0 ∧ zs.getD i 0 ≤ 255 := by simpa [Lit.wf, IntKind.min, IntKind.max, IntKind.bits, IntKind.signed] using hw
  exact ⟨_, hbd.1, by omega, h1⟩
end Go.Proofs.YtkfmhmimclmigaaDoor

/-
  The draw of a branch.
-/
namespace Go.Proofs.YtkfmhmimclmigaaDoor
open Go.RowKit Go.Lib
set_option linter.unusedVariables false
set_option linter.unusedSimpArgs false

set_option maxHeartbeats 1000000 in
theorem drawBranch_any (a : Option Addr) (len cap : Nat) (w : World) (hc : Code w w.heap.size a len) (hl : len ≤ 1048576) :
    Calls Tryd.prog 5 #[.slice a len cap] w fun e w' => ∃ (f : Int) (o : Bool), e = .returned (.tuple #[.int .i64 f, .bool o]) ∧ -1 ≤ f ∧ f ≤ 14 ∧ Below w.heap.size w w' := by
  have E0 : Hid (Calls Tryd.prog 12 #[.slice a len cap] w fun e w' => PtrAns w e w') := source_any a len cap w hc hl
  have EN : Hid (∀ w' q, Src w' q → Calls Tryd.prog 13 #[.pointer (some ⟨q, 0, none⟩), .int .i64 15] w' fun e w'' => NumAns 15 q w' e w'') := fun w' q h => n_any q 15 w' h (by omega)
  have EO : Hid (∀ w' q, Src w' q → Calls Tryd.prog 14 #[.pointer (some ⟨q, 0, none⟩), .int .i64 2] w' fun e w'' => BoolAns q w' e w'') := fun w' q h => one_any q 2 w' h (by omega)
  clear hc hl
  go_enter Tryd.func5, Tryd.ntmps5
  go_wp2_with fail
  refine E0.out.mono ?_
  rintro e w1 hp
  obtain ⟨rfl, hs, hb⟩ := hp
  obtain ⟨q, hqe⟩ : ∃ q, q = w.heap.size := ⟨_, rfl⟩
  have hq : w.heap.size ≤ q := by omega
  rw [← hqe] at hs ⊢
  clear hqe
  have H1 : Hid (Src w1 q ∧ w.heap.size ≤ q ∧ Below w.heap.size w w1) := ⟨hs, hq, hb⟩
  clear hs hq hb E0
  go_wp2_with fail
  refine (EN.out _ _ H1.out.1).mono ?_
  rintro e w2 ⟨v, rfl, h0, h1, hs, hg⟩
  have H2 : Hid (Src w2 q ∧ w.heap.size ≤ q ∧ Below w.heap.size w w2) := ⟨hs, H1.out.2.1, H1.out.2.2.grown hg H1.out.2.2.size fun k hk => by (obtain rfl := Option.some.inj hk; exact H1.out.2.1)⟩
  have hv : v ≤ 14 := by omega
  clear hs hg H1 EN h1
  go_wp2_with fail
  refine (EO.out _ _ H2.out.1).mono ?_
  rintro e w3 ⟨b, rfl, hs, hg⟩
  have H3 : Hid (Below w.heap.size w w3) := H2.out.2.2.grown hg H2.out.2.2.size fun k hk => by (obtain rfl := Option.some.inj hk; exact H2.out.2.1)
  clear hs hg H2 EO
  go_wp2
  exact bodyPost_ret (v := .tuple #[.int .i64 (v - 1), .bool b]) (by simp [results, Tryd.results5, go_sem]) rfl ⟨v - 1, b, rfl, by omega, by omega, H3.out⟩
end Go.Proofs.YtkfmhmimclmigaaDoor
