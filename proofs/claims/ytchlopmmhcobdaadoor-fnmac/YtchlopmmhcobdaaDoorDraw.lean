/-
  Contracts of the document's draws: a source of bytes, a number below a bound, some bytes. What they answer is told by bounds alone; of memory only the source's own block turns.
-/
import Derived.Test.YtchlopmmhcobdaaDoorMem
import Derived.BigRegion
import Derived.RegionTactic
import Derived.Deep.QuietTactic
import Derived.BigQuiet
import Derived.Deep.DeepCutAuto
import Derived.Laws.BitsAllLaws
namespace Go.Proofs.YtchlopmmhcobdaaDoor
open Go.RowKit Go.Lib
set_option linter.unusedVariables false

/-- Bytes that can be read at a. -/
def Code (w : World) (q : Nat) (a : Option Addr) (len : Nat) : Prop :=
  len = 0 ∨ ∃ b off, a = some ⟨b, off, none⟩ ∧ b < q ∧ ∀ i, i < len → ∃ c : Int, 0 ≤ c ∧ c < 256 ∧ w.cell? ⟨b, off + i, none⟩ = some (.int .u8 c)
/-- Block q holds a source. -/
def Src (w : World) (q : Nat) : Prop :=
  ∃ (a : Option Addr) (len cap k : Nat) (mix sz : Int), w.heap[q]? = some (.cells #[.slice a len cap, .int .i64 k, .int .u64 mix, .int .i64 sz] 120 (0, 0)) ∧ k ≤ len ∧ len ≤ 1048576 ∧ 0 ≤ mix ∧ mix < 18446744073709551616 ∧ 0 ≤ sz ∧ sz ≤ 12 ∧ Code w q a len
/-- The ending hands back a number from 0 to below most (0 where most is at most 1); the source stays one, and nothing else has turned. -/
def NumAns (most : Int) (q : Nat) (w : World) (e : Ending) (w' : World) : Prop :=
  ∃ v : Int, e = .returned (.int .i64 v) ∧ 0 ≤ v ∧ (v < most ∨ v = 0) ∧ Src w' q ∧ w.grownBy w' (some q)

theorem Code.grown {w w' : World} {q : Nat} {a : Option Addr} {len : Nat} (h : Code w q a len) (hg : w.grownBy w' (some q)) : Code w' q a len := by
  rcases h with h | ⟨b, off, ha, hb, hc⟩
  · exact .inl h
  · refine .inr ⟨b, off, ha, hb, fun i hi => ?_⟩
    obtain ⟨c, h0, h1, h2⟩ := hc i hi
    exact ⟨c, h0, h1, hg.cell h2 (by simp; omega)⟩
theorem grown_set {w w' : World} {q : Nat} (h : w.grownBy w' (some q)) (i : Nat) (v : Value) : w.grownBy (w'.setCell ⟨q, i, none⟩ v) (some q) :=
  ⟨h.os, h.tape, h.output, by simpa [World.setCell] using h.size, fun k hk hne => by
    rw [Below.heap_setCell _ _ _ _ (by intro e; exact hne (by simp [e]))]; exact h.block k hk hne⟩
theorem grown_drew {w w' : World} {r : Option Nat} (h : w.grownBy w' r) : w.grownBy w'.drew r := ⟨h.os, h.tape, h.output, h.size, h.block⟩
theorem grown_refl (w : World) (r : Option Nat) : w.grownBy w r := ⟨rfl, rfl, rfl, Nat.le_refl _, fun _ _ _ => rfl⟩
theorem grown_below {w1 w2 w3 : World} {r : Option Nat} (h : w1.grownBy w2 r) (k : Below w1.heap.size w2 w3) : w1.grownBy w3 r :=
  ⟨k.os.trans h.os, k.tape.trans h.tape, k.output.trans h.output, Nat.le_trans h.size k.size, fun i hi hne => (k.block i hi).trans (h.block i hi hne)⟩
theorem grown_trans {w1 w2 w3 : World} {r : Option Nat} (h : w1.grownBy w2 r) (k : w2.grownBy w3 r) : w1.grownBy w3 r :=
  ⟨k.os.trans h.os, k.tape.trans h.tape, k.output.trans h.output, Nat.le_trans h.size k.size, fun i hi hne => (k.block i (Nat.lt_of_lt_of_le hi h.size) hne).trans (h.block i hi hne)⟩

set_option maxHeartbeats 1000000 in
theorem n_small (q : Nat) (most : Int) (w : World) (h : Src w q) (hm : most ≤ 1) :
    Calls Tryd.prog 65 #[.pointer (some ⟨q, 0, none⟩), .int .i64 most] w fun e w' => NumAns most q w e w' := by
  go_enter Tryd.func65, Tryd.ntmps65
  go_wp2
  go_ret
  exact ⟨0, rfl, by omega, by omega, h, grown_refl _ _⟩

/-- Block q holds a source at place k, whatever its mix; since w0 nothing else has turned. -/
def SrcM (w0 : World) (q : Nat) (a : Option Addr) (len cap : Nat) (k sz : Int) (w : World) : Prop :=
  ∃ mix : Int, w.heap[q]? = some (.cells #[.slice a len cap, .int .i64 k, .int .u64 mix, .int .i64 sz] 120 (0, 0)) ∧ 0 ≤ mix ∧ mix < 18446744073709551616 ∧ w0.grownBy w (some q)

theorem heap_set {w : World} {q i : Nat} {cs : Array Value} {t : TypeId} {fr : Nat × Nat} (h : w.heap[q]? = some (.cells cs t fr)) (v : Value) : (w.setCell ⟨q, i, none⟩ v).heap[q]? = some (.cells (cs.setIfInBounds i v) t fr) := by
  have hlt : q < w.heap.size := (Array.getElem?_eq_some_iff.1 h).1
  have hv : w.heap[q] = .cells cs t fr := (Array.getElem?_eq_some_iff.1 h).2
  simp only [World.setCell]
  rw [Array.getElem?_eq_getElem (by simpa using hlt), Array.getElem_modify]
  simp [hv]
theorem bits_u64_bd (op : BinOp) (a b : Int) : 0 ≤ bits op .u64 a b ∧ bits op .u64 a b < 18446744073709551616 := by
  unfold bits
  simp only [IntKind.wrap_u64]
  omega
theorem SrcM.cells {w0 w : World} {q : Nat} {a : Option Addr} {len cap : Nat} {k sz : Int} (h : SrcM w0 q a len cap k sz w) : ∃ mix : Int, 0 ≤ mix ∧ mix < 18446744073709551616 ∧ (w.cell? ⟨q, 0, none⟩ = some (.slice a len cap) ∧ w.cell? ⟨q, 1, none⟩ = some (.int .i64 k) ∧ w.cell? ⟨q, 2, none⟩ = some (.int .u64 mix) ∧ w.cell? ⟨q, 3, none⟩ = some (.int .i64 sz)) ∧ w.frozen? ⟨q, 1, none⟩ = false ∧ w.frozen? ⟨q, 2, none⟩ = false := by
  obtain ⟨mix, hq, h0, h1, _⟩ := h
  exact ⟨mix, h0, h1, by simp [World.cell?, hq], by simp [World.frozen?, hq]⟩
theorem SrcM.drew {w0 w : World} {q : Nat} {a : Option Addr} {len cap : Nat} {k sz : Int} (h : SrcM w0 q a len cap k sz w) : SrcM w0 q a len cap k sz w.drew := by
  obtain ⟨mix, hq, h0, h1, hg⟩ := h
  exact ⟨mix, hq, h0, h1, grown_drew hg⟩
theorem SrcM.drewN {w0 w : World} {q : Nat} {a : Option Addr} {len cap : Nat} {k sz : Int} (h : SrcM w0 q a len cap k sz w) (n : Nat) : SrcM w0 q a len cap k sz (w.drewN n) := by
  obtain ⟨mix, hq, h0, h1, hg⟩ := h
  exact ⟨mix, hq, h0, h1, hg.os, hg.tape, hg.output, hg.size, hg.block⟩
theorem SrcM.mixed {w0 w : World} {q : Nat} {a : Option Addr} {len cap : Nat} {k sz : Int} (h : SrcM w0 q a len cap k sz w) (x : Int) (h0 : 0 ≤ x) (h1 : x < 18446744073709551616) : SrcM w0 q a len cap k sz (w.setCell ⟨q, 2, none⟩ (.int .u64 x)) := by
  obtain ⟨mix, hq, _, _, hg⟩ := h
  exact ⟨x, heap_set hq _, h0, h1, grown_set hg _ _⟩
theorem SrcM.moved {w0 w : World} {q : Nat} {a : Option Addr} {len cap : Nat} {k sz : Int} (h : SrcM w0 q a len cap k sz w) (k' : Int) : SrcM w0 q a len cap k' sz (w.setCell ⟨q, 1, none⟩ (.int .i64 k')) := by
  obtain ⟨mix, hq, h0, h1, hg⟩ := h
  exact ⟨mix, heap_set hq _, h0, h1, grown_set hg _ _⟩

set_option maxHeartbeats 4000000 in
theorem n_big (q : Nat) (most : Int) (w : World) (h : Src w q) (hm : 1 < most) (hm2 : most ≤ 9223372036854775807) :
    Calls Tryd.prog 65 #[.pointer (some ⟨q, 0, none⟩), .int .i64 most] w fun e w' => NumAns most q w e w' := by
  obtain ⟨a, len, cap, k, mix, sz, hq, hk, hlen, hx0, hx1, hs0, hs1, hcode⟩ := h
  have hM : SrcM w q a len cap k sz w := ⟨mix, hq, hx0, hx1, grown_refl _ _⟩
  have HCODE : Hid (Code w q a len) := hcode
  have fin : ∀ (w' : World) (k' : Nat) (v : Int), k' ≤ len → SrcM w q a len cap k' sz w' → NumAns most q w (.returned (.int .i64 (wrap64 (v % most)))) w' := by
    rintro w' k' v hk' ⟨mix', hq', h0', h1', hg'⟩
    have := Int.emod_nonneg v (show most ≠ 0 by omega)
    have := Int.emod_lt_of_pos v (show 0 < most by omega)
    have e : wrap64 (v % most) = v % most := by unfold wrap64; omega
    rw [e]
    exact ⟨v % most, rfl, by omega, .inl (by omega), ⟨a, len, cap, k', mix', sz, hq', hk', hlen, h0', h1', hs0, hs1, hcode.grown hg'⟩, hg'⟩
  have FIN : Hid (∀ (w' : World) (k' : Nat) (v : Int), k' ≤ len → SrcM w q a len cap k' sz w' → NumAns most q w (.returned (.int .i64 (wrap64 (v % most)))) w') := fin
  clear hcode hq hx0 hx1 fin
  clear mix
  by_cases hlt : k < len
  · rcases HCODE.out with h | ⟨b, off, rfl, hbq, hcells⟩
    · omega
    obtain ⟨v, hv0, hv1, hcell⟩ := hcells k hlt
    obtain ⟨mix, hx0, hx1, ⟨c0, c1, c2, c3⟩, f1, f2⟩ := hM.cells
    have HM : Hid (SrcM w q (some ⟨b, off, none⟩) len cap k sz w) := hM
    have hltI : (k : Int) < (len : Int) := by omega
    clear hM hcells HCODE
    go_enter Tryd.func65, Tryd.ntmps65
    go_wp2
    go_quiet (fail)
    go_wp2
    go_quiet (fail)
    go_wp2
    go_cut [] (fun wx => SrcM w q (some ⟨b, off, none⟩) len cap ((k : Int) + 1) sz wx)
    case first J K hJ hK =>
      go_region
      refine hK _ _ (Met.intro (hJ _ _ ?_))
      (repeat apply Exists.intro)
      refine ⟨?rel, rfl⟩
      case rel => first | exact SrcM.mixed ((HM.out.drewN _).moved _) _ (bits_u64_bd _ _ _).1 (bits_u64_bd _ _ _).2 | exact (SrcM.mixed ((HM.out.drewN _).moved _) _ (bits_u64_bd _ _ _).1 (bits_u64_bd _ _ _).2).drew
    case rest =>
      have HM1 : Hid (SrcM w q (some ⟨b, off, none⟩) len cap ((k : Int) + 1) sz wc) := hcut
      clear hcut HM hcell c0 c1 c2 c3 f1 f2
      obtain ⟨mix1, hy01, hy11, ⟨c0, c1, c2, c3⟩, f1, f2⟩ := HM1.out.cells
      go_wp2
      go_cut [] (fun wx => SrcM w q (some ⟨b, off, none⟩) len cap ((k : Int) + 1) sz wx)
      case first J K hJ hK =>
        go_region
        refine hK _ _ (Met.intro (hJ _ _ ?_))
        (repeat apply Exists.intro)
        refine ⟨?rel, rfl⟩
        case rel => exact (SrcM.mixed (HM1.out) _ (bits_u64_bd _ _ _).1 (bits_u64_bd _ _ _).2).drew
      case rest =>
        have HM2 : Hid (SrcM w q (some ⟨b, off, none⟩) len cap ((k : Int) + 1) sz wc) := hcut
        clear hcut HM1 c0 c1 c2 c3 f1 f2
        obtain ⟨mix2, hy02, hy12, ⟨c0, c1, c2, c3⟩, f1, f2⟩ := HM2.out.cells
        go_wp2
        go_cut [] (fun wx => SrcM w q (some ⟨b, off, none⟩) len cap ((k : Int) + 1) sz wx)
        case first J K hJ hK =>
          go_region
          refine hK _ _ (Met.intro (hJ _ _ ?_))
          (repeat apply Exists.intro)
          refine ⟨?rel, rfl⟩
          case rel => exact (SrcM.mixed (HM2.out) _ (bits_u64_bd _ _ _).1 (bits_u64_bd _ _ _).2).drew
        case rest =>
          have HM3 : Hid (SrcM w q (some ⟨b, off, none⟩) len cap ((k : Int) + 1) sz wc) := hcut
          clear hcut HM2 c0 c1 c2 c3 f1 f2
          obtain ⟨mix3, hy03, hy13, ⟨c0, c1, c2, c3⟩, f1, f2⟩ := HM3.out.cells
          go_wp2
          go_ret
          exact FIN.out _ (k + 1) _ (by omega) HM3.out
  · obtain ⟨mix, hx0, hx1, ⟨c0, c1, c2, c3⟩, f1, f2⟩ := hM.cells
    have HM : Hid (SrcM w q a len cap k sz w) := hM
    clear hM
    go_enter Tryd.func65, Tryd.ntmps65
    go_wp2
    go_quiet (fail)
    go_wp2
    go_cut [] (fun wx => SrcM w q a len cap k sz wx)
    case first J K hJ hK =>
      go_region
      refine hK _ _ (Met.intro (hJ _ _ ?_))
      (repeat apply Exists.intro)
      refine ⟨?rel, rfl⟩
      case rel => exact SrcM.mixed (HM.out.drewN _) _ (bits_u64_bd _ _ _).1 (bits_u64_bd _ _ _).2
    case rest =>
      have HM1 : Hid (SrcM w q a len cap k sz wc) := hcut
      clear hcut HM c0 c1 c2 c3 f1 f2
      obtain ⟨mix1, hy01, hy11, ⟨c0, c1, c2, c3⟩, f1, f2⟩ := HM1.out.cells
      go_wp2
      go_cut [] (fun wx => SrcM w q a len cap k sz wx)
      case first J K hJ hK =>
        go_region
        refine hK _ _ (Met.intro (hJ _ _ ?_))
        (repeat apply Exists.intro)
        refine ⟨?rel, rfl⟩
        case rel => exact (SrcM.mixed (HM1.out) _ (bits_u64_bd _ _ _).1 (bits_u64_bd _ _ _).2).drew
      case rest =>
        have HM2 : Hid (SrcM w q a len cap k sz wc) := hcut
        clear hcut HM1 c0 c1 c2 c3 f1 f2
        obtain ⟨mix2, hy02, hy12, ⟨c0, c1, c2, c3⟩, f1, f2⟩ := HM2.out.cells
        go_wp2
        go_cut [] (fun wx => SrcM w q a len cap k sz wx)
        case first J K hJ hK =>
          go_region
          refine hK _ _ (Met.intro (hJ _ _ ?_))
          (repeat apply Exists.intro)
          refine ⟨?rel, rfl⟩
          case rel => exact (SrcM.mixed (HM2.out) _ (bits_u64_bd _ _ _).1 (bits_u64_bd _ _ _).2).drew
        case rest =>
          have HM3 : Hid (SrcM w q a len cap k sz wc) := hcut
          clear hcut HM2 c0 c1 c2 c3 f1 f2
          obtain ⟨mix3, hy03, hy13, ⟨c0, c1, c2, c3⟩, f1, f2⟩ := HM3.out.cells
          go_wp2
          go_ret
          exact FIN.out _ (k) _ hk HM3.out

theorem Src.lt {w : World} {q : Nat} (h : Src w q) : q < w.heap.size := by
  obtain ⟨a, len, cap, k, mix, sz, hq, _⟩ := h
  exact (Array.getElem?_eq_some_iff.1 hq).1
theorem Src.below {w w' : World} {q B : Nat} (h : Src w q) (hb : Below B w w') (hq : q < B) : Src w' q := by
  obtain ⟨a, len, cap, k, mix, sz, h1, h2, h3, h4, h5, h6, h7, hc⟩ := h
  refine ⟨a, len, cap, k, mix, sz, (hb.block q hq).trans h1, h2, h3, h4, h5, h6, h7, ?_⟩
  rcases hc with hc | ⟨b, off, ha, hbq, hc⟩
  · exact .inl hc
  · refine .inr ⟨b, off, ha, hbq, fun i hi => ?_⟩
    obtain ⟨c, x0, x1, x2⟩ := hc i hi
    exact ⟨c, x0, x1, (hb.cell (p := ⟨b, off + i, none⟩) (Nat.lt_trans hbq hq)).trans x2⟩

theorem n_any (q : Nat) (most : Int) (w : World) (h : Src w q) (hm2 : most ≤ 9223372036854775807) :
    Calls Tryd.prog 65 #[.pointer (some ⟨q, 0, none⟩), .int .i64 most] w fun e w' => NumAns most q w e w' := by
  by_cases hm : most ≤ 1
  · exact n_small q most w h hm
  · exact n_big q most w h (by omega) hm2

/-- A yes or no; the source stays one, and nothing else has turned. -/
def BoolAns (q : Nat) (w : World) (e : Ending) (w' : World) : Prop := ∃ b : Bool, e = .returned (.bool b) ∧ Src w' q ∧ w.grownBy w' (some q)
theorem one_any (q : Nat) (most : Int) (w : World) (h : Src w q) (hm2 : most ≤ 9223372036854775807) :
    Calls Tryd.prog 64 #[.pointer (some ⟨q, 0, none⟩), .int .i64 most] w fun e w' => BoolAns q w e w' := by
  have HN : Hid (∀ w, Src w q → Calls Tryd.prog 65 #[.pointer (some ⟨q, 0, none⟩), .int .i64 most] w fun e w' => NumAns most q w e w') := fun w h => n_any q most w h hm2
  have HS : Hid (Src w q) := h
  clear h
  go_enter Tryd.func64, Tryd.ntmps64
  go_wp2_with fail
  refine (HN.out _ HS.out).mono ?_
  rintro e w1 ⟨v, rfl, _, _, hs1, hg1⟩
  have HS1 : Hid (Src w1 q ∧ w.grownBy w1 (some q)) := ⟨hs1, hg1⟩
  clear hs1 hg1
  go_wp2
  go_ret
  exact ⟨_, rfl, HS1.out.1, HS1.out.2⟩

/-- A text of n bytes; the source stays one, and nothing else has turned. -/
def StrAns (n : Int) (q : Nat) (w : World) (e : Ending) (w' : World) : Prop := ∃ t : ByteArray, e = .returned (.string t) ∧ (t.size : Int) = n ∧ Src w' q ∧ w.grownBy w' (some q)
theorem OwnB.grown {w w' : World} {B q : Nat} {v : Value} {l : List UInt8} (h : OwnB w B v l) (hg : w.grownBy w' (some q)) (hq : q < B) : OwnB w' B v l := by
  refine World.ownsRow.kept h hg ?_
  cases hv : v.ownBlock with
  | none => exact .inl rfl
  | some g => exact .inr (by have := (World.ownsRow.lt h g hv).1; simp; omega)
theorem byte_of {v : Int} (h0 : 0 ≤ v) (h1 : v < 256) : v = (UInt8.ofNat v.toNat).toNat := by
  rw [UInt8.toNat_ofNat']
  omega

set_option maxHeartbeats 1000000 in
theorem bytes_any (q : Nat) (n : Int) (w : World) (h : Src w q) (hn0 : 0 ≤ n) (hn1 : n ≤ 1048576) :
    Calls Tryd.prog 66 #[.pointer (some ⟨q, 0, none⟩), .int .i64 n] w fun e w' => StrAns n q w e w' := by
  have HN : Hid (∀ w, Src w q → Calls Tryd.prog 65 #[.pointer (some ⟨q, 0, none⟩), .int .i64 256] w fun e w' => NumAns 256 q w e w') := fun w h => n_any q 256 w h (by omega)
  have hlt := h.lt
  have HS : Hid (Src w q) := h
  clear h
  go_enter Tryd.func66, Tryd.ntmps66
  go_wp2
  go_loopw [5, 6] (fun v i wr => ∃ (k : Nat) (l : List UInt8), (k : Int) ≤ n ∧ i = .int .i64 k ∧ l.length = k ∧ OwnB wr w.heap.size v l ∧ Src wr q ∧ w.grownBy wr (some q))
    (fun _ i _ => (n - intOf i).toNat)
  case atStart => exact ⟨0, [], hn0, rfl, rfl, OwnB.made _ _ (Nat.le_refl _), HS.out.below ((Below.refl _ _).alloc (Nat.le_refl _) _) hlt, World.grownBy_alloc _ _ _⟩
  case round =>
    obtain ⟨k, l, hk, rfl, hl, hown, hsrc, hgr⟩ := hrel
    have HR : Hid (OwnB wr w.heap.size _ l ∧ Src wr q ∧ w.grownBy wr (some q)) := ⟨hown, hsrc, hgr⟩
    clear hown hsrc hgr HS
    by_cases hlk : (k : Int) < n
    · go_wp2_with fail
      refine (HN.out _ HR.out.2.1).mono ?_
      rintro e w1 ⟨v, rfl, hv0, hv1, hs1, hg1⟩
      have hv2 : v < 256 := by omega
      have hown1 := HR.out.1.grown hg1 hlt
      have hgr1 := grown_trans HR.out.2.2 hg1
      have hsz := hgr1.size
      have hll : l.length ≤ 1073741824 := by omega
      have HY : Hid (v = (UInt8.ofNat v.toNat).toNat) := byte_of hv0 hv2
      have HS1 : Hid (Src w1 q ∧ w.grownBy w1 (some q)) := ⟨hs1, hgr1⟩
      clear hs1 hg1 hgr1 hv1 HR
      go_wp2_with (at_builtin; go_must (refine wp_app_byte rfl (.tmp 13) (.tmp 17) rfl w.heap.size _ l rfl hown1 (UInt8.ofNat v.toNat) v HY.out rfl hll hsz ?_); intro v2 w2 hown2 hb2)
      go_roundw
      case rel => exact ⟨k + 1, _, by omega, by go_num, by simp [hl], hown2, HS1.out.1.below hb2 hlt, grown_below HS1.out.2 hb2⟩
      case measure => simp [intOf]; omega
    · have hcv := own_conv HR.out.1
      go_wp2
      go_ret
      exact ⟨⟨l.toArray⟩, rfl, by show (l.toArray.size : Int) = n; simp [hl]; omega, HR.out.2.1, HR.out.2.2⟩
end Go.Proofs.YtchlopmmhcobdaaDoor
