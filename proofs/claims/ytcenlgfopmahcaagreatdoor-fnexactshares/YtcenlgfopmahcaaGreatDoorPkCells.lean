/-
  Rows of numbers and of bytes, and the digest of a text as a text: what the walks of both sides use.
-/
import Derived.Test.YtcenlgfopmahcaaGreatDoorPkMem
import Derived.Test.YtcenlgfopmahcaaGreatDoorPkShaPure
import Derived.Test.YtcenlgfopmahcaaGreatDoorPkRot
import Derived.Test.YtcenlgfopmahcaaGreatDoorPkTexts
import Derived.WalkKit
import Derived.WalkSpells
import Derived.Deep.QuietTactic
import Derived.BigQuiet
import Derived.BigRegion
import Derived.Deep.WholeRow
namespace Go.Proofs.YtcenlgfopmahcaaGreatDoor
open Go.RowKit Go.Lib
set_option linter.unusedVariables false

/-- n numbers of 32 bits, as cells. -/
def cells32 (n : Nat) (f : Nat → Int) : Array Value := ((List.range n).map fun j => Value.int .u32 (f j)).toArray
theorem cells32_size (n : Nat) (f : Nat → Int) : (cells32 n f).size = n := by simp [cells32]
theorem cells32_get {n : Nat} (f : Nat → Int) {j : Nat} (h : j < n) : (cells32 n f)[j]? = some (.int .u32 (f j)) := by simp [cells32, h]
theorem cells32_one (n : Nat) (f : Nat → Int) : (cells32 n f).all (·.oneCell') = true := by simp [cells32, Value.oneCell']
theorem cells32_set (n : Nat) (f : Nat → Int) (i : Nat) (v : Int) : (cells32 n f).setIfInBounds i (.int .u32 v) = cells32 n (fun j => if j = i then v else f j) := by
  apply Array.ext_getElem?
  intro k
  by_cases hk : k < n
  · rw [cells32_get _ hk, Array.getElem?_setIfInBounds]
    by_cases e : i = k
    · subst e; simp [cells32_size, hk]
    · rw [if_neg e, cells32_get _ hk, if_neg (fun h => e h.symm)]
  · rw [Array.getElem?_eq_none (by simp [cells32_size]; omega), Array.getElem?_eq_none (by simp [cells32_size]; omega)]
theorem cells32_congr {n : Nat} {f g : Nat → Int} (h : ∀ j, j < n → f j = g j) : cells32 n f = cells32 n g := by
  unfold cells32
  congr 1
  apply List.map_congr_left
  intro j hj
  rw [h j (by simpa using hj)]
def H8.cells (s : H8) : Array Value := #[.int .u32 s.a, .int .u32 s.b, .int .u32 s.c, .int .u32 s.d, .int .u32 s.e, .int .u32 s.f, .int .u32 s.g, .int .u32 s.h]
theorem H8.cells_eq (s : H8) : s.cells = cells32 8 s.at := rfl
/-- 'make', by the equation of its run. -/
theorem wp_make_run {w : World} {ops : Array Oper} {rest : List Oper} {o : Oper} {a : Act} {Q : Exit → Act → World → Prop} (hg : o.guard = none) (l c : Operand) (t : TypeId) (ho : o.op = .makeSlice t l c)
    (L C v : Value) (w1 : World) (hl : a.eval l = L) (hc : a.eval c = C) (hrun : (Instr.makeSlice t L C).run Tryz.prog w = .ok v w1) (h : wpList Tryz.prog ops Q rest (a.put o.dst v) w1) : wpList Tryz.prog ops Q (o :: rest) a w := by
  refine wpList_plain hg fun K hK' => ?_
  unfold Oper.wp
  simp [execOp, ho, hl, hc, hrun, Result.andThen]
  exact hK' _ _ h
theorem index_text (s : ByteArray) (k : Nat) (x : Int) (hx : x = k) (h : k < s.size) (w : World) : (Instr.index 9 (.string s) (.int .i64 x)).run Tryz.prog w = .ok (.int .u8 (byteL s.data.toList k)) w := by
  subst hx
  rw [run_index_string w 9 s .i64 _ Tryz.underlying9]
  unfold byteL
  have hl : k < s.data.size := h
  have e : s.data.toList.getD k 0 = s[k] := by
    simp only [List.getD, Array.getElem?_toList, Array.getElem?_eq_getElem hl, Option.getD_some]
    rfl
  rw [dif_pos ⟨by omega, by omega⟩, e]
  simp
theorem byteL_bd (l : List UInt8) (k : Nat) : 0 ≤ byteL l k ∧ byteL l k < 256 := by
  unfold byteL
  have := (l.getD k 0).toNat_lt
  omega
theorem below_drewN {B : Nat} {a w : World} (n : Nat) (h : Below B a w) : Below B a (w.drewN n) := ⟨h.os, h.tape, h.output, h.size, h.block⟩
theorem ret_agg {a b : Array Value} (h : a = b) : Ending.returned (.agg a) = .returned (.agg b) := by rw [h]
/-- The first k words are there. -/
def upto (b : Nat → Int) (k : Nat) : Nat → Int := fun j => if j < k then sched b j else 0
theorem upto_set (b : Nat → Int) (k : Nat) : (cells32 64 (upto b k)).setIfInBounds k (.int .u32 (sched b k)) = cells32 64 (upto b (k + 1)) := by
  rw [cells32_set]
  apply cells32_congr
  intro j _
  unfold upto
  by_cases h : j = k
  · subst h; simp
  · rw [if_neg h]
    by_cases h2 : j < k
    · rw [if_pos h2, if_pos (by omega)]
    · rw [if_neg h2, if_neg (by omega)]
theorem upto_cell {t : TypeId} {w : World} {g : Nat} {b : Nat → Int} {k : Nat} (hg : w.heap[g]? = some (.cells (cells32 64 (upto b k)) t (0, 0))) {j : Nat} (hj : j < 64) (hk : j < k) :
    w.cell? ⟨g, j, none⟩ = some (.int .u32 (sched b j)) := by
  rw [cell_of_row w g j _ _ _ hg, cells32_get _ hj, upto, if_pos hk]
theorem upto_any {t : TypeId} {w : World} {g : Nat} {f : Nat → Int} (hg : w.heap[g]? = some (.cells (cells32 64 f) t (0, 0))) {j : Nat} (hj : j < 64) :
    w.cell? ⟨g, j, none⟩ = some (.int .u32 (f j)) ∧ w.frozen? ⟨g, j, none⟩ = false :=
  ⟨by rw [cell_of_row w g j _ _ _ hg, cells32_get _ hj], frozen_of_row w g j _ _ hg⟩
theorem ba_len (x : ByteArray) : x.data.toList.length = x.size := rfl
theorem ba_ext {a b : ByteArray} (h : a.data.toList = b.data.toList) : a = b := by
  apply ByteArray.ext
  exact Array.toList_inj.1 h
theorem byte_mod (n : Int) : (UInt8.ofNat (n % 256).toNat).toNat = n % 256 := by
  rw [UInt8.toNat_ofNat']
  omega
/-- 'append(row, a, b, c, d)', row the call's own: it owns four bytes more; of what lies below B nothing turns. -/
theorem wp_app_four {w : World} {ops : Array Oper} {rest : List Oper} {o : Oper} {a : Act} {Q : Exit → Act → World → Prop} (hgd : o.guard = none) (s x : Operand)
    (ho : o.op = .call { callee := .builtin .append, args := #[s, x], argTypes := #[87, 87] }) (B : Nat) (v : Value) (l : List UInt8) (hs : a.eval s = v) (hown : OwnB w B v l) (c0 c1 c2 c3 : UInt8) (y0 y1 y2 y3 : Int) (hy0 : y0 = c0.toNat) (hy1 : y1 = c1.toNat) (hy2 : y2 = c2.toNat) (hy3 : y3 = c3.toNat)
    (hx : a.eval x = .slice (some ⟨w.heap.size, 0, none⟩) 4 4) (hl : l.length ≤ 1073741824) (hB : B ≤ w.heap.size)
    (h : ∀ v' w', OwnB w' B v' (l ++ [c0, c1, c2, c3]) → Below B w w' → wpList Tryz.prog ops Q rest (a.put o.dst v') w') : wpList Tryz.prog ops Q (o :: rest) a (w.alloc (.cells #[.int .u8 y0, .int .u8 y1, .int .u8 y2, .int .u8 y3] 5)) := by
  obtain ⟨i0, hi, hz0, hz1, hz2⟩ := info_parts infoByte
  refine wpList_append_own _ hgd s x 87 ho B 5 i0 (.int .u8 0) 1 1 Tryz.underlying87 hi hz0 hz1 hz2 rfl (by decide) v l.length (byteCells l) hs (World.ownsRow.alloc hown _) ⟨w.heap.size, 0, none⟩ 4 4 [.int .u8 y0, .int .u8 y1, .int .u8 y2, .int .u8 y3] hx rfl
    (fun j u hu => ?_) (by intro u hu; simp at hu; rcases hu with rfl | rfl | rfl | rfl <;> rfl) (by unfold maxLen; omega) (by omega) (by simp; omega) ?_
  · have hadd : (⟨w.heap.size, 0, none⟩ : Addr).add j = ⟨w.heap.size, j, none⟩ := by unfold Addr.add; split <;> simp_all
    rw [hadd, cell_of_row _ _ j _ _ _ (heap_alloc_new w _)]
    simpa using hu
  intro v' w' h1 h2 _
  refine h v' w' ?_ ?_
  · unfold OwnB
    subst hy0 hy1 hy2 hy3
    simpa [byteCells] using h1
  · refine ((Below.refl B w).alloc hB _).grown h2 (by simp; omega) fun k hk => ?_
    exact (World.ownsRow.lt hown k hk).1
def baOf (l : List UInt8) : ByteArray := ⟨l.toArray⟩
theorem baOf_list (l : List UInt8) : (baOf l).data.toList = l := rfl
theorem baOf_size (l : List UInt8) : (baOf l).size = l.length := by simp [baOf, ByteArray.size]
/-- The digest of a text. -/
def shaB (s : ByteArray) : ByteArray := baOf (shaL s.data.toList)
theorem shaB_size (s : ByteArray) : (shaB s).size = 32 := by rw [shaB, baOf_size, shaL_len]
theorem ba_app_list (a b : ByteArray) : (a ++ b).data.toList = a.data.toList ++ b.data.toList := by simp [ByteArray.data_append]
/-- What Digest answers. -/
def digV (s : ByteArray) : ByteArray := if 20000 < (s.size : Int) then ByteArray.empty else shaB s
end Go.Proofs.YtcenlgfopmahcaaGreatDoor

/-
  The program's words of a block and its round.
-/
namespace Go.Proofs.YtcenlgfopmahcaaGreatDoor
open Go.RowKit Go.Lib
set_option linter.unusedVariables false

set_option maxHeartbeats 1000000 in
theorem wordAt_any (s : ByteArray) (k : Nat) (w : World) (hk : k + 4 ≤ s.size) (hs : s.size ≤ 1048576) :
    Calls Tryz.prog 163 #[.string s, .int .i64 k] w fun e w' => e = .returned (.int .u32 (four (byteL s.data.toList k) (byteL s.data.toList (k + 1)) (byteL s.data.toList (k + 2)) (byteL s.data.toList (k + 3)))) ∧ ∃ n, w' = w.drewN n := by
  have i0 := fun w => index_text s k _ rfl (by omega) w
  have i1 := fun w => index_text s (k + 1) (k + 1 : Int) (by omega) (by omega) w
  have i2 := fun w => index_text s (k + 2) (k + 2 : Int) (by omega) (by omega) w
  have i3 := fun w => index_text s (k + 3) (k + 3 : Int) (by omega) (by omega) w
  have w1 : IntKind.i64.wrap ((k : Int) + 1) = k + 1 := by rw [IntKind.wrap_i64]; omega
  have w2 : IntKind.i64.wrap ((k : Int) + 2) = k + 2 := by rw [IntKind.wrap_i64]; omega
  have w3 : IntKind.i64.wrap ((k : Int) + 3) = k + 3 := by rw [IntKind.wrap_i64]; omega
  obtain ⟨p0, q0⟩ := byteL_bd s.data.toList k
  obtain ⟨p1, q1⟩ := byteL_bd s.data.toList (k + 1)
  obtain ⟨p2, q2⟩ := byteL_bd s.data.toList (k + 2)
  obtain ⟨p3, q3⟩ := byteL_bd s.data.toList (k + 3)
  generalize byteL s.data.toList k = x at *
  generalize byteL s.data.toList (k + 1) = y at *
  generalize byteL s.data.toList (k + 2) = z at *
  generalize byteL s.data.toList (k + 3) = u at *
  clear hk hs
  go_enter Tryz.func163, Tryz.ntmps163
  go_wp2
  go_quiet (fail)
  go_wp2
  go_ret
  exact ⟨rfl, _, rfl⟩

end Go.Proofs.YtcenlgfopmahcaaGreatDoor

/-
  The program's round: it answers the eight numbers behind the round.
-/
namespace Go.Proofs.YtcenlgfopmahcaaGreatDoor
open Go.RowKit Go.Lib
set_option linter.unusedVariables false

set_option maxHeartbeats 1000000 in
theorem afterRound_any (s : H8) (add : Int) (w : World) (hs : s.Ok) (ha : In32 add) :
    Calls Tryz.prog 162 #[.agg s.cells, .int .u32 add] w fun e w' => e = .returned (.agg (s.step add).cells) ∧ Below w.heap.size w w' := by
  obtain ⟨⟨a0, a1⟩, ⟨b0, b1⟩, ⟨c0, c1⟩, ⟨d0, d1⟩, ⟨e0, e1⟩, ⟨f0, f1⟩, ⟨g0, g1⟩, ⟨h0, h1⟩⟩ := hs
  obtain ⟨ha0, ha1⟩ := ha
  have R : Hid (∀ (k x : Int) (w : World), k ∈ [2, 6, 7, 11, 13, 17, 18, 19, 22, 25] → 0 ≤ x → x < 4294967296 → Calls Tryz.prog 164 #[.int .u32 x, .int .i64 k] w fun e w' => e = .returned (.int .u32 (rotr k x)) ∧ w' = w) := right_any
  obtain ⟨V, hV⟩ : ∃ V, V = (s.step add).cells := ⟨_, rfl⟩
  rw [← hV]
  have hv : #[Value.int .u32 ((s.h + big1 s.e + chF s.e s.f s.g + add + (big0 s.a + majF s.a s.b s.c)) % 4294967296), .int .u32 s.a, .int .u32 s.b, .int .u32 s.c, .int .u32 ((s.d + (s.h + big1 s.e + chF s.e s.f s.g + add)) % 4294967296), .int .u32 s.e, .int .u32 s.f, .int .u32 s.g] = V := by
    rw [hV, step_a, step_e]
    rfl
  clear hV
  unfold big1 big0 chF majF at hv
  have HV : Hid _ := hv
  clear hv
  unfold H8.cells
  obtain ⟨a, b, c, d, e, f, g, h⟩ := s
  dsimp only at *
  have hm : IntKind.u32.max = 4294967295 := rfl
  go_enter Tryz.func162, Tryz.ntmps162
  go_wp2
  go_quiet (fail)
  go_wp2_with (go_at_call 164; refine (R.out _ _ _ (by decide) (by omega) (by omega)).mono ?_; rintro e w' ⟨rfl, rfl⟩)
  refine bodyPost_ret (v := .agg V) (by simp [results, Tryz.results162, go_sem]; exact HV.out) rfl ⟨rfl, ?_⟩
  refine (((((((Below.setCell ?_ (by simp) _).setCell (by simp) _).setCell (by simp) _).setCell (by simp) _).setCell (by simp) _).setCell (by simp) _).setCell (by simp) _).setCell (by simp) _
  exact below_drewN _ (((Below.refl _ _).alloc (Nat.le_refl _) _).alloc (by simp) _)
end Go.Proofs.YtcenlgfopmahcaaGreatDoor

/-
  The program's words of a block, spread over the rounds.
-/
namespace Go.Proofs.YtcenlgfopmahcaaGreatDoor
open Go.RowKit Go.Lib
set_option linter.unusedVariables false

theorem info64 : (Tryz.prog.info? 205).map (·.size) = some 64 := by kernel_rfl

theorem load64 (w : World) (g : Nat) (f : Nat → Int) (hg : w.heap[g]? = some (.cells (cells32 64 f) 205 (0, 0))) :
    (Instr.loadAt 205 (.pointer (some ⟨g, 0, none⟩))).run Tryz.prog w = .ok (.agg (cells32 64 f)) w := by
  simp only [Instr.loadAt, Instr.sureAddr, Sem.run_bind, Sem.run_pure, Result.andThen_ok]
  exact run_loadVar_row w g _ _ _ _ _ hg Tryz.underlying205 rfl (by rw [cells32_size]; exact info64)
theorem store64 (w : World) (g : Nat) (old : Array Value) (f : Nat → Int) (hg : w.heap[g]? = some (.cells old 205 (0, 0))) (ho : old.size = 64) :
    (Instr.storeAt 205 (.pointer (some ⟨g, 0, none⟩)) (.agg (cells32 64 f))).run Tryz.prog w = .ok () (w.setRow g (cells32 64 f)) := by
  simp only [Instr.storeAt, Instr.sureAddr, Sem.run_bind, Sem.run_pure, Result.andThen_ok]
  exact run_storeVar_row w g _ _ _ _ hg (by rw [cells32_size]; exact info64) (by rw [ho, cells32_size]) (cells32_one _ _)

theorem put_word {w wr : World} {b : Nat → Int} {k : Nat} (hg : wr.heap[w.heap.size]? = some (.cells (cells32 64 (upto b 0)) 205 (0, 0))) (hg1 : wr.heap[w.heap.size + 1]? = some (.cells (cells32 64 (upto b k)) 205 (0, 0))) (hb : Below w.heap.size w wr) (hk : k < 64) (_ : k < 64) (n : Nat) :
    ((wr.drewN n).setCell ⟨w.heap.size + 1, k, none⟩ (.int .u32 (sched b k))).heap[w.heap.size]? = some (.cells (cells32 64 (upto b 0)) 205 (0, 0)) ∧
    ((wr.drewN n).setCell ⟨w.heap.size + 1, k, none⟩ (.int .u32 (sched b k))).heap[w.heap.size + 1]? = some (.cells (cells32 64 (upto b (k + 1))) 205 (0, 0)) ∧
    Below w.heap.size w ((wr.drewN n).setCell ⟨w.heap.size + 1, k, none⟩ (.int .u32 (sched b k))) := by
  refine ⟨?_, ?_, (below_drewN n hb).setCell (by simp) _⟩
  · rw [heap_setCell_other _ _ _ _ (by simp)]
    exact hg
  · rw [heap_setCell_same (wr.drewN n) _ k _ _ _ hg1, upto_set]

set_option maxHeartbeats 1000000 in
theorem blockWords_any (s : ByteArray) (w : World) (hs : s.size = 64) :
    Calls Tryz.prog 161 #[.string s] w fun e w' => e = .returned (.agg (cells32 64 (sched (wordF s.data.toList)))) ∧ Below w.heap.size w w' := by
  have E : Hid (∀ (k : Nat) (w : World), k < 16 → Calls Tryz.prog 163 #[.string s, .int .i64 ((4 * k : Nat) : Int)] w fun e w' => e = .returned (.int .u32 (sched (wordF s.data.toList) k)) ∧ ∃ n, w' = w.drewN n) := by
    intro k w hk
    rw [sched_lo _ hk]
    exact wordAt_any s (4 * k) w (by omega) (by omega)
  clear hs
  have hbd : ∀ i, i < 16 → 0 ≤ wordF s.data.toList i ∧ wordF s.data.toList i < 4294967296 := fun i _ => wordF_bd _ i
  generalize wordF s.data.toList = b at *
  have R : Hid (∀ (k x : Int) (w : World), k ∈ [2, 6, 7, 11, 13, 17, 18, 19, 22, 25] → 0 ≤ x → x < 4294967296 → Calls Tryz.prog 164 #[.int .u32 x, .int .i64 k] w fun e w' => e = .returned (.int .u32 (rotr k x)) ∧ w' = w) := right_any
  go_enter Tryz.func161, Tryz.ntmps161
  go_wp2
  go_loopw [4] (fun i wr => ∃ k : Nat, k ≤ 16 ∧ i = .int .i64 k ∧ wr.heap[w.heap.size]? = some (.cells (cells32 64 (upto b 0)) 205 (0, 0)) ∧ wr.heap[w.heap.size + 1]? = some (.cells (cells32 64 (upto b k)) 205 (0, 0)) ∧ Below w.heap.size w wr) (fun i _ => 16 - (RowKit.intOf i).toNat)
  case atStart =>
    refine ⟨0, by omega, rfl, ?_, ?_, ?_⟩
    · exact heap_alloc2_old w _ _
    · exact heap_alloc2_new w _ _
    · exact (((Below.refl _ _).alloc (Nat.le_refl _) _).alloc (by simp) _)
  case round =>
    obtain ⟨k, hk, rfl, hg, hg1, hb⟩ := hrel
    by_cases hlt : k < 16
    · have E' := fun w => E.out k w hlt
      have HE : Hid (∀ w, Calls Tryz.prog 163 #[.string s, .int .i64 (4 * (k : Int))] w fun e w' => e = .returned (.int .u32 (sched b k)) ∧ ∃ n, w' = w.drewN n) := by
        have h := E'
        simp only [Int.natCast_mul] at h
        exact h
      clear E E'
      have ⟨hc, hf⟩ := upto_any hg1 (j := k) (by omega)
      have HG : Hid (wr.heap[w.heap.size]? = _ ∧ wr.heap[w.heap.size + 1]? = _ ∧ Below w.heap.size w wr) := ⟨hg, hg1, hb⟩
      clear hg hg1 hb
      go_wp2_with fail
      refine (HE.out _).mono ?_
      rintro e w' ⟨rfl, n, rfl⟩
      go_wp2
      go_roundw
      case rel => exact ⟨k + 1, by omega, by go_num, put_word HG.out.1 HG.out.2.1 HG.out.2.2 (by omega) (by omega) n⟩
      case measure => simp [RowKit.intOf]; omega
    · have e16 : k = 16 := by omega
      rw [e16] at hg1
      clear E e16
      go_wp2
      go_loopw [5] (fun i wr => ∃ k : Nat, 16 ≤ k ∧ k ≤ 64 ∧ i = .int .i64 k ∧ wr.heap[w.heap.size]? = some (.cells (cells32 64 (upto b 0)) 205 (0, 0)) ∧ wr.heap[w.heap.size + 1]? = some (.cells (cells32 64 (upto b k)) 205 (0, 0)) ∧ Below w.heap.size w wr) (fun i _ => 64 - (RowKit.intOf i).toNat)
      case atStart => exact ⟨16, by omega, by omega, rfl, hg, hg1, hb⟩
      case round =>
        clear hg hg1 hb hk hlt
        rename_i k0
        obtain ⟨k, hk0, hk, rfl, hg, hg1, hb⟩ := hrel
        by_cases hlt : k < 64
        · obtain ⟨hc, hf⟩ := upto_any hg1 (j := k) (by omega)
          have hc16 := upto_cell hg1 (j := k - 16) (by omega) (by omega)
          have hc15 := upto_cell hg1 (j := k - 15) (by omega) (by omega)
          have hc7 := upto_cell hg1 (j := k - 7) (by omega) (by omega)
          have hc2 := upto_cell hg1 (j := k - 2) (by omega) (by omega)
          have hw16 : IntKind.i64.wrap ((k : Int) - 16) = k - 16 := by rw [IntKind.wrap_i64]; omega
          have hw15 : IntKind.i64.wrap ((k : Int) - 15) = k - 15 := by rw [IntKind.wrap_i64]; omega
          have hw7 : IntKind.i64.wrap ((k : Int) - 7) = k - 7 := by rw [IntKind.wrap_i64]; omega
          have hw2 : IntKind.i64.wrap ((k : Int) - 2) = k - 2 := by rw [IntKind.wrap_i64]; omega
          have HG : Hid (wr.heap[w.heap.size]? = _ ∧ wr.heap[w.heap.size + 1]? = _ ∧ Below w.heap.size w wr) := ⟨hg, hg1, hb⟩
          clear hg hg1 hb
          have hs := sched_hi b (i := k) (by omega)
          obtain ⟨p16, q16⟩ := sched_bd b hbd (k - 16)
          obtain ⟨p15, q15⟩ := sched_bd b hbd (k - 15)
          obtain ⟨p7, q7⟩ := sched_bd b hbd (k - 7)
          obtain ⟨p2, q2⟩ := sched_bd b hbd (k - 2)
          generalize sched b (k - 16) = x16 at *
          generalize sched b (k - 15) = x15 at *
          generalize sched b (k - 7) = x7 at *
          generalize sched b (k - 2) = x2 at *
          unfold sig0 sig1 at hs
          have HS : Hid (sched b k = _) := hs
          clear hs
          go_wp2
          go_quiet (fail)
          go_wp2_with (go_at_call 164; refine (R.out _ _ _ (by decide) (by omega) (by omega)).mono ?_; rintro e w' ⟨rfl, rfl⟩)
          go_region
          all_goals
            rw [← HS.out]
            go_wp2
            go_roundw
            case rel => exact ⟨k + 1, by omega, by omega, by go_num, put_word HG.out.1 HG.out.2.1 HG.out.2.2 (by omega) (by omega) (nq + 1)⟩
            case measure => simp [RowKit.intOf]; omega
        · have e64 : k = 64 := by omega
          rw [e64] at hg1
          clear e64
          go_wp2_with (first | (refine wpList_load_row rfl 205 (.tmp 3) rfl (w.heap.size + 1) rfl _ _ _ _ hg1 Tryz.underlying205 rfl (by rw [cells32_size]; exact info64) ?_) | (refine wpList_store_row rfl 205 (.tmp 2) (.tmp 63) rfl w.heap.size _ rfl rfl _ _ hg (by rw [cells32_size]; exact info64) (by rw [cells32_size, cells32_size]) (cells32_one _ _) ?_))
          refine bodyPost_ret (results_cell_row Tryz.results161 _ _ w.heap.size _ _ _ _ rfl (setRow_heap wr _ _ _ _ _ hg) Tryz.underlying205 rfl (by rw [cells32_size]; exact info64)) rfl ⟨ret_agg (cells32_congr fun j hj => ?_), below_setRow hb (Nat.le_refl _) _⟩
          unfold upto
          rw [if_pos hj]
end Go.Proofs.YtcenlgfopmahcaaGreatDoor

/-
  The leaf of a text, the digest of two.
-/
namespace Go.Proofs.YtcenlgfopmahcaaGreatDoor
open Go.RowKit Go.Lib
set_option linter.unusedVariables false

def zeroB : ByteArray := ⟨#[0]⟩
def oneB : ByteArray := ⟨#[1]⟩
/-- The leaf of a text; the digest of two. -/
def leafB (t : ByteArray) : ByteArray := shaB (zeroB ++ t)
def nodeB (l r : ByteArray) : ByteArray := shaB ((oneB ++ l) ++ r)
theorem leafB_size (t : ByteArray) : (leafB t).size = 32 := shaB_size _
theorem nodeB_size (l r : ByteArray) : (nodeB l r).size = 32 := shaB_size _
end Go.Proofs.YtcenlgfopmahcaaGreatDoor

/-
  The digest of nothing; the tree of entries.
-/
namespace Go.Proofs.YtcenlgfopmahcaaGreatDoor
set_option linter.unusedVariables false

/-- The digest of nothing. -/
def noneB : ByteArray := shaB ByteArray.empty
/-- The tree of entries. -/
def treeB (l : List ByteArray) : ByteArray := treeD nodeB noneB (l.map leafB)
theorem treeB_none {l : List ByteArray} (h : l.length = 0) : treeB l = noneB := by
  obtain rfl := List.eq_nil_of_length_eq_zero h
  simp [treeB, treeD_nil]
theorem treeB_one {l : List ByteArray} (h : l.length = 1) (h0 : 0 < l.length) : treeB l = leafB l[0] := by
  match l, h with
  | [x], _ => exact treeD_one nodeB noneB (leafB x)
theorem treeB_more {l : List ByteArray} (h : 2 ≤ l.length) : treeB l = nodeB (treeB (l.take (half l.length))) (treeB (l.drop (half l.length))) := by
  unfold treeB
  rw [treeD_more nodeB noneB (l := l.map leafB) (by simpa using h), List.length_map, List.map_take, List.map_drop]
theorem noneB_size : noneB.size = 32 := shaB_size _
theorem treeB_size (l : List ByteArray) : (treeB l).size = 32 := by
  rcases Nat.lt_or_ge l.length 2 with h | h
  · by_cases h0 : l.length = 0
    · rw [treeB_none h0, noneB_size]
    · rw [treeB_one (by omega) (by omega), leafB_size]
  · rw [treeB_more h, nodeB_size]
end Go.Proofs.YtcenlgfopmahcaaGreatDoor

/-
  A key filled up to a block, each byte put together with one: laws on it.
-/
namespace Go.Proofs.YtcenlgfopmahcaaGreatDoor
open Go.RowKit Go.Lib
set_option linter.unusedVariables false

/-- n bytes, as cells. -/
def cells8 (n : Nat) (f : Nat → Int) : Array Value := ((List.range n).map fun j => Value.int .u8 (f j)).toArray
theorem cells8_size (n : Nat) (f : Nat → Int) : (cells8 n f).size = n := by simp [cells8]
theorem cells8_get {n : Nat} (f : Nat → Int) {j : Nat} (h : j < n) : (cells8 n f)[j]? = some (.int .u8 (f j)) := by simp [cells8, h]
theorem cells8_congr {n : Nat} {f g : Nat → Int} (h : ∀ j, j < n → f j = g j) : cells8 n f = cells8 n g := by
  unfold cells8
  congr 1
  apply List.map_congr_left
  intro j hj
  rw [h j (by simpa using hj)]
theorem cells8_set (n : Nat) (f : Nat → Int) (i : Nat) (v : Int) : (cells8 n f).setIfInBounds i (.int .u8 v) = cells8 n (fun j => if j = i then v else f j) := by
  apply Array.ext_getElem?
  intro k
  by_cases hk : k < n
  · rw [cells8_get _ hk, Array.getElem?_setIfInBounds]
    by_cases e : i = k
    · subst e; simp [cells8_size, hk]
    · rw [if_neg e, cells8_get _ hk, if_neg (fun h => e h.symm)]
  · rw [Array.getElem?_eq_none (by simp [cells8_size]; omega), Array.getElem?_eq_none (by simp [cells8_size]; omega)]

theorem bits8_bd (op : BinOp) (a b : Int) : 0 ≤ bits op .u8 a b ∧ bits op .u8 a b < 256 := by
  unfold bits
  simp only [IntKind.wrap_u8']
  omega
/-- The key filled up, each byte put together with m. -/
def maskL (l : List UInt8) (m : Int) : List UInt8 := (List.range 64).map fun j => UInt8.ofNat (bits .xor .u8 (byteL l j) m).toNat
def maskB (k : ByteArray) (m : Int) : ByteArray := baOf (maskL k.data.toList m)
theorem maskL_len (l : List UInt8) (m : Int) : (maskL l m).length = 64 := by simp [maskL]
theorem maskB_size (k : ByteArray) (m : Int) : (maskB k m).size = 64 := by rw [maskB, baOf_size, maskL_len]
def masked (l : List UInt8) (m : Int) (k : Nat) : Nat → Int := fun j => if j < k then bits .xor .u8 (byteL l j) m else byteL l j
theorem masked_set (l : List UInt8) (m : Int) (k : Nat) : (cells8 64 (masked l m k)).setIfInBounds k (.int .u8 (bits .xor .u8 (byteL l k) m)) = cells8 64 (masked l m (k + 1)) := by
  rw [cells8_set]
  apply cells8_congr
  intro j _
  unfold masked
  by_cases h : j = k
  · subst h; simp
  · rw [if_neg h]
    by_cases h2 : j < k
    · rw [if_pos h2, if_pos (by omega)]
    · rw [if_neg h2, if_neg (by omega)]
theorem masked_all (l : List UInt8) (m : Int) : (cells8 64 (masked l m 64)).toList.take 64 = byteCells (maskL l m) := by
  rw [List.take_of_length_le (by simp [cells8])]
  unfold cells8 byteCells maskL
  rw [List.map_map]
  apply List.map_congr_left
  intro j hj
  have hj' : j < 64 := by simpa using hj
  have hb := bits8_bd .xor (byteL l j) m
  simp only [masked, if_pos hj', Function.comp]
  congr 1
  rw [UInt8.toNat_ofNat']
  omega

theorem make_64 (w : World) : ∃ w1, (Instr.makeSlice 87 (.int .i64 64) (.int .i64 64)).run Tryz.prog w = .ok (.slice (some ⟨w.heap.size, 0, none⟩) 64 64) w1 ∧ w1.heap[w.heap.size]? = some (.cells (cells8 64 (fun _ => 0)) 5 (0, 0)) ∧ Below w.heap.size w w1 := by
  obtain ⟨i0, hi, hz0, hz1, hz2⟩ := info_parts infoByte
  have h := run_make (P := Tryz.prog) w 87 5 i0 (.int .u8 0) Tryz.underlying87 hi hz0 .i64 .i64 64 64 (by omega) (by omega) (by rw [hz2]; omega) (by omega)
  refine ⟨_, h, ?_, (Below.refl _ _).alloc (Nat.le_refl _) _⟩
  rw [(MapKept.heap_alloc w _).1, hz1]
  refine congrArg (fun c => some (Obj.cells c 5 (0, 0))) ?_
  apply Array.toList_inj.1
  have e := toList_madeCells_one (.int .u8 0) 64
  refine Eq.trans e ?_
  unfold cells8
  rfl
theorem pad_cells (n : Nat) (l : List UInt8) (hl : l.length ≤ n) : ((cells8 n (fun _ => 0)).toList.take 0 ++ byteCells l ++ (cells8 n (fun _ => 0)).toList.drop (0 + l.length)).toArray = cells8 n (masked l 0 0) := by
  apply Array.toList_inj.1
  apply List.ext_getElem?
  intro j
  have hb : (byteCells l).length = l.length := byteCells_length l
  simp only [List.take_zero, List.nil_append, Nat.zero_add, cells8, masked, Nat.not_lt_zero, if_false]
  by_cases hj : j < l.length
  · rw [List.getElem?_append_left (by omega)]
    have hjn : j < n := by omega
    simp [byteCells, byteL, List.getD, hj, hjn]
  · rw [List.getElem?_append_right (by omega), hb, List.getElem?_drop, show l.length + (j - l.length) = j by omega]
    by_cases hjn : j < n
    · simp [byteL, List.getD, hjn, hj]
    · simp [hjn]
theorem copy_key (w : World) (g : Nat) (k : ByteArray) (hg : w.heap[g]? = some (.cells (cells8 64 (fun _ => 0)) 5 (0, 0))) (hk : k.size ≤ 64) (B : Nat) (hB : B ≤ g) :
    ∃ w2, (Builtin.copy_ #[87, 9] 3 #[.slice (some ⟨g, 0, none⟩) 64 64, .string k]).run Tryz.prog w = .ok (goInt k.size) w2 ∧ w2.heap[g]? = some (.cells (cells8 64 (masked k.data.toList 0 0)) 5 (0, 0)) ∧ Below B w w2 := by
  have hz := cells8_size 64 (fun _ => 0)
  refine ⟨_, run_copy_row_string w _ _ _ _ g 0 64 64 k _ 5 Tryz.underlying87 sizeByte hg hk (by rw [hz]; omega), ?_, below_setRow (Below.refl _ _) hB _⟩
  rw [setRow_heap w g _ _ 5 _ hg]
  refine congrArg (fun c => some (Obj.cells c 5 (0, 0))) ?_
  exact pad_cells 64 k.data.toList hk

theorem key_cell {w : World} {g : Nat} {f : Nat → Int} (hg : w.heap[g]? = some (.cells (cells8 64 f) 5 (0, 0))) {j : Nat} (hj : j < 64) :
    w.cell? ⟨g, j, none⟩ = some (.int .u8 (f j)) ∧ w.frozen? ⟨g, j, none⟩ = false :=
  ⟨by rw [cell_of_row w g j _ _ _ hg, cells8_get _ hj], frozen_of_row w g j _ _ hg⟩

end Go.Proofs.YtcenlgfopmahcaaGreatDoor

/-
  What Mac and Stretch answer.
-/
namespace Go.Proofs.YtcenlgfopmahcaaGreatDoor
open Go.RowKit Go.Lib
set_option linter.unusedVariables false

/-- The mac of a key of at most 64 bytes. -/
def macK (k t : ByteArray) : ByteArray := shaB (maskB k 92 ++ shaB (maskB k 54 ++ t))
/-- The key, if it is longer its digest. -/
def keyB (k : ByteArray) : ByteArray := if 64 < (k.size : Int) then shaB k else k
def macB (k t : ByteArray) : ByteArray := macK (keyB k) t
theorem macB_size (k t : ByteArray) : (macB k t).size = 32 := shaB_size _
theorem keyB_size (k : ByteArray) : (keyB k).size ≤ 64 := by
  unfold keyB
  split
  · rw [shaB_size]; omega
  · omega
/-- What Mac answers. -/
def macV (k t : ByteArray) : ByteArray := if 20000 < (k.size : Int) ∨ 20000 < (t.size : Int) then ByteArray.empty else macB k t
def saltB : ByteArray := ⟨#[115, 97, 108, 116]⟩
/-- The pass, stretched n times. -/
def strB (p : ByteArray) : Nat → ByteArray
  | 0 => saltB
  | n + 1 => macB p (strB p n)
theorem strB_size (p : ByteArray) (n : Nat) : (strB p n).size ≤ 32 := by
  cases n with
  | zero => show saltB.size ≤ 32; decide
  | succ n => unfold strB; rw [macB_size]; omega
/-- What Stretch answers. -/
def strV (p : ByteArray) (n : Int) : ByteArray := if 20000 < (p.size : Int) ∨ n < 1 ∨ 100 < n then ByteArray.empty else strB p n.toNat
end Go.Proofs.YtcenlgfopmahcaaGreatDoor

/-
  What Included answers.
-/
namespace Go.Proofs.YtcenlgfopmahcaaGreatDoor
open Go.RowKit Go.Lib
set_option linter.unusedVariables false

/-- What the end of a run says. -/
def inclEnd (root : ByteArray) : Option (Nat × Nat × ByteArray) → Bool
  | none => false
  | some (_, b, h) => decide (b = 0) && (h.toList == root.toList)
/-- What Included answers. -/
def inclB (leaf : ByteArray) (i n : Int) (path : List ByteArray) (root : ByteArray) : Bool :=
  if 63 < (path.length : Int) ∨ wideB path = false ∨ ¬ (leaf.size : Int) = 32 ∨ ¬ (root.size : Int) = 32 ∨ i < 0 ∨ n ≤ i then false else inclEnd root (inclRun nodeB (some (i.toNat, (n - 1).toNat, leaf)) path)
end Go.Proofs.YtcenlgfopmahcaaGreatDoor

/-
  The program's key, filled up to a block, each byte put together with one.
-/
namespace Go.Proofs.YtcenlgfopmahcaaGreatDoor
open Go.RowKit Go.Lib
set_option linter.unusedVariables false

end Go.Proofs.YtcenlgfopmahcaaGreatDoor

/-
  A number of 32 bits turned right, the document's way.
-/
namespace Go.Proofs.YtcenlgfopmahcaaGreatDoor
open Go.RowKit
set_option linter.unusedVariables false

theorem turn_any (k x : Int) (w : World) (hk : k ∈ [2, 6, 7, 11, 13, 17, 18, 19, 22, 25]) (h0 : 0 ≤ x) (h1 : x < 4294967296) :
    Calls Tryz.prog 93 #[.int .u32 x, .int .u64 k] w fun e w' => e = .returned (.int .u32 (rotr k x)) ∧ w' = w := by
  simp only [List.mem_cons, List.not_mem_nil, or_false] at hk
  rcases hk with rfl | rfl | rfl | rfl | rfl | rfl | rfl | rfl | rfl | rfl
  all_goals
    go_enter Tryz.func93, Tryz.ntmps93
    go_wp2
    go_ret
    exact ⟨rfl, rfl⟩
end Go.Proofs.YtcenlgfopmahcaaGreatDoor
