/-
  Rows of numbers and of bytes, and the digest of a text as a text: what the walks of both sides use.
-/
import Derived.Test.YtollfcjbcfnfdaaDoorPkMem
import Derived.Test.YtollfcjbcfnfdaaDoorPkShaPure
import Derived.Test.YtollfcjbcfnfdaaDoorPkRot
import Derived.Test.YtollfcjbcfnfdaaDoorPkTexts
import Derived.Test.YtollfcjbcfnfdaaDoorPkSpecRange
import Derived.WalkKit
import Derived.WalkSpells
import Derived.Deep.QuietTactic
import Derived.BigQuiet
import Derived.BigRegion
import Derived.Deep.WholeRow
namespace Go.Proofs.YtollfcjbcfnfdaaDoor
open Go.RowKit Go.Lib
set_option linter.unusedVariables false

/-- n numbers of 32 bits, as cells. -/
def cells32 (n : Nat) (f : Nat → Int) : Array Value := ((List.range n).map fun j => Value.int .u32 (f j)).toArray
theorem cells32_size (n : Nat) (f : Nat → Int) : (cells32 n f).size = n := by simp [cells32]
theorem cells32_get {n : Nat} (f : Nat → Int) {j : Nat} (h : j < n) : (cells32 n f)[j]? = some (.int .u32 (f j)) := by simp [cells32, h]
theorem cells32_one (n : Nat) (f : Nat → Int) : (cells32 n f).all (·.oneCell') = true := by simp [cells32, Value.oneCell']
theorem cells32_set (n : Nat) (f : Nat → Int) (i : Nat) (v : Int) : (cells32 n f).setIfInBounds i (.int .u32 v) = cells32 n (fun j => if j = i then v else f j) := by
  apply Array.ext_getElem?
  intro k
  by_cases hk : k < n
  · rw [cells32_get _ hk, Array.getElem?_setIfInBounds]
    by_cases e : i = k
    · subst e; simp [cells32_size, hk]
    · rw [if_neg e, cells32_get _ hk, if_neg (fun h => e h.symm)]
  · rw [Array.getElem?_eq_none (by simp [cells32_size]; omega), Array.getElem?_eq_none (by simp [cells32_size]; omega)]
theorem cells32_congr {n : Nat} {f g : Nat → Int} (h : ∀ j, j < n → f j = g j) : cells32 n f = cells32 n g := by
  unfold cells32
  congr 1
  apply List.map_congr_left
  intro j hj
  rw [h j (by simpa using hj)]
def H8.cells (s : H8) : Array Value := #[.int .u32 s.a, .int .u32 s.b, .int .u32 s.c, .int .u32 s.d, .int .u32 s.e, .int .u32 s.f, .int .u32 s.g, .int .u32 s.h]
theorem H8.cells_eq (s : H8) : s.cells = cells32 8 s.at := rfl
/-- 'make', by the equation of its run. -/
theorem wp_make_run {w : World} {ops : Array Oper} {rest : List Oper} {o : Oper} {a : Act} {Q : Exit → Act → World → Prop} (hg : o.guard = none) (l c : Operand) (t : TypeId) (ho : o.op = .makeSlice t l c)
    (L C v : Value) (w1 : World) (hl : a.eval l = L) (hc : a.eval c = C) (hrun : (Instr.makeSlice t L C).run Tryd.prog w = .ok v w1) (h : wpList Tryd.prog ops Q rest (a.put o.dst v) w1) : wpList Tryd.prog ops Q (o :: rest) a w := by
  refine wpList_plain hg fun K hK' => ?_
  unfold Oper.wp
  simp [execOp, ho, hl, hc, hrun, Result.andThen]
  exact hK' _ _ h
theorem index_text (s : ByteArray) (k : Nat) (x : Int) (hx : x = k) (h : k < s.size) (w : World) : (Instr.index 9 (.string s) (.int .i64 x)).run Tryd.prog w = .ok (.int .u8 (byteL s.data.toList k)) w := by
  subst hx
  rw [run_index_string w 9 s .i64 _ Tryd.underlying9]
  unfold byteL
  have hl : k < s.data.size := h
  have e : s.data.toList.getD k 0 = s[k] := by
    simp only [List.getD, Array.getElem?_toList, Array.getElem?_eq_getElem hl, Option.getD_some]
    rfl
  rw [dif_pos ⟨by omega, by omega⟩, e]
  simp
theorem byteL_bd (l : List UInt8) (k : Nat) : 0 ≤ byteL l k ∧ byteL l k < 256 := by
  unfold byteL
  have := (l.getD k 0).toNat_lt
  omega
theorem below_drewN {B : Nat} {a w : World} (n : Nat) (h : Below B a w) : Below B a (w.drewN n) := ⟨h.os, h.tape, h.output, h.size, h.block⟩
theorem ret_agg {a b : Array Value} (h : a = b) : Ending.returned (.agg a) = .returned (.agg b) := by rw [h]
/-- The first k words are there. -/
def upto (b : Nat → Int) (k : Nat) : Nat → Int := fun j => if j < k then sched b j else 0
theorem upto_set (b : Nat → Int) (k : Nat) : (cells32 64 (upto b k)).setIfInBounds k (.int .u32 (sched b k)) = cells32 64 (upto b (k + 1)) := by
  rw [cells32_set]
  apply cells32_congr
  intro j _
  unfold upto
  by_cases h : j = k
  · subst h; simp
  · rw [if_neg h]
    by_cases h2 : j < k
    · rw [if_pos h2, if_pos (by omega)]
    · rw [if_neg h2, if_neg (by omega)]
theorem upto_cell {t : TypeId} {w : World} {g : Nat} {b : Nat → Int} {k : Nat} (hg : w.heap[g]? = some (.cells (cells32 64 (upto b k)) t (0, 0))) {j : Nat} (hj : j < 64) (hk : j < k) :
    w.cell? ⟨g, j, none⟩ = some (.int .u32 (sched b j)) := by
  rw [cell_of_row w g j _ _ _ hg, cells32_get _ hj, upto, if_pos hk]
theorem upto_any {t : TypeId} {w : World} {g : Nat} {f : Nat → Int} (hg : w.heap[g]? = some (.cells (cells32 64 f) t (0, 0))) {j : Nat} (hj : j < 64) :
    w.cell? ⟨g, j, none⟩ = some (.int .u32 (f j)) ∧ w.frozen? ⟨g, j, none⟩ = false :=
  ⟨by rw [cell_of_row w g j _ _ _ hg, cells32_get _ hj], frozen_of_row w g j _ _ hg⟩
theorem ba_len (x : ByteArray) : x.data.toList.length = x.size := rfl
theorem ba_ext {a b : ByteArray} (h : a.data.toList = b.data.toList) : a = b := by
  apply ByteArray.ext
  exact Array.toList_inj.1 h
theorem byte_mod (n : Int) : (UInt8.ofNat (n % 256).toNat).toNat = n % 256 := by
  rw [UInt8.toNat_ofNat']
  omega
/-- 'append(row, a, b, c, d)', row the call's own: it owns four bytes more; of what lies below B nothing turns. -/
theorem wp_app_four {w : World} {ops : Array Oper} {rest : List Oper} {o : Oper} {a : Act} {Q : Exit → Act → World → Prop} (hgd : o.guard = none) (s x : Operand)
    (ho : o.op = .call { callee := .builtin .append, args := #[s, x], argTypes := #[22, 22] }) (B : Nat) (v : Value) (l : List UInt8) (hs : a.eval s = v) (hown : OwnB w B v l) (c0 c1 c2 c3 : UInt8) (y0 y1 y2 y3 : Int) (hy0 : y0 = c0.toNat) (hy1 : y1 = c1.toNat) (hy2 : y2 = c2.toNat) (hy3 : y3 = c3.toNat)
    (hx : a.eval x = .slice (some ⟨w.heap.size, 0, none⟩) 4 4) (hl : l.length ≤ 1073741824) (hB : B ≤ w.heap.size)
    (h : ∀ v' w', OwnB w' B v' (l ++ [c0, c1, c2, c3]) → Below B w w' → wpList Tryd.prog ops Q rest (a.put o.dst v') w') : wpList Tryd.prog ops Q (o :: rest) a (w.alloc (.cells #[.int .u8 y0, .int .u8 y1, .int .u8 y2, .int .u8 y3] 5)) := by
  obtain ⟨i0, hi, hz0, hz1, hz2⟩ := info_parts infoByte
  refine wpList_append_own _ hgd s x 22 ho B 5 i0 (.int .u8 0) 1 1 Tryd.underlying22 hi hz0 hz1 hz2 rfl (by decide) v l.length (byteCells l) hs (World.ownsRow.alloc hown _) ⟨w.heap.size, 0, none⟩ 4 4 [.int .u8 y0, .int .u8 y1, .int .u8 y2, .int .u8 y3] hx rfl
    (fun j u hu => ?_) (by intro u hu; simp at hu; rcases hu with rfl | rfl | rfl | rfl <;> rfl) (by unfold maxLen; omega) (by omega) (by simp; omega) ?_
  · have hadd : (⟨w.heap.size, 0, none⟩ : Addr).add j = ⟨w.heap.size, j, none⟩ := by unfold Addr.add; split <;> simp_all
    rw [hadd, cell_of_row _ _ j _ _ _ (heap_alloc_new w _)]
    simpa using hu
  intro v' w' h1 h2 _
  refine h v' w' ?_ ?_
  · unfold OwnB
    subst hy0 hy1 hy2 hy3
    simpa [byteCells] using h1
  · refine ((Below.refl B w).alloc hB _).grown h2 (by simp; omega) fun k hk => ?_
    exact (World.ownsRow.lt hown k hk).1
def baOf (l : List UInt8) : ByteArray := ⟨l.toArray⟩
theorem baOf_list (l : List UInt8) : (baOf l).data.toList = l := rfl
theorem baOf_size (l : List UInt8) : (baOf l).size = l.length := by simp [baOf, ByteArray.size]
/-- The digest of a text. -/
def shaB (s : ByteArray) : ByteArray := baOf (shaL s.data.toList)
theorem shaB_size (s : ByteArray) : (shaB s).size = 32 := by rw [shaB, baOf_size, shaL_len]
theorem ba_app_list (a b : ByteArray) : (a ++ b).data.toList = a.data.toList ++ b.data.toList := by simp [ByteArray.data_append]
/-- What Digest answers. -/
def digV (s : ByteArray) : ByteArray := if 20000 < (s.size : Int) then ByteArray.empty else shaB s
end Go.Proofs.YtollfcjbcfnfdaaDoor

/-
  A number of 32 bits turned right, the document's way.
-/
namespace Go.Proofs.YtollfcjbcfnfdaaDoor
open Go.RowKit
set_option linter.unusedVariables false

theorem turn_any (k x : Int) (w : World) (hk : k ∈ [2, 6, 7, 11, 13, 17, 18, 19, 22, 25]) (h0 : 0 ≤ x) (h1 : x < 4294967296) :
    Calls Tryd.prog 108 #[.int .u32 x, .int .u64 k] w fun e w' => e = .returned (.int .u32 (rotr k x)) ∧ w' = w := by
  simp only [List.mem_cons, List.not_mem_nil, or_false] at hk
  rcases hk with rfl | rfl | rfl | rfl | rfl | rfl | rfl | rfl | rfl | rfl
  all_goals
    go_enter Tryd.func108, Tryd.ntmps108
    go_wp2
    go_ret
    exact ⟨rfl, rfl⟩
end Go.Proofs.YtollfcjbcfnfdaaDoor

/-
  The leaf of a text, the digest of two.
-/
namespace Go.Proofs.YtollfcjbcfnfdaaDoor
open Go.RowKit Go.Lib
set_option linter.unusedVariables false

def zeroB : ByteArray := ⟨#[0]⟩
def oneB : ByteArray := ⟨#[1]⟩
/-- The leaf of a text; the digest of two. -/
def leafB (t : ByteArray) : ByteArray := shaB (zeroB ++ t)
def nodeB (l r : ByteArray) : ByteArray := shaB ((oneB ++ l) ++ r)
theorem leafB_size (t : ByteArray) : (leafB t).size = 32 := shaB_size _
theorem nodeB_size (l r : ByteArray) : (nodeB l r).size = 32 := shaB_size _
end Go.Proofs.YtollfcjbcfnfdaaDoor

/-
  The digest of nothing; the tree of entries.
-/
namespace Go.Proofs.YtollfcjbcfnfdaaDoor
set_option linter.unusedVariables false

/-- The digest of nothing. -/
def noneB : ByteArray := shaB ByteArray.empty
/-- The tree of entries. -/
def treeB (l : List ByteArray) : ByteArray := treeD nodeB noneB (l.map leafB)
theorem treeB_none {l : List ByteArray} (h : l.length = 0) : treeB l = noneB := by
  obtain rfl := List.eq_nil_of_length_eq_zero h
  simp [treeB, treeD_nil]
theorem treeB_one {l : List ByteArray} (h : l.length = 1) (h0 : 0 < l.length) : treeB l = leafB l[0] := by
  match l, h with
  | [x], _ => exact treeD_one nodeB noneB (leafB x)
theorem treeB_more {l : List ByteArray} (h : 2 ≤ l.length) : treeB l = nodeB (treeB (l.take (half l.length))) (treeB (l.drop (half l.length))) := by
  unfold treeB
  rw [treeD_more nodeB noneB (l := l.map leafB) (by simpa using h), List.length_map, List.map_take, List.map_drop]
theorem noneB_size : noneB.size = 32 := shaB_size _
theorem treeB_size (l : List ByteArray) : (treeB l).size = 32 := by
  rcases Nat.lt_or_ge l.length 2 with h | h
  · by_cases h0 : l.length = 0
    · rw [treeB_none h0, noneB_size]
    · rw [treeB_one (by omega) (by omega), leafB_size]
  · rw [treeB_more h, nodeB_size]
end Go.Proofs.YtollfcjbcfnfdaaDoor

/-
  The program's words of a block and its round.
-/
namespace Go.Proofs.YtollfcjbcfnfdaaDoor
open Go.RowKit Go.Lib
set_option linter.unusedVariables false

set_option maxHeartbeats 1000000 in
theorem wordAt_any (s : ByteArray) (k : Nat) (w : World) (hk : k + 4 ≤ s.size) (hs : s.size ≤ 1048576) :
    Calls Tryd.prog 116 #[.string s, .int .i64 k] w fun e w' => e = .returned (.int .u32 (four (byteL s.data.toList k) (byteL s.data.toList (k + 1)) (byteL s.data.toList (k + 2)) (byteL s.data.toList (k + 3)))) ∧ ∃ n, w' = w.drewN n := by
  have i0 := fun w => index_text s k _ rfl (by omega) w
  have i1 := fun w => index_text s (k + 1) (k + 1 : Int) (by omega) (by omega) w
  have i2 := fun w => index_text s (k + 2) (k + 2 : Int) (by omega) (by omega) w
  have i3 := fun w => index_text s (k + 3) (k + 3 : Int) (by omega) (by omega) w
  have w1 : IntKind.i64.wrap ((k : Int) + 1) = k + 1 := by rw [IntKind.wrap_i64]; omega
  have w2 : IntKind.i64.wrap ((k : Int) + 2) = k + 2 := by rw [IntKind.wrap_i64]; omega
  have w3 : IntKind.i64.wrap ((k : Int) + 3) = k + 3 := by rw [IntKind.wrap_i64]; omega
  obtain ⟨p0, q0⟩ := byteL_bd s.data.toList k
  obtain ⟨p1, q1⟩ := byteL_bd s.data.toList (k + 1)
  obtain ⟨p2, q2⟩ := byteL_bd s.data.toList (k + 2)
  obtain ⟨p3, q3⟩ := byteL_bd s.data.toList (k + 3)
  generalize byteL s.data.toList k = x at *
  generalize byteL s.data.toList (k + 1) = y at *
  generalize byteL s.data.toList (k + 2) = z at *
  generalize byteL s.data.toList (k + 3) = u at *
  clear hk hs
  go_enter Tryd.func116, Tryd.ntmps116
  go_wp2
  go_quiet (fail)
  go_wp2
  go_ret
  exact ⟨rfl, _, rfl⟩

end Go.Proofs.YtollfcjbcfnfdaaDoor

/-
  The program's round: it answers the eight numbers behind the round.
-/
namespace Go.Proofs.YtollfcjbcfnfdaaDoor
open Go.RowKit Go.Lib
set_option linter.unusedVariables false

set_option maxHeartbeats 1000000 in
theorem afterRound_any (s : H8) (add : Int) (w : World) (hs : s.Ok) (ha : In32 add) :
    Calls Tryd.prog 115 #[.agg s.cells, .int .u32 add] w fun e w' => e = .returned (.agg (s.step add).cells) ∧ Below w.heap.size w w' := by
  obtain ⟨⟨a0, a1⟩, ⟨b0, b1⟩, ⟨c0, c1⟩, ⟨d0, d1⟩, ⟨e0, e1⟩, ⟨f0, f1⟩, ⟨g0, g1⟩, ⟨h0, h1⟩⟩ := hs
  obtain ⟨ha0, ha1⟩ := ha
  have R : Hid (∀ (k x : Int) (w : World), k ∈ [2, 6, 7, 11, 13, 17, 18, 19, 22, 25] → 0 ≤ x → x < 4294967296 → Calls Tryd.prog 117 #[.int .u32 x, .int .i64 k] w fun e w' => e = .returned (.int .u32 (rotr k x)) ∧ w' = w) := right_any
  obtain ⟨V, hV⟩ : ∃ V, V = (s.step add).cells := ⟨_, rfl⟩
  rw [← hV]
  have hv : #[Value.int .u32 ((s.h + big1 s.e + chF s.e s.f s.g + add + (big0 s.a + majF s.a s.b s.c)) % 4294967296), .int .u32 s.a, .int .u32 s.b, .int .u32 s.c, .int .u32 ((s.d + (s.h + big1 s.e + chF s.e s.f s.g + add)) % 4294967296), .int .u32 s.e, .int .u32 s.f, .int .u32 s.g] = V := by
    rw [hV, step_a, step_e]
    rfl
  clear hV
  unfold big1 big0 chF majF at hv
  have HV : Hid _ := hv
  clear hv
  unfold H8.cells
  obtain ⟨a, b, c, d, e, f, g, h⟩ := s
  dsimp only at *
  have hm : IntKind.u32.max = 4294967295 := rfl
  go_enter Tryd.func115, Tryd.ntmps115
  go_wp2
  go_quiet (fail)
  go_wp2_with (go_at_call 117; refine (R.out _ _ _ (by decide) (by omega) (by omega)).mono ?_; rintro e w' ⟨rfl, rfl⟩)
  refine bodyPost_ret (v := .agg V) (by simp [results, Tryd.results115, go_sem]; exact HV.out) rfl ⟨rfl, ?_⟩
  refine (((((((Below.setCell ?_ (by simp) _).setCell (by simp) _).setCell (by simp) _).setCell (by simp) _).setCell (by simp) _).setCell (by simp) _).setCell (by simp) _).setCell (by simp) _
  exact below_drewN _ (((Below.refl _ _).alloc (Nat.le_refl _) _).alloc (by simp) _)
end Go.Proofs.YtollfcjbcfnfdaaDoor

/-
  The program's words of a block, spread over the rounds.
-/
namespace Go.Proofs.YtollfcjbcfnfdaaDoor
open Go.RowKit Go.Lib
set_option linter.unusedVariables false

theorem info64 : (Tryd.prog.info? 118).map (·.size) = some 64 := by kernel_rfl

theorem load64 (w : World) (g : Nat) (f : Nat → Int) (hg : w.heap[g]? = some (.cells (cells32 64 f) 118 (0, 0))) :
    (Instr.loadAt 118 (.pointer (some ⟨g, 0, none⟩))).run Tryd.prog w = .ok (.agg (cells32 64 f)) w := by
  simp only [Instr.loadAt, Instr.sureAddr, Sem.run_bind, Sem.run_pure, Result.andThen_ok]
  exact run_loadVar_row w g _ _ _ _ _ hg Tryd.underlying118 rfl (by rw [cells32_size]; exact info64)
theorem store64 (w : World) (g : Nat) (old : Array Value) (f : Nat → Int) (hg : w.heap[g]? = some (.cells old 118 (0, 0))) (ho : old.size = 64) :
    (Instr.storeAt 118 (.pointer (some ⟨g, 0, none⟩)) (.agg (cells32 64 f))).run Tryd.prog w = .ok () (w.setRow g (cells32 64 f)) := by
  simp only [Instr.storeAt, Instr.sureAddr, Sem.run_bind, Sem.run_pure, Result.andThen_ok]
  exact run_storeVar_row w g _ _ _ _ hg (by rw [cells32_size]; exact info64) (by rw [ho, cells32_size]) (cells32_one _ _)

theorem put_word {w wr : World} {b : Nat → Int} {k : Nat} (hg : wr.heap[w.heap.size]? = some (.cells (cells32 64 (upto b 0)) 118 (0, 0))) (hg1 : wr.heap[w.heap.size + 1]? = some (.cells (cells32 64 (upto b k)) 118 (0, 0))) (hb : Below w.heap.size w wr) (hk : k < 64) (_ : k < 64) (n : Nat) :
    ((wr.drewN n).setCell ⟨w.heap.size + 1, k, none⟩ (.int .u32 (sched b k))).heap[w.heap.size]? = some (.cells (cells32 64 (upto b 0)) 118 (0, 0)) ∧
    ((wr.drewN n).setCell ⟨w.heap.size + 1, k, none⟩ (.int .u32 (sched b k))).heap[w.heap.size + 1]? = some (.cells (cells32 64 (upto b (k + 1))) 118 (0, 0)) ∧
    Below w.heap.size w ((wr.drewN n).setCell ⟨w.heap.size + 1, k, none⟩ (.int .u32 (sched b k))) := by
  refine ⟨?_, ?_, (below_drewN n hb).setCell (by simp) _⟩
  · rw [heap_setCell_other _ _ _ _ (by simp)]
    exact hg
  · rw [heap_setCell_same (wr.drewN n) _ k _ _ _ hg1, upto_set]

set_option maxHeartbeats 1000000 in
theorem blockWords_any (s : ByteArray) (w : World) (hs : s.size = 64) :
    Calls Tryd.prog 114 #[.string s] w fun e w' => e = .returned (.agg (cells32 64 (sched (wordF s.data.toList)))) ∧ Below w.heap.size w w' := by
  have E : Hid (∀ (k : Nat) (w : World), k < 16 → Calls Tryd.prog 116 #[.string s, .int .i64 ((4 * k : Nat) : Int)] w fun e w' => e = .returned (.int .u32 (sched (wordF s.data.toList) k)) ∧ ∃ n, w' = w.drewN n) := by
    intro k w hk
    rw [sched_lo _ hk]
    exact wordAt_any s (4 * k) w (by omega) (by omega)
  clear hs
  have hbd : ∀ i, i < 16 → 0 ≤ wordF s.data.toList i ∧ wordF s.data.toList i < 4294967296 := fun i _ => wordF_bd _ i
  generalize wordF s.data.toList = b at *
  have R : Hid (∀ (k x : Int) (w : World), k ∈ [2, 6, 7, 11, 13, 17, 18, 19, 22, 25] → 0 ≤ x → x < 4294967296 → Calls Tryd.prog 117 #[.int .u32 x, .int .i64 k] w fun e w' => e = .returned (.int .u32 (rotr k x)) ∧ w' = w) := right_any
  go_enter Tryd.func114, Tryd.ntmps114
  go_wp2
  go_loopw [4] (fun i wr => ∃ k : Nat, k ≤ 16 ∧ i = .int .i64 k ∧ wr.heap[w.heap.size]? = some (.cells (cells32 64 (upto b 0)) 118 (0, 0)) ∧ wr.heap[w.heap.size + 1]? = some (.cells (cells32 64 (upto b k)) 118 (0, 0)) ∧ Below w.heap.size w wr) (fun i _ => 16 - (intOf i).toNat)
  case atStart =>
    refine ⟨0, by omega, rfl, ?_, ?_, ?_⟩
    · exact heap_alloc2_old w _ _
    · exact heap_alloc2_new w _ _
    · exact (((Below.refl _ _).alloc (Nat.le_refl _) _).alloc (by simp) _)
  case round =>
    obtain ⟨k, hk, rfl, hg, hg1, hb⟩ := hrel
    by_cases hlt : k < 16
    · have E' := fun w => E.out k w hlt
      have HE : Hid (∀ w, Calls Tryd.prog 116 #[.string s, .int .i64 (4 * (k : Int))] w fun e w' => e = .returned (.int .u32 (sched b k)) ∧ ∃ n, w' = w.drewN n) := by
        have h := E'
        simp only [Int.natCast_mul] at h
        exact h
      clear E E'
      have ⟨hc, hf⟩ := upto_any hg1 (j := k) (by omega)
      have HG : Hid (wr.heap[w.heap.size]? = _ ∧ wr.heap[w.heap.size + 1]? = _ ∧ Below w.heap.size w wr) := ⟨hg, hg1, hb⟩
      clear hg hg1 hb
      go_wp2_with fail
      refine (HE.out _).mono ?_
      rintro e w' ⟨rfl, n, rfl⟩
      go_wp2
      go_roundw
      case rel => exact ⟨k + 1, by omega, by go_num, put_word HG.out.1 HG.out.2.1 HG.out.2.2 (by omega) (by omega) n⟩
      case measure => simp [intOf]; omega
    · have e16 : k = 16 := by omega
      rw [e16] at hg1
      clear E e16
      go_wp2
      go_loopw [5] (fun i wr => ∃ k : Nat, 16 ≤ k ∧ k ≤ 64 ∧ i = .int .i64 k ∧ wr.heap[w.heap.size]? = some (.cells (cells32 64 (upto b 0)) 118 (0, 0)) ∧ wr.heap[w.heap.size + 1]? = some (.cells (cells32 64 (upto b k)) 118 (0, 0)) ∧ Below w.heap.size w wr) (fun i _ => 64 - (intOf i).toNat)
      case atStart => exact ⟨16, by omega, by omega, rfl, hg, hg1, hb⟩
      case round =>
        clear hg hg1 hb hk hlt
        rename_i k0
        obtain ⟨k, hk0, hk, rfl, hg, hg1, hb⟩ := hrel
        by_cases hlt : k < 64
        · obtain ⟨hc, hf⟩ := upto_any hg1 (j := k) (by omega)
          have hc16 := upto_cell hg1 (j := k - 16) (by omega) (by omega)
          have hc15 := upto_cell hg1 (j := k - 15) (by omega) (by omega)
          have hc7 := upto_cell hg1 (j := k - 7) (by omega) (by omega)
          have hc2 := upto_cell hg1 (j := k - 2) (by omega) (by omega)
          have hw16 : IntKind.i64.wrap ((k : Int) - 16) = k - 16 := by rw [IntKind.wrap_i64]; omega
          have hw15 : IntKind.i64.wrap ((k : Int) - 15) = k - 15 := by rw [IntKind.wrap_i64]; omega
          have hw7 : IntKind.i64.wrap ((k : Int) - 7) = k - 7 := by rw [IntKind.wrap_i64]; omega
          have hw2 : IntKind.i64.wrap ((k : Int) - 2) = k - 2 := by rw [IntKind.wrap_i64]; omega
          have HG : Hid (wr.heap[w.heap.size]? = _ ∧ wr.heap[w.heap.size + 1]? = _ ∧ Below w.heap.size w wr) := ⟨hg, hg1, hb⟩
          clear hg hg1 hb
          have hs := sched_hi b (i := k) (by omega)
          obtain ⟨p16, q16⟩ := sched_bd b hbd (k - 16)
          obtain ⟨p15, q15⟩ := sched_bd b hbd (k - 15)
          obtain ⟨p7, q7⟩ := sched_bd b hbd (k - 7)
          obtain ⟨p2, q2⟩ := sched_bd b hbd (k - 2)
          generalize sched b (k - 16) = x16 at *
          generalize sched b (k - 15) = x15 at *
          generalize sched b (k - 7) = x7 at *
          generalize sched b (k - 2) = x2 at *
          unfold sig0 sig1 at hs
          have HS : Hid (sched b k = _) := hs
          clear hs
          go_wp2
          go_quiet (fail)
          go_wp2_with (go_at_call 117; refine (R.out _ _ _ (by decide) (by omega) (by omega)).mono ?_; rintro e w' ⟨rfl, rfl⟩)
          go_region
          all_goals
            rw [← HS.out]
            go_wp2
            go_roundw
            case rel => exact ⟨k + 1, by omega, by omega, by go_num, put_word HG.out.1 HG.out.2.1 HG.out.2.2 (by omega) (by omega) (nq + 1)⟩
            case measure => simp [intOf]; omega
        · have e64 : k = 64 := by omega
          rw [e64] at hg1
          clear e64
          go_wp2_with (first | (refine wpList_load_row rfl 118 (.tmp 3) rfl (w.heap.size + 1) rfl _ _ _ _ hg1 Tryd.underlying118 rfl (by rw [cells32_size]; exact info64) ?_) | (refine wpList_store_row rfl 118 (.tmp 2) (.tmp 63) rfl w.heap.size _ rfl rfl _ _ hg (by rw [cells32_size]; exact info64) (by rw [cells32_size, cells32_size]) (cells32_one _ _) ?_))
          refine bodyPost_ret (results_cell_row Tryd.results114 _ _ w.heap.size _ _ _ _ rfl (setRow_heap wr _ _ _ _ _ hg) Tryd.underlying118 rfl (by rw [cells32_size]; exact info64)) rfl ⟨ret_agg (cells32_congr fun j hj => ?_), below_setRow hb (Nat.le_refl _) _⟩
          unfold upto
          rw [if_pos hj]
end Go.Proofs.YtollfcjbcfnfdaaDoor

/-
  What Included answers.
-/
namespace Go.Proofs.YtollfcjbcfnfdaaDoor
open Go.RowKit Go.Lib
set_option linter.unusedVariables false

/-- What the end of a run says. -/
def inclEnd (root : ByteArray) : Option (Nat × Nat × ByteArray) → Bool
  | none => false
  | some (_, b, h) => decide (b = 0) && (h.toList == root.toList)
/-- What Included answers. -/
def inclB (leaf : ByteArray) (i n : Int) (path : List ByteArray) (root : ByteArray) : Bool :=
  if 63 < (path.length : Int) ∨ wideB path = false ∨ ¬ (leaf.size : Int) = 32 ∨ ¬ (root.size : Int) = 32 ∨ i < 0 ∨ n ≤ i then false else inclEnd root (inclRun nodeB (some (i.toNat, (n - 1).toNat, leaf)) path)
end Go.Proofs.YtollfcjbcfnfdaaDoor

/-
  What Consistent answers.
-/
namespace Go.Proofs.YtollfcjbcfnfdaaDoor
open Go.RowKit Go.Lib
set_option linter.unusedVariables false

/-- Halved as long as it is even. -/
def oddS (go : Nat → Nat) (n : Nat) : Nat := if h : n % 2 = 0 ∧ 0 < n then go (n / 2) else n
def oddOf (n : Nat) : Nat := wfix id 0 oddS n
theorem oddOf_eq (n : Nat) : oddOf n = if h : n % 2 = 0 ∧ 0 < n then oddOf (n / 2) else n :=
  wfix_eq id 0 oddS (fun x g g' h => by
    unfold oddS
    by_cases c : x % 2 = 0 ∧ 0 < x
    · rw [dif_pos c, dif_pos c]
      exact h _ (by show x / 2 < x; omega)
    · rw [dif_neg c, dif_neg c]) n
def powB (n : Nat) : Bool := decide (oddOf n = 1)
theorem oddOf_even {n : Nat} (h : n % 2 = 0) (h0 : 0 < n) : oddOf n = oddOf (n / 2) := by rw [oddOf_eq, dif_pos ⟨h, h0⟩]
theorem oddOf_odd {n : Nat} (h : n % 2 = 1) : oddOf n = n := by rw [oddOf_eq, dif_neg (by omega)]
theorem oddOf_pow (e : Nat) : oddOf (2 ^ e) = 1 := by
  induction e with
  | zero => exact oddOf_odd rfl
  | succ e ih =>
    have hp := Nat.two_pow_pos e
    rw [oddOf_even (by rw [Nat.pow_succ]; omega) (by rw [Nat.pow_succ]; omega), show 2 ^ (e + 1) / 2 = 2 ^ e by rw [Nat.pow_succ]; omega, ih]
theorem pow_oddOf (n : Nat) : oddOf n = 1 → ∃ e, n = 2 ^ e := by
  induction n using Nat.strongRecOn with
  | ind n ih =>
    intro h
    by_cases h2 : n % 2 = 0 ∧ 0 < n
    · rw [oddOf_even h2.1 h2.2] at h
      obtain ⟨e, he⟩ := ih (n / 2) (by omega) h
      exact ⟨e + 1, by rw [Nat.pow_succ, ← he]; omega⟩
    · rw [oddOf_eq, dif_neg h2] at h
      exact ⟨0, by rw [h]⟩
theorem powB_iff (n : Nat) : powB n = true ↔ ∃ e, n = 2 ^ e := by
  unfold powB
  rw [decide_eq_true_iff]
  exact ⟨pow_oddOf n, fun ⟨e, he⟩ => by rw [he]; exact oddOf_pow e⟩

/-- What the end of a run says. -/
def consEnd (was root : ByteArray) : Option (Nat × Nat × ByteArray × ByteArray) → Bool
  | none => false
  | some (_, b, x, y) => decide (b = 0) && (x.toList == was.toList) && (y.toList == root.toList)
/-- The row that is run over. -/
def rowB (m : Nat) (proof : List ByteArray) (was : ByteArray) : List ByteArray := if powB m then was :: proof else proof
/-- What Consistent answers of right arguments. -/
def consY (m n : Nat) (proof : List ByteArray) (was root : ByteArray) : Bool :=
  if m = n then decide (proof.length = 0) && (was.toList == root.toList) else consEnd was root (consAll nodeB (odds (m - 1) (n - 1)) (rowB m proof was))
/-- What Consistent answers. -/
def consB (m n : Int) (proof : List ByteArray) (was root : ByteArray) : Bool :=
  if 64 < (proof.length : Int) ∨ wideB proof = false ∨ ¬ (was.size : Int) = 32 ∨ ¬ (root.size : Int) = 32 ∨ m < 1 ∨ n < m then false else consY m.toNat n.toNat proof was root
theorem consB_no {m n : Int} {proof : List ByteArray} {was root : ByteArray} (h : 64 < (proof.length : Int) ∨ wideB proof = false ∨ ¬ (was.size : Int) = 32 ∨ ¬ (root.size : Int) = 32 ∨ m < 1 ∨ n < m) : consB m n proof was root = false := by
  unfold consB
  rw [if_pos h]
theorem consB_yes {m n : Int} {proof : List ByteArray} {was root : ByteArray} (h1 : proof.length ≤ 64) (h2 : wideB proof = true) (h3 : (was.size : Int) = 32) (h4 : (root.size : Int) = 32) (h5 : 1 ≤ m) (h6 : m ≤ n) : consB m n proof was root = consY m.toNat n.toNat proof was root := by
  unfold consB
  rw [if_neg]
  rintro (h | h | h | h | h | h)
  · omega
  · rw [h2] at h; cases h
  · exact h h3
  · exact h h4
  · omega
  · omega

/-- Retraced from above, and held against both. -/
theorem cons_ret (m n : Nat) (proof : List ByteArray) (was root : ByteArray) (h1 : 1 ≤ m) (hmn : m ≤ n) :
    consY m n proof was root = ((retR nodeB ByteArray.empty was proof.reverse m n true).2 && (((retR nodeB ByteArray.empty was proof.reverse m n true).1.1.toList == was.toList) && ((retR nodeB ByteArray.empty was proof.reverse m n true).1.2.toList == root.toList))) := by
  unfold consY
  by_cases hm : m = n
  · subst hm
    rw [if_pos rfl]
    cases hr : proof.reverse with
    | nil =>
      have hp : proof = [] := List.reverse_eq_nil_iff.1 hr
      rw [retR, if_pos ⟨rfl, rfl⟩, hp]
      simp
    | cons p r =>
      have hp : ¬ proof.length = 0 := by
        intro h
        have : proof.reverse.length = 0 := by rw [List.length_reverse, h]
        rw [hr] at this
        simp at this
      rw [retR, if_pos ⟨rfl, rfl⟩, decide_eq_false hp]
      simp
  · rw [if_neg hm]
    have key : ∀ R : (ByteArray × ByteArray) × Bool, ∀ s : Option (Nat × Nat × ByteArray × ByteArray), consOut s = (if R.2 then some R.1 else none) → consEnd was root s = (R.2 && ((R.1.1.toList == was.toList) && (R.1.2.toList == root.toList))) := by
      rintro ⟨⟨x, y⟩, f⟩ s hs
      cases s with
      | none =>
        cases f with
        | true => simp [consOut] at hs
        | false => rfl
      | some t =>
        obtain ⟨a, b, x', y'⟩ := t
        by_cases hb : b = 0
        · cases f with
          | true =>
            simp [consOut, hb] at hs
            obtain ⟨rfl, rfl⟩ := hs
            simp [consEnd, hb]
          | false => simp [consOut, hb] at hs
        · cases f with
          | true => simp [consOut, hb] at hs
          | false => simp [consEnd, hb]
    by_cases hp : powB m = true
    · have hpow := (powB_iff m).1 hp
      have hrow : rowB m proof was = was :: proof := by unfold rowB; rw [if_pos hp]
      have hrun := ret_run nodeB ByteArray.empty was m n (was :: proof) h1 (by omega)
      rw [hrow, key _ _ hrun, List.reverse_cons]
      obtain ⟨e1, e2⟩ := ret_pow nodeB ByteArray.empty was proof.reverse m n hpow hmn (.inr (by omega))
      rw [← e1]
      cases hf : (retR nodeB ByteArray.empty was proof.reverse m n true).2 with
      | false => rfl
      | true => rw [e2 hf]
    · have hrow : rowB m proof was = proof := by unfold rowB; rw [if_neg hp]
      have hrun := ret_run nodeB ByteArray.empty was m n proof h1 (by omega)
      rw [hrow, key _ _ hrun, ret_not nodeB ByteArray.empty was proof.reverse m n (fun h => hp ((powB_iff m).2 h)) h1 (by omega)]
end Go.Proofs.YtollfcjbcfnfdaaDoor

/-
  What a right range is.
-/
namespace Go.Proofs.YtollfcjbcfnfdaaDoor
open Go.RowKit Go.Lib
set_option linter.unusedVariables false

/-- Is a range right? -/
def rangeB (size : Int) (l : List ByteArray) : Bool := decide (0 ≤ size ∧ size ≤ 1000000) && (decide ((l.length : Int) = (onesN size.toNat : Int)) && wideB l)
theorem rangeB_out {size : Int} {l : List ByteArray} (h : ¬ (0 ≤ size ∧ size ≤ 1000000)) : rangeB size l = false := by
  unfold rangeB
  rw [decide_eq_false h, Bool.false_and]
theorem rangeB_len {size : Int} {l : List ByteArray} (h : ¬ (l.length : Int) = (onesN size.toNat : Int)) : rangeB size l = false := by
  unfold rangeB
  rw [decide_eq_false h, Bool.false_and, Bool.and_false]
theorem rangeB_in {size : Int} {l : List ByteArray} (h : 0 ≤ size ∧ size ≤ 1000000) (h2 : (l.length : Int) = (onesN size.toNat : Int)) : rangeB size l = wideB l := by
  unfold rangeB
  rw [decide_eq_true h, decide_eq_true h2, Bool.true_and, Bool.true_and]
theorem rangeB_yes {size : Int} {l : List ByteArray} (h : rangeB size l = true) : (0 ≤ size ∧ size ≤ 1000000) ∧ l.length = onesN size.toNat ∧ wideB l = true := by
  by_cases h1 : 0 ≤ size ∧ size ≤ 1000000
  · by_cases h2 : (l.length : Int) = (onesN size.toNat : Int)
    · rw [rangeB_in h1 h2] at h
      exact ⟨h1, by omega, h⟩
    · rw [rangeB_len h2] at h; cases h
  · rw [rangeB_out h1] at h; cases h
theorem two_cells' {B g : Nat} {W w1 : World} {a b : Value} {t : TypeId} (hb : Below B W w1) (hB : g < B) (hW : W.heap[g]? = some (.cells #[a, b] t (0, 0))) :
    (w1.cell? ⟨g, 0, none⟩ = some a ∧ w1.cell? ⟨g, 1, none⟩ = some b) ∧ w1.frozen? ⟨g, 0, none⟩ = false ∧ w1.frozen? ⟨g, 1, none⟩ = false := by
  have h := (hb.block g hB).trans hW
  simp [World.cell?, World.frozen?, h]
/-- What RangeRoot tells. -/
def rootV (size : Int) (l : List ByteArray) : ByteArray := if rangeB size l = true then rootD nodeB noneB l else ByteArray.empty
theorem rootV_no {size : Int} {l : List ByteArray} (h : rangeB size l = false) : rootV size l = ByteArray.empty := by unfold rootV; rw [h]; rfl
theorem rootV_yes {size : Int} {l : List ByteArray} (h : rangeB size l = true) : rootV size l = rootD nodeB noneB l := by unfold rootV; rw [if_pos h]
theorem onesN_pos (n : Nat) : 0 < n → 0 < onesN n := by
  induction n using Nat.strongRecOn with
  | ind n ih =>
    intro h
    rw [onesN_step]
    by_cases h2 : n % 2 = 1
    · omega
    · have := ih (n / 2) (by omega) (by omega)
      omega
end Go.Proofs.YtollfcjbcfnfdaaDoor

/-
  The document's word on right ranges.
-/
namespace Go.Proofs.YtollfcjbcfnfdaaDoor
open Go.RowKit Go.Lib
set_option linter.unusedVariables false

set_option maxHeartbeats 1000000 in
theorem specRange_any (size : Int) (v : Value) (l : List ByteArray) (w : World) (h : Texts w w.heap.size v l) (hl : l.length ≤ 1048576) :
    Calls Tryd.prog 57 #[.agg #[.int .i64 size, v]] w fun e w' => e = .returned (.bool (rangeB size l)) ∧ Below w.heap.size w w' := by
  have EI : Hid (∀ w', Calls Tryd.prog 71 #[.int .i64 size, .int .i64 0, .int .i64 1000000] w' fun e w'' => e = .returned (.bool (decide (0 ≤ size ∧ size ≤ 1000000))) ∧ w'' = w') := fun w' => is_any size 0 1000000 w'
  have EW : Hid (∀ w', Below w.heap.size w w' → Calls Tryd.prog 60 #[v] w' fun e w'' => e = .returned (.bool (wideB l)) ∧ w'' = w') := fun w' hb => wide_any v l w' w.heap.size (h.below hb) hl
  obtain ⟨a, cap, rfl, hx, hy⟩ := h
  clear hx hy
  have hal : Below w.heap.size w (w.alloc (.cells #[.int .i64 size, .slice a l.length cap] 30)) := (Below.refl _ _).alloc (Nat.le_refl _) _
  have HAL : Hid (Below w.heap.size w (w.alloc (.cells #[.int .i64 size, .slice a l.length cap] 30))) := hal
  clear hal
  by_cases h1 : 0 ≤ size ∧ size ≤ 1000000
  · rw [decide_eq_true h1] at EI
    obtain ⟨h11, h12⟩ := h1
    obtain ⟨n, rfl⟩ := Int.eq_ofNat_of_zero_le h11
    have EO : Hid (∀ w', Calls Tryd.prog 92 #[.int .i64 n] w' fun e w'' => e = .returned (.int .i64 (onesN n)) ∧ w'' = w') := fun w' => ones_any n w' (by omega)
    by_cases h2 : (l.length : Int) = (onesN n : Int)
    · rw [rangeB_in ⟨h11, h12⟩ (by rw [Int.toNat_natCast]; exact h2)]
      have e : onesN n = l.length := by omega
      rw [e] at EO
      clear h2 e
      generalize wideB l = V at *
      generalize l.length = L at *
      go_enter Tryd.func57, Tryd.ntmps57
      go_wp2_with fail
      go_quiet ((first | (go_at_call 71; exact Calls.quiet_of_same (EI.out _)) | (go_at_call 92; exact Calls.quiet_of_same (EO.out _)) | (go_at_call 60; exact Calls.quiet_of_same (EW.out _ ⟨HAL.out.os, HAL.out.tape, HAL.out.output, HAL.out.size, HAL.out.block⟩))))
      go_wp2
      go_ret
      exact ⟨rfl, ⟨HAL.out.os, HAL.out.tape, HAL.out.output, HAL.out.size, HAL.out.block⟩⟩
    · rw [rangeB_len (by rw [Int.toNat_natCast]; exact h2)]
      have hB : ((l.length : Int) == (onesN n : Int)) = false := beq_eq_false_iff_ne.2 h2
      generalize l.length = L at *
      generalize onesN n = O at *
      go_enter Tryd.func57, Tryd.ntmps57
      go_wp2_with fail
      go_quiet ((first | (go_at_call 71; exact Calls.quiet_of_same (EI.out _)) | (go_at_call 92; exact Calls.quiet_of_same (EO.out _))))
      go_wp2
      go_ret
      exact ⟨rfl, ⟨HAL.out.os, HAL.out.tape, HAL.out.output, HAL.out.size, HAL.out.block⟩⟩
  · rw [rangeB_out h1]
    rw [decide_eq_false h1] at EI
    generalize l.length = L at *
    clear h1
    go_enter Tryd.func57, Tryd.ntmps57
    go_wp2_with fail
    go_quiet ((go_at_call 71; exact Calls.quiet_of_same (EI.out _)))
    go_wp2
    go_ret
    exact ⟨rfl, ⟨HAL.out.os, HAL.out.tape, HAL.out.output, HAL.out.size, HAL.out.block⟩⟩
end Go.Proofs.YtollfcjbcfnfdaaDoor
