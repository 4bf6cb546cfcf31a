/-
  Rows of texts of a call's own that are appended to; a row of texts cut in two.
-/
import Derived.Test.YtkfmhmimclmigaaDoorPkTexts
import Derived.Test.YtkfmhmimclmigaaDoorPkMem
import Derived.Laws.Slices
namespace Go.Proofs.YtkfmhmimclmigaaDoor
open Go.RowKit Go.Lib
set_option linter.unusedVariables false

theorem below_drew' {B : Nat} {a w : World} (h : Below B a w) : Below B a w.drew := ⟨h.os, h.tape, h.output, h.size, h.block⟩
/-- The slice v owns the texts l, in a row of the call's own. -/
def OwnT (w : World) (B : Nat) (v : Value) (l : List ByteArray) : Prop := w.ownsRow B 9 1 v l.length (l.map .string)
theorem OwnT.nil (w : World) (B : Nat) : OwnT w B (.slice none 0 0) [] := World.ownsRow_nil w B _ _
theorem OwnT.made (w : World) (B : Nat) (hB : B ≤ w.heap.size) : OwnT (w.alloc (.cells #[] 9)) B (.slice (some ⟨w.heap.size, 0, none⟩) 0 0) [] := World.ownsRow_made w #[] 0 hB (Nat.zero_le _) rfl
theorem OwnT.texts {w : World} {B : Nat} {v : Value} {l : List ByteArray} (h : OwnT w B v l) : Texts w w.heap.size v l := by
  rcases id h with ⟨h1, ⟨rfl, h2⟩ | ⟨g, cap, cur, rfl, hB, hg, hnc, _, hcs, ht⟩⟩
  · exact ⟨none, 0, by rw [h2], .inl h2, by omega⟩
  · refine ⟨_, cap, rfl, .inr ⟨g, 0, rfl, (Array.getElem?_eq_some_iff.1 hg).1, fun j hj => ?_⟩, hnc⟩
    have := World.ownsRow.cellAt h j (by omega)
    rw [Nat.zero_add, this]
    simp [hj]
theorem OwnT.below {w w' : World} {B C : Nat} {v : Value} {l : List ByteArray} (h : OwnT w B v l) (hb : Below C w w') (hC : w.heap.size ≤ C) : OwnT w' B v l := by
  rcases h with ⟨h1, ⟨rfl, h2⟩ | ⟨g, cap, cur, rfl, hB, hg, hnc, hcc, hcs, ht⟩⟩
  · exact ⟨h1, .inl ⟨rfl, h2⟩⟩
  · have hgl := (Array.getElem?_eq_some_iff.1 hg).1
    exact ⟨h1, .inr ⟨g, cap, cur, rfl, hB, (hb.block g (Nat.lt_of_lt_of_le hgl hC)).trans hg, hnc, hcc, hcs, ht⟩⟩
theorem OwnT.lower {w : World} {B C : Nat} {v : Value} {l : List ByteArray} (h : OwnT w B v l) (hC : C ≤ B) : OwnT w C v l := by
  rcases h with ⟨h1, ⟨rfl, h2⟩ | ⟨g, cap, cur, rfl, hB, hg, hnc, hcc, hcs, ht⟩⟩
  · exact ⟨h1, .inl ⟨rfl, h2⟩⟩
  · exact ⟨h1, .inr ⟨g, cap, cur, rfl, Nat.le_trans hC hB, hg, hnc, hcc, hcs, ht⟩⟩
theorem OwnT.grown {w w' : World} {B g : Nat} {v : Value} {l : List ByteArray} (h : OwnT w B v l) (hg : w.grownBy w' (some g)) (hB : g < B) : OwnT w' B v l := by
  rcases h with ⟨h1, ⟨rfl, h2⟩ | ⟨g', cap, cur, rfl, hB', hg', hnc, hcc, hcs, ht⟩⟩
  · exact ⟨h1, .inl ⟨rfl, h2⟩⟩
  · exact ⟨h1, .inr ⟨g', cap, cur, rfl, hB', (hg.block g' (Array.getElem?_eq_some_iff.1 hg').1 (by simp; omega)).trans hg', hnc, hcc, hcs, ht⟩⟩
theorem OwnT.store {w : World} {B g cap n : Nat} {l : List ByteArray} (h : OwnT w B (.slice (some ⟨g, 0, none⟩) n cap) l) (hn : l.length = n) (j : Nat) (t : ByteArray) :
    OwnT (w.setCell ⟨g, j, none⟩ (.string t)) B (.slice (some ⟨g, 0, none⟩) n cap) (l.set j t) ∧ w.grownBy (w.setCell ⟨g, j, none⟩ (.string t)) (some g) := by
  subst hn
  obtain ⟨h1, h2⟩ := World.ownsRow.stored h j (.string t)
  refine ⟨?_, h2⟩
  unfold OwnT
  rw [List.length_set, List.map_set]
  exact h1
theorem OwnT.cell {w : World} {B g cap n : Nat} {l : List ByteArray} (h : OwnT w B (.slice (some ⟨g, 0, none⟩) n cap) l) (hn : l.length = n) (j : Nat) (hj : j < l.length) :
    w.cell? ⟨g, j, none⟩ = some (.string l[j]) ∧ w.frozen? ⟨g, j, none⟩ = false := by
  subst hn
  have h1 := World.ownsRow.cellAt h j (by omega)
  exact ⟨by rw [h1]; simp [hj], World.ownsRow.frozenAt h j⟩
theorem OwnT.len {w : World} {B : Nat} {v : Value} {l : List ByteArray} (h : OwnT w B v l) : ∃ a cap, v = .slice a l.length cap := by
  rcases h with ⟨h1, ⟨rfl, h2⟩ | ⟨g, cap, cur, rfl, hB, hg, hnc, hcc, hcs, ht⟩⟩
  · exact ⟨none, 0, by rw [h2]⟩
  · exact ⟨_, cap, rfl⟩

/-- 'append(row, t)', row the call's own: it owns one text more; of what lies below B nothing turns. -/
theorem wp_app_text {w : World} {ops : Array Oper} {rest : List Oper} {o : Oper} {a : Act} {Q : Exit → Act → World → Prop} (hgd : o.guard = none) (s x : Operand)
    (ho : o.op = .call { callee := .builtin .append, args := #[s, x], argTypes := #[25, 25] }) (B : Nat) (v : Value) (l : List ByteArray) (hs : a.eval s = v) (hown : OwnT w B v l) (t : ByteArray)
    (hx : a.eval x = .slice (some ⟨w.heap.size, 0, none⟩) 1 1) (hl : l.length ≤ 1048576) (hB : B ≤ w.heap.size)
    (h : ∀ v' w', OwnT w' B v' (l ++ [t]) → Below B w w' → wpList Tryd.prog ops Q rest (a.put o.dst v') w') : wpList Tryd.prog ops Q (o :: rest) a (w.alloc (.cells #[.string t] 9)) := by
  obtain ⟨i0, hi, hz0, hz1, hz2⟩ := info_parts infoText
  refine wpList_append_own _ hgd s x 25 ho B 9 i0 (.string ByteArray.empty) 1 16 Tryd.underlying25 hi hz0 hz1 hz2 rfl (by decide) v l.length (l.map .string) hs (World.ownsRow.alloc hown _) ⟨w.heap.size, 0, none⟩ 1 1 [.string t] hx rfl
    (cell_one_new _ _ _) (by intro u hu; simp at hu; subst hu; rfl) (by unfold maxLen; omega) (by omega) (by simp; omega) ?_
  intro v' w' h1 h2 _
  refine h v' w' ?_ ?_
  · unfold OwnT
    simpa using h1
  · refine ((Below.refl B w).alloc hB _).grown h2 (by simp; omega) fun k hk => ?_
    exact (World.ownsRow.lt hown k hk).1

theorem sizeText (w : World) : (sizeOf (Tryd.prog.elem 25)).run Tryd.prog w = .ok 1 w := by
  have hel : Tryd.prog.elem 25 = 9 := by kernel_rfl
  obtain ⟨i0, hi, hz0, hz1, hz2⟩ := info_parts infoText
  simp [sizeOf, typeInfo, hel, hi, hz1]
theorem underText : Tryd.prog.underlying 25 = some (.slice (Tryd.prog.elem 25)) := by
  have hel : Tryd.prog.elem 25 = 9 := by kernel_rfl
  rw [hel]; exact Tryd.underlying25

/-- A part of a row of texts, of capacity m behind its beginning. -/
theorem Texts.cut {w : World} {B : Nat} {a : Option Addr} {l : List ByteArray} {cap : Nat} (h : Texts w B (.slice a l.length cap) l) (i j m : Nat) (hij : i ≤ j) (hj : j ≤ l.length) (hm : j ≤ m) :
    Texts w B (sliced a i j m 1) ((l.take j).drop i) := by
  obtain ⟨a', cap', e, hc, hcap⟩ := h
  obtain ⟨rfl, rfl⟩ : a' = a ∧ cap' = cap := by simp at e; exact ⟨e.1.symm, e.2.symm⟩
  have hlen : ((l.take j).drop i).length = j - i := by rw [List.length_drop, List.length_take]; omega
  unfold sliced
  by_cases h0 : j - i = 0
  · exact ⟨_, m - i, by rw [hlen], .inl (by rw [hlen]; exact h0), by rw [hlen]; omega⟩
  · rw [if_neg (by omega)]
    rcases hc with hc | ⟨b, off, rfl, hb, hcell⟩
    · omega
    · refine ⟨some ⟨b, off + i, none⟩, m - i, by rw [hlen]; simp [Addr.add], .inr ⟨b, off + i, rfl, hb, fun k hk => ?_⟩, by rw [hlen]; omega⟩
      have hk' : i + k < l.length := by omega
      rw [show off + i + k = off + (i + k) by omega, hcell (i + k) hk']
      simp

theorem slice_lh {w : World} {B : Nat} {v : Value} {l : List ByteArray} (h : Texts w B v l) (i j : Nat) (hij : i ≤ j) (hj : j ≤ l.length) (x y : Int) (hx : x = (i : Int)) (hy : y = (j : Int)) :
    ∃ v1, (∀ w1, (Instr.slice 25 v (some (.int .i64 x)) (some (.int .i64 y)) none).run Tryd.prog w1 = .ok v1 w1) ∧ Texts w B v1 ((l.take j).drop i) := by
  obtain ⟨a, cap, rfl, hc, hcap⟩ := id h
  subst hx hy
  refine ⟨_, fun w1 => ?_, h.cut i j cap hij hj (by omega)⟩
  have hsl := run_slice_lh (P := Tryd.prog) w1 25 a l.length cap underText .i64 .i64 (i : Int) (j : Int) (by omega) (by omega) (by omega)
  rw [sizeText w1] at hsl
  simpa [Result.andThen] using hsl
theorem slice_h {w : World} {B : Nat} {v : Value} {l : List ByteArray} (h : Texts w B v l) (j : Nat) (hj : j ≤ l.length) (y : Int) (hy : y = (j : Int)) :
    ∃ v1, (∀ w1, (Instr.slice 25 v none (some (.int .i64 y)) none).run Tryd.prog w1 = .ok v1 w1) ∧ Texts w B v1 (l.take j) := by
  obtain ⟨a, cap, rfl, hc, hcap⟩ := id h
  subst hy
  refine ⟨_, fun w1 => ?_, by simpa using h.cut 0 j cap (by omega) hj (by omega)⟩
  have hsl := run_slice_h (P := Tryd.prog) w1 25 a l.length cap underText .i64 (j : Int) (by omega) (by omega)
  rw [sizeText w1] at hsl
  simpa [Result.andThen] using hsl
theorem slice_l {w : World} {B : Nat} {v : Value} {l : List ByteArray} (h : Texts w B v l) (i : Nat) (hi : i ≤ l.length) (x : Int) (hx : x = (i : Int)) :
    ∃ v1, (∀ w1, (Instr.slice 25 v (some (.int .i64 x)) none none).run Tryd.prog w1 = .ok v1 w1) ∧ Texts w B v1 (l.drop i) := by
  obtain ⟨a, cap, rfl, hc, hcap⟩ := id h
  subst hx
  refine ⟨_, fun w1 => ?_, by simpa using h.cut i l.length cap hi (by omega) (by omega)⟩
  have hsl := run_slice_l (P := Tryd.prog) w1 25 a l.length cap underText .i64 (i : Int) (by omega) (by omega)
  rw [sizeText w1] at hsl
  simpa [Result.andThen] using hsl
theorem slice_lhm {w : World} {B : Nat} {v : Value} {l : List ByteArray} (h : Texts w B v l) (i j : Nat) (hij : i ≤ j) (hj : j ≤ l.length) (x y : Int) (hx : x = (i : Int)) (hy : y = (j : Int)) :
    ∃ v1, (∀ w1, (Instr.slice 25 v (some (.int .i64 x)) (some (.int .i64 y)) (some (.int .i64 y))).run Tryd.prog w1 = .ok v1 w1) ∧ Texts w B v1 ((l.take j).drop i) := by
  obtain ⟨a, cap, rfl, hc, hcap⟩ := id h
  subst hx hy
  refine ⟨_, fun w1 => ?_, h.cut i j j hij hj (by omega)⟩
  have hsl := run_slice_lhm (P := Tryd.prog) w1 25 a l.length cap underText .i64 .i64 .i64 (i : Int) (j : Int) (j : Int) (by omega) (by omega) (by omega) (by omega)
  rw [sizeText w1] at hsl
  simpa [Result.andThen] using hsl
theorem Texts.at {w : World} {B : Nat} {v : Value} {l : List ByteArray} (h : Texts w B v l) : ∃ a cap, v = .slice a l.length cap ∧ l.length ≤ cap ∧ ∀ j (hj : j < l.length), ∃ b off, a = some ⟨b, off, none⟩ ∧ b < B ∧ w.cell? ⟨b, off + j, none⟩ = some (.string l[j]) := by
  obtain ⟨a, cap, rfl, hc, hcap⟩ := h
  refine ⟨a, cap, rfl, hcap, fun j hj => ?_⟩
  rcases hc with h0 | ⟨b, off, rfl, hB, hcell⟩
  · omega
  · exact ⟨b, off, rfl, hB, hcell j hj⟩
end Go.Proofs.YtkfmhmimclmigaaDoor

/-
  The entries of a log that may fork, as values; decimal numerals below twelve, the program's and the document's.
-/
namespace Go.Proofs.YtkfmhmimclmigaaDoor
open Go.RowKit Go.Lib
set_option linter.unusedVariables false
set_option linter.unusedSimpArgs false

/-- The numeral of a number below twelve. -/
def decB (k : Nat) : ByteArray := match k with
  | 0 => ⟨#[48]⟩ | 1 => ⟨#[49]⟩ | 2 => ⟨#[50]⟩ | 3 => ⟨#[51]⟩ | 4 => ⟨#[52]⟩ | 5 => ⟨#[53]⟩ | 6 => ⟨#[54]⟩ | 7 => ⟨#[55]⟩ | 8 => ⟨#[56]⟩ | 9 => ⟨#[57]⟩ | 10 => ⟨#[49, 48]⟩ | _ => ⟨#[49, 49]⟩
/-- An entry of a branch. -/
def entryB (f : Int) (o : Bool) (k : Nat) : ByteArray := (if o && decide (f ≤ (k : Int)) then (⟨#[102]⟩ : ByteArray) else ⟨#[101]⟩) ++ decB k
def branchL (f : Int) (o : Bool) : List ByteArray := (List.range 12).map (entryB f o)
def forkB (f : Int) : Bool := decide (0 ≤ f) && decide (f ≤ 12)
/-- What Branch answers. -/
def branchV (f : Int) (o : Bool) : List ByteArray := if forkB f then branchL f o else []
theorem branchL_len (f : Int) (o : Bool) : (branchL f o).length = 12 := by simp [branchL]
theorem branchV_len (f : Int) (o : Bool) : (branchV f o).length ≤ 12 := by
  unfold branchV
  split
  · rw [branchL_len]; exact Nat.le_refl _
  · simp
theorem branch_step (f : Int) (o : Bool) (k : Nat) (hk : k < 12) : (branchL f o).take (k + 1) = (branchL f o).take k ++ [entryB f o k] := by
  rw [List.take_succ_eq_append_getElem (by rw [branchL_len]; exact hk)]
  simp [branchL]
theorem decB_size (k : Nat) : (decB k).size ≤ 2 := by
  unfold decB
  split <;> decide
theorem entryB_size (f : Int) (o : Bool) (k : Nat) : (entryB f o k).size ≤ 3 := by
  have := decB_size k
  unfold entryB
  rw [ByteArray.size_append]
  split
  · have e : (⟨#[102]⟩ : ByteArray).size = 1 := rfl
    omega
  · have e : (⟨#[101]⟩ : ByteArray).size = 1 := rfl
    omega
theorem branchL_small (f : Int) (o : Bool) : ∀ t ∈ branchL f o, t.size ≤ 3 := by
  intro t ht
  obtain ⟨k, _, rfl⟩ := List.mem_map.1 ht
  exact entryB_size f o k
theorem twelve {k : Nat} (h : k ≤ 11) : k = 0 ∨ k = 1 ∨ k = 2 ∨ k = 3 ∨ k = 4 ∨ k = 5 ∨ k = 6 ∨ k = 7 ∨ k = 8 ∨ k = 9 ∨ k = 10 ∨ k = 11 := by omega

theorem letter_text (w : World) (y : Int) (c : UInt8) (hy : y = c.toNat) : (convert 22 9 (.slice (some ⟨w.heap.size, 0, none⟩) 1 1)).run Tryd.prog (w.alloc (.cells #[.int .u8 y] 5)) = .ok (.string ⟨#[c]⟩) (w.alloc (.cells #[.int .u8 y] 5)) := by
  have := conv_text (w.alloc (.cells #[.int .u8 y] 5)) w.heap.size 1 1 [c] #[.int .u8 y] 5 (0, 0) (heap_alloc_new w _) (by subst hy; simp [byteCells]) rfl
  exact this
def DecIs (k : Nat) (w : World) (e : Ending) (w' : World) : Prop := e = .returned (.string (decB k)) ∧ Below w.heap.size w w'
set_option maxHeartbeats 1000000 in
set_option maxRecDepth 10000 in
theorem decIs_one (n : Int) (c : UInt8) (w : World) (h0 : 0 < n) (h1 : n < 10) (hc : 48 + n = c.toNat) :
    Calls Tryd.prog 21 #[.int .i64 n] w fun e w' => e = .returned (.string ((⟨#[c]⟩ : ByteArray) ++ ⟨#[]⟩)) ∧ Below w.heap.size w w' := by
  have a1 : n % 10 = n := by omega
  have a2 : n / 10 = 0 := by omega
  have a3 : n.tmod 10 = n := by rw [Int.tmod_eq_emod_of_nonneg (by omega)]; omega
  have a4 : n.tdiv 10 = 0 := by rw [Int.tdiv_eq_ediv_of_nonneg (by omega)]; omega
  have a5 : (48 + n) % 256 = 48 + n := by omega
  have k1 := letter_text w (c.toNat : Int) c rfl
  have k2 := letter_text w.drew (c.toNat : Int) c rfl
  have b1 : ¬ n = 0 := by omega
  have b2 : ¬ n < 0 := by omega
  have b3 : (n == 0) = false := by simpa using b1
  have b4 : (n != 0) = true := by simpa using b1
  go_enter Tryd.func21, Tryd.ntmps21
  go_wp2
  refine wp_loop_rounds 2 ?_
  rw [rounds_succ]
  go_wp2
  rw [rounds_succ]
  go_wp2
  go_ret
  exact ⟨rfl, (Below.refl _ _).alloc (Nat.le_refl _) _⟩
set_option maxHeartbeats 1000000 in
theorem decIs_zero (w : World) : Calls Tryd.prog 21 #[.int .i64 0] w (DecIs 0 w) := by
  go_enter Tryd.func21, Tryd.ntmps21
  go_wp2
  go_ret
  exact ⟨rfl, Below.refl _ _⟩
set_option maxHeartbeats 1000000 in
set_option maxRecDepth 10000 in
theorem decIs_two (n d : Int) (c : UInt8) (w : World) (hn : n = 10 + d) (hd : d = 0 ∨ d = 1) (hc : 48 + d = c.toNat) :
    Calls Tryd.prog 21 #[.int .i64 n] w fun e w' => e = .returned (.string ((⟨#[49]⟩ : ByteArray) ++ ((⟨#[c]⟩ : ByteArray) ++ ⟨#[]⟩))) ∧ Below w.heap.size w w' := by
  have a1 : n % 10 = d := by omega
  have a2 : n / 10 = 1 := by omega
  have a3 : n.tmod 10 = d := by rw [Int.tmod_eq_emod_of_nonneg (by omega)]; omega
  have a4 : n.tdiv 10 = 1 := by rw [Int.tdiv_eq_ediv_of_nonneg (by omega)]; omega
  have a5 : (48 + d) % 256 = c.toNat := by omega
  have a6 : (48 + d) = c.toNat := by omega
  have k1 := letter_text w (c.toNat : Int) c rfl
  have k2 := letter_text w.drew (c.toNat : Int) c rfl
  have k3 := letter_text (w.alloc (.cells #[.int .u8 (c.toNat : Int)] 5)) (49 : Int) 49 rfl
  have hs : (w.alloc (.cells #[.int .u8 (c.toNat : Int)] 5)).heap.size = w.heap.size + 1 := by simp
  rw [hs] at k3
  clear hs
  have b1 : ¬ n = 0 := by omega
  have b2 : ¬ n < 0 := by omega
  have b3 : (n == 0) = false := by simpa using b1
  have b4 : (n != 0) = true := by simpa using b1
  have d1 : ¬ d < 0 := by omega
  clear hn hd hc
  go_enter Tryd.func21, Tryd.ntmps21
  go_wp2
  refine wp_loop_rounds 3 ?_
  rw [rounds_succ]
  go_wp2
  rw [rounds_succ]
  go_wp2
  rw [rounds_succ]
  go_wp2
  go_ret
  exact ⟨rfl, ((Below.refl _ _).alloc (Nat.le_refl _) _).alloc (by simp) _⟩
theorem dec_any12 (k : Nat) (w : World) (h : k ≤ 11) : Calls Tryd.prog 21 #[.int .i64 (k : Int)] w (DecIs k w) := by
  rcases twelve h with rfl | rfl | rfl | rfl | rfl | rfl | rfl | rfl | rfl | rfl | rfl | rfl
  · exact decIs_zero w
  · exact decIs_one 1 49 w (by decide) (by decide) (by decide)
  · exact decIs_one 2 50 w (by decide) (by decide) (by decide)
  · exact decIs_one 3 51 w (by decide) (by decide) (by decide)
  · exact decIs_one 4 52 w (by decide) (by decide) (by decide)
  · exact decIs_one 5 53 w (by decide) (by decide) (by decide)
  · exact decIs_one 6 54 w (by decide) (by decide) (by decide)
  · exact decIs_one 7 55 w (by decide) (by decide) (by decide)
  · exact decIs_one 8 56 w (by decide) (by decide) (by decide)
  · exact decIs_one 9 57 w (by decide) (by decide) (by decide)
  · exact decIs_two 10 0 48 w (by decide) (by decide) (by decide)
  · exact decIs_two 11 1 49 w (by decide) (by decide) (by decide)
end Go.Proofs.YtkfmhmimclmigaaDoor

/-
  The library's numerals of numbers below twelve.
-/
namespace Go.Proofs.YtkfmhmimclmigaaDoor
open Go.RowKit Go.Lib
set_option linter.unusedVariables false
set_option linter.unusedSimpArgs false

set_option maxHeartbeats 4000000 in
set_option maxRecDepth 10000 in
theorem small_any (k : Nat) (w : World) (h : k ≤ 11) : Calls Tryd.prog 23 #[.int .i64 (k : Int)] w (DecIs k w) := by
  rcases twelve h with rfl | rfl | rfl | rfl | rfl | rfl | rfl | rfl | rfl | rfl | rfl | rfl
  all_goals (
    go_enter Tryd.func23, Tryd.ntmps23
    go_wp2
    go_ret
    exact ⟨by rfl, Below.refl _ _⟩)
set_option maxHeartbeats 4000000 in
set_option maxRecDepth 10000 in
theorem formatInt_any (k : Nat) (w : World) (h : k ≤ 11) : Calls Tryd.prog 22 #[.int .i64 (k : Int), .int .i64 10] w (DecIs k w) := by
  have E0 : Hid (∀ X, Calls Tryd.prog 23 #[.int .i64 (k : Int)] X (DecIs k X)) := fun X => small_any k X h
  have h0 : (0 : Int) ≤ (k : Int) := by omega
  have h1 : (k : Int) < 100 := by omega
  go_enter Tryd.func22, Tryd.ntmps22
  go_wp2_with fail
  refine (E0.out _).mono ?_
  rintro e w1 ⟨rfl, hb⟩
  have HB : Hid (Below w.heap.size w w1) := hb
  clear hb E0
  go_wp2
  go_ret
  exact ⟨rfl, HB.out⟩
set_option maxHeartbeats 1000000 in
theorem itoa_in (k : Nat) (w : World) (h : k ≤ 11) : Calls Tryd.prog 20 #[.int .i64 (k : Int)] w (DecIs k w) := by
  have E0 : Hid (∀ X, Calls Tryd.prog 22 #[.int .i64 (k : Int), .int .i64 10] X (DecIs k X)) := fun X => formatInt_any k X h
  go_enter Tryd.func20, Tryd.ntmps20
  go_wp2_with fail
  refine (E0.out _).mono ?_
  rintro e w1 ⟨rfl, hb⟩
  have HB : Hid (Below w.heap.size w w1) := hb
  clear hb E0
  go_wp2
  go_ret
  exact ⟨rfl, HB.out⟩
set_option maxHeartbeats 1000000 in
theorem itoa_any (k : Nat) (w : World) (h : k ≤ 11) : Calls Tryd.prog 16 #[.int .i64 (k : Int)] w (DecIs k w) := by
  have E0 : Hid (∀ X, Calls Tryd.prog 20 #[.int .i64 (k : Int)] X (DecIs k X)) := fun X => itoa_in k X h
  go_enter Tryd.func16, Tryd.ntmps16
  go_wp2_with fail
  refine (E0.out _).mono ?_
  rintro e w1 ⟨rfl, hb⟩
  have HB : Hid (Below w.heap.size w w1) := hb
  clear hb E0
  go_wp2
  go_ret
  exact ⟨rfl, HB.out⟩
end Go.Proofs.YtkfmhmimclmigaaDoor

/-
  A branch of a log that may fork: the program's and the document's, each in a row of the call's own.
-/
namespace Go.Proofs.YtkfmhmimclmigaaDoor
open Go.RowKit Go.Lib
set_option linter.unusedVariables false
set_option linter.unusedSimpArgs false

def BranchMid (f : Int) (o : Bool) (k : Nat) (w : World) (v : Value) (X : World) : Prop := OwnT X w.heap.size v ((branchL f o).take k) ∧ Below w.heap.size w X
theorem BranchMid.below {f : Int} {o : Bool} {k : Nat} {w X Y : World} {v : Value} (h : BranchMid f o k w v X) (hb : Below X.heap.size X Y) : BranchMid f o k w v Y := ⟨h.1.below hb (Nat.le_refl _), h.2.trans (hb.mono h.2.size)⟩
theorem BranchMid.snoc {f : Int} {o : Bool} {k : Nat} {w X Y : World} {v v' : Value} (h : BranchMid f o k w v X) (hk : k < 12) (ho : OwnT Y w.heap.size v' ((branchL f o).take k ++ [entryB f o k])) (hb : Below w.heap.size X Y) : BranchMid f o (k + 1) w v' Y :=
  ⟨by rw [branch_step f o k hk]; exact ho, h.2.trans hb⟩
def BranchAns (f : Int) (o : Bool) (w : World) (e : Ending) (w' : World) : Prop := ∃ v, e = .returned v ∧ OwnT w' w.heap.size v (branchV f o) ∧ Below w.heap.size w w'

set_option maxHeartbeats 1000000 in
theorem forkRight_any (f : Int) (w : World) : Calls Tryd.prog 15 #[.int .i64 f] w fun e w' => e = .returned (.bool (forkB f)) ∧ Below w.heap.size w w' := by
  unfold forkB
  by_cases h0 : 0 ≤ f
  · by_cases h1 : f ≤ 12
    · go_enter Tryd.func15, Tryd.ntmps15
      go_wp2
      go_ret
      exact ⟨by simp [h0, h1], Below.refl _ _⟩
    · go_enter Tryd.func15, Tryd.ntmps15
      go_wp2
      go_ret
      exact ⟨by simp [h0, h1], Below.refl _ _⟩
  · go_enter Tryd.func15, Tryd.ntmps15
    go_wp2
    go_ret
    exact ⟨by simp; omega, Below.refl _ _⟩
set_option maxHeartbeats 1000000 in
theorem forkIs_any (f : Int) (w : World) : Calls Tryd.prog 17 #[.int .i64 f, .int .i64 0, .int .i64 12] w fun e w' => e = .returned (.bool (forkB f)) ∧ Below w.heap.size w w' := by
  unfold forkB
  by_cases h0 : 0 ≤ f
  · by_cases h1 : f ≤ 12
    · go_enter Tryd.func17, Tryd.ntmps17
      go_wp2
      go_ret
      exact ⟨by simp [h0, h1], Below.refl _ _⟩
    · go_enter Tryd.func17, Tryd.ntmps17
      go_wp2
      go_ret
      exact ⟨by simp [h0, h1], Below.refl _ _⟩
  · go_enter Tryd.func17, Tryd.ntmps17
    go_wp2
    go_ret
    exact ⟨by simp; omega, Below.refl _ _⟩

set_option maxHeartbeats 4000000 in
set_option maxRecDepth 10000 in
theorem implBranch_any (f : Int) (o : Bool) (w : World) : Calls Tryd.prog 6 #[.int .i64 f, .bool o] w (BranchAns f o w) := by
  have E0 : Hid (∀ X, Calls Tryd.prog 15 #[.int .i64 f] X fun e w' => e = .returned (.bool (forkB f)) ∧ Below X.heap.size X w') := fun X => forkRight_any f X
  have EI : Hid (∀ (k : Nat) X, k ≤ 11 → Calls Tryd.prog 16 #[.int .i64 (k : Int)] X (DecIs k X)) := fun k X hk => itoa_any k X hk
  have HV : Hid (branchV f o = if forkB f then branchL f o else []) := rfl
  generalize forkB f = P at *
  go_enter Tryd.func6, Tryd.ntmps6
  go_wp2_with fail
  refine (E0.out _).mono ?_
  rintro e w1 ⟨rfl, hb⟩
  have H1 : Hid (BranchMid f o 0 w (.slice none 0 0) w1) := ⟨OwnT.nil _ _, hb⟩
  clear hb E0
  cases P with
  | false =>
    go_wp2
    go_ret
    exact ⟨_, rfl, by have hv := HV.out; simp only [Bool.false_eq_true, if_false] at hv; rw [hv]; exact OwnT.nil _ _, H1.out.2⟩
  | true =>
    go_wp2
    go_loopw [5, 11] (fun v i wr => ∃ k : Nat, i = .int .i64 (k : Int) ∧ k ≤ 12 ∧ BranchMid f o k w v wr) (fun _ i _ => 12 - (RowKit.intOf i).toNat)
    case atStart => exact ⟨0, rfl, by omega, H1.out⟩
    case round =>
      obtain ⟨k, rfl, hk12, hm⟩ := hrel
      have HM : Hid (BranchMid f o k w _ wr) := hm
      clear hm H1
      by_cases hk : k < 12
      · have hkI : (k : Int) < 12 := by omega
        have hcase : (o = false ∧ entryB f o k = (⟨#[101]⟩ : ByteArray) ++ decB k) ∨ (o = true ∧ ¬ f ≤ (k : Int) ∧ entryB f o k = (⟨#[101]⟩ : ByteArray) ++ decB k) ∨ (o = true ∧ f ≤ (k : Int) ∧ entryB f o k = (⟨#[102]⟩ : ByteArray) ++ decB k) := by
          unfold entryB
          cases o
          · exact .inl ⟨rfl, by simp⟩
          · by_cases hf : f ≤ (k : Int)
            · exact .inr (.inr ⟨rfl, hf, by simp [hf]⟩)
            · exact .inr (.inl ⟨rfl, hf, by simp [hf]⟩)
        have hv : ¬ 9223372036854775807 < 1 + (decB k).size := by have := decB_size k; omega
        have hv1 : ¬ 9223372036854775807 < (⟨#[101]⟩ : ByteArray).size + (decB k).size := by have e : (⟨#[101]⟩ : ByteArray).size = 1 := rfl; have := decB_size k; omega
        have hv2 : ¬ 9223372036854775807 < (⟨#[102]⟩ : ByteArray).size + (decB k).size := by have e : (⟨#[102]⟩ : ByteArray).size = 1 := rfl; have := decB_size k; omega
        have hll : ((branchL f o).take k).length ≤ 1048576 := by rw [List.length_take]; omega
        have EI2 : Hid (∀ X, Calls Tryd.prog 16 #[.int .i64 (k : Int)] X (DecIs k X)) := fun X => EI.out k X (by omega)
        have HE : Hid (∀ X Y v v', OwnT X w.heap.size v' ((branchL f o).take k ++ [entryB f o k]) → Below w.heap.size Y X → BranchMid f o k w v Y → BranchMid f o (k + 1) w v' X) := fun X Y v v' ho hb h => h.snoc hk ho hb
        clear EI
        rcases hcase with ⟨rfl, he⟩ | ⟨rfl, hf, he⟩ | ⟨rfl, hf, he⟩
        all_goals (
          rw [he] at HE
          have HFE : Hid True := trivial
          clear he
          go_wp2_with fail
          refine (EI2.out _).mono ?_
          rintro e w2 ⟨rfl, hb2⟩
          have HS2 : Hid (BranchMid _ _ _ _ _ w2) := HM.out.below hb2
          have hown := HS2.out.1
          have hszw := HS2.out.2.size
          clear hb2
          generalize decB k = D at *
          go_wp2_with (at_builtin; go_must (refine wp_app_text rfl (.tmp 20) (.tmp 25) rfl w.heap.size _ _ rfl hown _ rfl hll hszw ?_); intro v5 w5 hown5 hb5)
          go_roundw
          case rel => exact ⟨k + 1, by go_num, by omega, HE.out _ _ _ _ hown5 hb5 HS2.out⟩
          case measure => simp [RowKit.intOf]; omega)
      · have hkI : ¬ (k : Int) < 12 := by omega
        have hk' : k = 12 := by omega
        subst hk'
        go_wp2
        go_ret
        exact ⟨_, rfl, by have hv := HV.out; simp only [if_true] at hv; rw [hv]; have := HM.out.1; rw [List.take_of_length_le (by rw [branchL_len]; exact Nat.le_refl _)] at this; exact this, HM.out.2⟩
end Go.Proofs.YtkfmhmimclmigaaDoor

/-
  A branch of a log that may fork: the document's.
-/
namespace Go.Proofs.YtkfmhmimclmigaaDoor
open Go.RowKit Go.Lib
set_option linter.unusedVariables false
set_option linter.unusedSimpArgs false

set_option maxHeartbeats 4000000 in
set_option maxRecDepth 10000 in
theorem specBranchL_any (f : Int) (o : Bool) (w : World) : Calls Tryd.prog 18 #[.int .i64 f, .bool o] w fun e w' => ∃ v, e = .returned v ∧ OwnT w' w.heap.size v (branchL f o) ∧ Below w.heap.size w w' := by
  have EI : Hid (∀ (k : Nat) X, k ≤ 11 → Calls Tryd.prog 21 #[.int .i64 (k : Int)] X (DecIs k X)) := fun k X hk => dec_any12 k X hk
  have hal : Below w.heap.size w (w.alloc (.cells #[] 9)) := (Below.refl _ _).alloc (Nat.le_refl _) _
  have H1 : Hid (BranchMid f o 0 w (.slice (some ⟨w.heap.size, 0, none⟩) 0 0) (w.alloc (.cells #[] 9))) := ⟨OwnT.made w w.heap.size (Nat.le_refl _), hal⟩
  clear hal
  go_enter Tryd.func18, Tryd.ntmps18
  go_wp2
  go_loopw [5, 6] (fun v i wr => ∃ k : Nat, i = .int .i64 (k : Int) ∧ k ≤ 12 ∧ BranchMid f o k w v wr) (fun _ i _ => 12 - (RowKit.intOf i).toNat)
  case atStart => exact ⟨0, rfl, by omega, H1.out⟩
  case round =>
    obtain ⟨k, rfl, hk12, hm⟩ := hrel
    have HM : Hid (BranchMid f o k w _ wr) := hm
    clear hm H1
    by_cases hk : k < 12
    · have hkI : (k : Int) < 12 := by omega
      have hcase : (o = false ∧ entryB f o k = (⟨#[101]⟩ : ByteArray) ++ decB k) ∨ (o = true ∧ ¬ f ≤ (k : Int) ∧ entryB f o k = (⟨#[101]⟩ : ByteArray) ++ decB k) ∨ (o = true ∧ f ≤ (k : Int) ∧ entryB f o k = (⟨#[102]⟩ : ByteArray) ++ decB k) := by
        unfold entryB
        cases o
        · exact .inl ⟨rfl, by simp⟩
        · by_cases hf : f ≤ (k : Int)
          · exact .inr (.inr ⟨rfl, hf, by simp [hf]⟩)
          · exact .inr (.inl ⟨rfl, hf, by simp [hf]⟩)
      have hv : ¬ 9223372036854775807 < 1 + (decB k).size := by have := decB_size k; omega
      have hv1 : ¬ 9223372036854775807 < (⟨#[101]⟩ : ByteArray).size + (decB k).size := by have e : (⟨#[101]⟩ : ByteArray).size = 1 := rfl; have := decB_size k; omega
      have hv2 : ¬ 9223372036854775807 < (⟨#[102]⟩ : ByteArray).size + (decB k).size := by have e : (⟨#[102]⟩ : ByteArray).size = 1 := rfl; have := decB_size k; omega
      have hll : ((branchL f o).take k).length ≤ 1048576 := by rw [List.length_take]; omega
      have EI2 : Hid (∀ X, Calls Tryd.prog 21 #[.int .i64 (k : Int)] X (DecIs k X)) := fun X => EI.out k X (by omega)
      have HE : Hid (∀ X Y v v', OwnT X w.heap.size v' ((branchL f o).take k ++ [entryB f o k]) → Below w.heap.size Y X → BranchMid f o k w v Y → BranchMid f o (k + 1) w v' X) := fun X Y v v' ho hb h => h.snoc hk ho hb
      clear EI
      rcases hcase with ⟨rfl, he⟩ | ⟨rfl, hf, he⟩ | ⟨rfl, hf, he⟩
      all_goals (
        rw [he] at HE
        have HFE : Hid True := trivial
        clear he
        go_wp2_with fail
        refine (EI2.out _).mono ?_
        rintro e w2 ⟨rfl, hb2⟩
        have HS2 : Hid (BranchMid _ _ _ _ _ w2) := HM.out.below hb2
        have hown := HS2.out.1
        have hszw := HS2.out.2.size
        clear hb2
        generalize decB k = D at *
        go_wp2_with (at_builtin; go_must (refine wp_app_text rfl (.tmp 19) (.tmp 24) rfl w.heap.size _ _ rfl hown _ rfl hll hszw ?_); intro v5 w5 hown5 hb5)
        go_roundw
        case rel => exact ⟨k + 1, by go_num, by omega, HE.out _ _ _ _ hown5 hb5 HS2.out⟩
        case measure => simp [RowKit.intOf]; omega)
    · have hkI : ¬ (k : Int) < 12 := by omega
      have hk' : k = 12 := by omega
      subst hk'
      go_wp2
      go_ret
      exact ⟨_, rfl, by have := HM.out.1; rw [List.take_of_length_le (by rw [branchL_len]; exact Nat.le_refl _)] at this; exact this, HM.out.2⟩

set_option maxHeartbeats 1000000 in
theorem specBranch_any (f : Int) (o : Bool) (w : World) : Calls Tryd.prog 8 #[.int .i64 f, .bool o] w (BranchAns f o w) := by
  have E0 : Hid (∀ X, Calls Tryd.prog 17 #[.int .i64 f, .int .i64 0, .int .i64 12] X fun e w' => e = .returned (.bool (forkB f)) ∧ Below X.heap.size X w') := fun X => forkIs_any f X
  have E1 : Hid (∀ X, Calls Tryd.prog 18 #[.int .i64 f, .bool o] X fun e w' => ∃ v, e = .returned v ∧ OwnT w' X.heap.size v (branchL f o) ∧ Below X.heap.size X w') := fun X => specBranchL_any f o X
  have HV : Hid (branchV f o = if forkB f then branchL f o else []) := rfl
  generalize forkB f = P at *
  go_enter Tryd.func8, Tryd.ntmps8
  go_wp2_with fail
  refine (E0.out _).mono ?_
  rintro e w1 ⟨rfl, hb⟩
  have H1 : Hid (Below w.heap.size w w1) := hb
  clear hb E0
  cases P with
  | false =>
    have hal : Below w1.heap.size w1 (w1.alloc (.cells #[] 9)) := (Below.refl _ _).alloc (Nat.le_refl _) _
    have HO : Hid (OwnT (w1.alloc (.cells #[] 9)) w.heap.size (.slice (some ⟨w1.heap.size, 0, none⟩) 0 0) [] ∧ Below w.heap.size w (w1.alloc (.cells #[] 9))) := ⟨OwnT.made w1 w.heap.size H1.out.size, H1.out.trans (hal.mono H1.out.size)⟩
    clear hal
    go_wp2
    go_ret
    exact ⟨_, rfl, by have hv := HV.out; simp only [Bool.false_eq_true, if_false] at hv; rw [hv]; exact HO.out.1, HO.out.2⟩
  | true =>
    go_wp2_with fail
    refine (E1.out _).mono ?_
    rintro e w2 ⟨v, rfl, ho, hb⟩
    have H2 : Hid (OwnT w2 w.heap.size v (branchL f o) ∧ Below w.heap.size w w2) := ⟨ho.lower H1.out.size, H1.out.trans (hb.mono H1.out.size)⟩
    clear ho hb E1
    go_wp2
    go_ret
    exact ⟨_, rfl, by have hv := HV.out; simp only [if_true] at hv; rw [hv]; exact H2.out.1, H2.out.2⟩
end Go.Proofs.YtkfmhmimclmigaaDoor
