/-
  The program retraces a proof from above.
-/
import Derived.Test.YtchlopmmhcobdaaDoorPkRoots
import Derived.Test.YtchlopmmhcobdaaDoorPkSplit
import Derived.Test.YtchlopmmhcobdaaDoorPkShaPure
import Derived.Test.YtchlopmmhcobdaaDoorPkCells
namespace Go.Proofs.YtchlopmmhcobdaaDoor
open Go.RowKit Go.Lib
set_option linter.unusedVariables false

abbrev retB (was : ByteArray) (r : List ByteArray) (m n : Nat) (wh : Bool) : (ByteArray × ByteArray) × Bool := retR nodeB ByteArray.empty was r m n wh
theorem retB_size (was : ByteArray) (h : was.size ≤ 1000) : ∀ (r : List ByteArray) (m n : Nat) (wh : Bool), (∀ t ∈ r, t.size ≤ 1000) → (retB was r m n wh).1.1.size ≤ 1000 ∧ (retB was r m n wh).1.2.size ≤ 1000 := by
  intro r
  induction r with
  | nil =>
    intro m n wh _
    unfold retB
    rw [retR]
    split
    · exact ⟨h, h⟩
    · exact ⟨by show 0 ≤ 1000; omega, by show 0 ≤ 1000; omega⟩
  | cons p r ih =>
    intro m n wh hz
    have hp := hz p (by simp)
    have hr : ∀ t ∈ r, t.size ≤ 1000 := fun t ht => hz t (by simp [ht])
    unfold retB
    rw [retR]
    split
    · exact ⟨h, h⟩
    · split
      · exact ⟨hp, hp⟩
      · split
        · exact ⟨(ih m (half n) wh hr).1, by show (nodeB _ _).size ≤ 1000; rw [nodeB_size]; omega⟩
        · exact ⟨by show (nodeB _ _).size ≤ 1000; rw [nodeB_size]; omega, by show (nodeB _ _).size ≤ 1000; rw [nodeB_size]; omega⟩
def RetAns (t : (ByteArray × ByteArray) × Bool) (e : Ending) : Prop := e = .returned (.tuple #[pairV t.1.1 t.1.2, .bool t.2])
theorem ret_is {a b : ByteArray} {c : Bool} {t : (ByteArray × ByteArray) × Bool} (h : t = ((a, b), c)) : RetAns t (.returned (.tuple #[pairV a b, .bool c])) := by subst h; rfl
theorem retB_whole (was : ByteArray) (r : List ByteArray) (n : Nat) : retB was r n n true = ((was, was), decide (r.length = 0)) := by
  unfold retB
  cases r with
  | nil => rw [retR, if_pos ⟨rfl, rfl⟩]; rfl
  | cons p r => rw [retR, if_pos ⟨rfl, rfl⟩]; rfl
theorem retB_nil (was : ByteArray) {m n : Nat} {wh : Bool} (h : ¬ (m = n ∧ wh = true)) : retB was [] m n wh = ((ByteArray.empty, ByteArray.empty), false) := by
  unfold retB
  rw [retR, if_neg h]

set_option maxHeartbeats 4000000 in
theorem ret_first (was : ByteArray) (n : Nat) (pr : List ByteArray) (v : Value) (w : World) (hn : n ≤ 9223372036854775807) (hm : pr.length ≤ 1000) (h : Texts w w.heap.size v pr) :
    Calls Tryd.prog 96 #[.int .i64 n, .int .i64 n, .bool true, v, .string was] w fun e w' => RetAns (retB was pr.reverse n n true) e ∧ Below w.heap.size w w' := by
  have HR : Hid (retB was pr.reverse n n true = ((was, was), decide (pr.length = 0))) := by
    show _ = _
    rw [retB_whole, List.length_reverse]
  generalize retB was pr.reverse n n true = R at *
  obtain ⟨a, cap, rfl, hx, hy⟩ := h
  clear hx hy
  generalize pr.length = m at *
  by_cases hm0 : m = 0
  · subst hm0
    go_enter Tryd.func96, Tryd.ntmps96
    go_wp2
    exact bodyPost_ret (v := .tuple #[pairV was was, .bool true]) (by simp [results, Tryd.results96, go_sem, pairV]) rfl ⟨ret_is HR.out, (Below.refl _ _).alloc (Nat.le_refl _) _⟩
  · have hmB : ((m : Int) == 0) = false := beq_eq_false_iff_ne.2 (by omega)
    rw [decide_eq_false hm0] at HR
    go_enter Tryd.func96, Tryd.ntmps96
    go_wp2
    exact bodyPost_ret (v := .tuple #[pairV was was, .bool false]) (by simp [results, Tryd.results96, go_sem, pairV]) rfl ⟨ret_is HR.out, (Below.refl _ _).alloc (Nat.le_refl _) _⟩
set_option maxHeartbeats 4000000 in
theorem ret_empty (was : ByteArray) (m n : Nat) (wh : Bool) (v : Value) (w : World) (hn : n ≤ 9223372036854775807) (hmn : m ≤ n) (hw : ¬ (m = n ∧ wh = true)) (h : Texts w w.heap.size v []) :
    Calls Tryd.prog 96 #[.int .i64 m, .int .i64 n, .bool wh, v, .string was] w fun e w' => RetAns (retB was [] m n wh) e ∧ Below w.heap.size w w' := by
  have HR : Hid (retB was [] m n wh = ((ByteArray.empty, ByteArray.empty), false)) := retB_nil was hw
  generalize retB was [] m n wh = R at *
  obtain ⟨a, cap, rfl, hx, hy⟩ := h
  clear hx hy
  rw [List.length_nil]
  by_cases hmn2 : m = n
  · subst hmn2
    have hwf : wh = false := by simpa using hw
    subst hwf
    clear hw
    go_enter Tryd.func96, Tryd.ntmps96
    go_wp2
    exact bodyPost_ret (v := .tuple #[pairV ⟨#[]⟩ ⟨#[]⟩, .bool false]) (by simp [results, Tryd.results96, go_sem, pairV]) rfl ⟨ret_is HR.out, (Below.refl _ _).alloc (Nat.le_refl _) _⟩
  · have hmnB : ((m : Int) == (n : Int)) = false := beq_eq_false_iff_ne.2 (by omega)
    have hmnI : ¬ (m : Int) = (n : Int) := by omega
    clear hw
    go_enter Tryd.func96, Tryd.ntmps96
    go_wp2
    exact bodyPost_ret (v := .tuple #[pairV ⟨#[]⟩ ⟨#[]⟩, .bool false]) (by simp [results, Tryd.results96, go_sem, pairV]) rfl ⟨ret_is HR.out, (Below.refl _ _).alloc (Nat.le_refl _) _⟩
set_option maxHeartbeats 4000000 in
theorem ret_here (was p : ByteArray) (r : List ByteArray) (n k b off cap : Nat) (w : World) (hn : n ≤ 9223372036854775807) (hk : k ≤ 1000) (hr : r.length = k) (hB : b < w.heap.size) (hcp : w.cell? ⟨b, off + k, none⟩ = some (.string p)) :
    Calls Tryd.prog 96 #[.int .i64 n, .int .i64 n, .bool false, .slice (some ⟨b, off, none⟩) (k + 1) cap, .string was] w fun e w' => RetAns (retB was (p :: r) n n false) e ∧ Below w.heap.size w w' := by
  have HR : Hid (retB was (p :: r) n n false = ((p, p), decide (k = 0))) := by
    show _ = _
    unfold retB
    rw [retR_here, hr]
  generalize retB was (p :: r) n n false = R at *
  clear hr
  have hkI : ((k + 1 : Nat) : Int) = (k : Int) + 1 := by omega
  have hk0 : ((k : Int) + 1 == 0) = false := beq_eq_false_iff_ne.2 (by omega)
  have hk0I : ¬ (k : Int) + 1 = 0 := by omega
  obtain ⟨W, hW⟩ : ∃ W, W = w.alloc (.cells #[.string ⟨#[]⟩, .string ⟨#[]⟩] 99) := ⟨_, rfl⟩
  have HW : Hid (W.heap[w.heap.size]? = some (.cells #[.string ⟨#[]⟩, .string ⟨#[]⟩] 99 (0, 0)) ∧ Below w.heap.size w W ∧ w.heap.size < W.heap.size) := by
    subst hW
    exact ⟨heap_alloc_new w _, (Below.refl _ _).alloc (Nat.le_refl _) _, by simp⟩
  obtain ⟨⟨d0, d1⟩, g0, g1⟩ := two_cells (Below.refl W.heap.size W) HW.out.2.2 HW.out.1
  have e0 : W.drew.cell? ⟨w.heap.size, 0, none⟩ = some (.string ⟨#[]⟩) := d0
  have e1 : W.drew.cell? ⟨w.heap.size, 1, none⟩ = some (.string ⟨#[]⟩) := d1
  have e2 : W.drew.frozen? ⟨w.heap.size, 0, none⟩ = false := g0
  have e3 : W.drew.frozen? ⟨w.heap.size, 1, none⟩ = false := g1
  have hcW : W.cell? ⟨b, off + k, none⟩ = some (.string p) := (HW.out.2.1.cell (p := ⟨b, off + k, none⟩) hB).trans hcp
  have hcW' : W.drew.cell? ⟨b, off + k, none⟩ = some (.string p) := hcW
  have HWE : Hid (W = w.alloc (.cells #[.string ⟨#[]⟩, .string ⟨#[]⟩] 99)) := hW
  clear hW hcp
  by_cases hz : k = 0
  · subst hz
    rw [Nat.add_zero] at hcW hcW'
    go_enter Tryd.func96, Tryd.ntmps96
    go_wp2
    rw [← HWE.out]
    clear HWE
    go_region
    all_goals
      go_wp2
      exact bodyPost_ret (v := .tuple #[pairV p p, .bool true]) (by simp [results, Tryd.results96, go_sem, pairV, d0, d1]) rfl ⟨ret_is HR.out, (((below_drew' HW.out.2.1).setCell (by simp) _).setCell (by simp) _)⟩
  · have hzB : ((k : Int) == 0) = false := beq_eq_false_iff_ne.2 (by omega)
    rw [decide_eq_false hz] at HR
    go_enter Tryd.func96, Tryd.ntmps96
    go_wp2
    rw [← HWE.out]
    clear HWE
    go_region
    all_goals
      go_wp2
      exact bodyPost_ret (v := .tuple #[pairV p p, .bool false]) (by simp [results, Tryd.results96, go_sem, pairV, d0, d1]) rfl ⟨ret_is HR.out, (((below_drew' HW.out.2.1).setCell (by simp) _).setCell (by simp) _)⟩
set_option maxHeartbeats 4000000 in
theorem ret_left (was p C11 C12 : ByteArray) (fits : Bool) (m n k j b off cap : Nat) (wh : Bool) (v1 : Value) (w : World) (R : (ByteArray × ByteArray) × Bool) (hn : n ≤ 9223372036854775807) (hm1 : 1 ≤ m) (hmn : m < n) (hkn : k < n) (hmk : m ≤ k) (hj : j ≤ 1000) (hB : b < w.heap.size) (hcp : w.cell? ⟨b, off + j, none⟩ = some (.string p))
    (hs1 : ∀ w1, (Instr.slice 41 (.slice (some ⟨b, off, none⟩) (j + 1) cap) none (some (.int .i64 (j : Int))) none).run Tryd.prog w1 = .ok v1 w1)
    (EH : Hid (∀ w, Calls Tryd.prog 131 #[.int .i64 n] w fun e w' => e = .returned (.int .i64 k) ∧ w' = w))
    (EC : Hid (∀ W, Below w.heap.size w W → Calls Tryd.prog 96 #[.int .i64 m, .int .i64 k, .bool wh, v1, .string was] W fun e w' => e = .returned (.tuple #[.agg #[.string C11, .string C12], .bool fits]) ∧ Below W.heap.size W w'))
    (EW : Hid (∀ W, Below w.heap.size w W → Calls Tryd.prog 133 #[.agg #[.string C11, .string C12], .string p] W fun e w' => e = .returned (pairV C11 (nodeB C12 p)) ∧ Below W.heap.size W w'))
    (HR : Hid (RetAns R (.returned (.tuple #[pairV C11 (nodeB C12 p), .bool fits])))) :
    Calls Tryd.prog 96 #[.int .i64 m, .int .i64 n, .bool wh, .slice (some ⟨b, off, none⟩) (j + 1) cap, .string was] w fun e w' => RetAns R e ∧ Below w.heap.size w w' := by
  have hjI : ((j + 1 : Nat) : Int) = (j : Int) + 1 := by omega
  have hj0 : ((j : Int) + 1 == 0) = false := beq_eq_false_iff_ne.2 (by omega)
  have hj0I : ¬ (j : Int) + 1 = 0 := by omega
  have hmnB : ((m : Int) == (n : Int)) = false := beq_eq_false_iff_ne.2 (by omega)
  have hmnI : ¬ (m : Int) = (n : Int) := by omega
  have hmkI : (m : Int) ≤ (k : Int) := by omega
  obtain ⟨W, hW⟩ : ∃ W, W = w.alloc (.cells #[.string ⟨#[]⟩, .string ⟨#[]⟩] 99) := ⟨_, rfl⟩
  have HW : Hid (W.heap[w.heap.size]? = some (.cells #[.string ⟨#[]⟩, .string ⟨#[]⟩] 99 (0, 0)) ∧ Below w.heap.size w W ∧ w.heap.size < W.heap.size) := by
    subst hW
    exact ⟨heap_alloc_new w _, (Below.refl _ _).alloc (Nat.le_refl _) _, by simp⟩
  have HWE : Hid (W = w.alloc (.cells #[.string ⟨#[]⟩, .string ⟨#[]⟩] 99)) := hW
  have HCP : Hid (w.cell? ⟨b, off + j, none⟩ = some (.string p)) := hcp
  clear hW hcp
  go_enter Tryd.func96, Tryd.ntmps96
  go_wp2_with fail
  rw [← HWE.out]
  clear HWE
  refine (EH.out _).mono ?_
  rintro e w1 ⟨rfl, rfl⟩
  clear EH
  go_wp2_with fail
  refine (EC.out _ HW.out.2.1).mono ?_
  rintro e w2 ⟨rfl, hb2⟩
  have H2 : Hid (Below w.heap.size w w2 ∧ w2.heap[w.heap.size]? = some (.cells #[.string ⟨#[]⟩, .string ⟨#[]⟩] 99 (0, 0)) ∧ w.heap.size < w2.heap.size) := ⟨HW.out.2.1.trans (hb2.mono HW.out.2.1.size), (hb2.block _ HW.out.2.2).trans HW.out.1, Nat.lt_of_lt_of_le HW.out.2.2 hb2.size⟩
  clear hb2 EC HW
  obtain ⟨W3, hW3⟩ : ∃ W3, W3 = w2.alloc (.cells #[.string C11, .string C12] 99) := ⟨_, rfl⟩
  have H3 : Hid (W3.heap[w2.heap.size]? = some (.cells #[.string C11, .string C12] 99 (0, 0)) ∧ Below w2.heap.size w2 W3 ∧ w2.heap.size < W3.heap.size) := by
    subst hW3
    exact ⟨heap_alloc_new w2 _, (Below.refl _ _).alloc (Nat.le_refl _) _, by simp⟩
  have HW3 : Hid (W3 = w2.alloc (.cells #[.string C11, .string C12] 99)) := hW3
  clear hW3
  obtain ⟨⟨c0, c1⟩, _, _⟩ := two_cells (Below.refl W3.heap.size W3) H3.out.2.2 H3.out.1
  have H4 : Hid (Below w.heap.size w W3.drew ∧ W3.drew.heap[w.heap.size]? = some (.cells #[.string ⟨#[]⟩, .string ⟨#[]⟩] 99 (0, 0)) ∧ w.heap.size < W3.drew.heap.size) := ⟨below_drew' (H2.out.1.trans (H3.out.2.1.mono H2.out.1.size)), (H3.out.2.1.block _ H2.out.2.2).trans H2.out.2.1, Nat.lt_of_lt_of_le H2.out.2.2 H3.out.2.1.size⟩
  have hcW : W3.cell? ⟨b, off + j, none⟩ = some (.string p) := (H4.out.1.cell (p := ⟨b, off + j, none⟩) hB).trans HCP.out
  have hcW' : W3.drew.cell? ⟨b, off + j, none⟩ = some (.string p) := hcW
  have c0' : W3.drew.cell? ⟨w2.heap.size, 0, none⟩ = some (.string C11) := c0
  have c1' : W3.drew.cell? ⟨w2.heap.size, 1, none⟩ = some (.string C12) := c1
  clear H2 H3
  go_wp2_with fail
  rw [← HW3.out]
  clear HW3
  go_region_with (go_at_call 133; refine (EW.out _ ?_).mono ?_; exact H4.out.1; rintro e w5 ⟨rfl, hb5⟩; have H5 : Hid (Below w.heap.size w w5 ∧ w5.heap[w.heap.size]? = some (.cells #[.string ⟨#[]⟩, .string ⟨#[]⟩] 99 (0, 0)) ∧ w.heap.size < w5.heap.size) := ⟨H4.out.1.trans (hb5.mono H4.out.1.size), (hb5.block _ H4.out.2.2).trans H4.out.2.1, Nat.lt_of_lt_of_le H4.out.2.2 hb5.size⟩; obtain ⟨⟨z0, z1⟩, u0, u1⟩ := two_cells (Below.refl w5.heap.size w5) H5.out.2.2 H5.out.2.1; clear hb5; unfold pairV)
  all_goals
    go_wp2
    exact bodyPost_ret (v := .tuple #[pairV C11 (nodeB C12 p), .bool fits]) (by simp [results, Tryd.results96, go_sem, pairV, z0, z1]) rfl ⟨HR.out, ((H5.out.1.setCell (by simp) _).setCell (by simp) _)⟩

set_option maxHeartbeats 4000000 in
theorem ret_right (was p C11 C12 : ByteArray) (fits : Bool) (m n k j b off cap : Nat) (wh : Bool) (v1 : Value) (w : World) (R : (ByteArray × ByteArray) × Bool) (hn : n ≤ 9223372036854775807) (hm1 : 1 ≤ m) (hmn : m < n) (hkn : k < n) (hmk : ¬ m ≤ k) (hj : j ≤ 1000) (hB : b < w.heap.size) (hcp : w.cell? ⟨b, off + j, none⟩ = some (.string p))
    (hs1 : ∀ w1, (Instr.slice 41 (.slice (some ⟨b, off, none⟩) (j + 1) cap) none (some (.int .i64 (j : Int))) none).run Tryd.prog w1 = .ok v1 w1)
    (EH : Hid (∀ w, Calls Tryd.prog 131 #[.int .i64 n] w fun e w' => e = .returned (.int .i64 k) ∧ w' = w))
    (EC : Hid (∀ W, Below w.heap.size w W → Calls Tryd.prog 96 #[.int .i64 ((m : Int) - (k : Int)), .int .i64 ((n : Int) - (k : Int)), .bool false, v1, .string was] W fun e w' => e = .returned (.tuple #[.agg #[.string C11, .string C12], .bool fits]) ∧ Below W.heap.size W w'))
    (EW : Hid (∀ W, Below w.heap.size w W → Calls Tryd.prog 134 #[.agg #[.string C11, .string C12], .string p] W fun e w' => e = .returned (pairV (nodeB p C11) (nodeB p C12)) ∧ Below W.heap.size W w'))
    (HR : Hid (RetAns R (.returned (.tuple #[pairV (nodeB p C11) (nodeB p C12), .bool fits])))) :
    Calls Tryd.prog 96 #[.int .i64 m, .int .i64 n, .bool wh, .slice (some ⟨b, off, none⟩) (j + 1) cap, .string was] w fun e w' => RetAns R e ∧ Below w.heap.size w w' := by
  have hjI : ((j + 1 : Nat) : Int) = (j : Int) + 1 := by omega
  have hj0 : ((j : Int) + 1 == 0) = false := beq_eq_false_iff_ne.2 (by omega)
  have hj0I : ¬ (j : Int) + 1 = 0 := by omega
  have hmnB : ((m : Int) == (n : Int)) = false := beq_eq_false_iff_ne.2 (by omega)
  have hmnI : ¬ (m : Int) = (n : Int) := by omega
  have hmkI : ¬ (m : Int) ≤ (k : Int) := by omega
  obtain ⟨W, hW⟩ : ∃ W, W = w.alloc (.cells #[.string ⟨#[]⟩, .string ⟨#[]⟩] 99) := ⟨_, rfl⟩
  have HW : Hid (W.heap[w.heap.size]? = some (.cells #[.string ⟨#[]⟩, .string ⟨#[]⟩] 99 (0, 0)) ∧ Below w.heap.size w W ∧ w.heap.size < W.heap.size) := by
    subst hW
    exact ⟨heap_alloc_new w _, (Below.refl _ _).alloc (Nat.le_refl _) _, by simp⟩
  have HWE : Hid (W = w.alloc (.cells #[.string ⟨#[]⟩, .string ⟨#[]⟩] 99)) := hW
  have HCP : Hid (w.cell? ⟨b, off + j, none⟩ = some (.string p)) := hcp
  clear hW hcp
  go_enter Tryd.func96, Tryd.ntmps96
  go_wp2_with fail
  rw [← HWE.out]
  clear HWE
  refine (EH.out _).mono ?_
  rintro e w1 ⟨rfl, rfl⟩
  clear EH
  go_wp2_with fail
  refine (EC.out _ HW.out.2.1).mono ?_
  rintro e w2 ⟨rfl, hb2⟩
  have H2 : Hid (Below w.heap.size w w2 ∧ w2.heap[w.heap.size]? = some (.cells #[.string ⟨#[]⟩, .string ⟨#[]⟩] 99 (0, 0)) ∧ w.heap.size < w2.heap.size) := ⟨HW.out.2.1.trans (hb2.mono HW.out.2.1.size), (hb2.block _ HW.out.2.2).trans HW.out.1, Nat.lt_of_lt_of_le HW.out.2.2 hb2.size⟩
  clear hb2 EC HW
  obtain ⟨W3, hW3⟩ : ∃ W3, W3 = w2.alloc (.cells #[.string C11, .string C12] 99) := ⟨_, rfl⟩
  have H3 : Hid (W3.heap[w2.heap.size]? = some (.cells #[.string C11, .string C12] 99 (0, 0)) ∧ Below w2.heap.size w2 W3 ∧ w2.heap.size < W3.heap.size) := by
    subst hW3
    exact ⟨heap_alloc_new w2 _, (Below.refl _ _).alloc (Nat.le_refl _) _, by simp⟩
  have HW3 : Hid (W3 = w2.alloc (.cells #[.string C11, .string C12] 99)) := hW3
  clear hW3
  obtain ⟨⟨c0, c1⟩, _, _⟩ := two_cells (Below.refl W3.heap.size W3) H3.out.2.2 H3.out.1
  have H4 : Hid (Below w.heap.size w W3.drew ∧ W3.drew.heap[w.heap.size]? = some (.cells #[.string ⟨#[]⟩, .string ⟨#[]⟩] 99 (0, 0)) ∧ w.heap.size < W3.drew.heap.size) := ⟨below_drew' (H2.out.1.trans (H3.out.2.1.mono H2.out.1.size)), (H3.out.2.1.block _ H2.out.2.2).trans H2.out.2.1, Nat.lt_of_lt_of_le H2.out.2.2 H3.out.2.1.size⟩
  have hcW : W3.cell? ⟨b, off + j, none⟩ = some (.string p) := (H4.out.1.cell (p := ⟨b, off + j, none⟩) hB).trans HCP.out
  have hcW' : W3.drew.cell? ⟨b, off + j, none⟩ = some (.string p) := hcW
  have c0' : W3.drew.cell? ⟨w2.heap.size, 0, none⟩ = some (.string C11) := c0
  have c1' : W3.drew.cell? ⟨w2.heap.size, 1, none⟩ = some (.string C12) := c1
  clear H2 H3
  go_wp2_with fail
  rw [← HW3.out]
  clear HW3
  go_region_with (go_at_call 134; refine (EW.out _ ?_).mono ?_; exact H4.out.1; rintro e w5 ⟨rfl, hb5⟩; have H5 : Hid (Below w.heap.size w w5 ∧ w5.heap[w.heap.size]? = some (.cells #[.string ⟨#[]⟩, .string ⟨#[]⟩] 99 (0, 0)) ∧ w.heap.size < w5.heap.size) := ⟨H4.out.1.trans (hb5.mono H4.out.1.size), (hb5.block _ H4.out.2.2).trans H4.out.2.1, Nat.lt_of_lt_of_le H4.out.2.2 hb5.size⟩; obtain ⟨⟨z0, z1⟩, u0, u1⟩ := two_cells (Below.refl w5.heap.size w5) H5.out.2.2 H5.out.2.1; clear hb5; unfold pairV)
  all_goals
    go_wp2
    exact bodyPost_ret (v := .tuple #[pairV (nodeB p C11) (nodeB p C12), .bool fits]) (by simp [results, Tryd.results96, go_sem, pairV, z0, z1]) rfl ⟨HR.out, ((H5.out.1.setCell (by simp) _).setCell (by simp) _)⟩
end Go.Proofs.YtchlopmmhcobdaaDoor

/-
  The program retraces every proof as the plain mathematics says.
-/
namespace Go.Proofs.YtchlopmmhcobdaaDoor
open Go.RowKit Go.Lib
set_option linter.unusedVariables false

theorem retrace_any (j : Nat) : ∀ (pr : List ByteArray), pr.length = j → j ≤ 1000 → (∀ i (hi : i < pr.length), pr[i].size ≤ 1000) → ∀ (was : ByteArray) (m n : Nat) (x y : Int) (wh : Bool) (v : Value) (w : World), was.size ≤ 1000 → x = (m : Int) → y = (n : Int) → 1 ≤ m → m ≤ n → n ≤ 9223372036854775807 → Texts w w.heap.size v pr → Keys w →
    Calls Tryd.prog 96 #[.int .i64 x, .int .i64 y, .bool wh, v, .string was] w fun e w' => RetAns (retB was pr.reverse m n wh) e ∧ Below w.heap.size w w' := by
  induction j with
  | zero =>
    intro pr hj hj1 hz was m n x y wh v w hwas hx hy h1 hmn hn h hK
    subst hx hy
    obtain rfl := List.eq_nil_of_length_eq_zero hj
    by_cases hw : m = n ∧ wh = true
    · obtain ⟨rfl, rfl⟩ := hw
      exact ret_first was m [] v w hn (by simp) h
    · exact ret_empty was m n wh v w hn hmn hw h
  | succ j ih =>
    intro pr hj hj1 hz was m n x y wh v w hwas hx hy h1 hmn hn h hK
    subst hx hy
    by_cases hw : m = n ∧ wh = true
    · obtain ⟨rfl, rfl⟩ := hw
      exact ret_first was m pr v w hn (by omega) h
    have hne : pr ≠ [] := by rintro rfl; simp at hj
    obtain ⟨r, p, rfl⟩ : ∃ r p, pr = r ++ [p] := ⟨pr.dropLast, pr.getLast hne, (List.dropLast_concat_getLast hne).symm⟩
    have hr : r.length = j := by simpa using hj
    rw [List.reverse_append, List.reverse_singleton, List.singleton_append]
    have hzr : ∀ i (hi : i < r.length), r[i].size ≤ 1000 := fun i hi => by
      have := hz i (by simp; omega)
      rwa [List.getElem_append_left hi] at this
    have hzp : p.size ≤ 1000 := by
      have := hz r.length (by simp)
      rwa [List.getElem_append_right (Nat.le_refl _), List.getElem_singleton] at this
    have hzR : ∀ t ∈ r.reverse, t.size ≤ 1000 := fun t ht => by
      obtain ⟨i, hi, rfl⟩ := List.getElem_of_mem (List.mem_reverse.1 ht)
      exact hzr i hi
    obtain ⟨v1, hs1, ht1⟩ := slice_h h j (by rw [hj]; omega) (j : Int) rfl
    rw [List.take_left' hr] at ht1
    have hclast : ∃ b off, (∃ cap, v = .slice (some ⟨b, off, none⟩) (j + 1) cap) ∧ b < w.heap.size ∧ w.cell? ⟨b, off + j, none⟩ = some (.string p) := by
      obtain ⟨a, cap, hv, hcap, hc⟩ := h.at
      obtain ⟨b, off, rfl, hB, hcell⟩ := hc j (by rw [hj]; omega)
      rw [hj] at hv
      refine ⟨b, off, ⟨cap, hv⟩, hB, ?_⟩
      rw [hcell]
      congr 2
      subst hr
      simp
    obtain ⟨b, off, ⟨cap, rfl⟩, hB, hcp⟩ := hclast
    by_cases hmn2 : m = n
    · subst hmn2
      have hwf : wh = false := by simpa using hw
      subst hwf
      exact ret_here was p r.reverse m j b off cap w hn (by omega) (by rw [List.length_reverse, hr]) hB hcp
    have hmlt : m < n := by omega
    obtain ⟨ex, he, hk1, hk2⟩ := half_spec (show 2 ≤ n by omega)
    have hp := Nat.two_pow_pos ex
    by_cases hk : m ≤ half n
    · refine ret_left was p (retB was r.reverse m (half n) wh).1.1 (retB was r.reverse m (half n) wh).1.2 (retB was r.reverse m (half n) wh).2 m n (half n) j b off cap wh v1 w _ hn h1 hmlt hk1 hk (by omega) hB hcp hs1 (fun w => splitOf_any n w (by omega) hn) (fun W hb => ?_) (fun W hb => ?_) ?_
      · have hrec := ih r hr (by omega) hzr was m (half n) m (half n : Nat) wh v1 W hwas rfl rfl h1 hk (by omega) ((ht1.below hb).up hb.size) (hK.below hb hK.lt)
        exact hrec
      · have hs := retB_size was hwas r.reverse m (half n) wh hzR
        exact withRight_any _ _ p W hs.2 hzp (hK.below hb hK.lt)
      · exact ret_is (retR_left nodeB ByteArray.empty was p r.reverse wh (by omega) hk)
    · refine ret_right was p (retB was r.reverse (m - half n) (n - half n) false).1.1 (retB was r.reverse (m - half n) (n - half n) false).1.2 (retB was r.reverse (m - half n) (n - half n) false).2 m n (half n) j b off cap wh v1 w _ hn h1 hmlt hk1 hk (by omega) hB hcp hs1 (fun w => splitOf_any n w (by omega) hn) (fun W hb => ?_) (fun W hb => ?_) ?_
      · have hrec := ih r hr (by omega) hzr was (m - half n) (n - half n) _ _ false v1 W hwas (show (m : Int) - (half n : Int) = ((m - half n : Nat) : Int) by omega) (show (n : Int) - (half n : Int) = ((n - half n : Nat) : Int) by omega) (by omega) (by omega) (by omega) ((ht1.below hb).up hb.size) (hK.below hb hK.lt)
        exact hrec
      · have hs := retB_size was hwas r.reverse (m - half n) (n - half n) false hzR
        exact withLeft_any _ _ p W hs.1 hs.2 hzp (hK.below hb hK.lt)
      · exact ret_is (retR_right nodeB ByteArray.empty was p r.reverse wh (by omega) hk)
end Go.Proofs.YtchlopmmhcobdaaDoor

/-
  The program's Consistent: it answers as a run from below.
-/
namespace Go.Proofs.YtchlopmmhcobdaaDoor
open Go.RowKit Go.Lib
set_option linter.unusedVariables false

set_option maxHeartbeats 4000000 in
theorem implCons_any (was root : ByteArray) (i n : Int) (v : Value) (path : List ByteArray) (w : World) (h : Texts w w.heap.size v path) (hl : path.length ≤ 1048576) (hi0 : -9223372036854775808 ≤ i) (hi1 : i ≤ 9223372036854775807) (hn0 : -9223372036854775808 ≤ n) (hn1 : n ≤ 9223372036854775807) (hz1 : was.size ≤ 1048576) (hz2 : root.size ≤ 1048576) (hK : Keys w) :
    Calls Tryd.prog 45 #[.int .i64 i, .int .i64 n, v, .string was, .string root] w fun e w' => e = .returned (.bool (consB i n path was root)) ∧ Below w.heap.size w w' := by
  by_cases c5 : i < 1
  · rw [consB_no (.inr (.inr (.inr (.inr (.inl c5)))))]
    clear h hK
    go_enter Tryd.func45, Tryd.ntmps45
    go_wp2_with fail
    go_ret
    exact ⟨rfl, Below.refl _ _⟩
  by_cases c6 : n < i
  · rw [consB_no (.inr (.inr (.inr (.inr (.inr c6)))))]
    clear h hK
    go_enter Tryd.func45, Tryd.ntmps45
    go_wp2_with fail
    go_ret
    exact ⟨rfl, Below.refl _ _⟩
  by_cases c1 : (64 : Int) < (path.length : Int)
  · rw [consB_no (.inl c1)]
    obtain ⟨a, cap, rfl, hx, hy⟩ := h
    clear hx hy hK
    generalize path.length = m at *
    go_enter Tryd.func45, Tryd.ntmps45
    go_wp2_with fail
    go_ret
    exact ⟨rfl, Below.refl _ _⟩
  have E1 : Hid (Calls Tryd.prog 85 #[.slice (some ⟨w.heap.size, 0, none⟩) 2 2] (w.alloc (.cells #[.string was, .string root] 9)) fun e w' => e = .returned (.bool (wideB [was, root])) ∧ w' = w.alloc (.cells #[.string was, .string root] 9)) := areDigests_any _ [was, root] _ _ (two_texts w was root) (by simp)
  rw [wide_two] at E1
  have hal : Below w.heap.size w (w.alloc (.cells #[.string was, .string root] 9)) := (Below.refl _ _).alloc (Nat.le_refl _) _
  by_cases c34 : (was.size : Int) = 32 ∧ (root.size : Int) = 32
  · obtain ⟨c3, c4⟩ := c34
    rw [decide_eq_true c3, decide_eq_true c4, Bool.true_and] at E1
    have E2 : Hid (Calls Tryd.prog 85 #[v] (w.alloc (.cells #[.string was, .string root] 9)) fun e w' => e = .returned (.bool (wideB path)) ∧ w' = w.alloc (.cells #[.string was, .string root] 9)) := areDigests_any v path _ w.heap.size (h.below hal) hl
    by_cases c2 : wideB path = true
    · rw [c2] at E2
      rw [consB_yes (by omega) c2 c3 c4 (by omega) (by omega), cons_ret _ _ _ _ _ (by omega) (by omega)]
      have E3 : Hid (Calls Tryd.prog 96 #[.int .i64 i, .int .i64 n, .bool true, v, .string was] (w.alloc (.cells #[.string was, .string root] 9)) fun e w' => RetAns (retB was path.reverse i.toNat n.toNat true) e ∧ Below w.heap.size w w') := by
        refine (retrace_any path.length path rfl (by omega) (fun j hj => by have := wideB_at c2 hj; omega) was i.toNat n.toNat i n true v _ (by omega) (by omega) (by omega) (by omega) (by omega) (by omega) ((h.below hal).up (by simp)) (hK.below hal hK.lt)).mono ?_
        rintro e w' ⟨h1, hb⟩
        exact ⟨h1, hal.trans (hb.mono (by simp))⟩
      show Calls _ _ _ _ fun e w' => e = .returned (.bool ((retB was path.reverse i.toNat n.toNat true).2 && (((retB was path.reverse i.toNat n.toNat true).1.1.toList == was.toList) && ((retB was path.reverse i.toNat n.toNat true).1.2.toList == root.toList)))) ∧ _
      generalize retB was path.reverse i.toNat n.toNat true = C at *
      obtain ⟨⟨C1, C3⟩, C2⟩ := C
      obtain ⟨a, cap, rfl, hx, hy⟩ := h
      clear hx hy c2 hK
      generalize path.length = m at *
      go_enter Tryd.func45, Tryd.ntmps45
      go_wp2_with fail
      refine E1.out.mono ?_
      rintro e w1 ⟨rfl, hw1⟩
      rw [← hw1] at E2 E3
      clear E1 hw1 hal
      go_wp2_with fail
      refine E2.out.mono ?_
      rintro e w2 ⟨rfl, hw2⟩
      subst hw2
      clear E2
      go_wp2_with fail
      refine E3.out.mono ?_
      rintro e w3 ⟨hc3, hb3⟩
      unfold RetAns pairV at hc3
      subst hc3
      have H3 : Hid (Below w.heap.size w w3) := hb3
      clear hb3 E3
      cases C2 with
      | true =>
        by_cases q1 : C1.toList = was.toList
        · by_cases q2 : C3.toList = root.toList
          · have HV : Hid ((true && ((C1.toList == was.toList) && (C3.toList == root.toList))) = true) := show _ = _ by rw [q1, q2]; simp
            go_wp2
            go_ret
            exact ⟨ret_bool HV.out.symm, H3.out.alloc H3.out.size _⟩
          · have HV : Hid ((true && ((C1.toList == was.toList) && (C3.toList == root.toList))) = false) := show _ = _ by rw [beq_eq_false_iff_ne.2 q2]; simp
            go_wp2
            go_ret
            exact ⟨ret_bool HV.out.symm, H3.out.alloc H3.out.size _⟩
        · have HV : Hid ((true && ((C1.toList == was.toList) && (C3.toList == root.toList))) = false) := show _ = _ by rw [beq_eq_false_iff_ne.2 q1]; simp
          go_wp2
          go_ret
          exact ⟨ret_bool HV.out.symm, H3.out.alloc H3.out.size _⟩
      | false =>
        go_wp2
        go_ret
        exact ⟨rfl, H3.out.alloc H3.out.size _⟩
    · have c2' : wideB path = false := by simpa using c2
      rw [c2'] at E2
      rw [consB_no (.inr (.inl c2'))]
      obtain ⟨a, cap, rfl, hx, hy⟩ := h
      clear hx hy c2 hK c2'
      generalize path.length = m at *
      go_enter Tryd.func45, Tryd.ntmps45
      go_wp2_with fail
      refine E1.out.mono ?_
      rintro e w1 ⟨rfl, hw1⟩
      rw [← hw1] at E2 hal
      have HAL : Hid (Below w.heap.size w w1) := hal
      clear E1 hw1 hal
      go_wp2_with fail
      refine E2.out.mono ?_
      rintro e w2 ⟨rfl, hw2⟩
      subst hw2
      have H3 : Hid (Below w.heap.size w w2) := HAL.out
      clear E2 HAL
      go_wp2
      go_ret
      exact ⟨rfl, H3.out⟩
  · have hno : (decide ((was.size : Int) = 32) && decide ((root.size : Int) = 32)) = false := by
      rw [Bool.and_eq_false_iff]
      by_cases h1 : (was.size : Int) = 32
      · exact .inr (decide_eq_false fun h2 => c34 ⟨h1, h2⟩)
      · exact .inl (decide_eq_false h1)
    rw [consB_no (by by_cases h1 : (was.size : Int) = 32; exact .inr (.inr (.inr (.inl fun h2 => c34 ⟨h1, h2⟩))); exact .inr (.inr (.inl h1)))]
    rw [hno] at E1
    obtain ⟨a, cap, rfl, hx, hy⟩ := h
    clear hx hy hK hno c34
    generalize path.length = m at *
    go_enter Tryd.func45, Tryd.ntmps45
    go_wp2_with fail
    refine E1.out.mono ?_
    rintro e w1 ⟨rfl, hw1⟩
    have H1 : Hid (Below w.heap.size w w1) := by rw [hw1]; exact hal
    clear hw1 E1 hal
    go_wp2
    go_ret
    exact ⟨rfl, H1.out⟩
end Go.Proofs.YtchlopmmhcobdaaDoor
