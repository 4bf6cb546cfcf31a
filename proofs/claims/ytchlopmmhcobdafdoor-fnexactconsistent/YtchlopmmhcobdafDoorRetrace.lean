/-
  The program retraces a proof from above.
-/
import Derived.Test.YtchlopmmhcobdafDoorRoots
import Derived.Test.YtchlopmmhcobdafDoorSplit
import Derived.Test.YtchlopmmhcobdafDoorRetPure
namespace Go.Proofs.YtchlopmmhcobdafDoor
open Go.RowKit Go.Lib
set_option linter.unusedVariables false

abbrev retB (was : ByteArray) (r : List ByteArray) (m n : Nat) (wh : Bool) : (ByteArray × ByteArray) × Bool := retR nodeB ByteArray.empty was r m n wh
theorem retB_size (was : ByteArray) (h : was.size ≤ 1000) : ∀ (r : List ByteArray) (m n : Nat) (wh : Bool), (∀ t ∈ r, t.size ≤ 1000) → (retB was r m n wh).1.1.size ≤ 1000 ∧ (retB was r m n wh).1.2.size ≤ 1000 := by
  intro r
  induction r with
  | nil =>
    intro m n wh _
    unfold retB
    rw [retR]
    split
    · exact ⟨h, h⟩
    · exact ⟨by show 0 ≤ 1000; omega, by show 0 ≤ 1000; omega⟩
  | cons p r ih =>
    intro m n wh hz
    have hp := hz p (by simp)
    have hr : ∀ t ∈ r, t.size ≤ 1000 := fun t ht => hz t (by simp [ht])
    unfold retB
    rw [retR]
    split
    · exact ⟨h, h⟩
    · split
      · exact ⟨hp, hp⟩
      · split
        · exact ⟨(ih m (half n) wh hr).1, by show (nodeB _ _).size ≤ 1000; rw [nodeB_size]; omega⟩
        · exact ⟨by show (nodeB _ _).size ≤ 1000; rw [nodeB_size]; omega, by show (nodeB _ _).size ≤ 1000; rw [nodeB_size]; omega⟩
def RetAns (t : (ByteArray × ByteArray) × Bool) (e : Ending) : Prop := e = .returned (.tuple #[pairV t.1.1 t.1.2, .bool t.2])
theorem ret_is {a b : ByteArray} {c : Bool} {t : (ByteArray × ByteArray) × Bool} (h : t = ((a, b), c)) : RetAns t (.returned (.tuple #[pairV a b, .bool c])) := by subst h; rfl
theorem retB_whole (was : ByteArray) (r : List ByteArray) (n : Nat) : retB was r n n true = ((was, was), decide (r.length = 0)) := by
  unfold retB
  cases r with
  | nil => rw [retR, if_pos ⟨rfl, rfl⟩]; rfl
  | cons p r => rw [retR, if_pos ⟨rfl, rfl⟩]; rfl
theorem retB_nil (was : ByteArray) {m n : Nat} {wh : Bool} (h : ¬ (m = n ∧ wh = true)) : retB was [] m n wh = ((ByteArray.empty, ByteArray.empty), false) := by
  unfold retB
  rw [retR, if_neg h]

set_option maxHeartbeats 4000000 in
theorem ret_first (was : ByteArray) (n : Nat) (pr : List ByteArray) (v : Value) (w : World) (hn : n ≤ 9223372036854775807) (hm : pr.length ≤ 1000) (h : Texts w w.heap.size v pr) :
    Calls Tryd.prog 38 #[.int .i64 n, .int .i64 n, .bool true, v, .string was] w fun e w' => RetAns (retB was pr.reverse n n true) e ∧ Below w.heap.size w w' := by
  have HR : Hid (retB was pr.reverse n n true = ((was, was), decide (pr.length = 0))) := by
    show _ = _
    rw [retB_whole, List.length_reverse]
  generalize retB was pr.reverse n n true = R at *
  obtain ⟨a, cap, rfl, hx, hy⟩ := h
  clear hx hy
  generalize pr.length = m at *
  by_cases hm0 : m = 0
  · subst hm0
    go_enter Tryd.func38, Tryd.ntmps38
    go_wp2
    exact bodyPost_ret (v := .tuple #[pairV was was, .bool true]) (by simp [results, Tryd.results38, go_sem, pairV]) rfl ⟨ret_is HR.out, (Below.refl _ _).alloc (Nat.le_refl _) _⟩
  · have hmB : ((m : Int) == 0) = false := beq_eq_false_iff_ne.2 (by omega)
    rw [decide_eq_false hm0] at HR
    go_enter Tryd.func38, Tryd.ntmps38
    go_wp2
    exact bodyPost_ret (v := .tuple #[pairV was was, .bool false]) (by simp [results, Tryd.results38, go_sem, pairV]) rfl ⟨ret_is HR.out, (Below.refl _ _).alloc (Nat.le_refl _) _⟩
set_option maxHeartbeats 4000000 in
theorem ret_empty (was : ByteArray) (m n : Nat) (wh : Bool) (v : Value) (w : World) (hn : n ≤ 9223372036854775807) (hmn : m ≤ n) (hw : ¬ (m = n ∧ wh = true)) (h : Texts w w.heap.size v []) :
    Calls Tryd.prog 38 #[.int .i64 m, .int .i64 n, .bool wh, v, .string was] w fun e w' => RetAns (retB was [] m n wh) e ∧ Below w.heap.size w w' := by
  have HR : Hid (retB was [] m n wh = ((ByteArray.empty, ByteArray.empty), false)) := retB_nil was hw
  generalize retB was [] m n wh = R at *
  obtain ⟨a, cap, rfl, hx, hy⟩ := h
  clear hx hy
  rw [List.length_nil]
  by_cases hmn2 : m = n
  · subst hmn2
    have hwf : wh = false := by simpa using hw
    subst hwf
    clear hw
    go_enter Tryd.func38, Tryd.ntmps38
    go_wp2
    exact bodyPost_ret (v := .tuple #[pairV ⟨#[]⟩ ⟨#[]⟩, .bool false]) (by simp [results, Tryd.results38, go_sem, pairV]) rfl ⟨ret_is HR.out, (Below.refl _ _).alloc (Nat.le_refl _) _⟩
  · have hmnB : ((m : Int) == (n : Int)) = false := beq_eq_false_iff_ne.2 (by omega)
    have hmnI : ¬ (m : Int) = (n : Int) := by omega
    clear hw
    go_enter Tryd.func38, Tryd.ntmps38
    go_wp2
    exact bodyPost_ret (v := .tuple #[pairV ⟨#[]⟩ ⟨#[]⟩, .bool false]) (by simp [results, Tryd.results38, go_sem, pairV]) rfl ⟨ret_is HR.out, (Below.refl _ _).alloc (Nat.le_refl _) _⟩
set_option maxHeartbeats 4000000 in
theorem ret_here (was p : ByteArray) (r : List ByteArray) (n k b off cap : Nat) (w : World) (hn : n ≤ 9223372036854775807) (hk : k ≤ 1000) (hr : r.length = k) (hB : b < w.heap.size) (hcp : w.cell? ⟨b, off + k, none⟩ = some (.string p)) :
    Calls Tryd.prog 38 #[.int .i64 n, .int .i64 n, .bool false, .slice (some ⟨b, off, none⟩) (k + 1) cap, .string was] w fun e w' => RetAns (retB was (p :: r) n n false) e ∧ Below w.heap.size w w' := by
  have HR : Hid (retB was (p :: r) n n false = ((p, p), decide (k = 0))) := by
    show _ = _
    unfold retB
    rw [retR_here, hr]
  generalize retB was (p :: r) n n false = R at *
  clear hr
  have hkI : ((k + 1 : Nat) : Int) = (k : Int) + 1 := by omega
  have hk0 : ((k : Int) + 1 == 0) = false := beq_eq_false_iff_ne.2 (by omega)
  have hk0I : ¬ (k : Int) + 1 = 0 := by omega
  obtain ⟨W, hW⟩ : ∃ W, W = w.alloc (.cells #[.string ⟨#[]⟩, .string ⟨#[]⟩] 51) := ⟨_, rfl⟩
  have HW : Hid (W.heap[w.heap.size]? = some (.cells #[.string ⟨#[]⟩, .string ⟨#[]⟩] 51 (0, 0)) ∧ Below w.heap.size w W ∧ w.heap.size < W.heap.size) := by
    subst hW
    exact ⟨heap_alloc_new w _, (Below.refl _ _).alloc (Nat.le_refl _) _, by simp⟩
  obtain ⟨⟨d0, d1⟩, g0, g1⟩ := two_cells (Below.refl W.heap.size W) HW.out.2.2 HW.out.1
  have e0 : W.drew.cell? ⟨w.heap.size, 0, none⟩ = some (.string ⟨#[]⟩) := d0
  have e1 : W.drew.cell? ⟨w.heap.size, 1, none⟩ = some (.string ⟨#[]⟩) := d1
  have e2 : W.drew.frozen? ⟨w.heap.size, 0, none⟩ = false := g0
  have e3 : W.drew.frozen? ⟨w.heap.size, 1, none⟩ = false := g1
  have hcW : W.cell? ⟨b, off + k, none⟩ = some (.string p) := (HW.out.2.1.cell (p := ⟨b, off + k, none⟩) hB).trans hcp
  have hcW' : W.drew.cell? ⟨b, off + k, none⟩ = some (.string p) := hcW
  have HWE : Hid (W = w.alloc (.cells #[.string ⟨#[]⟩, .string ⟨#[]⟩] 51)) := hW
  clear hW hcp
  by_cases hz : k = 0
  · subst hz
    rw [Nat.add_zero] at hcW hcW'
    go_enter Tryd.func38, Tryd.ntmps38
    go_wp2
    rw [← HWE.out]
    clear HWE
    go_region
    all_goals
      go_wp2
      exact bodyPost_ret (v := .tuple #[pairV p p, .bool true]) (by simp [results, Tryd.results38, go_sem, pairV, d0, d1]) rfl ⟨ret_is HR.out, (((below_drew' HW.out.2.1).setCell (by simp) _).setCell (by simp) _)⟩
  · have hzB : ((k : Int) == 0) = false := beq_eq_false_iff_ne.2 (by omega)
    rw [decide_eq_false hz] at HR
    go_enter Tryd.func38, Tryd.ntmps38
    go_wp2
    rw [← HWE.out]
    clear HWE
    go_region
    all_goals
      go_wp2
      exact bodyPost_ret (v := .tuple #[pairV p p, .bool false]) (by simp [results, Tryd.results38, go_sem, pairV, d0, d1]) rfl ⟨ret_is HR.out, (((below_drew' HW.out.2.1).setCell (by simp) _).setCell (by simp) _)⟩
set_option maxHeartbeats 4000000 in
theorem ret_left (was p C11 C12 : ByteArray) (fits : Bool) (m n k j b off cap : Nat) (wh : Bool) (v1 : Value) (w : World) (R : (ByteArray × ByteArray) × Bool) (hn : n ≤ 9223372036854775807) (hm1 : 1 ≤ m) (hmn : m < n) (hkn : k < n) (hmk : m ≤ k) (hj : j ≤ 1000) (hB : b < w.heap.size) (hcp : w.cell? ⟨b, off + j, none⟩ = some (.string p))
    (hs1 : ∀ w1, (Instr.slice 22 (.slice (some ⟨b, off, none⟩) (j + 1) cap) none (some (.int .i64 (j : Int))) none).run Tryd.prog w1 = .ok v1 w1)
    (EH : Hid (∀ w, Calls Tryd.prog 48 #[.int .i64 n] w fun e w' => e = .returned (.int .i64 k) ∧ w' = w))
    (EC : Hid (∀ W, Below w.heap.size w W → Calls Tryd.prog 38 #[.int .i64 m, .int .i64 k, .bool wh, v1, .string was] W fun e w' => e = .returned (.tuple #[.agg #[.string C11, .string C12], .bool fits]) ∧ Below W.heap.size W w'))
    (EW : Hid (∀ W, Below w.heap.size w W → Calls Tryd.prog 53 #[.agg #[.string C11, .string C12], .string p] W fun e w' => e = .returned (pairV C11 (nodeB C12 p)) ∧ Below W.heap.size W w'))
    (HR : Hid (RetAns R (.returned (.tuple #[pairV C11 (nodeB C12 p), .bool fits])))) :
    Calls Tryd.prog 38 #[.int .i64 m, .int .i64 n, .bool wh, .slice (some ⟨b, off, none⟩) (j + 1) cap, .string was] w fun e w' => RetAns R e ∧ Below w.heap.size w w' := by
  have hjI : ((j + 1 : Nat) : Int) = (j : Int) + 1 := by omega
  have hj0 : ((j : Int) + 1 == 0) = false := beq_eq_false_iff_ne.2 (by omega)
  have hj0I : ¬ (j : Int) + 1 = 0 := by omega
  have hmnB : ((m : Int) == (n : Int)) = false := beq_eq_false_iff_ne.2 (by omega)
  have hmnI : ¬ (m : Int) = (n : Int) := by omega
  have hmkI : (m : Int) ≤ (k : Int) := by omega
  obtain ⟨W, hW⟩ : ∃ W, W = w.alloc (.cells #[.string ⟨#[]⟩, .string ⟨#[]⟩] 51) := ⟨_, rfl⟩
  have HW : Hid (W.heap[w.heap.size]? = some (.cells #[.string ⟨#[]⟩, .string ⟨#[]⟩] 51 (0, 0)) ∧ Below w.heap.size w W ∧ w.heap.size < W.heap.size) := by
    subst hW
    exact ⟨heap_alloc_new w _, (Below.refl _ _).alloc (Nat.le_refl _) _, by simp⟩
  have HWE : Hid (W = w.alloc (.cells #[.string ⟨#[]⟩, .string ⟨#[]⟩] 51)) := hW
  have HCP : Hid (w.cell? ⟨b, off + j, none⟩ = some (.string p)) := hcp
  clear hW hcp
  go_enter Tryd.func38, Tryd.ntmps38
  go_wp2_with fail
  rw [← HWE.out]
  clear HWE
  refine (EH.out _).mono ?_
  rintro e w1 ⟨rfl, rfl⟩
  clear EH
  go_wp2_with fail
  refine (EC.out _ HW.out.2.1).mono ?_
  rintro e w2 ⟨rfl, hb2⟩
  have H2 : Hid (Below w.heap.size w w2 ∧ w2.heap[w.heap.size]? = some (.cells #[.string ⟨#[]⟩, .string ⟨#[]⟩] 51 (0, 0)) ∧ w.heap.size < w2.heap.size) := ⟨HW.out.2.1.trans (hb2.mono HW.out.2.1.size), (hb2.block _ HW.out.2.2).trans HW.out.1, Nat.lt_of_lt_of_le HW.out.2.2 hb2.size⟩
  clear hb2 EC HW
  obtain ⟨W3, hW3⟩ : ∃ W3, W3 = w2.alloc (.cells #[.string C11, .string C12] 51) := ⟨_, rfl⟩
  have H3 : Hid (W3.heap[w2.heap.size]? = some (.cells #[.string C11, .string C12] 51 (0, 0)) ∧ Below w2.heap.size w2 W3 ∧ w2.heap.size < W3.heap.size) := by
    subst hW3
    exact ⟨heap_alloc_new w2 _, (Below.refl _ _).alloc (Nat.le_refl _) _, by simp⟩
  have HW3 : Hid (W3 = w2.alloc (.cells #[.string C11, .string C12] 51)) := hW3
  clear hW3
  obtain ⟨⟨c0, c1⟩, _, _⟩ := two_cells (Below.refl W3.heap.size W3) H3.out.2.2 H3.out.1
  have H4 : Hid (Below w.heap.size w W3.drew ∧ W3.drew.heap[w.heap.size]? = some (.cells #[.string ⟨#[]⟩, .string ⟨#[]⟩] 51 (0, 0)) ∧ w.heap.size < W3.drew.heap.size) := ⟨below_drew' (H2.out.1.trans (H3.out.2.1.mono H2.out.1.size)), (H3.out.2.1.block _ H2.out.2.2).trans H2.out.2.1, Nat.lt_of_lt_of_le H2.out.2.2 H3.out.2.1.size⟩
  have hcW : W3.cell? ⟨b, off + j, none⟩ = some (.string p) := (H4.out.1.cell (p := ⟨b, off + j, none⟩) hB).trans HCP.out
  have hcW' : W3.drew.cell? ⟨b, off + j, none⟩ = some (.string p) := hcW
  have c0' : W3.drew.cell? ⟨w2.heap.size, 0, none⟩ = some (.string C11) := c0
  have c1' : W3.drew.cell? ⟨w2.heap.size, 1, none⟩ = some (.string C12) := c1
  clear H2 H3
  go_wp2_with fail
  rw [← HW3.out]
  clear HW3
  go_region_with (go_at_call 53; refine (EW.out _ ?_).mono ?_; exact H4.out.1; rintro e w5 ⟨rfl, hb5⟩; have H5 : Hid (Below w.heap.size w w5 ∧ w5.heap[w.heap.size]? = some (.cells #[.string ⟨#[]⟩, .string ⟨#[]⟩] 51 (0, 0)) ∧ w.heap.size < w5.heap.size) := ⟨H4.out.1.trans (hb5.mono H4.out.1.size), (hb5.block _ H4.out.2.2).trans H4.out.2.1, Nat.lt_of_lt_of_le H4.out.2.2 hb5.size⟩; obtain ⟨⟨z0, z1⟩, u0, u1⟩ := two_cells (Below.refl w5.heap.size w5) H5.out.2.2 H5.out.2.1; clear hb5; unfold pairV)
  all_goals
    go_wp2
    exact bodyPost_ret (v := .tuple #[pairV C11 (nodeB C12 p), .bool fits]) (by simp [results, Tryd.results38, go_sem, pairV, z0, z1]) rfl ⟨HR.out, ((H5.out.1.setCell (by simp) _).setCell (by simp) _)⟩

set_option maxHeartbeats 4000000 in
theorem ret_right (was p C11 C12 : ByteArray) (fits : Bool) (m n k j b off cap : Nat) (wh : Bool) (v1 : Value) (w : World) (R : (ByteArray × ByteArray) × Bool) (hn : n ≤ 9223372036854775807) (hm1 : 1 ≤ m) (hmn : m < n) (hkn : k < n) (hmk : ¬ m ≤ k) (hj : j ≤ 1000) (hB : b < w.heap.size) (hcp : w.cell? ⟨b, off + j, none⟩ = some (.string p))
    (hs1 : ∀ w1, (Instr.slice 22 (.slice (some ⟨b, off, none⟩) (j + 1) cap) none (some (.int .i64 (j : Int))) none).run Tryd.prog w1 = .ok v1 w1)
    (EH : Hid (∀ w, Calls Tryd.prog 48 #[.int .i64 n] w fun e w' => e = .returned (.int .i64 k) ∧ w' = w))
    (EC : Hid (∀ W, Below w.heap.size w W → Calls Tryd.prog 38 #[.int .i64 ((m : Int) - (k : Int)), .int .i64 ((n : Int) - (k : Int)), .bool false, v1, .string was] W fun e w' => e = .returned (.tuple #[.agg #[.string C11, .string C12], .bool fits]) ∧ Below W.heap.size W w'))
    (EW : Hid (∀ W, Below w.heap.size w W → Calls Tryd.prog 54 #[.agg #[.string C11, .string C12], .string p] W fun e w' => e = .returned (pairV (nodeB p C11) (nodeB p C12)) ∧ Below W.heap.size W w'))
    (HR : Hid (RetAns R (.returned (.tuple #[pairV (nodeB p C11) (nodeB p C12), .bool fits])))) :
    Calls Tryd.prog 38 #[.int .i64 m, .int .i64 n, .bool wh, .slice (some ⟨b, off, none⟩) (j + 1) cap, .string was] w fun e w' => RetAns R e ∧ Below w.heap.size w w' := by
  have hjI : ((j + 1 : Nat) : Int) = (j : Int) + 1 := by omega
  have hj0 : ((j : Int) + 1 == 0) = false := beq_eq_false_iff_ne.2 (by omega)
  have hj0I : ¬ (j : Int) + 1 = 0 := by omega
  have hmnB : ((m : Int) == (n : Int)) = false := beq_eq_false_iff_ne.2 (by omega)
  have hmnI : ¬ (m : Int) = (n : Int) := by omega
  have hmkI : ¬ (m : Int) ≤ (k : Int) := by omega
  obtain ⟨W, hW⟩ : ∃ W, W = w.alloc (.cells #[.string ⟨#[]⟩, .string ⟨#[]⟩] 51) := ⟨_, rfl⟩
  have HW : Hid (W.heap[w.heap.size]? = some (.cells #[.string ⟨#[]⟩, .string ⟨#[]⟩] 51 (0, 0)) ∧ Below w.heap.size w W ∧ w.heap.size < W.heap.size) := by
    subst hW
    exact ⟨heap_alloc_new w _, (Below.refl _ _).alloc (Nat.le_refl _) _, by simp⟩
  have HWE : Hid (W = w.alloc (.cells #[.string ⟨#[]⟩, .string ⟨#[]⟩] 51)) := hW
  have HCP : Hid (w.cell? ⟨b, off + j, none⟩ = some (.string p)) := hcp
  clear hW hcp
  go_enter Tryd.func38, Tryd.ntmps38
  go_wp2_with fail
  rw [← HWE.out]
  clear HWE
  refine (EH.out _).mono ?_
  rintro e w1 ⟨rfl, rfl⟩
  clear EH
  go_wp2_with fail
  refine (EC.out _ HW.out.2.1).mono ?_
  rintro e w2 ⟨rfl, hb2⟩
  have H2 : Hid (Below w.heap.size w w2 ∧ w2.heap[w.heap.size]? = some (.cells #[.string ⟨#[]⟩, .string ⟨#[]⟩] 51 (0, 0)) ∧ w.heap.size < w2.heap.size) := ⟨HW.out.2.1.trans (hb2.mono HW.out.2.1.size), (hb2.block _ HW.out.2.2).trans HW.out.1, Nat.lt_of_lt_of_le HW.out.2.2 hb2.size⟩
  clear hb2 EC HW
  obtain ⟨W3, hW3⟩ : ∃ W3, W3 = w2.alloc (.cells #[.string C11, .string C12] 51) := ⟨_, rfl⟩
  have H3 : Hid (W3.heap[w2.heap.size]? = some (.cells #[.string C11, .string C12] 51 (0, 0)) ∧ Below w2.heap.size w2 W3 ∧ w2.heap.size < W3.heap.size) := by
    subst hW3
    exact ⟨heap_alloc_new w2 _, (Below.refl _ _).alloc (Nat.le_refl _) _, by simp⟩
  have HW3 : Hid (W3 = w2.alloc (.cells #[.string C11, .string C12] 51)) := hW3
  clear hW3
  obtain ⟨⟨c0, c1⟩, _, _⟩ := two_cells (Below.refl W3.heap.size W3) H3.out.2.2 H3.out.1
  have H4 : Hid (Below w.heap.size w W3.drew ∧ W3.drew.heap[w.heap.size]? = some (.cells #[.string ⟨#[]⟩, .string ⟨#[]⟩] 51 (0, 0)) ∧ w.heap.size < W3.drew.heap.size) := ⟨below_drew' (H2.out.1.trans (H3.out.2.1.mono H2.out.1.size)), (H3.out.2.1.block _ H2.out.2.2).trans H2.out.2.1, Nat.lt_of_lt_of_le H2.out.2.2 H3.out.2.1.size⟩
  have hcW : W3.cell? ⟨b, off + j, none⟩ = some (.string p) := (H4.out.1.cell (p := ⟨b, off + j, none⟩) hB).trans HCP.out
  have hcW' : W3.drew.cell? ⟨b, off + j, none⟩ = some (.string p) := hcW
  have c0' : W3.drew.cell? ⟨w2.heap.size, 0, none⟩ = some (.string C11) := c0
  have c1' : W3.drew.cell? ⟨w2.heap.size, 1, none⟩ = some (.string C12) := c1
  clear H2 H3
  go_wp2_with fail
  rw [← HW3.out]
  clear HW3
  go_region_with (go_at_call 54; refine (EW.out _ ?_).mono ?_; exact H4.out.1; rintro e w5 ⟨rfl, hb5⟩; have H5 : Hid (Below w.heap.size w w5 ∧ w5.heap[w.heap.size]? = some (.cells #[.string ⟨#[]⟩, .string ⟨#[]⟩] 51 (0, 0)) ∧ w.heap.size < w5.heap.size) := ⟨H4.out.1.trans (hb5.mono H4.out.1.size), (hb5.block _ H4.out.2.2).trans H4.out.2.1, Nat.lt_of_lt_of_le H4.out.2.2 hb5.size⟩; obtain ⟨⟨z0, z1⟩, u0, u1⟩ := two_cells (Below.refl w5.heap.size w5) H5.out.2.2 H5.out.2.1; clear hb5; unfold pairV)
  all_goals
    go_wp2
    exact bodyPost_ret (v := .tuple #[pairV (nodeB p C11) (nodeB p C12), .bool fits]) (by simp [results, Tryd.results38, go_sem, pairV, z0, z1]) rfl ⟨HR.out, ((H5.out.1.setCell (by simp) _).setCell (by simp) _)⟩
end Go.Proofs.YtchlopmmhcobdafDoor
