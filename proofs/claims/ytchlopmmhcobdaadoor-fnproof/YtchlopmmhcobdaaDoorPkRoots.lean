/-
  What the first ones, and what all, come to: a tree set beside both.
-/
import Derived.Test.YtchlopmmhcobdaaDoorPkImplNode
import Derived.Deep.RegionWith
import Derived.Deep.RegionHeld3
namespace Go.Proofs.YtchlopmmhcobdaaDoor
open Go.RowKit Go.Lib
set_option linter.unusedVariables false

/-- Two texts, as a struct. -/
def pairV (a b : ByteArray) : Value := .agg #[.string a, .string b]
theorem two_cells {B g : Nat} {W w1 : World} {a b : Value} {t : TypeId} (hb : Below B W w1) (hB : g < B) (hW : W.heap[g]? = some (.cells #[a, b] t (0, 0))) :
    (w1.cell? ⟨g, 0, none⟩ = some a ∧ w1.cell? ⟨g, 1, none⟩ = some b) ∧ w1.frozen? ⟨g, 0, none⟩ = false ∧ w1.frozen? ⟨g, 1, none⟩ = false := by
  have h := (hb.block g hB).trans hW
  simp [World.cell?, World.frozen?, h]

theorem boxed_two (w : World) (o1 o2 : Obj) : ((w.alloc o1).alloc o2).heap[w.heap.size]? = some o1 ∧ ((w.alloc o1).alloc o2).heap[w.heap.size + 1]? = some o2 ∧ Below w.heap.size w ((w.alloc o1).alloc o2) ∧ w.heap.size + 1 < ((w.alloc o1).alloc o2).heap.size := by
  have h1 := heap_alloc_new w o1
  have h2 := heap_alloc_new (w.alloc o1) o2
  have hs : (w.alloc o1).heap.size = w.heap.size + 1 := by simp
  rw [hs] at h2
  exact ⟨(heap_alloc_old (w.alloc o1) o2 (by omega)).trans h1, h2, ((Below.refl _ _).alloc (Nat.le_refl _) _).alloc (by omega) _, by simp⟩

set_option maxHeartbeats 1000000 in
theorem withRight_any (a b o : ByteArray) (w : World) (hb : b.size ≤ 1000) (ho : o.size ≤ 1000) (hK : Keys w) :
    Calls Tryd.prog 133 #[.agg #[.string a, .string b], .string o] w fun e w' => e = .returned (pairV a (nodeB b o)) ∧ Below w.heap.size w w' := by
  have E2 : Hid (∀ w', Keys w' → Calls Tryd.prog 84 #[.slice (some ⟨w'.heap.size, 0, none⟩) 2 2] (w'.alloc (.cells #[.string b, .string o] 9)) fun e w'' => e = .returned (.string (nodeB b o)) ∧ Below w'.heap.size w' w'') := fun w' hK' => together_two b o w' hb ho hK'
  have HK : Hid (Keys w) := hK
  generalize nodeB b o = T at *
  clear hK
  go_enter Tryd.func133, Tryd.ntmps133
  obtain ⟨W, hW⟩ : ∃ W, W = (w.alloc (.cells #[.string a, .string b] 99)).alloc (.cells #[.string ⟨#[]⟩, .string ⟨#[]⟩] 99) := ⟨_, rfl⟩
  have HW : Hid (W.heap[w.heap.size]? = some (.cells #[.string a, .string b] 99 (0, 0)) ∧ W.heap[w.heap.size + 1]? = some (.cells #[.string ⟨#[]⟩, .string ⟨#[]⟩] 99 (0, 0)) ∧ Below w.heap.size w W ∧ w.heap.size + 1 < W.heap.size) := by
    subst hW
    exact boxed_two w _ _
  obtain ⟨⟨c0, c1⟩, f0, f1⟩ := two_cells (Below.refl W.heap.size W) (by have := HW.out.2.2.2; omega) HW.out.1
  obtain ⟨⟨d0, d1⟩, g0, g1⟩ := two_cells (Below.refl W.heap.size W) HW.out.2.2.2 HW.out.2.1
  have c0' : W.drew.cell? ⟨w.heap.size, 0, none⟩ = some (.string a) := c0
  have c1' : W.drew.cell? ⟨w.heap.size, 1, none⟩ = some (.string b) := c1
  have HKW : Hid (Keys W.drew) := HK.out.below (below_drew' HW.out.2.2.1) HK.out.lt
  have s1 : w.heap.size + 1 < W.heap.size := HW.out.2.2.2
  have s0 : w.heap.size < W.heap.size := by omega
  have s2 : ¬ w.heap.size = W.heap.size := by omega
  have s3 : ¬ W.heap.size = w.heap.size := by omega
  have k0 : (W.drew.alloc (.cells #[.string b, .string o] 9)).cell? ⟨w.heap.size, 0, none⟩ = some (.string a) := by
    have hb' : Below W.heap.size W (W.drew.alloc (.cells #[.string b, .string o] 9)) := (below_drew' (Below.refl _ _)).alloc (Nat.le_refl _) _
    exact (hb'.cell (p := ⟨w.heap.size, 0, none⟩) s0).trans c0
  have HWE : Hid (W = (w.alloc (.cells #[.string a, .string b] 99)).alloc (.cells #[.string ⟨#[]⟩, .string ⟨#[]⟩] 99)) := hW
  clear hW
  go_wp2_with fail
  rw [← HWE.out]
  clear HWE
  go_region_with (go_at_call 84; refine (E2.out _ HKW.out).mono ?_; rintro e w3 ⟨rfl, hb3⟩; obtain ⟨⟨x0, x1⟩, y0, y1⟩ := two_cells (below_drew hb3) (show w.heap.size < W.heap.size from Nat.lt_of_succ_lt HW.out.2.2.2) HW.out.1; obtain ⟨⟨z0, z1⟩, u0, u1⟩ := two_cells (below_drew hb3) HW.out.2.2.2 HW.out.2.1; have H3 : Hid (Below w.heap.size w w3) := HW.out.2.2.1.trans ((below_drew hb3).mono HW.out.2.2.1.size); clear hb3)
  all_goals
    go_wp2
    exact bodyPost_ret (v := pairV a T) (by simp [results, Tryd.results133, go_sem, pairV, z0, z1]) rfl ⟨rfl, ((H3.out.setCell (by simp) _).setCell (by simp) _)⟩
/-- A struct that was laid, and the one for the answer behind it, lie there. -/
def Box2 (w cur : World) (a b : Value) : Prop := cur.heap[w.heap.size]? = some (.cells #[a, b] 99 (0, 0)) ∧ cur.heap[w.heap.size + 1]? = some (.cells #[.string ⟨#[]⟩, .string ⟨#[]⟩] 99 (0, 0)) ∧ Below w.heap.size w cur ∧ w.heap.size + 1 < cur.heap.size
theorem Box2.step {w cur nxt : World} {a b : Value} (h : Box2 w cur a b) (hb : Below cur.heap.size cur nxt) : Box2 w nxt a b := by
  obtain ⟨h1, h2, h3, h4⟩ := h
  exact ⟨(hb.block _ (by omega)).trans h1, (hb.block _ h4).trans h2, h3.trans (hb.mono h3.size), Nat.lt_of_lt_of_le h4 hb.size⟩
theorem Box2.made (w : World) (a b : Value) : Box2 w ((w.alloc (.cells #[a, b] 99)).alloc (.cells #[.string ⟨#[]⟩, .string ⟨#[]⟩] 99)) a b := boxed_two w _ _
theorem Box2.cells {w cur : World} {a b : Value} (h : Box2 w cur a b) : (cur.cell? ⟨w.heap.size, 0, none⟩ = some a ∧ cur.cell? ⟨w.heap.size, 1, none⟩ = some b) ∧ (cur.cell? ⟨w.heap.size + 1, 0, none⟩ = some (.string ⟨#[]⟩) ∧ cur.cell? ⟨w.heap.size + 1, 1, none⟩ = some (.string ⟨#[]⟩)) ∧ cur.frozen? ⟨w.heap.size + 1, 0, none⟩ = false ∧ cur.frozen? ⟨w.heap.size + 1, 1, none⟩ = false ∧ w.heap.size < cur.heap.size := by
  obtain ⟨h1, h2, h3, h4⟩ := h
  obtain ⟨⟨c0, c1⟩, f0, f1⟩ := two_cells (Below.refl cur.heap.size cur) (by omega) h1
  obtain ⟨⟨d0, d1⟩, g0, g1⟩ := two_cells (Below.refl cur.heap.size cur) h4 h2
  exact ⟨⟨c0, c1⟩, ⟨d0, d1⟩, g0, g1, by omega⟩

theorem Box2.allocs {w cur : World} {a b : Value} (h : Box2 w cur a b) : (∀ o, (cur.alloc o).cell? ⟨w.heap.size, 0, none⟩ = some a) ∧ (∀ o, (cur.alloc o).cell? ⟨w.heap.size, 1, none⟩ = some b) ∧ (∀ o, (cur.alloc o).drew.cell? ⟨w.heap.size, 0, none⟩ = some a) ∧ (∀ o, (cur.alloc o).drew.cell? ⟨w.heap.size, 1, none⟩ = some b) := by
  suffices hh : (∀ o, (cur.alloc o).cell? ⟨w.heap.size, 0, none⟩ = some a) ∧ (∀ o, (cur.alloc o).cell? ⟨w.heap.size, 1, none⟩ = some b) from ⟨hh.1, hh.2, hh.1, hh.2⟩
  refine ⟨fun o => ?_, fun o => ?_⟩
  · exact (((Below.refl cur.heap.size cur).alloc (Nat.le_refl _) o).cell (p := ⟨w.heap.size, 0, none⟩) h.cells.2.2.2.2).trans h.cells.1.1
  · exact (((Below.refl cur.heap.size cur).alloc (Nat.le_refl _) o).cell (p := ⟨w.heap.size, 1, none⟩) h.cells.2.2.2.2).trans h.cells.1.2

set_option maxHeartbeats 4000000 in
theorem withLeft_any (a b o : ByteArray) (w : World) (ha : a.size ≤ 1000) (hb : b.size ≤ 1000) (ho : o.size ≤ 1000) (hK : Keys w) :
    Calls Tryd.prog 134 #[.agg #[.string a, .string b], .string o] w fun e w' => e = .returned (pairV (nodeB o a) (nodeB o b)) ∧ Below w.heap.size w w' := by
  have E2 : ∀ v r w', r.size ≤ 1000 → Texts w' w'.heap.size v [o, r] → Box2 w w' (.string a) (.string b) → Calls Tryd.prog 84 #[v] w' fun e w'' => e = .returned (.string (nodeB o r)) ∧ Below w'.heap.size w' w'' := fun v r w' hr hT hX => by
    refine (together_any v [o, r] w' hT (by simp) (fun j hj => ?_) (hK.below hX.2.2.1 hK.lt)).mono ?_
    · have : j = 0 ∨ j = 1 := by simp at hj; omega
      rcases this with rfl | rfl
      · exact ho
      · exact hr
    · rintro e w'' ⟨rfl, hb2⟩
      exact ⟨rfl, hb2⟩
  obtain ⟨W, hW⟩ : ∃ W, W = (w.alloc (.cells #[.string a, .string b] 99)).alloc (.cells #[.string ⟨#[]⟩, .string ⟨#[]⟩] 99) := ⟨_, rfl⟩
  have HX0 : Hid (Box2 w W (.string a) (.string b)) := by
    subst hW
    exact Box2.made w (.string a) (.string b)
  have bA : Below W.heap.size W (W.alloc (.cells #[.string o, .string a] 9)).drew := below_drew' ((Below.refl _ _).alloc (Nat.le_refl _) _)
  have bB : Below W.heap.size W ((W.alloc (.cells #[.string o, .string a] 9)).alloc (.cells #[.string o, .string b] 9)).drew := below_drew' (((Below.refl _ _).alloc (Nat.le_refl _) _).alloc (by simp) _)
  have E1 : Hid (Calls Tryd.prog 84 #[.slice (some ⟨W.heap.size, 0, none⟩) 2 2] (W.alloc (.cells #[.string o, .string a] 9)).drew fun e w'' => e = .returned (.string (nodeB o a)) ∧ Box2 w w'' (.string a) (.string b)) := by
    refine (E2 _ a _ ha (((two_texts W o a).up (by simp)).below (below_drew' (Below.refl _ _))) (HX0.out.step bA)).mono ?_
    rintro e w'' ⟨rfl, hb2⟩
    exact ⟨rfl, (HX0.out.step bA).step hb2⟩
  have ET : Texts ((W.alloc (.cells #[.string o, .string a] 9)).alloc (.cells #[.string o, .string b] 9)).drew ((W.alloc (.cells #[.string o, .string a] 9)).alloc (.cells #[.string o, .string b] 9)).drew.heap.size (.slice (some ⟨W.heap.size + 1, 0, none⟩) 2 2) [o, b] := by
    have h1 := two_texts (W.alloc (.cells #[.string o, .string a] 9)) o b
    have hs : (W.alloc (.cells #[.string o, .string a] 9)).heap.size = W.heap.size + 1 := by simp
    rw [hs] at h1
    exact (h1.up (by simp)).below (below_drew' (Below.refl _ _))
  have ES : Hid (Calls Tryd.prog 84 #[.slice (some ⟨W.heap.size, 0, none⟩) 2 2] ((W.alloc (.cells #[.string o, .string a] 9)).alloc (.cells #[.string o, .string b] 9)).drew fun e w'' => e = .returned (.string (nodeB o a)) ∧ Box2 w w'' (.string a) (.string b) ∧ Texts w'' w''.heap.size (.slice (some ⟨W.heap.size + 1, 0, none⟩) 2 2) [o, b]) := by
    have h1 : Texts ((W.alloc (.cells #[.string o, .string a] 9)).alloc (.cells #[.string o, .string b] 9)).drew ((W.alloc (.cells #[.string o, .string a] 9)).alloc (.cells #[.string o, .string b] 9)).drew.heap.size (.slice (some ⟨W.heap.size, 0, none⟩) 2 2) [o, a] := by
      refine ((two_texts W o a).below (B := W.heap.size + 1) ?_).up (by simp)
      exact below_drew' ((Below.refl _ _).alloc (by simp) _)
    refine (E2 _ a _ ha h1 (HX0.out.step bB)).mono ?_
    rintro e w'' ⟨rfl, hb2⟩
    exact ⟨rfl, (HX0.out.step bB).step hb2, (ET.below hb2).up hb2.size⟩
  have E3 : Hid (∀ w3, Box2 w w3 (.string a) (.string b) → Calls Tryd.prog 84 #[.slice (some ⟨w3.heap.size, 0, none⟩) 2 2] (w3.alloc (.cells #[.string o, .string b] 9)) fun e w'' => e = .returned (.string (nodeB o b)) ∧ Box2 w w'' (.string a) (.string b)) := by
    intro w3 hX
    have b3 : Below w3.heap.size w3 (w3.alloc (.cells #[.string o, .string b] 9)) := (Below.refl _ _).alloc (Nat.le_refl _) _
    refine (E2 _ b _ hb ((two_texts w3 o b).up (by simp)) (hX.step b3)).mono ?_
    rintro e w'' ⟨rfl, hb2⟩
    exact ⟨rfl, (hX.step b3).step hb2⟩
  have E4 : Hid (∀ w3, Box2 w w3 (.string a) (.string b) → Texts w3 w3.heap.size (.slice (some ⟨W.heap.size + 1, 0, none⟩) 2 2) [o, b] → Calls Tryd.prog 84 #[.slice (some ⟨W.heap.size + 1, 0, none⟩) 2 2] w3 fun e w'' => e = .returned (.string (nodeB o b)) ∧ Box2 w w'' (.string a) (.string b)) := by
    intro w3 hX hT
    refine (E2 _ b _ hb hT hX).mono ?_
    rintro e w'' ⟨rfl, hb2⟩
    exact ⟨rfl, hX.step hb2⟩
  have bV : Below W.heap.size W ((W.alloc (.cells #[.string o, .string b] 9)).alloc (.cells #[.string o, .string a] 9)).drew := below_drew' (((Below.refl _ _).alloc (Nat.le_refl _) _).alloc (by simp) _)
  have EV : Hid (Calls Tryd.prog 84 #[.slice (some ⟨W.heap.size + 1, 0, none⟩) 2 2] ((W.alloc (.cells #[.string o, .string b] 9)).alloc (.cells #[.string o, .string a] 9)).drew fun e w'' => e = .returned (.string (nodeB o a)) ∧ Box2 w w'' (.string a) (.string b) ∧ Texts w'' w''.heap.size (.slice (some ⟨W.heap.size, 0, none⟩) 2 2) [o, b]) := by
    have h1 : Texts ((W.alloc (.cells #[.string o, .string b] 9)).alloc (.cells #[.string o, .string a] 9)).drew ((W.alloc (.cells #[.string o, .string b] 9)).alloc (.cells #[.string o, .string a] 9)).drew.heap.size (.slice (some ⟨W.heap.size + 1, 0, none⟩) 2 2) [o, a] := by
      have h1 := two_texts (W.alloc (.cells #[.string o, .string b] 9)) o a
      have hs : (W.alloc (.cells #[.string o, .string b] 9)).heap.size = W.heap.size + 1 := by simp
      rw [hs] at h1
      exact (h1.up (by simp)).below (below_drew' (Below.refl _ _))
    have h2 : Texts ((W.alloc (.cells #[.string o, .string b] 9)).alloc (.cells #[.string o, .string a] 9)).drew ((W.alloc (.cells #[.string o, .string b] 9)).alloc (.cells #[.string o, .string a] 9)).drew.heap.size (.slice (some ⟨W.heap.size, 0, none⟩) 2 2) [o, b] := by
      refine ((two_texts W o b).below (B := W.heap.size + 1) ?_).up (by simp)
      exact below_drew' ((Below.refl _ _).alloc (by simp) _)
    refine (E2 _ a _ ha h1 (HX0.out.step bV)).mono ?_
    rintro e w'' ⟨rfl, hb2⟩
    exact ⟨rfl, (HX0.out.step bV).step hb2, (h2.below hb2).up hb2.size⟩
  have E5 : Hid (∀ w3, Box2 w w3 (.string a) (.string b) → Texts w3 w3.heap.size (.slice (some ⟨W.heap.size, 0, none⟩) 2 2) [o, b] → Calls Tryd.prog 84 #[.slice (some ⟨W.heap.size, 0, none⟩) 2 2] w3 fun e w'' => e = .returned (.string (nodeB o b)) ∧ Box2 w w'' (.string a) (.string b)) := by
    intro w3 hX hT
    refine (E2 _ b _ hb hT hX).mono ?_
    rintro e w'' ⟨rfl, hb2⟩
    exact ⟨rfl, hX.step hb2⟩
  obtain ⟨⟨c0, c1⟩, ⟨d0, d1⟩, g0, g1, s0⟩ := HX0.out.cells
  obtain ⟨m0, m1, m2, m3⟩ := HX0.out.allocs
  have HX : Hid (Box2 w W.drew (.string a) (.string b)) := HX0.out.step (below_drew' (Below.refl _ _))
  obtain ⟨⟨c0', c1'⟩, ⟨d0', d1'⟩, g0', g1', s0'⟩ := HX.out.cells
  have b2A : ∀ q : Obj, ((W.alloc (.cells #[.string o, .string a] 9)).alloc q).drew.cell? ⟨w.heap.size, 0, none⟩ = some (.string a) := fun q => (HX0.out.step ((Below.refl _ _).alloc (Nat.le_refl _) (.cells #[.string o, .string a] 9))).allocs.2.2.1 q
  have b2B : ∀ q : Obj, ((W.alloc (.cells #[.string o, .string a] 9)).alloc q).drew.cell? ⟨w.heap.size, 1, none⟩ = some (.string b) := fun q => (HX0.out.step ((Below.refl _ _).alloc (Nat.le_refl _) (.cells #[.string o, .string a] 9))).allocs.2.2.2 q
  have HWE : Hid (W = (w.alloc (.cells #[.string a, .string b] 99)).alloc (.cells #[.string ⟨#[]⟩, .string ⟨#[]⟩] 99)) := hW
  clear hW E2 ET bA bB bV hK ha hb ho
  go_enter Tryd.func134, Tryd.ntmps134
  go_wp2_with fail
  rw [← HWE.out]
  clear HWE
  go_region_held3 (fun w' => w'.cell? ⟨w.heap.size, 0, none⟩ = some (.string a) ∧ w'.cell? ⟨w.heap.size, 1, none⟩ = some (.string b)) (go_keep)
    (first
      | (go_at_call 84; (with_reducible refine E1.out.mono ?_); rintro e w3 ⟨rfl, hX⟩; have HX : Hid (Box2 w w3 (.string a) (.string b)) := hX; obtain ⟨⟨x0, x1⟩, ⟨z0, z1⟩, u0, u1, s3⟩ := HX.out.cells; obtain ⟨p0, p1, p2, p3⟩ := HX.out.allocs; clear hX)
      | (go_at_call 84; (with_reducible refine ES.out.mono ?_); rintro e w3 ⟨rfl, hX, hT⟩; have HX : Hid (Box2 w w3 (.string a) (.string b)) := hX; have HT : Hid (Texts w3 w3.heap.size (.slice (some ⟨W.heap.size + 1, 0, none⟩) 2 2) [o, b]) := hT; obtain ⟨⟨x0, x1⟩, ⟨z0, z1⟩, u0, u1, s3⟩ := HX.out.cells; obtain ⟨p0, p1, p2, p3⟩ := HX.out.allocs; clear hX hT)
      | (go_at_call 84; (with_reducible refine EV.out.mono ?_); rintro e w3 ⟨rfl, hX, hT⟩; have HX : Hid (Box2 w w3 (.string a) (.string b)) := hX; have HT5 : Hid (Texts w3 w3.heap.size (.slice (some ⟨W.heap.size, 0, none⟩) 2 2) [o, b]) := hT; obtain ⟨⟨x0, x1⟩, ⟨z0, z1⟩, u0, u1, s3⟩ := HX.out.cells; obtain ⟨p0, p1, p2, p3⟩ := HX.out.allocs; clear hX hT)
      | (go_at_call 84; (with_reducible refine (E3.out _ ?_).mono ?_); exact HX.out; rintro e w4 ⟨rfl, hX⟩; have HX : Hid (Box2 w w4 (.string a) (.string b)) := hX; obtain ⟨⟨x0, x1⟩, ⟨z0, z1⟩, u0, u1, s3⟩ := HX.out.cells; obtain ⟨p0, p1, p2, p3⟩ := HX.out.allocs; clear hX)
      | (go_at_call 84; (with_reducible refine (E4.out _ ?_ ?_).mono ?_); exact HX.out; exact HT.out; rintro e w4 ⟨rfl, hX⟩; have HX : Hid (Box2 w w4 (.string a) (.string b)) := hX; obtain ⟨⟨x0, x1⟩, ⟨z0, z1⟩, u0, u1, s3⟩ := HX.out.cells; obtain ⟨p0, p1, p2, p3⟩ := HX.out.allocs; clear hX)
      | (go_at_call 84; (with_reducible refine (E5.out _ ?_ ?_).mono ?_); exact HX.out; exact HT5.out; rintro e w4 ⟨rfl, hX⟩; have HX : Hid (Box2 w w4 (.string a) (.string b)) := hX; obtain ⟨⟨x0, x1⟩, ⟨z0, z1⟩, u0, u1, s3⟩ := HX.out.cells; obtain ⟨p0, p1, p2, p3⟩ := HX.out.allocs; clear hX))
  all_goals
    go_wp2
    exact bodyPost_ret (v := pairV (nodeB o a) (nodeB o b)) (by simp [results, Tryd.results134, go_sem, pairV, z0, z1]) rfl ⟨rfl, ((HX.out.2.2.1.setCell (by simp) _).setCell (by simp) _)⟩
end Go.Proofs.YtchlopmmhcobdaaDoor
