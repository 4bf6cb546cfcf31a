/-
  The sizes of the heads that wait, rising.
-/
import Derived.Test.YtpglcbidfghfkabGreatDoorPkSorts
import Derived.Test.YtpglcbidfghfkabGreatDoorPkWatchOf
import Derived.Test.YtpglcbidfghfkabGreatDoorPkImplWhy
import Derived.Maps.Own
namespace Go.Proofs.YtpglcbidfghfkabGreatDoor
open Go.RowKit Go.Maps Go.Sort Go.Shelf
set_option linter.unusedVariables false
set_option linter.unusedSimpArgs false

set_option maxHeartbeats 2000000 in
set_option maxRecDepth 10000 in
theorem sizes_any {H : Type} (g m n : Nat) (D0 : DataW H) (R : Value → Option (DataW H × List MemPlace)) (w : World) (hc : w.cell? ⟨g, 10, none⟩ = some (.map (some m))) (hown : w.ownsMap Tryz.prog 2 R m n D0) (hmax : Maps.size D0 ≤ 1000000) :
    Calls Tryz.prog 90 #[.pointer (some ⟨g, 0, none⟩)] w fun e w' => ∃ (v : Value) (ss : List Int), e = .returned v ∧ ss.Perm (intKeys D0) ∧ w'.ownsRow w.heap.size 2 1 v ss.length ((ss.mergeSort (fun x y => decide (x ≤ y))).map encZ) ∧ (v = .slice none 0 0 ↔ ss = []) ∧ Below w.heap.size w w' := by
  refine (callsIn_wide (n := 6)).1 ?_
  have hbl := hown.lt
  have hseq : SeqGives Fence.wide 2 Tryz.prog 135 #[.pointer (some ⟨w.heap.size, 0, none⟩)] encZ (fun ss => ss.Perm (intKeys D0)) (Maps.size D0) (w.alloc (.cells #[.map (some m)] 91)) :=
    AnyZI.keys_gives (ρ := keysA_ren) { keysA with } Fence.wide _ trivial rfl (by omega) w.heap.size m n D0 _ (by simp) (by simp) (by
      obtain ⟨es, clock, hb, Ft, hs, hD⟩ := hown
      exact ⟨es, clock, (Below.heap_alloc _ _ m hbl).trans hb, Ft, hs, hD⟩)
  have cK : ∀ mb W, CallsIn Fence.wide 5 Tryz.prog 112 #[.map mb] W fun e w' => e = .returned (.func (.func 135) #[] #[.pointer (some ⟨W.heap.size, 0, none⟩)]) ∧ w' = W.alloc (.cells #[.map mb] 91) := fun mb W => AnyZI.keys_in keysA Fence.wide 5 trivial rfl mb W
  have cS := AnyZI.sorted_in sortedA Fence.wide 5 trivial trivial trivial trivial rfl (by omega) (sortsA _) (enters_of Tryz.func134 (by kernel_rfl) rfl) 135 #[.pointer (some ⟨w.heap.size, 0, none⟩)] trivial (enters_of Tryz.func135 (by kernel_rfl) rfl) _ _ (by unfold maxLen; omega) (by omega) _ hseq
  change CallsIn _ _ Tryz.prog 111 _ _ _ at cS
  have hfK : Fence.wide.fn 112 := trivial
  have hfS : Fence.wide.fn 111 := trivial
  refine callsIn_of_wp Tryz.func90 rfl trivial ?_ rfl
  simp only [Tryz.ntmps90, List.size_toArray, List.length_cons, List.length_nil, Nat.reduceAdd, Nat.reduceSub, Array.replicate_succ, Array.replicate_zero, List.push_toArray, List.append_toArray, List.nil_append, List.cons_append]
  gi_wp2_with (first
    | (gi_at_call 112; refine (cK _ _).mono ?_; rintro e w' ⟨rfl, rfl⟩)
    | (gi_at_call 111; refine cS.mono ?_; rintro e w' ⟨v, ss, rfl, hS, hrow, hnil, hb⟩))
  go_ret
  exact ⟨v, ss, rfl, hS, ownsRow_base_a hrow (by simp), hnil, ((Below.refl _ w).alloc (Nat.le_refl _) _).trans (hb.mono (by simp))⟩
end Go.Proofs.YtpglcbidfghfkabGreatDoor

/-
  The size that a watcher wants next: the least that waits.
-/
namespace Go.Proofs.YtpglcbidfghfkabGreatDoor
open Go.RowKit Go.Lib Go.Maps Go.Sort
set_option linter.unusedVariables false
set_option linter.unusedSimpArgs false

set_option maxHeartbeats 1000000 in
set_option maxRecDepth 10000 in
theorem slMin_any (z : Int) (r : List Int) (v : Value) (B : Nat) (w : World) (h : w.ownsRow B 2 1 v (z :: r).length ((z :: r).map encZ)) (hz : ∀ y ∈ r, z ≤ y) (hlen : r.length ≤ 1000000) :
    Calls Tryz.prog 89 #[v] w fun e w' => e = .returned (.int .i64 z) ∧ w' = w := by
  rcases id h with ⟨h1, ⟨rfl, h2⟩ | ⟨g, cap, cur, rfl, hB, hg, hnc, _, hcs, ht⟩⟩
  · exact absurd h2 (by simp)
  have HC : Hid (∀ j (hj : j < (z :: r).length), w.cell? ⟨g, j, none⟩ = some (.int .i64 ((z :: r)[j]))) := fun j hj => by
    rw [World.ownsRow.cellAt h j (by omega), List.getElem?_map, List.getElem?_eq_getElem hj]
    rfl
  have HZ : Hid (∀ j (hj : j < (z :: r).length), z ≤ (z :: r)[j]) := fun j hj => by
    cases j with
    | zero => exact Int.le_refl _
    | succ j => exact hz _ (List.getElem_mem _)
  have c0 : w.cell? ⟨g, 0, none⟩ = some (.int .i64 z) := HC.out 0 (by simp)
  obtain ⟨n, hn⟩ : ∃ n, n = (z :: r).length := ⟨_, rfl⟩
  have HN : Hid (n = (z :: r).length) := hn
  have hn1 : 1 ≤ n := by rw [hn]; simp
  have hn2 : n ≤ 1000001 := by rw [hn]; simp; omega
  rw [← hn] at hnc ⊢
  have hnI : ¬ (n : Int) < 1 := by omega
  have hnI0 : (0 : Int) < (n : Int) := by omega
  clear h h1 ht hz hlen hn hg hcs
  go_enter Tryz.func89, Tryz.ntmps89
  go_wp2
  go_loop [3, 4] (fun mv iv => ∃ k : Nat, 1 ≤ k ∧ k ≤ n ∧ iv = .int .i64 k ∧ mv = .int .i64 z) (fun _ iv => n - (RowKit.intOf iv).toNat)
  case atStart => exact ⟨1, Nat.le_refl _, hn1, rfl, rfl⟩
  case round =>
    obtain ⟨k, hk1, hk, rfl, rfl⟩ := hrel
    by_cases hkn : k < n
    · have hkl : k < (z :: r).length := by rw [← HN.out]; exact hkn
      have hc := HC.out k hkl
      have hzy := HZ.out k hkl
      have hknI : (k : Int) < (n : Int) := by omega
      have hk0 : (0 : Int) ≤ (k : Int) := by omega
      clear HC HZ HN
      generalize (z :: r)[k] = y at *
      have hmin : min z y = z := Int.min_eq_left hzy
      have hnlt : ¬ y < z := by omega
      go_wp2
      go_round
      case rel => exact ⟨k + 1, by omega, by omega, by go_num, rfl⟩
      case measure => simp [RowKit.intOf]; omega
    · clear HC HZ HN
      go_wp2
      go_ret
      exact ⟨rfl, rfl⟩

/-- What a watcher wants. -/
def wantZ : List Hv → Int
  | [] => 0
  | q :: _ => q.x.size
set_option maxHeartbeats 1000000 in
set_option maxRecDepth 10000 in
theorem wants_any (g m : Nat) (t : Wt) (l : List Hv) (v0 v1 v2 v3 v4 v5 v6 v7 : Value) (last : Int) (w : World) (hat : WAt w g m t l v0 v1 v2 v3 v4 v5 v6 v7) (hr : Rising last l) (hlen : l.length ≤ 1000) :
    Calls Tryz.prog 61 #[.pointer (some ⟨g, 0, none⟩)] w fun e w' => e = .returned (.int .i64 (wantZ l)) ∧ Below w.heap.size w w' := by
  have hc : w.cell? ⟨g, 10, none⟩ = some (.map (some m)) := row_here hat.1 10 _ rfl
  have hsz := poolD_size hr
  have hl := fun ty => hat.2.1.len Tryz.underlying91 ty
  rw [hsz] at hl
  have E0 : Hid (Calls Tryz.prog 90 #[.pointer (some ⟨g, 0, none⟩)] w fun e w' => ∃ (v : Value) (ss : List Int), e = .returned v ∧ ss.Perm (intKeys (poolD l)) ∧ w'.ownsRow w.heap.size 2 1 v ss.length ((ss.mergeSort (fun x y => decide (x ≤ y))).map encZ) ∧ (v = .slice none 0 0 ↔ ss = []) ∧ Below w.heap.size w w') := sizes_any g m l.length (poolD l) heldR w hc hat.2.1 (by rw [hsz]; omega)
  have HS : Hid (∀ ss : List Int, ss.Perm (intKeys (poolD l)) → ss.mergeSort (fun x y => decide (x ≤ y)) = l.map fun q => q.x.size) := fun ss hp => sizes_sorted hr hp
  have HK : Hid (∀ ss : List Int, ss.Perm (intKeys (poolD l)) → ss.length = l.length) := fun ss hp => by
    have := hp.length_eq
    rw [poolD_keys hr] at this
    simpa using this
  have HR : Hid (Rising last l) := hr
  clear hat hsz hr
  cases l with
  | nil =>
    have hl0 := hl 3
    simp only [List.length_nil] at hl0
    clear E0 HS HK hl
    go_enter Tryz.func61, Tryz.ntmps61
    go_wp2
    go_ret
    exact ⟨rfl, Below.refl _ _⟩
  | cons q r =>
    have hl0 := hl 3
    have hne : ¬ ((q :: r).length : Int) = 0 := by simp; omega
    have hne2 : (((q :: r).length : Int) == 0) = false := by simp; omega
    have hlen2 : r.length ≤ 1000000 := by simp at hlen; omega
    have HQ : Hid (∀ y ∈ (r.map fun q => q.x.size), q.x.size ≤ y) := fun y hy => by
      obtain ⟨q', hq', rfl⟩ := List.mem_map.1 hy
      exact Int.le_of_lt (HR.out.2.all q' hq')
    clear hl
    generalize hnn : (q :: r).length = n at *
    go_enter Tryz.func61, Tryz.ntmps61
    go_wp2_with fail
    refine E0.out.mono ?_
    rintro e w1 ⟨v, ss, rfl, hp, hrow, _, hb⟩
    rw [HS.out ss hp, HK.out ss hp, ← hnn] at hrow
    have E1 : Hid (Calls Tryz.prog 89 #[v] w1 fun e w' => e = .returned (.int .i64 q.x.size) ∧ w' = w1) := slMin_any q.x.size (r.map fun q => q.x.size) v _ w1 (by simpa using hrow) HQ.out (by simpa using hlen2)
    have HB : Hid (Below w.heap.size w w1) := hb
    clear hp hrow hb E0 HS HK hl0
    go_wp2_with fail
    refine E1.out.mono ?_
    rintro e w2 ⟨rfl, rfl⟩
    clear E1
    go_wp2
    go_ret
    exact ⟨rfl, HB.out⟩
end Go.Proofs.YtpglcbidfghfkabGreatDoor

/-
  What a watch wants: the program's.
-/
namespace Go.Proofs.YtpglcbidfghfkabGreatDoor
open Go.RowKit Go.Lib
set_option linter.unusedVariables false
set_option linter.unusedSimpArgs false

theorem Wt.rightB_pool {t : Wt} {l : List Hv} (h : t.rightB l = true) : l.length ≤ 5 ∧ Rising t.en.length l := by
  unfold Wt.rightB at h
  simp only [Bool.and_eq_true, decide_eq_true_eq] at h
  exact ⟨h.2.2.1.1, poolB_rising h.2.2.1.2⟩

set_option maxHeartbeats 4000000 in
set_option maxRecDepth 10000 in
theorem implWants_any (t : Wt) (l : List Hv) (v0 v1 v2 vp v3 v4 v5 v6 v7 : Value) (w : World) (hi : t.In v0 v1 v2 v3 v4 v5 v6 v7 w w.heap.size) (hh : Heads w w.heap.size vp l) (hf : t.Lens) (hl : HdsLim l) (hn : t.Nums) (hnl : HdsNum l) (hK : Keys w) (hS : Sentinel w) :
    Calls Tryz.prog 28 #[.agg #[.string t.log, .string t.key, v0, .string t.h.log, .int .i64 t.h.size, .string t.h.root, .int .i64 t.h.time, .int .i64 t.h.k, v1, v2, vp, .bool t.found, .string t.a.log, .int .i64 t.a.size, .string t.a.root, .int .i64 t.a.time, .int .i64 t.a.k, v3, v4, .string t.b.log, .int .i64 t.b.size, .string t.b.root, .int .i64 t.b.time, .int .i64 t.b.k, v5, v6, v7]] w fun e w' => e = .returned (.int .i64 (if t.rightB l then wantZ l else 0)) ∧ Below w.heap.size w w' := by
  obtain ⟨a0, c0, rfl, z0⟩ := id hi.1
  obtain ⟨a1, c1, a2, c2, rfl, rfl⟩ := hi.2.1.parts
  obtain ⟨⟨ap, cp, rfl, hcap, hc⟩, hin⟩ := id hh
  obtain ⟨a3, c3, a4, c4, rfl, rfl⟩ := hi.2.2.1.parts
  obtain ⟨a5, c5, a6, c6, rfl, rfl⟩ := hi.2.2.2.1.parts
  obtain ⟨a7, c7, rfl, z7⟩ := id hi.2.2.2.2
  clear z0 z7
  obtain ⟨W, hW⟩ : ∃ W, W = w.alloc (.cells #[.string t.log, .string t.key, .slice a0 t.en.length c0, .string t.h.log, .int .i64 t.h.size, .string t.h.root, .int .i64 t.h.time, .int .i64 t.h.k, .slice a1 t.h.el.length c1, .slice a2 t.h.pl.length c2, .slice ap l.length cp, .bool t.found, .string t.a.log, .int .i64 t.a.size, .string t.a.root, .int .i64 t.a.time, .int .i64 t.a.k, .slice a3 t.a.el.length c3, .slice a4 t.a.pl.length c4, .string t.b.log, .int .i64 t.b.size, .string t.b.root, .int .i64 t.b.time, .int .i64 t.b.k, .slice a5 t.b.el.length c5, .slice a6 t.b.pl.length c6, .slice a7 t.fl.length c7] 41) := ⟨_, rfl⟩
  have hbW : Below w.heap.size w W := by rw [hW]; exact (Below.refl _ _).alloc (Nat.le_refl _) _
  have k0 : W.heap[w.heap.size]? = some (.cells #[.string t.log, .string t.key, .slice a0 t.en.length c0, .string t.h.log, .int .i64 t.h.size, .string t.h.root, .int .i64 t.h.time, .int .i64 t.h.k, .slice a1 t.h.el.length c1, .slice a2 t.h.pl.length c2, .slice ap l.length cp, .bool t.found, .string t.a.log, .int .i64 t.a.size, .string t.a.root, .int .i64 t.a.time, .int .i64 t.a.k, .slice a3 t.a.el.length c3, .slice a4 t.a.pl.length c4, .string t.b.log, .int .i64 t.b.size, .string t.b.root, .int .i64 t.b.time, .int .i64 t.b.k, .slice a5 t.b.el.length c5, .slice a6 t.b.pl.length c6, .slice a7 t.fl.length c7] 41 (0, 0)) := by rw [hW]; exact heap_alloc_new w _
  have hlt0 := (Array.getElem?_eq_some_iff.1 k0).1
  have hKW : Keys W := hK.below hbW hK.lt
  have hSW : Sentinel W := hS.on hbW
  have E1 : Hid (Calls Tryz.prog 45 #[.agg #[.string t.log, .string t.key, .slice a0 t.en.length c0, .string t.h.log, .int .i64 t.h.size, .string t.h.root, .int .i64 t.h.time, .int .i64 t.h.k, .slice a1 t.h.el.length c1, .slice a2 t.h.pl.length c2, .slice ap l.length cp, .bool t.found, .string t.a.log, .int .i64 t.a.size, .string t.a.root, .int .i64 t.a.time, .int .i64 t.a.k, .slice a3 t.a.el.length c3, .slice a4 t.a.pl.length c4, .string t.b.log, .int .i64 t.b.size, .string t.b.root, .int .i64 t.b.time, .int .i64 t.b.k, .slice a5 t.b.el.length c5, .slice a6 t.b.pl.length c6, .slice a7 t.fl.length c7]] W fun e w' => e = .returned (.bool (t.rightB l)) ∧ Below W.heap.size W w') := implWatchRight_any t l _ _ _ _ _ _ _ _ _ W (hi.on hbW) (hh.on hbW) hf hl hn hnl hKW hSW
  have E2 : Hid (l.length ≤ 5 → ∀ X, Below W.heap.size W X → Calls Tryz.prog 46 #[.agg #[.string t.log, .string t.key, .slice a0 t.en.length c0, .string t.h.log, .int .i64 t.h.size, .string t.h.root, .int .i64 t.h.time, .int .i64 t.h.k, .slice a1 t.h.el.length c1, .slice a2 t.h.pl.length c2, .slice ap l.length cp, .bool t.found, .string t.a.log, .int .i64 t.a.size, .string t.a.root, .int .i64 t.a.time, .int .i64 t.a.k, .slice a3 t.a.el.length c3, .slice a4 t.a.pl.length c4, .string t.b.log, .int .i64 t.b.size, .string t.b.root, .int .i64 t.b.time, .int .i64 t.b.k, .slice a5 t.b.el.length c5, .slice a6 t.b.pl.length c6, .slice a7 t.fl.length c7]] X fun e w' => ∃ m g, e = .returned (.pointer (some ⟨g, 0, none⟩)) ∧ WAt w' g m t l (.slice a0 t.en.length c0) (.slice a1 t.h.el.length c1) (.slice a2 t.h.pl.length c2) (.slice a3 t.a.el.length c3) (.slice a4 t.a.pl.length c4) (.slice a5 t.b.el.length c5) (.slice a6 t.b.pl.length c6) (.slice a7 t.fl.length c7) ∧ Below W.heap.size W w') := fun h5 X q => (watcherOf_any t l _ _ _ _ _ _ _ _ _ X ((hi.on hbW).on q) ((hh.on hbW).on q) (fun j hj => (hnl j hj).1) (by omega)).mono fun e w' h => by
    obtain ⟨m, g, he, ha, _, hb⟩ := h
    exact ⟨m, g, he, ha, q.trans (hb.mono q.size)⟩
  have E3 : Hid (∀ g m X, l.length ≤ 5 → Rising t.en.length l → WAt X g m t l (.slice a0 t.en.length c0) (.slice a1 t.h.el.length c1) (.slice a2 t.h.pl.length c2) (.slice a3 t.a.el.length c3) (.slice a4 t.a.pl.length c4) (.slice a5 t.b.el.length c5) (.slice a6 t.b.pl.length c6) (.slice a7 t.fl.length c7) → Calls Tryz.prog 61 #[.pointer (some ⟨g, 0, none⟩)] X fun e w' => e = .returned (.int .i64 (wantZ l)) ∧ Below X.heap.size X w') := fun g m X h5 hr ha => wants_any g m t l _ _ _ _ _ _ _ _ _ X ha hr (by omega)
  have HR : Hid (t.rightB l = true → l.length ≤ 5 ∧ Rising t.en.length l) := fun h => Wt.rightB_pool h
  have HC : Hid (∀ X, Below W.heap.size W X → X.heap[w.heap.size]? = some (.cells #[.string t.log, .string t.key, .slice a0 t.en.length c0, .string t.h.log, .int .i64 t.h.size, .string t.h.root, .int .i64 t.h.time, .int .i64 t.h.k, .slice a1 t.h.el.length c1, .slice a2 t.h.pl.length c2, .slice ap l.length cp, .bool t.found, .string t.a.log, .int .i64 t.a.size, .string t.a.root, .int .i64 t.a.time, .int .i64 t.a.k, .slice a3 t.a.el.length c3, .slice a4 t.a.pl.length c4, .string t.b.log, .int .i64 t.b.size, .string t.b.root, .int .i64 t.b.time, .int .i64 t.b.k, .slice a5 t.b.el.length c5, .slice a6 t.b.pl.length c6, .slice a7 t.fl.length c7] 41 (0, 0))) := fun X q => (q.block _ hlt0).trans k0
  have H0 : Hid (Below w.heap.size w W) := hbW
  have HW : Hid (W = w.alloc (.cells #[.string t.log, .string t.key, .slice a0 t.en.length c0, .string t.h.log, .int .i64 t.h.size, .string t.h.root, .int .i64 t.h.time, .int .i64 t.h.k, .slice a1 t.h.el.length c1, .slice a2 t.h.pl.length c2, .slice ap l.length cp, .bool t.found, .string t.a.log, .int .i64 t.a.size, .string t.a.root, .int .i64 t.a.time, .int .i64 t.a.k, .slice a3 t.a.el.length c3, .slice a4 t.a.pl.length c4, .string t.b.log, .int .i64 t.b.size, .string t.b.root, .int .i64 t.b.time, .int .i64 t.b.k, .slice a5 t.b.el.length c5, .slice a6 t.b.pl.length c6, .slice a7 t.fl.length c7] 41)) := hW
  obtain ⟨b, hb⟩ : ∃ b, b = w.heap.size := ⟨_, rfl⟩
  have HB : Hid (b = w.heap.size) := hb
  have r0 := HC.out W (Below.refl _ _)
  rw [← hb] at HC r0
  clear hi hh hf hl hn hnl hK hS hKW hSW hc hcap hin hW hbW k0 hlt0 hb
  obtain ⟨P, hP⟩ : ∃ P, P = t.rightB l := ⟨_, rfl⟩
  rw [← hP] at E1 HR ⊢
  clear hP
  go_enter Tryz.func28, Tryz.ntmps28
  go_wp2_with (first | (rw [← HW.out, ← HB.out]; refine load_row_g (by kernel_rfl) 41 (.tmp 1) rfl b rfl _ _ _ _ r0 Tryz.underlying41 rfl (by kernel_rfl) ?_))
  clear HW HB r0
  refine E1.out.mono ?_
  rintro e w1 ⟨rfl, hb⟩
  have B1 : Hid (Below W.heap.size W w1) := hb
  clear hb E1
  cases P with
  | false =>
    clear E2 E3 HR HC
    go_wp2
    go_ret
    exact ⟨rfl, H0.out.trans (B1.out.mono H0.out.size)⟩
  | true =>
    obtain ⟨h5, hr⟩ := HR.out rfl
    have E2' : Hid _ := E2.out h5
    have E3' : Hid (∀ g m X, WAt X g m t l (.slice a0 t.en.length c0) (.slice a1 t.h.el.length c1) (.slice a2 t.h.pl.length c2) (.slice a3 t.a.el.length c3) (.slice a4 t.a.pl.length c4) (.slice a5 t.b.el.length c5) (.slice a6 t.b.pl.length c6) (.slice a7 t.fl.length c7) → Calls Tryz.prog 61 #[.pointer (some ⟨g, 0, none⟩)] X fun e w' => e = .returned (.int .i64 (wantZ l)) ∧ Below X.heap.size X w') := fun g m X ha => E3.out g m X h5 hr ha
    have r0 := HC.out _ B1.out
    clear E2 E3 HR HC h5 hr
    go_wp2_with (first | (refine load_row_g (by kernel_rfl) 41 (.tmp 1) rfl b rfl _ _ _ _ r0 Tryz.underlying41 rfl (by kernel_rfl) ?_))
    clear r0
    refine (E2'.out _ B1.out).mono ?_
    rintro e w2 ⟨m, g, rfl, ha, hb⟩
    have B2 : Hid (Below W.heap.size W w2) := hb
    have E4 : Hid (Calls Tryz.prog 61 #[.pointer (some ⟨g, 0, none⟩)] w2 fun e w' => e = .returned (.int .i64 (wantZ l)) ∧ Below w2.heap.size w2 w') := E3'.out g m w2 ha
    clear hb ha E2' E3'
    go_wp2_with fail
    refine E4.out.mono ?_
    rintro e w3 ⟨rfl, hb⟩
    have B3 : Hid (Below w2.heap.size w2 w3) := hb
    clear hb E4
    go_wp2
    go_ret
    exact ⟨rfl, H0.out.trans ((B2.out.trans (B3.out.mono B2.out.size)).mono H0.out.size)⟩
end Go.Proofs.YtpglcbidfghfkabGreatDoor
