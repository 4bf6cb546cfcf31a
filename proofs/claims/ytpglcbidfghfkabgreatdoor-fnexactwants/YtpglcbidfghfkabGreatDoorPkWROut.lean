/-
  What toWatch answers, outright; what hangs on the heads' own fields alone.
-/
import Derived.Test.YtpglcbidfghfkabGreatDoorPkRightV
import Derived.Test.YtpglcbidfghfkabGreatDoorPkHeadsSz
import Derived.Test.YtpglcbidfghfkabGreatDoorPkSizes
import Derived.Test.YtpglcbidfghfkabGreatDoorPkSpecWRV
import Derived.Test.YtpglcbidfghfkabGreatDoorPkCopyHead
namespace Go.Proofs.YtpglcbidfghfkabGreatDoor
open Go.RowKit Go.Lib
set_option linter.unusedVariables false
set_option linter.unusedSimpArgs false

theorem poolB_map {lg ky : ByteArray} : ∀ {l l' : List Hv} {last : Int}, l'.map Hv.x = l.map Hv.x → poolB lg ky last l' = poolB lg ky last l
  | [], [], _, _ => rfl
  | [], q :: r, _, h => by simp at h
  | q :: r, [], _, h => by simp at h
  | q :: r, q' :: r', last, h => by
    simp only [List.map_cons, List.cons.injEq] at h
    unfold poolB
    rw [h.1, poolB_map h.2]
theorem Wt.rightB_map {t : Wt} {l l' : List Hv} (h : l'.map Hv.x = l.map Hv.x) : t.rightB l' = t.rightB l := by
  have hl : l'.length = l.length := by have := congrArg List.length h; simpa using this
  unfold Wt.rightB
  rw [poolB_map h, hl]
theorem map_at {l l' : List Hv} (h : l'.map Hv.x = l.map Hv.x) {j : Nat} (hj : j < l'.length) : ∃ hj' : j < l.length, l'[j].x = l[j].x := by
  have hl : l'.length = l.length := by have := congrArg List.length h; simpa using this
  have h1 : (l'.map Hv.x)[j]? = (l.map Hv.x)[j]? := by rw [h]
  have hj' : j < l.length := by omega
  exact ⟨hj', by simpa [hj, hj'] using h1⟩
theorem HdsLim.map {l l' : List Hv} (hl : HdsLim l) (h : l'.map Hv.x = l.map Hv.x) : HdsLim l' := by
  have hn : l'.length = l.length := by have := congrArg List.length h; simpa using this
  refine ⟨by rw [hn]; exact hl.1, fun j hj => ?_⟩
  obtain ⟨hj', e⟩ := map_at h hj
  rw [e]
  exact hl.2 j hj'
theorem HdsNum.map {l l' : List Hv} (hl : HdsNum l) (h : l'.map Hv.x = l.map Hv.x) : HdsNum l' := fun j hj => by
  obtain ⟨hj', e⟩ := map_at h hj
  rw [e]
  exact hl j hj'
/-- What toWatch answers. -/
def ToW (t : Wt) (l : List Hv) (X : World) (e : Ending) (w' : World) : Prop :=
  ∃ (b0 : Option Addr) (d0 : Nat) (b1 : Option Addr) (d1 : Nat) (b2 : Option Addr) (d2 : Nat) (bp : Option Addr) (np dp : Nat) (b3 : Option Addr) (d3 : Nat) (b4 : Option Addr) (d4 : Nat) (b5 : Option Addr) (d5 : Nat) (b6 : Option Addr) (d6 : Nat) (b7 : Option Addr) (d7 : Nat) (l' : List Hv), e = .returned (.agg #[.string t.log, .string t.key, .slice b0 t.en.length d0, .string t.h.log, .int .i64 t.h.size, .string t.h.root, .int .i64 t.h.time, .int .i64 t.h.k, .slice b1 t.h.el.length d1, .slice b2 t.h.pl.length d2, .slice bp np dp, .bool t.found, .string t.a.log, .int .i64 t.a.size, .string t.a.root, .int .i64 t.a.time, .int .i64 t.a.k, .slice b3 t.a.el.length d3, .slice b4 t.a.pl.length d4, .string t.b.log, .int .i64 t.b.size, .string t.b.root, .int .i64 t.b.time, .int .i64 t.b.k, .slice b5 t.b.el.length d5, .slice b6 t.b.pl.length d6, .slice b7 t.fl.length d7]) ∧ (t.In (.slice b0 t.en.length d0) (.slice b1 t.h.el.length d1) (.slice b2 t.h.pl.length d2) (.slice b3 t.a.el.length d3) (.slice b4 t.a.pl.length d4) (.slice b5 t.b.el.length d5) (.slice b6 t.b.pl.length d6) (.slice b7 t.fl.length d7) w' w'.heap.size ∧ Heads w' w'.heap.size (.slice bp np dp) l' ∧ l'.map Hv.x = l.map Hv.x) ∧ Below X.heap.size X w'
/-- The same, from a world on. -/
def ToW2 (t : Wt) (l : List Hv) (X : World) (e : Ending) (w' : World) : Prop := ToW t l X e w'
theorem toW_out (t : Wt) (l : List Hv) (v0 v1 v2 vp v3 v4 v5 v6 v7 : Value) (w : World) (h : t.Arg l v0 v1 v2 vp v3 v4 v5 v6 v7 w) (hf : t.Lens) (hl : HdsLim l) :
    Calls Tryz.prog 11 #[.agg #[.string t.log, .string t.key, v0, .string t.h.log, .int .i64 t.h.size, .string t.h.root, .int .i64 t.h.time, .int .i64 t.h.k, v1, v2, vp, .bool t.found, .string t.a.log, .int .i64 t.a.size, .string t.a.root, .int .i64 t.a.time, .int .i64 t.a.k, v3, v4, .string t.b.log, .int .i64 t.b.size, .string t.b.root, .int .i64 t.b.time, .int .i64 t.b.k, v5, v6, v7]] w fun e w' => ToW t l w e w' := by
  refine (toW_any t l v0 v1 v2 vp v3 v4 v5 v6 v7 w ⟨h.2.2.1.1, h.2.2.2.1.1, h.2.2.2.2.2.1.1, h.2.2.2.2.2.2.1.1, h.2.2.2.2.2.2.2.1⟩ h.2.2.2.2.1.1 hf hl).mono fun e w' hq => ?_
  obtain ⟨u0, u1, u2, up, u3, u4, u5, u6, u7, l', he, hi, hh, hm, hb⟩ := hq
  obtain ⟨b0, d0, rfl, _⟩ := id hi.1
  obtain ⟨b1, d1, b2, d2, rfl, rfl⟩ := hi.2.1.parts
  obtain ⟨b3, d3, b4, d4, rfl, rfl⟩ := hi.2.2.1.parts
  obtain ⟨b5, d5, b6, d6, rfl, rfl⟩ := hi.2.2.2.1.parts
  obtain ⟨b7, d7, rfl, _⟩ := id hi.2.2.2.2
  obtain ⟨⟨bp, dp, rfl, _⟩, _⟩ := id hh
  exact ⟨b0, d0, b1, d1, b2, d2, bp, _, dp, b3, d3, b4, d4, b5, d5, b6, d6, b7, d7, l', he, ⟨hi, hh, hm⟩, hb⟩
end Go.Proofs.YtpglcbidfghfkabGreatDoor

/-
  The walk of the exact law of Wants.
-/
namespace Go.Proofs.YtpglcbidfghfkabGreatDoor
open Go.RowKit Go.Lib
set_option linter.unusedVariables false
set_option linter.unusedSimpArgs false

theorem wantZ_map {l l' : List Hv} (h : l'.map Hv.x = l.map Hv.x) : wantZ l' = wantZ l := by
  cases l with
  | nil => simp at h; rw [h]
  | cons q r =>
    cases l' with
    | nil => simp at h
    | cons q' r' =>
      simp only [List.map_cons, List.cons.injEq] at h
      show q'.x.size = q.x.size
      rw [h.1]
def wantsB (t : Wt) (l : List Hv) : Int := if t.rightB l then wantZ l else 0
theorem wantsB_map {t : Wt} {l l' : List Hv} (h : l'.map Hv.x = l.map Hv.x) : wantsB t l' = wantsB t l := by
  unfold wantsB
  rw [Wt.rightB_map h, wantZ_map h]

set_option maxHeartbeats 4000000 in
set_option maxRecDepth 10000 in
theorem lawWants_any (t : Wt) (l : List Hv) (v0 v1 v2 vp v3 v4 v5 v6 v7 : Value) (w : World) (h : t.Arg l v0 v1 v2 vp v3 v4 v5 v6 v7 w) (hK : Keys w) (hS : Sentinel w) :
    Calls Tryz.prog 5 #[.agg #[.string t.log, .string t.key, v0, .string t.h.log, .int .i64 t.h.size, .string t.h.root, .int .i64 t.h.time, .int .i64 t.h.k, v1, v2, vp, .bool t.found, .string t.a.log, .int .i64 t.a.size, .string t.a.root, .int .i64 t.a.time, .int .i64 t.a.k, v3, v4, .string t.b.log, .int .i64 t.b.size, .string t.b.root, .int .i64 t.b.time, .int .i64 t.b.k, v5, v6, v7]] w fun e w' => e = .returned (.bool true) ∧ Below w.heap.size w w' := by
  obtain ⟨a0, c0, rfl, z0⟩ := id h.2.2.1.1
  obtain ⟨a1, c1, a2, c2, rfl, rfl⟩ := h.2.2.2.1.1.parts
  obtain ⟨⟨ap, cp, rfl, zp⟩, zq⟩ := id h.2.2.2.2.1.1
  obtain ⟨a3, c3, a4, c4, rfl, rfl⟩ := h.2.2.2.2.2.1.1.parts
  obtain ⟨a5, c5, a6, c6, rfl, rfl⟩ := h.2.2.2.2.2.2.1.1.parts
  obtain ⟨a7, c7, rfl, z7⟩ := id h.2.2.2.2.2.2.2.1
  clear z0 zp zq z7
  obtain ⟨W, hW⟩ : ∃ W, W = w.alloc (.cells #[.string t.log, .string t.key, .slice a0 t.en.length c0, .string t.h.log, .int .i64 t.h.size, .string t.h.root, .int .i64 t.h.time, .int .i64 t.h.k, .slice a1 t.h.el.length c1, .slice a2 t.h.pl.length c2, .slice ap l.length cp, .bool t.found, .string t.a.log, .int .i64 t.a.size, .string t.a.root, .int .i64 t.a.time, .int .i64 t.a.k, .slice a3 t.a.el.length c3, .slice a4 t.a.pl.length c4, .string t.b.log, .int .i64 t.b.size, .string t.b.root, .int .i64 t.b.time, .int .i64 t.b.k, .slice a5 t.b.el.length c5, .slice a6 t.b.pl.length c6, .slice a7 t.fl.length c7] 31) := ⟨_, rfl⟩
  have hbW : Below w.heap.size w W := by rw [hW]; exact (Below.refl _ _).alloc (Nat.le_refl _) _
  have k0 : W.heap[w.heap.size]? = some (.cells #[.string t.log, .string t.key, .slice a0 t.en.length c0, .string t.h.log, .int .i64 t.h.size, .string t.h.root, .int .i64 t.h.time, .int .i64 t.h.k, .slice a1 t.h.el.length c1, .slice a2 t.h.pl.length c2, .slice ap l.length cp, .bool t.found, .string t.a.log, .int .i64 t.a.size, .string t.a.root, .int .i64 t.a.time, .int .i64 t.a.k, .slice a3 t.a.el.length c3, .slice a4 t.a.pl.length c4, .string t.b.log, .int .i64 t.b.size, .string t.b.root, .int .i64 t.b.time, .int .i64 t.b.k, .slice a5 t.b.el.length c5, .slice a6 t.b.pl.length c6, .slice a7 t.fl.length c7] 31 (0, 0)) := by rw [hW]; exact heap_alloc_new w _
  have hKW : Keys W := hK.below hbW hK.lt
  have hSW : Sentinel W := hS.on hbW
  have hA := h.on hbW
  have hnums : t.Nums ∧ HdsNum l := ⟨⟨h.2.2.2.1.2.1, h.2.2.2.2.2.1.2.1, h.2.2.2.2.2.2.1.2.1⟩, fun j hj => (h.2.2.2.2.1.2.2 j hj).2.1⟩
  have ES : Hid (Calls Tryz.prog 8 #[.agg #[.string t.log, .string t.key, .slice a0 t.en.length c0, .string t.h.log, .int .i64 t.h.size, .string t.h.root, .int .i64 t.h.time, .int .i64 t.h.k, .slice a1 t.h.el.length c1, .slice a2 t.h.pl.length c2, .slice ap l.length cp, .bool t.found, .string t.a.log, .int .i64 t.a.size, .string t.a.root, .int .i64 t.a.time, .int .i64 t.a.k, .slice a3 t.a.el.length c3, .slice a4 t.a.pl.length c4, .string t.b.log, .int .i64 t.b.size, .string t.b.root, .int .i64 t.b.time, .int .i64 t.b.k, .slice a5 t.b.el.length c5, .slice a6 t.b.pl.length c6, .slice a7 t.fl.length c7], .int .i64 1048576] W fun e w' => ∃ r : Int, e = .returned (.int .i64 r) ∧ -1048577 ≤ r ∧ r ≤ 1048576 ∧ (r < 0 ∨ (t.Lens ∧ HdsLim l)) ∧ Below W.heap.size W w') := szW_any t l _ _ _ _ _ _ _ _ _ 1048576 W hA (by omega) (by omega)
  have ET : Hid (t.Lens → HdsLim l → ∀ X, Below W.heap.size W X → Calls Tryz.prog 11 #[.agg #[.string t.log, .string t.key, .slice a0 t.en.length c0, .string t.h.log, .int .i64 t.h.size, .string t.h.root, .int .i64 t.h.time, .int .i64 t.h.k, .slice a1 t.h.el.length c1, .slice a2 t.h.pl.length c2, .slice ap l.length cp, .bool t.found, .string t.a.log, .int .i64 t.a.size, .string t.a.root, .int .i64 t.a.time, .int .i64 t.a.k, .slice a3 t.a.el.length c3, .slice a4 t.a.pl.length c4, .string t.b.log, .int .i64 t.b.size, .string t.b.root, .int .i64 t.b.time, .int .i64 t.b.k, .slice a5 t.b.el.length c5, .slice a6 t.b.pl.length c6, .slice a7 t.fl.length c7]] X fun e w' => ToW t l X e w') := fun hf hl X q => toW_out t l _ _ _ _ _ _ _ _ _ X (hA.on q) hf hl
  have EW : Hid (t.Lens → HdsLim l → ∀ (u0 u1 u2 up u3 u4 u5 u6 u7 : Value) (l' : List Hv) X, Below W.heap.size W X → (t.In u0 u1 u2 u3 u4 u5 u6 u7 X X.heap.size ∧ Heads X X.heap.size up l' ∧ l'.map Hv.x = l.map Hv.x) → Calls Tryz.prog 27 #[.agg #[.string t.log, .string t.key, u0, .string t.h.log, .int .i64 t.h.size, .string t.h.root, .int .i64 t.h.time, .int .i64 t.h.k, u1, u2, up, .bool t.found, .string t.a.log, .int .i64 t.a.size, .string t.a.root, .int .i64 t.a.time, .int .i64 t.a.k, u3, u4, .string t.b.log, .int .i64 t.b.size, .string t.b.root, .int .i64 t.b.time, .int .i64 t.b.k, u5, u6, u7]] X fun e w' => e = .returned (.int .i64 (wantsB t l)) ∧ Below X.heap.size X w') := fun hf hl u0 u1 u2 up u3 u4 u5 u6 u7 l' X q hx => by
    rw [← wantsB_map hx.2.2]
    exact specWants_any t l' u0 u1 u2 up u3 u4 u5 u6 u7 X hx.1 hx.2.1 hf (hl.map hx.2.2) hnums.1 (hnums.2.map hx.2.2)
  have EI : Hid (t.Lens → HdsLim l → ∀ (u0 u1 u2 up u3 u4 u5 u6 u7 : Value) (l' : List Hv) X, Below W.heap.size W X → (t.In u0 u1 u2 u3 u4 u5 u6 u7 X X.heap.size ∧ Heads X X.heap.size up l' ∧ l'.map Hv.x = l.map Hv.x) → Calls Tryz.prog 28 #[.agg #[.string t.log, .string t.key, u0, .string t.h.log, .int .i64 t.h.size, .string t.h.root, .int .i64 t.h.time, .int .i64 t.h.k, u1, u2, up, .bool t.found, .string t.a.log, .int .i64 t.a.size, .string t.a.root, .int .i64 t.a.time, .int .i64 t.a.k, u3, u4, .string t.b.log, .int .i64 t.b.size, .string t.b.root, .int .i64 t.b.time, .int .i64 t.b.k, u5, u6, u7]] X fun e w' => e = .returned (.int .i64 (wantsB t l)) ∧ Below X.heap.size X w') := fun hf hl u0 u1 u2 up u3 u4 u5 u6 u7 l' X q hx => by
    rw [← wantsB_map hx.2.2]
    exact implWants_any t l' u0 u1 u2 up u3 u4 u5 u6 u7 X hx.1 hx.2.1 hf (hl.map hx.2.2) hnums.1 (hnums.2.map hx.2.2) (hKW.below q hKW.lt) (hSW.on q)
  have H0 : Hid (Below w.heap.size w W ∧ w.heap.size < W.heap.size ∧ W.heap[w.heap.size]? = some (.cells #[.string t.log, .string t.key, .slice a0 t.en.length c0, .string t.h.log, .int .i64 t.h.size, .string t.h.root, .int .i64 t.h.time, .int .i64 t.h.k, .slice a1 t.h.el.length c1, .slice a2 t.h.pl.length c2, .slice ap l.length cp, .bool t.found, .string t.a.log, .int .i64 t.a.size, .string t.a.root, .int .i64 t.a.time, .int .i64 t.a.k, .slice a3 t.a.el.length c3, .slice a4 t.a.pl.length c4, .string t.b.log, .int .i64 t.b.size, .string t.b.root, .int .i64 t.b.time, .int .i64 t.b.k, .slice a5 t.b.el.length c5, .slice a6 t.b.pl.length c6, .slice a7 t.fl.length c7] 31 (0, 0))) := ⟨hbW, (Array.getElem?_eq_some_iff.1 k0).1, k0⟩
  have HW : Hid (W = w.alloc (.cells #[.string t.log, .string t.key, .slice a0 t.en.length c0, .string t.h.log, .int .i64 t.h.size, .string t.h.root, .int .i64 t.h.time, .int .i64 t.h.k, .slice a1 t.h.el.length c1, .slice a2 t.h.pl.length c2, .slice ap l.length cp, .bool t.found, .string t.a.log, .int .i64 t.a.size, .string t.a.root, .int .i64 t.a.time, .int .i64 t.a.k, .slice a3 t.a.el.length c3, .slice a4 t.a.pl.length c4, .string t.b.log, .int .i64 t.b.size, .string t.b.root, .int .i64 t.b.time, .int .i64 t.b.k, .slice a5 t.b.el.length c5, .slice a6 t.b.pl.length c6, .slice a7 t.fl.length c7] 31)) := hW
  obtain ⟨bw, hbw⟩ : ∃ bw, bw = w.heap.size := ⟨_, rfl⟩
  have HBW : Hid (bw = w.heap.size) := hbw
  have r0 := k0
  rw [← hbw] at r0
  generalize wantsB t l = P at *
  clear h hK hS hbW k0 hKW hSW hA hnums hW hbw
  go_enter Tryz.func5, Tryz.ntmps5
  go_wp2_with (first | (rw [← HW.out, ← HBW.out]; refine wpList_load_row rfl 31 (.tmp 1) rfl bw rfl _ _ _ _ r0 Tryz.underlying31 rfl (by kernel_rfl) ?_))
  refine ES.out.mono ?_
  rintro e w1 ⟨r1, rfl, p0, p1, q1, hb1⟩
  have Q1 : Hid (r1 < 0 ∨ (t.Lens ∧ HdsLim l)) := q1
  have B1 : Hid (Below W.heap.size W w1) := hb1
  clear q1 hb1 ES HW r0
  by_cases hneg : r1 < 0
  · clear ET EW EI
    go_wp2
    go_ret
    exact ⟨rfl, H0.out.1.trans (B1.out.mono H0.out.1.size)⟩
  obtain ⟨hf, hl⟩ := Q1.out.resolve_left (by omega)
  have HF : Hid (t.Lens ∧ HdsLim l) := ⟨hf, hl⟩
  have ET1 : Hid (∀ X, Below W.heap.size W X → Calls Tryz.prog 11 #[.agg #[.string t.log, .string t.key, .slice a0 t.en.length c0, .string t.h.log, .int .i64 t.h.size, .string t.h.root, .int .i64 t.h.time, .int .i64 t.h.k, .slice a1 t.h.el.length c1, .slice a2 t.h.pl.length c2, .slice ap l.length cp, .bool t.found, .string t.a.log, .int .i64 t.a.size, .string t.a.root, .int .i64 t.a.time, .int .i64 t.a.k, .slice a3 t.a.el.length c3, .slice a4 t.a.pl.length c4, .string t.b.log, .int .i64 t.b.size, .string t.b.root, .int .i64 t.b.time, .int .i64 t.b.k, .slice a5 t.b.el.length c5, .slice a6 t.b.pl.length c6, .slice a7 t.fl.length c7]] X fun e w' => ToW t l X e w') := ET.out hf hl
  have EW1 : Hid _ := EW.out hf hl
  have EI1 : Hid _ := EI.out hf hl
  have HROW : Hid (∀ X, Below W.heap.size W X → X.heap[bw]? = some (.cells #[.string t.log, .string t.key, .slice a0 t.en.length c0, .string t.h.log, .int .i64 t.h.size, .string t.h.root, .int .i64 t.h.time, .int .i64 t.h.k, .slice a1 t.h.el.length c1, .slice a2 t.h.pl.length c2, .slice ap l.length cp, .bool t.found, .string t.a.log, .int .i64 t.a.size, .string t.a.root, .int .i64 t.a.time, .int .i64 t.a.k, .slice a3 t.a.el.length c3, .slice a4 t.a.pl.length c4, .string t.b.log, .int .i64 t.b.size, .string t.b.root, .int .i64 t.b.time, .int .i64 t.b.k, .slice a5 t.b.el.length c5, .slice a6 t.b.pl.length c6, .slice a7 t.fl.length c7] 31 (0, 0))) := fun X q => (q.block _ (by rw [HBW.out]; exact H0.out.2.1)).trans (by rw [HBW.out]; exact H0.out.2.2)
  clear ET EW EI hf hl Q1
  have r1 := HROW.out _ B1.out
  go_wp2_with (first | (refine wpList_load_row rfl 31 (.tmp 1) rfl bw rfl _ _ _ _ r1 Tryz.underlying31 rfl (by kernel_rfl) ?_))
  clear r1
  refine (ET1.out _ B1.out).mono ?_
  rintro e w2 ⟨b0, d0, b1, d1, b2, d2, bp, np, dp, b3, d3, b4, d4, b5, d5, b6, d6, b7, d7, l1, rfl, hin, hb⟩
  have B2 : Hid (Below W.heap.size W w2) := B1.out.trans (hb.mono B1.out.size)
  have E2 : Hid (Calls Tryz.prog 27 #[.agg #[.string t.log, .string t.key, .slice b0 t.en.length d0, .string t.h.log, .int .i64 t.h.size, .string t.h.root, .int .i64 t.h.time, .int .i64 t.h.k, .slice b1 t.h.el.length d1, .slice b2 t.h.pl.length d2, .slice bp np dp, .bool t.found, .string t.a.log, .int .i64 t.a.size, .string t.a.root, .int .i64 t.a.time, .int .i64 t.a.k, .slice b3 t.a.el.length d3, .slice b4 t.a.pl.length d4, .string t.b.log, .int .i64 t.b.size, .string t.b.root, .int .i64 t.b.time, .int .i64 t.b.k, .slice b5 t.b.el.length d5, .slice b6 t.b.pl.length d6, .slice b7 t.fl.length d7]] w2 fun e w' => e = .returned (.int .i64 P) ∧ Below w2.heap.size w2 w') := EW1.out _ _ _ _ _ _ _ _ _ l1 w2 B2.out hin
  clear hin hb B1 EW1
  go_wp2_with fail
  refine E2.out.mono ?_
  rintro e w3 ⟨rfl, hb⟩
  have B3 : Hid (Below W.heap.size W w3) := B2.out.trans (hb.mono B2.out.size)
  clear hb E2 B2
  have r1 := HROW.out _ B3.out
  go_wp2_with (first | (refine wpList_load_row rfl 31 (.tmp 1) rfl bw rfl _ _ _ _ r1 Tryz.underlying31 rfl (by kernel_rfl) ?_))
  clear r1
  refine (ET1.out _ B3.out).mono ?_
  rintro e w4 ⟨b0, d0, b1, d1, b2, d2, bp, np, dp, b3, d3, b4, d4, b5, d5, b6, d6, b7, d7, l2, rfl, hin, hb⟩
  obtain ⟨X5, hX5⟩ : ∃ X, X = w4.alloc (.cells #[.string t.log, .string t.key, .slice b0 t.en.length d0, .string t.h.log, .int .i64 t.h.size, .string t.h.root, .int .i64 t.h.time, .int .i64 t.h.k, .slice b1 t.h.el.length d1, .slice b2 t.h.pl.length d2, .slice bp np dp, .bool t.found, .string t.a.log, .int .i64 t.a.size, .string t.a.root, .int .i64 t.a.time, .int .i64 t.a.k, .slice b3 t.a.el.length d3, .slice b4 t.a.pl.length d4, .string t.b.log, .int .i64 t.b.size, .string t.b.root, .int .i64 t.b.time, .int .i64 t.b.k, .slice b5 t.b.el.length d5, .slice b6 t.b.pl.length d6, .slice b7 t.fl.length d7] 41) := ⟨_, rfl⟩
  obtain ⟨bx, hbx⟩ : ∃ g, g = w4.heap.size := ⟨_, rfl⟩
  have hal : Below w4.heap.size w4 X5 := by rw [hX5]; exact (Below.refl _ _).alloc (Nat.le_refl _) _
  have hb45 : Below w3.heap.size w3 X5 := hb.trans (hal.mono hb.size)
  have B5 : Hid (Below W.heap.size W X5 ∧ X5.heap[bx]? = some (.cells #[.string t.log, .string t.key, .slice b0 t.en.length d0, .string t.h.log, .int .i64 t.h.size, .string t.h.root, .int .i64 t.h.time, .int .i64 t.h.k, .slice b1 t.h.el.length d1, .slice b2 t.h.pl.length d2, .slice bp np dp, .bool t.found, .string t.a.log, .int .i64 t.a.size, .string t.a.root, .int .i64 t.a.time, .int .i64 t.a.k, .slice b3 t.a.el.length d3, .slice b4 t.a.pl.length d4, .string t.b.log, .int .i64 t.b.size, .string t.b.root, .int .i64 t.b.time, .int .i64 t.b.k, .slice b5 t.b.el.length d5, .slice b6 t.b.pl.length d6, .slice b7 t.fl.length d7] 41 (0, 0))) := ⟨B3.out.trans (hb45.mono B3.out.size), by rw [hX5, hbx]; exact heap_alloc_new w4 _⟩
  have I5 : Hid (t.In (.slice b0 t.en.length d0) (.slice b1 t.h.el.length d1) (.slice b2 t.h.pl.length d2) (.slice b3 t.a.el.length d3) (.slice b4 t.a.pl.length d4) (.slice b5 t.b.el.length d5) (.slice b6 t.b.pl.length d6) (.slice b7 t.fl.length d7) X5 X5.heap.size ∧ Heads X5 X5.heap.size (.slice bp np dp) l2 ∧ l2.map Hv.x = l.map Hv.x) := ⟨hin.1.on hal, hin.2.1.on hal, hin.2.2⟩
  have E5 : Hid (Calls Tryz.prog 28 #[.agg #[.string t.log, .string t.key, .slice b0 t.en.length d0, .string t.h.log, .int .i64 t.h.size, .string t.h.root, .int .i64 t.h.time, .int .i64 t.h.k, .slice b1 t.h.el.length d1, .slice b2 t.h.pl.length d2, .slice bp np dp, .bool t.found, .string t.a.log, .int .i64 t.a.size, .string t.a.root, .int .i64 t.a.time, .int .i64 t.a.k, .slice b3 t.a.el.length d3, .slice b4 t.a.pl.length d4, .string t.b.log, .int .i64 t.b.size, .string t.b.root, .int .i64 t.b.time, .int .i64 t.b.k, .slice b5 t.b.el.length d5, .slice b6 t.b.pl.length d6, .slice b7 t.fl.length d7]] X5 fun e w' => e = .returned (.int .i64 P) ∧ Below X5.heap.size X5 w') := EI1.out _ _ _ _ _ _ _ _ _ l2 X5 B5.out.1 I5.out
  have HX5 : Hid (X5 = w4.alloc (.cells #[.string t.log, .string t.key, .slice b0 t.en.length d0, .string t.h.log, .int .i64 t.h.size, .string t.h.root, .int .i64 t.h.time, .int .i64 t.h.k, .slice b1 t.h.el.length d1, .slice b2 t.h.pl.length d2, .slice bp np dp, .bool t.found, .string t.a.log, .int .i64 t.a.size, .string t.a.root, .int .i64 t.a.time, .int .i64 t.a.k, .slice b3 t.a.el.length d3, .slice b4 t.a.pl.length d4, .string t.b.log, .int .i64 t.b.size, .string t.b.root, .int .i64 t.b.time, .int .i64 t.b.k, .slice b5 t.b.el.length d5, .slice b6 t.b.pl.length d6, .slice b7 t.fl.length d7] 41)) := hX5
  have HBX : Hid (bx = w4.heap.size) := hbx
  have s5 := B5.out.2
  clear hin hb hX5 hbx hal hb45 B3 EI1
  go_wp2_with (first | (refine wpList_store_row rfl 41 (.tmp 5) (.tmp 16) rfl w4.heap.size _ rfl rfl _ _ (heap_alloc_new _ _) (by kernel_rfl) rfl (by simp [Value.oneCell']) ?_; rw [World.setRow_alloc_new, ← HX5.out, ← HBX.out]) | (refine wpList_load_row rfl 41 (.tmp 5) rfl bx rfl _ _ _ _ s5 Tryz.underlying41 rfl (by kernel_rfl) ?_))
  clear HX5 HBX s5
  refine E5.out.mono ?_
  rintro e X8 ⟨rfl, hb⟩
  have B8 : Hid (Below X5.heap.size X5 X8) := hb
  have HC : Hid (∀ Y, Below X8.heap.size X8 Y → Y.heap[bx]? = some (.cells #[.string t.log, .string t.key, .slice b0 t.en.length d0, .string t.h.log, .int .i64 t.h.size, .string t.h.root, .int .i64 t.h.time, .int .i64 t.h.k, .slice b1 t.h.el.length d1, .slice b2 t.h.pl.length d2, .slice bp np dp, .bool t.found, .string t.a.log, .int .i64 t.a.size, .string t.a.root, .int .i64 t.a.time, .int .i64 t.a.k, .slice b3 t.a.el.length d3, .slice b4 t.a.pl.length d4, .string t.b.log, .int .i64 t.b.size, .string t.b.root, .int .i64 t.b.time, .int .i64 t.b.k, .slice b5 t.b.el.length d5, .slice b6 t.b.pl.length d6, .slice b7 t.fl.length d7] 41 (0, 0)) ∧ Y.heap[bw]? = some (.cells #[.string t.log, .string t.key, .slice a0 t.en.length c0, .string t.h.log, .int .i64 t.h.size, .string t.h.root, .int .i64 t.h.time, .int .i64 t.h.k, .slice a1 t.h.el.length c1, .slice a2 t.h.pl.length c2, .slice ap l.length cp, .bool t.found, .string t.a.log, .int .i64 t.a.size, .string t.a.root, .int .i64 t.a.time, .int .i64 t.a.k, .slice a3 t.a.el.length c3, .slice a4 t.a.pl.length c4, .string t.b.log, .int .i64 t.b.size, .string t.b.root, .int .i64 t.b.time, .int .i64 t.b.k, .slice a5 t.b.el.length c5, .slice a6 t.b.pl.length c6, .slice a7 t.fl.length c7] 31 (0, 0))) := fun Y q => by
    have q5 : Below X5.heap.size X5 Y := B8.out.trans (q.mono B8.out.size)
    exact ⟨(q5.block _ (Array.getElem?_eq_some_iff.1 B5.out.2).1).trans B5.out.2, HROW.out _ (B5.out.1.trans (q5.mono B5.out.1.size))⟩
  have ET2 : Hid (∀ X, Below X8.heap.size X8 X → Calls Tryz.prog 11 #[.agg #[.string t.log, .string t.key, .slice a0 t.en.length c0, .string t.h.log, .int .i64 t.h.size, .string t.h.root, .int .i64 t.h.time, .int .i64 t.h.k, .slice a1 t.h.el.length c1, .slice a2 t.h.pl.length c2, .slice ap l.length cp, .bool t.found, .string t.a.log, .int .i64 t.a.size, .string t.a.root, .int .i64 t.a.time, .int .i64 t.a.k, .slice a3 t.a.el.length c3, .slice a4 t.a.pl.length c4, .string t.b.log, .int .i64 t.b.size, .string t.b.root, .int .i64 t.b.time, .int .i64 t.b.k, .slice a5 t.b.el.length c5, .slice a6 t.b.pl.length c6, .slice a7 t.fl.length c7]] X fun e w' => ToW2 t l X8 e w') := fun X q => (ET1.out X (B5.out.1.trans ((B8.out.trans (q.mono B8.out.size)).mono B5.out.1.size))).mono fun e w' h => by
    obtain ⟨b0, d0, b1, d1, b2, d2, bp, np, dp, b3, d3, b4, d4, b5, d5, b6, d6, b7, d7, l', he, hi, hb⟩ := h
    exact ⟨b0, d0, b1, d1, b2, d2, bp, np, dp, b3, d3, b4, d4, b5, d5, b6, d6, b7, d7, l', he, hi, q.trans (hb.mono q.size)⟩
  have EQ2 : Hid (∀ (e0 : Option Addr) (f0 : Nat) (e1 : Option Addr) (f1 : Nat) (e2 : Option Addr) (f2 : Nat) (ep : Option Addr) (mp fp : Nat) (e3 : Option Addr) (f3 : Nat) (e4 : Option Addr) (f4 : Nat) (e5 : Option Addr) (f5 : Nat) (e6 : Option Addr) (f6 : Nat) (e7 : Option Addr) (f7 : Nat) (l3 : List Hv) X, (t.In (.slice e0 t.en.length f0) (.slice e1 t.h.el.length f1) (.slice e2 t.h.pl.length f2) (.slice e3 t.a.el.length f3) (.slice e4 t.a.pl.length f4) (.slice e5 t.b.el.length f5) (.slice e6 t.b.pl.length f6) (.slice e7 t.fl.length f7) X X.heap.size ∧ Heads X X.heap.size (.slice ep mp fp) l3 ∧ l3.map Hv.x = l.map Hv.x) → Below X8.heap.size X8 X → Calls Tryz.prog 15 #[.agg #[.string t.log, .string t.key, .slice b0 t.en.length d0, .string t.h.log, .int .i64 t.h.size, .string t.h.root, .int .i64 t.h.time, .int .i64 t.h.k, .slice b1 t.h.el.length d1, .slice b2 t.h.pl.length d2, .slice bp np dp, .bool t.found, .string t.a.log, .int .i64 t.a.size, .string t.a.root, .int .i64 t.a.time, .int .i64 t.a.k, .slice b3 t.a.el.length d3, .slice b4 t.a.pl.length d4, .string t.b.log, .int .i64 t.b.size, .string t.b.root, .int .i64 t.b.time, .int .i64 t.b.k, .slice b5 t.b.el.length d5, .slice b6 t.b.pl.length d6, .slice b7 t.fl.length d7], .agg #[.string t.log, .string t.key, .slice e0 t.en.length f0, .string t.h.log, .int .i64 t.h.size, .string t.h.root, .int .i64 t.h.time, .int .i64 t.h.k, .slice e1 t.h.el.length f1, .slice e2 t.h.pl.length f2, .slice ep mp fp, .bool t.found, .string t.a.log, .int .i64 t.a.size, .string t.a.root, .int .i64 t.a.time, .int .i64 t.a.k, .slice e3 t.a.el.length f3, .slice e4 t.a.pl.length f4, .string t.b.log, .int .i64 t.b.size, .string t.b.root, .int .i64 t.b.time, .int .i64 t.b.k, .slice e5 t.b.el.length f5, .slice e6 t.b.pl.length f6, .slice e7 t.fl.length f7]] X fun e w' => e = .returned (.bool true) ∧ Below X8.heap.size X8 w') := fun e0 f0 e1 f1 e2 f2 ep mp fp e3 f3 e4 f4 e5 f5 e6 f6 e7 f7 l3 X hx q => by
    have q5 : Below X5.heap.size X5 X := B8.out.trans (q.mono B8.out.size)
    refine (eqW_any t _ _ _ _ _ _ _ _ _ _ _ _ _ _ _ _ _ _ _ _ _ _ _ _ _ _ _ _ _ _ _ _ bp ep np dp mp fp X (I5.out.1.on q5) hx.1 HF.out.1 (fun Y qy => ?_)).mono fun e w' h => ⟨h.1, q.trans (h.2.mono q.size)⟩
    have hl2 := HF.out.2.map I5.out.2.2
    exact eqHeads_any _ _ l2 l3 Y ((I5.out.2.1.on q5).on qy) (hx.2.1.on qy) (I5.out.2.2.trans hx.2.2.symm) hl2.1 hl2.2
  clear hb E5
  have hPP : (P == P) = true := by simp
  have hPQ : (P != P) = false := by simp
  go_wp2_with fail
  refine wp_region_held_drew (S := (fun Y => Y.heap[bx]? = some (.cells #[.string t.log, .string t.key, .slice b0 t.en.length d0, .string t.h.log, .int .i64 t.h.size, .string t.h.root, .int .i64 t.h.time, .int .i64 t.h.k, .slice b1 t.h.el.length d1, .slice b2 t.h.pl.length d2, .slice bp np dp, .bool t.found, .string t.a.log, .int .i64 t.a.size, .string t.a.root, .int .i64 t.a.time, .int .i64 t.a.k, .slice b3 t.a.el.length d3, .slice b4 t.a.pl.length d4, .string t.b.log, .int .i64 t.b.size, .string t.b.root, .int .i64 t.b.time, .int .i64 t.b.k, .slice b5 t.b.el.length d5, .slice b6 t.b.pl.length d6, .slice b7 t.fl.length d7] 41 (0, 0)) ∧ Y.heap[bw]? = some (.cells #[.string t.log, .string t.key, .slice a0 t.en.length c0, .string t.h.log, .int .i64 t.h.size, .string t.h.root, .int .i64 t.h.time, .int .i64 t.h.k, .slice a1 t.h.el.length c1, .slice a2 t.h.pl.length c2, .slice ap l.length cp, .bool t.found, .string t.a.log, .int .i64 t.a.size, .string t.a.root, .int .i64 t.a.time, .int .i64 t.a.k, .slice a3 t.a.el.length c3, .slice a4 t.a.pl.length c4, .string t.b.log, .int .i64 t.b.size, .string t.b.root, .int .i64 t.b.time, .int .i64 t.b.k, .slice a5 t.b.el.length c5, .slice a6 t.b.pl.length c6, .slice a7 t.fl.length c7] 31 (0, 0)))) (by kernel_rfl) ?_ (fun hHeld => ?_)
  · exact HC.out _ (below_drew' (Below.refl _ _))
  refine wpAnyH_take (i := 0) (v := .agg #[.string t.log, .string t.key, .slice b0 t.en.length d0, .string t.h.log, .int .i64 t.h.size, .string t.h.root, .int .i64 t.h.time, .int .i64 t.h.k, .slice b1 t.h.el.length d1, .slice b2 t.h.pl.length d2, .slice bp np dp, .bool t.found, .string t.a.log, .int .i64 t.a.size, .string t.a.root, .int .i64 t.a.time, .int .i64 t.a.k, .slice b3 t.a.el.length d3, .slice b4 t.a.pl.length d4, .string t.b.log, .int .i64 t.b.size, .string t.b.root, .int .i64 t.b.time, .int .i64 t.b.k, .slice b5 t.b.el.length d5, .slice b6 t.b.pl.length d6, .slice b7 t.fl.length d7]) rfl (by kernel_rfl) (by kernel_rfl) (by kernel_rfl) (fun _ _ _ h => h) (yieldsIf_load_mid (by kernel_rfl) 41 (.tmp 5) rfl bx 0 rfl [.string t.log, .string t.key, .slice b0 t.en.length d0, .string t.h.log, .int .i64 t.h.size, .string t.h.root, .int .i64 t.h.time, .int .i64 t.h.k, .slice b1 t.h.el.length d1, .slice b2 t.h.pl.length d2, .slice bp np dp, .bool t.found, .string t.a.log, .int .i64 t.a.size, .string t.a.root, .int .i64 t.a.time, .int .i64 t.a.k, .slice b3 t.a.el.length d3, .slice b4 t.a.pl.length d4, .string t.b.log, .int .i64 t.b.size, .string t.b.root, .int .i64 t.b.time, .int .i64 t.b.k, .slice b5 t.b.el.length d5, .slice b6 t.b.pl.length d6, .slice b7 t.fl.length d7] _ (fun _ h => row_range h.1) Tryz.underlying41 rfl (by kernel_rfl)) (by assumption) ?_
  (try simp only [Act.put, List.setIfInBounds_toArray, List.set_cons_zero, List.set_cons_succ])
  refine wpAnyH_take (i := 1) (v := .agg #[.string t.log, .string t.key, .slice a0 t.en.length c0, .string t.h.log, .int .i64 t.h.size, .string t.h.root, .int .i64 t.h.time, .int .i64 t.h.k, .slice a1 t.h.el.length c1, .slice a2 t.h.pl.length c2, .slice ap l.length cp, .bool t.found, .string t.a.log, .int .i64 t.a.size, .string t.a.root, .int .i64 t.a.time, .int .i64 t.a.k, .slice a3 t.a.el.length c3, .slice a4 t.a.pl.length c4, .string t.b.log, .int .i64 t.b.size, .string t.b.root, .int .i64 t.b.time, .int .i64 t.b.k, .slice a5 t.b.el.length c5, .slice a6 t.b.pl.length c6, .slice a7 t.fl.length c7]) rfl (by kernel_rfl) (by kernel_rfl) (by kernel_rfl) (fun _ _ _ h => h) (yieldsIf_load_mid (by kernel_rfl) 31 (.tmp 1) rfl bw 0 rfl [.string t.log, .string t.key, .slice a0 t.en.length c0, .string t.h.log, .int .i64 t.h.size, .string t.h.root, .int .i64 t.h.time, .int .i64 t.h.k, .slice a1 t.h.el.length c1, .slice a2 t.h.pl.length c2, .slice ap l.length cp, .bool t.found, .string t.a.log, .int .i64 t.a.size, .string t.a.root, .int .i64 t.a.time, .int .i64 t.a.k, .slice a3 t.a.el.length c3, .slice a4 t.a.pl.length c4, .string t.b.log, .int .i64 t.b.size, .string t.b.root, .int .i64 t.b.time, .int .i64 t.b.k, .slice a5 t.b.el.length c5, .slice a6 t.b.pl.length c6, .slice a7 t.fl.length c7] _ (fun _ h => row_range h.2) Tryz.underlying31 rfl (by kernel_rfl)) (by assumption) ?_
  (try simp only [Act.put, List.setIfInBounds_toArray, List.set_cons_zero, List.set_cons_succ])
  refine wpAnyH_ready (rs := [2]) (by kernel_rfl) (by simp) ?_
  refine AllReadyH.cons (by simp only [List.getElem?_toArray, List.getElem?_cons_succ, List.getElem?_cons_zero]; rfl) (fun K hK => ?_) AllReadyH.nil
  go_simp
  go_at_call 11; (with_reducible refine (ET2.out _ ?_).mono ?_); exact below_drew' (Below.refl _ _); rintro e wy ⟨e0, f0, e1, f1, e2, f2, ep, mp, fp, e3, f3, e4, f4, e5, f5, e6, f6, e7, f7, l3, rfl, hy⟩; have HY : Hid ((t.In (.slice e0 t.en.length f0) (.slice e1 t.h.el.length f1) (.slice e2 t.h.pl.length f2) (.slice e3 t.a.el.length f3) (.slice e4 t.a.pl.length f4) (.slice e5 t.b.el.length f5) (.slice e6 t.b.pl.length f6) (.slice e7 t.fl.length f7) wy wy.heap.size ∧ Heads wy wy.heap.size (.slice ep mp fp) l3 ∧ l3.map Hv.x = l.map Hv.x) ∧ Below X8.heap.size X8 wy) := hy; clear hy
  go_wp2_with fail
  refine hK.out _ _ ?_ (fun hHeld => ?_)
  · exact HC.out _ HY.out.2
  clear hK K
  (try simp only [Act.put, List.setIfInBounds_toArray, List.set_cons_zero, List.set_cons_succ])
  refine wpAnyH_ready (rs := [3]) (by kernel_rfl) (by simp) ?_
  refine AllReadyH.cons (by simp only [List.getElem?_toArray, List.getElem?_cons_succ, List.getElem?_cons_zero]; rfl) (fun K hK => ?_) AllReadyH.nil
  go_simp
  go_at_call 15; (with_reducible refine (EQ2.out _ _ _ _ _ _ _ _ _ _ _ _ _ _ _ _ _ _ _ _ _ HY.out.1 HY.out.2).mono ?_); rintro e wz ⟨rfl, hz⟩; have HZ : Hid (Below X8.heap.size X8 wz) := hz; clear hz
  go_wp2_with fail
  refine hK.out _ _ ?_ (fun hHeld => ?_)
  · exact HC.out _ HZ.out
  clear hK K
  (try simp only [Act.put, List.setIfInBounds_toArray, List.set_cons_zero, List.set_cons_succ])
  refine wpAnyH_take (i := 4) (v := ?_) rfl (by kernel_rfl) (by kernel_rfl) (by kernel_rfl) (fun _ _ _ h => h) (Or.inl ⟨by kernel_rfl, ?_⟩) (by assumption) ?_
  rotate_left
  · (intro w' hSw; clear hSw; go_simp; (try with_reducible rfl))
  (try simp only [Act.put, List.setIfInBounds_toArray, List.set_cons_zero, List.set_cons_succ])
  refine wpAnyH_done (by kernel_rfl) ?_ _
  go_simp
  clear hHeld HC ET2 EQ2
  go_wp2
  go_ret
  exact ⟨rfl, H0.out.1.trans ((B5.out.1.trans ((B8.out.trans (HZ.out.mono B8.out.size)).mono B5.out.1.size)).mono H0.out.1.size)⟩
end Go.Proofs.YtpglcbidfghfkabGreatDoor
